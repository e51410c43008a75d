/- Package codec (PARTS). -/
import Derived.Test.YtkejidmomnmdbaaDoorC4
namespace Go.Proofs.YtkejidmomnmdbaaDoor
open Go.RowKit

def textS (s : List UInt8) (err most : Int) : List UInt8 × List UInt8 × Int :=
  rawS (numS s err (max most 0)).2.1 (numS s err (max most 0)).2.2 (numS s err (max most 0)).1

theorem failS_len (s : List UInt8) (err e : Int) : (failS s err e).1.length ≤ s.length := by unfold failS; split <;> simp
theorem numS_len (s : List UInt8) (err most : Int) : (numS s err most).2.1.length ≤ s.length := by
  unfold numS; split
  · exact failS_len _ _ _
  · split
    · exact failS_len _ _ _
    · simp

set_option maxHeartbeats 400000 in
theorem intext_any (b : Nat) (s : List UInt8) (err most : Int) (w : World) (h : InAt 175 w b s err) (hl : s.length ≤ 1099511627776) :
    Calls Tryd.prog 78 #[.pointer (some ⟨b, 0, none⟩), .int .i64 most] w (InPost 175 b (.string ⟨(textS s err most).1.toArray⟩) (textS s err most).2 w) := by
  have hlen := numS_len s err (max most 0)
  have Hn : Hid (∀ w, InAt 175 w b s err → Calls Tryd.prog 135 #[.pointer (some ⟨b, 0, none⟩), .int .i64 (max most 0)] w (InPost 175 b (.int .i64 (numS s err (max most 0)).1) (numS s err (max most 0)).2 w)) := Lib.hid (fun w h => innum_any b s err (max most 0) w h hl)
  unfold textS
  generalize numS s err (max most 0) = p at Hn hlen ⊢
  obtain ⟨x, s1, e1⟩ := p
  simp only at hlen
  go_enter Tryd.func78, Tryd.ntmps78
  go_wp2_with fail
  refine (Hn.out _ h).mono ?_
  rintro r w1 ⟨rfl, hI, hMd⟩
  go_wp2_with fail
  refine (inraw_any b s1 e1 x w1 hI (by omega)).mono ?_
  rintro r w2 ⟨rfl, hI2, hM2⟩
  go_wp2_with fail
  go_ret
  exact ⟨rfl, hI2, hMd.trans hM2 (fun _ _ h => h)⟩

set_option maxHeartbeats 400000 in
theorem end_any (b : Nat) (s : List UInt8) (e : Int) (w : World) (h : InAt 175 w b s e) :
    Calls Tryd.prog 82 #[.pointer (some ⟨b, 0, none⟩)] w fun r w' => r = .returned (.int .i64 (if s = [] then e else 3)) ∧ w = w' := by
  have h0 := h.c0
  have h1 := h.c1
  rcases s with _ | ⟨c, s⟩
  · go_enter Tryd.func82, Tryd.ntmps82
    go_wp2
    go_ret
    exact ⟨rfl, rfl⟩
  · go_enter Tryd.func82, Tryd.ntmps82
    go_wp2
    go_ret
    exact ⟨rfl, rfl⟩

set_option maxHeartbeats 400000 in
theorem refnum_any (x : Int) (w : World) (hlo : -9223372036854775808 ≤ x) (hhi : x ≤ 9223372036854775807) :
    Calls Tryd.prog 100 #[.int .i64 x] w fun r w' => r = .returned (.string ⟨(numL x).toArray⟩) ∧ Below w.heap.size w w' := by
  have hcv := convLit1 (P := Tryd.prog) 27 9 5 Tryd.underlying27 Tryd.underlying5 Tryd.underlying9
  unfold numL
  go_enter Tryd.func100, Tryd.ntmps100
  go_upto_region 1 with fail
  go_cut [0] (fun s0 wx => ∃ m : Nat, s0 = .int .i64 m ∧ x.toNat = m ∧ w = wx)
  case first =>
    by_cases hxx : 0 ≤ x
    · obtain ⟨m, rfl⟩ := Int.eq_ofNat_of_zero_le hxx
      go_wp2_with fail
      go_meet
      exact ⟨m, rfl, rfl, rfl⟩
    · go_wp2_with fail
      go_meet
      exact ⟨0, by go_num, by omega, rfl⟩
  case rest =>
  obtain ⟨n, rfl, hn, rfl⟩ := hcut
  have h0 : (0 : Int) ≤ n := by omega
  have hn' : (n : Int) ≤ 9223372036854775807 := by omega
  have hln := beBytes_len 8 n (by simp; omega)
  have Hn := Lib.hid hn
  clear hn hlo hhi
  go_wp2
  go_loopw [0, 3] (fun x s wr => ∃ (m : Nat) (l : List UInt8), m ≤ n ∧ x = .int .i64 m ∧ s = .string ⟨l.toArray⟩ ∧ beBytes m ++ l = beBytes n ∧ Below w.heap.size w wr)
    (fun x _ _ => (intOf x).toNat)
  case atStart => exact ⟨n, [], by omega, rfl, rfl, by simp, Below.refl _ _⟩
  case round =>
    obtain ⟨m, l, hm, rfl, rfl, hl, hb⟩ := hrel
    have hll : l.length ≤ 8 := by have := congrArg List.length hl; simp at this; omega
    have hbs := hb.size
    have Hl := Lib.hid hl
    clear hl
    by_cases hp : 0 < m
    · go_wp2
      go_roundw
      case rel => exact ⟨m / 256, UInt8.ofNat (m % 256) :: l, by omega, by go_num, val_str (by rw [← bapp1]; rfl), by rw [← Hl.out, beBytes_pos m hp]; simp, hb.alloc (by omega) _⟩
      case measure => simp [intOf]; omega
    · obtain rfl : m = 0 := by omega
      go_wp2
      go_ret
      have e := Hl.out
      rw [beBytes_zero] at e
      simp at e
      subst e
      exact ⟨by rw [Hn.out]; exact ret_str (bapp1 _ _), hb.alloc (by omega) _⟩

set_option maxHeartbeats 400000 in
theorem reftext_any (s : List UInt8) (w : World) (hl : s.length ≤ 1099511627776) :
    Calls Tryd.prog 101 #[.string ⟨s.toArray⟩] w fun r w' => r = .returned (.string ⟨(numL s.length ++ s).toArray⟩) ∧ Below w.heap.size w w' := by
  have hn := numL_len s.length (by omega)
  go_enter Tryd.func101, Tryd.ntmps101
  go_wp2_with fail
  refine (refnum_any s.length _ (by omega) (by omega)).mono ?_
  rintro r w1 ⟨rfl, hb⟩
  go_wp2_with fail
  rw [ByteArray.mk_append_mk]
  go_ret
  exact ⟨rfl, hb⟩

set_option maxHeartbeats 400000 in
theorem cut_any (s : List UInt8) (n : Nat) (w : World) (_hl : (s.length : Int) ≤ 9223372036854775807) (_hn : (n : Int) ≤ 9223372036854775807) :
    Calls Tryd.prog 20 #[.string ⟨s.toArray⟩, .int .i64 n] w fun r w' => r = .returned (.string ⟨(s.take n).toArray⟩) ∧ w = w' := by
  have h0 : (0 : Int) ≤ n := by omega
  by_cases h : n < s.length
  · go_enter Tryd.func20, Tryd.ntmps20
    go_wp2_with fail
    rw [extract_head]
    go_ret
    exact ⟨rfl, rfl⟩
  · have e : s.take n = s := List.take_of_length_le (by omega)
    rw [e]
    clear e
    go_enter Tryd.func20, Tryd.ntmps20
    go_wp2_with fail
    go_ret
    exact ⟨rfl, rfl⟩

end Go.Proofs.YtkejidmomnmdbaaDoor
