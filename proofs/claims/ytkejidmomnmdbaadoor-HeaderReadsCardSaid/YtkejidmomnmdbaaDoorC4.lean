/- Package codec (PARTS). -/
import Derived.Test.YtkejidmomnmdbaaDoorC3
namespace Go.Proofs.YtkejidmomnmdbaaDoor
open Go.RowKit

/-- Block b is an In: what is left, the first error. -/
def InAt (T : TypeId) (w : World) (b : Nat) (s : List UInt8) (e : Int) : Prop := w.heap[b]? = some (.cells #[.string ⟨s.toArray⟩, .int .i64 e] T (0, 0))
theorem InAt.c0 {T : TypeId} {w : World} {b : Nat} {s : List UInt8} {e : Int} (h : InAt T w b s e) : w.cell? ⟨b, 0, none⟩ = some (.string ⟨s.toArray⟩) := by unfold World.cell?; rw [show w.heap[b]? = _ from h]; rfl
theorem InAt.c1 {T : TypeId} {w : World} {b : Nat} {s : List UInt8} {e : Int} (h : InAt T w b s e) : w.cell? ⟨b, 1, none⟩ = some (.int .i64 e) := by unfold World.cell?; rw [show w.heap[b]? = _ from h]; rfl
theorem InAt.f {T : TypeId} {w : World} {b : Nat} {s : List UInt8} {e : Int} (h : InAt T w b s e) (o : Nat) : w.frozen? ⟨b, o, none⟩ = false := frozen_of_row w b o _ _ h
theorem InAt.lt {T : TypeId} {w : World} {b : Nat} {s : List UInt8} {e : Int} (h : InAt T w b s e) : b < w.heap.size := (Array.getElem?_eq_some_iff.1 h).1
theorem InAt.set0 {T : TypeId} {w : World} {b : Nat} {s : List UInt8} {e : Int} (h : InAt T w b s e) (s' : List UInt8) : InAt T (w.setCell ⟨b, 0, none⟩ (.string ⟨s'.toArray⟩)) b s' e := by
  have := heap_setCell_same w b 0 _ T (.string ⟨s'.toArray⟩) h
  exact this
theorem InAt.set1 {T : TypeId} {w : World} {b : Nat} {s : List UInt8} {e : Int} (h : InAt T w b s e) (e' : Int) : InAt T (w.setCell ⟨b, 1, none⟩ (.int .i64 e')) b s e' := by
  have := heap_setCell_same w b 1 _ T (.int .i64 e') h
  exact this
theorem InAt.kept {T : TypeId} {w w' : World} {b : Nat} {s : List UInt8} {e : Int} {S : Nat → Prop} (h : InAt T w b s e) (hm : Mod S w w') (hb : ¬ S b) : InAt T w' b s e := (hm.block b h.lt hb).trans h

def failS (s : List UInt8) (err e : Int) : List UInt8 × Int := if e = 0 ∨ err ≠ 0 then (s, err) else ([], e)

def InPost (T : TypeId) (b : Nat) (v : Value) (p : List UInt8 × Int) (w : World) (r : Ending) (w' : World) : Prop := r = .returned v ∧ InAt T w' b p.1 p.2 ∧ Mod (· = b) w w'

set_option maxHeartbeats 400000 in
theorem fail_any (b : Nat) (s : List UInt8) (err e : Int) (w : World) (h : InAt 175 w b s err) :
    Calls Tryd.prog 136 #[.pointer (some ⟨b, 0, none⟩), .int .i64 e] w (InPost 175 b (.tuple #[]) (failS s err e) w) := by
  have h0 := h.c0
  have h1 := h.c1
  have f0 := h.f 0
  have f1 := h.f 1
  by_cases he : e = 0
  · have hfin : failS s err e = (s, err) := by simp [failS, he]
    have t : (e == 0) = true := by simp [he]
    have Hp : Hid (InPost 175 b (.tuple #[]) (failS s err e) w (.returned (.tuple #[])) w) := Lib.hid (by rw [hfin]; exact ⟨rfl, h, Mod.refl _ _⟩)
    clear he hfin h
    go_enter Tryd.func136, Tryd.ntmps136
    go_wp2
    go_end0
    exact Hp.out
  have t : (e == 0) = false := by simp [he]
  by_cases hr : err = 0
  · have hfin : failS s err e = ([], e) := by simp [failS, he, hr]
    have t2 : (err != 0) = false := by simp [hr]
    have Hp : Hid (InPost 175 b (.tuple #[]) (failS s err e) w (.returned (.tuple #[])) ((w.setCell ⟨b, 1, none⟩ (.int .i64 e)).setCell ⟨b, 0, none⟩ (.string ⟨#[]⟩))) :=
      Lib.hid (by rw [hfin]; exact ⟨rfl, (h.set1 e).set0 [], ((Mod.refl (· = b) _).setCell (p := ⟨b, 1, none⟩) (fun _ => rfl) _).setCell (p := ⟨b, 0, none⟩) (fun _ => rfl) _⟩)
    clear he hr hfin h
    go_enter Tryd.func136, Tryd.ntmps136
    go_wp2
    go_end0
    exact Hp.out
  · have hfin : failS s err e = (s, err) := by simp [failS, hr]
    have t2 : (err != 0) = true := by simp [hr]
    have Hp : Hid (InPost 175 b (.tuple #[]) (failS s err e) w (.returned (.tuple #[])) w) := Lib.hid (by rw [hfin]; exact ⟨rfl, h, Mod.refl _ _⟩)
    clear he hr hfin h
    go_enter Tryd.func136, Tryd.ntmps136
    go_wp2
    go_end0
    exact Hp.out

theorem extract_end (s : List UInt8) (k : Nat) : (ByteArray.mk s.toArray).extract k s.length = ⟨(s.drop k).toArray⟩ := by
  rw [ByteArray.extract_mk, List.take_of_length_le (by simp)]
theorem extract_head (s : List UInt8) (k : Nat) : (ByteArray.mk s.toArray).extract 0 k = ⟨(s.take k).toArray⟩ := by
  rw [ByteArray.extract_mk]; simp

/-- What In.Num answers, and leaves. -/
def numS (s : List UInt8) (err most : Int) : Int × List UInt8 × Int :=
  if (headL s).2.2 ≠ 0 then (0, failS s err (headL s).2.2)
  else if most < (headL s).1 then (0, failS s err 4) else ((headL s).1, s.drop (headL s).2.1, err)

theorem headL_ok (s : List UInt8) (h : (headL s).2.2 = 0) : (headL s).2.1 ≤ s.length := by
  unfold headL at h ⊢
  split
  · simp at h
  · rename_i c r
    simp only at h ⊢
    split
    · simp
    · rename_i h0
      rw [if_neg h0] at h
      split
      · rename_i h1; rw [if_pos h1] at h; simp at h
      · rename_i h1
        rw [if_neg h1] at h
        split
        · simp at h
        · rename_i d r
          simp only at h ⊢
          split
          · rename_i h2; rw [if_pos h2] at h; simp at h
          · rename_i h2
            rw [if_neg h2] at h
            split
            · rename_i h3; rw [if_pos h3] at h; simp at h
            · rename_i h3
              split
              · simp
              · simp at h3 ⊢; omega
theorem headL_err (s : List UInt8) : (headL s).2.2 = 0 ∨ (headL s).2.2 = 2 ∨ (headL s).2.2 = 3 := by
  unfold headL
  repeat' split
  all_goals simp
theorem headL_max (s : List UInt8) : (headL s).1 ≤ 9223372036854775807 := by
  unfold headL
  repeat' split
  all_goals first | (simp; done) | (simp only; omega)

set_option maxHeartbeats 400000 in
theorem innum_any (b : Nat) (s : List UInt8) (err most : Int) (w : World) (h : InAt 175 w b s err) (hl : s.length ≤ 1099511627776) :
    Calls Tryd.prog 135 #[.pointer (some ⟨b, 0, none⟩), .int .i64 most] w (InPost 175 b (.int .i64 (numS s err most).1) (numS s err most).2 w) := by
  have h0 := h.c0
  have h1 := h.c1
  have f0 := h.f 0
  obtain ⟨hx, hxe⟩ : ∃ x, x = headL s := ⟨_, rfl⟩
  obtain ⟨x, k, e⟩ := hx
  have hk := headL_ok s
  have hme := headL_max s
  have hee := headL_err s
  rw [← hxe] at hk hme hee
  simp only at hk hme hee
  have Hnum : Hid (∀ w : World, Calls Tryd.prog 157 #[.string ⟨s.toArray⟩] w fun r w' => r = .returned (.tuple #[.int .i64 x, .int .i64 k, .int .i64 e]) ∧ w = w') := Lib.hid (fun w => by
    have := number_any s w hl
    rw [← hxe] at this
    exact this)
  have hfin : numS s err most = if e ≠ 0 then (0, failS s err e) else if most < x then (0, failS s err 4) else ((x : Int), s.drop k, err) := by unfold numS; rw [← hxe]
  clear hxe hee
  have hx0 : (0 : Int) ≤ x := by omega
  by_cases he : e = 0
  · have hkl := hk he
    subst he
    clear hk
    by_cases hm : most < x
    · rw [if_neg (by simp), if_pos hm] at hfin
      have Hfin := Lib.hid hfin
      clear hfin
      go_enter Tryd.func135, Tryd.ntmps135
      go_wp2_with fail
      refine (Hnum.out _).mono ?_
      rintro r w' ⟨rfl, rfl⟩
      go_wp2_with fail
      refine (fail_any b s err 4 w h).mono ?_
      rintro r w1 ⟨rfl, hI, hM⟩
      go_wp2_with fail
      go_ret
      exact ⟨by rw [Hfin.out]; rfl, by rw [Hfin.out]; exact hI, hM⟩
    · rw [if_neg (by simp), if_neg hm] at hfin
      have Hp : Hid (InPost 175 b (.int .i64 (numS s err most).1) (numS s err most).2 w (.returned (.int .i64 x)) (w.setCell ⟨b, 0, none⟩ (.string ⟨(s.drop k).toArray⟩))) :=
        Lib.hid (by rw [hfin]; exact ⟨rfl, h.set0 _, (Mod.refl (· = b) _).setCell (p := ⟨b, 0, none⟩) (fun _ => rfl) _⟩)
      clear hfin
      go_enter Tryd.func135, Tryd.ntmps135
      go_wp2_with fail
      refine (Hnum.out _).mono ?_
      rintro r w' ⟨rfl, rfl⟩
      go_wp2_with fail
      rw [extract_end]
      go_ret
      exact Hp.out
  · rw [if_pos he] at hfin
    have Hfin := Lib.hid hfin
    have t1 : (e == 0) = false := by simp [he]
    have t2 : (e != 0) = true := by simp [he]
    clear hfin hk he
    go_enter Tryd.func135, Tryd.ntmps135
    go_wp2_with fail
    refine (Hnum.out _).mono ?_
    rintro r w' ⟨rfl, rfl⟩
    go_wp2_with fail
    refine (fail_any b s err e w h).mono ?_
    rintro r w1 ⟨rfl, hI, hM⟩
    go_wp2_with fail
    go_ret
    exact ⟨by rw [Hfin.out]; rfl, by rw [Hfin.out]; exact hI, hM⟩

set_option maxHeartbeats 400000 in
theorem clone_any (s : List UInt8) (w : World) (hl : s.length ≤ 281474976710656) :
    Calls Tryd.prog 127 #[.string ⟨s.toArray⟩] w fun r w' => r = .returned (.string ⟨s.toArray⟩) ∧ Below w.heap.size w w' := by
  go_enter Tryd.func127, Tryd.ntmps127
  go_wp2_with fail
  refine (Tryd.stringslite_Clone ⟨s.toArray⟩ _ (by simpa [ByteArray.size] using hl)).mono ?_
  rintro r w1 ⟨rfl, hb⟩
  go_wp2_with fail
  go_ret
  exact ⟨rfl, hb⟩

set_option maxHeartbeats 400000 in
theorem of_any (s : List UInt8) (w : World) (hl : s.length ≤ 281474976710656) :
    Calls Tryd.prog 76 #[.string ⟨s.toArray⟩] w fun r w' => ∃ b, r = .returned (.pointer (some ⟨b, 0, none⟩)) ∧ w.heap.size ≤ b ∧ InAt 175 w' b s 0 ∧ Below w.heap.size w w' := by
  go_enter Tryd.func76, Tryd.ntmps76
  go_wp2_with fail
  refine (clone_any s _ hl).mono ?_
  rintro r w1 ⟨rfl, hb⟩
  have hs := hb.size
  have Hp : Hid (w.heap.size ≤ w1.heap.size ∧ InAt 175 (w1.alloc (.cells #[.string ⟨s.toArray⟩, .int .i64 0] 175)) w1.heap.size s 0 ∧ Below w.heap.size w (w1.alloc (.cells #[.string ⟨s.toArray⟩, .int .i64 0] 175))) :=
    Lib.hid ⟨hs, heap_alloc_new _ _, hb.alloc hs _⟩
  clear hb hs
  go_wp2_with fail
  go_ret
  exact ⟨_, rfl, Hp.out⟩

/-- What In.Raw answers, and leaves. -/
def rawS (s : List UInt8) (err n : Int) : List UInt8 × List UInt8 × Int :=
  if (s.length : Int) < n then ([], failS s err 2) else (s.take n.toNat, s.drop n.toNat, err)

def InPostN (T : TypeId) (b : Nat) (v : Value) (p : List UInt8 × Int) (w : World) (r : Ending) (w' : World) : Prop := r = .returned v ∧ InAt T w' b p.1 p.2 ∧ Mod (· = b) w w'

set_option maxHeartbeats 400000 in
theorem inraw_any (b : Nat) (s : List UInt8) (err n : Int) (w : World) (h : InAt 175 w b s err) (hl : s.length ≤ 1099511627776) :
    Calls Tryd.prog 81 #[.pointer (some ⟨b, 0, none⟩), .int .i64 n] w (InPost 175 b (.string ⟨(rawS s err n).1.toArray⟩) (rawS s err n).2 w) := by
  have h0 := h.c0
  have f0 := h.f 0
  by_cases hn : (s.length : Int) < n
  · have hfin : rawS s err n = ([], failS s err 2) := by unfold rawS; rw [if_pos hn]
    have Hfin := Lib.hid hfin
    have hn0 : 0 ≤ n := by omega
    clear hfin
    go_enter Tryd.func81, Tryd.ntmps81
    go_wp2_with fail
    refine (fail_any b s err 2 w h).mono ?_
    rintro r w1 ⟨rfl, hI, hM⟩
    go_wp2_with fail
    go_ret
    exact ⟨by rw [Hfin.out]; rfl, by rw [Hfin.out]; exact hI, hM⟩
  · have hfin : rawS s err n = (s.take n.toNat, s.drop n.toNat, err) := by unfold rawS; rw [if_neg hn]
    rw [hfin]
    clear hfin
    go_enter Tryd.func81, Tryd.ntmps81
    go_upto_region 1 with fail
    go_cut [1] (fun s1 wx => ∃ m : Nat, s1 = .int .i64 m ∧ n.toNat = m ∧ m ≤ s.length ∧ w = wx)
    case first =>
      by_cases hxx : 0 ≤ n
      · obtain ⟨m, rfl⟩ := Int.eq_ofNat_of_zero_le hxx
        go_wp2_with fail
        go_meet
        exact ⟨m, rfl, rfl, by omega, rfl⟩
      · go_wp2_with fail
        go_meet
        exact ⟨0, by go_num, by omega, by omega, rfl⟩
    case rest =>
      obtain ⟨m, rfl, hm, hml, rfl⟩ := hcut
      have Hm := Lib.hid hm
      clear hn hm
      go_wp2_with fail
      rw [extract_head]
      refine (clone_any (s.take m) _ (by simp; omega)).mono ?_
      rintro r w1 ⟨rfl, hb⟩
      have hI := h.kept (Mod.of_below hb) (by have := h.lt; omega)
      have hM : Mod (· = b) w w1 := (Mod.of_below hb).mono (fun i hi hh => by omega)
      have Hp : Hid (InPost 175 b (.string ⟨(s.take n.toNat).toArray⟩) (s.drop n.toNat, err) w (.returned (.string ⟨(s.take m).toArray⟩)) (w1.setCell ⟨b, 0, none⟩ (.string ⟨(s.drop m).toArray⟩))) :=
        Lib.hid (by rw [Hm.out]; exact ⟨rfl, hI.set0 _, hM.setCell (p := ⟨b, 0, none⟩) (fun _ => rfl) _⟩)
      have g0 := hI.c0
      have gf := hI.f 0
      clear hb hI hM
      go_wp2_with fail
      rw [extract_end]
      go_ret
      exact Hp.out

end Go.Proofs.YtkejidmomnmdbaaDoor
