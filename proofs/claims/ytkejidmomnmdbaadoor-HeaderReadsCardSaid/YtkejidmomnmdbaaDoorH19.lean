/- A number at the head of bytes, by the reference. -/
import Derived.Test.YtkejidmomnmdbaaDoorHs
namespace Go.Proofs.YtkejidmomnmdbaaDoor
open Go.RowKit

theorem beVal_cons (d : UInt8) (l : List UInt8) : beVal (d :: l) = d.toNat * 256 ^ l.length + beVal l := by
  have key : ∀ (l : List UInt8) (a : Nat), l.foldl (fun a b => a * 256 + b.toNat) a = a * 256 ^ l.length + l.foldl (fun a b => a * 256 + b.toNat) 0 := by
    intro l
    induction l with
    | nil => intro a; simp
    | cons b l ih =>
      intro a
      simp only [List.foldl_cons, List.length_cons, Nat.zero_mul, Nat.zero_add]
      rw [ih (a * 256 + b.toNat), ih b.toNat, Nat.pow_succ, Nat.add_mul, Nat.mul_assoc, Nat.mul_comm 256 (256 ^ l.length), Nat.add_assoc]
  unfold beVal
  rw [List.foldl_cons, Nat.zero_mul, Nat.zero_add, key l d.toNat]
theorem beVal_lt (l : List UInt8) : beVal l < 256 ^ l.length := by
  have := beVal_take_lt l l.length (Nat.le_refl _)
  rwa [List.take_length] at this
theorem beVal_step (l : List UInt8) (k : Nat) (h : k < l.length) : beVal (l.take (k + 1)) = beVal (l.take k) * 256 + (l[k]).toNat := by
  rw [List.take_succ_eq_append_getElem h, beVal_snoc]
theorem beVal_mono (l : List UInt8) (k m : Nat) (hk : k ≤ m) (hm : m ≤ l.length) : beVal (l.take k) ≤ beVal (l.take m) := by
  obtain ⟨j, rfl⟩ : ∃ j, m = k + j := ⟨m - k, by omega⟩
  induction j with
  | zero => exact Nat.le_refl _
  | succ j ih =>
    refine Nat.le_trans (ih (by omega) (by omega)) ?_
    rw [← Nat.add_assoc, beVal_step l (k + j) (by omega)]; omega
theorem beVal_great (c d : UInt8) (r : List UInt8) (h8 : c.toNat ≤ 8) (h0 : c.toNat ≠ 0) (hl : c.toNat ≤ (d :: r).length) : 9223372036854775807 < beVal ((d :: r).take c.toNat) ↔ c.toNat = 8 ∧ 128 ≤ d.toNat := by
  obtain ⟨n, hn⟩ : ∃ n, n + 1 = c.toNat := ⟨c.toNat - 1, by omega⟩
  rw [← hn] at h8 hl ⊢
  rw [List.take_succ_cons, beVal_cons]
  have hln : (r.take n).length = n := by rw [List.length_take]; simp only [List.length_cons] at hl; omega
  have hb := beVal_lt (r.take n)
  rw [hln] at hb ⊢
  have hd := d.toNat_lt
  by_cases h7 : n = 7
  · subst h7
    have e : (256 : Nat) ^ 7 = 72057594037927936 := by decide
    rw [e] at hb ⊢
    omega
  · have e : (256 : Nat) ^ n ≤ 256 ^ 6 := Nat.pow_le_pow_right (by decide) (by omega)
    have e6 : (256 : Nat) ^ 6 = 281474976710656 := by decide
    rw [e6] at e
    have : d.toNat * 256 ^ n ≤ 256 * 281474976710656 := Nat.mul_le_mul (by omega) e
    omega

set_option maxRecDepth 20000 in
set_option maxHeartbeats 1000000 in
theorem rhead_any (s : List UInt8) (w : World) (hl : s.length ≤ 1099511627776) : Calls Tryd.prog 140 #[.string ⟨s.toArray⟩] w (Head3 (headL s) w) := by
  rcases s with _ | ⟨c, r⟩
  · go_enter Tryd.func140, Tryd.ntmps140
    go_wp2
    go_ret3
    exact ⟨rfl, rfl⟩
  have g0 : ({ data := (c :: r).toArray } : ByteArray)[0]'(by simp [ByteArray.size]) = c := rfl
  have hcb := c.toNat_lt
  have hll : r.length + 1 ≤ 1099511627776 := hl
  clear hl
  have z0 : ((r.length : Int) + 1 == 0) = false := by simp; omega
  by_cases h0 : c.toNat = 0
  · have hfin : headL (c :: r) = (0, 1, 0) := by simp [headL, h0]
    rw [hfin]
    have e0 : (c.toNat : Int) = 0 := by omega
    have z2 : ¬ ((r.length : Int) < 0) := by omega
    have z3 : ¬ ((r.length : Int) + 1 - 1 < 0) := by omega
    clear h0 hfin hcb
    go_enter Tryd.func140, Tryd.ntmps140
    go_wp2
    go_loop [6, 7] (fun x i => i = .int .i64 1 ∧ x = .int .i64 0) (fun _ _ => 0)
    case atStart => exact ⟨rfl, rfl⟩
    case round =>
      obtain ⟨rfl, rfl⟩ := hrel
      go_wp2
      go_ret3
      exact ⟨rfl, rfl⟩
  by_cases h1 : 8 < c.toNat
  · have hfin : headL (c :: r) = (0, 0, 3) := by simp [headL, h0, h1]
    rw [hfin]
    clear h0 hfin
    go_enter Tryd.func140, Tryd.ntmps140
    go_wp2
    go_ret3
    exact ⟨rfl, rfl⟩
  have p0 : (0 : Int) < c.toNat := by omega
  have p8 : ¬ (8 < (c.toNat : Int)) := by omega
  rcases r with _ | ⟨d, r⟩
  · have hfin : headL [c] = (0, 0, 2) := by simp [headL, h0, h1]
    rw [hfin]
    clear h0 hfin
    go_enter Tryd.func140, Tryd.ntmps140
    go_wp2
    go_ret3
    exact ⟨rfl, rfl⟩
  have g1 : ({ data := (c :: d :: r).toArray } : ByteArray)[1]'(by simp [ByteArray.size]) = d := rfl
  simp only [List.length_cons] at hll z0
  have z1 : (1 : Int) < (r.length : Int) + 1 + 1 := by omega
  by_cases h2 : d.toNat = 0
  · have hfin : headL (c :: d :: r) = (0, 0, 3) := by simp [headL, h0, h1, h2]
    rw [hfin]
    have t1 : ((d.toNat : Int) == 0) = true := by simp [h2]
    clear h0 h2 hfin
    go_enter Tryd.func140, Tryd.ntmps140
    go_wp2
    go_ret3
    exact ⟨rfl, rfl⟩
  have t1 : ((d.toNat : Int) == 0) = false := by simp [h2]
  by_cases h3 : (d :: r).length < c.toNat
  · have hfin : headL (c :: d :: r) = (0, 0, 2) := by simp only [headL, if_neg h0, if_neg h1, if_neg h2, if_pos h3]
    rw [hfin]
    simp only [List.length_cons] at h3
    have z2 : (r.length : Int) + 1 < c.toNat := by omega
    clear h0 h2 hfin h3
    go_enter Tryd.func140, Tryd.ntmps140
    go_wp2
    go_ret3
    exact ⟨rfl, rfl⟩
  have hgr := beVal_great c d r (by omega) h0 (by omega)
  have z2 : ¬ (r.length : Int) + 1 < c.toNat := by simp only [List.length_cons] at h3; omega
  have hdb := d.toNat_lt
  by_cases h5 : 9223372036854775807 < beVal ((d :: r).take c.toNat)
  · have hfin : headL (c :: d :: r) = (0, 0, 3) := by simp only [headL, if_neg h0, if_neg h1, if_neg h2, if_neg h3, if_pos h5]
    rw [hfin]
    obtain ⟨e8, e128⟩ := hgr.1 h5
    have t8 : ((c.toNat : Int) == 8) = true := by simp [e8]
    have t9 : (128 : Int) ≤ d.toNat := by omega
    clear h0 h2 h3 h5 hfin hgr e8 e128
    go_enter Tryd.func140, Tryd.ntmps140
    go_wp2
    go_ret3
    exact ⟨rfl, rfl⟩
  have hfin : headL (c :: d :: r) = (beVal ((d :: r).take c.toNat), c.toNat + 1, 0) := by simp only [headL, if_neg h0, if_neg h1, if_neg h2, if_neg h3, if_neg h5]
  have Hfin := Lib.hid hfin
  have H5 := Lib.hid h5
  have H3 := Lib.hid h3
  have H0 := Lib.hid h0
  have Hgr := Lib.hid hgr
  have hc8 : c.toNat ≤ 8 := by omega
  clear h0 h2 h3 h5 hfin hgr
  have body : ∀ (b : Bool), ((c.toNat : Int) == 8) = b → (b = true → ¬ (128 : Int) ≤ d.toNat) → Calls Tryd.prog 140 #[.string ⟨(c :: d :: r).toArray⟩] w (Head3 (headL (c :: d :: r)) w) := by
    intro b t8 t9
    cases b
    all_goals
      first | (have t10 := t9 rfl) | skip
      clear t9
      go_enter Tryd.func140, Tryd.ntmps140
      go_wp2
      go_loop [6, 7] (fun x i => ∃ k : Nat, k ≤ c.toNat ∧ i = .int .i64 ((k : Int) + 1) ∧ x = .int .i64 (beVal ((d :: r).take k))) (fun _ i => c.toNat + 1 - (intOf i).toNat)
      case atStart => exact ⟨0, by omega, rfl, rfl⟩
      case round =>
        obtain ⟨k, hk, rfl, rfl⟩ := hrel
        by_cases hlt : k < c.toNat
        · have hkl : k < (d :: r).length := by have := H3.out; omega
          have hkl' : k < r.length + 1 := by simpa using hkl
          have hst := beVal_step (d :: r) k hkl
          have hmo := beVal_mono (d :: r) (k + 1) c.toNat (by omega) (by have := H3.out; omega)
          have h5 := H5.out
          obtain ⟨V, hV⟩ : ∃ V, V = beVal ((d :: r).take k) := ⟨_, rfl⟩
          have hb : (d :: r)[k].toNat < 256 := UInt8.toNat_lt _
          rw [hst] at hmo
          rw [← hV] at hst hmo ⊢
          have hv8 : V ≤ 36028797018963967 := by omega
          have HV := Lib.hid hst
          have gk : ∀ h : k + 1 < (ByteArray.mk (c :: d :: r).toArray).size, (ByteArray.mk (c :: d :: r).toArray)[k + 1]'h = (d :: r)[k] := fun _ => rfl
          have e1 : ((k : Int) + 1).toNat = k + 1 := by omega
          obtain ⟨y, hy⟩ : ∃ y, y = (d :: r)[k] := ⟨_, rfl⟩
          rw [← hy] at hb HV gk
          clear hV hst hmo h5 hy
          go_wp2
          go_round
          case rel => exact ⟨k + 1, by omega, by go_num, by rw [HV.out]; exact val_int (by omega)⟩
          case measure => simp [intOf]; omega
        · obtain rfl : k = c.toNat := by omega
          go_wp2
          go_ret3
          exact ⟨by rw [Hfin.out]; exact ret3 rfl (show (c.toNat : Int) + 1 = ((c.toNat + 1 : Nat) : Int) by omega) rfl, rfl⟩
  by_cases e8 : c.toNat = 8
  · exact body true (by simp [e8]) (fun _ h => by have := Hgr.out.2 ⟨e8, by omega⟩; exact H5.out this)
  · exact body false (by rw [beq_eq_false_iff_ne]; omega) (fun h => by cases h)
end Go.Proofs.YtkejidmomnmdbaaDoor
