/- Logarithms: plain laws; Heavier; the fixed fact of layer 4. -/
import Derived.Test.YtepibfpdkjkdjaaDoorG2
import Derived.Test.YtepibfpdkjkdjaaDoorN20
import Derived.Test.YtepibfpdkjkdjaaDoorN16
namespace Go.Proofs.YtepibfpdkjkdjaaDoor
open Go.RowKit

theorem bl_ge1 {x : Nat} (h : x ≠ 0) : 1 ≤ bl x := (bl_bounds h).1
theorem bl_mono {x y : Nat} (h : x ≤ y) : bl x ≤ bl y := dg_len_mono 2 (by decide) h
theorem lg_zero : lg 0 = 0 := by
  unfold lg
  have e : (0 : Nat) ^ 256 = 0 := by rw [show 256 = 255 + 1 by decide, Nat.pow_succ, Nat.mul_zero]
  rw [e, bl_zero]
theorem lg_mono {p q : Nat} (h : p ≤ q) : lg p ≤ lg q := by
  unfold lg
  have := bl_mono (Nat.pow_le_pow_left h 256)
  omega
theorem lg_pow (k : Nat) : lg (2 ^ k) = 256 * k := by
  unfold lg
  rw [← Nat.pow_mul, bl_unique (L := k * 256 + 1) (by omega) (by rw [Nat.add_sub_cancel]; exact Nat.le_refl _) (Nat.pow_lt_pow_right (by decide) (by omega))]
  omega
theorem lg_mul {a b : Nat} (ha : a ≠ 0) (hb : b ≠ 0) : lg (a * b) = lg a + lg b ∨ lg (a * b) = lg a + lg b + 1 := by
  unfold lg
  have h1 : a ^ 256 ≠ 0 := Nat.ne_of_gt (Nat.pow_pos (Nat.pos_of_ne_zero ha))
  have h2 : b ^ 256 ≠ 0 := Nat.ne_of_gt (Nat.pow_pos (Nat.pos_of_ne_zero hb))
  rw [Nat.mul_pow]
  have := bl_mul h1 h2
  have b1 := bl_ge1 h1
  have b2 := bl_ge1 h2
  generalize bl (a ^ 256 * b ^ 256) = z at *
  generalize bl (a ^ 256) = x at *
  generalize bl (b ^ 256) = y at *
  omega
theorem bl_shift (n : Nat) {y : Nat} (h : y ≠ 0) : bl (2 ^ n * y) = bl y + n := by
  obtain ⟨h1, h2, h3⟩ := bl_bounds h
  refine bl_unique (by omega) ?_ ?_
  · rw [show bl y + n - 1 = n + (bl y - 1) by omega, Nat.pow_add]
    exact Nat.mul_le_mul_left _ h2
  · rw [Nat.add_comm, Nat.pow_add]
    exact Nat.mul_lt_mul_of_pos_left h3 (Nat.pow_pos (by decide))
theorem lg_double {p : Nat} (h : p ≠ 0) : lg (2 * p) = lg p + 256 := by
  unfold lg
  have h1 : p ^ 256 ≠ 0 := Nat.ne_of_gt (Nat.pow_pos (Nat.pos_of_ne_zero h))
  rw [Nat.mul_pow, bl_shift 256 h1]
  have := bl_ge1 h1
  omega
theorem lg_three : lg 3 = 405 := by
  unfold lg
  rw [bl_unique (L := 406) (by decide) (by decide +kernel) (by decide +kernel)]
theorem lg_two : lg 2 = 256 := by have := lg_pow 1; rwa [Nat.pow_one] at this
theorem lg_one : lg 1 = 0 := by have := lg_pow 0; rwa [Nat.pow_zero] at this
theorem gw_fixed : gw 2 5 = 384 := by unfold gw; rw [lg_two]; decide
theorem dec_384 : dec 384 = [51, 56, 52] := by
  have h : dg 10 384 = [4, 8, 3] := dg_vl 10 (by decide) [4, 8, 3] (by decide) (by intro x hx; cases hx; decide)
  unfold dec
  rw [if_neg (by decide), h]; rfl

set_option maxHeartbeats 1000000 in
theorem heavier_any (p q : Option Addr) (cp cq x y : Nat) (w : World) (hx : NatIn w p cp x) (hy : NatIn w q cq y) (lx : (lb x).length ≤ 100000) :
    Calls Tryd.prog 48 #[.agg #[.slice p (lb x).length cp], .agg #[.slice q (lb y).length cq]] w fun r w' => r = .returned (.bool (decide (y < x))) ∧ Below w.heap.size w w' := by
  have hB : Below w.heap.size w ((w.alloc (.cells #[.slice p (lb x).length cp] 25)).alloc (.cells #[.slice q (lb y).length cq] 25)) := ((Below.refl _ _).alloc (Nat.le_refl _) _).alloc (by simp) _
  have hx2 : NatIn ((w.alloc (.cells #[.slice p (lb x).length cp] 25)).alloc (.cells #[.slice q (lb y).length cq] 25)) p cp x := hx.old hB
  have hy2 : NatIn ((w.alloc (.cells #[.slice p (lb x).length cp] 25)).alloc (.cells #[.slice q (lb y).length cq] 25)) q cq y := hy.old hB
  have hc : ∃ b : Bool, decide ((0 : Int) < cmpI x y) = b ∧ decide (y < x) = b := by
    unfold cmpI
    rcases Nat.lt_trichotomy x y with h | h | h
    · refine ⟨false, ?_, by simp; omega⟩; rw [if_pos h]; rfl
    · refine ⟨false, ?_, by simp; omega⟩; rw [if_neg (by omega), if_neg (by omega)]; rfl
    · refine ⟨true, ?_, by simp; omega⟩; rw [if_neg (by omega), if_pos h]; rfl
  obtain ⟨b, hb1, hb2⟩ := hc
  have hcm := cmp_any p q cp cq x y _ hx2 hy2 (by omega)
  rw [hb2]
  clear hb2
  have Hb := Lib.hid hb1
  generalize cmpI x y = z at hcm Hb
  clear hb1 hx hy hx2 hy2
  go_enter Tryd.func48, Tryd.ntmps48
  go_wp2_with fail
  refine hcm.mono ?_
  clear hcm
  rintro r w1 ⟨rfl, hb⟩
  have hB1 := hB.trans (hb.mono hB.size)
  go_wp2_with fail
  go_ret
  exact ⟨by rw [← Hb.out]; rfl, hB1⟩

set_option maxHeartbeats 2000000 in
theorem awake04_any (w : World) : Calls Tryd.prog 43 #[] w fun r w' => r = .returned (.bool true) ∧ Below w.heap.size w w' := by
  have h1 : ∀ w, Calls Tryd.prog 44 #[.int .u64 2] w fun r w' => r = .returned (.int .i64 256) ∧ Below w.heap.size w w' := fun w => by have := log_any 2 w (Lib.hid (by decide)); rw [lg_two] at this; exact this
  have h2 : ∀ w, Calls Tryd.prog 44 #[.int .u64 3] w fun r w' => r = .returned (.int .i64 405) ∧ Below w.heap.size w w' := fun w => by have := log_any 3 w (Lib.hid (by decide)); rw [lg_three] at this; exact this
  have h3 : ∀ w, Calls Tryd.prog 44 #[.int .u64 1] w fun r w' => r = .returned (.int .i64 0) ∧ Below w.heap.size w w' := fun w => by have := log_any 1 w (Lib.hid (by decide)); rw [lg_one] at this; exact this
  have h4 : ∀ w, Calls Tryd.prog 46 #[.int .u64 2, .int .i64 5] w (NatOut w 384) := fun w => by have := gof_any 2 5 w (Lib.hid (by decide)) (Lib.hid (by decide)); rw [gw_fixed] at this; exact this
  have h5 : ∀ p c w, NatIn w p c 384 → Calls Tryd.prog 21 #[.agg #[.slice p (lb 384).length c]] w fun r w' => r = .returned (.string ⟨#[51, 56, 52]⟩) ∧ Below w.heap.size w w' := fun p c w h => by
    have := text_any p c 384 w h (by have := lb_64 (show 384 < 18446744073709551616 by decide); omega); rw [dec_384] at this; exact this
  have ht : ((ByteArray.mk #[51, 56, 52]).toList == [51, 56, 52]) = true := by
    have := ByteArray.toList_mk [51, 56, 52]
    rw [show (ByteArray.mk #[51, 56, 52]) = ByteArray.mk [51, 56, 52].toArray from rfl, this]; rfl
  have H1 := Lib.hid h1
  have H2 := Lib.hid h2
  have H3 := Lib.hid h3
  have H4 := Lib.hid h4
  have H5 := Lib.hid h5
  clear h1 h2 h3 h4 h5
  go_enter Tryd.func43, Tryd.ntmps43
  go_wp2_with fail
  refine (H1.out _).mono ?_
  rintro r w1 ⟨rfl, hb1⟩
  go_wp2_with fail
  refine (H2.out _).mono ?_
  rintro r w2 ⟨rfl, hb2⟩
  replace hb2 := hb1.trans (hb2.mono hb1.size)
  clear hb1
  go_wp2_with fail
  refine (H4.out _).mono ?_
  rintro r w3 ⟨q, c, rfl, hN, hb3, -⟩
  replace hb3 := hb2.trans (hb3.mono hb2.size)
  clear hb2
  go_wp2_with fail
  refine (H5.out _ _ _ hN).mono ?_
  rintro r w4 ⟨rfl, hb4⟩
  replace hb4 := hb3.trans (hb4.mono hb3.size)
  clear hb3
  go_wp2_with fail
  refine (H3.out _).mono ?_
  rintro r w5 ⟨rfl, hb5⟩
  replace hb5 := hb4.trans (hb5.mono hb4.size)
  clear hb4
  go_wp2_with fail
  go_ret
  exact ⟨rfl, hb5⟩
end Go.Proofs.YtepibfpdkjkdjaaDoor
