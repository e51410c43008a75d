/- The law's fixed fact; small numbers. -/
import Derived.Test.YtepibfpdkjkdjaaDoorN15
namespace Go.Proofs.YtepibfpdkjkdjaaDoor
open Go.RowKit

theorem dec_fixed : dec 4294967296 = [52, 50, 57, 52, 57, 54, 55, 50, 57, 54] := by
  have h : dg 10 4294967296 = [6, 9, 2, 7, 6, 9, 4, 9, 2, 4] := by
    have := dg_vl 10 (by decide) [6, 9, 2, 7, 6, 9, 4, 9, 2, 4] (by decide) (by intro x hx; cases hx; decide)
    exact this
  unfold dec
  rw [if_neg (by decide), h]; rfl
theorem bl_fixed : bl 4294967296 = 33 := bl_unique (by decide) (by decide) (by decide)

theorem awake_any (w : World) : Calls Tryd.prog 16 #[] w fun r w' => r = .returned (.bool true) ∧ Below w.heap.size w w' := by
  obtain ⟨a, ha⟩ : ∃ a, a = 4294967295 := ⟨_, rfl⟩
  obtain ⟨b, hb⟩ : ∃ a, a = 1 := ⟨_, rfl⟩
  have hab : Hid (a + b = 4294967296) := Lib.hid (by rw [ha, hb])
  have la : Hid (a < 18446744073709551616) := Lib.hid (by rw [ha]; decide)
  have lb' : Hid (b < 18446744073709551616) := Lib.hid (by rw [hb]; decide)
  have h1 := fun w => nofn_any a w la
  have h2 := fun w => nofn_any b w lb'
  rw [show ((a : Nat) : Int) = 4294967295 by rw [ha]; rfl] at h1
  rw [show ((b : Nat) : Int) = 1 by rw [hb]; rfl] at h2
  have H1 := Lib.hid h1
  have H2 := Lib.hid h2
  have l1 := lb_64 la.out
  have l2 := lb_64 lb'.out
  have l3 : (lb (a + b)).length ≤ 100000 := by have := lb_add a b; omega
  clear h1 h2 ha hb
  go_enter Tryd.func16, Tryd.ntmps16
  go_wp2_with fail
  refine (H1.out _).mono ?_
  rintro r w1 ⟨q1, c1, rfl, hN1, hb1, -⟩
  go_wp2_with fail
  refine (H2.out _).mono ?_
  rintro r w2 ⟨q2, c2, rfl, hN2, hb2, -⟩
  have hB2 := hb1.trans (hb2.mono hb1.size)
  go_wp2_with fail
  refine (add_any q1 q2 c1 c2 a b w2 (hN1.old hb2) hN2 (by omega) (by omega)).mono ?_
  rintro r w3 ⟨q3, c3, rfl, hN3, hb3, -⟩
  have hB3 := hB2.trans (hb3.mono hB2.size)
  have hk := Boxed.new w3 25 (.slice q3 (lb (a + b)).length c3)
  have hB4 := hB3.alloc hB3.size (.cells #[.slice q3 (lb (a + b)).length c3] 25)
  have hN4 := hN3.alloc (.cells #[.slice q3 (lb (a + b)).length c3] 25)
  rw [hab.out] at hk hB4 hN4 l3 ⊢
  have hkc := hk.cell
  clear hb1 hb2 hb3 hN1 hN2 hN3 hB2 hB3
  go_wp2_with fail
  generalize (w3.alloc (.cells #[.slice q3 (lb 4294967296).length c3] 25)) = w4 at hk hB4 hN4 hkc ⊢
  generalize w3.heap.size = g4 at hk hkc ⊢
  refine (text_any q3 c3 4294967296 w4 hN4 l3).mono ?_
  rintro r w5 ⟨rfl, hb5⟩
  rw [dec_fixed]
  have hk5 := Boxed.below' hk hb5 hk.lt
  have hkc5 := hk5.cell
  have hN5 := hN4.old hb5
  have hB5 := hB4.trans (hb5.mono hB4.size)
  have ht : ((ByteArray.mk [52, 50, 57, 52, 57, 54, 55, 50, 57, 54].toArray).toList == [52, 50, 57, 52, 57, 54, 55, 50, 57, 54]) = true := by rw [ByteArray.toList_mk]; rfl
  clear hkc hN4 hb5 hB4 hk
  go_wp2_with fail
  refine (bits_any q3 c3 4294967296 w5 hN5 l3).mono ?_
  rintro r w6 ⟨rfl, hb6⟩
  rw [bl_fixed]
  have hB6 := hB5.trans (hb6.mono hB5.size)
  clear hkc5 hN5 hb6 hB5
  go_wp2_with fail
  go_ret
  exact ⟨rfl, hB6⟩
end Go.Proofs.YtepibfpdkjkdjaaDoor
