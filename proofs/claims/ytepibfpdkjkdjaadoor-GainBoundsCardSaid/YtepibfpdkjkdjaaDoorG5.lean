/- The law GainBounds. -/
import Derived.Test.YtepibfpdkjkdjaaDoorG3
namespace Go.Proofs.YtepibfpdkjkdjaaDoor
open Go.RowKit

set_option maxHeartbeats 8000000 in
theorem gainBounds_any (p : Nat) (k : Int) (w : World) (hp64 : Hid (p < 18446744073709551616)) (hk : Hid (-9223372036854775808 ≤ k ∧ k ≤ 9223372036854775807)) :
    Calls Tryd.prog 11 #[.int .u64 (p : Int), .int .i64 k] w fun r w' => r = .returned (.bool true) ∧ Below w.heap.size w w' := by
  obtain ⟨n, hn, hn62⟩ : ∃ n : Nat, max 0 (min k 62) = (n : Int) ∧ n ≤ 62 := ⟨(max 0 (min k 62)).toNat, by omega, by omega⟩
  obtain ⟨t, ht⟩ : ∃ t, t = 2 ^ n := ⟨_, rfl⟩
  have htb : Hid (t ≤ 4611686018427387904) := Lib.hid (by rw [ht]; exact Nat.pow_le_pow_right (n := 2) (by decide) hn62)
  have et : (2 : Int) ^ n = (t : Int) := by rw [ht]; exact (Int.natCast_pow 2 n).symm
  have wt : IntKind.u64.wrap (t : Int) = t := by have := htb.out; rw [IntKind.wrap_u64]; omega
  have ht64 : Hid (t < 18446744073709551616) := Lib.hid (by have := htb.out; omega)
  have hlt : lg t = 256 * n := by rw [ht]; exact lg_pow n
  have ht0 : 0 < t := by rw [ht]; exact Nat.pow_pos (by decide)
  have ll := lg_le p hp64.out
  obtain ⟨L, hL⟩ : ∃ A, A = lg p := ⟨_, rfl⟩
  have hcmp : (t < p ∧ 256 * n ≤ L) ∨ (¬ t < p ∧ L ≤ 256 * n) := by
    by_cases h : t < p
    · left; exact ⟨h, by rw [hL, ← hlt]; exact lg_mono (Nat.le_of_lt h)⟩
    · right; exact ⟨h, by rw [hL, ← hlt]; exact lg_mono (by omega)⟩
  have hdbl : Hid ((p < 9223372036854775808 ∧ p ≠ 0 ∧ lg (2 * p) = L + 256) ∨ (p = 0 ∧ lg (2 * p) = 0 ∧ L = 0) ∨ ¬ p < 9223372036854775808) := Lib.hid (by
    by_cases h : p < 9223372036854775808
    · by_cases h0 : p = 0
      · right; left; refine ⟨h0, ?_, ?_⟩
        · rw [h0, Nat.mul_zero]; exact lg_zero
        · rw [hL, h0]; exact lg_zero
      · left; exact ⟨h, h0, by rw [hL]; exact lg_double h0⟩
    · right; right; exact h)
  have h1 : ∀ w, Calls Tryd.prog 44 #[.int .u64 (t : Int)] w fun r w' => r = .returned (.int .i64 (256 * (n : Int))) ∧ Below w.heap.size w w' := fun w => by have := log_any t w ht64; rw [hlt, Int.natCast_mul] at this; exact this
  have h2 : ∀ w, Calls Tryd.prog 44 #[.int .u64 (p : Int)] w fun r w' => r = .returned (.int .i64 (L : Int)) ∧ Below w.heap.size w w' := fun w => by rw [hL]; exact log_any p w hp64
  have H1 := Lib.hid h1
  have H2 := Lib.hid h2
  rw [← hL] at ll
  have e256 : IntKind.i64.wrap (256 * (n : Int)) = 256 * (n : Int) := by rw [IntKind.wrap_i64]; omega
  have eL : IntKind.i64.wrap ((L : Int) + 256) = (L : Int) + 256 := by rw [IntKind.wrap_i64]; omega
  have emx : max (256 * (n : Int)) 0 = 256 * (n : Int) := by omega
  clear h1 h2 hL hlt ht
  go_enter Tryd.func11, Tryd.ntmps11
  go_wp2_with fail
  refine (awake04_any w).mono ?_
  rintro r v1 ⟨rfl, hb1⟩
  go_wp2_with fail
  refine (H1.out _).mono ?_
  rintro r v2 ⟨rfl, hb2⟩
  replace hb2 := hb1.trans (hb2.mono hb1.size)
  clear hb1
  go_wp2_with fail
  refine (H2.out _).mono ?_
  rintro r v3 ⟨rfl, hb3⟩
  replace hb3 := hb2.trans (hb3.mono hb2.size)
  clear hb2
  rcases hdbl.out with ⟨d1, d2, d3⟩ | ⟨rfl, d3, rfl⟩ | d1
  · have b1 : (p : Int) < 9223372036854775808 := by omega
    have wd : IntKind.u64.wrap (2 * (p : Int)) = 2 * (p : Int) := by rw [IntKind.wrap_u64]; omega
    have h3 : Calls Tryd.prog 44 #[.int .u64 (2 * (p : Int))] v3 fun r w' => r = .returned (.int .i64 ((L : Int) + 256)) ∧ Below v3.heap.size v3 w' := by
      have := log_any (2 * p) v3 (Lib.hid (by omega)); rw [d3, Int.natCast_mul, Int.natCast_add] at this; exact this
    clear d1 d2 d3
    go_wp2_with fail
    refine h3.mono ?_
    clear h3 b1
    rintro r v4 ⟨rfl, hb4⟩
    replace hb4 := hb3.trans (hb4.mono hb3.size)
    clear hb3
    rcases hcmp with ⟨c1, c2⟩ | ⟨c1, c2⟩
    · have b2 : (t : Int) < p := by omega
      have b3 : 256 * (n : Int) ≤ L := by omega
      clear c1 c2
      go_wp2_with fail
      go_ret
      exact ⟨rfl, hb4⟩
    · have b2 : ¬ (t : Int) < p := by omega
      have b3 : (L : Int) ≤ 256 * (n : Int) := by omega
      clear c1 c2
      go_wp2_with fail
      go_ret
      exact ⟨rfl, hb4⟩
  · have h3 : Calls Tryd.prog 44 #[.int .u64 0] v3 fun r w' => r = .returned (.int .i64 0) ∧ Below v3.heap.size v3 w' := by
      have := log_any 0 v3 (Lib.hid (by decide)); rw [lg_zero] at this; exact this
    have b2 : ¬ (t : Int) < 0 := by omega
    have b3 : (0 : Int) ≤ 256 * (n : Int) := by omega
    clear d3 hcmp
    go_wp2_with fail
    refine h3.mono ?_
    clear h3
    rintro r v4 ⟨rfl, hb4⟩
    replace hb4 := hb3.trans (hb4.mono hb3.size)
    go_wp2_with fail
    go_ret
    exact ⟨rfl, hb4⟩
  · have b1 : decide ((p : Int) < 9223372036854775808) = false := by rw [decide_eq_false_iff_not]; omega
    rcases hcmp with ⟨c1, c2⟩ | ⟨c1, c2⟩
    · have b2 : (t : Int) < p := by omega
      have b3 : 256 * (n : Int) ≤ L := by omega
      clear c1 c2 d1
      go_wp2_with fail
      go_ret
      exact ⟨rfl, hb3⟩
    · exfalso; have := htb.out; omega
end Go.Proofs.YtepibfpdkjkdjaaDoor
