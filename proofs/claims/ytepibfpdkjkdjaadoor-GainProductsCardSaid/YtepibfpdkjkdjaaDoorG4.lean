/- The law GainProducts. -/
import Derived.Test.YtepibfpdkjkdjaaDoorG3
namespace Go.Proofs.YtepibfpdkjkdjaaDoor
open Go.RowKit

set_option maxHeartbeats 4000000 in
theorem gainProducts_any (a b : Nat) (w : World) (ha : a < 4294967296) (hb : b < 4294967296) :
    Calls Tryd.prog 14 #[.int .u32 (a : Int), .int .u32 (b : Int)] w fun r w' => r = .returned (.bool true) ∧ Below w.heap.size w w' := by
  obtain ⟨p, hp⟩ : ∃ p, p = a * b := ⟨_, rfl⟩
  have hpb : p ≤ 4294967295 * 4294967295 := by rw [hp]; exact Nat.mul_le_mul (by omega) (by omega)
  have hp64 : Hid (p < 18446744073709551616) := Lib.hid (by omega)
  have ha64 : Hid (a < 18446744073709551616) := Lib.hid (by omega)
  have hb64 : Hid (b < 18446744073709551616) := Lib.hid (by omega)
  have e0 : (a : Int) * (b : Int) = (p : Int) := by rw [hp]; exact (Int.natCast_mul _ _).symm
  have wp : IntKind.u64.wrap (p : Int) = p := by rw [IntKind.wrap_u64]; omega
  have wa : IntKind.u64.wrap (a : Int) = a := by rw [IntKind.wrap_u64]; omega
  have wb : IntKind.u64.wrap (b : Int) = b := by rw [IntKind.wrap_u64]; omega
  have la := lg_le a ha64.out
  have lb2 := lg_le b hb64.out
  have lp := lg_le p hp64.out
  have hcase : Hid ((p = 0 ∧ lg p = 0) ∨ (p ≠ 0 ∧ (lg p = lg a + lg b ∨ lg p = lg a + lg b + 1))) := Lib.hid (by
    by_cases h0 : p = 0
    · left; exact ⟨h0, by rw [h0]; exact lg_zero⟩
    · right
      refine ⟨h0, ?_⟩
      rw [hp] at h0 ⊢
      exact lg_mul (fun e => h0 (by rw [e, Nat.zero_mul])) (fun e => h0 (by rw [e, Nat.mul_zero])))
  have hla := fun w => log_any a w ha64
  have hlb := fun w => log_any b w hb64
  have hlp := fun w => log_any p w hp64
  obtain ⟨A, hA⟩ : ∃ A, A = lg a := ⟨_, rfl⟩
  obtain ⟨B, hB⟩ : ∃ A, A = lg b := ⟨_, rfl⟩
  obtain ⟨C, hC⟩ : ∃ A, A = lg p := ⟨_, rfl⟩
  rw [← hA] at la hcase hla
  rw [← hB] at lb2 hcase hlb
  rw [← hC] at lp hcase hlp
  have Ha := Lib.hid hla
  have Hb := Lib.hid hlb
  have Hp := Lib.hid hlp
  have w1 : IntKind.i64.wrap ((A : Int) + B) = (A : Int) + B := by rw [IntKind.wrap_i64]; omega
  have w2 : IntKind.i64.wrap ((A : Int) + B + 1) = (A : Int) + B + 1 := by rw [IntKind.wrap_i64]; omega
  clear hp hpb hla hlb hlp hA hB hC
  go_enter Tryd.func14, Tryd.ntmps14
  go_wp2_with fail
  refine (awake04_any w).mono ?_
  rintro r v1 ⟨rfl, hb1⟩
  go_wp2_with fail
  refine (Ha.out _).mono ?_
  rintro r v2 ⟨rfl, hb2⟩
  replace hb2 := hb1.trans (hb2.mono hb1.size)
  clear hb1
  go_wp2_with fail
  refine (Hb.out _).mono ?_
  rintro r v3 ⟨rfl, hb3⟩
  replace hb3 := hb2.trans (hb3.mono hb2.size)
  clear hb2
  rcases hcase.out with ⟨h0, h1⟩ | ⟨h0, h1 | h1⟩
  · have b0 : ((p : Int) == 0) = true := by rw [beq_iff_eq]; omega
    have b1 : ((C : Int) == 0) = true := by rw [beq_iff_eq]; omega
    clear h0 h1
    go_wp2_with fail
    refine (Hp.out _).mono ?_
    rintro r v4 ⟨rfl, hb4⟩
    replace hb4 := hb3.trans (hb4.mono hb3.size)
    go_wp2_with fail
    go_ret
    exact ⟨rfl, hb4⟩
  · have b0 : ((p : Int) == 0) = false := by rw [beq_eq_false_iff_ne]; omega
    have b1 : ((C : Int) == (A : Int) + B) = true := by rw [beq_iff_eq]; omega
    clear h0 h1
    go_wp2_with fail
    refine (Hp.out _).mono ?_
    rintro r v4 ⟨rfl, hb4⟩
    replace hb4 := hb3.trans (hb4.mono hb3.size)
    go_wp2_with fail
    go_ret
    exact ⟨rfl, hb4⟩
  · have b0 : ((p : Int) == 0) = false := by rw [beq_eq_false_iff_ne]; omega
    have b1 : ((C : Int) == (A : Int) + B) = false := by rw [beq_eq_false_iff_ne]; omega
    have b2 : ((C : Int) == (A : Int) + B + 1) = true := by rw [beq_iff_eq]; omega
    clear h0 h1
    go_wp2_with fail
    refine (Hp.out _).mono ?_
    rintro r v4 ⟨rfl, hb4⟩
    replace hb4 := hb3.trans (hb4.mono hb3.size)
    clear hb3
    go_wp2_with fail
    refine (Hp.out _).mono ?_
    rintro r v5 ⟨rfl, hb5⟩
    replace hb5 := hb4.trans (hb5.mono hb4.size)
    go_wp2_with fail
    go_ret
    exact ⟨rfl, hb5⟩
end Go.Proofs.YtepibfpdkjkdjaaDoor
