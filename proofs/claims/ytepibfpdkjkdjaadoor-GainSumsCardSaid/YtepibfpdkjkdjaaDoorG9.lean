/- What a tipset weighs more, by the document; the laws GainLogs and GainOf. -/
import Derived.Test.YtepibfpdkjkdjaaDoorG8
namespace Go.Proofs.YtepibfpdkjkdjaaDoor
open Go.RowKit

set_option maxHeartbeats 4000000 in
theorem rgof_any (p : Nat) (wins : Int) (w : World) (hp : Hid (p < 18446744073709551616)) (hw : Hid (wins ≤ 9223372036854775807)) :
    Calls Tryd.prog 47 #[.int .u64 p, .int .i64 wins] w (DecOut w (gw p wins)) := by
  obtain ⟨L, hL⟩ : ∃ L, L = lg p := ⟨_, rfl⟩
  have hLb : L ≤ 16384 := by rw [hL]; exact lg_le p hp.out
  obtain ⟨m, hm⟩ : ∃ m, m = wins.toNat := ⟨_, rfl⟩
  have e1 : max wins 0 = (m : Int) := by omega
  have hm64 : Hid (m < 18446744073709551616) := Lib.hid (by have := hw.out; omega)
  have hml : (dg 10 m).length ≤ 20 := dlen_le (Nat.lt_of_lt_of_le hm64.out (by decide))
  have e2 : IntKind.u64.wrap (m : Int) = (m : Int) := by have := hm64.out; rw [IntKind.wrap_u64]; omega
  have e3 : IntKind.u64.wrap (L : Int) = (L : Int) := by rw [IntKind.wrap_u64]; omega
  have hL64 : Hid (L < 18446744073709551616) := Lib.hid (by omega)
  have hLl : (dg 10 L).length ≤ 5 := dlen_le (by omega)
  obtain ⟨u, hu⟩ : ∃ u, u = L * m := ⟨_, rfl⟩
  obtain ⟨v, hv⟩ : ∃ v, v = u / 10 := ⟨_, rfl⟩
  have hul : (dg 10 u).length ≤ 25 := by rw [hu]; have := dg_len_mul 10 (by decide) L m; omega
  have hvl : (dg 10 v).length ≤ 25 := Nat.le_trans (dg_len_mono 10 (by decide) (by rw [hv]; exact Nat.div_le_self _ _)) hul
  obtain ⟨z, hz⟩ : ∃ z, z = gw p wins := ⟨_, rfl⟩
  have hz2 : z = L + v := by rw [hz, hv, hu, hL, hm]; rfl
  rw [← hz]
  have hlog := rlog_any p w hp
  rw [← hL] at hlog
  have Hv := Lib.hid hv
  have Hu := Lib.hid hu
  have Hz := Lib.hid hz2
  clear hL hm hv hz hz2 hu
  go_enter Tryd.func47, Tryd.ntmps47
  go_wp2_with fail
  refine hlog.mono ?_
  clear hlog
  rintro r w1 ⟨rfl, hB⟩
  go_wp2_with fail
  refine (rof_any L w1 hL64).mono ?_
  rintro r w2 ⟨q, c, rfl, hN, hb, -⟩
  replace hB := hB.trans (hb.mono hB.size)
  clear hb
  go_wp2_with fail
  refine (rof_any m w2 hm64).mono ?_
  rintro r w3 ⟨q3, c3, rfl, hN3, hb, -⟩
  replace hB := hB.trans (hb.mono hB.size)
  replace hN := hN.old hb
  clear hb
  have hmu := rmul_any q q3 c c3 L m w3 hN hN3 (by omega) (by omega)
  rw [← Hu.out] at hmu
  go_wp2_with fail
  refine hmu.mono ?_
  clear hmu
  rintro r w4 ⟨q4, c4, rfl, hN4, hb, -⟩
  replace hB := hB.trans (hb.mono hB.size)
  replace hN := hN.old hb
  clear hb hN3
  have hdv := rdiv_any q4 c4 u 10 w4 hN4 (by omega) (by decide) (by decide)
  rw [← Hv.out] at hdv
  go_wp2_with fail
  refine hdv.mono ?_
  clear hdv
  rintro r w5 ⟨q5, c5, rfl, hN5, hb, -⟩
  replace hB := hB.trans (hb.mono hB.size)
  replace hN := hN.old hb
  clear hb hN4
  have had := radd_any q q5 c c5 L v w5 hN hN5 (by omega) (by omega)
  rw [← Hz.out] at had
  go_wp2_with fail
  refine had.mono ?_
  clear had
  rintro r w6 ⟨q6, c6, rfl, hN6, hb, hf6⟩
  have hf := hB.size
  replace hB := hB.trans (hb.mono hB.size)
  go_wp2_with fail
  go_ret
  exact ⟨q6, c6, rfl, hN6, hB, fun a e => Nat.le_trans hf (hf6 a e)⟩

set_option maxHeartbeats 1000000 in
theorem gainLogs_any (p : Nat) (w : World) (hp : Hid (p < 18446744073709551616)) :
    Calls Tryd.prog 10 #[.int .u64 (p : Int)] w fun r w' => r = .returned (.bool true) ∧ Below w.heap.size w w' := by
  have h1 := fun w => log_any p w hp
  have h2 := fun w => rlog_any p w hp
  obtain ⟨L, hL⟩ : ∃ A, A = lg p := ⟨_, rfl⟩
  rw [← hL] at h1 h2
  have H1 := Lib.hid h1
  have H2 := Lib.hid h2
  clear h1 h2 hL
  go_enter Tryd.func10, Tryd.ntmps10
  go_wp2_with fail
  refine (awake04_any w).mono ?_
  rintro r v1 ⟨rfl, hB⟩
  go_wp2_with fail
  refine (H1.out _).mono ?_
  rintro r v2 ⟨rfl, hb⟩
  replace hB := hB.trans (hb.mono hB.size)
  clear hb
  go_wp2_with fail
  refine (H2.out _).mono ?_
  rintro r v3 ⟨rfl, hb⟩
  replace hB := hB.trans (hb.mono hB.size)
  clear hb
  go_wp2_with fail
  go_ret
  exact ⟨rfl, hB⟩
end Go.Proofs.YtepibfpdkjkdjaaDoor
