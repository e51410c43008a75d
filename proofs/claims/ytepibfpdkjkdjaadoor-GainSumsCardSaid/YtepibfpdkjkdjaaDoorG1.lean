import Derived.Test.YtepibfpdkjkdjaaDoorN9
namespace Go.Proofs.YtepibfpdkjkdjaaDoor
open Go.RowKit

/-- 256 times the logarithm by 2, the rest cut off. -/
def lg (p : Nat) : Nat := bl (p ^ 256) - 1
set_option maxHeartbeats 2000000 in
theorem log_any (p : Nat) (w : World) (hp : Hid (p < 18446744073709551616)) :
    Calls Tryd.prog 44 #[.int .u64 p] w fun r w' => r = .returned (.int .i64 (lg p : Int)) ∧ Below w.heap.size w w' := by
  have hl2 : (lb p).length ≤ 2 := lb_64 hp.out
  go_enter Tryd.func44, Tryd.ntmps44
  go_wp2_with fail
  refine (nofn_any p w hp).mono ?_
  rintro r w1 ⟨q, c, rfl, hN, hb, hf⟩
  have hB1 : Below w.heap.size w (w1.alloc (.cells #[.slice q (lb p).length c] 25)) := hb.alloc hb.size _
  have k1 := Boxed.new w1 25 (.slice q (lb p).length c)
  have hN1 : NatIn (w1.alloc (.cells #[.slice q (lb p).length c] 25)) q c p := hN.alloc _
  have hq1 : ∀ a, q = some a → a.block ≠ w1.heap.size := by rintro a rfl; have := hN.lt; omega
  have hg1 : w1.heap.size < (w1.alloc (.cells #[.slice q (lb p).length c] 25)).heap.size := by simp
  have hw1 : w.heap.size ≤ w1.heap.size := hb.size
  clear hN hb hf
  go_wp2_with fail
  generalize w1.alloc (.cells #[.slice q (lb p).length c] 25) = W at hB1 k1 hN1 hg1 ⊢
  generalize w1.heap.size = gl at k1 hq1 hg1 hw1 ⊢
  go_loopw [6] (fun s6 wr => ∃ (i y : Nat) (q : Option Addr) (c : Nat), i ≤ 8 ∧ s6 = .int .i64 (i : Int) ∧ Hid (y = p ^ 2 ^ i) ∧ Hid ((lb y).length ≤ 2 ^ (i + 1)) ∧ Boxed wr gl 25 (.slice q (lb y).length c) ∧ NatIn wr q c y ∧ Below w.heap.size w wr ∧ gl < wr.heap.size ∧ (∀ a, q = some a → a.block ≠ gl)) (fun i _ => 8 - (intOf i).toNat)
  case atStart => exact ⟨0, p, q, c, by omega, rfl, Lib.hid (by simp), hl2, k1, hN1, hB1, hg1, hq1⟩
  case round =>
    clear k1 hN1 hB1 hg1 hq1 hl2
    obtain ⟨i, y, q, c, hi, rfl, hy, hly, kb, hN, hB, hg, hq⟩ := hrel
    have hly2 : (lb y).length ≤ 512 := Nat.le_trans hly.out (Nat.le_trans (Nat.pow_le_pow_right (by decide) (show i + 1 ≤ 9 by omega)) (by decide))
    have c1 := kb.cell
    by_cases hi8 : i < 8
    · go_wp2_with fail
      refine (mul_any q q c c y y wr hN hN (by omega) (by omega)).mono ?_
      rintro r w2 ⟨q2, c2, rfl, hN2, hb2, hf2⟩
      obtain ⟨z, hz⟩ : ∃ z, z = y * y := ⟨_, rfl⟩
      rw [← hz] at hN2 ⊢
      have k2 := Boxed.below' kb hb2 hg
      have hB2 := hB.trans (hb2.mono hB.size)
      have cc := k2.cell
      have ff := k2.frozen
      have hq2 : ∀ a, q2 = some a → a.block ≠ gl := by intro a e; have := hf2 a e; omega
      have hzp : Hid (z = p ^ 2 ^ (i + 1)) := Lib.hid (by rw [hz, hy.out, ← Nat.pow_add, Nat.pow_succ 2 i, show 2 ^ i * 2 = 2 ^ i + 2 ^ i by omega])
      have hzl : Hid ((lb z).length ≤ 2 ^ (i + 1 + 1)) := Lib.hid (by rw [hz]; have := lb_mul y y; have := hly.out; rw [Nat.pow_succ 2 (i + 1)]; omega)
      have hg2 : gl < w2.heap.size := Nat.lt_of_lt_of_le hg hb2.size
      clear hz c1 kb hN hB hb2 hf2 hq hy hly
      go_wp2_with fail
      go_roundw
      case rel => exact ⟨i + 1, z, q2, c2, by omega, by simp, hzp, hzl, k2.set _, hN2.other ⟨gl, 0, none⟩ _ hq2, hB2.setCell (p := ⟨gl, 0, none⟩) hw1 _, by have := (grownBy_setCell' w2 gl (.slice q2 (lb z).length c2)).size; omega, hq2⟩
      case measure => simp [intOf]; omega
    · obtain rfl : i = 8 := by omega
      have hbl := bl_le hly2
      have hlg : lg p = bl y - 1 := by unfold lg; rw [hy.out]
      have Hlg := Lib.hid hlg
      clear hlg
      go_wp2_with fail
      refine (bits_any q c y wr hN (by omega)).mono ?_
      rintro r w2 ⟨rfl, hb2⟩
      have hB2 := hB.trans (hb2.mono hB.size)
      clear c1 kb hN hB hb2
      go_wp2_with fail
      go_ret
      exact ⟨congrArg (fun z => Ending.returned (.int .i64 z)) (by rw [Hlg.out]; omega), hB2⟩
end Go.Proofs.YtepibfpdkjkdjaaDoor
