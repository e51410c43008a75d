import Derived.Test.YtplldnmhehiabaaC5
namespace Go.Proofs.Ytplldnmhehiabaa
open Go.RowKit

theorem beBytes_small (n : Nat) (h : 0 < n) (h2 : n < 256) : beBytes n = [UInt8.ofNat n] := by
  rw [beBytes_pos n h, show n / 256 = 0 by omega, beBytes_zero, Nat.mod_eq_of_lt h2]; rfl
theorem numL_small (n : Nat) (h : 0 < n) (h2 : n < 256) : numL n = [1, UInt8.ofNat n] := by
  unfold numL; rw [Int.toNat_natCast, beBytes_small n h h2]; rfl
theorem numL_258 : numL 258 = [2, 1, 2] := by
  unfold numL
  rw [show (258 : Int).toNat = 258 from rfl, beBytes_pos 258 (by decide), show 258 / 256 = 1 from rfl, beBytes_small 1 (by decide) (by decide)]
  rfl

/-- A fresh struct of no bytes, behind more blocks. -/
theorem OutAt.at_ {w : World} {b : Nat} (h : w.heap[b]? = some (.cells #[.slice none 0 0] 25 (0, 0))) : OutAt 25 5 w b (.slice none 0 0) [] :=
  ⟨h, World.ownsRow_nil _ _ _ _, by simp [Value.ownBlock]⟩

set_option maxHeartbeats 400000 in
theorem awake_any (w : World) : Calls Try.prog 5 #[] w fun r w' => r = .returned (.bool true) ∧ Below w.heap.size w w' := by
  have hO : OutAt 25 5 (w.alloc (.cells #[.slice none 0 0] 25)) w.heap.size (.slice none 0 0) [] := OutAt.fresh w
  go_enter Try.func5, Try.ntmps5
  go_wp2_with fail
  refine (num_any 258 w.heap.size _ [] _ (by omega) (by omega) hO (by simp)).mono ?_
  rintro r w1 ⟨rfl, v1, hO1, hM1, hv1⟩
  rw [numL_258] at hO1
  go_wp2_with fail
  refine (text_any w.heap.size v1 _ [97, 98] w1 hO1 (by simp) (by simp)).mono ?_
  rintro r w2 ⟨rfl, v2, hO2, hM2, hv2⟩
  go_wp2_with fail
  refine (bytes_any w.heap.size v2 _ w2 hO2).mono ?_
  rintro r w3 ⟨rfl, rfl⟩
  have e : ([] ++ [2, 1, 2] ++ (numL ([97, 98] : List UInt8).length ++ [97, 98]) : List UInt8) = [2, 1, 2, 1, 2, 97, 98] := by
    rw [show numL (([97, 98] : List UInt8).length : Int) = [1, 2] from numL_small 2 (by decide) (by decide)]; rfl
  rw [e]
  have hB : Below w.heap.size w w2 := by
    refine (((Below.refl _ _).alloc (Nat.le_refl _) _).trans (hM1.to_below (by simp) ?_)).trans (hM2.to_below ?_ ?_)
    · intro k hk h; rcases h with h | h
      · omega
      · simp [Value.ownBlock] at h
    · have := hM1.size; simp at this; omega
    · intro k hk h; rcases h with h | h
      · omega
      · rcases hv1 with h' | h'
        · rw [h'] at h; simp [Value.ownBlock] at h
        · have := h' k h; simp at this; omega
  clear hO1 hO2 hM1 hM2 hv1 hv2 hO e
  go_wp2_with fail
  go_ret
  exact ⟨rfl, hB⟩

end Go.Proofs.Ytplldnmhehiabaa
