import Derived.Test.YtkejidmomnmdbaaDoorD8
namespace Go.Proofs.YtkejidmomnmdbaaDoor
open Go.RowKit

set_option maxHeartbeats 400000 in
theorem turn_any (x n : Nat) (w : World) (hx : x < 4294967296) (hn : n ≤ 32) :
    Calls Tryd.prog 90 #[.int .u64 x, .int .i64 (n : Int)] w fun r w' => r = .returned (.int .u64 (rotr x n : Int)) ∧ w = w' := by
  obtain ⟨x0, hx0⟩ : ∃ x0, x0 = x := ⟨_, rfl⟩
  have hs : x = rotr x0 0 := by rw [hx0, rotr_zero]
  rw [← hx0] at hx ⊢
  go_enter Tryd.func90, Tryd.ntmps90
  go_wp2_with fail
  go_loopw [0, 5] (fun y i wr => ∃ k : Nat, k ≤ n ∧ y = .int .u64 (rotr x0 k : Int) ∧ i = .int .i64 k ∧ w = wr) (fun _ i _ => n - (intOf i).toNat)
  case atStart => exact ⟨0, by omega, by rw [rotr_zero], rfl, rfl⟩
  case round =>
    obtain ⟨k, hk, rfl, rfl, rfl⟩ := hrel
    by_cases hlt : k < n
    · have hsu := rotr_succ x0 k (by omega)
      have hr1 := rotr_lt x0 k hx (by omega)
      generalize rotr x0 k = y at hsu hr1
      have H := Lib.hid hsu
      have h1 : (k : Int) < n := by omega
      have y0 : (0 : Int) ≤ y := by omega
      have d1 : (y : Int).tdiv 2 = ((y / 2 : Nat) : Int) := by rw [Int.tdiv_eq_ediv_of_nonneg y0]; omega
      have d2 : (y : Int).tmod 2 = ((y % 2 : Nat) : Int) := by rw [Int.tmod_eq_emod_of_nonneg y0]; omega
      have b1 : y / 2 < 2147483648 := by omega
      have b2 : y % 2 < 2 := by omega
      generalize y / 2 = p at *
      generalize y % 2 = q at *
      clear hsu
      go_wp2_with fail
      go_roundw
      case rel => exact ⟨k + 1, by omega, by rw [H.out]; go_num, by go_num, trivial⟩
      case measure => simp [intOf]; omega
    · obtain rfl : k = n := by omega
      go_wp2_with fail
      go_ret
      exact ⟨rfl, rfl⟩
theorem div_pow_succ (x k : Nat) : x / 2 ^ (k + 1) = x / 2 ^ k / 2 := by rw [Nat.pow_succ, Nat.div_div_eq_div_mul]

set_option maxHeartbeats 400000 in
theorem down_any (x n : Nat) (w : World) (hx : x < 4294967296) (hn : n ≤ 32) :
    Calls Tryd.prog 91 #[.int .u64 x, .int .i64 (n : Int)] w fun r w' => r = .returned (.int .u64 ((x / 2 ^ n : Nat) : Int)) ∧ w = w' := by
  obtain ⟨f, hf⟩ : ∃ f : Nat → Nat, f = fun k => x / 2 ^ k := ⟨_, rfl⟩
  have f0 : x = f 0 := by rw [hf]; simp
  have fs : ∀ k, f (k + 1) = f k / 2 := by intro k; rw [hf]; exact div_pow_succ x k
  have fl : ∀ k, f k < 4294967296 := by intro k; rw [hf]; exact Nat.lt_of_le_of_lt (Nat.div_le_self _ _) hx
  have fn : x / 2 ^ n = f n := by rw [hf]
  rw [fn]
  have F0 := Lib.hid f0
  have Fs := Lib.hid fs
  clear hf f0 fs fn
  go_enter Tryd.func91, Tryd.ntmps91
  go_wp2_with fail
  go_loopw [0, 5] (fun y i wr => ∃ k : Nat, k ≤ n ∧ y = .int .u64 (f k : Int) ∧ i = .int .i64 k ∧ w = wr) (fun _ i _ => n - (intOf i).toNat)
  case atStart => exact ⟨0, by omega, by rw [← F0.out], rfl, rfl⟩
  case round =>
    obtain ⟨k, hk, rfl, rfl, rfl⟩ := hrel
    by_cases hlt : k < n
    · have hsu := Fs.out k
      have hr1 := fl k
      generalize f k = y at hsu hr1
      have H := Lib.hid hsu
      have h1 : (k : Int) < n := by omega
      have y0 : (0 : Int) ≤ y := by omega
      have d1 : (y : Int).tdiv 2 = ((y / 2 : Nat) : Int) := by rw [Int.tdiv_eq_ediv_of_nonneg y0]; omega
      have b1 : y / 2 < 2147483648 := by omega
      generalize y / 2 = p at *
      clear hsu
      go_wp2_with fail
      go_roundw
      case rel => exact ⟨k + 1, by omega, by rw [H.out], by go_num, trivial⟩
      case measure => simp [intOf]; omega
    · obtain rfl : k = n := by omega
      go_wp2_with fail
      go_ret
      exact ⟨rfl, rfl⟩

set_option maxHeartbeats 400000 in
set_option maxRecDepth 100000 in
theorem keys_any (w : World) :
    Calls Tryd.prog 89 #[] w fun r w' => r = .returned (.slice (some ⟨w.heap.size, 0, none⟩) 64 64) ∧ Mod (fun _ => False) w w' ∧ RowAt .u64 37 w' w.heap.size kTab := by
  go_enter Tryd.func89, Tryd.ntmps89
  go_wp2_with fail
  generalize hW : w.alloc _ = W
  have h1 : Mod (fun _ => False) w W ∧ RowAt .u64 37 W w.heap.size kTab := by rw [← hW]; exact ⟨(Mod.refl _ _).alloc _, heap_alloc_new _ _⟩
  clear hW
  go_ret
  exact ⟨rfl, h1⟩
end Go.Proofs.YtkejidmomnmdbaaDoor
