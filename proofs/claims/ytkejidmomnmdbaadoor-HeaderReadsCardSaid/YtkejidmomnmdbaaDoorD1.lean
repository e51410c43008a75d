import Derived.Test.YtkejidmomnmdbaaDoorRows
import Derived.Test.YtkejidmomnmdbaaDoorLib
import Derived.Test.YtkejidmomnmdbaaDoorSha
import Derived.Outline
namespace Go.Proofs.YtkejidmomnmdbaaDoor
open Go.RowKit

theorem word_bits (a b c d : Nat) (ha : a < 256) (hb : b < 256) (hc : c < 256) (hd : d < 256) :
    bits BinOp.or IntKind.u32 (bits BinOp.or IntKind.u32 (bits BinOp.or IntKind.u32 ((a : Int) * 16777216) ((b : Int) * 65536)) ((c : Int) * 256)) (d : Int) = ((a * 16777216 + b * 65536 + c * 256 + d : Nat) : Int) := by
  have h := word_or a b c d hb hc hd
  have f : ∀ x y : Nat, x < 4294967296 → y < 4294967296 → x ||| y < 4294967296 := fun x y h1 h2 => Nat.or_lt_two_pow (n := 32) h1 h2
  rw [show (a : Int) * 16777216 = ((a * 16777216 : Nat) : Int) by omega, show (b : Int) * 65536 = ((b * 65536 : Nat) : Int) by omega, show (c : Int) * 256 = ((c * 256 : Nat) : Int) by omega,
    u32_or_nat _ _ (by omega) (by omega), u32_or_nat _ _ (f _ _ (by omega) (by omega)) (by omega), u32_or_nat _ _ (f _ _ (f _ _ (by omega) (by omega)) (by omega)) (by omega), h]

set_option maxHeartbeats 400000 in
theorem word_any (a b c d : Nat) (w : World) (ha : a < 256) (hb : b < 256) (hc : c < 256) (hd : d < 256) :
    Calls Tryd.prog 92 #[.int .u8 a, .int .u8 b, .int .u8 c, .int .u8 d] w fun r w' => r = .returned (.int .u32 ((a * 16777216 + b * 65536 + c * 256 + d : Nat) : Int)) ∧ w = w' := by
  rw [← word_bits a b c d ha hb hc hd]
  go_enter Tryd.func92, Tryd.ntmps92
  go_wp2
  go_ret
  exact ⟨rfl, rfl⟩

theorem rot_bits (x n : Nat) (hx : x < 4294967296) (h1 : 1 ≤ n) (h2 : n ≤ 31) :
    bits BinOp.or IntKind.u32 (IntKind.u32.wrap ((x : Int) * 2 ^ (32 - n))) ((x : Int) / 2 ^ n) = (rotr x n : Int) := by
  have hp : 0 < 2 ^ n := Nat.two_pow_pos n
  rw [IntKind.wrap_u32, show (x : Int) * 2 ^ (32 - n) % 4294967296 = ((x * 2 ^ (32 - n) % 4294967296 : Nat) : Int) by rw [Int.natCast_emod, Int.natCast_mul, Int.natCast_pow]; rfl,
    show (x : Int) / 2 ^ n = ((x / 2 ^ n : Nat) : Int) by rw [Int.natCast_ediv, Int.natCast_pow]; rfl,
    u32_or_nat _ _ (Nat.mod_lt _ (by decide)) (Nat.lt_of_le_of_lt (Nat.div_le_self _ _) hx), rotr_or x n hx h1 h2]

set_option maxHeartbeats 400000 in
theorem rotl_any (x n : Nat) (w : World) (hx : x < 4294967296) (h1 : 1 ≤ n) (h2 : n ≤ 31) :
    Calls Tryd.prog 194 #[.int .u32 x, .int .i64 (-(n : Int))] w fun r w' => r = .returned (.int .u32 (rotr x n : Int)) ∧ w = w' := by
  obtain ⟨m, hm⟩ : ∃ m, m = 32 - n := ⟨_, rfl⟩
  have e1 : IntKind.u64.wrap (-(n : Int)) = ((18446744073709551616 - n : Nat) : Int) := by rw [IntKind.wrap_u64]; omega
  have e2 : bits BinOp.and IntKind.u64 (IntKind.u64.wrap (-(n : Int))) 31 = (m : Int) := by
    rw [e1, show (31 : Int) = ((31 : Nat) : Int) from rfl, u64_and_nat _ _ (by omega) (by omega), Nat.and_two_pow_sub_one_eq_mod _ 5]
    omega
  clear e1
  have e3 : IntKind.u64.wrap (32 - (m : Int)) = (n : Int) := by rw [IntKind.wrap_u64]; omega
  have e4 : (32 : Int) - m = n := by omega
  have Hb := Lib.hid (rot_bits x n hx h1 h2)
  have hm31 : m ≤ 31 := by omega
  have Hm := Lib.hid hm
  clear hm
  go_enter Tryd.func194, Tryd.ntmps194
  go_wp2
  go_ret
  exact ⟨by rw [← Hb.out, ← Hm.out]; rfl, rfl⟩

set_option maxHeartbeats 400000 in
theorem dright_any (x n : Nat) (w : World) (hx : x < 4294967296) (h1 : 1 ≤ n) (h2 : n ≤ 31) :
    Calls Tryd.prog 183 #[.int .u32 x, .int .i64 (n : Int)] w fun r w' => r = .returned (.int .u32 (rotr x n : Int)) ∧ w = w' := by
  go_enter Tryd.func183, Tryd.ntmps183
  go_wp2_with fail
  refine (rotl_any x n w hx h1 h2).mono ?_
  rintro r w' ⟨rfl, rfl⟩
  go_wp2_with fail
  go_ret
  exact ⟨rfl, rfl⟩
end Go.Proofs.YtkejidmomnmdbaaDoor
