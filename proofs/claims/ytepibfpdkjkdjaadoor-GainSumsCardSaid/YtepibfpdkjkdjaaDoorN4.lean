import Derived.Test.YtepibfpdkjkdjaaDoorN3
import Derived.Laws.BitsAllLaws
namespace Go.Proofs.YtepibfpdkjkdjaaDoor
open Go.RowKit

theorem top_not (x : Nat) (h : x < 4294967296) : (4294967295 - x) / 2147483648 = 1 - x / 2147483648 := by omega
theorem top_and (a b : Nat) : (a &&& b) / 2147483648 = (a / 2147483648 &&& b / 2147483648) := by
  have := Nat.shiftRight_and_distrib (a := a) (b := b) (i := 31); simpa [Nat.shiftRight_eq_div_pow] using this
theorem top_or (a b : Nat) : (a ||| b) / 2147483648 = (a / 2147483648 ||| b / 2147483648) := by
  have := Nat.shiftRight_or_distrib (a := a) (b := b) (i := 31); simpa [Nat.shiftRight_eq_div_pow] using this
theorem top_xor (a b : Nat) : (a ^^^ b) / 2147483648 = (a / 2147483648 ^^^ b / 2147483648) := by
  have := Nat.shiftRight_xor_distrib (a := a) (b := b) (i := 31); simpa [Nat.shiftRight_eq_div_pow] using this
theorem xor_lt32 (a b : Nat) (ha : a < 4294967296) (hb : b < 4294967296) : a ^^^ b < 4294967296 := Nat.xor_lt_two_pow (n := 32) ha hb
theorem and_lt32 (a b : Nat) (hb : b < 4294967296) : a &&& b < 4294967296 := Nat.and_lt_two_pow (n := 32) a hb
/-- The borrow, by the bits. -/
theorem borrow_bits (x y c : Nat) (hx : x < 4294967296) (hy : y < 4294967296) (hc : c ≤ 1) :
    (((4294967295 - x) &&& y) ||| ((4294967295 - (x ^^^ y)) &&& ((4294967296 + x - y - c) % 4294967296))) / 2147483648 = if x < y + c then 1 else 0 := by
  rw [top_or, top_and, top_and, top_not x hx, top_not _ (xor_lt32 _ _ hx hy), top_xor]
  obtain ⟨d, hd⟩ : ∃ d, d = (4294967296 + x - y - c) % 4294967296 := ⟨_, rfl⟩
  rw [← hd]
  have dx : x / 2147483648 = 0 ∨ x / 2147483648 = 1 := by omega
  have dy : y / 2147483648 = 0 ∨ y / 2147483648 = 1 := by omega
  have dd : d / 2147483648 = 0 ∨ d / 2147483648 = 1 := by omega
  rcases dx with ex | ex <;> rcases dy with ey | ey <;> rcases dd with ed | ed <;> rw [ex, ey, ed] <;> simp <;> omega

theorem not32 (e : Nat) (be : e < 4294967296) : bits BinOp.xor IntKind.u32 (if IntKind.u32.signed = true then -1 else IntKind.u32.max) (e : Int) = ((4294967295 - e : Nat) : Int) := by
  rw [if_neg (by decide), show IntKind.u32.max = ((4294967295 : Nat) : Int) from rfl, u32_xor_nat _ _ (by decide) be]
  have h := BitVec.toNat_not (x := BitVec.ofNat 32 e)
  have h2 : (~~~ BitVec.ofNat 32 e) = BitVec.allOnes 32 ^^^ BitVec.ofNat 32 e := by rw [BitVec.allOnes_xor]
  rw [h2, BitVec.toNat_xor, BitVec.toNat_allOnes, BitVec.toNat_ofNat, Nat.mod_eq_of_lt (by omega)] at h
  exact congrArg Int.ofNat h

set_option maxHeartbeats 400000 in
theorem sub32_any (x y c : Nat) (w : World) (hx : x < 4294967296) (hy : y < 4294967296) (hc : c ≤ 1) :
    Calls Tryd.prog 52 #[.int .u32 x, .int .u32 y, .int .u32 c] w fun r w' => r = .returned (.tuple #[.int .u32 (((4294967296 + x - y - c) % 4294967296 : Nat) : Int), .int .u32 ((if x < y + c then 1 else 0 : Nat) : Int)]) ∧ w = w' := by
  have hb := borrow_bits x y c hx hy hc
  obtain ⟨d, hd⟩ : ∃ d, d = (4294967296 + x - y - c) % 4294967296 := ⟨_, rfl⟩
  obtain ⟨d1, hd1⟩ : ∃ d, d = (4294967296 + x - y) % 4294967296 := ⟨_, rfl⟩
  obtain ⟨o, ho⟩ : ∃ o, o = (((4294967295 - x) &&& y) ||| ((4294967295 - (x ^^^ y)) &&& d)) := ⟨_, rfl⟩
  obtain ⟨q1, hq1⟩ : ∃ q, q = (4294967295 - x) &&& y := ⟨_, rfl⟩
  obtain ⟨z, hz⟩ : ∃ q, q = x ^^^ y := ⟨_, rfl⟩
  obtain ⟨q2, hq2⟩ : ∃ q, q = (4294967295 - z) &&& d := ⟨_, rfl⟩
  obtain ⟨nx, hnx⟩ : ∃ q, q = 4294967295 - x := ⟨_, rfl⟩
  obtain ⟨nz, hnz⟩ : ∃ q, q = 4294967295 - z := ⟨_, rfl⟩
  have ld : d < 4294967296 := by rw [hd]; exact Nat.mod_lt _ (by decide)
  have lz : z < 4294967296 := by rw [hz]; exact xor_lt32 _ _ hx hy
  have l1 : q1 < 4294967296 := by rw [hq1]; exact and_lt32 _ _ hy
  have l2 : q2 < 4294967296 := by rw [hq2]; exact and_lt32 _ _ ld
  rw [← hd] at hb ⊢
  rw [← ho] at hb
  rw [← hb]
  obtain ⟨bo, hbo⟩ : ∃ q, q = o / 2147483648 := ⟨_, rfl⟩
  rw [← hbo]
  have e1 : ((x : Int) - y) % 4294967296 = d1 := by omega
  have e2 : ((d1 : Int) - c) % 4294967296 = d := by omega
  have e3 : bits BinOp.xor IntKind.u32 (if IntKind.u32.signed = true then -1 else IntKind.u32.max) (x : Int) = (nx : Int) := by rw [hnx]; exact not32 x hx
  have e4 : bits BinOp.and IntKind.u32 (nx : Int) (y : Int) = (q1 : Int) := by rw [hq1, ← hnx]; exact u32_and_nat _ _ (by omega) hy
  have e5 : bits BinOp.xor IntKind.u32 (x : Int) (y : Int) = (z : Int) := by rw [hz]; exact u32_xor_nat _ _ hx hy
  have e6 : bits BinOp.xor IntKind.u32 (if IntKind.u32.signed = true then -1 else IntKind.u32.max) (z : Int) = (nz : Int) := by rw [hnz]; exact not32 z lz
  have e7 : bits BinOp.and IntKind.u32 (nz : Int) (d : Int) = (q2 : Int) := by rw [hq2, ← hnz]; exact u32_and_nat _ _ (by omega) ld
  have e8 : bits BinOp.or IntKind.u32 (q1 : Int) (q2 : Int) = (o : Int) := by rw [ho, ← hz, ← hnz, ← hnx]; rw [hq1, hq2, ← hnx, ← hnz]; exact u32_or_nat _ _ (and_lt32 _ _ hy) (and_lt32 _ _ ld)
  have e9 : (o : Int) / 2147483648 = bo := by omega
  clear hd hd1 ho hq1 hz hq2 hnx hnz hb hbo
  go_enter Tryd.func52, Tryd.ntmps52
  go_wp2_with fail
  go_ret2
  exact ⟨by show Ending.returned (.tuple #[.int .u32 (((d1 : Int) - c) % 4294967296), .int .u32 bo]) = _; rw [e2], rfl⟩

set_option maxHeartbeats 400000 in
theorem div32_any (hi lo d : Nat) (w : World) (hd : hi < d) (hlo : lo < 4294967296) (hdd : d < 4294967296) :
    Calls Tryd.prog 64 #[.int .u32 hi, .int .u32 lo, .int .u32 d] w fun r w' => r = .returned (.tuple #[.int .u32 (((hi * 4294967296 + lo) / d : Nat) : Int), .int .u32 (((hi * 4294967296 + lo) % d : Nat) : Int)]) ∧ ∃ n, w' = w.drewN n := by
  obtain ⟨z, hz⟩ : ∃ z, z = hi * 4294967296 + lo := ⟨_, rfl⟩
  rw [← hz]
  obtain ⟨q, hq⟩ : ∃ q, q = z / d := ⟨_, rfl⟩
  obtain ⟨r, hr⟩ : ∃ r, r = z % d := ⟨_, rfl⟩
  rw [← hq, ← hr]
  have e1 : bits BinOp.or IntKind.u64 ((hi : Int) * 4294967296) (lo : Int) = (z : Int) := by
    rw [show (hi : Int) * 4294967296 = ((hi * 4294967296 : Nat) : Int) by omega, u64_or_nat _ _ (by omega) (by omega), hz]
    congr 1
    rw [Nat.mul_comm]; exact (Nat.two_pow_add_eq_or_of_lt (i := 32) hlo hi).symm
  have d0 : 0 < d := by omega
  have e2 : (z : Int) / d = q := by rw [hq]; exact (Int.natCast_ediv _ _).symm
  have e3 : (z : Int) % d = r := by rw [hr]; exact (Int.natCast_emod _ _).symm
  have e4 : (z : Int).tdiv d = q := by rw [Int.tdiv_eq_ediv_of_nonneg (by omega)]; exact e2
  have e5 : (z : Int).tmod d = r := by rw [Int.tmod_eq_emod_of_nonneg (by omega)]; exact e3
  have lq : q < 4294967296 := by
    rw [hq, Nat.div_lt_iff_lt_mul d0, hz]
    have := Nat.mul_le_mul_right 4294967296 (show hi + 1 ≤ d by omega)
    rw [Nat.mul_comm 4294967296 d]; omega
  have lr : r < 4294967296 := by rw [hr]; have := Nat.mod_lt z d0; omega
  have e6 : (q : Int) % 4294967296 = q := by omega
  have e7 : (r : Int) % 4294967296 = r := by omega
  have b1 : ((d : Int) != 0) = true := by rw [bne_iff_ne]; omega
  have b2 : ¬ d ≤ hi := by omega
  have b3 : ¬ (d : Int) = 0 := by omega
  have b4 : ((d : Int) == 0) = false := by rw [beq_eq_false_iff_ne]; omega
  have d1 : (0 : Int) < d := by omega
  have z0 : (0 : Int) ≤ z := by omega
  clear hz hq hr
  go_enter Tryd.func64, Tryd.ntmps64
  go_wp2_with fail
  go_quiet (fail)
  go_wp2_with fail
  go_ret2
  exact ⟨rfl, _, rfl⟩
end Go.Proofs.YtepibfpdkjkdjaaDoor
