import Derived.Test.YtepibfpdkjkdjaaDoorN8
import Derived.Deep.RegionHeld3
import Derived.Lib.ItoaNum
namespace Go.Proofs.YtepibfpdkjkdjaaDoor
open Go.RowKit

/-- How many bits a number has. -/
def bl (n : Nat) : Nat := (dg 2 n).length
theorem bl_zero : bl 0 = 0 := by unfold bl; rw [dg_zero]; rfl
theorem bl_unique {x L : Nat} (h0 : 1 ≤ L) (h1 : 2 ^ (L - 1) ≤ x) (h2 : x < 2 ^ L) : bl x = L := by
  have a := dg_len_le 2 (by decide) x L h2
  have b : ¬ bl x ≤ L - 1 := by
    intro hle
    have h3 : x < 2 ^ bl x := lt_pow_dg 2 (by decide) x
    have h4 : 2 ^ bl x ≤ 2 ^ (L - 1) := Nat.pow_le_pow_right (by decide) hle
    omega
  unfold bl at *
  omega
theorem bl_bounds {x : Nat} (h : x ≠ 0) : 1 ≤ bl x ∧ 2 ^ (bl x - 1) ≤ x ∧ x < 2 ^ bl x := by
  have h1 : 0 < bl x := by
    apply Nat.pos_of_ne_zero; intro e
    exact h (dg_nil 2 (by decide) (List.eq_nil_of_length_eq_zero e))
  exact ⟨h1, pow_le_dg 2 (by decide) x h1, lt_pow_dg 2 (by decide) x⟩
theorem bl_lib (x : Nat) (hx : x < 4294967296) : Lib.bitLen x = bl x := by
  by_cases h : x = 0
  · subst h; rw [bl_zero]; rfl
  · have hb := Lib.bitLenAux_bounds 64 x (Nat.lt_trans hx (by decide)) h
    exact (bl_unique hb.1 hb.2.1 hb.2.2).symm
theorem bl_limbs {x n : Nat} (hn : (lb x).length = n + 1) : bl x = 32 * n + bl (x / 4294967296 ^ n) := by
  have h1 : 4294967296 ^ n ≤ x := by
    have := pow_le_dg 4294967296 (by decide) x (by show 0 < (lb x).length; omega)
    change 4294967296 ^ ((lb x).length - 1) ≤ x at this
    rwa [hn, Nat.add_sub_cancel] at this
  have hp : (4294967296 : Nat) ^ n = 2 ^ (32 * n) := by rw [Nat.pow_mul]
  have hpos : 0 < (4294967296 : Nat) ^ n := Nat.pow_pos (by decide)
  have hq : x / 4294967296 ^ n ≠ 0 := by
    have := Nat.div_pos h1 hpos; omega
  obtain ⟨b1, b2, b3⟩ := bl_bounds hq
  apply bl_unique (by omega)
  · rw [show 32 * n + bl (x / 4294967296 ^ n) - 1 = 32 * n + (bl (x / 4294967296 ^ n) - 1) by omega, Nat.pow_add, ← hp]
    have := Nat.mul_le_mul_left (4294967296 ^ n) b2
    have h3 := Nat.mul_div_le x (4294967296 ^ n)
    omega
  · rw [Nat.pow_add, ← hp]
    have h3 := Nat.mul_le_mul_left (4294967296 ^ n) (show x / 4294967296 ^ n + 1 ≤ 2 ^ bl (x / 4294967296 ^ n) from b3)
    have h4 := Nat.lt_mul_div_succ x hpos
    omega

theorem bl_le {y n : Nat} (h : (lb y).length ≤ n) : bl y ≤ 32 * n := by
  apply dg_len_le 2 (by decide)
  have h1 := lt_pow_dg 4294967296 (by decide) y
  change y < 4294967296 ^ (lb y).length at h1
  have h2 : (4294967296 : Nat) ^ (lb y).length ≤ 4294967296 ^ n := Nat.pow_le_pow_right (by decide) h
  rw [Nat.pow_mul]
  exact Nat.lt_of_lt_of_le h1 h2
theorem lb_mul (x y : Nat) : (lb (x * y)).length ≤ (lb x).length + (lb y).length := dg_len_mul _ (by decide) x y
theorem lb_add (x y : Nat) : (lb (x + y)).length ≤ max (lb x).length (lb y).length + 1 := dg_len_add _ (by decide) x y
theorem lb_le {x y : Nat} (h : x ≤ y) : (lb x).length ≤ (lb y).length := dg_len_mono _ (by decide) h
theorem lb_64 {x : Nat} (h : x < 18446744073709551616) : (lb x).length ≤ 2 := dg_len_le _ (by decide) x 2 h

set_option maxHeartbeats 1000000 in
theorem bits_any (p : Option Addr) (cp x : Nat) (w : World) (hx : NatIn w p cp x) (lx : (lb x).length ≤ 100000) :
    Calls Tryd.prog 30 #[.agg #[.slice p (lb x).length cp]] w fun r w' => r = .returned (.int .i64 (bl x : Int)) ∧ Below w.heap.size w w' := by
  by_cases hx0 : x = 0
  · subst hx0
    have e0 : (0 == 0) = true := rfl
    rw [bl_zero]
    go_enter Tryd.func30, Tryd.ntmps30
    go_wp2_with fail
    refine (zero_any p cp 0 _).mono ?_
    rintro r w1 ⟨rfl, hb⟩
    have hB : Below w.heap.size w w1 := ((Below.refl _ _).alloc (Nat.le_refl _) _).trans (hb.mono (by simp))
    clear hb
    go_wp2_with fail
    go_ret
    exact ⟨rfl, hB⟩
  · have e0 : (x == 0) = false := by rw [beq_eq_false_iff_ne]; exact hx0
    have hne : lb x ≠ [] := fun e => hx0 (lb_nil.1 e)
    obtain ⟨g, rfl⟩ := hx.isPtr hne
    obtain ⟨n, hn⟩ : ∃ n, (lb x).length = n + 1 := ⟨(lb x).length - 1, by have := List.length_pos_iff.2 hne; omega⟩
    obtain ⟨t, ht⟩ : ∃ t, t = x / 4294967296 ^ n := ⟨_, rfl⟩
    have ht32 : t < 4294967296 := by
      have := lt_pow_dg 4294967296 (by decide) x
      change x < 4294967296 ^ (lb x).length at this
      rw [hn, Nat.pow_succ] at this
      rw [ht, Nat.div_lt_iff_lt_mul (Nat.pow_pos (by decide)), Nat.mul_comm]; exact this
    have hbl : bl x = 32 * n + bl t := by rw [ht]; exact bl_limbs hn
    have hlt : n < (lb x).length := by omega
    have hcl : (lb x)[n]'hlt = t := by
      have := dg_at 4294967296 (by decide) x n hlt
      change (lb x)[n]'hlt = _ at this
      rw [this, ← ht, Nat.mod_eq_of_lt ht32]
    have Hbl := Lib.hid hbl
    have hz := zero_any (some ⟨g, 0, none⟩) cp x (w.alloc (.cells #[.slice (some ⟨g, 0, none⟩) (lb x).length cp] 25))
    have htb : bl t ≤ 32 := dg_len_le 2 (by decide) t 32 (Nat.lt_of_lt_of_le ht32 (by decide))
    rw [hn] at lx hz ⊢
    have Hn := Lib.hid hn
    have hc : w.cell? ⟨g, n, none⟩ = some (.int .u32 (t : Int)) := by have := hx.cell n hlt; rw [hcl] at this; exact this
    have hgl : g < w.heap.size := hx.lt
    clear hn ht hbl hcl
    go_enter Tryd.func30, Tryd.ntmps30
    go_wp2_with fail
    refine hz.mono ?_
    clear hz
    rintro r w1 ⟨rfl, hb⟩
    have k1 : Boxed w1 w.heap.size 25 (.slice (some ⟨g, 0, none⟩) (n + 1) cp) := Boxed.below' (Boxed.new w _ _) hb (by simp)
    have hB : Below w.heap.size w w1 := ((Below.refl _ _).alloc (Nat.le_refl _) _).trans (hb.mono (by simp))
    have c1 := k1.cell
    have hc1 : w1.cell? ⟨g, n, none⟩ = some (.int .u32 (t : Int)) := (hB.cell (p := ⟨g, n, none⟩) hgl).trans hc
    have i0 : (0 : Int) ≤ n := by omega
    have i1 : (n : Int) < n + 1 := by omega
    have w1' : IntKind.i64.wrap (32 * (n : Int)) = 32 * (n : Int) := by rw [IntKind.wrap_i64]; omega
    clear hb k1 hc
    go_wp2_with fail
    refine (Tryd.bits_Len32 (t : Int) w1 (by omega) (by omega)).mono ?_
    rintro r w2 ⟨rfl, rfl⟩
    rw [Int.toNat_natCast, bl_lib t ht32]
    have w2' : IntKind.i64.wrap (32 * (n : Int) + bl t) = 32 * (n : Int) + bl t := by rw [IntKind.wrap_i64]; omega
    go_wp2_with fail
    go_ret
    exact ⟨by rw [Hbl.out]; exact congrArg (fun z => Ending.returned (.int .i64 z)) (by simp), hB⟩
end Go.Proofs.YtepibfpdkjkdjaaDoor
