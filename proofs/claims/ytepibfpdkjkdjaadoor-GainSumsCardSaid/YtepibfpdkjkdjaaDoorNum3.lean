/- Decimal digits as letters: plain laws. -/
import Derived.Test.YtepibfpdkjkdjaaDoorNum2
namespace Go.Proofs.YtepibfpdkjkdjaaDoor

/-- Letters of numbers. -/
def chars (l : List Nat) : List UInt8 := l.map UInt8.ofNat
/-- A number's decimal digits, the highest first. -/
def dec (x : Nat) : List UInt8 := if x = 0 then [48] else chars ((dg 10 x).reverse.map (48 + ·))

/-- Digits without the noughts ahead are those of their value. -/
theorem strip_dg (b : Nat) (hb : 2 ≤ b) (n : Nat) : ∀ D : List Nat, D.length = n → (∀ z ∈ D, z < b) → D.reverse.dropWhile (· == 0) = (dg b (vl b D)).reverse := by
  induction n with
  | zero => intro D h _; have := List.eq_nil_of_length_eq_zero h; subst this; simp [vl, dg_zero]
  | succ n ih =>
    intro D h hD
    have hne : D ≠ [] := by intro e; subst e; simp at h
    obtain ⟨l, z, rfl⟩ : ∃ l z, D = l ++ [z] := ⟨D.dropLast, D.getLast hne, (List.dropLast_concat_getLast hne).symm⟩
    rw [List.reverse_append, List.reverse_singleton, List.singleton_append, List.dropWhile_cons]
    by_cases hz : z = 0
    · subst hz
      rw [if_pos (by rfl), vl_snoc_zero]
      exact ih l (by simpa using h) (fun y hy => hD y (by simp [hy]))
    · rw [if_neg (by simpa using hz), dg_vl b hb _ hD (by intro y hy; rw [List.getLast?_append] at hy; simp at hy; omega)]
      simp
theorem trim_chars (D : List Nat) (hD : ∀ z ∈ D, z < 10) : ((chars (D.map (48 + ·))).reverse.dropWhile (· == 48)) = chars ((dg 10 (vl 10 D)).reverse.map (48 + ·)) := by
  have h := strip_dg 10 (by decide) D.length D rfl hD
  have key : ∀ l : List Nat, (∀ z ∈ l, z < 10) → (chars (l.map (48 + ·))).dropWhile (· == 48) = chars ((l.dropWhile (· == 0)).map (48 + ·)) := by
    intro l hl
    induction l with
    | nil => rfl
    | cons z l ih =>
      have hz := hl z (by simp)
      have hl' := ih (fun y hy => hl y (by simp [hy]))
      simp only [chars, List.map_cons, List.dropWhile_cons] at hl' ⊢
      by_cases h0 : z = 0
      · subst h0; rw [if_pos (by rfl), if_pos (by rfl)]; exact hl'
      · have e1 : (UInt8.ofNat (48 + z) == 48) = false := by
          rw [beq_eq_false_iff_ne]; intro e
          have := congrArg UInt8.toNat e
          rw [UInt8.toNat_ofNat_of_lt' (show 48 + z < 256 by omega)] at this
          have e48 : UInt8.toNat 48 = 48 := rfl
          rw [e48] at this; omega
        have e2 : (z == 0) = false := by rw [beq_eq_false_iff_ne]; exact h0
        rw [e1, e2]; rfl
  have e : (chars (D.map (48 + ·))).reverse = chars (D.reverse.map (48 + ·)) := by simp [chars, List.map_reverse]
  rw [e, key D.reverse (fun z hz => hD z (List.mem_reverse.1 hz)), h]
theorem chars_app (a b : List Nat) : chars (a ++ b) = chars a ++ chars b := by simp [chars]

/-- Digits that are taken off one after the other. -/
theorem take_digit (D : List Nat) (r k y x : Nat) (h : vl 10 D + 10 ^ D.length * (r + 10 ^ (k + 1) * y) = x) :
    vl 10 (D ++ [r % 10]) + 10 ^ (D ++ [r % 10]).length * (r / 10 + 10 ^ k * y) = x := by
  rw [vl_app, List.length_append, List.length_singleton, Nat.pow_succ 10 D.length]
  rw [Nat.pow_succ] at h
  have e1 : r + 10 ^ k * 10 * y = r % 10 + 10 * (r / 10 + 10 ^ k * y) := by
    have := Nat.mod_add_div r 10
    rw [Nat.mul_add, show 10 * (10 ^ k * y) = 10 ^ k * 10 * y by rw [Nat.mul_comm (10 ^ k) 10, Nat.mul_assoc]]
    omega
  rw [e1, Nat.mul_add] at h
  simp only [vl, Nat.mul_zero, Nat.add_zero]
  rw [Nat.mul_assoc]
  omega
end Go.Proofs.YtepibfpdkjkdjaaDoor
