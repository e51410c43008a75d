/- Bytes of a number, the highest first: plain laws. -/
import Derived.Test.YtepibfpdkjkdjaaDoorNum3
namespace Go.Proofs.YtepibfpdkjkdjaaDoor

/-- A number's bytes, the highest first. -/
def byts (x : Nat) : List UInt8 := chars (dg 256 x).reverse
/-- The number of bytes, the highest first. -/
def bval (l : List UInt8) : Nat := vl 256 (l.map UInt8.toNat).reverse
/-- A limb's four bytes. -/
def be4 (v : Nat) : List Nat := [v / 16777216, v / 65536 % 256, v / 256 % 256, v % 256]
theorem be4_lt {v : Nat} (h : v < 4294967296) : ∀ z ∈ be4 v, z < 256 := by
  intro z hz
  simp only [be4, List.mem_cons, List.not_mem_nil, or_false] at hz
  omega
theorem vl_be4 (L : List Nat) (v : Nat) : vl 256 (L ++ be4 v).reverse = v + 4294967296 * vl 256 L.reverse := by
  rw [List.reverse_append]
  simp only [be4, List.reverse_cons, List.reverse_nil, List.nil_append, List.cons_append, vl]
  omega
theorem strip_bytes (L : List Nat) (hL : ∀ z ∈ L, z < 256) : (chars L).dropWhile (· == 0) = byts (vl 256 L.reverse) := by
  have h := strip_dg 256 (by decide) L.reverse.length L.reverse rfl (fun z hz => hL z (List.mem_reverse.1 hz))
  rw [List.reverse_reverse] at h
  have key : ∀ l : List Nat, (∀ z ∈ l, z < 256) → (chars l).dropWhile (· == 0) = chars (l.dropWhile (· == 0)) := by
    intro l hl
    induction l with
    | nil => rfl
    | cons z l ih =>
      have hz := hl z (by simp)
      have hl' := ih (fun y hy => hl y (by simp [hy]))
      simp only [chars, List.map_cons, List.dropWhile_cons] at hl' ⊢
      by_cases h0 : z = 0
      · subst h0; rw [if_pos (by rfl), if_pos (by rfl)]; exact hl'
      · have e1 : (UInt8.ofNat z == 0) = false := by
          rw [beq_eq_false_iff_ne]; intro e
          have := congrArg UInt8.toNat e
          rw [UInt8.toNat_ofNat_of_lt' (show z < 256 by omega)] at this
          exact h0 this
        have e2 : (z == 0) = false := by rw [beq_eq_false_iff_ne]; exact h0
        rw [e1, e2]; rfl
  rw [key L hL, h]; rfl
theorem map_toNat_chars (L : List Nat) (hL : ∀ z ∈ L, z < 256) : (chars L).map UInt8.toNat = L := by
  induction L with
  | nil => rfl
  | cons z L ih =>
    have hz := hL z (by simp)
    have := ih (fun y hy => hL y (by simp [hy]))
    simp only [chars, List.map_cons] at this ⊢
    rw [this, UInt8.toNat_ofNat_of_lt' (show z < 256 by omega)]
theorem chars_map_toNat (l : List UInt8) : chars (l.map UInt8.toNat) = l := by
  induction l with
  | nil => rfl
  | cons c l ih => simp only [chars, List.map_cons] at ih ⊢; rw [ih, UInt8.ofNat_toNat]
theorem bval_byts (x : Nat) : bval (byts x) = x := by
  unfold bval byts
  rw [map_toNat_chars _ (fun z hz => dg_lt 256 (by decide) x z (List.mem_reverse.1 hz)), List.reverse_reverse, vl_dg 256 (by decide)]
theorem bval_lt (l : List UInt8) : ∀ z ∈ (l.map UInt8.toNat).reverse, z < 256 := by
  intro z hz
  obtain ⟨c, _, rfl⟩ := List.mem_map.1 (List.mem_reverse.1 hz)
  exact c.toNat_lt
/-- Bytes without a nought ahead are those of their number. -/
theorem byts_bval (l : List UInt8) (h : l.head? ≠ some 0) : byts (bval l) = l := by
  unfold byts bval
  rw [dg_vl 256 (by decide) _ (bval_lt l), List.reverse_reverse, chars_map_toNat]
  intro z hz hz0
  subst hz0
  rw [List.getLast?_reverse, List.head?_map] at hz
  cases l with
  | nil => cases hz
  | cons c l =>
    apply h
    have hc : c.toNat = 0 := Option.some.inj hz
    rw [List.head?_cons]
    congr 1
    exact UInt8.toNat_inj.1 hc
theorem byts_len (x : Nat) : (byts x).length = (dg 256 x).length := by simp [byts, chars]
theorem byts_head (x : Nat) : (byts x).head? ≠ some 0 := by
  intro h
  unfold byts at h
  cases hd : (dg 256 x).reverse with
  | nil => rw [hd] at h; cases h
  | cons z r =>
    rw [hd] at h
    have hz : UInt8.ofNat z = 0 := Option.some.inj h
    have hm : z ∈ dg 256 x := List.mem_reverse.1 (by rw [hd]; simp)
    have hl : (dg 256 x).getLast? = some z := by rw [← List.head?_reverse, hd]; rfl
    have h1 := dg_top 256 (by decide) x z hl
    have h2 := dg_lt 256 (by decide) x z hm
    have := congrArg UInt8.toNat hz
    rw [UInt8.toNat_ofNat_of_lt' (show z < 256 from h2)] at this
    exact h1 this
/-- A place of digits. -/
theorem vl_at (b : Nat) (D : List Nat) (hD : ∀ z ∈ D, z < b) (i : Nat) (hi : i < D.length) : vl b D / b ^ i % b = D[i] := by
  induction D generalizing i with
  | nil => simp at hi
  | cons x l ih =>
    have hx := hD x (by simp)
    cases i with
    | zero =>
      simp only [Nat.pow_zero, Nat.div_one, List.getElem_cons_zero, vl]
      rw [Nat.add_mul_mod_self_left, Nat.mod_eq_of_lt hx]
    | succ i =>
      simp only [List.getElem_cons_succ, vl]
      rw [Nat.pow_succ, Nat.mul_comm (b ^ i) b, ← Nat.div_div_eq_div_mul, Nat.add_mul_div_left _ _ (by omega), Nat.div_eq_of_lt hx, Nat.zero_add]
      exact ih (fun z hz => hD z (by simp [hz])) i (by simpa using hi)
/-- One byte more of a number that is put together in limbs. -/
theorem limb_step (S : List Nat) (x i c : Nat) (hv : vl 4294967296 S = x % 256 ^ i) (hq : i / 4 < S.length) (hc : c = x / 256 ^ i % 256) :
    S[i / 4] < 256 ^ (i % 4) ∧ vl 4294967296 (S.set (i / 4) (S[i / 4] + c * 256 ^ (i % 4))) = x % 256 ^ (i + 1) := by
  have e : (256 : Nat) ^ i = 4294967296 ^ (i / 4) * 256 ^ (i % 4) := by
    have h4 : (4294967296 : Nat) = 256 ^ 4 := by decide
    rw [h4, ← Nat.pow_mul, ← Nat.pow_add, Nat.div_add_mod]
  have h0 := vl_set 4294967296 S (i / 4) 0 hq
  have h1 := vl_set 4294967296 S (i / 4) (S[i / 4] + c * 256 ^ (i % 4)) hq
  rw [Nat.mul_zero, Nat.add_zero] at h0
  have hlt : x % 256 ^ i < 256 ^ i := Nat.mod_lt _ (Nat.pow_pos (by decide))
  refine ⟨?_, ?_⟩
  · apply Nat.lt_of_not_le; intro hle
    have := Nat.mul_le_mul_left (4294967296 ^ (i / 4)) hle
    omega
  · rw [mod_succ, ← hv, ← hc, e]
    rw [Nat.mul_add, show 4294967296 ^ (i / 4) * (c * 256 ^ (i % 4)) = 4294967296 ^ (i / 4) * 256 ^ (i % 4) * c by rw [Nat.mul_comm c, Nat.mul_assoc]] at h1
    omega
end Go.Proofs.YtepibfpdkjkdjaaDoor
