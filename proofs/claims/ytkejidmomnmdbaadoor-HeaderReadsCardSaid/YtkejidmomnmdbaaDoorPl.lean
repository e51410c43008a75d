/- Plain facts on the bytes of a number. -/
import Derived.Lib.BitFns
namespace Go.Proofs.YtkejidmomnmdbaaDoor

def beBytes (n : Nat) : List UInt8 := if n = 0 then [] else beBytes (n / 256) ++ [UInt8.ofNat (n % 256)]
termination_by n
decreasing_by omega

theorem beBytes_zero : beBytes 0 = [] := by rw [beBytes]; simp
theorem beBytes_pos (n : Nat) (h : 0 < n) : beBytes n = beBytes (n / 256) ++ [UInt8.ofNat (n % 256)] := by
  rw [beBytes]; simp [show n ≠ 0 by omega]
theorem beBytes_len (k : Nat) : ∀ n, n < 256 ^ k → (beBytes n).length ≤ k := by
  induction k with
  | zero => intro n h; simp at h; subst h; simp [beBytes_zero]
  | succ k ih =>
    intro n h
    by_cases h0 : 0 < n
    · rw [beBytes_pos n h0]
      have := ih (n / 256) (by rw [Nat.pow_succ] at h; omega)
      simp; omega
    · obtain rfl : n = 0 := by omega
      simp [beBytes_zero]

/-- The first k of the L bytes of n. -/
def digs (n L k : Nat) : List UInt8 := (List.range k).map fun i => UInt8.ofNat (n / 2 ^ (8 * (L - 1 - i)))
theorem digs_succ (n L k : Nat) : digs n L (k + 1) = digs n L k ++ [UInt8.ofNat (n / 2 ^ (8 * (L - 1 - k)))] := by
  simp [digs, List.range_succ]
theorem digs_len (n L k : Nat) : (digs n L k).length = k := by simp [digs]

theorem digs_up (n L : Nat) (k : Nat) (hk : k ≤ L) : digs (n / 256) L k = digs n (L + 1) k := by
  unfold digs
  apply List.map_congr_left
  intro i hi
  have hi' : i < k := List.mem_range.1 hi
  rw [Nat.div_div_eq_div_mul, show L + 1 - 1 - i = (L - 1 - i) + 1 by omega, Nat.mul_add, Nat.pow_add, Nat.mul_comm (2 ^ _)]

theorem ofNat_mod (n : Nat) : UInt8.ofNat (n % 256) = UInt8.ofNat n := by
  apply UInt8.toNat_inj.1; simp

theorem digs_be (L : Nat) : ∀ n, (beBytes n).length = L → digs n L L = beBytes n := by
  induction L with
  | zero => intro n h; rw [List.length_eq_zero_iff.1 h]; rfl
  | succ L ih =>
    intro n h
    by_cases h0 : 0 < n
    · rw [beBytes_pos n h0] at h ⊢
      simp at h
      rw [digs_succ, ← digs_up n L L (Nat.le_refl _), ih _ h]
      simp [ofNat_mod]
    · obtain rfl : n = 0 := by omega
      simp [beBytes_zero] at h

theorem beBytes_lo (n : Nat) : n < 256 ^ (beBytes n).length := by
  induction n using Nat.strongRecOn with
  | _ n ih =>
    by_cases h0 : 0 < n
    · rw [beBytes_pos n h0]
      have := ih (n / 256) (by omega)
      simp only [List.length_append, List.length_singleton, Nat.pow_succ]
      omega
    · obtain rfl : n = 0 := by omega
      simp [beBytes_zero]
theorem beBytes_hi (n : Nat) (h : 0 < n) : 256 ^ ((beBytes n).length - 1) ≤ n := by
  induction n using Nat.strongRecOn with
  | _ n ih =>
    rw [beBytes_pos n h]
    simp only [List.length_append, List.length_singleton, Nat.add_sub_cancel]
    by_cases h1 : 0 < n / 256
    · have := ih (n / 256) (by omega) h1
      have hl : 0 < (beBytes (n / 256)).length := by rw [beBytes_pos _ h1]; simp
      obtain ⟨l, hl'⟩ : ∃ l, (beBytes (n / 256)).length = l + 1 := ⟨_, (Nat.succ_pred_eq_of_pos hl).symm⟩
      rw [hl'] at this ⊢
      simp only [Nat.add_sub_cancel] at this
      rw [Nat.pow_succ]; omega
    · rw [show n / 256 = 0 by omega, beBytes_zero]; simp; omega

theorem bitLenAux_spec (f : Nat) : ∀ x, x < 2 ^ f → x < 2 ^ Lib.bitLenAux f x ∧ (0 < x → 0 < Lib.bitLenAux f x ∧ 2 ^ (Lib.bitLenAux f x - 1) ≤ x) ∧ Lib.bitLenAux f x ≤ f := by
  induction f with
  | zero => intro x h; simp at h; subst h; simp [Lib.bitLenAux]
  | succ f ih =>
    intro x h
    unfold Lib.bitLenAux
    by_cases h0 : x = 0
    · subst h0; simp
    · rw [if_neg h0]
      obtain ⟨a, b, c⟩ := ih (x / 2) (by rw [Nat.pow_succ] at h; omega)
      refine ⟨by rw [Nat.pow_add]; omega, fun _ => ⟨by omega, ?_⟩, by omega⟩
      rw [Nat.add_sub_cancel_left]
      by_cases h1 : 0 < x / 2
      · obtain ⟨p, q⟩ := b h1
        obtain ⟨l, hl⟩ : ∃ l, Lib.bitLenAux f (x / 2) = l + 1 := ⟨_, (Nat.succ_pred_eq_of_pos p).symm⟩
        rw [hl] at q ⊢
        simp only [Nat.add_sub_cancel] at q
        rw [Nat.pow_succ]; omega
      · have : x / 2 = 0 := by omega
        rw [this]
        cases f <;> simp [Lib.bitLenAux] <;> omega

theorem bitLen_bytes (n : Nat) (h : n < 2 ^ 64) : Lib.bitLen n ≤ 64 ∧ (Lib.bitLen n + 7) / 8 = (beBytes n).length := by
  obtain ⟨a, b, c⟩ := bitLenAux_spec 64 n h
  refine ⟨c, ?_⟩
  by_cases h00 : n = 0
  · subst h00; rw [beBytes_zero]; rfl
  show (Lib.bitLenAux 64 n + 7) / 8 = _
  generalize Lib.bitLenAux 64 n = q at a b c
  have h1 := beBytes_lo n
  have h0 : 0 < n := by omega
  have h2 := beBytes_hi n h0
  obtain ⟨b1, b2⟩ := b h0
  generalize (beBytes n).length = L at h1 h2
  rw [show (256 : Nat) = 2 ^ 8 from rfl, ← Nat.pow_mul] at h1 h2
  have e1 : q - 1 < 8 * L := (Nat.pow_lt_pow_iff_right (by decide)).1 (Nat.lt_of_le_of_lt b2 h1)
  have e2 : 8 * (L - 1) < q := (Nat.pow_lt_pow_iff_right (by decide)).1 (Nat.lt_of_le_of_lt h2 a)
  omega

/-- A number's bytes, as the chapter says (a number below 0 counts as 0). -/
def numL (x : Int) : List UInt8 := UInt8.ofNat (beBytes x.toNat).length :: beBytes x.toNat
theorem numL_eq (n : Nat) : numL n = UInt8.ofNat (beBytes n).length :: digs n (beBytes n).length (beBytes n).length := by
  unfold numL; rw [Int.toNat_natCast, digs_be _ n rfl]

/-- The number whose bytes they are. -/
def beVal (l : List UInt8) : Nat := l.foldl (fun a b => a * 256 + b.toNat) 0
theorem beVal_snoc (l : List UInt8) (b : UInt8) : beVal (l ++ [b]) = beVal l * 256 + b.toNat := by simp [beVal]
theorem beVal_take_lt (l : List UInt8) : ∀ k, k ≤ l.length → beVal (l.take k) < 256 ^ k
  | 0, _ => by simp [beVal]
  | k + 1, h => by
    have ih := beVal_take_lt l k (by omega)
    rw [List.take_succ_eq_append_getElem (show k < l.length by omega), beVal_snoc, Nat.pow_succ]
    have := (l[k]'(by omega)).toNat_lt
    omega
theorem take_snoc (l : List UInt8) (k : Nat) (h : k < l.length) : l.take (k + 1) = l.take k ++ [l[k]] := by
  rw [List.take_succ_eq_append_getElem h]

/-- What stands at the head of bytes: a number, how many bytes it takes, the error's number. -/
def headL : List UInt8 → Nat × Nat × Int
  | [] => (0, 0, 2)
  | c :: r =>
    if c.toNat = 0 then (0, 1, 0) else if 8 < c.toNat then (0, 0, 3) else
    match r with
    | [] => (0, 0, 2)
    | d :: _ => if d.toNat = 0 then (0, 0, 3) else if r.length < c.toNat then (0, 0, 2) else
      if 9223372036854775807 < beVal (r.take c.toNat) then (0, 0, 3) else (beVal (r.take c.toNat), c.toNat + 1, 0)

theorem beVal_be (n : Nat) : beVal (beBytes n) = n := by
  induction n using Nat.strongRecOn with
  | _ n ih =>
    by_cases h0 : 0 < n
    · rw [beBytes_pos n h0, beVal_snoc, ih _ (by omega)]
      simp; omega
    · obtain rfl : n = 0 := by omega
      rw [beBytes_zero]; rfl
theorem beBytes_first (n : Nat) (h : 0 < n) : ∃ d r, beBytes n = d :: r ∧ d.toNat ≠ 0 := by
  induction n using Nat.strongRecOn with
  | _ n ih =>
    rw [beBytes_pos n h]
    by_cases h1 : 0 < n / 256
    · obtain ⟨d, r, e, hd⟩ := ih _ (by omega) h1
      exact ⟨d, r ++ [UInt8.ofNat (n % 256)], by rw [e]; rfl, hd⟩
    · rw [show n / 256 = 0 by omega, beBytes_zero]
      exact ⟨_, [], rfl, by simp; omega⟩
theorem headL_num (n : Nat) (h : n ≤ 9223372036854775807) (r : List UInt8) : headL (numL n ++ r) = (n, (numL n).length, 0) := by
  have hl := beBytes_len 8 n (by simp; omega)
  unfold numL
  rw [Int.toNat_natCast]
  have hc : (UInt8.ofNat (beBytes n).length).toNat = (beBytes n).length := by simp; omega
  by_cases h0 : 0 < n
  · obtain ⟨d, t, e, hd⟩ := beBytes_first n h0
    have hv := beVal_be n
    rw [e] at hl hc hv ⊢
    simp only [List.cons_append, headL, hc]
    rw [if_neg (by simp), if_neg (by simp only [List.length_cons] at hl ⊢; omega), if_neg hd, if_neg (by simp)]
    have e2 : (d :: (t ++ r)).take (d :: t).length = d :: t := by simp
    rw [e2, hv, if_neg (by omega)]
    simp
  · obtain rfl : n = 0 := by omega
    rw [beBytes_zero]; rfl
theorem numL_toNat (x : Int) : numL x = numL (x.toNat : Int) := by unfold numL; rw [Int.toNat_natCast]
theorem numL_inj (n m : Nat) (hn : n ≤ 9223372036854775807) (hm : m ≤ 9223372036854775807) (r : List UInt8) (h : numL m = numL n ++ r) : n = m := by
  have a := headL_num n hn r
  have b := headL_num m hm []
  rw [List.append_nil, h, a] at b
  exact (Prod.mk.injEq _ _ _ _ ▸ b).1

end Go.Proofs.YtkejidmomnmdbaaDoor
