/- Whole numbers by digits of any base, the lowest first: plain laws. -/
import Derived.Laws.BitsAllLaws
namespace Go.Proofs.YtepibfpdkjkdjaaDoor

/-- The value of digits, the lowest first. -/
def vl (b : Nat) : List Nat → Nat
  | [] => 0
  | x :: l => x + b * vl b l
/-- The digits of a number, the lowest first, without noughts behind. -/
def dg (b n : Nat) : List Nat := if _h : n = 0 ∨ b < 2 then [] else n % b :: dg b (n / b)
termination_by n
decreasing_by exact Nat.div_lt_self (by omega) (by omega)

theorem dg_zero (b : Nat) : dg b 0 = [] := by rw [dg]; simp
theorem dg_pos (b n : Nat) (hb : 2 ≤ b) (hn : n ≠ 0) : dg b n = n % b :: dg b (n / b) := by rw [dg]; simp [hn, show ¬ b < 2 by omega]

theorem vl_dg (b : Nat) (hb : 2 ≤ b) (n : Nat) : vl b (dg b n) = n := by
  induction n using Nat.strongRecOn with
  | ind n ih =>
    by_cases hn : n = 0
    · subst hn; rw [dg_zero]; rfl
    · rw [dg_pos b n hb hn, vl, ih _ (Nat.div_lt_self (by omega) (by omega))]
      exact Nat.mod_add_div n b
theorem dg_lt (b : Nat) (hb : 2 ≤ b) (n : Nat) : ∀ x ∈ dg b n, x < b := by
  induction n using Nat.strongRecOn with
  | ind n ih =>
    by_cases hn : n = 0
    · subst hn; rw [dg_zero]; intro x hx; cases hx
    · rw [dg_pos b n hb hn]
      intro x hx
      rcases List.mem_cons.1 hx with rfl | h
      · exact Nat.mod_lt _ (by omega)
      · exact ih _ (Nat.div_lt_self (by omega) (by omega)) x h
/-- No nought behind. -/
def Top (l : List Nat) : Prop := ∀ x, l.getLast? = some x → x ≠ 0
theorem dg_nil (b : Nat) (hb : 2 ≤ b) {n : Nat} (h : dg b n = []) : n = 0 := by
  have := vl_dg b hb n; rw [h] at this; exact this.symm
theorem dg_top (b : Nat) (hb : 2 ≤ b) (n : Nat) : Top (dg b n) := by
  induction n using Nat.strongRecOn with
  | ind n ih =>
    by_cases hn : n = 0
    · subst hn; rw [dg_zero]; intro x hx; cases hx
    · rw [dg_pos b n hb hn]
      intro x hx
      by_cases hq : n / b = 0
      · rw [hq, dg_zero] at hx
        simp at hx
        have := Nat.mod_add_div n b
        rw [hq] at this
        omega
      · have h2 := ih (n / b) (Nat.div_lt_self (by omega) (by omega))
        have hne : dg b (n / b) ≠ [] := fun e => hq (dg_nil b hb e)
        obtain ⟨y, t, e⟩ := List.exists_cons_of_ne_nil hne
        apply h2
        rw [e] at hx ⊢
        rw [List.getLast?_cons_cons] at hx
        exact hx
theorem vl_app (b : Nat) (l k : List Nat) : vl b (l ++ k) = vl b l + b ^ l.length * vl b k := by
  induction l with
  | nil => simp [vl]
  | cons x l ih =>
    simp only [List.cons_append, vl, ih, List.length_cons, Nat.pow_succ, Nat.mul_add]
    rw [Nat.mul_comm (b ^ l.length) b, Nat.mul_assoc, Nat.add_assoc]
theorem vl_lt (b : Nat) (l : List Nat) (h : ∀ x ∈ l, x < b) : vl b l < b ^ l.length := by
  induction l with
  | nil => simp [vl]
  | cons x l ih =>
    have h1 := h x (by simp)
    have h2 := ih (fun y hy => h y (by simp [hy]))
    have h3 : b * (vl b l + 1) ≤ b * b ^ l.length := Nat.mul_le_mul_left _ h2
    rw [Nat.mul_add] at h3
    simp only [vl, List.length_cons, Nat.pow_succ, Nat.mul_comm (b ^ l.length)]
    omega
theorem vl_zeros (b k : Nat) : vl b (List.replicate k 0) = 0 := by
  induction k with
  | zero => rfl
  | succ k ih => simp [List.replicate_succ, vl, ih]
theorem vl_snoc_zero (b : Nat) (l : List Nat) : vl b (l ++ [0]) = vl b l := by rw [vl_app]; simp [vl]
theorem Top.tail {x y : Nat} {l : List Nat} (h : Top (x :: y :: l)) : Top (y :: l) := by
  intro z hz; apply h; rw [List.getLast?_cons_cons]; exact hz
theorem vl_top_ne (b : Nat) (hb : 2 ≤ b) (l : List Nat) (ht : Top l) (hne : l ≠ []) : vl b l ≠ 0 := by
  induction l with
  | nil => exact absurd rfl hne
  | cons x l ih =>
    cases l with
    | nil => have := ht x rfl; simp [vl]; omega
    | cons y l =>
      have := ih ht.tail (by simp)
      have h2 : b * 1 ≤ b * vl b (y :: l) := Nat.mul_le_mul_left _ (by omega)
      show x + b * vl b (y :: l) ≠ 0
      omega
/-- Digits without noughts behind are those of their value. -/
theorem dg_vl (b : Nat) (hb : 2 ≤ b) (l : List Nat) (h : ∀ x ∈ l, x < b) (ht : Top l) : dg b (vl b l) = l := by
  induction l with
  | nil => simp [vl, dg_zero]
  | cons x l ih =>
    have hx := h x (by simp)
    have hne := vl_top_ne b hb (x :: l) ht (by simp)
    rw [dg_pos b _ hb hne]
    have e1 : vl b (x :: l) % b = x := by show (x + b * vl b l) % b = x; rw [Nat.add_mul_mod_self_left, Nat.mod_eq_of_lt hx]
    have e2 : vl b (x :: l) / b = vl b l := by show (x + b * vl b l) / b = _; rw [Nat.add_mul_div_left _ _ (by omega), Nat.div_eq_of_lt hx, Nat.zero_add]
    rw [e1, e2]
    congr 1
    apply ih (fun y hy => h y (by simp [hy]))
    cases l with
    | nil => intro z hz; cases hz
    | cons y l => exact ht.tail

/-- Without noughts behind. -/
theorem dg_take (b : Nat) (hb : 2 ≤ b) (l : List Nat) (h : ∀ x ∈ l, x < b) (k : Nat) (hk : k ≤ l.length) (hz : ∀ i (hi : i < l.length), k ≤ i → l[i] = 0) (ht : ∀ hk0 : 0 < k, l[k - 1]'(by omega) ≠ 0) :
    dg b (vl b l) = l.take k := by
  have e : l = l.take k ++ List.replicate (l.length - k) 0 := by
    apply List.ext_getElem
    · simp; omega
    · intro i h1 h2
      by_cases hi : i < k
      · rw [List.getElem_append_left (by simp; omega)]; simp
      · rw [List.getElem_append_right (by simp; omega)]; simp; exact hz i h1 (by omega)
  have ev : vl b l = vl b (l.take k) := by
    have e2 := vl_app b (l.take k) (List.replicate (l.length - k) 0)
    rw [← e, vl_zeros] at e2
    simpa using e2
  rw [ev]
  apply dg_vl b hb
  · intro x hx; exact h x (List.mem_of_mem_take hx)
  · intro x hx
    by_cases hk0 : 0 < k
    · rw [List.getLast?_eq_getElem?, List.length_take, Nat.min_eq_left hk, List.getElem?_take_of_lt (by omega), List.getElem?_eq_getElem (by omega)] at hx
      cases hx
      exact ht hk0
    · obtain rfl : k = 0 := by omega
      simp at hx

theorem dg_len_le (b : Nat) (hb : 2 ≤ b) (n k : Nat) (h : n < b ^ k) : (dg b n).length ≤ k := by
  induction k generalizing n with
  | zero => have : n = 0 := by simpa using h
            subst this; simp [dg_zero]
  | succ k ih =>
    by_cases hn : n = 0
    · subst hn; simp [dg_zero]
    · rw [dg_pos b n hb hn, List.length_cons]
      have := ih (n / b) (by rw [Nat.div_lt_iff_lt_mul (by omega)]; rw [Nat.pow_succ] at h; exact h)
      omega
theorem lt_pow_dg (b : Nat) (hb : 2 ≤ b) (n : Nat) : n < b ^ (dg b n).length := by
  have := vl_lt b (dg b n) (dg_lt b hb n); rwa [vl_dg b hb] at this
theorem pow_le_dg (b : Nat) (hb : 2 ≤ b) (n : Nat) (h : 0 < (dg b n).length) : b ^ ((dg b n).length - 1) ≤ n := by
  apply Nat.le_of_not_lt
  intro hlt
  have := dg_len_le b hb n _ hlt
  omega
theorem dg_len_mono (b : Nat) (hb : 2 ≤ b) {m n : Nat} (h : m ≤ n) : (dg b m).length ≤ (dg b n).length :=
  dg_len_le b hb m _ (Nat.lt_of_le_of_lt h (lt_pow_dg b hb n))
theorem dg_len_mul (b : Nat) (hb : 2 ≤ b) (m n : Nat) : (dg b (m * n)).length ≤ (dg b m).length + (dg b n).length := by
  apply dg_len_le b hb
  rw [Nat.pow_add]
  exact Nat.mul_lt_mul'' (lt_pow_dg b hb m) (lt_pow_dg b hb n)
theorem dg_len_add (b : Nat) (hb : 2 ≤ b) (m n : Nat) : (dg b (m + n)).length ≤ max (dg b m).length (dg b n).length + 1 := by
  apply dg_len_le b hb
  have h1 := lt_pow_dg b hb m
  have h2 := lt_pow_dg b hb n
  have p1 : b ^ (dg b m).length ≤ b ^ max (dg b m).length (dg b n).length := Nat.pow_le_pow_right (by omega) (by omega)
  have p2 : b ^ (dg b n).length ≤ b ^ max (dg b m).length (dg b n).length := Nat.pow_le_pow_right (by omega) (by omega)
  rw [Nat.pow_succ]
  generalize b ^ max (dg b m).length (dg b n).length = p at *
  have : p * 2 ≤ p * b := Nat.mul_le_mul_left _ hb
  omega
/-- The digit at a place. -/
theorem dg_at (b : Nat) (hb : 2 ≤ b) (n i : Nat) (hi : i < (dg b n).length) : (dg b n)[i] = n / b ^ i % b := by
  induction i generalizing n with
  | zero =>
    have hn : n ≠ 0 := by intro e; subst e; simp [dg_zero] at hi
    simp only [dg_pos b n hb hn, List.getElem_cons_zero, Nat.pow_zero, Nat.div_one]
  | succ i ih =>
    have hn : n ≠ 0 := by intro e; subst e; simp [dg_zero] at hi
    have e := dg_pos b n hb hn
    have hi' : i < (dg b (n / b)).length := by rw [e] at hi; simpa using hi
    have : (dg b n)[i + 1] = (dg b (n / b))[i] := by simp only [e, List.getElem_cons_succ]
    rw [this, ih _ hi', Nat.div_div_eq_div_mul, Nat.pow_succ, Nat.mul_comm b]
/-- The digit at a place, 0 behind the last one. -/
theorem dg_getD (b : Nat) (hb : 2 ≤ b) (n i : Nat) : (dg b n).getD i 0 = n / b ^ i % b := by
  by_cases hi : i < (dg b n).length
  · rw [List.getD_eq_getElem?_getD, List.getElem?_eq_getElem hi]; exact dg_at b hb n i hi
  · rw [List.getD_eq_getElem?_getD, List.getElem?_eq_none (by omega)]
    have h1 := lt_pow_dg b hb n
    have h2 : b ^ (dg b n).length ≤ b ^ i := Nat.pow_le_pow_right (by omega) (by omega)
    rw [Nat.div_eq_of_lt (by omega)]
    simp
/-- The value of the first places. -/
theorem vl_take_dg (b : Nat) (hb : 2 ≤ b) (n i : Nat) : vl b ((dg b n).take i) = n % b ^ i := by
  by_cases hi : i ≤ (dg b n).length
  · have h := vl_dg b hb n
    have e := vl_app b ((dg b n).take i) ((dg b n).drop i)
    rw [List.take_append_drop, h, List.length_take, Nat.min_eq_left hi] at e
    have hl := vl_lt b ((dg b n).take i) (fun x hx => dg_lt b hb n x (List.mem_of_mem_take hx))
    rw [List.length_take, Nat.min_eq_left hi] at hl
    generalize vl b (List.take i (dg b n)) = t at *
    rw [e, Nat.add_mul_mod_self_left, Nat.mod_eq_of_lt hl]
  · rw [List.take_of_length_le (by omega), vl_dg b hb]
    have h1 := lt_pow_dg b hb n
    have h2 : b ^ (dg b n).length ≤ b ^ i := Nat.pow_le_pow_right (by omega) (by omega)
    rw [Nat.mod_eq_of_lt (by omega)]
end Go.Proofs.YtepibfpdkjkdjaaDoor
