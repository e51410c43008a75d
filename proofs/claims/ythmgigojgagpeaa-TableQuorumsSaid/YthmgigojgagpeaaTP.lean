/- What was signed, position by position. -/
import Derived.Test.YthmgigojgagpeaaInt
namespace Go.Proofs.Ythmgigojgagpeaa

theorem tsum_cons (p : Nat) (P : List Nat) : tsum (p :: P) = p + tsum P := by
  show (p :: P).foldl (· + ·) 0 = _
  rw [List.foldl_cons, tsum_from]; omega
theorem tsum_two (A B C : List Nat) (h1 : A.length = C.length) (h2 : B.length = C.length) (h : ∀ j, A.getD j 0 + B.getD j 0 ≤ C.getD j 0) : tsum A + tsum B ≤ tsum C := by
  induction C generalizing A B with
  | nil =>
    rw [List.eq_nil_of_length_eq_zero h1, List.eq_nil_of_length_eq_zero h2]; exact Nat.le_refl _
  | cons c C ih =>
    cases A with
    | nil => cases h1
    | cons a A =>
      cases B with
      | nil => cases h2
      | cons b B =>
        have h0 := h 0
        have hr := ih A B (by simpa using h1) (by simpa using h2) (fun j => by have := h (j + 1); simpa using this)
        simp at h0
        rw [tsum_cons, tsum_cons, tsum_cons]; omega
theorem tsum_zero (n : Nat) : tsum (List.replicate n 0) = 0 := by
  induction n with
  | zero => rfl
  | succ n ih => rw [List.replicate_succ, tsum_cons, ih]
theorem tsum_pt {A C : List Nat} (h1 : A.length = C.length) (h : ∀ j, A.getD j 0 ≤ C.getD j 0) : tsum A ≤ tsum C := by
  have := tsum_two A (List.replicate C.length 0) C h1 (by simp) (fun j => by
    have e : (List.replicate C.length 0).getD j 0 = 0 := by rw [List.getD_eq_getElem?_getD, List.getElem?_replicate]; split <;> rfl
    rw [e]; exact h j)
  rw [tsum_zero] at this; exact this
theorem tsum_ge (A : List Nat) (j : Nat) : A.getD j 0 ≤ tsum A := by
  induction A generalizing j with
  | nil => simp
  | cons a A ih =>
    rw [tsum_cons]
    cases j with
    | zero => simp
    | succ j => have := ih j; simp at this ⊢; omega
theorem getD_set (Q : List Nat) (i x j : Nat) (hi : i < Q.length) : (Q.set i x).getD j 0 = if i = j then x else Q.getD j 0 := by
  rw [List.getD_eq_getElem?_getD, List.getElem?_set, List.getD_eq_getElem?_getD]
  by_cases h : i = j
  · subst h; rw [if_pos rfl, if_pos rfl, if_pos hi]; rfl
  · rw [if_neg h, if_neg h]
theorem sg_len (P Q : List Nat) (m : Int) : (sg P Q m).length = Q.length := by
  unfold sg; split <;> simp
theorem sig_from (P : List Nat) (hP : P.length = 64) (S T : List Int) (Q : List Nat) (hQ : Q.length = 64) (h : ∀ j, Q.getD j 0 = if (j : Int) ∈ T then P.getD j 0 else 0) :
    (S.foldl (sg P) Q).length = 64 ∧ ∀ j, (S.foldl (sg P) Q).getD j 0 = if (j : Int) ∈ T ++ S then P.getD j 0 else 0 := by
  induction S generalizing T Q with
  | nil => rw [List.append_nil]; exact ⟨hQ, h⟩
  | cons m S ih =>
    rw [List.foldl_cons, show T ++ m :: S = (T ++ [m]) ++ S by simp]
    refine ih (T ++ [m]) (sg P Q m) (by rw [sg_len]; exact hQ) ?_
    intro j
    have hj := h j
    simp only [List.mem_append, List.mem_singleton]
    unfold sg
    by_cases hm : 0 ≤ m ∧ m < 64
    · obtain ⟨k, rfl⟩ : ∃ k : Nat, m = (k : Int) := ⟨m.toNat, by omega⟩
      have e : pw P (k : Int) = P.getD k 0 := by unfold pw; rw [if_pos hm, Int.toNat_natCast]
      rw [e, Int.toNat_natCast]
      by_cases hp : 0 < P.getD k 0
      · rw [if_pos hp, getD_set _ _ _ _ (by omega), hj]
        by_cases hk : k = j
        · subst hk; simp
        · have hk2 : ¬ (j : Int) = (k : Int) := by omega
          rw [if_neg hk]
          simp only [hk2, or_false]
      · rw [if_neg hp, hj]
        by_cases hk : j = k
        · subst hk
          have h0 : P.getD j 0 = 0 := by omega
          rw [h0]; simp
        · have hk2 : ¬ (j : Int) = (k : Int) := by omega
          simp only [hk2, or_false]
    · have e : pw P m = 0 := by unfold pw; rw [if_neg hm]
      rw [e, if_neg (by decide), hj]
      by_cases hk : (j : Int) = m
      · have h0 : P.getD j 0 = 0 := by
          rw [List.getD_eq_getElem?_getD, List.getElem?_eq_none (by omega)]; rfl
        rw [h0]; simp
      · simp only [hk, or_false]
theorem sig_get {P : List Nat} (hP : P.length = 64) (S : List Int) : (sig P S).length = 64 ∧ ∀ j, (sig P S).getD j 0 = if (j : Int) ∈ S then P.getD j 0 else 0 := by
  have := sig_from P hP S [] (List.replicate 64 0) (by simp) (fun j => by
    rw [if_neg (by simp), List.getD_eq_getElem?_getD, List.getElem?_replicate]; split <;> rfl)
  rwa [List.nil_append] at this
/-- More signers are no less. -/
theorem sig_mono {P : List Nat} (hP : P.length = 64) (S : List Int) (m : Int) : tsum (sig P S) ≤ tsum (sig P (S ++ [m])) := by
  obtain ⟨l1, g1⟩ := sig_get hP S
  obtain ⟨l2, g2⟩ := sig_get hP (S ++ [m])
  refine tsum_pt (by rw [l1, l2]) fun j => ?_
  rw [g1, g2]
  by_cases h : (j : Int) ∈ S
  · rw [if_pos h, if_pos (List.mem_append_left _ h)]; exact Nat.le_refl _
  · rw [if_neg h]; exact Nat.zero_le _
/-- Two quorums have a signer with power in common. -/
theorem sig_meet {P : List Nat} (hP : P.length = 64) (S T : List Int) (h : ∀ m ∈ S, m ∈ T → pw P m = 0) : tsum (sig P S) + tsum (sig P T) ≤ tsum P := by
  obtain ⟨l1, g1⟩ := sig_get hP S
  obtain ⟨l2, g2⟩ := sig_get hP T
  refine tsum_two _ _ _ (by rw [l1, hP]) (by rw [l2, hP]) fun j => ?_
  rw [g1, g2]
  by_cases h1 : (j : Int) ∈ S
  · rw [if_pos h1]
    by_cases h2 : (j : Int) ∈ T
    · have h0 := h _ h1 h2
      have : P.getD j 0 = 0 := by
        by_cases hj : j < 64
        · unfold pw at h0; rw [if_pos (by omega), Int.toNat_natCast] at h0; exact h0
        · rw [List.getD_eq_getElem?_getD, List.getElem?_eq_none (by omega)]; rfl
      rw [this, if_pos h2]; exact Nat.le_refl _
    · rw [if_neg h2]; exact Nat.le_refl _
  · rw [if_neg h1, Nat.zero_add]
    by_cases h2 : (j : Int) ∈ T
    · rw [if_pos h2]; exact Nat.le_refl _
    · rw [if_neg h2]; exact Nat.zero_le _
theorem sig_none (P : List Nat) : tsum (sig P []) = 0 := tsum_zero 64
theorem wth_keeps (E : List (Nat × Nat)) : ∀ (Q : List Nat) (j : Nat), (∀ e ∈ E, e.1 < Q.length) → (∀ e ∈ E, e.1 ≠ j) → (wth Q E).getD j 0 = Q.getD j 0 := by
  induction E with
  | nil => intro Q j _ _; rfl
  | cons e E ih =>
    intro Q j hl hj
    show (wth (Q.set e.1 e.2) E).getD j 0 = _
    rw [ih (Q.set e.1 e.2) j (fun f hf => by rw [List.length_set]; exact hl f (by simp [hf])) (fun f hf => hj f (by simp [hf])), getD_set _ _ _ _ (hl e (by simp)), if_neg (hj e (by simp))]
theorem wth_pos (E : List (Nat × Nat)) : ∀ (Q : List Nat) (j : Nat), (∀ e ∈ E, e.1 < Q.length ∧ 1 ≤ e.2) → 1 ≤ Q.getD j 0 ∨ (∃ e ∈ E, e.1 = j) → 1 ≤ (wth Q E).getD j 0 := by
  induction E with
  | nil => intro Q j _ h; rcases h with h | ⟨e, he, _⟩; exact h; cases he
  | cons e E ih =>
    intro Q j hl h
    show 1 ≤ (wth (Q.set e.1 e.2) E).getD j 0
    have he := hl e (by simp)
    refine ih (Q.set e.1 e.2) j (fun f hf => by rw [List.length_set]; exact hl f (by simp [hf])) ?_
    rcases h with h | ⟨f, hf, hfj⟩
    · left; rw [getD_set _ _ _ _ he.1]; split <;> omega
    · rcases List.mem_cons.1 hf with h1 | h1
      · subst h1; left; rw [getD_set _ _ _ _ he.1, if_pos hfj]; exact he.2
      · exact .inr ⟨f, h1, hfj⟩
/-- All miners are a quorum. -/
theorem sig_all {E : List (Nat × Nat)} (h : EntsOk E 1) (h0 : E ≠ []) : 2 * tsum (wth (List.replicate 64 0) E) < 3 * tsum (sig (wth (List.replicate 64 0) E) (E.map fun e => (e.1 : Int))) := by
  have hz : (List.replicate 64 0 : List Nat).length = 64 := by simp
  have hP : (wth (List.replicate 64 0) E).length = 64 := by rw [wth_len]; exact hz
  obtain ⟨l1, g1⟩ := sig_get hP (E.map fun e => (e.1 : Int))
  have hm : tsum (wth (List.replicate 64 0) E) ≤ tsum (sig (wth (List.replicate 64 0) E) (E.map fun e => (e.1 : Int))) := by
    refine tsum_pt (by rw [l1, hP]) fun j => ?_
    rw [g1]
    by_cases hj : (j : Int) ∈ E.map fun e => (e.1 : Int)
    · rw [if_pos hj]; exact Nat.le_refl _
    · rw [if_neg hj, wth_keeps E _ j (fun e he => by rw [hz]; exact h.m e he) (fun e he hje => hj (List.mem_map.2 ⟨e, he, by rw [hje]⟩)), List.getD_eq_getElem?_getD, List.getElem?_replicate]
      split <;> exact Nat.le_refl _
  obtain ⟨e, he⟩ := List.exists_mem_of_ne_nil E h0
  have hp := wth_pos E (List.replicate 64 0) e.1 (fun f hf => ⟨by rw [hz]; exact h.m f hf, (h.p f hf).1⟩) (.inr ⟨e, he, rfl⟩)
  have hg := tsum_ge (wth (List.replicate 64 0) E) e.1
  omega
end Go.Proofs.Ythmgigojgagpeaa
