/- What single operations owe in a region with a ghost. -/
import Derived.Test.YtkejidmomnmdbaaDoorDraw2
import Derived.Test.YtkejidmomnmdbaaDoorLib
namespace Go.Proofs.YtkejidmomnmdbaaDoor
open Go

section
variable {P : Program} {ops : Array Oper} {Q : Exit → Act → World → Prop} {md : Region.Mode} {Γ : Type} {V : Tmp → Value → Γ → World → Prop} {U : Nat → Γ → World → Prop} {G : Γ → World → Prop} {a0 : Act}
/-- Only operation i writes slot t. -/
def oneDst (ops : Array Oper) (i t : Nat) : Bool := (List.range ops.size).all fun j => j == i || (ops[j]?.bind (·.dst)) != some t
theorem oneDst_spec {i t j : Nat} {p : Oper} (h : oneDst ops i t = true) (hp : ops[j]? = some p) (hj : j ≠ i) : p.dst ≠ some t := by
  intro e
  have hlt := (Array.getElem?_eq_some_iff.1 hp).1
  have := List.all_eq_true.1 h j (List.mem_range.2 hlt)
  rw [hp] at this
  simp [hj, e] at this
/-- These wait for operation i. -/
def allWait (md : Region.Mode) (ops : Array Oper) (i : Nat) (J : List Nat) : Bool := J.all fun j => match ops[j]? with | some p => p.after.any (fun e => Region.binds md e && e.on == i) | none => false
theorem allWait_spec {i j : Nat} {J : List Nat} {p : Oper} (h : allWait md ops i J = true) (hp : ops[j]? = some p) (hw : ∀ e ∈ p.after, Region.binds md e = true → e.on ≠ i) : j ∉ J := by
  intro hj
  have := List.all_eq_true.1 h j hj
  rw [hp] at this
  obtain ⟨k, hk, h1⟩ := Array.any_iff_exists.1 this
  obtain ⟨_, _, h2⟩ := h1
  rw [Bool.and_eq_true, beq_iff_eq] at h2
  exact hw _ (Array.getElem_mem _) h2.1 h2.2
/-- An operation that yields a value and turns nothing. -/
theorem owes2_val {i : Nat} {o : Oper} {t : Tmp} (hi : ops[i]? = some o) (ht : o.dst = some t) (hU : ∀ γ w, U i γ w)
    (h : ∀ γ a w, Agree ops a0 a → G γ w → AllV (fun t v w => V t v γ w) a w (waits md ops o) → ∃ v, Region.wanted o (yielded ops a.tmps) = true ∧ (execOp a.eval o).run P w = .ok (.value v) w ∧ V t v γ w) : Owes2 P md ops Q V U G a0 i o := by
  intro γ a w ha hG hV _
  obtain ⟨v, hw, hr, hv⟩ := h γ a w ha hG hV
  unfold wpOp
  rw [hi]
  simp only [hw, if_true, Oper.wp, hr, Oper.upon]
  exact .inl ⟨v, γ, rfl, fun u hu => by rw [ht] at hu; cases hu; exact hv, hU _ _, hG, fun _ _ _ _ _ => ⟨fun _ _ _ h => h, fun h => h⟩⟩
/-- A call. -/
theorem owes2_call {i : Nat} {o : Oper} {t : Tmp} (hi : ops[i]? = some o) (ht : o.dst = some t) (f : FuncId) (hU : ∀ γ w, U i γ w)
    (h : ∀ γ a w, Agree ops a0 a → G γ w → AllV (fun t v w => V t v γ w) a w (waits md ops o) → ∃ args, Region.wanted o (yielded ops a.tmps) = true ∧ (execOp a.eval o).run P w = .ok (.enter f args) w ∧
      Calls P f args w fun e w' => ∃ v, e = .returned v ∧ V t v γ w' ∧ G γ w' ∧ (∀ t u, V t u γ w → V t u γ w') ∧ ∀ j, U j γ w → U j γ w') : Owes2 P md ops Q V U G a0 i o := by
  intro γ a w ha hG hV _
  obtain ⟨args, hw, hr, hc⟩ := h γ a w ha hG hV
  unfold wpOp
  rw [hi]
  simp only [hw, if_true, Oper.wp, hr, Oper.upon]
  refine .inl (hc.mono ?_)
  rintro e w' ⟨v, rfl, h1, h2, h3, h4⟩
  exact ⟨v, γ, rfl, fun u hu => by rw [ht] at hu; cases hu; exact h1, hU _ _, h2, fun j _ _ _ _ => ⟨fun t x _ hx => h3 t x hx, h4 j⟩⟩
/-- An operation that makes memory. -/
theorem owes2_mem {i : Nat} {o : Oper} {t : Tmp} (J : List Nat) (hone : oneDst ops i t = true) (hJ : allWait md ops i J = true) (hi : ops[i]? = some o) (ht : o.dst = some t)
    (h : ∀ γ a w, Agree ops a0 a → G γ w → AllV (fun t v w => V t v γ w) a w (waits md ops o) → ∃ v w' γ', Region.wanted o (yielded ops a.tmps) = true ∧ (execOp a.eval o).run P w = .ok (.value v) w' ∧ V t v γ' w' ∧ U i γ' w' ∧ G γ' w' ∧
      (∀ t' x, t' ≠ t → V t' x γ w → V t' x γ' w') ∧ ∀ j, j ∉ J → j ≠ i → U j γ w → U j γ' w') : Owes2 P md ops Q V U G a0 i o := by
  intro γ a w ha hG hV _
  obtain ⟨v, w', γ', hw, hr, h1, h2, h3, h4, h5⟩ := h γ a w ha hG hV
  unfold wpOp
  rw [hi]
  simp only [hw, if_true, Oper.wp, hr, Oper.upon]
  exact .inl ⟨v, γ', rfl, fun u hu => by rw [ht] at hu; cases hu; exact h1, h2, h3, fun j p hp hj hwt => ⟨fun t' x hd hx => h4 t' x (fun e => oneDst_spec hone hp hj (by rw [hd, e])) hx, h5 j (allWait_spec hJ hp hwt) hj⟩⟩
/-- A store. -/
theorem owes2_store {i : Nat} {o : Oper} (J : List Nat) (hJ : allWait md ops i J = true) (hi : ops[i]? = some o) (ht : o.dst = none)
    (h : ∀ γ a w, Agree ops a0 a → G γ w → AllV (fun t v w => V t v γ w) a w (waits md ops o) → ∃ w' γ', Region.wanted o (yielded ops a.tmps) = true ∧ (execOp a.eval o).run P w = .ok .skip w' ∧ U i γ' w' ∧ G γ' w' ∧
      (∀ t' x, V t' x γ w → V t' x γ' w') ∧ ∀ j, j ∉ J → j ≠ i → U j γ w → U j γ' w') : Owes2 P md ops Q V U G a0 i o := by
  intro γ a w ha hG hV _
  obtain ⟨w', γ', hw, hr, h2, h3, h4, h5⟩ := h γ a w ha hG hV
  unfold wpOp
  rw [hi]
  simp only [hw, if_true, Oper.wp, hr, Oper.upon]
  exact .inl ⟨undef, γ', rfl, fun u hu => (by rw [ht] at hu; cases hu), h2, h3, fun j p hp hj hwt => ⟨fun t' x _ hx => h4 t' x hx, h5 j (allWait_spec hJ hp hwt) hj⟩⟩
end
end Go.Proofs.YtkejidmomnmdbaaDoor
