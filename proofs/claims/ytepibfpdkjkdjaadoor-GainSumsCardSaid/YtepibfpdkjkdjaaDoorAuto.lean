/- Operations of a drawn region that are not wanted. -/
import Derived.Test.YtepibfpdkjkdjaaDoorVal
namespace Go.Proofs.YtepibfpdkjkdjaaDoor
open Go.RowKit

theorem wanted_not {ops : Array Oper} {o : Oper} {a : Act} {g : Nat} {want : Bool} {t : Tmp} {v : Value} (hg : o.guard = some (g, want)) (hd : (ops[g]?).bind (·.dst) = some t) (h : a.eval (.tmp t) = v) (hv : v ≠ .bool want) : Region.wanted o (yielded ops a.tmps) = false := by
  unfold Region.wanted yielded
  rw [hg]
  simp only [hd, Option.bind_some]
  unfold Act.eval at h
  cases hc : a.tmps[t]? with
  | none => rfl
  | some x =>
    simp [hc] at h
    subst h
    cases x with
    | bool b =>
      simp only [beq_eq_false_iff_ne, ne_eq, Option.some.injEq]
      intro e; exact hv (by rw [e])
    | _ => rfl
theorem owes_skip {P : Program} {ops : Array Oper} {Q : Exit → Act → World → Prop} {md : Region.Mode} {V : Tmp → Value → World → Prop} {G : World → Prop} {a0 : Act} {i : Nat} {o : Oper} {t : Tmp} (hi : ops[i]? = some o) (ht : o.dst = some t)
    (h : ∀ a w, Agree ops a0 a → G w → AllV V a w (waits md ops o) → Region.wanted o (yielded ops a.tmps) = false ∧ V t undef w) : Owes P md ops Q V G a0 i o := by
  intro a w ha hG hV
  obtain ⟨hw, hv⟩ := h a w ha hG hV
  unfold wpOp
  rw [hi]
  simp only [hw]
  exact ⟨undef, rfl, fun u hu => by rw [ht] at hu; cases hu; exact hv, hG, fun _ _ h => h⟩
end Go.Proofs.YtepibfpdkjkdjaaDoor
