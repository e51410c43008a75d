/- A region that draws its order, makes a box and stores a number into it: kinds and obligations over XDraw2 (the store is operation ks). -/
import Derived.Test.YtepibfpdkjkdjaaDoorVal
import Derived.Test.YtepibfpdkjkdjaaDoorDraw2
namespace Go.Proofs.YtepibfpdkjkdjaaDoor.R
open Go.RowKit

/-- The row is not the new box's block. -/
def Off (q : Option Addr) (γ : Option Nat) : Prop := ∀ g a, γ = some g → q = some a → a.block ≠ g
/-- A number as a value. -/
def NG (n : Nat) (v : Value) (γ : Option Nat) (w : World) : Prop := ∃ q c, v = .agg #[.slice q (lb n).length c] ∧ NatIn w q c n ∧ Off q γ
def SG (n : Nat) (v : Value) (γ : Option Nat) (w : World) : Prop := ∃ q c, v = .tuple #[.agg #[.slice q (lb n).length c], .bool true] ∧ NatIn w q c n ∧ Off q γ
def TG (n : Nat) (x y : Value) (v : Value) (γ : Option Nat) (w : World) : Prop := ∃ q c, v = .tuple #[.agg #[.slice q (lb n).length c], x, y] ∧ NatIn w q c n ∧ Off q γ
def PG (v : Value) (γ : Option Nat) (w : World) : Prop := ∃ g, γ = some g ∧ v = .pointer (some ⟨g, 0, none⟩) ∧ ∃ z, Boxed w g 25 z
def UG (n : Nat) (γ : Option Nat) (w : World) : Prop := ∃ g q c, γ = some g ∧ Boxed w g 25 (.slice q (lb n).length c) ∧ NatIn w q c n ∧ Off q γ
theorem NG.old {n : Nat} {v : Value} {γ : Option Nat} {w w' : World} (h : NG n v γ w) (hb : Below w.heap.size w w') : NG n v γ w' := by
  obtain ⟨q, c, e, hN, ho⟩ := h; exact ⟨q, c, e, hN.old hb, ho⟩
theorem SG.old {n : Nat} {v : Value} {γ : Option Nat} {w w' : World} (h : SG n v γ w) (hb : Below w.heap.size w w') : SG n v γ w' := by
  obtain ⟨q, c, e, hN, ho⟩ := h; exact ⟨q, c, e, hN.old hb, ho⟩
theorem TG.old {n : Nat} {x y v : Value} {γ : Option Nat} {w w' : World} (h : TG n x y v γ w) (hb : Below w.heap.size w w') : TG n x y v γ w' := by
  obtain ⟨q, c, e, hN, ho⟩ := h; exact ⟨q, c, e, hN.old hb, ho⟩
theorem PG.old {v : Value} {γ : Option Nat} {w w' : World} (h : PG v γ w) (hb : Below w.heap.size w w') : PG v γ w' := by
  obtain ⟨g, e, hv, z, hz⟩ := h; exact ⟨g, e, hv, z, Boxed.below' hz hb hz.lt⟩
theorem UG.old {n : Nat} {γ : Option Nat} {w w' : World} (h : UG n γ w) (hb : Below w.heap.size w w') : UG n γ w' := by
  obtain ⟨g, q, c, e, hx, hN, ho⟩ := h; exact ⟨g, q, c, e, Boxed.below' hx hb hx.lt, hN.old hb, ho⟩
theorem NG.zero (γ : Option Nat) (w : World) : NG 0 (.agg #[.slice none 0 0]) γ w :=
  ⟨none, 0, by rw [lb_zero]; rfl, by show Sl _ _ _ _ _ (lb 0); rw [lb_zero]; exact Sl.empty _ _ _, fun _ _ _ h => by cases h⟩
theorem NV.zero (w : World) : NV 0 (.agg #[.slice none 0 0]) w :=
  ⟨none, 0, by rw [lb_zero]; rfl, by show Sl _ _ _ _ _ (lb 0); rw [lb_zero]; exact Sl.empty _ _ _⟩
/-- What a slot holds. -/
inductive Kr where
  | any
  | eq (v : Value)
  | nat (n : Nat)
  | sub (n : Nat)
  | tri (n : Nat) (x y : Value)
  | ptr
def VR : Kr → Value → Option Nat → World → Prop
  | .any, _, _, _ => True
  | .eq x, v, _, _ => v = x
  | .nat n, v, γ, w => NG n v γ w
  | .sub n, v, γ, w => SG n v γ w
  | .tri n x y, v, γ, w => TG n x y v γ w
  | .ptr, v, γ, w => PG v γ w
theorem VR.old {k : Kr} {v : Value} {γ : Option Nat} {w w' : World} (h : VR k v γ w) (hb : Below w.heap.size w w') : VR k v γ w' := by
  cases k with
  | any => trivial
  | eq x => exact h
  | nat n => exact NG.old h hb
  | sub n => exact SG.old h hb
  | tri n x y => exact TG.old h hb
  | ptr => exact PG.old h hb
structure GG (W : World) (γ : Option Nat) (w : World) : Prop where
  b : Below W.heap.size W w
  g : ∀ g, γ = some g → W.heap.size ≤ g ∧ g < w.heap.size
theorem GG.far {W w : World} {γ : Option Nat} (h : GG W γ w) {q : Option Addr} {c n : Nat} (hn : NatIn W q c n) : Off q γ := by
  rintro g a e rfl
  have := hn.lt; have := (h.g g e).1; omega
theorem GG.fresh {W w : World} {γ : Option Nat} (h : GG W γ w) {q : Option Addr} (hf : ∀ a, q = some a → w.heap.size ≤ a.block) : Off q γ := by
  intro g a e e2
  have := hf a e2; have := (h.g g e).2; omega
theorem GG.old {W w w' : World} {γ : Option Nat} (h : GG W γ w) (hb : Below w.heap.size w w') : GG W γ w' :=
  ⟨h.b.trans (hb.mono h.b.size), fun g e => ⟨(h.g g e).1, Nat.lt_of_lt_of_le (h.g g e).2 hb.size⟩⟩
/-- The facts that no slot holds: what the store leaves. -/
def UU (ks x : Nat) (i : Nat) (γ : Option Nat) (w : World) : Prop := if i = ks then UG x γ w else True
theorem UU.old {ks x i : Nat} {γ : Option Nat} {w w' : World} (h : UU ks x i γ w) (hb : Below w.heap.size w w') : UU ks x i γ w' := by
  unfold UU at h ⊢
  by_cases e : i = ks
  · rw [if_pos e] at h ⊢; exact h.old hb
  · rw [if_neg e]; trivial

section
variable {P : Program} {ops : Array Oper} {Q : Exit → Act → World → Prop} {md : Region.Mode} {K : Tmp → Kr} {ks x : Nat} {W : World} {a0 : Act}
theorem owes2_val {i : Nat} {o : Oper} {t : Tmp} (hi : ops[i]? = some o) (ht : o.dst = some t) (h9 : i ≠ ks) (h : ∀ γ a w, Agree ops a0 a → GG W γ w → AllV (fun t v w => VR (K t) v γ w) a w (waits md ops o) → AllU (UU ks x) γ w (waitsI md o) →
    ∃ v, Region.wanted o (yielded ops a.tmps) = true ∧ (execOp a.eval o).run P w = .ok (.value v) w ∧ VR (K t) v γ w) : Owes2 P md ops Q (fun t v γ w => VR (K t) v γ w) (UU ks x) (GG W) a0 i o := by
  intro γ a w ha hG hV hU
  obtain ⟨v, hw, hr, hv⟩ := h γ a w ha hG hV hU
  unfold wpOp
  rw [hi]
  simp only [hw, if_true, Oper.wp, hr, Oper.upon]
  exact .inl ⟨v, γ, rfl, fun u hu => by rw [ht] at hu; cases hu; exact hv, by unfold UU; rw [if_neg h9]; trivial, hG, fun _ _ _ _ _ => ⟨fun _ _ _ h => h, fun h => h⟩⟩
theorem owes2_call {i : Nat} {o : Oper} {t : Tmp} (hi : ops[i]? = some o) (ht : o.dst = some t) (h9 : i ≠ ks) (f : FuncId) (h : ∀ γ a w, Agree ops a0 a → GG W γ w → AllV (fun t v w => VR (K t) v γ w) a w (waits md ops o) → AllU (UU ks x) γ w (waitsI md o) →
    ∃ args, Region.wanted o (yielded ops a.tmps) = true ∧ (execOp a.eval o).run P w = .ok (.enter f args) w ∧
      Calls P f args w fun e w' => ∃ v, e = .returned v ∧ VR (K t) v γ w' ∧ Below w.heap.size w w') : Owes2 P md ops Q (fun t v γ w => VR (K t) v γ w) (UU ks x) (GG W) a0 i o := by
  intro γ a w ha hG hV hU
  obtain ⟨args, hw, hr, hc⟩ := h γ a w ha hG hV hU
  unfold wpOp
  rw [hi]
  simp only [hw, if_true, Oper.wp, hr, Oper.upon]
  refine .inl (hc.mono ?_)
  rintro e w' ⟨v, rfl, h1, hb⟩
  exact ⟨v, γ, rfl, fun u hu => by rw [ht] at hu; cases hu; exact h1, by unfold UU; rw [if_neg h9]; trivial, hG.old hb, fun _ _ _ _ _ => ⟨fun _ _ _ h => VR.old h hb, fun h => UU.old h hb⟩⟩
/-- The new box. -/
theorem owes2_alloc {i : Nat} {o : Oper} {t : Tmp} {z : Value} (hi : ops[i]? = some o) (ht : o.dst = some t) (h9 : i ≠ ks) (hg : o.guard = none) (hK : K t = .ptr) (hkp : ∀ u, u ≠ t → K u ≠ .ptr)
    (hap : ∀ (j : Nat) (p : Oper), ops[j]? = some p → j ≠ i → p.dst ≠ some t) (h9w : ∀ p : Oper, ops[ks]? = some p → ∃ e ∈ p.after, Region.binds md e = true ∧ e.on = i)
    (hr : ∀ (a : Act) (w : World), (execOp a.eval o).run P w = .ok (.value (.pointer (some ⟨w.heap.size, 0, none⟩))) (w.alloc (.cells #[z] 25))) : Owes2 P md ops Q (fun t v γ w => VR (K t) v γ w) (UU ks x) (GG W) a0 i o := by
  intro γ a w ha hG hV hU
  unfold wpOp
  rw [hi]
  simp only [wanted_free hg, if_true, Oper.wp, hr, Oper.upon]
  have hb : Below w.heap.size w (w.alloc (.cells #[z] 25)) := (Below.refl _ _).alloc (Nat.le_refl _) _
  have off : ∀ {q : Option Addr} {c n : Nat}, NatIn w q c n → Off q (some w.heap.size) := by
    rintro q c n hn g a e rfl
    have := hn.lt
    cases e; omega
  refine .inl ⟨.pointer (some ⟨w.heap.size, 0, none⟩), some w.heap.size, rfl, fun u hu => ?_, by unfold UU; rw [if_neg h9]; trivial, ⟨hG.b.trans (hb.mono hG.b.size), fun g e => ?_⟩, fun j p hp hj hw => ⟨fun u v hu h => ?_, fun h => ?_⟩⟩
  · rw [ht] at hu; cases hu
    show VR (K t) _ _ _
    rw [hK]
    exact ⟨_, rfl, rfl, z, Boxed.new w _ _⟩
  · cases e; exact ⟨hG.b.size, by simp⟩
  · have hut : u ≠ t := fun e => hap j p hp hj (by rw [hu, e])
    have hk := hkp u hut
    show VR (K u) _ _ _
    cases hku : K u with
    | any => trivial
    | eq x => rw [hku] at h; exact h
    | nat n => rw [hku] at h; obtain ⟨q, c, e, hN, _⟩ := h; exact ⟨q, c, e, hN.alloc _, off hN⟩
    | sub n => rw [hku] at h; obtain ⟨q, c, e, hN, _⟩ := h; exact ⟨q, c, e, hN.alloc _, off hN⟩
    | tri n x y => rw [hku] at h; obtain ⟨q, c, e, hN, _⟩ := h; exact ⟨q, c, e, hN.alloc _, off hN⟩
    | ptr => exact absurd hku hk
  · unfold UU
    by_cases e : j = ks
    · subst e
      obtain ⟨e, he, hbd, hon⟩ := h9w p hp
      exact absurd hon (hw e he hbd)
    · rw [if_neg e]; trivial
/-- The store into it. -/
theorem owes2_store {o : Oper} (hi : ops[ks]? = some o) (ht : o.dst = none) (hg : o.guard = none) (h : ∀ γ a w, Agree ops a0 a → GG W γ w → AllV (fun t v w => VR (K t) v γ w) a w (waits md ops o) →
    ∃ g q c, γ = some g ∧ (∃ z, Boxed w g 25 z) ∧ NatIn w q c x ∧ Off q γ ∧ (execOp a.eval o).run P w = .ok .skip (w.setCell ⟨g, 0, none⟩ (.slice q (lb x).length c))) : Owes2 P md ops Q (fun t v γ w => VR (K t) v γ w) (UU ks x) (GG W) a0 ks o := by
  intro γ a w ha hG hV hU
  obtain ⟨g, q, c, rfl, ⟨z, hz⟩, hN, ho, hr⟩ := h γ a w ha hG hV
  unfold wpOp
  rw [hi]
  simp only [wanted_free hg, if_true, Oper.wp, hr, Oper.upon]
  have hgB := (hG.g g rfl).1
  have hm : Mod (· = g) w (w.setCell ⟨g, 0, none⟩ (.slice q (lb x).length c)) := (Mod.refl (· = g) w).setCell (p := ⟨g, 0, none⟩) (fun _ => rfl) _
  have hb : Below W.heap.size w (w.setCell ⟨g, 0, none⟩ (.slice q (lb x).length c)) := (Below.refl _ w).setCell (p := ⟨g, 0, none⟩) hgB _
  have keep : ∀ {q' : Option Addr} {c' n' : Nat}, NatIn w q' c' n' → Off q' (some g) → NatIn (w.setCell ⟨g, 0, none⟩ (.slice q (lb x).length c)) q' c' n' :=
    fun hN' ho' => hN'.kept hm (fun a e => ho' g a rfl e)
  have hu9 : UU ks x ks (some g) (w.setCell ⟨g, 0, none⟩ (.slice q (lb x).length c)) := by unfold UU; rw [if_pos rfl]; exact ⟨g, q, c, rfl, hz.set _, keep hN ho, ho⟩
  have hv0 : ∀ t, o.dst = some t → VR (K t) undef (some g) (w.setCell ⟨g, 0, none⟩ (.slice q (lb x).length c)) := by intro t e; rw [ht] at e; cases e
  refine .inl ⟨undef, some g, rfl, hv0, hu9, ⟨hG.b.trans hb, fun g' e => ⟨(hG.g g' e).1, Nat.lt_of_lt_of_le (hG.g g' e).2 hm.size⟩⟩, fun j p hp hj hw => ⟨fun u v hu h => ?_, fun h => ?_⟩⟩
  · show VR (K u) _ _ _
    cases hku : K u with
    | any => trivial
    | eq x => rw [hku] at h; exact h
    | nat n => rw [hku] at h; obtain ⟨q', c', e, hN', ho'⟩ := h; exact ⟨q', c', e, keep hN' ho', ho'⟩
    | sub n => rw [hku] at h; obtain ⟨q', c', e, hN', ho'⟩ := h; exact ⟨q', c', e, keep hN' ho', ho'⟩
    | tri n x y => rw [hku] at h; obtain ⟨q', c', e, hN', ho'⟩ := h; exact ⟨q', c', e, keep hN' ho', ho'⟩
    | ptr => rw [hku] at h; obtain ⟨g', e, hv, _⟩ := h; cases e; exact ⟨g, rfl, hv, _, hz.set _⟩
  · unfold UU; rw [if_neg hj]; trivial
end
end Go.Proofs.YtepibfpdkjkdjaaDoor.R
