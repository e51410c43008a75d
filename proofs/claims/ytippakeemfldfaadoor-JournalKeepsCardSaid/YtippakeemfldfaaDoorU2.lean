/- Texts 2: what the laws lean on. -/
import Derived.Orders
import Derived.Tactics
import Derived.Test.YtippakeemfldfaaDoorU1
import Derived.Test.YtippakeemfldfaaDoorProg
import Derived.Sort.Walk0
import Derived.Deep.DeepCutAuto
import Derived.LoopTactic
import Derived.Test.YtippakeemfldfaaDoorShelf
import Derived.Lib.Builder
import Derived.Lib.AppendStr
import Derived.Laws.Externs
import Derived.Deep.CutBlock
import Derived.BigQuiet
namespace Go.Proofs.YtippakeemfldfaaDoor
open Go

/-- How many of the first n are not listed yet. -/
def unl (L : Array Bool) : Nat → Nat
  | 0 => 0
  | n + 1 => unl L n + (if L.getD n true then 0 else 1)
theorem unl_le (L : Array Bool) : ∀ n, unl L n ≤ n
  | 0 => Nat.le_refl _
  | n + 1 => by have := unl_le L n; simp only [unl]; split <;> omega
theorem set_self (L : Array Bool) (i : Nat) : (L.setIfInBounds i true).getD i true = true := by
  by_cases h : i < L.size
  · simp [h]
  · simp [h]
theorem unl_set (L : Array Bool) (i : Nat) (hi : L.getD i true = false) : ∀ n, unl (L.setIfInBounds i true) n + (if i < n then 1 else 0) = unl L n
  | 0 => rfl
  | n + 1 => by
    have ih := unl_set L i hi n
    simp only [unl]
    by_cases h : n = i
    · subst h
      rw [set_self, hi]
      simp at ih ⊢
      exact ih
    · rw [getD_set_ne true (Ne.symm h)]
      generalize (if L.getD n true = true then 0 else 1) = z
      by_cases h2 : i < n
      · rw [if_pos h2] at ih; rw [if_pos (by omega)]; omega
      · rw [if_neg h2] at ih; rw [if_neg (by omega)]; omega
theorem unl_pos (L : Array Bool) : ∀ n i, i < n → L.getD i true = false → 0 < unl L n
  | n + 1, i, h, hi => by
    simp only [unl]
    by_cases e : i = n
    · subst e; rw [hi]; simp
    · have := unl_pos L n i (by omega) hi; omega

/-- What is in the slots that the operations know: those of the list. -/
def AllV (V : Tmp → Value → World → Prop) (a : Act) (w : World) : List Tmp → Prop
  | [] => True
  | t :: r => V t (a.eval (.tmp t)) w ∧ AllV V a w r
theorem AllV.of {V : Tmp → Value → World → Prop} {a : Act} {w : World} : ∀ {l : List Tmp}, (∀ t ∈ l, V t (a.eval (.tmp t)) w) → AllV V a w l
  | [], _ => trivial
  | t :: r, h => ⟨h t (by simp), AllV.of (fun u hu => h u (by simp [hu]))⟩

/-- The slots whose values an operation waits for. -/
def waits (md : Region.Mode) (ops : Array Oper) (o : Oper) : List Tmp :=
  (o.after.toList.filter (Region.binds md)).filterMap fun e => (ops[e.on]?).bind (·.dst)

structure Agree (ops : Array Oper) (a0 a : Act) : Prop where
  size : a.tmps.size = a0.tmps.size
  defers : a.defers = a0.defers
  same : ∀ t, (∀ (i : Nat) (o : Oper), ops[i]? = some o → o.dst ≠ some t) → a.eval (.tmp t) = a0.eval (.tmp t)

def drawOk (ops : Array Oper) (N : Nat) : Bool :=
  (List.range ops.size).all fun i => match ops[i]? with
    | none => true
    | some o => o.after.all (fun e => decide (e.on < i)) && (match o.dst with
      | none => true
      | some d => decide (d < N) && (List.range ops.size).all fun j => j == i || (match ops[j]? with | some p => p.dst != some d | none => true))

structure DrawOk (ops : Array Oper) (N : Nat) : Prop where
  before : ∀ (i : Nat) (o : Oper), ops[i]? = some o → ∀ e ∈ o.after, e.on < i
  room : ∀ (i : Nat) (o : Oper) (d : Tmp), ops[i]? = some o → o.dst = some d → d < N
  apart : ∀ (i j : Nat) (o p : Oper) (d : Tmp), ops[i]? = some o → ops[j]? = some p → j ≠ i → o.dst = some d → p.dst ≠ some d
theorem drawOk_spec {ops : Array Oper} {N : Nat} (h : drawOk ops N = true) : DrawOk ops N := by
  have key : ∀ (i : Nat) (o : Oper), ops[i]? = some o → o.after.all (fun e => decide (e.on < i)) = true ∧ (match o.dst with
      | none => true
      | some d => decide (d < N) && (List.range ops.size).all fun j => j == i || (match ops[j]? with | some p => p.dst != some d | none => true)) = true := by
    intro i o ho
    have hlt : i < ops.size := (Array.getElem?_eq_some_iff.1 ho).1
    have := List.all_eq_true.1 h i (List.mem_range.2 hlt)
    simp only [ho, Bool.and_eq_true] at this
    exact this
  refine ⟨fun i o ho e he => ?_, fun i o d ho hd => ?_, fun i j o p d ho hp hj hd hpd => ?_⟩
  · have := Array.all_eq_true_iff_forall_mem.1 (key i o ho).1 e he
    exact of_decide_eq_true this
  · have := (key i o ho).2
    rw [hd] at this
    simp only [Bool.and_eq_true] at this
    exact of_decide_eq_true this.1
  · have := (key i o ho).2
    rw [hd] at this
    simp only [Bool.and_eq_true] at this
    have h2 := List.all_eq_true.1 this.2 j (List.mem_range.2 (Array.getElem?_eq_some_iff.1 hp).1)
    simp only [hp, Bool.or_eq_true, beq_iff_eq, hj, false_or, bne_iff_ne, ne_eq] at h2
    exact h2 hpd

/-- What one operation owes. -/
def Owes (P : Program) (md : Region.Mode) (ops : Array Oper) (Q : Exit → Act → World → Prop) (V : Tmp → Value → World → Prop) (G : World → Prop) (a0 : Act) (i : Nat) (o : Oper) : Prop :=
  ∀ a w, Agree ops a0 a → G w → AllV V a w (waits md ops o) →
    wpOp P ops Q i (fun a' w' => ∃ v, a' = a.put o.dst v ∧ (∀ t, o.dst = some t → V t v w') ∧ G w' ∧ ∀ t x, V t x w → V t x w') a w

theorem eval_put_same {a : Act} {d : Tmp} (h : d < a.tmps.size) (v : Value) : (a.put (some d) v).eval (.tmp d) = v := by
  simp [Act.put, Act.eval, h]
theorem size_put (a : Act) (d : Option Tmp) (v : Value) : (a.put d v).tmps.size = a.tmps.size := by
  cases d <;> simp [Act.put]
theorem defers_put (a : Act) (d : Option Tmp) (v : Value) : (a.put d v).defers = a.defers := by
  cases d <;> rfl

section
variable {P : Program} {ops : Array Oper} {Q : Exit → Act → World → Prop} {md : Region.Mode} {V : Tmp → Value → World → Prop} {G : World → Prop} {a0 : Act}

theorem ready_some (hok : DrawOk ops a0.tmps.size) {L : Array Bool} (hL : L.size = ops.size) : ∀ i, i < ops.size → L.getD i true = false → ∃ j, j ∈ Region.ready md ops L := by
  intro i
  induction i using Nat.strongRecOn with
  | ind i ih =>
    intro hi hun
    have ho : ops[i]? = some ops[i] := Array.getElem?_eq_getElem hi
    by_cases h : ∀ e ∈ ops[i].after, Region.binds md e = true → L.getD e.on false = true
    · exact ⟨i, mem_ready.2 ⟨hun, _, ho, h⟩⟩
    · have ⟨e, he⟩ := Classical.not_forall.1 h
      have ⟨he1, he2⟩ := Classical.not_imp.1 he
      have ⟨hb, hf⟩ := Classical.not_imp.1 he2
      have hlt := hok.before i _ ho e he1
      have hel : e.on < L.size := by omega
      refine ih e.on hlt (by omega) ?_
      simp [hel] at hf ⊢
      exact hf

theorem wpAny_vals (hok : DrawOk ops a0.tmps.size) (step : ∀ (i : Nat) (o : Oper), ops[i]? = some o → Owes P md ops Q V G a0 i o)
    (fin : ∀ a w, Agree ops a0 a → G w → (∀ (i : Nat) (o : Oper) (t : Tmp), ops[i]? = some o → o.dst = some t → V t (a.eval (.tmp t)) w) → Q .normal a w) :
    ∀ (fuel : Nat) (L : Array Bool) (a : Act) (w : World), unl L ops.size ≤ fuel → L.size = ops.size → Agree ops a0 a → G w →
      (∀ (i : Nat) (o : Oper) (t : Tmp), ops[i]? = some o → L.getD i true = true → o.dst = some t → V t (a.eval (.tmp t)) w) → wpAny P md ops Q fuel L a w := by
  have allL : ∀ L : Array Bool, L.size = ops.size → Region.ready md ops L = [] → ∀ (i : Nat) (o : Oper), ops[i]? = some o → L.getD i true = true := by
    intro L hL hr i o ho
    cases hc : L.getD i true with
    | true => rfl
    | false =>
      obtain ⟨j, hj⟩ := ready_some (md := md) hok hL i (Array.getElem?_eq_some_iff.1 ho).1 hc
      rw [hr] at hj; cases hj
  intro fuel
  induction fuel with
  | zero =>
    intro L a w hu hL ha hG hv
    have hr : Region.ready md ops L = [] := by
      apply List.eq_nil_iff_forall_not_mem.2
      intro j hj
      obtain ⟨hun, o, ho, _⟩ := mem_ready.1 hj
      have := unl_pos L ops.size j (Array.getElem?_eq_some_iff.1 ho).1 hun
      omega
    exact ⟨hr, fin a w ha hG (fun i o t ho ht => hv i o t ho (allL L hL hr i o ho) ht)⟩
  | succ fuel ih =>
    intro L a w hu hL ha hG hv
    refine ⟨fun hr => fin a w ha hG (fun i o t ho ht => hv i o t ho (allL L hL hr i o ho) ht), fun i hi => ?_⟩
    obtain ⟨hun, o, ho, hall⟩ := mem_ready.1 hi
    have hil : i < ops.size := (Array.getElem?_eq_some_iff.1 ho).1
    have hw : AllV V a w (waits md ops o) := AllV.of (by
      intro t ht
      unfold waits at ht
      obtain ⟨e, he, hd⟩ := List.mem_filterMap.1 ht
      obtain ⟨he1, he2⟩ := List.mem_filter.1 he
      cases hj : ops[e.on]? with
      | none => rw [hj] at hd; cases hd
      | some p =>
        rw [hj] at hd
        have hl := hall e (by simpa using he1) he2
        have hel : e.on < L.size := by rw [hL]; exact (Array.getElem?_eq_some_iff.1 hj).1
        exact hv e.on p t hj (by simp [hel] at hl ⊢; exact hl) hd)
    refine wpOp_mono (fun a' w' h => ?_) (step i o ho a w ha hG hw)
    obtain ⟨v, rfl, hvi, hG', hst⟩ := h
    refine ih _ _ _ ?_ (by simpa using hL) ?_ hG' ?_
    · have := unl_set L i hun ops.size
      rw [if_pos hil] at this; omega
    · refine ⟨by rw [size_put]; exact ha.size, by rw [defers_put]; exact ha.defers, fun t ht => ?_⟩
      rw [Act.eval_put (fun d hd e => ht i o ho (by cases e; exact hd))]
      exact ha.same t ht
    · intro j p t hp hl ht
      by_cases e : j = i
      · subst e
        rw [ho] at hp; cases hp
        rw [ht, eval_put_same (by rw [ha.size]; exact hok.room j o t ho ht)]
        exact hvi t ht
      · rw [Act.eval_put (fun d hd e2 => by cases e2; exact hok.apart i j o p t ho hp e hd ht)]
        rw [getD_set_ne true (Ne.symm e)] at hl
        exact hst _ _ (hv j p t hp hl ht)

/-- The obligations one after the other. -/
def OweAll (P : Program) (md : Region.Mode) (ops : Array Oper) (Q : Exit → Act → World → Prop) (V : Tmp → Value → World → Prop) (G : World → Prop) (a0 : Act) : Nat → List Oper → Prop
  | _, [] => True
  | k, o :: r => Owes P md ops Q V G a0 k o ∧ OweAll P md ops Q V G a0 (k + 1) r
theorem OweAll.get : ∀ {l : List Oper} {k : Nat}, OweAll P md ops Q V G a0 k l → ∀ (i : Nat) (o : Oper), l[i]? = some o → Owes P md ops Q V G a0 (k + i) o
  | _ :: _, k, h, 0, o, hi => by cases hi; exact h.1
  | _ :: r, k, h, i + 1, o, hi => by
    have := OweAll.get h.2 i o (by simpa using hi)
    rwa [show k + 1 + i = k + (i + 1) by omega] at this
  | [], _, _, i, o, hi => by simp at hi
theorem OweAll.cons {k : Nat} {o : Oper} {r : List Oper} (h : Owes P md ops Q V G a0 k o) (h2 : OweAll P md ops Q V G a0 (k + 1) r) : OweAll P md ops Q V G a0 k (o :: r) := ⟨h, h2⟩
theorem OweAll.nil {k : Nat} : OweAll P md ops Q V G a0 k [] := trivial

/-- A region that draws its order. -/
theorem wp_region_vals {id : Nat} {w : World} (V : Tmp → Value → World → Prop) (G : World → Prop) (N : Nat) (hm : P.follows .mixedOrders = true) (hok : drawOk ops N = true) (hN : a0.tmps.size = N) (hG : G w.drew)
    (step : OweAll P .any ops Q V G a0 0 ops.toList)
    (fin : ∀ a w, Agree ops a0 a → G w → (∀ (i : Nat) (o : Oper) (t : Tmp), ops[i]? = some o → o.dst = some t → V t (a.eval (.tmp t)) w) → Q .normal a w) : (Code.region id ops true).wp P Q a0 w := by
  subst hN
  have hok := drawOk_spec hok
  refine wp_region_any hm (wpAny_vals hok (V := V) (G := G) (fun i o ho => ?_) fin ops.size _ a0 _ (unl_le _ _) (by simp) ⟨rfl, rfl, fun _ _ => rfl⟩ hG ?_)
  · have := step.get i o (by simpa using ho)
    rwa [Nat.zero_add] at this
  · intro i o t ho hl _
    have hlt := (Array.getElem?_eq_some_iff.1 ho).1
    simp [hlt] at hl

/-- The slots of the operations. -/
def dsts (ops : Array Oper) : List Tmp := ops.toList.filterMap (·.dst)
def puts (f : Tmp → Value) (l : List Tmp) (b : Act) : Act := l.foldl (fun b t => b.put (some t) (f t)) b
theorem puts_spec (f : Tmp → Value) : ∀ (l : List Tmp) (b : Act), (∀ t ∈ l, t < b.tmps.size) →
    (puts f l b).tmps.size = b.tmps.size ∧ (puts f l b).defers = b.defers ∧ ∀ t, (puts f l b).eval (.tmp t) = if t ∈ l then f t else b.eval (.tmp t)
  | [], b, _ => ⟨rfl, rfl, fun t => by simp [puts]⟩
  | u :: r, b, h => by
    have ih := puts_spec f r (b.put (some u) (f u)) (fun t ht => by rw [size_put]; exact h t (by simp [ht]))
    refine ⟨ih.1.trans (size_put _ _ _), ih.2.1.trans (defers_put _ _ _), fun t => ?_⟩
    have e : puts f (u :: r) b = puts f r (b.put (some u) (f u)) := rfl
    rw [e, ih.2.2 t]
    by_cases h1 : t ∈ r
    · rw [if_pos h1, if_pos (by simp [h1])]
    · rw [if_neg h1]
      by_cases h2 : t = u
      · subst h2; rw [eval_put_same (h t (by simp)), if_pos (by simp)]
      · rw [Act.eval_put (fun d hd e2 => by cases hd; cases e2; exact h2 rfl), if_neg (by simp [h1, h2])]
theorem act_ext {a b : Act} (hs : a.tmps.size = b.tmps.size) (hd : a.defers = b.defers) (h : ∀ t, a.eval (.tmp t) = b.eval (.tmp t)) : a = b := by
  obtain ⟨ta, da⟩ := a
  obtain ⟨tb, db⟩ := b
  have : ta = tb := by
    apply Array.ext hs
    intro i h1 h2
    have := h i
    simpa [Act.eval, h1, h2] using this
  subst this
  cases hd
  rfl
theorem Agree.puts {a : Act} (ha : Agree ops a0 a) (hok : DrawOk ops a0.tmps.size) : a = puts (fun t => a.eval (.tmp t)) (dsts ops) a0 := by
  have hm : ∀ t ∈ dsts ops, ∃ (i : Nat) (o : Oper), ops[i]? = some o ∧ o.dst = some t := by
    intro t ht
    obtain ⟨o, ho, hd⟩ := List.mem_filterMap.1 ht
    obtain ⟨i, hi, e⟩ := List.getElem_of_mem ho
    refine ⟨i, o, ?_, hd⟩
    rw [← e]
    simp at hi
    simp [hi]
  have hp := puts_spec (fun t => a.eval (.tmp t)) (dsts ops) a0 (fun t ht => by obtain ⟨i, o, hi, hd⟩ := hm t ht; exact hok.room i o t hi hd)
  refine act_ext (ha.size.trans hp.1.symm) (ha.defers.trans hp.2.1.symm) (fun t => ?_)
  rw [hp.2.2 t]
  by_cases h : t ∈ dsts ops
  · rw [if_pos h]
  · rw [if_neg h]
    refine ha.same t (fun i o hi hd => h ?_)
    exact List.mem_filterMap.2 ⟨o, by simpa using Array.mem_of_getElem? hi, hd⟩

/-- A region that draws its order, what follows it at a known frame. -/
theorem wp_region_puts {id : Nat} {w : World} (V : Tmp → Value → World → Prop) (G : World → Prop) (N : Nat) (hm : P.follows .mixedOrders = true) (hok : drawOk ops N = true) (hN : a0.tmps.size = N) (hG : G w.drew)
    (step : OweAll P .any ops Q V G a0 0 ops.toList)
    (fin : ∀ f w, G w → (∀ (i : Nat) (o : Oper) (t : Tmp), ops[i]? = some o → o.dst = some t → V t (f t) w) → Q .normal (puts f (dsts ops) a0) w) : (Code.region id ops true).wp P Q a0 w :=
  wp_region_vals V G N hm hok hN hG step (fun a w ha hG hv => by
    subst hN
    rw [ha.puts (drawOk_spec hok)]
    exact fin _ w hG hv)

theorem AllV.get {a : Act} {w : World} : ∀ {l : List Tmp}, AllV V a w l → ∀ t, l.contains t = true → V t (a.eval (.tmp t)) w
  | [], _, t, h => by simp at h
  | u :: r, hh, t, h => by
    by_cases e : t = u
    · subst e; exact hh.1
    · exact AllV.get hh.2 t (by simpa [e] using h)
theorem Agree.outer {a : Act} (h : Agree ops a0 a) (t : Tmp) (ht : ops.all (fun o => o.dst != some t) = true) : a.eval (.tmp t) = a0.eval (.tmp t) := by
  refine h.same t (fun i o ho e => ?_)
  have := Array.all_eq_true_iff_forall_mem.1 ht o (Array.mem_of_getElem? ho)
  rw [e] at this; simp at this
theorem getD_bool {a : Act} {t : Tmp} {b : Bool} (h : a.eval (.tmp t) = .bool b) : a.tmps[t]? = some (.bool b) := by
  unfold Act.eval at h
  cases hc : a.tmps[t]? with
  | none => simp [hc, undef] at h
  | some x => simp [hc] at h; rw [h]
theorem wanted_of {o : Oper} {a : Act} {g : Nat} {want : Bool} {t : Tmp} (hg : o.guard = some (g, want)) (hd : (ops[g]?).bind (·.dst) = some t) (h : a.eval (.tmp t) = .bool want) : Region.wanted o (yielded ops a.tmps) = true := by
  unfold Region.wanted yielded
  rw [hg]
  simp only [hd, Option.bind_some, getD_bool h]
  simp
theorem wanted_free {o : Oper} {a : Act} (hg : o.guard = none) : Region.wanted o (yielded ops a.tmps) = true := by
  unfold Region.wanted; rw [hg]

/-- An operation that yields a value and turns nothing. -/
theorem owes_val {i : Nat} {o : Oper} {t : Tmp} (hi : ops[i]? = some o) (ht : o.dst = some t) (h : ∀ a w, Agree ops a0 a → G w → AllV V a w (waits md ops o) →
    ∃ v, Region.wanted o (yielded ops a.tmps) = true ∧ (execOp a.eval o).run P w = .ok (.value v) w ∧ V t v w) : Owes P md ops Q V G a0 i o := by
  intro a w ha hG hV
  obtain ⟨v, hw, hr, hv⟩ := h a w ha hG hV
  unfold wpOp
  rw [hi]
  simp only [hw, if_true, Oper.wp, hr, Oper.upon]
  exact .inl ⟨v, rfl, fun u hu => by rw [ht] at hu; cases hu; exact hv, hG, fun _ _ h => h⟩
/-- A call. -/
theorem owes_call {i : Nat} {o : Oper} {t : Tmp} (hi : ops[i]? = some o) (ht : o.dst = some t) (f : FuncId) (h : ∀ a w, Agree ops a0 a → G w → AllV V a w (waits md ops o) →
    ∃ args, Region.wanted o (yielded ops a.tmps) = true ∧ (execOp a.eval o).run P w = .ok (.enter f args) w ∧
      Calls P f args w fun e w' => ∃ v, e = .returned v ∧ V t v w' ∧ G w' ∧ ∀ t x, V t x w → V t x w') : Owes P md ops Q V G a0 i o := by
  intro a w ha hG hV
  obtain ⟨args, hw, hr, hc⟩ := h a w ha hG hV
  unfold wpOp
  rw [hi]
  simp only [hw, if_true, Oper.wp, hr, Oper.upon]
  refine .inl (hc.mono ?_)
  rintro e w' ⟨v, rfl, h1, h2, h3⟩
  exact ⟨v, rfl, fun u hu => by rw [ht] at hu; cases hu; exact h1, h2, h3⟩
end
end Go.Proofs.YtippakeemfldfaaDoor

namespace Go.Proofs.YtippakeemfldfaaDoor
open Go.RowKit

/-- What stays where nothing below turns. -/
structure Stays where
  p : Value → World → Prop
  old : ∀ {v : Value} {w w' : World}, p v w → Below w.heap.size w w' → p v w'
inductive Kd where
  | any
  | eq (v : Value)
  | st (s : Stays)
def VK : Kd → Value → World → Prop
  | .any, _, _ => True
  | .eq x, v, _ => v = x
  | .st s, v, w => s.p v w
theorem VK.old {k : Kd} {v : Value} {w w' : World} (h : VK k v w) (hb : Below w.heap.size w w') : VK k v w' := by
  cases k with
  | any => trivial
  | eq x => exact h
  | st s => exact s.old h hb
theorem not_wanted {ops : Array Oper} {o : Oper} {a : Act} {g : Nat} {want : Bool} {t : Tmp} {v : Value} (hg : o.guard = some (g, want)) (hd : (ops[g]?).bind (·.dst) = some t) (h : a.eval (.tmp t) = v) (hv : v ≠ .bool want) : Region.wanted o (yielded ops a.tmps) = false := by
  unfold Region.wanted yielded
  rw [hg]
  simp only [hd, Option.bind_some]
  unfold Act.eval at h
  cases hc : a.tmps[t]? with
  | none => rfl
  | some x =>
    simp [hc] at h
    subst h
    cases x with
    | bool b =>
      simp only [beq_eq_false_iff_ne, ne_eq, Option.some.injEq]
      intro e; exact hv (by rw [e])
    | _ => rfl
section
variable {P : Program} {ops : Array Oper} {Q : Exit → Act → World → Prop} {md : Region.Mode} {K : Tmp → Kd} {W : World} {a0 : Act}
/-- An operation that is not wanted. -/
theorem owesK_not {i : Nat} {o : Oper} {t : Tmp} (hi : ops[i]? = some o) (ht : o.dst = some t)
    (h : ∀ a w, Agree ops a0 a → Below W.heap.size W w → AllV (fun t v w => VK (K t) v w) a w (waits md ops o) → Region.wanted o (yielded ops a.tmps) = false ∧ VK (K t) undef w) : Owes P md ops Q (fun t v w => VK (K t) v w) (fun w => Below W.heap.size W w) a0 i o := by
  intro a w ha hG hV
  obtain ⟨hw, hv⟩ := h a w ha hG hV
  unfold wpOp
  rw [hi]
  simp only [hw]
  exact ⟨undef, rfl, fun u hu => by rw [ht] at hu; cases hu; exact hv, hG, fun _ _ h => h⟩
/-- An operation that yields a value, and may make memory. -/
theorem owesK {i : Nat} {o : Oper} {t : Tmp} (hi : ops[i]? = some o) (ht : o.dst = some t) (h : ∀ a w, Agree ops a0 a → Below W.heap.size W w → AllV (fun t v w => VK (K t) v w) a w (waits md ops o) →
    ∃ v w', Region.wanted o (yielded ops a.tmps) = true ∧ (execOp a.eval o).run P w = .ok (.value v) w' ∧ Below w.heap.size w w' ∧ VK (K t) v w') : Owes P md ops Q (fun t v w => VK (K t) v w) (fun w => Below W.heap.size W w) a0 i o := by
  intro a w ha hG hV
  obtain ⟨v, w', hw, hr, hb, hv⟩ := h a w ha hG hV
  unfold wpOp
  rw [hi]
  simp only [hw, if_true, Oper.wp, hr, Oper.upon]
  exact .inl ⟨v, rfl, fun u hu => by rw [ht] at hu; cases hu; exact hv, hG.trans (hb.mono hG.size), fun _ _ h => VK.old h hb⟩
/-- A call. -/
theorem owesK_call {i : Nat} {o : Oper} {t : Tmp} (hi : ops[i]? = some o) (ht : o.dst = some t) (f : FuncId) (h : ∀ a w, Agree ops a0 a → Below W.heap.size W w → AllV (fun t v w => VK (K t) v w) a w (waits md ops o) →
    ∃ args, Region.wanted o (yielded ops a.tmps) = true ∧ (execOp a.eval o).run P w = .ok (.enter f args) w ∧
      Calls P f args w fun e w' => ∃ v, e = .returned v ∧ VK (K t) v w' ∧ Below w.heap.size w w') : Owes P md ops Q (fun t v w => VK (K t) v w) (fun w => Below W.heap.size W w) a0 i o := by
  intro a w ha hG hV
  obtain ⟨args, hw, hr, hc⟩ := h a w ha hG hV
  unfold wpOp
  rw [hi]
  simp only [hw, if_true, Oper.wp, hr, Oper.upon]
  refine .inl (hc.mono ?_)
  rintro e w' ⟨v, rfl, h1, hb⟩
  exact ⟨v, rfl, fun u hu => by rw [ht] at hu; cases hu; exact h1, hG.trans (hb.mono hG.size), fun _ _ h => VK.old h hb⟩
end
end Go.Proofs.YtippakeemfldfaaDoor

namespace Go.Proofs.YtippakeemfldfaaDoor
open Go

/-- Each of the chain waits for the one ahead of it. -/
def chainOk (md : Region.Mode) (ops : Array Oper) (C : List Nat) : Bool :=
  (List.range C.length).all fun m => match C[m]?, C[m + 1]? with
    | some i, some j => (match ops[j]? with | some p => p.after.any (fun e => Region.binds md e && e.on == i) | none => false)
    | _, _ => true
/-- Operation j waits for i, by n edges at most. -/
def reach (md : Region.Mode) (ops : Array Oper) : Nat → Nat → Nat → Bool
  | 0, _, _ => false
  | n + 1, j, i => match ops[j]? with
    | some p => p.after.any (fun e => Region.binds md e && (e.on == i || reach md ops n e.on i))
    | none => false
/-- The chain's place b waits for operation i (or there is no such place). -/
def aheadOf (md : Region.Mode) (ops : Array Oper) (C : List Nat) (i b : Nat) : Bool :=
  b == C.length || (match C[b]? with
    | some j => reach md ops 16 j i
    | none => false)

/-- Only slots of the operations turn; that of a chain's operation that isn't done yet hasn't. -/
structure AgreeC (ops : Array Oper) (C : List Nat) (k : Nat) (a0 a : Act) : Prop extends Agree ops a0 a where
  kp : ∀ (m i : Nat) (o : Oper) (t : Tmp), k ≤ m → C[m]? = some i → ops[i]? = some o → o.dst = some t → a.eval (.tmp t) = a0.eval (.tmp t)

section
variable {P : Program} {ops : Array Oper} {Q : Exit → Act → World → Prop} {md : Region.Mode} {V : Tmp → Value → Prop} {G : Nat → Value → World → Prop} {C : List Nat} {a0 : Act}

/-- What one operation owes while k of the chain are done, k' behind it. -/
def OwesAt (P : Program) (md : Region.Mode) (ops : Array Oper) (Q : Exit → Act → World → Prop) (V : Tmp → Value → Prop) (G : Nat → Value → World → Prop) (C : List Nat) (a0 : Act) (i : Nat) (o : Oper) (k : Nat) : Prop :=
  ∀ a w x, AgreeC ops C k a0 a → G k x w → AllV (fun t v _ => V t v) a w (waits md ops o) →
    wpOp P ops Q i (fun a' w' => ∃ v, a' = a.put o.dst v ∧ (∀ t, o.dst = some t → V t v) ∧ G k x w') a w
/-- The slot of the chain's last one that is done holds x. -/
def Holds' (ops : Array Oper) (C : List Nat) (a : Act) (k : Nat) (x : Value) : Prop := ∀ (m i : Nat) (o : Oper) (t : Tmp), k = m + 1 → C[m]? = some i → ops[i]? = some o → o.dst = some t → a.eval (.tmp t) = x
/-- What the chain's operation m owes. -/
def OwesIn (P : Program) (md : Region.Mode) (ops : Array Oper) (Q : Exit → Act → World → Prop) (V : Tmp → Value → Prop) (G : Nat → Value → World → Prop) (C : List Nat) (a0 : Act) (i : Nat) (o : Oper) (m : Nat) : Prop :=
  ∀ a w x, AgreeC ops C m a0 a → G m x w → Holds' ops C a m x → AllV (fun t v _ => V t v) a w (waits md ops o) →
    wpOp P ops Q i (fun a' w' => ∃ v, a' = a.put o.dst v ∧ (∀ t, o.dst = some t → V t v) ∧ G (m + 1) v w') a w
def OwesC (P : Program) (md : Region.Mode) (ops : Array Oper) (Q : Exit → Act → World → Prop) (V : Tmp → Value → Prop) (G : Nat → Value → World → Prop) (C : List Nat) (a0 : Act) (i : Nat) (o : Oper) : Prop :=
  (∃ m, C[m]? = some i ∧ OwesIn P md ops Q V G C a0 i o m) ∨ (C.contains i = false ∧ ∃ b, aheadOf md ops C i b = true ∧ ∀ k, k ≤ b → OwesAt P md ops Q V G C a0 i o k)

theorem any_edge {md : Region.Mode} {p : Oper} {i : Nat} (h : p.after.any (fun e => Region.binds md e && e.on == i) = true) : ∃ e ∈ p.after, Region.binds md e = true ∧ e.on = i := by
  obtain ⟨j, hj, h1⟩ := Array.any_iff_exists.1 h
  obtain ⟨_, _, h2⟩ := h1
  rw [Bool.and_eq_true, beq_iff_eq] at h2
  exact ⟨_, Array.getElem_mem _, h2.1, h2.2⟩
theorem chain_edge {m i j : Nat} {p : Oper} (h : chainOk md ops C = true) (hi : C[m]? = some i) (hj : C[m + 1]? = some j) (hp : ops[j]? = some p) : ∃ e ∈ p.after, Region.binds md e = true ∧ e.on = i := by
  have := List.all_eq_true.1 h m (List.mem_range.2 (List.getElem?_eq_some_iff.1 hi).1)
  simp only [hi, hj, hp] at this
  exact any_edge this

theorem reach_done {L : Array Bool} (cl : ∀ (i : Nat) (o : Oper), ops[i]? = some o → L.getD i true = true → ∀ e ∈ o.after, Region.binds md e = true → L.getD e.on false = true) :
    ∀ (n j i : Nat), reach md ops n j i = true → L.getD j true = true → L.getD i false = true
  | 0, _, _, h, _ => by cases h
  | n + 1, j, i, h, hl => by
    unfold reach at h
    cases hp : ops[j]? with
    | none => rw [hp] at h; cases h
    | some p =>
      rw [hp] at h
      obtain ⟨q, _, h1⟩ := Array.any_iff_exists.1 h
      obtain ⟨_, _, h2⟩ := h1
      rw [Bool.and_eq_true, Bool.or_eq_true, beq_iff_eq] at h2
      have h3 := cl j p hp hl _ (Array.getElem_mem _) h2.1
      rcases h2.2 with e | hr
      · rw [← e]; exact h3
      · refine reach_done cl n _ i hr ?_
        have : p.after[q].on < L.size := by
          apply Nat.lt_of_not_le; intro hle
          simp [Array.getElem?_eq_none hle] at h3
        simp [this] at h3 ⊢
        exact h3
theorem getD_tf {L : Array Bool} {n i : Nat} (hL : L.size = n) (hi : i < n) : L.getD i true = L.getD i false := by
  simp [show i < L.size by omega]
theorem getD_set_at {L : Array Bool} {i : Nat} (hi : i < L.size) (d : Bool) : (L.setIfInBounds i true).getD i d = true := by simp [hi]
theorem getD_set_ne' {L : Array Bool} {i j : Nat} (h : j ≠ i) (d : Bool) : (L.setIfInBounds i true).getD j d = L.getD j d := by
  have := Ne.symm h
  simp [Array.getD_eq_getD_getElem?, this]

/-- What is known while the region goes. -/
structure ChainAt (md : Region.Mode) (ops : Array Oper) (V : Tmp → Value → Prop) (G : Nat → Value → World → Prop) (C : List Nat) (a0 : Act) (L : Array Bool) (a : Act) (w : World) (k : Nat) (x : Value) : Prop where
  g : G k x w
  ho : Holds' ops C a k x
  le : k ≤ C.length
  ch : ∀ (m i : Nat), C[m]? = some i → (L.getD i true = true ↔ m < k)
  cl : ∀ (i : Nat) (o : Oper), ops[i]? = some o → L.getD i true = true → ∀ e ∈ o.after, Region.binds md e = true → L.getD e.on false = true
  ag : Agree ops a0 a
  kp : ∀ (i : Nat) (o : Oper) (t : Tmp), ops[i]? = some o → L.getD i true = false → o.dst = some t → a.eval (.tmp t) = a0.eval (.tmp t)
  v : ∀ (i : Nat) (o : Oper) (t : Tmp), ops[i]? = some o → L.getD i true = true → o.dst = some t → V t (a.eval (.tmp t))

theorem ChainAt.agc {L : Array Bool} {a : Act} {w : World} {k : Nat} {x : Value} (h : ChainAt md ops V G C a0 L a w k x) : AgreeC ops C k a0 a :=
  ⟨h.ag, fun m i o t hm hi ho ht => h.kp i o t ho (by
    cases hl : L.getD i true with
    | false => rfl
    | true => exact absurd ((h.ch m i hi).1 hl) (by omega)) ht⟩
theorem wpAny_chain (hok : DrawOk ops a0.tmps.size) (hch : chainOk md ops C = true) (hnd : C.Nodup) (hCl : ∀ i ∈ C, i < ops.size) (step : ∀ (i : Nat) (o : Oper), ops[i]? = some o → OwesC P md ops Q V G C a0 i o)
    (fin : ∀ a w x, Agree ops a0 a → G C.length x w → Holds' ops C a C.length x → (∀ (i : Nat) (o : Oper) (t : Tmp), ops[i]? = some o → o.dst = some t → V t (a.eval (.tmp t))) → Q .normal a w) :
    ∀ (fuel : Nat) (L : Array Bool) (a : Act) (w : World) (k : Nat) (x : Value), unl L ops.size ≤ fuel → L.size = ops.size → ChainAt md ops V G C a0 L a w k x → wpAny P md ops Q fuel L a w := by
  have allL : ∀ L : Array Bool, L.size = ops.size → Region.ready md ops L = [] → ∀ (i : Nat) (o : Oper), ops[i]? = some o → L.getD i true = true := by
    intro L hL hr i o ho
    cases hc : L.getD i true with
    | true => rfl
    | false =>
      obtain ⟨j, hj⟩ := ready_some (md := md) hok hL i (Array.getElem?_eq_some_iff.1 ho).1 hc
      rw [hr] at hj; cases hj
  have done : ∀ (L : Array Bool) (a : Act) (w : World) (k : Nat) (x : Value), L.size = ops.size → ChainAt md ops V G C a0 L a w k x → Region.ready md ops L = [] → Q .normal a w := by
    intro L a w k x hL h hr
    have hk : k = C.length := by
      refine Nat.le_antisymm h.le (Nat.le_of_not_lt fun hlt => ?_)
      have hm : C[k]? = some C[k] := List.getElem?_eq_getElem hlt
      have hi := hCl _ (List.getElem_mem hlt)
      exact Nat.lt_irrefl _ ((h.ch k _ hm).1 (allL L hL hr _ _ (Array.getElem?_eq_getElem hi)))
    subst hk
    exact fin a w x h.ag h.g h.ho (fun i o t ho ht => h.v i o t ho (allL L hL hr i o ho) ht)
  intro fuel
  induction fuel with
  | zero =>
    intro L a w k x hu hL h
    have hr : Region.ready md ops L = [] := by
      apply List.eq_nil_iff_forall_not_mem.2
      intro j hj
      obtain ⟨hun, o, ho, _⟩ := mem_ready.1 hj
      have := unl_pos L ops.size j (Array.getElem?_eq_some_iff.1 ho).1 hun
      omega
    exact ⟨hr, done L a w k x hL h hr⟩
  | succ fuel ih =>
    intro L a w k x hu hL h
    refine ⟨fun hr => done L a w k x hL h hr, fun i hi => ?_⟩
    obtain ⟨hun, o, ho, hall⟩ := mem_ready.1 hi
    have hil : i < ops.size := (Array.getElem?_eq_some_iff.1 ho).1
    have hw : AllV (fun t v _ => V t v) a w (waits md ops o) := AllV.of (by
      intro t ht
      unfold waits at ht
      obtain ⟨e, he, hd⟩ := List.mem_filterMap.1 ht
      obtain ⟨he1, he2⟩ := List.mem_filter.1 he
      cases hj : ops[e.on]? with
      | none => rw [hj] at hd; cases hd
      | some p =>
        rw [hj] at hd
        have hl := hall e (by simpa using he1) he2
        exact h.v e.on p t hj (by rw [getD_tf hL (Array.getElem?_eq_some_iff.1 hj).1]; exact hl) hd)
    -- what follows, with k' of the chain done
    have next : ∀ (k' : Nat) (y : Value → Value), k' ≤ C.length → (∀ v, Holds' ops C (a.put o.dst v) k' (y v)) → (∀ (m j : Nat), C[m]? = some j → ((L.setIfInBounds i true).getD j true = true ↔ m < k')) →
        wpOp P ops Q i (fun a' w' => ∃ v, a' = a.put o.dst v ∧ (∀ t, o.dst = some t → V t v) ∧ G k' (y v) w') a w → wpOp P ops Q i (fun a' w' => wpAny P md ops Q fuel (L.setIfInBounds i true) a' w') a w := by
      intro k' y hk' hho hch' hop
      refine wpOp_mono (fun a' w' hh => ?_) hop
      obtain ⟨v, rfl, hvi, hG'⟩ := hh
      refine ih _ _ _ k' (y v) ?_ (by simpa using hL) ⟨hG', hho v, hk', hch', ?_, ?_, ?_, ?_⟩
      · have := unl_set L i hun ops.size
        rw [if_pos hil] at this; omega
      · intro j p hp hl e he hb
        by_cases hji : j = i
        · subst hji
          rw [ho] at hp; cases hp
          have := hall e he hb
          by_cases hei : e.on = j
          · rw [hei, getD_set_at (by omega)]
          · rw [getD_set_ne' hei]; exact this
        · rw [getD_set_ne' hji] at hl
          have := h.cl j p hp hl e he hb
          by_cases hei : e.on = i
          · rw [hei, getD_set_at (by omega)]
          · rw [getD_set_ne' hei]; exact this
      · refine ⟨by rw [size_put]; exact h.ag.size, by rw [defers_put]; exact h.ag.defers, fun t ht => ?_⟩
        rw [Act.eval_put (fun d hd e => ht i o ho (by cases e; exact hd))]
        exact h.ag.same t ht
      · intro j p t hp hl ht
        have e : j ≠ i := by
          rintro rfl
          rw [getD_set_at (by omega)] at hl; cases hl
        rw [Act.eval_put (fun d hd e2 => by cases e2; exact hok.apart i j o p t ho hp e hd ht)]
        rw [getD_set_ne' e] at hl
        exact h.kp j p t hp hl ht
      · intro j p t hp hl ht
        by_cases e : j = i
        · subst e
          rw [ho] at hp; cases hp
          rw [ht, eval_put_same (by rw [h.ag.size]; exact hok.room j o t ho ht)]
          exact hvi t ht
        · rw [Act.eval_put (fun d hd e2 => by cases e2; exact hok.apart i j o p t ho hp e hd ht)]
          rw [getD_set_ne' e] at hl
          exact h.v j p t hp hl ht
    rcases step i o ho with ⟨m, hm, hop⟩ | ⟨hni, b, hb, hop⟩
    · have hmk : m = k := by
        have h1 : ¬ m < k := fun hlt => by rw [(h.ch m i hm).2 hlt] at hun; cases hun
        have h2 : m ≤ k := by
          cases m with
          | zero => exact Nat.zero_le _
          | succ m =>
            have hlt : m < C.length := by have := (List.getElem?_eq_some_iff.1 hm).1; omega
            have hj : C[m]? = some C[m] := List.getElem?_eq_getElem hlt
            obtain ⟨e, he, hbd, hon⟩ := chain_edge hch hj hm ho
            have := hall e he hbd
            rw [hon] at this
            exact (h.ch m _ hj).1 (by rw [getD_tf hL (hCl _ (List.getElem_mem hlt))]; exact this)
        omega
      subst hmk
      have hmlt : m < C.length := (List.getElem?_eq_some_iff.1 hm).1
      refine next (m + 1) (fun v => v) hmlt ?_ ?_ (hop a w x h.agc h.g h.ho hw)
      · intro v m2 j p t hm2 hj hp ht
        obtain rfl : m2 = m := by omega
        rw [hm] at hj; cases hj
        rw [ho] at hp; cases hp
        rw [ht, eval_put_same (by rw [h.ag.size]; exact hok.room i o t ho ht)]
      intro m2 j hj
      by_cases hji : j = i
      · subst hji
        have : m2 = m := by
          obtain ⟨l2, e2⟩ := List.getElem?_eq_some_iff.1 hj
          obtain ⟨l1, e1⟩ := List.getElem?_eq_some_iff.1 hm
          exact (List.getElem_inj hnd).1 (e2.trans e1.symm)
        subst this
        rw [getD_set_at (by omega)]
        exact ⟨fun _ => Nat.lt_succ_self _, fun _ => rfl⟩
      · rw [getD_set_ne' hji, h.ch m2 j hj]
        have : m2 ≠ m := by
          rintro rfl
          rw [hm] at hj; cases hj; exact hji rfl
        omega
    · have hkb : k ≤ b := by
        unfold aheadOf at hb
        rw [Bool.or_eq_true, beq_iff_eq] at hb
        rcases hb with rfl | hb
        · exact h.le
        · cases hj : C[b]? with
          | none => rw [hj] at hb; cases hb
          | some j =>
            rw [hj] at hb
            simp only at hb
            refine Nat.le_of_not_lt fun hlt => ?_
            have := reach_done h.cl 16 j i hb ((h.ch b j hj).2 hlt)
            rw [← getD_tf hL hil, hun] at this
            cases this
      refine next k (fun _ => x) h.le ?_ ?_ (hop k hkb a w x h.agc h.g hw)
      · intro v m2 j p t hm2 hj hp ht
        have hji : j ≠ i := by
          rintro rfl
          have := List.mem_of_getElem? hj
          rw [List.contains_eq_mem, decide_eq_false_iff_not] at hni
          exact hni this
        rw [Act.eval_put (fun d hd e2 => by cases e2; exact hok.apart i j o p t ho hp hji hd ht)]
        exact h.ho m2 j p t hm2 hj hp ht
      intro m2 j hj
      have hji : j ≠ i := by
        rintro rfl
        have := List.mem_of_getElem? hj
        rw [List.contains_eq_mem, decide_eq_false_iff_not] at hni
        exact hni this
      rw [getD_set_ne' hji, h.ch m2 j hj]

/-- The obligations one after the other. -/
def OweAllC (P : Program) (md : Region.Mode) (ops : Array Oper) (Q : Exit → Act → World → Prop) (V : Tmp → Value → Prop) (G : Nat → Value → World → Prop) (C : List Nat) (a0 : Act) : Nat → List Oper → Prop
  | _, [] => True
  | k, o :: r => OwesC P md ops Q V G C a0 k o ∧ OweAllC P md ops Q V G C a0 (k + 1) r
theorem OweAllC.get : ∀ {l : List Oper} {k : Nat}, OweAllC P md ops Q V G C a0 k l → ∀ (i : Nat) (o : Oper), l[i]? = some o → OwesC P md ops Q V G C a0 (k + i) o
  | _ :: _, k, h, 0, o, hi => by cases hi; exact h.1
  | _ :: r, k, h, i + 1, o, hi => by
    have := OweAllC.get h.2 i o (by simpa using hi)
    rwa [show k + 1 + i = k + (i + 1) by omega] at this
  | [], _, _, i, o, hi => by simp at hi
theorem OweAllC.cons {k : Nat} {o : Oper} {r : List Oper} (h : OwesC P md ops Q V G C a0 k o) (h2 : OweAllC P md ops Q V G C a0 (k + 1) r) : OweAllC P md ops Q V G C a0 k (o :: r) := ⟨h, h2⟩
theorem OweAllC.nil {k : Nat} : OweAllC P md ops Q V G C a0 k [] := trivial

theorem wp_region_chain {id : Nat} {w : World} (V : Tmp → Value → Prop) (G : Nat → Value → World → Prop) (C : List Nat) (N : Nat) (hm : P.follows .mixedOrders = true) (hok : drawOk ops N = true) (hN : a0.tmps.size = N)
    (hch : chainOk .any ops C = true) (hnd : decide C.Nodup = true) (hCl : C.all (· < ops.size) = true) (hG : G 0 undef w.drew)
    (step : OweAllC P .any ops Q V G C a0 0 ops.toList)
    (fin : ∀ f w x, G C.length x w → (∀ (m i : Nat) (o : Oper) (t : Tmp), C.length = m + 1 → C[m]? = some i → ops[i]? = some o → o.dst = some t → f t = x) → (∀ (i : Nat) (o : Oper) (t : Tmp), ops[i]? = some o → o.dst = some t → V t (f t)) → Q .normal (puts f (dsts ops) a0) w) : (Code.region id ops true).wp P Q a0 w := by
  subst hN
  have hok := drawOk_spec hok
  have hCl' : ∀ i ∈ C, i < ops.size := fun i hi => by simpa using List.all_eq_true.1 hCl i hi
  have hL0 : ∀ i, i < ops.size → (Array.replicate ops.size false).getD i true = false := fun i hi => by simp [hi]
  refine wp_region_any hm (wpAny_chain (V := V) (G := G) (C := C) hok hch (of_decide_eq_true hnd) hCl' (fun i o ho => ?_) (fun a w x ha hg hh hv => ?_) ops.size _ a0 _ 0 undef (unl_le _ _) (by simp) ⟨hG, (fun m i o t h => by omega), Nat.zero_le _, ?_, ?_, ⟨rfl, rfl, fun _ _ => rfl⟩, (fun _ _ _ _ _ _ => rfl), ?_⟩)
  · have := step.get i o (by simpa using ho)
    rwa [Nat.zero_add] at this
  · rw [ha.puts hok]
    exact fin _ w x hg hh hv
  · intro m i hi
    have := hCl' i (List.mem_of_getElem? hi)
    rw [hL0 i this]
    simp
  · intro i o ho hl
    rw [hL0 i (Array.getElem?_eq_some_iff.1 ho).1] at hl; cases hl
  · intro i o t ho hl _
    rw [hL0 i (Array.getElem?_eq_some_iff.1 ho).1] at hl; cases hl

/-- An operation beside the chain that yields a value and turns nothing. -/
theorem owesC_val {i : Nat} {o : Oper} {t : Tmp} (b : Nat) (hb : aheadOf md ops C i b = true) (hni : C.contains i = false) (hi : ops[i]? = some o) (ht : o.dst = some t)
    (h : ∀ k a w x, k ≤ b → AgreeC ops C k a0 a → G k x w → AllV (fun t v _ => V t v) a w (waits md ops o) → ∃ v, Region.wanted o (yielded ops a.tmps) = true ∧ (execOp a.eval o).run P w = .ok (.value v) w ∧ V t v) : OwesC P md ops Q V G C a0 i o := by
  refine .inr ⟨hni, b, hb, fun k hk a w x ha hG hV => ?_⟩
  obtain ⟨v, hw, hr, hv⟩ := h k a w x hk ha hG hV
  unfold wpOp
  rw [hi]
  simp only [hw, if_true, Oper.wp, hr, Oper.upon]
  exact .inl ⟨v, rfl, fun u hu => by rw [ht] at hu; cases hu; exact hv, hG⟩
/-- A call beside the chain. -/
theorem owesC_side {i : Nat} {o : Oper} {t : Tmp} (b : Nat) (hb : aheadOf md ops C i b = true) (hni : C.contains i = false) (hi : ops[i]? = some o) (ht : o.dst = some t) (f : FuncId)
    (h : ∀ k a w x, k ≤ b → AgreeC ops C k a0 a → G k x w → AllV (fun t v _ => V t v) a w (waits md ops o) → ∃ args, Region.wanted o (yielded ops a.tmps) = true ∧ (execOp a.eval o).run P w = .ok (.enter f args) w ∧
      Calls P f args w fun e w' => ∃ v, e = .returned v ∧ V t v ∧ G k x w') : OwesC P md ops Q V G C a0 i o := by
  refine .inr ⟨hni, b, hb, fun k hk a w x ha hG hV => ?_⟩
  obtain ⟨args, hw, hr, hc⟩ := h k a w x hk ha hG hV
  unfold wpOp
  rw [hi]
  simp only [hw, if_true, Oper.wp, hr, Oper.upon]
  refine .inl (hc.mono ?_)
  rintro e w' ⟨v, rfl, h1, h2⟩
  exact ⟨v, rfl, fun u hu => by rw [ht] at hu; cases hu; exact h1, h2⟩
/-- A call of the chain. -/
theorem owesC_call {i : Nat} {o : Oper} {t : Tmp} (m : Nat) (hm : C[m]? = some i) (hi : ops[i]? = some o) (ht : o.dst = some t) (f : FuncId)
    (h : ∀ a w x, AgreeC ops C m a0 a → G m x w → Holds' ops C a m x → AllV (fun t v _ => V t v) a w (waits md ops o) → ∃ args, Region.wanted o (yielded ops a.tmps) = true ∧ (execOp a.eval o).run P w = .ok (.enter f args) w ∧
      Calls P f args w fun e w' => ∃ v, e = .returned v ∧ V t v ∧ G (m + 1) v w') : OwesC P md ops Q V G C a0 i o := by
  refine .inl ⟨m, hm, fun a w x ha hG hh hV => ?_⟩
  obtain ⟨args, hw, hr, hc⟩ := h a w x ha hG hh hV
  unfold wpOp
  rw [hi]
  simp only [hw, if_true, Oper.wp, hr, Oper.upon]
  refine .inl (hc.mono ?_)
  rintro e w' ⟨v, rfl, h1, h2⟩
  exact ⟨v, rfl, fun u hu => by rw [ht] at hu; cases hu; exact h1, h2⟩
/-- An operation of the chain that yields a value and turns memory. -/
theorem owesC_mem {i : Nat} {o : Oper} {t : Tmp} (m : Nat) (hm : C[m]? = some i) (hi : ops[i]? = some o) (ht : o.dst = some t)
    (h : ∀ a w x, AgreeC ops C m a0 a → G m x w → Holds' ops C a m x → AllV (fun t v _ => V t v) a w (waits md ops o) → ∃ v w', Region.wanted o (yielded ops a.tmps) = true ∧ (execOp a.eval o).run P w = .ok (.value v) w' ∧ V t v ∧ G (m + 1) v w') : OwesC P md ops Q V G C a0 i o := by
  refine .inl ⟨m, hm, fun a w x ha hG hh hV => ?_⟩
  obtain ⟨v, w', hw, hr, h1, h2⟩ := h a w x ha hG hh hV
  unfold wpOp
  rw [hi]
  simp only [hw, if_true, Oper.wp, hr, Oper.upon]
  exact .inl ⟨v, rfl, fun u hu => by rw [ht] at hu; cases hu; exact h1, h2⟩
/-- A store of the chain. -/
theorem owesC_store {i : Nat} {o : Oper} (m : Nat) (hm : C[m]? = some i) (hi : ops[i]? = some o) (ht : o.dst = none)
    (h : ∀ a w x, AgreeC ops C m a0 a → G m x w → Holds' ops C a m x → AllV (fun t v _ => V t v) a w (waits md ops o) → ∃ w', Region.wanted o (yielded ops a.tmps) = true ∧ (execOp a.eval o).run P w = .ok .skip w' ∧ G (m + 1) undef w') : OwesC P md ops Q V G C a0 i o := by
  refine .inl ⟨m, hm, fun a w x ha hG hh hV => ?_⟩
  obtain ⟨w', hw, hr, h2⟩ := h a w x ha hG hh hV
  unfold wpOp
  rw [hi]
  simp only [hw, if_true, Oper.wp, hr, Oper.upon]
  exact .inl ⟨undef, rfl, fun u hu => (by rw [ht] at hu; cases hu), h2⟩
/-- An operation of the chain by its own law (an append). -/
theorem owesC_law {i : Nat} {o : Oper} (m : Nat) (hm : C[m]? = some i) (hi : ops[i]? = some o)
    (h : ∀ a w x, AgreeC ops C m a0 a → G m x w → Holds' ops C a m x → AllV (fun t v _ => V t v) a w (waits md ops o) → Region.wanted o (yielded ops a.tmps) = true ∧
      ∀ K : Act → World → Prop, (∀ v w', (∀ t, o.dst = some t → V t v) → G (m + 1) v w' → K (a.put o.dst v) w') → o.wp P a w K Q) : OwesC P md ops Q V G C a0 i o := by
  refine .inl ⟨m, hm, fun a w x ha hG hh hV => ?_⟩
  obtain ⟨hw, hl⟩ := h a w x ha hG hh hV
  unfold wpOp
  rw [hi]
  simp only [hw, if_true]
  exact .inl (hl _ (fun v w' h1 h2 => ⟨v, rfl, h1, h2⟩))
end
end Go.Proofs.YtippakeemfldfaaDoor
namespace Go.Proofs.YtippakeemfldfaaDoor
open Go
/-- A slot is written, by an operation of no region. -/
def mv (t : Tmp) (v : Value) : Oper := { dst := some t, op := .move (.const v), type := 0, pos := "", after := #[], guard := none }
theorem moves_back {P : Program} {ops : Array Oper} {Q : Exit → Act → World → Prop} (f : Tmp → Value) : ∀ (l : List Tmp) (a : Act) (w : World), wpList P ops Q (l.map fun t => mv t (f t)) a w → Q .normal (puts f l a) w
  | [], _, _, h => h
  | t :: r, a, w, h => by
    refine moves_back (P := P) (ops := ops) f r (a.put (some t) (f t)) w ?_
    rw [List.map_cons, wpList] at h
    have hw : Region.wanted (mv t (f t)) (yielded ops a.tmps) = true := rfl
    rw [if_pos hw] at h
    rcases h with h | h
    · unfold Oper.wp at h
      have he : (execOp a.eval (mv t (f t))).run P w = .ok (.value (f t)) w := rfl
      rw [he] at h
      exact h
    · exfalso
      have he : ((execOp a.eval (mv t (f t))).runT P w #[]).2 = #[] := rfl
      have h1 := h.1.1
      rw [he] at h1
      simp at h1
end Go.Proofs.YtippakeemfldfaaDoor

namespace Go.Proofs.YtippakeemfldfaaDoor
open Go.RowKit Go.Sort

section
variable {P : Program} {ops : Array Oper} {Q : Exit → Act → World → Prop} {md : Region.Mode} {V : Tmp → Value → Prop} {G : Nat → Value → World → Prop} {C : List Nat} {a0 : Act}
/-- A call of the chain whose answer nobody takes. -/
theorem owesC_eff {i : Nat} {o : Oper} (m : Nat) (hm : C[m]? = some i) (hi : ops[i]? = some o) (ht : o.dst = none)
    (h : ∀ a w x, AgreeC ops C m a0 a → G m x w → Holds' ops C a m x → AllV (fun t v _ => V t v) a w (waits md ops o) → ∃ v w', Region.wanted o (yielded ops a.tmps) = true ∧ (execOp a.eval o).run P w = .ok (.value v) w' ∧ G (m + 1) undef w') : OwesC P md ops Q V G C a0 i o := by
  refine .inl ⟨m, hm, fun a w x ha hG hh hV => ?_⟩
  obtain ⟨v, w', hw, hr, h2⟩ := h a w x ha hG hh hV
  unfold wpOp
  rw [hi]
  simp only [hw, if_true, Oper.wp, hr, Oper.upon, ht]
  exact .inl ⟨undef, rfl, fun u hu => (by cases hu), h2⟩
end

/-- Bytes. -/
def encY : Enc UInt8 := ⟨fun x => [.int .u8 (x.toNat : Int)], 1, fun _ => rfl, fun _ v hv => by rw [List.mem_singleton.1 hv]; rfl, Nat.one_pos⟩
theorem encY_all (l : List UInt8) : encY.all l = vals l := by
  induction l with
  | nil => rfl
  | cons a l ih => rw [show encY.all (a :: l) = encY.f a ++ encY.all l from rfl, ih]; rfl
theorem Rw.cutY {T : TypeId} {w : World} {p : Option Addr} {cap : Nat} {L : List UInt8} (h : Rw encY T w p cap L) (n : Nat) : Rw encY T w p cap (L.take n) := by
  rcases h.shape with ⟨rfl, rfl, rfl⟩ | ⟨g, rfl, _, h1, h2, cur, hh, h3, h4⟩
  · rw [List.take_nil]; exact Rw.empty _ _
  · refine Rw.of_row hh (Nat.le_trans (List.length_take_le' _ _) h1) h2 h3 ?_
    have hl : (L.take n).length * encY.k ≤ L.length * encY.k := Nat.mul_le_mul_right _ (List.length_take_le' _ _)
    have := congrArg (List.take ((L.take n).length * encY.k)) h4
    rw [List.take_take, Nat.min_eq_left hl] at this
    rw [this]
    have e : encY.all L = encY.all (L.take n) ++ encY.all (L.drop n) := by rw [← encY.all_app, List.take_append_drop]
    rw [e, List.take_left' (encY.all_len _)]
theorem Rw.convY {P : Program} {E : TypeId} {w : World} {p : Option Addr} {cap : Nat} {bs : List UInt8} (h : Rw encY E w p cap bs) (src dst : TypeId) (hs : P.underlying src = some (.slice E)) (he : P.underlying E = some (.int .u8)) (hd : P.underlying dst = some .string) :
    (convert src dst (.slice p bs.length cap)).run P w = .ok (.string ⟨bs.toArray⟩) w := by
  have hown : w.ownsRow 0 E 1 (.slice p bs.length cap) bs.length (vals bs) := by have := h; unfold Rw at this; rw [encY_all] at this; exact this
  rcases h.shape with ⟨rfl, rfl, rfl⟩ | ⟨g, rfl, _, h1, h2, cur, hh, h3, h4⟩
  · exact run_convert_bytes_nil w src E hs he 0 0 dst hd
  · have hr := run_convert_bytes_arg (P := P) w src E hs he g 0 bs.length cap (bs.map fun x => (x.toNat : Int)) (by simp) (fun i hi => by
      have := hown.cellAt i (by omega)
      rw [Nat.zero_add, this]
      simp [vals, List.getD, hi]) dst hd
    rw [hr]
    congr 2
    apply ByteArray.ext
    apply Array.toList_inj.1
    rw [strOfNums_data, List.map_map]
    simp only [Function.comp_def, Int.toNat_natCast, UInt8.ofNat_toNat, List.map_id']

/-! ## Files by rising names -/

/-- A file: its name, its bytes, how many of these are synced. -/
abbrev FX := List UInt8 × List UInt8 × Nat
def SrtX (X : List FX) : Prop := X.Pairwise fun x y => x.1 < y.1
def wo (k : List UInt8) (X : List FX) : List FX := X.filter fun x => x.1 != k
def insX (x : FX) : List FX → List FX
  | [] => [x]
  | y :: l => if x.1 < y.1 then x :: y :: l else y :: insX x l
def withX (x : FX) (X : List FX) : List FX := insX x (wo x.1 X)
def fiX (k : List UInt8) (X : List FX) : FX := match X.find? fun x => x.1 == k with | some x => x | none => (k, [], 0)
def hasX (k : List UInt8) (X : List FX) : Bool := X.any fun x => x.1 == k
/-- How many bytes there are. -/
def usedX : List FX → Nat
  | [] => 0
  | x :: l => x.2.1.length + usedX l
theorem insX_perm (x : FX) : ∀ X : List FX, (insX x X).Perm (x :: X)
  | [] => .refl _
  | y :: l => by
    unfold insX
    by_cases h : x.1 < y.1
    · rw [if_pos h]
    · rw [if_neg h]; exact ((insX_perm x l).cons y).trans (.swap x y l)
theorem lt_of_not {a b : List UInt8} (h : ¬ a < b) (hn : a ≠ b) : b < a := by
  apply Classical.byContradiction
  intro h2
  exact hn (List.le_antisymm (List.not_lt.1 h2) (List.not_lt.1 h))
theorem insX_srt {x : FX} : ∀ {X : List FX}, SrtX X → (∀ y ∈ X, y.1 ≠ x.1) → SrtX (insX x X)
  | [], _, _ => List.pairwise_singleton _ _
  | y :: l, h, hn => by
    obtain ⟨h1, h2⟩ := List.pairwise_cons.1 h
    unfold insX
    by_cases hx : x.1 < y.1
    · rw [if_pos hx]
      refine List.pairwise_cons.2 ⟨fun z hz => ?_, h⟩
      rcases List.mem_cons.1 hz with rfl | hz
      · exact hx
      · exact List.lt_trans hx (h1 z hz)
    · rw [if_neg hx]
      refine List.pairwise_cons.2 ⟨fun z hz => ?_, insX_srt h2 (fun z hz => hn z (List.mem_cons_of_mem _ hz))⟩
      rcases List.mem_cons.1 ((insX_perm x l).mem_iff.1 hz) with rfl | hz
      · exact lt_of_not hx (fun e => hn y (List.mem_cons_self ..) e.symm)
      · exact h1 z hz
theorem wo_srt {X : List FX} (h : SrtX X) (k : List UInt8) : SrtX (wo k X) := List.Pairwise.filter _ h
theorem withX_srt {X : List FX} (h : SrtX X) (x : FX) : SrtX (withX x X) :=
  insX_srt (wo_srt h _) (fun y hy => by have := (List.mem_filter.1 hy).2; simpa using this)
theorem withX_perm (x : FX) (X : List FX) : (withX x X).Perm (x :: wo x.1 X) := insX_perm x _
theorem srt_ne {X : List FX} (h : SrtX X) : X.Pairwise fun x y => x.1 ≠ y.1 := List.Pairwise.imp (fun {a b} hab e => by rw [e] at hab; exact List.lt_irrefl _ hab) h
theorem find_perm {L X : List FX} (hp : L.Perm X) (hX : X.Pairwise fun x y => x.1 ≠ y.1) (k : List UInt8) : (L.find? fun x => x.1 == k) = X.find? fun x => x.1 == k := by
  have hL : L.Pairwise fun x y => x.1 ≠ y.1 := (hp.pairwise_iff (fun {_ _} h => Ne.symm h)).2 hX
  have key : ∀ {A : List FX}, A.Pairwise (fun x y => x.1 ≠ y.1) → ∀ x ∈ A, x.1 = k → (A.find? fun x => x.1 == k) = some x := by
    intro A
    induction A with
    | nil => intro _ x hx; cases hx
    | cons y l ih =>
      intro h x hx hk
      obtain ⟨h1, h2⟩ := List.pairwise_cons.1 h
      rcases List.mem_cons.1 hx with rfl | hx
      · rw [List.find?_cons_of_pos (by simp [hk])]
      · rw [List.find?_cons_of_neg (by have := h1 x hx; rw [hk] at this; simpa using this)]
        exact ih h2 x hx hk
  cases hf : L.find? fun x => x.1 == k with
  | none =>
    symm
    rw [List.find?_eq_none] at hf ⊢
    exact fun x hx => hf x (hp.mem_iff.2 hx)
  | some x =>
    have h1 := List.mem_of_find?_eq_some hf
    have h2 := List.find?_some hf
    exact (key hX x (hp.mem_iff.1 h1) (by simpa using h2)).symm
theorem usedX_perm {L X : List FX} (hp : L.Perm X) : usedX L = usedX X := by
  induction hp with
  | nil => rfl
  | cons x _ ih => simp only [usedX, ih]
  | swap x y l => simp only [usedX]; omega
  | trans _ _ h1 h2 => rw [h1, h2]

/-! ## In memory -/

/-- A file in memory. -/
structure Fl where
  k : List UInt8
  b : List UInt8
  s : Nat
  p : Option Addr
  c : Nat
def Fl.x (f : Fl) : FX := (f.k, f.b, f.s)
def Fl.v (f : Fl) : Value := .agg #[.slice f.p f.b.length f.c, .int .i64 (f.s : Int)]
def entD (f : Fl) : Ent := (f.k, f.v)
def noFl (k : List UInt8) : Fl := ⟨k, [], 0, none, 0⟩
def atF (k : List UInt8) (L : List Fl) : Fl := match L.find? fun f => f.k == k with | some f => f | none => noFl k
def woF (k : List UInt8) (L : List Fl) : List Fl := L.filter fun f => f.k != k
/-- A disk's numbers and files. -/
structure St where
  rm : Int
  dd : Int
  lf : Int
  dn : Bool
  X : List FX
def stCells (S : St) (b : Nat) : Array Value := #[.int .i64 S.rm, .map (some b), .int .i64 S.dd, .int .i64 S.lf, .bool S.dn]
structure DK (w : World) (d b : Nat) (S : St) (L : List Fl) : Prop where
  cell : w.heap[d]? = some (.cells (stCells S b) 56 (0, 0))
  map : MapAt Tryd.prog 9 w b (L.map entD)
  row : ∀ f ∈ L, Rw encY 5 w f.p f.c f.b
  syn : ∀ f ∈ L, f.s ≤ f.b.length
  far : L.Pairwise fun f g => ∀ a a', f.p = some a → g.p = some a' → a.block ≠ a'.block
  pm : (L.map Fl.x).Perm S.X
  so : SrtX S.X
def inD (d b : Nat) (L : List Fl) (i : Nat) : Prop := i = d ∨ i = b ∨ ∃ f ∈ L, ∃ a, f.p = some a ∧ a.block = i
theorem without_entD (k : List UInt8) (L : List Fl) : without k (L.map entD) = (woF k L).map entD := by
  unfold without woF
  rw [List.filter_map]
  congr 1
theorem has_entD (k : List UInt8) (L : List Fl) : hasK k (L.map entD) = L.any fun f => f.k == k := by
  unfold hasK
  rw [List.any_map]
  congr 1
theorem get_entD (k : List UInt8) (L : List Fl) : getK k (L.map entD) (noFl k).v = (atF k L).v := by
  unfold getK atF
  rw [List.find?_map]
  have : ((fun x : Ent => x.1 == k) ∘ entD) = fun f : Fl => f.k == k := rfl
  rw [this]
  cases L.find? fun f => f.k == k <;> rfl
theorem wo_x (k : List UInt8) (L : List Fl) : (woF k L).map Fl.x = wo k (L.map Fl.x) := by
  unfold wo woF
  rw [List.filter_map]
  congr 1
section
variable {w w' : World} {d b : Nat} {S : St} {L : List Fl}
theorem DK.plt (h : DK w d b S L) : d < w.heap.size := (Array.getElem?_eq_some_iff.1 h.cell).1
theorem DK.ne (h : DK w d b S L) : d ≠ b := h.map.notCells h.cell
theorem DK.rowAt (h : DK w d b S L) {f : Fl} (hf : f ∈ L) {a : Addr} (ha : f.p = some a) : a.block < w.heap.size ∧ a.block ≠ d ∧ a.block ≠ b := by
  have hr := h.row f hf
  rw [ha] at hr
  rcases hr.shape with ⟨e, _⟩ | ⟨g, e, hl, _, _, cur, hh, _⟩
  · cases e
  · cases e
    refine ⟨hl, ?_, h.map.notCells hh⟩
    rintro rfl
    have := h.cell
    rw [hh] at this
    simp at this
theorem DK.lt (h : DK w d b S L) {i : Nat} (hi : inD d b L i) : i < w.heap.size := by
  rcases hi with rfl | rfl | ⟨f, hf, a, ha, rfl⟩
  · exact h.plt
  · exact h.map.lt
  · exact (h.rowAt hf ha).1
theorem DK.kept (h : DK w d b S L) {T : Nat → Prop} (hm : Mod T w w') (hd : ∀ i, inD d b L i → ¬ T i) : DK w' d b S L :=
  ⟨(hm.block d h.plt (hd d (.inl rfl))).trans h.cell, h.map.kept hm (hd b (.inr (.inl rfl))), fun f hf => (h.row f hf).kept hm (fun a ha => hd _ (.inr (.inr ⟨f, hf, a, ha, rfl⟩))), h.syn, h.far, h.pm, h.so⟩
theorem DK.old (h : DK w d b S L) (hb : Below w.heap.size w w') : DK w' d b S L := h.kept (Mod.of_below hb) (fun i hi hn => by have := h.lt hi; omega)
theorem DK.turn (h : DK w d b S L) {S' : St} (hm : Mod (fun i => i = d) w w') (hc : w'.heap[d]? = some (.cells (stCells S' b) 56 (0, 0))) (hX : S'.X = S.X) : DK w' d b S' L :=
  ⟨hc, h.map.kept hm (fun e => h.ne e.symm), fun f hf => (h.row f hf).kept hm (fun _ ha => (h.rowAt hf ha).2.1), h.syn, h.far, by rw [hX]; exact h.pm, by rw [hX]; exact h.so⟩
theorem DK.c0 (h : DK w d b S L) : w.cell? ⟨d, 0, none⟩ = some (.int .i64 S.rm) := by unfold World.cell?; rw [h.cell]; rfl
theorem DK.c1 (h : DK w d b S L) : w.cell? ⟨d, 1, none⟩ = some (.map (some b)) := by unfold World.cell?; rw [h.cell]; rfl
theorem DK.c2 (h : DK w d b S L) : w.cell? ⟨d, 2, none⟩ = some (.int .i64 S.dd) := by unfold World.cell?; rw [h.cell]; rfl
theorem DK.c3 (h : DK w d b S L) : w.cell? ⟨d, 3, none⟩ = some (.int .i64 S.lf) := by unfold World.cell?; rw [h.cell]; rfl
theorem DK.c4 (h : DK w d b S L) : w.cell? ⟨d, 4, none⟩ = some (.bool S.dn) := by unfold World.cell?; rw [h.cell]; rfl
theorem DK.fr (h : DK w d b S L) (j : Nat) : w.frozen? ⟨d, j, none⟩ = false := frozen_of_row w d j _ 56 h.cell
theorem zeroF (k : List UInt8) (w : World) : (zeroValue 63).run Tryd.prog w = .ok (noFl k).v w := by kernel_rfl
theorem DK.look (h : DK w d b S L) (k : List UInt8) (hk : k.length ≤ maxLen) : (Instr.lookup 54 (.map (some b)) (.string ⟨k.toArray⟩) false).run Tryd.prog w = .ok (atF k L).v w := by
  rw [h.map.look Tryd.underlying9 Tryd.underlying54 (zeroF k w) k hk, get_entD]
theorem hasL_eq (h : DK w d b S L) (k : List UInt8) : (L.any fun f => f.k == k) = hasX k S.X := by
  have e : (L.any fun f => f.k == k) = hasX k (L.map Fl.x) := by unfold hasX; rw [List.any_map]; congr 1
  rw [e]
  unfold hasX
  rw [Bool.eq_iff_iff, List.any_eq_true, List.any_eq_true]
  constructor
  · rintro ⟨x, hx, e⟩; exact ⟨x, h.pm.mem_iff.1 hx, e⟩
  · rintro ⟨x, hx, e⟩; exact ⟨x, h.pm.mem_iff.2 hx, e⟩
theorem DK.look_ok (h : DK w d b S L) (k : List UInt8) (hk : k.length ≤ maxLen) : (Instr.lookup 54 (.map (some b)) (.string ⟨k.toArray⟩) true).run Tryd.prog w = .ok (.tuple #[(atF k L).v, .bool (hasX k S.X)]) w := by
  rw [h.map.look_ok Tryd.underlying9 Tryd.underlying54 (zeroF k w) k hk, get_entD, has_entD, hasL_eq h]
theorem atF_x (h : DK w d b S L) (k : List UInt8) : (atF k L).x = fiX k S.X := by
  unfold fiX
  rw [← find_perm h.pm (srt_ne h.so) k]
  unfold atF
  have e : (L.map Fl.x).find? (fun x => x.1 == k) = (L.find? fun f => f.k == k).map Fl.x := List.find?_map ..
  rw [e]
  cases L.find? fun f => f.k == k <;> rfl
theorem DK.at (h : DK w d b S L) (k : List UInt8) : Rw encY 5 w (atF k L).p (atF k L).c (atF k L).b ∧ (atF k L).s ≤ (atF k L).b.length ∧ ((atF k L) ∈ L ∨ (atF k L).p = none) := by
  unfold atF
  cases hf : L.find? fun f => f.k == k with
  | none => exact ⟨Rw.empty _ _, Nat.le_refl _, .inr rfl⟩
  | some f => exact ⟨h.row f (List.mem_of_find?_eq_some hf), h.syn f (List.mem_of_find?_eq_some hf), .inl (List.mem_of_find?_eq_some hf)⟩
theorem pw_of {α : Type} {R : α → α → Prop} : ∀ {L : List α}, L.Pairwise R → ∀ {x y : α}, x ∈ L → y ∈ L → x ≠ y → R x y ∨ R y x
  | [], _, _, _, hx, _, _ => by cases hx
  | z :: l, h, x, y, hx, hy, hn => by
    obtain ⟨h1, h2⟩ := List.pairwise_cons.1 h
    rcases List.mem_cons.1 hx with e1 | hx1
    · rcases List.mem_cons.1 hy with e2 | hy1
      · exact absurd (e1.trans e2.symm) hn
      · subst e1; exact .inl (h1 y hy1)
    · rcases List.mem_cons.1 hy with e2 | hy1
      · subst e2; exact .inr (h1 x hx1)
      · exact pw_of h2 hx1 hy1 hn
/-- The block of the file of that name is no other one's. -/
theorem DK.alone (h : DK w d b S L) (k : List UInt8) {a : Addr} (ha : (atF k L).p = some a) : ∀ g ∈ woF k L, ∀ a', g.p = some a' → a'.block ≠ a.block := by
  intro g hg a' ha' e
  have hg1 := List.mem_filter.1 hg
  have hgk : g.k ≠ k := by simpa using hg1.2
  unfold atF at ha
  cases hf : L.find? fun f => f.k == k with
  | none => rw [hf] at ha; cases ha
  | some f =>
    rw [hf] at ha
    simp only at ha
    have hfm := List.mem_of_find?_eq_some hf
    have hfk : f.k = k := by have := List.find?_some hf; simpa using this
    have hfg : f ≠ g := fun e' => hgk (e' ▸ hfk)
    rcases pw_of h.far hfm hg1.1 hfg with hh | hh
    · exact hh a a' ha ha' e.symm
    · exact hh a' a ha' ha e
theorem DK.drop (h : DK w d b S L) (k : List UInt8) (hk : k.length ≤ maxLen) :
    ∃ w', (∀ ty, (Builtin.delete_ #[54, 9] ty #[.map (some b), .string ⟨k.toArray⟩]).run Tryd.prog w = .ok (.tuple #[]) w') ∧ DK w' d b { S with X := wo k S.X } (woF k L) ∧ Mod (fun i => i = b) w w' := by
  obtain ⟨w', hr', hM, hm⟩ := h.map.drop Tryd.underlying9 Tryd.underlying54 k hk 0
  rw [without_entD] at hM
  refine ⟨w', fun _ => hr', ⟨(hm.block d h.plt h.ne).trans h.cell, hM, fun g hg => ?_, fun g hg => ?_, h.far.filter _, ?_, wo_srt h.so _⟩, hm⟩
  · exact (h.row g (List.mem_filter.1 hg).1).kept hm (fun a e => (h.rowAt (List.mem_filter.1 hg).1 e).2.2)
  · exact h.syn g (List.mem_filter.1 hg).1
  · rw [wo_x]; exact h.pm.filter _
theorem DK.len (h : DK w d b S L) : L.length = S.X.length := by have := h.pm.length_eq; rwa [List.length_map] at this
end
/-- Disk d, whose blocks are among F. -/
def DA (w : World) (d : Nat) (S : St) (F : Nat → Prop) : Prop := ∃ b L, DK w d b S L ∧ (∀ i, inD d b L i → F i) ∧ ∀ i, F i → i < w.heap.size
theorem DA.kept {w w' : World} {d : Nat} {S : St} {F : Nat → Prop} (h : DA w d S F) {T : Nat → Prop} (hm : Mod T w w') (hd : ∀ i, F i → ¬ T i) : DA w' d S F := by
  obtain ⟨b, L, h, hF, hl⟩ := h
  exact ⟨b, L, h.kept hm (fun i hi => hd i (hF i hi)), hF, fun i hi => Nat.lt_of_lt_of_le (hl i hi) hm.size⟩
theorem DA.old {w w' : World} {d : Nat} {S : St} {F : Nat → Prop} (h : DA w d S F) (hb : Below w.heap.size w w') : DA w' d S F := by
  obtain ⟨b, L, h, hF, hl⟩ := h
  exact ⟨b, L, h.old hb, hF, fun i hi => Nat.lt_of_lt_of_le (hl i hi) hb.size⟩
theorem DA.self {w : World} {d : Nat} {S : St} {F : Nat → Prop} (h : DA w d S F) : F d := by
  obtain ⟨b, L, h, hF, hl⟩ := h
  exact hF d (.inl rfl)
/-- What a call on disk d leaves. -/
def Eff (w w' : World) (d : Nat) (S : St) (F : Nat → Prop) : Prop := ∃ F', DA w' d S F' ∧ (∀ i, F' i → F i ∨ w.heap.size ≤ i) ∧ Mod F w w'
theorem Eff.of {w w' : World} {d : Nat} {S : St} {F : Nat → Prop} (h : DA w' d S F) (hm : Mod F w w') : Eff w w' d S F := ⟨F, h, fun _ hi => .inl hi, hm⟩
theorem Eff.below {w w' : World} {d : Nat} {S : St} {F : Nat → Prop} (h : DA w d S F) (hb : Below w.heap.size w w') : Eff w w' d S F :=
  Eff.of (h.old hb) ((Mod.of_below hb).mono (fun i hi h' => by omega))
theorem Eff.trans {w w1 w2 : World} {d : Nat} {S : St} {F : Nat → Prop} (hm : Mod F w w1) (h : Eff w1 w2 d S F) : Eff w w2 d S F := by
  obtain ⟨F', hA, hF, hm2⟩ := h
  exact ⟨F', hA, fun i hi => (hF i hi).imp id (fun h => Nat.le_trans hm.size h), hm.trans hm2 (fun _ _ h => h)⟩
theorem Eff.then {w w1 w2 : World} {d : Nat} {S S2 : St} {F : Nat → Prop} (h : Eff w w1 d S F) (k : ∀ F', DA w1 d S F' → Eff w1 w2 d S2 F') : Eff w w2 d S2 F := by
  obtain ⟨F', hA, hF, hm⟩ := h
  obtain ⟨F2, hA2, hF2, hm2⟩ := k F' hA
  refine ⟨F2, hA2, fun i hi => ?_, hm.trans hm2 (fun i hi h => (hF i h).elim id (fun h' => by omega))⟩
  rcases hF2 i hi with h' | h'
  · exact hF i h'
  · exact .inr (Nat.le_trans hm.size h')
end Go.Proofs.YtippakeemfldfaaDoor

namespace Go.Proofs.YtippakeemfldfaaDoor
open Go.RowKit

/-- The number of the four bytes that s begins with. -/
def numB (s : List UInt8) : Nat := beVal (s.take 4)
/-- A number's four bytes. -/
def wrdB (x : Nat) : List UInt8 := [UInt8.ofNat (x / 16777216), UInt8.ofNat (x / 65536), UInt8.ofNat (x / 256), UInt8.ofNat x]
theorem numB_lt (s : List UInt8) : numB s < 4294967296 := by
  unfold numB
  rcases Nat.lt_or_ge s.length 4 with h | h
  · have := beVal_take_lt s s.length (Nat.le_refl _)
    rw [List.take_length] at this
    rw [List.take_of_length_le (by omega)]
    exact Nat.lt_of_lt_of_le this (Nat.le_trans (Nat.pow_le_pow_right (by decide) (show s.length ≤ 4 by omega)) (by decide))
  · exact Nat.lt_of_lt_of_le (beVal_take_lt s 4 h) (by decide)
theorem numB_wrdB (x : Nat) (hx : x < 4294967296) (l : List UInt8) : numB (wrdB x ++ l) = x := by
  simp only [numB, wrdB, List.cons_append, List.nil_append, List.take_succ_cons, List.take_zero, beVal, List.foldl_cons, List.foldl_nil, UInt8.toNat_ofNat']
  omega
theorem shl_or (x b : Nat) (hb : b < 256) : bits BinOp.or IntKind.u32 (IntKind.u32.wrap ((x : Int) * 256)) (b : Int) = ((x * 256 % 4294967296 + b : Nat) : Int) := by
  rw [IntKind.wrap_u32, show (x : Int) * 256 % 4294967296 = ((x * 256 % 4294967296 : Nat) : Int) by rw [Int.natCast_emod, Int.natCast_mul]; rfl, u32_or_nat _ _ (Nat.mod_lt _ (by decide)) (by omega)]
  congr 1
  rw [show x * 256 % 4294967296 = x % 16777216 * 2 ^ 8 by omega, Nat.mul_comm, ← Nat.two_pow_add_eq_or_of_lt (by simpa using hb)]
set_option maxRecDepth 20000 in
set_option maxHeartbeats 1000000 in
theorem jnumber_any (s : List UInt8) (w : World) (hs : 4 ≤ s.length) (hm : s.length ≤ maxLen) :
    Calls Tryd.prog 69 #[.string ⟨s.toArray⟩] w fun r w' => r = .returned (.int .u32 (numB s : Nat)) ∧ w = w' := by
  go_enter Tryd.func69, Tryd.ntmps69
  go_wp2_with fail
  go_loop [3, 5] (fun s3 s5 => ∃ k : Nat, k ≤ 4 ∧ s5 = .int .i64 k ∧ s3 = .int .u32 (beVal (s.take k) : Nat)) (fun _ i => 4 - (intOf i).toNat)
  case atStart => exact ⟨0, by omega, rfl, rfl⟩
  case round =>
    obtain ⟨k, hk, rfl, rfl⟩ := hrel
    by_cases hlt : k < 4
    · have hkl : k < s.length := by omega
      have hv := Nat.lt_of_lt_of_le (beVal_take_lt s k (by omega)) (Nat.pow_le_pow_right (by decide) (show k ≤ 3 by omega))
      obtain ⟨V, hV⟩ : ∃ V, V = beVal (s.take k) := ⟨_, rfl⟩
      rw [← hV] at hv ⊢
      have hv8 : V < 16777216 := hv
      have hw : IntKind.u32.wrap ((V : Int) * 256) = (V : Int) * 256 := by rw [IntKind.wrap_u32]; omega
      have HV := Lib.hid hV
      clear hV hv
      obtain ⟨x, hx⟩ : ∃ x, x = s[k]'hkl := ⟨_, rfl⟩
      have hg : (⟨s.toArray⟩ : ByteArray)[k]'(by simpa [ByteArray.size] using hkl) = x := hx.symm
      have Hx := Lib.hid hx
      clear hx
      have hb := shl_or V x.toNat x.toNat_lt
      go_wp2
      go_round
      case rel =>
        refine ⟨k + 1, by omega, by go_num, ?_⟩
        have hb' : bits BinOp.or IntKind.u32 ((V : Int) * 256) ((x.toNat : Int) % 4294967296) = ((V * 256 + x.toNat : Nat) : Int) := by
          rw [hw] at hb
          rw [show (x.toNat : Int) % 4294967296 = x.toNat by have := x.toNat_lt; omega, hb]
          congr 1
          omega
        rw [hb', List.take_succ_eq_append_getElem hkl, beVal_snoc, HV.out, Hx.out]
      case measure => simp [intOf]; omega
    · obtain rfl : k = 4 := by omega
      go_wp2
      go_ret
      exact ⟨rfl, rfl⟩
def wrdN (x : Nat) : List Nat := [x / 16777216 % 256, x / 65536 % 256, x / 256 % 256, x % 256]
theorem wrdN_bytes (x : Nat) : bytesOf (wrdN x) = ⟨(wrdB x).toArray⟩ := by
  have e : ∀ a : Nat, UInt8.ofNat (a % 256) = UInt8.ofNat a := fun a => by apply UInt8.toNat_inj.1; simp [UInt8.toNat_ofNat']
  apply ByteArray.ext
  simp only [bytesOf, wrdN, wrdB, List.map_cons, List.map_nil, e]
theorem wrdN_at (x k : Nat) (hk : k < 4) : (wrdN x).take (k + 1) = (wrdN x).take k ++ [x / 2 ^ (8 * (3 - k)) % 256] := by
  have : k = 0 ∨ k = 1 ∨ k = 2 ∨ k = 3 := by omega
  rcases this with rfl | rfl | rfl | rfl <;> simp [wrdN]
set_option maxRecDepth 20000 in
set_option maxHeartbeats 1000000 in
theorem jword_any (x : Nat) (w : World) (hx : x < 4294967296) :
    Calls Tryd.prog 58 #[.int .u32 (x : Int)] w fun r w' => r = .returned (.string ⟨(wrdB x).toArray⟩) ∧ Below w.heap.size w w' := by
  obtain ⟨Z, hZ⟩ : ∃ Z, Z = List.replicate 4 0 := ⟨_, rfl⟩
  have hz : ∀ w : World, (zeroValue 100).run Tryd.prog w = .ok (.agg (nums .u8 Z).toArray) w := fun _ => by rw [hZ]; kernel_rfl
  have hZl : Z.length = 4 := by rw [hZ]; rfl
  clear hZ
  rw [← wrdN_bytes]
  go_enter Tryd.func58, Tryd.ntmps58
  go_wp2_with fail
  obtain ⟨W0, hW0⟩ : ∃ W, W = w.alloc (.cells (nums .u8 Z).toArray 100 (0, 0)) := ⟨_, rfl⟩
  obtain ⟨M, hM⟩ : ∃ M, M = w.heap.size := ⟨_, rfl⟩
  have hR0 : RowAt .u8 100 W0 M Z := by rw [hW0, hM]; exact heap_alloc_new _ _
  have hM0 : Mod (fun _ => False) w W0 := by rw [hW0]; exact (Mod.refl _ _).alloc _
  have hMw : w.heap.size ≤ M := by omega
  rw [← hW0, ← hM]
  clear hW0 hM hz
  go_loopw [5] (fun s5 wr => ∃ k : Nat, k ≤ 4 ∧ s5 = .int .i64 (k : Int) ∧ Hid (∃ T, RowAt .u8 100 wr M T ∧ T.length = 4 ∧ T.take k = (wrdN x).take k ∧ Mod (fun _ => False) w wr)) (fun s5 _ => 4 - (intOf s5).toNat)
  case atStart => exact ⟨0, by omega, rfl, Lib.hid ⟨Z, hR0, hZl, by rw [List.take_zero, List.take_zero], hM0⟩⟩
  case round =>
    clear hR0 hM0 hZl
    obtain ⟨k, hk, rfl, HR⟩ := hrel
    obtain ⟨T, hT, hTl, hTt, hm⟩ := HR.out
    clear HR
    by_cases hlt : k < 4
    · obtain ⟨s, hs⟩ : ∃ s : Nat, s = 3 - k := ⟨_, rfl⟩
      have e2 : (3 : Int) - k = (s : Int) := by omega
      obtain ⟨c, hcs⟩ : ∃ c : Nat, c = 8 * s := ⟨_, rfl⟩
      have e3 : 8 * (s : Int) = (c : Int) := by omega
      have hc32 : c ≤ 24 := by omega
      have e4 : (x : Int) / 2 ^ c % 256 = ((x / 2 ^ c % 256 : Nat) : Int) := by
        rw [Int.natCast_emod, Int.natCast_ediv, Int.natCast_pow]; rfl
      have cc := hT.cell k (by omega)
      have fk := hT.froz k
      generalize T[k] = y at cc
      have k0 : (0 : Int) ≤ k := by omega
      have k1 : (k : Int) < 4 := by omega
      have HH : Hid (∀ wr', wr' = wr.setCell ⟨M, k, none⟩ (.int .u8 ((x : Int) / 2 ^ c % 256)) → ∃ T, RowAt .u8 100 wr' M T ∧ T.length = 4 ∧ T.take (k + 1) = (wrdN x).take (k + 1) ∧ Mod (fun _ => False) w wr') := Lib.hid (by
        rintro wr' rfl
        rw [e4]
        refine ⟨_, hT.set k _, by simpa using hTl, ?_, ?_⟩
        · rw [take_set_succ _ _ _ (by omega), hTt, wrdN_at x k hlt, hcs, hs]
        · exact hm.trans ((Mod.refl (· = M) _).setCell (p := ⟨M, k, none⟩) (fun _ => rfl) _) (by intro i hi h; omega))
      clear hs hcs hT hTl hTt hm e4
      go_wp2_with fail
      go_roundw
      case rel => exact ⟨k + 1, by omega, by go_num, Lib.hid (HH.out _ rfl)⟩
      case measure => simp [intOf]; omega
    · obtain rfl : k = 4 := by omega
      have hTe : T = wrdN x := by
        have h := hTt
        rwa [List.take_of_length_le (by omega), List.take_of_length_le (by simp [wrdN])] at h
      subst hTe
      have hcv : (convert 50 9 (.slice (some ⟨M, 0, none⟩) 4 4)).run Tryd.prog wr = .ok (.string (bytesOf (wrdN x))) wr := by
        rw [run_convert_bytes_arg wr 50 5 Tryd.underlying50 Tryd.underlying5 M 0 4 4 ((wrdN x).map fun (x : Nat) => (x : Int)) (by simp [wrdN]) (fun i hi => by
          rw [Nat.zero_add, hT.cell i (by simpa [wrdN] using hi)]
          simp [List.getD, hTl, hi]) 9 Tryd.underlying9]
        simp [strOfNums, bytesOf, Function.comp_def]
      have hb := hm.to_below (Nat.le_refl _) (fun _ _ h => h.elim)
      clear hTt hT hTl hm
      go_wp2_with fail
      go_ret
      exact ⟨rfl, hb⟩
theorem jcost_any (n : Int) (w : World) (h1 : n ≤ 9223372036854775799) :
    Calls Tryd.prog 17 #[.int .i64 n] w fun r w' => r = .returned (.int .i64 (8 + max n 0)) ∧ w = w' := by
  have hw : IntKind.i64.wrap (8 + max n 0) = 8 + max n 0 := by rw [IntKind.wrap_i64]; omega
  go_enter Tryd.func17, Tryd.ntmps17
  go_wp2_with fail
  go_ret
  exact ⟨rfl, rfl⟩
theorem jtooLong_any (s : List UInt8) (w : World) :
    Calls Tryd.prog 29 #[.string ⟨s.toArray⟩] w fun r w' => r = .returned (.bool (decide ((s.length : Int) > 1048576))) ∧ w = w' := by
  go_enter Tryd.func29, Tryd.ntmps29
  go_wp2_with fail
  go_ret
  exact ⟨rfl, rfl⟩
end Go.Proofs.YtippakeemfldfaaDoor

namespace Go.Proofs.YtippakeemfldfaaDoor
open Go.RowKit

theorem bld_size : (Tryd.prog.info? 83).map (·.size) = some 2 := by kernel_rfl
theorem bld_lies : liesAt Tryd.prog Tryd.prog.depth 83 (2 / Tryd.prog.cellsOf 83) 0 83 1 = true := by kernel_rfl
theorem bld_byte : (Tryd.prog.info? 5).map (fun i => (i.zero, i.size, i.bytes)) = some (some (.int .u8 0), 1, 1) := by kernel_rfl
set_option maxHeartbeats 1000000 in
set_option maxRecDepth 100000 in
theorem sbcopy_used (b : Nat) (w : World) (h0 : w.cell? ⟨b, 0, none⟩ = some (.pointer (some ⟨b, 0, none⟩))) :
    Calls Tryd.prog 72 #[.pointer (some ⟨b, 0, none⟩)] w fun e w' => e = .returned (.tuple #[]) ∧ w' = w := by
  obtain ⟨j, hj, _⟩ := Option.map_eq_some_iff.1 bld_size
  go_enter Tryd.func72, Tryd.ntmps72
  go_wp2
  rw [Lib.run_neq_ptr_same w _ Tryd.underlying81 hj]
  go_wp2
  go_end0
  exact ⟨rfl, rfl⟩
set_option maxHeartbeats 1000000 in
set_option maxRecDepth 100000 in
theorem sbcopy_fresh (b : Nat) (w : World) (h0 : w.cell? ⟨b, 0, none⟩ = some (.pointer none)) (hsh : w.shape? b = some (83, 2)) (hfz : w.frozen? ⟨b, 0, none⟩ = false) :
    Calls Tryd.prog 72 #[.pointer (some ⟨b, 0, none⟩)] w fun e w' => e = .returned (.tuple #[]) ∧ w' = w.setCell ⟨b, 0, none⟩ (.pointer (some ⟨b, 0, none⟩)) := by
  obtain ⟨j, hj, hjs⟩ := Option.map_eq_some_iff.1 bld_size
  go_enter Tryd.func72, Tryd.ntmps72
  go_wp2
  rw [Lib.run_to_unsafe w ⟨b, 0, none⟩ Tryd.underlying81 Tryd.underlying110 hj (by rw [hjs]; decide) hsh (Nat.zero_lt_succ 1)]
  simp only [Result.andThen]
  rw [Oper.upon_value]
  go_wp2
  rw [run_callFunc_extern Tryd.func79 (by kernel_rfl) (by kernel_rfl) (by kernel_rfl) (e := Extern.AbiNoEscape.same) (by kernel_rfl), Lib.run_noEscape]
  simp only [Result.andThen]
  rw [Oper.upon_value]
  go_wp2
  rw [Lib.run_from_unsafe w ⟨b, 0, none⟩ Tryd.underlying110 Tryd.underlying81 hj hsh bld_lies]
  simp only [Result.andThen]
  rw [Oper.upon_value]
  go_wp2
  go_end0
  exact ⟨rfl, rfl⟩
/-- A builder with these bytes, in blocks from B on. -/
abbrev Bl (w : World) (B b : Nat) (l : List UInt8) : Prop := Lib.IsBuilder 83 5 B b (Lib.byteCells l) w
theorem sbcopy_any (B b : Nat) (l : List UInt8) (w : World) (h : Bl w B b l) :
    Calls Tryd.prog 72 #[.pointer (some ⟨b, 0, none⟩)] w fun e w' => e = .returned (.tuple #[]) ∧ Lib.BuilderAt 83 5 B b (.pointer (some ⟨b, 0, none⟩)) (Lib.byteCells l) w' ∧ Below B w w' := by
  rcases h with h | h
  · refine (sbcopy_fresh b w h.cell0 h.shape h.frozen0).mono ?_
    rintro e w' ⟨rfl, rfl⟩
    exact ⟨rfl, h.used _, (Below.refl B w).setCell (p := ⟨b, 0, none⟩) h.1 _⟩
  · refine (sbcopy_used b w h.cell0).mono ?_
    rintro e w' ⟨rfl, rfl⟩
    exact ⟨rfl, h, Below.refl B _⟩
set_option maxHeartbeats 2000000 in
set_option maxRecDepth 100000 in
theorem sbwrite_any (B b : Nat) (l s : List UInt8) (w : World) (h : Bl w B b l) (hlen : l.length + s.length ≤ 1000000000000) (hBw : B ≤ w.heap.size) :
    Calls Tryd.prog 57 #[.pointer (some ⟨b, 0, none⟩), .string ⟨s.toArray⟩] w fun e w' => e = .returned (.tuple #[.int .i64 s.length, .nilIface]) ∧ Bl w' B b (l ++ s) ∧ Below B w w' := by
  obtain ⟨i0, hi, hz0, hz1, hz2⟩ := info_parts bld_byte
  have hlb : (Lib.byteCells l).length = l.length := by simp [Lib.byteCells]
  have e240 : ∀ args w, (callFunc 72 args).run Tryd.prog w = .ok (.enter 72 args) w := enters_of Tryd.func72 (by kernel_rfl) rfl
  go_enter Tryd.func57, Tryd.ntmps57
  go_wp2_with fail
  refine (sbcopy_any B b l _ h).mono ?_
  rintro e w1 ⟨rfl, ⟨hB, v, hbk, hown, hne⟩, hb1⟩
  have c0 : w1.cell? ⟨b, 0, none⟩ = some (.pointer (some ⟨b, 0, none⟩)) := by rw [Lib.cell_of_heap hbk]; rfl
  have c1 : w1.cell? ⟨b, 1, none⟩ = some v := by rw [Lib.cell_of_heap hbk]; rfl
  rw [hlb] at hown
  go_wp2_with (at_builtin; refine Lib.wpList_append_own_string _ rfl _ _ 50 9 rfl B 5 i0 Tryd.underlying50 Tryd.underlying9 hi hz0 hz1 hz2 _ _ _ rfl hown ⟨s.toArray⟩ rfl ?c3 ?c4 ?c5 ?_)
  case c3 => simp only [ByteArray.size, List.size_toArray]; unfold maxLen; omega
  case c4 => simp only [ByteArray.size, List.size_toArray]; omega
  case c5 => have := hb1.size; omega
  intro v' w2 hown' hgrow _
  have hlt : b < w1.heap.size := (Array.getElem?_eq_some_iff.1 hbk).1
  have hb2 : w2.heap[b]? = some (.cells #[.pointer (some ⟨b, 0, none⟩), v] 83 (0, 0)) := by
    rw [hgrow.block b hlt (fun e => hne e.symm)]
    exact hbk
  have d0 : w2.cell? ⟨b, 0, none⟩ = some (.pointer (some ⟨b, 0, none⟩)) := by rw [Lib.cell_of_heap hb2]; rfl
  have d1 : w2.cell? ⟨b, 1, none⟩ = some v := by rw [Lib.cell_of_heap hb2]; rfl
  have f1 : w2.frozen? ⟨b, 1, none⟩ = false := Lib.frozen_of_heap hb2 1
  have hB2 : Below B w w2 := hb1.grown hgrow (by have := hb1.size; omega) (fun k hk => (hown.lt k hk).1)
  obtain ⟨ao, n', cap, rfl⟩ : ∃ ao n' cap, v' = .slice ao n' cap := by
    rcases hown'.2 with ⟨hv, _⟩ | ⟨g, cap, cur, hv, _⟩
    · exact ⟨_, _, _, hv⟩
    · exact ⟨_, _, _, hv⟩
  have HO := Lib.hid hown'
  clear hown' hown hgrow h hbk hb1
  go_wp2_with fail
  go_ret2
  have hz : (Lib.byteCells l ++ Lib.strCells ⟨s.toArray⟩) = Lib.byteCells (l ++ s) := by
    simp [Lib.byteCells, Lib.strCells]
  have hO := HO.out
  rw [hz] at hO
  refine ⟨rfl, .inr (Lib.BuilderAt.put (T := 83) (e := 5) hB hb2 (bs' := Lib.byteCells (l ++ s)) (by simpa [Lib.byteCells, ByteArray.size] using hO) (by decide)), hB2.setCell (p := ⟨b, 1, none⟩) hB _⟩
end Go.Proofs.YtippakeemfldfaaDoor

namespace Go.Proofs.YtippakeemfldfaaDoor
open Go.RowKit

theorem StrsJ.old {w w' : World} {v : Value} {ss : List (List UInt8)} (h : StrsAt w v ss) (hb : Below w.heap.size w w') : StrsAt w' v ss := by
  obtain ⟨ao, cap, e, hc⟩ := h
  refine ⟨ao, cap, e, fun j hj => ?_⟩
  obtain ⟨bs, off, e1, hlt, c⟩ := hc j hj
  exact ⟨bs, off, e1, Nat.lt_of_lt_of_le hlt hb.size, (World.cell?_of_block (hb.block bs hlt)).trans c⟩
theorem StrsJ.made (w : World) (T : TypeId) (ss : List (List UInt8)) : StrsAt (w.alloc (.cells (ss.map fun s => Value.string ⟨s.toArray⟩).toArray T)) (.slice (some ⟨w.heap.size, 0, none⟩) ss.length ss.length) ss := by
  refine ⟨_, _, rfl, fun j hj => ⟨w.heap.size, 0, rfl, by simp, ?_⟩⟩
  rw [cell_of_row _ w.heap.size _ _ T (0, 0) (heap_alloc_new _ _)]
  simp [hj]
theorem TabJ.old {w w' : World} (h : TabAt w) (hb : Below w.heap.size w w') : TabAt w' := h.kept (Mod.of_below hb) (by have := h.lt; omega)
theorem Bl.old {w w' : World} {B b : Nat} {l : List UInt8} (h : Bl w B b l) (hb : Below w.heap.size w w') : Bl w' B b l := by
  have key : ∀ {p : Value}, Lib.BuilderAt 83 5 B b p (Lib.byteCells l) w → Lib.BuilderAt 83 5 B b p (Lib.byteCells l) w' := by
    rintro p ⟨hB, v, hbk, hown, hne⟩
    have hlt : b < w.heap.size := (Array.getElem?_eq_some_iff.1 hbk).1
    refine ⟨hB, v, (hb.block b hlt).trans hbk, hown.kept (row := none) ⟨hb.os, hb.tape, hb.output, hb.size, fun i hi _ => hb.block i hi⟩ ?_, hne⟩
    exact (show v.ownBlock = none ∨ v.ownBlock ≠ none from by cases v.ownBlock <;> simp)
  exact h.imp key key
/-- A frame's sum. -/
def sumB (s : List UInt8) : Nat := w16 (sha (nats s)) 0
theorem sumB_lt (s : List UInt8) : sumB s < 4294967296 := by
  unfold sumB w16
  have h := fun i (hi : i < 32) => sha_lt (nats s) ((sha (nats s)).getD i 0) (by rw [getD_at _ _ (by rw [sha_len]; exact hi)]; exact List.getElem_mem _)
  have h0 := h 0 (by omega)
  have h1 := h 1 (by omega)
  have h2 := h 2 (by omega)
  have h3 := h 3 (by omega)
  simp only [Nat.mul_zero, Nat.zero_add]
  omega
/-- A record's frame. -/
def frmB (s : List UInt8) : List UInt8 := wrdB s.length ++ wrdB (sumB s) ++ s
theorem frmB_len (s : List UInt8) : (frmB s).length = 8 + s.length := by simp [frmB, wrdB]; omega
def frmsB (l : List (List UInt8)) : List UInt8 := l.flatMap frmB
theorem frmsB_snoc (l : List (List UInt8)) (s : List UInt8) : frmsB (l ++ [s]) = frmsB l ++ frmB s := by simp [frmsB]
theorem frmsB_len {l : List (List UInt8)} (h : ∀ s ∈ l, s.length ≤ 1048576) : (frmsB l).length ≤ l.length * 1048584 := by
  induction l with
  | nil => exact Nat.le_refl _
  | cons s l ih =>
    have h1 := ih (fun x hx => h x (List.mem_cons_of_mem _ hx))
    have h2 := h s (List.mem_cons_self ..)
    have : frmsB (s :: l) = frmB s ++ frmsB l := rfl
    rw [this, List.length_append, frmB_len, List.length_cons]
    omega
set_option maxHeartbeats 2000000 in
set_option maxRecDepth 100000 in
theorem jframes_any (v : Value) (l : List (List UInt8)) (w : World) (hv : StrsAt w v l) (hn : l.length ≤ 1000) (hl : ∀ s ∈ l, s.length ≤ 1048576) (hT : TabAt w) :
    Calls Tryd.prog 32 #[v] w fun e w' => e = .returned (.string ⟨(frmsB l).toArray⟩) ∧ Below w.heap.size w w' := by
  obtain ⟨ao, cap, rfl, hcell⟩ := hv
  have Hcell := Lib.hid hcell
  have Hl := Lib.hid hl
  clear hcell hl
  have hn' : (l.length : Int) ≤ 1000 := by omega
  have HT := Lib.hid hT
  have hz : ∀ w : World, (zeroValue 83).run Tryd.prog w = .ok (.agg #[.pointer none, .slice none 0 0]) w := fun _ => by kernel_rfl
  go_enter Tryd.func32, Tryd.ntmps32
  go_wp2_with fail
  obtain ⟨W0, hW0⟩ : ∃ W, W = w.alloc (.cells #[.pointer none, .slice none 0 0] 83) := ⟨_, rfl⟩
  have hB0 : Hid (Bl W0 w.heap.size w.heap.size (frmsB (l.take 0)) ∧ Below w.heap.size w W0) := Lib.hid ⟨by rw [hW0]; exact Lib.fresh_isBuilder _ _ w, by rw [hW0]; exact (Below.refl _ w).alloc (Nat.le_refl _) _⟩
  rw [← hW0]
  clear hW0 hz hT
  obtain ⟨B, hB⟩ : ∃ B, B = w.heap.size := ⟨_, rfl⟩
  rw [← hB] at hB0 ⊢
  have HB := Lib.hid hB
  clear hB
  go_loopw [8] (fun s8 wr => ∃ k : Nat, k ≤ l.length ∧ s8 = .int .i64 (k : Int) ∧ Hid (Bl wr B B (frmsB (l.take k)) ∧ Below B w wr)) (fun s8 _ => l.length - (intOf s8).toNat)
  case atStart => exact ⟨0, by omega, rfl, hB0⟩
  case round =>
    clear hB0
    obtain ⟨k, hk, rfl, HR⟩ := hrel
    by_cases hlt : k < l.length
    · obtain ⟨bs, off, rfl, hbs, hc⟩ := Hcell.out k hlt
      have hcr : wr.cell? ⟨bs, off + k, none⟩ = _ := (World.cell?_of_block (HR.out.2.block bs (HB.out ▸ hbs))).trans hc
      obtain ⟨s, hs⟩ : ∃ s, s = l[k] := ⟨_, rfl⟩
      rw [← hs] at hcr
      have hsl : s.length ≤ 1048576 := hs ▸ Hl.out _ (List.getElem_mem _)
      have Hs := Lib.hid hs
      have hwr : IntKind.u32.wrap (s.length : Int) = (s.length : Int) := by rw [IntKind.wrap_u32]; omega
      have HL : Hid ((frmsB (l.take k)).length ≤ 1048584000) := Lib.hid (by
        have := frmsB_len (l := l.take k) (fun x hx => Hl.out x (List.mem_of_mem_take hx))
        have h2 : (l.take k).length ≤ 1000 := by rw [List.length_take]; omega
        omega)
      have Hh : Hid (wr.heap.size ≥ B) := Lib.hid (by have := HR.out.2.size; rw [HB.out]; exact this)
      have e1 : (s.length : Int) % 4294967296 = (s.length : Int) := by omega
      have HM := Lib.hid (show sumB s < 4294967296 from sumB_lt s)
      obtain ⟨L0, hL0⟩ : ∃ L, L = frmsB (l.take k) := ⟨_, rfl⟩
      rw [← hL0] at HR HL
      have HL0 := Lib.hid hL0
      clear hc hs hbs Hcell hL0 hwr
      go_wp2_with fail
      refine (jword_any s.length wr (by omega)).mono ?_
      rintro e w1 ⟨rfl, hb1⟩
      have H1 := Lib.hid (And.intro (HR.out.1.old hb1) (HR.out.2.trans (hb1.mono Hh.out)))
      have Hh1 : Hid (w1.heap.size ≥ B) := Lib.hid (Nat.le_trans Hh.out hb1.size)
      clear hb1
      go_wp2_with fail
      refine (sbwrite_any B B L0 (wrdB s.length) w1 H1.out.1 (by have := HL.out; show L0.length + 4 ≤ _; omega) Hh1.out).mono ?_
      rintro e w2 ⟨rfl, hb2, hc2⟩
      have H2 := Lib.hid (And.intro hb2 (H1.out.2.trans hc2))
      have Hh2 : Hid (w2.heap.size ≥ B) := Lib.hid (Nat.le_trans Hh1.out hc2.size)
      clear hb2 hc2
      have HK : Hid (Calls Tryd.prog 59 #[.slice (some ⟨w2.heap.size, 0, none⟩) 1 1] (w2.alloc (.cells #[.string ⟨s.toArray⟩] 9)) fun r w' => r = .returned (.int .u32 ((sumB s : Nat) : Int)) ∧ Below w2.heap.size w2 w') := Lib.hid (by
        have hb : Below w2.heap.size w2 (w2.alloc (.cells #[.string ⟨s.toArray⟩] 9)) := (Below.refl _ w2).alloc (Nat.le_refl _) _
        have hT2 : TabAt (w2.alloc (.cells #[.string ⟨s.toArray⟩] 9)) := (TabJ.old HT.out (HB.out ▸ H2.out.2)).kept (Mod.of_below hb) (by have h1 := (TabJ.old HT.out (HB.out ▸ H2.out.2)).lt; omega)
        refine (check_any _ [s] _ (StrsJ.made w2 9 [s]) (by simp only [List.flatten_cons, List.flatten_nil, List.append_nil]; omega) (by simp) hT2).mono ?_
        rintro r w' ⟨rfl, hm⟩
        refine ⟨by simp only [List.flatten_cons, List.flatten_nil, List.append_nil]; rfl, hb.trans ((hm.to_below (Nat.le_refl _) (fun _ _ h => h)).mono hb.size)⟩)
      go_wp2_with fail
      generalize w2.alloc _ = W2 at HK ⊢
      refine HK.out.mono ?_
      rintro e w3 ⟨rfl, hb3⟩
      have H3 := Lib.hid (And.intro (H2.out.1.old hb3) (H2.out.2.trans (hb3.mono Hh2.out)))
      have Hh3 : Hid (w3.heap.size ≥ B) := Lib.hid (Nat.le_trans Hh2.out hb3.size)
      clear hb3 HK
      go_wp2_with fail
      refine (jword_any (sumB s) w3 HM.out).mono ?_
      rintro e w4 ⟨rfl, hb4⟩
      have H4 := Lib.hid (And.intro (H3.out.1.old hb4) (H3.out.2.trans (hb4.mono Hh3.out)))
      have Hh4 : Hid (w4.heap.size ≥ B) := Lib.hid (Nat.le_trans Hh3.out hb4.size)
      clear hb4
      go_wp2_with fail
      refine (sbwrite_any B B (L0 ++ wrdB s.length) (wrdB (sumB s)) w4 H4.out.1 (by have := HL.out; simp only [List.length_append]; show L0.length + 4 + 4 ≤ _; omega) Hh4.out).mono ?_
      rintro e w5 ⟨rfl, hb5, hc5⟩
      have H5 := Lib.hid (And.intro hb5 (H4.out.2.trans hc5))
      have Hh5 : Hid (w5.heap.size ≥ B) := Lib.hid (Nat.le_trans Hh4.out hc5.size)
      clear hb5 hc5
      go_wp2_with fail
      refine (sbwrite_any B B (L0 ++ wrdB s.length ++ wrdB (sumB s)) s w5 H5.out.1 (by have := HL.out; simp only [List.length_append]; show L0.length + 4 + 4 + _ ≤ _; omega) Hh5.out).mono ?_
      rintro e w6 ⟨rfl, hb6, hc6⟩
      have H6 : Hid (Bl w6 B B (frmsB (l.take (k + 1))) ∧ Below B w w6) := Lib.hid ⟨by
        rw [List.take_succ_eq_append_getElem hlt, frmsB_snoc, ← HL0.out, ← Hs.out, frmB]
        simpa only [List.append_assoc] using hb6, H5.out.2.trans hc6⟩
      clear hb6 hc6
      go_wp2_with fail
      go_roundw
      case rel => exact ⟨k + 1, by omega, by go_num, H6⟩
      case measure => simp [intOf]; omega
    · obtain rfl : k = l.length := by omega
      have H1 := HR.out
      rw [List.take_length] at H1
      have H := Lib.hid H1
      clear H1 HR
      go_wp2_with fail
      refine (Tryd.Builder_String_any B B (frmsB l) wr H.out.1 (by have := H.out.2.size; rw [HB.out]; exact this)).mono ?_
      rintro e w1 ⟨rfl, hb1⟩
      have HF : Hid (Below w.heap.size w w1) := Lib.hid (HB.out ▸ H.out.2.trans hb1)
      clear hb1
      go_wp2_with fail
      go_ret
      exact ⟨rfl, HF.out⟩
end Go.Proofs.YtippakeemfldfaaDoor

namespace Go.Proofs.YtippakeemfldfaaDoor
open Go.RowKit

theorem DK.setC {w : World} {d b : Nat} {S S' : St} {L : List Fl} (h : DK w d b S L) (j : Nat) (v : Value) (hc : (stCells S b).setIfInBounds j v = stCells S' b) (hX : S'.X = S.X) : DK (w.setCell ⟨d, j, none⟩ v) d b S' L := by
  refine h.turn (S' := S') (((Mod.refl (fun i => i = d) w)).setCell (fun _ => rfl) v) ?_ hX
  rw [heap_setCell_same w d j _ 56 v h.cell, hc]
theorem DA.setC {w : World} {d b : Nat} {S S' : St} {L : List Fl} {F : Nat → Prop} (h : DK w d b S L) (hF : ∀ i, inD d b L i → F i) (hl : ∀ i, F i → i < w.heap.size) (j : Nat) (v : Value) (hc : (stCells S b).setIfInBounds j v = stCells S' b) (hX : S'.X = S.X) :
    DA (w.setCell ⟨d, j, none⟩ v) d S' F ∧ Mod F w (w.setCell ⟨d, j, none⟩ v) :=
  ⟨⟨b, L, h.setC j v hc hX, hF, fun i hi => by have := hl i hi; simpa [World.setCell] using this⟩, (Mod.refl F w).setCell (fun _ => hF d (.inl rfl)) v⟩
theorem dsclone_any (k : List UInt8) (w : World) (hk : k.length ≤ 1000000) :
    Calls Tryd.prog 63 #[.string ⟨k.toArray⟩] w fun r w' => r = .returned (.string ⟨k.toArray⟩) ∧ Below w.heap.size w w' := by
  have h := fun w => Tryd.stringslite_Clone ⟨k.toArray⟩ w (by simp [ByteArray.size]; omega)
  have H := Lib.hid h
  clear h
  go_enter Tryd.func63, Tryd.ntmps63
  go_wp2_with fail
  refine (H.out _).mono ?_
  rintro r w1 ⟨rfl, hb⟩
  have HB := Lib.hid hb
  clear hb
  go_wp2_with fail
  go_ret
  exact ⟨rfl, HB.out⟩
theorem dknew_any (m m1 r : Int) (w : World) (e1 : max m 0 = m1) (e2 : min m1 1073741824 = r) :
    Calls Tryd.prog 7 #[.int .i64 m] w fun e w' => ∃ p, e = .returned (.pointer (some ⟨p, 0, none⟩)) ∧ ∃ F, DA w' p ⟨r, 0, -1, false, []⟩ F ∧ Below w.heap.size w w' ∧ ∀ i, F i → w.heap.size ≤ i := by
  have hP : DA ((w.alloc (.map #[] 0)).alloc (.cells (stCells ⟨r, 0, -1, false, []⟩ w.heap.size) 56)) (w.heap.size + 1) ⟨r, 0, -1, false, []⟩ (fun i => i = w.heap.size + 1 ∨ i = w.heap.size) := by
    refine ⟨w.heap.size, [], ⟨?_, ?_, (fun f hf => by cases hf), (fun f hf => by cases hf), List.Pairwise.nil, .refl _, List.Pairwise.nil⟩, ?_, ?_⟩
    · have := heap_alloc_new (w.alloc (.map #[] 0)) (.cells (stCells ⟨r, 0, -1, false, []⟩ w.heap.size) 56)
      simpa using this
    · exact (MapAt.made _ _ w).same (Below.heap_alloc _ _ _ (by simp))
    · rintro i (h | h | ⟨f, hf, _⟩)
      · exact .inl h
      · exact .inr h
      · cases hf
    · rintro i (h | h) <;> subst h <;> first | (simp; done) | (simp; omega)
  unfold stCells at hP
  have HP := Lib.hid hP
  clear hP
  have hmk : (Instr.makeMap 54 none).run Tryd.prog w = .ok (.map (some w.heap.size)) (w.alloc (.map #[] 0)) := run_makeMap _ _
  go_enter Tryd.func7, Tryd.ntmps7
  go_wp2_with fail
  go_ret
  exact ⟨_, rfl, _, HP.out, ((Below.refl _ w).alloc (Nat.le_refl _) _).alloc (by simp) _, by rintro i (h | h) <;> omega⟩
theorem dkhalt_any {w : World} {d : Nat} {S : St} {F : Nat → Prop} (h : DA w d S F) (n : Int) :
    Calls Tryd.prog 9 #[.pointer (some ⟨d, 0, none⟩), .int .i64 n] w fun e w' => e = .returned (.tuple #[]) ∧ Eff w w' d { S with lf := max n (-1) } F := by
  obtain ⟨b, L, h, hF, hl⟩ := h
  have c := h.c3
  have f3 := h.fr 3
  obtain ⟨m, hm⟩ : ∃ m, m = max n (-1) := ⟨_, rfl⟩
  have hE := DA.setC (S' := { S with lf := m }) h hF hl 3 (.int .i64 m) rfl rfl
  have HE : Hid (Eff w (w.setCell ⟨d, 3, none⟩ (.int .i64 m)) d { S with lf := m } F) := Lib.hid (Eff.of hE.1 hE.2)
  rw [← hm]
  have hm2 := hm.symm
  clear h hF hl hE hm
  go_enter Tryd.func9, Tryd.ntmps9
  go_wp2_with fail
  go_end0
  exact ⟨rfl, HE.out⟩
theorem dfloose_any (f : Fl) (w : World) (hs : f.s ≤ f.b.length) (hl : f.b.length ≤ 2000000000) :
    Calls Tryd.prog 40 #[f.v] w fun e w' => e = .returned (.int .i64 ((f.b.length - f.s : Nat) : Int)) ∧ Below w.heap.size w w' := by
  obtain ⟨k, bs, s, p, c⟩ := f
  unfold Fl.v
  simp only at hs hl ⊢
  obtain ⟨n, hn⟩ : ∃ n, n = bs.length := ⟨_, rfl⟩
  rw [← hn] at hs hl ⊢
  have e : ((n - s : Nat) : Int) = (n : Int) - s := by omega
  have hw : IntKind.i64.wrap ((n : Int) - s) = (n : Int) - s := by rw [IntKind.wrap_i64]; omega
  rw [e]
  clear hn hs hl e
  have hb : Below w.heap.size w (w.alloc (.cells #[.slice p n c, .int .i64 (s : Int)] 63)) := (Below.refl _ _).alloc (Nat.le_refl _) _
  have HB := Lib.hid hb
  clear hb
  go_enter Tryd.func40, Tryd.ntmps40
  go_wp2_with fail
  go_ret
  exact ⟨rfl, HB.out⟩
theorem dkloose_any {w : World} {d : Nat} {S : St} {F : Nat → Prop} (h : DA w d S F) (k : List UInt8) (hk : k.length ≤ maxLen) (hl : ∀ x ∈ S.X, x.2.1.length ≤ 2000000000) :
    Calls Tryd.prog 23 #[.pointer (some ⟨d, 0, none⟩), .string ⟨k.toArray⟩] w fun e w' => e = .returned (.int .i64 (((fiX k S.X).2.1.length - (fiX k S.X).2.2 : Nat) : Int)) ∧ Below w.heap.size w w' := by
  obtain ⟨b, L, h, _, _⟩ := h
  have c := h.c1
  have hlk := h.look k hk
  have hat := h.at k
  have hx := atF_x h k
  have hlen : (atF k L).b.length ≤ 2000000000 := by
    rcases hat.2.2 with hm | hn
    · exact hl (atF k L).x (h.pm.mem_iff.1 (List.mem_map_of_mem hm))
    · rcases hat.1.shape with ⟨_, e, _⟩ | ⟨g, e, _⟩
      · rw [e]; simp
      · rw [hn] at e; cases e
  have HC := Lib.hid (dfloose_any (atF k L) w hat.2.1 hlen)
  have e : ((fiX k S.X).2.1.length - (fiX k S.X).2.2 : Nat) = (atF k L).b.length - (atF k L).s := by rw [← hx]; rfl
  rw [e]
  generalize (atF k L).b.length - (atF k L).s = R at HC ⊢
  generalize (atF k L).v = v at hlk HC
  clear h hat hx hlen e hk hl
  go_enter Tryd.func23, Tryd.ntmps23
  go_wp2_with fail
  refine HC.out.mono ?_
  rintro r w1 ⟨rfl, hb⟩
  have HB := Lib.hid hb
  clear hb
  go_wp2_with fail
  go_ret
  exact ⟨rfl, HB.out⟩
set_option maxRecDepth 20000 in
theorem dkthere_any {w : World} {d : Nat} {S : St} {F : Nat → Prop} (h : DA w d S F) (k : List UInt8) (hk : k.length ≤ maxLen) :
    Calls Tryd.prog 48 #[.pointer (some ⟨d, 0, none⟩), .string ⟨k.toArray⟩] w fun e w' => e = .returned (.int .i64 (if hasX k S.X then 0 else 7)) ∧ Below w.heap.size w w' := by
  obtain ⟨b, L, h, _, _⟩ := h
  have c := h.c1
  have hlk := h.look_ok k hk
  obtain ⟨B, hB⟩ : ∃ B, B = hasX k S.X := ⟨_, rfl⟩
  rw [← hB] at hlk ⊢
  unfold Fl.v at hlk
  have hV1 : (Value.slice (atF k L).p (atF k L).b.length (atF k L).c).oneCell' = true := rfl
  generalize Value.slice (atF k L).p (atF k L).b.length (atF k L).c = V at hlk hV1
  generalize ((atF k L).s : Int) = sy at hlk
  clear h hk hB
  go_enter Tryd.func48, Tryd.ntmps48
  have hr1 : (w.alloc (.cells #[.slice none 0 0, .int .i64 0] 63)).heap[w.heap.size]? = some (.cells #[.slice none 0 0, .int .i64 0] 63 (0, 0)) := heap_alloc_new _ _
  have hB' : Below w.heap.size w ((w.alloc (.cells #[.slice none 0 0, .int .i64 0] 63)).setRow w.heap.size #[V, .int .i64 sy]) := ((((Mod.refl (fun _ => False) w).alloc (.cells #[.slice none 0 0, .int .i64 0] 63)).setRow _).to_below (Nat.le_refl _) (by rintro k hk (h | h) <;> omega))
  have HB := Lib.hid hB'
  have hi : (Tryd.prog.info? 63).map (·.size) = some 2 := by kernel_rfl
  have hV : ∀ v ∈ (#[V, .int .i64 sy] : Array Value).toList, v.oneCell' = true := by intro v hv; simp at hv; rcases hv with rfl | rfl; exact hV1; exact rfl
  clear hB'
  cases B
  · go_upto_region 2 with (refine wpList_store_row rfl rfl 63 (.tmp 5) (.tmp 14) rfl w.heap.size rfl 63 _ #[V, .int .i64 sy] rfl hr1 rfl hi hV ?_)
    generalize (w.alloc (.cells #[.slice none 0 0, .int .i64 0] 63)).setRow w.heap.size #[V, .int .i64 sy] = W at HB ⊢
    clear hr1 hi hV
    go_wp2_with fail
    go_ret
    exact ⟨rfl, HB.out⟩
  · go_upto_region 2 with (refine wpList_store_row rfl rfl 63 (.tmp 5) (.tmp 14) rfl w.heap.size rfl 63 _ #[V, .int .i64 sy] rfl hr1 rfl hi hV ?_)
    generalize (w.alloc (.cells #[.slice none 0 0, .int .i64 0] 63)).setRow w.heap.size #[V, .int .i64 sy] = W at HB ⊢
    clear hr1 hi hV
    go_wp2_with fail
    go_ret
    exact ⟨rfl, HB.out⟩
end Go.Proofs.YtippakeemfldfaaDoor

namespace Go.Proofs.YtippakeemfldfaaDoor
open Go.RowKit

/-- What stands first: a record, whether there is one, an error. -/
def fstB (s : List UInt8) : List UInt8 × Bool × Int :=
  if s.length < 8 then ([], false, 0)
  else if numB s > 1048576 then ([], false, 19)
  else if s.length < 8 + numB s then ([], false, 0)
  else if sumB ((s.drop 8).take (numB s)) ≠ numB (s.drop 4) then ([], false, 19)
  else ((s.drop 8).take (numB s), true, 0)
theorem jclone_any (k : List UInt8) (w : World) (hk : k.length ≤ 2000000000) :
    Calls Tryd.prog 63 #[.string ⟨k.toArray⟩] w fun r w' => r = .returned (.string ⟨k.toArray⟩) ∧ Below w.heap.size w w' := by
  have h := fun w => Tryd.stringslite_Clone ⟨k.toArray⟩ w (by simp [ByteArray.size]; omega)
  have H := Lib.hid h
  clear h
  go_enter Tryd.func63, Tryd.ntmps63
  go_wp2_with fail
  refine (H.out _).mono ?_
  rintro r w1 ⟨rfl, hb⟩
  have HB := Lib.hid hb
  clear hb
  go_wp2_with fail
  go_ret
  exact ⟨rfl, HB.out⟩
theorem jnumber_q (s : List UInt8) (w : World) (hs : 4 ≤ s.length) (hm : s.length ≤ maxLen) :
    Calls Tryd.prog 69 #[.string ⟨s.toArray⟩] w fun r w' => r = .returned (.int .u32 (numB s : Nat)) ∧ w' = w := (jnumber_any s w hs hm).mono (by rintro r w' ⟨h, e⟩; exact ⟨h, e.symm⟩)
set_option maxHeartbeats 2000000 in
set_option maxRecDepth 100000 in
theorem jfirst_any (s : List UInt8) (w : World) (hs : s.length ≤ 2000000000) (hT : TabAt w) :
    Calls Tryd.prog 50 #[.string ⟨s.toArray⟩] w fun e w' => e = .returned (.tuple #[.string ⟨(fstB s).1.toArray⟩, .bool (fstB s).2.1, .int .i64 (fstB s).2.2]) ∧ Below w.heap.size w w' := by
  by_cases h8 : s.length < 8
  · have e : fstB s = ([], false, 0) := by unfold fstB; rw [if_pos h8]
    rw [e]
    have h8' : (s.length : Int) < 8 := by omega
    clear hT e
    go_enter Tryd.func50, Tryd.ntmps50
    go_wp2_with fail
    go_ret3
    exact ⟨rfl, Below.refl _ _⟩
  have h8' : ¬ (s.length : Int) < 8 := by omega
  obtain ⟨z, hz⟩ : ∃ z, fstB s = z := ⟨_, rfl⟩
  rw [hz]
  unfold fstB at hz
  rw [if_neg h8] at hz
  have HT := Lib.hid hT
  have h4 : ¬ (s.length < 4) := by omega
  have h4' : (4 : Int) ≤ s.length := by omega
  have hx : (⟨s.toArray⟩ : ByteArray).extract 4 s.length = ⟨(s.drop 4).toArray⟩ := by
    apply ByteArray.ext; simp [List.take_of_length_le]
  have hq1 := fun w => jnumber_q s w (by omega) (by unfold maxLen; omega)
  have hq2 := fun w => jnumber_q (s.drop 4) w (by rw [List.length_drop]; omega) (by rw [List.length_drop]; unfold maxLen; omega)
  have hn2 := numB_lt (s.drop 4)
  have hn1 := numB_lt s
  generalize numB (s.drop 4) = c at hz hq2 hn2
  obtain ⟨n, hn⟩ : ∃ n, n = numB s := ⟨_, rfl⟩
  rw [← hn] at hz hq1 hn1
  have HZ := Lib.hid hz
  clear hz hT hn
  go_enter Tryd.func50, Tryd.ntmps50
  go_wp2_with fail
  go_quiet (first | (go_at_call_of 69 (Value.string ⟨s.toArray⟩); exact Calls.quiet_of_same (hq1 _)) | (go_at_call_of 69 (Value.string ⟨(s.drop 4).toArray⟩); exact Calls.quiet_of_same (hq2 _)))
  have hb1 : Below w.heap.size w (w.drewN nq) := Mod.to_below ((Mod.refl (fun _ => False) w).drewN nq) (Nat.le_refl _) (fun _ _ h => h)
  have HB1 := Lib.hid hb1
  generalize w.drewN nq = w1 at HB1 ⊢
  clear hb1 hq1 hq2 hx
  by_cases hbig : n > 1048576
  · have hz := HZ.out
    rw [if_pos hbig] at hz
    have hb' : (1048576 : Int) < n := by omega
    subst hz
    go_wp2_with fail
    go_ret3
    exact ⟨rfl, HB1.out⟩
  have hb' : ¬ (1048576 : Int) < n := by omega
  have hz1 := HZ.out
  rw [if_neg hbig] at hz1
  have HZ1 := Lib.hid hz1
  clear HZ hz1
  have H20 : Hid (∀ w, Calls Tryd.prog 17 #[.int .i64 (n : Int)] w fun r w' => r = .returned (.int .i64 (8 + (n : Int))) ∧ w = w') := Lib.hid (fun w => (jcost_any n w (by omega)).mono (by rintro r w' ⟨rfl, rfl⟩; exact ⟨by rw [show max (n : Int) 0 = n by omega], rfl⟩))
  go_wp2_with fail
  refine (H20.out _).mono ?_
  rintro e w2 ⟨rfl, hww⟩
  have HB1 : Hid (Below w.heap.size w w2) := Lib.hid (hww ▸ HB1.out)
  clear hww
  by_cases hend : s.length < 8 + n
  · have hz := HZ1.out
    rw [if_pos hend] at hz
    have hb' : (s.length : Int) < 8 + n := by omega
    subst hz
    go_wp2_with fail
    go_ret3
    exact ⟨rfl, HB1.out⟩
  have he' : ¬ (s.length : Int) < 8 + n := by omega
  have hz1 := HZ1.out
  rw [if_neg hend] at hz1
  obtain ⟨r, hr⟩ : ∃ r, r = (s.drop 8).take n := ⟨_, rfl⟩
  rw [← hr] at hz1
  have hrl : r.length = n := by rw [hr, List.length_take, List.length_drop]; omega
  have hx : (⟨s.toArray⟩ : ByteArray).extract 8 (8 + n) = ⟨r.toArray⟩ := by
    apply ByteArray.ext; simp [hr]
  have ht : (8 + (n : Int)).toNat = 8 + n := by omega
  have h90 : (0 : Int) ≤ 8 + n := by omega
  have h91 : 8 + (n : Int) ≤ s.length := by omega
  have h92 : (8 : Int) ≤ 8 + n := by omega
  have HZ := Lib.hid hz1
  have HR := Lib.hid hrl
  clear hr hz1 HZ1 hrl
  go_wp2_with fail
  refine (jclone_any r w2 (by rw [HR.out]; omega)).mono ?_
  rintro e w3 ⟨rfl, hb3⟩
  have HB3 : Hid (Below w.heap.size w w3) := Lib.hid (HB1.out.trans (hb3.mono HB1.out.size))
  clear hb3 HB1 hx
  have HK : Hid (Calls Tryd.prog 59 #[.slice (some ⟨w3.heap.size, 0, none⟩) 1 1] (w3.alloc (.cells #[.string ⟨r.toArray⟩] 9)) fun q w' => q = .returned (.int .u32 ((sumB r : Nat) : Int)) ∧ Below w.heap.size w w') := Lib.hid (by
    have hb : Below w3.heap.size w3 (w3.alloc (.cells #[.string ⟨r.toArray⟩] 9)) := (Below.refl _ w3).alloc (Nat.le_refl _) _
    have hT3 := TabJ.old HT.out HB3.out
    have hT2 : TabAt (w3.alloc (.cells #[.string ⟨r.toArray⟩] 9)) := hT3.kept (Mod.of_below hb) (by have h1 := hT3.lt; omega)
    refine (check_any _ [r] _ (StrsJ.made w3 9 [r]) (by simp only [List.flatten_cons, List.flatten_nil, List.append_nil]; have := HR.out; omega) (by simp) hT2).mono ?_
    rintro q w' ⟨rfl, hm⟩
    refine ⟨by simp only [List.flatten_cons, List.flatten_nil, List.append_nil]; rfl, HB3.out.trans ((hb.trans ((hm.to_below (Nat.le_refl _) (fun _ _ h => h)).mono hb.size)).mono HB3.out.size)⟩)
  go_wp2_with fail
  generalize w3.alloc _ = W3 at HK ⊢
  refine HK.out.mono ?_
  rintro e w4 ⟨rfl, hb4⟩
  have HB4 := Lib.hid hb4
  clear hb4 HK
  by_cases hc : sumB r = c
  · have hz := HZ.out
    rw [if_neg (fun h => h hc)] at hz
    have hc' : ((sumB r : Nat) : Int) = c := by rw [hc]
    have hc2 : (((sumB r : Nat) : Int) != c) = false := by simp [hc']
    subst hz
    clear hc
    go_wp2_with fail
    go_ret3
    exact ⟨rfl, HB4.out⟩
  · have hz := HZ.out
    rw [if_pos hc] at hz
    have hc2 : (((sumB r : Nat) : Int) != c) = true := by simp; omega
    subst hz
    clear hc
    go_wp2_with fail
    go_ret3
    exact ⟨rfl, HB4.out⟩
end Go.Proofs.YtippakeemfldfaaDoor

namespace Go.Proofs.YtippakeemfldfaaDoor
open Go.RowKit

/-- What Read answers. -/
def rdX (S : St) (k : List UInt8) : List UInt8 × Int := if S.dn then ([], 6) else if hasX k S.X then ((fiX k S.X).2.1, 0) else ([], 7)
set_option maxRecDepth 20000 in
theorem dkread_any {w : World} {d : Nat} {S : St} {F : Nat → Prop} (h : DA w d S F) (k : List UInt8) (hk : k.length ≤ maxLen) :
    Calls Tryd.prog 22 #[.pointer (some ⟨d, 0, none⟩), .string ⟨k.toArray⟩] w fun e w' => e = .returned (.tuple #[.string ⟨(rdX S k).1.toArray⟩, .int .i64 (rdX S k).2]) ∧ Below w.heap.size w w' := by
  have HC := Lib.hid (dkthere_any h k hk)
  obtain ⟨b, L, h, _, _⟩ := h
  have c4 := h.c4
  have hx := atF_x h k
  have HN : Hid (∀ w', Below w.heap.size w w' → w'.cell? ⟨d, 1, none⟩ = some (.map (some b)) ∧ (Instr.lookup 54 (.map (some b)) (.string ⟨k.toArray⟩) false).run Tryd.prog w' = .ok (.agg #[.slice (atF k L).p (atF k L).b.length (atF k L).c, .int .i64 ((atF k L).s : Int)]) w' ∧ (convert 50 9 (.slice (atF k L).p (atF k L).b.length (atF k L).c)).run Tryd.prog w' = .ok (.string ⟨(fiX k S.X).2.1.toArray⟩) w') := Lib.hid (by
    intro w' hb
    have h' := h.old hb
    refine ⟨h'.c1, h'.look k hk, ?_⟩
    rw [show (fiX k S.X).2.1 = (atF k L).b by rw [← hx]; rfl]
    exact Rw.convY (h'.at k).1 50 9 Tryd.underlying50 Tryd.underlying5 Tryd.underlying9)
  unfold rdX
  generalize (fiX k S.X).2.1 = bs at HN ⊢
  generalize hasX k S.X = B at HC ⊢
  generalize S.dn = D at c4 ⊢
  generalize (atF k L).p = p at HN
  generalize (atF k L).b.length = n at HN
  generalize ((atF k L).s : Int) = sy at HN
  generalize (atF k L).c = c at HN
  clear h hx hk
  cases D
  · cases B
    · go_enter Tryd.func22, Tryd.ntmps22
      go_wp2_with fail
      refine HC.out.mono ?_
      rintro r w1 ⟨rfl, hb⟩
      have HB := Lib.hid hb
      clear hb
      go_wp2_with fail
      go_ret2
      exact ⟨rfl, HB.out⟩
    · go_enter Tryd.func22, Tryd.ntmps22
      go_wp2_with fail
      refine HC.out.mono ?_
      rintro r w1 ⟨rfl, hb⟩
      obtain ⟨c1, hlk, hcv⟩ := HN.out w1 hb
      have HB := Lib.hid hb
      have hf : (Instr.field 63 (.agg #[.slice p n c, .int .i64 sy]) 0).run Tryd.prog w1 = .ok (.slice p n c) w1 := by kernel_rfl
      clear hb
      go_wp2_with fail
      go_ret2
      exact ⟨rfl, HB.out⟩
  · go_enter Tryd.func22, Tryd.ntmps22
    go_wp2_with fail
    go_ret2
    exact ⟨rfl, Below.refl _ _⟩
end Go.Proofs.YtippakeemfldfaaDoor

namespace Go.Proofs.YtippakeemfldfaaDoor
open Go.RowKit

theorem exec_store_row {P : Program} {o : Oper} {a : Act} {w : World} (ty : TypeId) (x y : Operand) (ho : o.op = .store ty x y)
    (g : Nat) (hx : a.eval x = .pointer (some ⟨g, 0, none⟩)) (t : TypeId) (old cs : Array Value) (hy : a.eval y = .agg cs) (hg : w.heap[g]? = some (.cells old t (0, 0))) (hsz : old.size = cs.size)
    (hi : (P.info? ty).map (·.size) = some cs.size) (h1 : ∀ v ∈ cs.toList, v.oneCell' = true) : (execOp a.eval o).run P w = .ok .skip (w.setRow g cs) := by
  have hst := run_storeCells_at P g 0 t cs.toList 0 old w hg (by simp; omega) h1
  have e : (old.toList.take (0 + 0) ++ cs.toList ++ old.toList.drop (0 + 0 + cs.toList.length)).toArray = cs := by
    have : old.toList.drop (0 + 0 + cs.toList.length) = [] := List.drop_eq_nil_of_le (by simp; omega)
    rw [this]; simp
  rw [e] at hst
  cases hq : P.info? ty with
  | none => simp [hq] at hi
  | some i =>
    have hs : i.size = cs.size := by simpa [hq] using hi
    have hv : (storeVar ty ⟨g, 0, none⟩ (.agg cs)).run P w = .ok () (w.setRow g cs) := by
      simp [storeVar, sizeOf, typeInfo, hq, hs, Value.cells, hst]
    unfold execOp
    simp only [ho, hx, hy, Instr.storeAt, Instr.sureAddr, Sem.run_bind, Sem.run_pure, Result.andThen_ok, hv]
theorem exec_load_row {P : Program} {o : Oper} {a : Act} {w : World} (ty : TypeId) (x : Operand) (ho : o.op = .load ty x) (g : Nat) (hx : a.eval x = .pointer (some ⟨g, 0, none⟩)) (t : TypeId) (cs : Array Value) (fr : Nat × Nat) (d : TypeDesc) (hg : w.heap[g]? = some (.cells cs t fr))
    (hu : P.underlying ty = some d) (hd : (match d with | .struct _ | .array _ _ => true | _ => false) = true) (hi : (P.info? ty).map (·.size) = some cs.size) : (execOp a.eval o).run P w = .ok (.value (.agg cs)) w := by
  unfold execOp
  simp only [ho, hx, Instr.loadAt, Instr.sureAddr, Sem.run_bind, Sem.run_pure, Result.andThen_ok, run_loadVar_row w g t ty cs fr d hg hu hd hi]
theorem slice_front {P : Program} (t e : TypeId) (ht : P.underlying t = some (.slice e)) (he : (P.info? e).map (·.size) = some 1) (p : Option Addr) (n c m : Nat) (hm : m ≤ c) (w : World) :
    (Instr.slice t (.slice p n c) none (some (.int .i64 (m : Int))) none).run P w = .ok (.slice p m c) w ∧ (Instr.sliceAt t (.slice p n c) none (some (.int .i64 (m : Int))) none).run P w = .ok (.slice p m c) w := by
  have h1 : (Instr.slice t (.slice p n c) none (some (.int .i64 (m : Int))) none).run P w = .ok (.slice p m c) w := by
    cases hq : P.info? e with
    | none => simp [hq] at he
    | some i =>
      have hs : i.size = 1 := by simpa [hq] using he
      have ha : ∀ a : Addr, a.add 0 = a := fun a => by unfold Addr.add; simp
      have hm2 : (p.map fun a => a.add 0) = p := by cases p <;> simp [ha]
      simp [Instr.slice, run_underlying ht, Instr.sliceBounds, run_sliceBound, hm, sizeOf, typeInfo, hq, hs, hm2]
  refine ⟨h1, ?_⟩
  simp [Instr.sliceAt, run_underlying ht, h1]

set_option maxRecDepth 20000 in
set_option maxHeartbeats 1000000 in
theorem dffirst_any (f : Fl) (m : Nat) (w : World) (hm : m ≤ f.b.length) (hc : f.b.length ≤ f.c) :
    Calls Tryd.prog 42 #[f.v, .int .i64 (m : Int)] w fun e w' => e = .returned (Fl.v ⟨f.k, f.b.take m, min f.s m, f.p, f.c⟩) ∧ Below w.heap.size w w' := by
  obtain ⟨k, bs, s, p, c⟩ := f
  unfold Fl.v
  simp only at hm hc ⊢
  rw [show (bs.take m).length = m by rw [List.length_take]; omega]
  generalize bs.length = n at hm hc ⊢
  have hsl := fun w => (slice_front (P := Tryd.prog) 50 5 Tryd.underlying50 (by kernel_rfl) p n c m (by omega) w).1
  have hsm := fun w => (slice_front (P := Tryd.prog) 50 5 Tryd.underlying50 (by kernel_rfl) p n c m (by omega) w).2
  have hmn : min (s : Int) (m : Int) = ((min s m : Nat) : Int) := by omega
  have HI : Hid ((Tryd.prog.info? 63).map (·.size) = some 2) := Lib.hid (by kernel_rfl)
  have hV1 : ∀ v ∈ (#[.slice p m c, .int .i64 ((min s m : Nat) : Int)] : Array Value).toList, v.oneCell' = true := by intro v hv; simp at hv; rcases hv with rfl | rfl <;> rfl
  go_enter Tryd.func42, Tryd.ntmps42
  go_wp2_with fail
  obtain ⟨W0, hW0⟩ : ∃ W0, W0 = (w.alloc (.cells #[.slice p n c, .int .i64 (s : Int)] 63)).alloc (.cells #[.slice none 0 0, .int .i64 0] 63) := ⟨_, rfl⟩
  have HB := Lib.hid (show Below w.heap.size w W0 by rw [hW0]; exact ((Below.refl _ w).alloc (Nat.le_refl _) _).alloc (by simp) _)
  have hk0 : W0.heap[w.heap.size]? = some (.cells #[.slice p n c, .int .i64 (s : Int)] 63 (0, 0)) := by rw [hW0, Below.heap_alloc _ _ _ (by simp)]; exact heap_alloc_new _ _
  have HR := Lib.hid (show W0.heap[w.heap.size + 1]? = some (.cells #[.slice none 0 0, .int .i64 0] 63 (0, 0)) by rw [hW0]; have := heap_alloc_new (w.alloc (.cells #[.slice p n c, .int .i64 (s : Int)] 63)) (.cells #[.slice none 0 0, .int .i64 0] 63); simpa using this)
  rw [← hW0]
  clear hW0
  generalize hgw : w.heap.size = g at *
  have CB0 := Lib.hid (show W0.drew.cell? ⟨g, 0, none⟩ = some (.slice p n c) by unfold World.cell?; rw [show W0.drew.heap[g]? = _ from hk0]; rfl)
  have CB1 := Lib.hid (show W0.drew.cell? ⟨g, 1, none⟩ = some (.int .i64 (s : Int)) by unfold World.cell?; rw [show W0.drew.heap[g]? = _ from hk0]; rfl)
  have HG0 : Hid ((fun (j : Nat) (_ : Value) (w1 : World) => (j = 0 ∧ w1 = W0.drew) ∨ (j = 1 ∧ w1 = W0.drew.setRow (g + 1) #[.slice p m c, .int .i64 ((min s m : Nat) : Int)])) 0 undef W0.drew) := Lib.hid (.inl ⟨rfl, rfl⟩)
  clear hk0
  refine wp_region_chain (fun t v => match t with
    | 5 => v = .pointer (some ⟨g, 0, none⟩)
    | 6 => v = .slice p n c
    | 7 => v = .int .i64 (m : Int)
    | 8 => v = .slice p m c
    | 9 => v = .pointer (some ⟨g, 1, none⟩)
    | 10 => v = .int .i64 (s : Int)
    | 11 => v = .int .i64 (m : Int)
    | 12 => v = .int .i64 ((min s m : Nat) : Int)
    | 13 => v = .agg #[.slice p m c, .int .i64 ((min s m : Nat) : Int)]
    | _ => True) (fun (j : Nat) (_ : Value) (w1 : World) => (j = 0 ∧ w1 = W0.drew) ∨ (j = 1 ∧ w1 = W0.drew.setRow (g + 1) #[.slice p m c, .int .i64 ((min s m : Nat) : Int)])) [9] 14 (by kernel_rfl) (by decide +kernel) rfl (by decide +kernel) (by decide) (by decide) HG0.out (by
    refine OweAllC.cons (owesC_val 0 (by decide +kernel) (by decide) rfl rfl fun k' a w1 x hk ha hG hV => ?_) ?_
    · skip
      have h2 := ha.outer 2 (by decide +kernel)
      simp only [Act.eval] at h2
      exact ⟨.pointer (some ⟨g, 0, none⟩), wanted_free rfl, by simp [execOp, go_sem, h2], rfl⟩
    refine OweAllC.cons (owesC_val 0 (by decide +kernel) (by decide) rfl rfl fun k' a w1 x hk ha hG hV => ?_) ?_
    · skip
      have h5 : a.tmps.getD 5 undef = .pointer (some ⟨g, 0, none⟩) := hV.get 5 (by decide +kernel)
      have cc : w1.cell? ⟨g, 0, none⟩ = some (.slice p n c) := by
        rcases hG with ⟨_, rfl⟩ | ⟨_, rfl⟩
        · exact CB0.out
        · exact (World.cell?_of_block (setRow_other W0.drew (g + 1) g _ (by omega))).trans CB0.out
      exact ⟨.slice p n c, wanted_free rfl, by simp [execOp, go_sem, h5, cc], rfl⟩
    refine OweAllC.cons (owesC_val 0 (by decide +kernel) (by decide) rfl rfl fun k' a w1 x hk ha hG hV => ?_) ?_
    · skip
      have h1 := ha.outer 1 (by decide +kernel)
      simp only [Act.eval] at h1
      exact ⟨.int .i64 (m : Int), wanted_free rfl, by simp [execOp, go_sem, h1], rfl⟩
    refine OweAllC.cons (owesC_val 0 (by decide +kernel) (by decide) rfl rfl fun k' a w1 x hk ha hG hV => ?_) ?_
    · skip
      have h6 : a.tmps.getD 6 undef = .slice p n c := hV.get 6 (by decide +kernel)
      have h7 : a.tmps.getD 7 undef = .int .i64 (m : Int) := hV.get 7 (by decide +kernel)
      exact ⟨.slice p m c, wanted_free rfl, by simp [execOp, go_sem, h6, h7, hsl, hsm], rfl⟩
    refine OweAllC.cons (owesC_val 0 (by decide +kernel) (by decide) rfl rfl fun k' a w1 x hk ha hG hV => ?_) ?_
    · skip
      have h2 := ha.outer 2 (by decide +kernel)
      simp only [Act.eval] at h2
      exact ⟨.pointer (some ⟨g, 1, none⟩), wanted_free rfl, by simp [execOp, go_sem, h2], rfl⟩
    refine OweAllC.cons (owesC_val 0 (by decide +kernel) (by decide) rfl rfl fun k' a w1 x hk ha hG hV => ?_) ?_
    · skip
      have h9 : a.tmps.getD 9 undef = .pointer (some ⟨g, 1, none⟩) := hV.get 9 (by decide +kernel)
      have cc : w1.cell? ⟨g, 1, none⟩ = some (.int .i64 (s : Int)) := by
        rcases hG with ⟨_, rfl⟩ | ⟨_, rfl⟩
        · exact CB1.out
        · exact (World.cell?_of_block (setRow_other W0.drew (g + 1) g _ (by omega))).trans CB1.out
      exact ⟨.int .i64 (s : Int), wanted_free rfl, by simp [execOp, go_sem, h9, cc], rfl⟩
    refine OweAllC.cons (owesC_val 0 (by decide +kernel) (by decide) rfl rfl fun k' a w1 x hk ha hG hV => ?_) ?_
    · skip
      have h1 := ha.outer 1 (by decide +kernel)
      simp only [Act.eval] at h1
      exact ⟨.int .i64 (m : Int), wanted_free rfl, by simp [execOp, go_sem, h1], rfl⟩
    refine OweAllC.cons (owesC_val 0 (by decide +kernel) (by decide) rfl rfl fun k' a w1 x hk ha hG hV => ?_) ?_
    · skip
      have h10 : a.tmps.getD 10 undef = .int .i64 (s : Int) := hV.get 10 (by decide +kernel)
      have h11 : a.tmps.getD 11 undef = .int .i64 (m : Int) := hV.get 11 (by decide +kernel)
      exact ⟨.int .i64 ((min s m : Nat) : Int), wanted_free rfl, by simp [execOp, go_sem, h10, h11, hmn], rfl⟩
    refine OweAllC.cons (owesC_val 0 (by decide +kernel) (by decide) rfl rfl fun k' a w1 x hk ha hG hV => ?_) ?_
    · skip
      have h8 : a.tmps.getD 8 undef = .slice p m c := hV.get 8 (by decide +kernel)
      have h12 : a.tmps.getD 12 undef = .int .i64 ((min s m : Nat) : Int) := hV.get 12 (by decide +kernel)
      have g8 : a.tmps[8]?.getD undef = .slice p m c := by simpa using h8
      have g12 : a.tmps[12]?.getD undef = .int .i64 ((min s m : Nat) : Int) := by simpa using h12
      exact ⟨.agg #[.slice p m c, .int .i64 ((min s m : Nat) : Int)], wanted_free rfl, by simp [execOp, go_sem, h8, h12, g8, g12], rfl⟩
    refine OweAllC.cons (owesC_store 0 rfl rfl rfl fun a w1 x ha hG hx hV => ?_) ?_
    · skip
      have h4 := ha.outer 4 (by decide +kernel)
      simp only [Act.eval] at h4
      have h13 : a.tmps.getD 13 undef = .agg #[.slice p m c, .int .i64 ((min s m : Nat) : Int)] := hV.get 13 (by decide +kernel)
      obtain rfl : w1 = W0.drew := by rcases hG with hG | hG; exact hG.2; exact absurd hG.1 (by omega)
      exact ⟨W0.drew.setRow (g + 1) #[.slice p m c, .int .i64 ((min s m : Nat) : Int)], wanted_free rfl, exec_store_row 63 (.tmp 4) (.tmp 13) rfl (g + 1) h4 63 _ _ h13 (show W0.drew.heap[g + 1]? = _ from HR.out) rfl HI.out hV1, .inr ⟨rfl, rfl⟩⟩
    exact OweAllC.nil
    ) ?_
  intro f wz xz hG hx hv
  first | (rename_i hK; refine hK _ _ ?_; clear hK) | (rename_i hK _; refine hK _ _ ?_; clear hK) | (rename_i hK _ _; refine hK _ _ ?_; clear hK) | (rename_i hK _ _ _; refine hK _ _ ?_; clear hK)
  clear hv hx
  simp only [dsts, puts, List.filterMap_cons, List.filterMap_nil, List.foldl_cons, List.foldl_nil, Act.put, List.setIfInBounds_toArray, List.set_cons_succ, List.set_cons_zero]
  obtain ⟨_, rfl⟩ : 1 = 1 ∧ wz = _ := by rcases hG with hG | hG; exact absurd hG.1 (by decide); exact hG
  have L0 := Lib.hid (setRow_heap W0.drew (g + 1) _ #[.slice p m c, .int .i64 ((min s m : Nat) : Int)] 63 (0, 0) HR.out)
  have HE := Lib.hid (show Below g w (W0.drew.setRow (g + 1) #[.slice p m c, .int .i64 ((min s m : Nat) : Int)]) from HB.out.trans ((((Mod.refl (fun _ => False) W0).drew.setRow (g := g + 1) #[.slice p m c, .int .i64 ((min s m : Nat) : Int)]).to_below (by have := HB.out.size; omega) (by rintro k hk (h | h); exact h; omega))))
  clear hG HG0
  go_wp2_with fail
  exact bodyPost_ret (v := .agg #[.slice p m c, .int .i64 ((min s m : Nat) : Int)]) (results_cell_row Tryd.results42 _ _ (g + 1) 63 #[.slice p m c, .int .i64 ((min s m : Nat) : Int)] (0, 0) _ rfl L0.out Tryd.underlying63 rfl HI.out) rfl ⟨rfl, HE.out⟩
set_option maxRecDepth 20000 in
theorem dfsure_any (f : Fl) (w : World) :
    Calls Tryd.prog 43 #[f.v] w fun e w' => e = .returned (Fl.v ⟨f.k, f.b, f.b.length, f.p, f.c⟩) ∧ Below w.heap.size w w' := by
  obtain ⟨k, bs, s, p, c⟩ := f
  unfold Fl.v
  simp only
  generalize bs.length = n
  have HI : Hid ((Tryd.prog.info? 63).map (·.size) = some 2) := Lib.hid (by kernel_rfl)
  have hV1 : ∀ v ∈ (#[.slice p n c, .int .i64 (n : Int)] : Array Value).toList, v.oneCell' = true := by intro v hv; simp at hv; rcases hv with rfl | rfl <;> rfl
  obtain ⟨W0, hW0⟩ : ∃ W0, W0 = (w.alloc (.cells #[.slice p n c, .int .i64 (s : Int)] 63)).alloc (.cells #[.slice none 0 0, .int .i64 0] 63) := ⟨_, rfl⟩
  have HB := Lib.hid (show Below w.heap.size w W0 by rw [hW0]; exact ((Below.refl _ w).alloc (Nat.le_refl _) _).alloc (by simp) _)
  have hk0 : W0.heap[w.heap.size]? = some (.cells #[.slice p n c, .int .i64 (s : Int)] 63 (0, 0)) := by rw [hW0, Below.heap_alloc _ _ _ (by simp)]; exact heap_alloc_new _ _
  have hR : W0.heap[w.heap.size + 1]? = some (.cells #[.slice none 0 0, .int .i64 0] 63 (0, 0)) := by rw [hW0]; have := heap_alloc_new (w.alloc (.cells #[.slice p n c, .int .i64 (s : Int)] 63)) (.cells #[.slice none 0 0, .int .i64 0] 63); simpa using this
  have CB0 : W0.cell? ⟨w.heap.size, 0, none⟩ = some (.slice p n c) := by unfold World.cell?; rw [hk0]; rfl
  have L0 := Lib.hid (setRow_heap W0 (w.heap.size + 1) _ #[.slice p n c, .int .i64 (n : Int)] 63 (0, 0) hR)
  have HE := Lib.hid (show Below w.heap.size w (W0.setRow (w.heap.size + 1) #[.slice p n c, .int .i64 (n : Int)]) from HB.out.trans ((((Mod.refl (fun _ => False) W0).setRow (g := w.heap.size + 1) #[.slice p n c, .int .i64 (n : Int)]).to_below (by have := HB.out.size; omega) (by rintro k hk (h | h); exact h; omega))))
  go_enter Tryd.func43, Tryd.ntmps43
  go_upto_region 1 with fail
  rw [← hW0]
  clear hW0 hk0
  generalize hgw : w.heap.size = g at *
  go_wp2_with (refine wpList_store_row rfl rfl 63 (.tmp 2) (.tmp 8) rfl (g + 1) rfl 63 _ #[.slice p n c, .int .i64 (n : Int)] rfl hR rfl HI.out hV1 ?_; clear hR CB0)
  exact bodyPost_ret (v := .agg #[.slice p n c, .int .i64 (n : Int)]) (results_cell_row Tryd.results43 _ _ (g + 1) 63 #[.slice p n c, .int .i64 (n : Int)] (0, 0) _ rfl L0.out Tryd.underlying63 rfl HI.out) rfl ⟨rfl, by first | exact HE.out | (rw [hgw]; exact HE.out)⟩
/-- A disk in memory, but for the bytes of one file. -/
structure DKx (w : World) (d b : Nat) (S : St) (L : List Fl) (k : List UInt8) : Prop where
  cell : w.heap[d]? = some (.cells (stCells S b) 56 (0, 0))
  map : MapAt Tryd.prog 9 w b (L.map entD)
  row : ∀ f ∈ woF k L, Rw encY 5 w f.p f.c f.b
  syn : ∀ f ∈ L, f.s ≤ f.b.length
  far : L.Pairwise fun f g => ∀ a a', f.p = some a → g.p = some a' → a.block ≠ a'.block
  pm : (L.map Fl.x).Perm S.X
  so : SrtX S.X
theorem DK.toX {w : World} {d b : Nat} {S : St} {L : List Fl} (h : DK w d b S L) (k : List UInt8) : DKx w d b S L k :=
  ⟨h.cell, h.map, fun f hf => h.row f (List.mem_filter.1 hf).1, h.syn, h.far, h.pm, h.so⟩
section
variable {w w' : World} {d b : Nat} {S : St} {L : List Fl} {k : List UInt8}
theorem DKx.plt (h : DKx w d b S L k) : d < w.heap.size := (Array.getElem?_eq_some_iff.1 h.cell).1
theorem DKx.ne (h : DKx w d b S L k) : d ≠ b := h.map.notCells h.cell
theorem DKx.kept (h : DKx w d b S L k) {T : Nat → Prop} (hm : Mod T w w') (hd : ¬ T d) (hb : ¬ T b) (hf : ∀ f ∈ woF k L, ∀ a, f.p = some a → ¬ T a.block) : DKx w' d b S L k :=
  ⟨(hm.block d h.plt hd).trans h.cell, h.map.kept hm hb, fun f hf' => (h.row f hf').kept hm (hf f hf'), h.syn, h.far, h.pm, h.so⟩
theorem DKx.rowAt (h : DKx w d b S L k) {f : Fl} (hf : f ∈ woF k L) {a : Addr} (ha : f.p = some a) : a.block < w.heap.size ∧ a.block ≠ b := by
  have hr := h.row f hf
  rw [ha] at hr
  rcases hr.shape with ⟨e, _⟩ | ⟨g, e, hl, _, _, cur, hh, _⟩
  · cases e
  · cases e
    exact ⟨hl, h.map.notCells hh⟩
theorem DKx.old (h : DKx w d b S L k) (hb : Below w.heap.size w w') : DKx w' d b S L k :=
  h.kept (Mod.of_below hb) (fun hn => by have := h.plt; omega) (fun hn => by have := h.map.lt; omega) (fun f hf a ha hn => by have := (h.rowAt hf ha).1; omega)
theorem DKx.c1 (h : DKx w d b S L k) : w.cell? ⟨d, 1, none⟩ = some (.map (some b)) := by unfold World.cell?; rw [h.cell]; rfl
theorem DKx.put (f : Fl) (h : DKx w d b S L f.k) (hr : Rw encY 5 w f.p f.c f.b) (hs : f.s ≤ f.b.length) (ha : ∀ a, f.p = some a → a.block ≠ d ∧ a.block ≠ b ∧ ∀ g ∈ woF f.k L, ∀ a', g.p = some a' → a'.block ≠ a.block) (hk : f.k.length ≤ maxLen) (hn : L.length < maxLen) :
    ∃ w', (Instr.mapUpdate 54 (.map (some b)) (.string ⟨f.k.toArray⟩) f.v).run Tryd.prog w = .ok () w' ∧ DK w' d b { S with X := withX f.x S.X } (f :: woF f.k L) ∧ Mod (fun i => i = b) w w' := by
  obtain ⟨w', hr', hM, hm⟩ := h.map.store Tryd.underlying9 Tryd.underlying54 (by rw [List.length_map]; exact hn) f.k hk f.v
  rw [without_entD] at hM
  refine ⟨w', hr', ⟨(hm.block d h.plt h.ne).trans h.cell, hM, fun g hg => ?_, fun g hg => ?_, ?_, ?_, withX_srt h.so _⟩, hm⟩
  · rcases List.mem_cons.1 hg with rfl | hg
    · exact hr.kept hm (fun a e => (ha a e).2.1)
    · exact (h.row g hg).kept hm (fun a e => (h.rowAt hg e).2)
  · rcases List.mem_cons.1 hg with rfl | hg
    · exact hs
    · exact h.syn g (List.mem_filter.1 hg).1
  · exact List.pairwise_cons.2 ⟨fun g hg a a' h1 h2 e => (ha a h1).2.2 g hg a' h2 e.symm, h.far.filter _⟩
  · refine List.Perm.trans ?_ (withX_perm f.x S.X).symm
    rw [List.map_cons, wo_x]
    exact (h.pm.filter _).cons _
end
set_option maxRecDepth 20000 in
set_option maxHeartbeats 1000000 in
theorem dkput_any {w : World} {d b : Nat} {S : St} {L : List Fl} (f : Fl) (h : DKx w d b S L f.k) (hr : Rw encY 5 w f.p f.c f.b) (hs : f.s ≤ f.b.length) (ha : ∀ a, f.p = some a → a.block < w.heap.size ∧ a.block ≠ d ∧ a.block ≠ b ∧ ∀ g ∈ woF f.k L, ∀ a', g.p = some a' → a'.block ≠ a.block) (hk : f.k.length ≤ 1000000) (hn : L.length ≤ 1000000) :
    Calls Tryd.prog 41 #[.pointer (some ⟨d, 0, none⟩), .string ⟨f.k.toArray⟩, f.v] w fun e w' => e = .returned (.tuple #[]) ∧ DK w' d b { S with X := withX f.x S.X } (f :: woF f.k L) ∧ Mod (fun i => i = b) w w' := by
  obtain ⟨W0, hW0⟩ : ∃ W0, W0 = w.alloc (.cells #[.slice f.p f.b.length f.c, .int .i64 (f.s : Int)] 63) := ⟨_, rfl⟩
  have hb0 : Below w.heap.size w W0 := by rw [hW0]; exact (Below.refl _ w).alloc (Nat.le_refl _) _
  have HG := Lib.hid (show W0.heap[w.heap.size]? = some (.cells #[.slice f.p f.b.length f.c, .int .i64 (f.s : Int)] 63 (0, 0)) by rw [hW0]; exact heap_alloc_new _ _)
  have h0 := h.old hb0
  have hr0 := hr.old hb0
  have HS : Hid (∀ w', Below W0.heap.size W0 w' → ∃ w2, (Instr.mapUpdate 54 (.map (some b)) (.string ⟨f.k.toArray⟩) (.agg #[.slice f.p f.b.length f.c, .int .i64 (f.s : Int)])).run Tryd.prog w' = .ok () w2 ∧ DK w2 d b { S with X := withX f.x S.X } (f :: woF f.k L) ∧ Mod (fun i => i = b) w' w2) := Lib.hid (by
    intro w' hb
    exact (h0.old hb).put f (hr0.old hb) hs (fun a e => (ha a e).2) (by simp [maxLen]; omega) (by simp [maxLen]; omega))
  have HC1 : Hid (∀ w', Below W0.heap.size W0 w' → w'.cell? ⟨d, 1, none⟩ = some (.map (some b))) := Lib.hid (fun w' hb => (h0.old hb).c1)
  have HSC := Lib.hid (fun w => dsclone_any f.k w hk)
  have HM : Hid (Mod (fun i => i = b) w W0) := Lib.hid ((Mod.of_below hb0).mono (fun i hi h => by omega))
  have HI : Hid ((Tryd.prog.info? 63).map (·.size) = some 2) := Lib.hid (by kernel_rfl)
  unfold Fl.v
  generalize hV : Value.slice f.p f.b.length f.c = V at *
  generalize (f.s : Int) = sy at *
  generalize hKk : f.k = K at HSC HS ⊢
  clear h h0 hr hr0 hs ha hk hn hb0 hV hKk
  go_enter Tryd.func41, Tryd.ntmps41
  go_wp2_with fail
  rw [← hW0]
  clear hW0
  generalize w.heap.size = g at *
  have HG0 : Hid ((fun (j : Nat) (_ : Value) (w' : World) => (j = 0 → Below W0.heap.size W0 w') ∧ (j = 1 → DK w' d b { S with X := withX f.x S.X } (f :: woF K L) ∧ Mod (fun i => i = b) W0 w')) 0 undef W0.drew) := Lib.hid ⟨(fun _ => (Below.refl _ W0).drew), (fun h => absurd h (by omega))⟩
  refine wp_region_chain (fun t v => match t with
    | 6 => v = .pointer (some ⟨d, 0, none⟩)
    | 7 => v = .pointer (some ⟨d, 0, none⟩)
    | 8 => v = .pointer (some ⟨d, 1, none⟩)
    | 9 => v = .map (some b)
    | 10 => v = .string ⟨K.toArray⟩
    | 11 => v = .string ⟨K.toArray⟩
    | 12 => v = .agg #[V, .int .i64 sy]
    | _ => True) (fun (j : Nat) (_ : Value) (w' : World) => (j = 0 → Below W0.heap.size W0 w') ∧ (j = 1 → DK w' d b { S with X := withX f.x S.X } (f :: woF K L) ∧ Mod (fun i => i = b) W0 w')) [7] 13 (by kernel_rfl) (by decide +kernel) rfl (by decide +kernel) (by decide) (by decide) HG0.out (by
    refine OweAllC.cons (owesC_val 0 (by decide +kernel) (by decide) rfl rfl fun k' a w1 x hk ha hG hV => ?_) ?_
    · skip
      have h0 := ha.outer 0 (by decide +kernel)
      simp only [Act.eval] at h0
      exact ⟨.pointer (some ⟨d, 0, none⟩), wanted_free rfl, by simp [execOp, go_sem, h0], rfl⟩
    refine OweAllC.cons (owesC_val 0 (by decide +kernel) (by decide) rfl rfl fun k' a w1 x hk ha hG hV => ?_) ?_
    · skip
      have h6 : a.tmps.getD 6 undef = .pointer (some ⟨d, 0, none⟩) := hV.get 6 (by decide +kernel)
      exact ⟨.pointer (some ⟨d, 0, none⟩), wanted_free rfl, by simp [execOp, go_sem, h6], rfl⟩
    refine OweAllC.cons (owesC_val 0 (by decide +kernel) (by decide) rfl rfl fun k' a w1 x hk ha hG hV => ?_) ?_
    · skip
      have h7 : a.tmps.getD 7 undef = .pointer (some ⟨d, 0, none⟩) := hV.get 7 (by decide +kernel)
      exact ⟨.pointer (some ⟨d, 1, none⟩), wanted_free rfl, by simp [execOp, go_sem, h7], rfl⟩
    refine OweAllC.cons (owesC_val 0 (by decide +kernel) (by decide) rfl rfl fun k' a w1 x hk ha hG hV => ?_) ?_
    · skip
      have h8 : a.tmps.getD 8 undef = .pointer (some ⟨d, 1, none⟩) := hV.get 8 (by decide +kernel)
      have hb := hG.1 (by omega)
      have cc := HC1.out w1 hb
      exact ⟨.map (some b), wanted_free rfl, by simp [execOp, go_sem, h8, cc], rfl⟩
    refine OweAllC.cons (owesC_val 0 (by decide +kernel) (by decide) rfl rfl fun k' a w1 x hk ha hG hV => ?_) ?_
    · skip
      have h1 := ha.outer 1 (by decide +kernel)
      simp only [Act.eval] at h1
      exact ⟨.string ⟨K.toArray⟩, wanted_free rfl, by simp [execOp, go_sem, h1], rfl⟩
    refine OweAllC.cons (owesC_side 0 (by decide +kernel) (by decide) rfl rfl 63 fun k' a w1 x hk ha hG hV => ?_) ?_
    · skip
      have h10 : a.tmps.getD 10 undef = .string ⟨K.toArray⟩ := hV.get 10 (by decide +kernel)
      refine ⟨#[.string ⟨K.toArray⟩], wanted_free rfl, by simp [execOp, resolve, invoke, go_sem, h10], ?_⟩
      refine (HSC.out w1).mono ?_
      rintro r' u2 ⟨rfl, hb2⟩; exact ⟨_, rfl, rfl, (fun h => (hG.1 h).trans (hb2.mono (hG.1 h).size)), (fun h => absurd h (by omega))⟩
    refine OweAllC.cons (owesC_val 0 (by decide +kernel) (by decide) rfl rfl fun k' a w1 x hk ha hG hV => ?_) ?_
    · skip
      have h5 := ha.outer 5 (by decide +kernel)
      simp only [Act.eval] at h5
      have hb := hG.1 (by omega)
      have hh : w1.heap[g]? = some (.cells #[V, .int .i64 sy] 63 (0, 0)) := (hb.block g (Array.getElem?_eq_some_iff.1 HG.out).1).trans HG.out
      exact ⟨.agg #[V, .int .i64 sy], wanted_free rfl, exec_load_row 63 (.tmp 5) rfl g h5 63 #[V, .int .i64 sy] (0, 0) _ hh Tryd.underlying63 rfl HI.out, rfl⟩
    refine OweAllC.cons (owesC_store 0 rfl rfl rfl fun a w1 x ha hG hx hV => ?_) ?_
    · skip
      have h9 : a.tmps.getD 9 undef = .map (some b) := hV.get 9 (by decide +kernel)
      have h11 : a.tmps.getD 11 undef = .string ⟨K.toArray⟩ := hV.get 11 (by decide +kernel)
      have h12 : a.tmps.getD 12 undef = .agg #[V, .int .i64 sy] := hV.get 12 (by decide +kernel)
      have hb := hG.1 (by omega)
      obtain ⟨w2, hr, hm, hmd⟩ := HS.out w1 hb
      refine ⟨w2, wanted_free rfl, by simp [execOp, go_sem, h9, h11, h12, hr], (fun h => absurd h (by omega)), fun _ => ⟨hm, ?_⟩⟩
      exact ((Mod.of_below hb).mono (fun i hi h => by omega)).trans hmd (fun _ _ h => h)
    exact OweAllC.nil
    ) ?_
  intro f wz xz hG hx hv
  clear hv hx
  have HE := Lib.hid (hG.2 rfl)
  clear hG
  go_end0
  exact ⟨rfl, HE.out.1, HM.out.trans HE.out.2 (fun _ _ h => h)⟩
end Go.Proofs.YtippakeemfldfaaDoor

namespace Go.Proofs.YtippakeemfldfaaDoor
open Go.RowKit

def lfX (lf : Int) : Int := if lf = -1 then -1 else lf - 1
/-- What a deed answers, and leaves, where what is wrong is told; X': its files, if it is done. -/
def dedR (S : St) (wr : Int) : Int := if S.dn then 6 else if wr ≠ 0 then wr else if S.lf = 0 then 6 else 0
def dedS (S : St) (wr : Int) (X' : List FX) : St := if S.dn then S else if wr ≠ 0 then S else if S.lf = 0 then { S with dn := true } else ⟨S.rm, S.dd + 1, lfX S.lf, S.dn, X'⟩
theorem DA.setF {w : World} {d : Nat} {S S' : St} {F : Nat → Prop} (h : DA w d S F) (j : Nat) (v : Value) (hc : ∀ b, (stCells S b).setIfInBounds j v = stCells S' b) (hX : S'.X = S.X) :
    DA (w.setCell ⟨d, j, none⟩ v) d S' F ∧ Mod F w (w.setCell ⟨d, j, none⟩ v) := by
  obtain ⟨b, L, h, hF, hl⟩ := h
  exact DA.setC h hF hl j v (hc b) hX
theorem DA.cells {w : World} {d : Nat} {S : St} {F : Nat → Prop} (h : DA w d S F) : w.cell? ⟨d, 2, none⟩ = some (.int .i64 S.dd) ∧ w.cell? ⟨d, 3, none⟩ = some (.int .i64 S.lf) ∧ w.cell? ⟨d, 4, none⟩ = some (.bool S.dn) ∧ w.cell? ⟨d, 0, none⟩ = some (.int .i64 S.rm) ∧ ∀ j, w.frozen? ⟨d, j, none⟩ = false := by
  obtain ⟨b, L, h, hF, hl⟩ := h
  exact ⟨h.c2, h.c3, h.c4, h.c0, h.fr⟩
set_option maxRecDepth 20000 in
set_option maxHeartbeats 1000000 in
theorem dkdeed_any {w : World} {d : Nat} {S : St} {F : Nat → Prop} (h : DA w d S F) (wr : Int) (fn : FuncId) (caps : Array Value) (X' : List FX) (hd0 : 0 ≤ S.dd) (hd1 : S.dd ≤ 1000000000000) (hl0 : -1 ≤ S.lf) (hl1 : S.lf ≤ 9223372036854775807)
    (he : ∀ w, (callFunc fn caps).run Tryd.prog w = .ok (.enter fn caps) w)
    (hC : S.dn = false → wr = 0 → ∀ w1 lf', DA w1 d { S with lf := lf' } F → Mod (fun i => i = d) w w1 → Calls Tryd.prog fn caps w1 fun e w2 => e = .returned (.tuple #[]) ∧ Eff w1 w2 d { S with lf := lf', X := X' } F) :
    Calls Tryd.prog 46 #[.pointer (some ⟨d, 0, none⟩), .int .i64 wr, .func (.func fn) #[] caps] w fun e w' => e = .returned (.int .i64 (dedR S wr)) ∧ Eff w w' d (dedS S wr X') F := by
  obtain ⟨rm, dd, lf, dn, X⟩ := S
  obtain ⟨c2, c3, c4, c0, fr⟩ := h.cells
  have f3 := fr 3
  have f2 := fr 2
  have f4 := fr 4
  simp only at *
  have HH := Lib.hid h
  unfold dedR dedS
  simp only
  cases dn with
  | true =>
    have HE := Lib.hid (Eff.of h (Mod.refl F w))
    clear hC h fr c0
    go_enter Tryd.func46, Tryd.ntmps46
    go_wp2_with fail
    go_ret
    exact ⟨rfl, HE.out⟩
  | false =>
    by_cases hw : wr = 0
    · subst hw
      have hC := hC rfl rfl
      by_cases hlf : lf = 0
      · subst hlf
        have hs := h.setF (S' := ⟨rm, dd, 0, true, X⟩) 4 (.bool true) (fun _ => rfl) rfl
        have HE := Lib.hid (Eff.of hs.1 hs.2)
        clear hC h hs fr c0
        go_enter Tryd.func46, Tryd.ntmps46
        go_wp2_with fail
        go_ret
        exact ⟨rfl, HE.out⟩
      · have b0 : (lf == 0) = false := by simpa using hlf
        by_cases hlm : lf = -1
        · subst hlm
          have HC := Lib.hid (hC w (-1) h (Mod.refl _ _))
          clear hC h fr c0 hlf
          go_enter Tryd.func46, Tryd.ntmps46
          go_wp2_with fail
          refine HC.out.mono ?_
          rintro r w1 ⟨rfl, hE⟩
          obtain ⟨F', hA, hF', hm⟩ := hE
          obtain ⟨k2, _, _, _, kf⟩ := hA.cells
          have kf2 := kf 2
          simp only at k2
          have hs := hA.setF (S' := ⟨rm, dd + 1, -1, false, X'⟩) 2 (.int .i64 (dd + 1)) (fun _ => rfl) rfl
          have HE := Lib.hid (show Eff w (w1.setCell ⟨d, 2, none⟩ (.int .i64 (dd + 1))) d ⟨rm, dd + 1, -1, false, X'⟩ F from ⟨F', hs.1, hF', hm.trans hs.2 (fun i hi h => (hF' i h).elim id (fun h' => by omega))⟩)
          have hwr : IntKind.i64.wrap (dd + 1) = dd + 1 := by rw [IntKind.wrap_i64]; omega
          clear hA hF' hm kf hs c2 c3 c4 f2 f3 f4
          go_wp2_with fail
          go_ret
          exact ⟨rfl, HE.out⟩
        · have bm : (lf == -1) = false := by simpa using hlm
          have hs := h.setF (S' := ⟨rm, dd, lf - 1, false, X⟩) 3 (.int .i64 (lf - 1)) (fun _ => rfl) rfl
          have HC := Lib.hid (hC _ (lf - 1) hs.1 ((Mod.refl (fun i => i = d) w).setCell (fun _ => rfl) _))
          have HM := Lib.hid hs.2
          have hwl : IntKind.i64.wrap (lf - 1) = lf - 1 := by rw [IntKind.wrap_i64]; omega
          have HX : Hid (lfX lf = lf - 1) := Lib.hid (by unfold lfX; rw [if_neg hlm])
          clear hC h hs fr c0 hlm
          rw [HX.out]
          clear HX
          simp only [Bool.false_eq_true, if_false, ne_eq, not_true_eq_false, hlf]
          clear hlf
          go_enter Tryd.func46, Tryd.ntmps46
          go_wp2_with fail
          refine HC.out.mono ?_
          rintro r w1 ⟨rfl, hE⟩
          obtain ⟨F', hA, hF', hm⟩ := Eff.trans HM.out hE
          obtain ⟨k2, _, _, _, kf⟩ := hA.cells
          have kf2 := kf 2
          simp only at k2
          have hs := hA.setF (S' := ⟨rm, dd + 1, lf - 1, false, X'⟩) 2 (.int .i64 (dd + 1)) (fun _ => rfl) rfl
          have HE := Lib.hid (show Eff w (w1.setCell ⟨d, 2, none⟩ (.int .i64 (dd + 1))) d ⟨rm, dd + 1, lf - 1, false, X'⟩ F from ⟨F', hs.1, hF', hm.trans hs.2 (fun i hi h => (hF' i h).elim id (fun h' => by omega))⟩)
          have hwr : IntKind.i64.wrap (dd + 1) = dd + 1 := by rw [IntKind.wrap_i64]; omega
          clear hA hF' hm kf hs c2 c3 c4 f2 f3 f4 hE HC HM
          go_wp2_with fail
          go_ret
          exact ⟨rfl, HE.out⟩
    · have b0 : (wr == 0) = false := by simpa using hw
      have HE := Lib.hid (Eff.of h (Mod.refl F w))
      clear hC h fr c0
      go_enter Tryd.func46, Tryd.ntmps46
      go_wp2_with fail
      go_ret
      exact ⟨by simp [hw], by simpa [hw] using HE.out⟩
end Go.Proofs.YtippakeemfldfaaDoor
