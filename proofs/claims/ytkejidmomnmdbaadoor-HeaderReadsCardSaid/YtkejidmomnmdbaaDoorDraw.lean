/- A region that draws its order, by what each operation leaves in its slot: one obligation for each operation. -/
import Derived.Orders
import Derived.Tactics
namespace Go.Proofs.YtkejidmomnmdbaaDoor
open Go

/-- How many of the first n are not listed yet. -/
def unl (L : Array Bool) : Nat → Nat
  | 0 => 0
  | n + 1 => unl L n + (if L.getD n true then 0 else 1)
theorem unl_le (L : Array Bool) : ∀ n, unl L n ≤ n
  | 0 => Nat.le_refl _
  | n + 1 => by have := unl_le L n; simp only [unl]; split <;> omega
theorem set_self (L : Array Bool) (i : Nat) : (L.setIfInBounds i true).getD i true = true := by
  by_cases h : i < L.size
  · simp [h]
  · simp [Array.getElem?_eq_none (Nat.le_of_not_lt h), h]
theorem unl_set (L : Array Bool) (i : Nat) (hi : L.getD i true = false) : ∀ n, unl (L.setIfInBounds i true) n + (if i < n then 1 else 0) = unl L n
  | 0 => rfl
  | n + 1 => by
    have ih := unl_set L i hi n
    simp only [unl]
    by_cases h : n = i
    · subst h
      rw [set_self, hi]
      simp at ih ⊢
      exact ih
    · rw [getD_set_ne true (Ne.symm h)]
      generalize (if L.getD n true = true then 0 else 1) = z
      by_cases h2 : i < n
      · rw [if_pos h2] at ih; rw [if_pos (by omega)]; omega
      · rw [if_neg h2] at ih; rw [if_neg (by omega)]; omega
theorem unl_pos (L : Array Bool) : ∀ n i, i < n → L.getD i true = false → 0 < unl L n
  | n + 1, i, h, hi => by
    simp only [unl]
    by_cases e : i = n
    · subst e; rw [hi]; simp
    · have := unl_pos L n i (by omega) hi; omega

/-- What is in the slots that the operations know: those of the list. -/
def AllV (V : Tmp → Value → World → Prop) (a : Act) (w : World) : List Tmp → Prop
  | [] => True
  | t :: r => V t (a.eval (.tmp t)) w ∧ AllV V a w r
theorem AllV.of {V : Tmp → Value → World → Prop} {a : Act} {w : World} : ∀ {l : List Tmp}, (∀ t ∈ l, V t (a.eval (.tmp t)) w) → AllV V a w l
  | [], _ => trivial
  | t :: r, h => ⟨h t (by simp), AllV.of (fun u hu => h u (by simp [hu]))⟩

/-- The slots whose values an operation waits for. -/
def waits (md : Region.Mode) (ops : Array Oper) (o : Oper) : List Tmp :=
  (o.after.toList.filter (Region.binds md)).filterMap fun e => (ops[e.on]?).bind (·.dst)

structure Agree (ops : Array Oper) (a0 a : Act) : Prop where
  size : a.tmps.size = a0.tmps.size
  defers : a.defers = a0.defers
  same : ∀ t, (∀ (i : Nat) (o : Oper), ops[i]? = some o → o.dst ≠ some t) → a.eval (.tmp t) = a0.eval (.tmp t)

def drawOk (ops : Array Oper) (N : Nat) : Bool :=
  (List.range ops.size).all fun i => match ops[i]? with
    | none => true
    | some o => o.after.all (fun e => decide (e.on < i)) && (match o.dst with
      | none => true
      | some d => decide (d < N) && (List.range ops.size).all fun j => j == i || (match ops[j]? with | some p => p.dst != some d | none => true))

structure DrawOk (ops : Array Oper) (N : Nat) : Prop where
  before : ∀ (i : Nat) (o : Oper), ops[i]? = some o → ∀ e ∈ o.after, e.on < i
  room : ∀ (i : Nat) (o : Oper) (d : Tmp), ops[i]? = some o → o.dst = some d → d < N
  apart : ∀ (i j : Nat) (o p : Oper) (d : Tmp), ops[i]? = some o → ops[j]? = some p → j ≠ i → o.dst = some d → p.dst ≠ some d
theorem drawOk_spec {ops : Array Oper} {N : Nat} (h : drawOk ops N = true) : DrawOk ops N := by
  have key : ∀ (i : Nat) (o : Oper), ops[i]? = some o → o.after.all (fun e => decide (e.on < i)) = true ∧ (match o.dst with
      | none => true
      | some d => decide (d < N) && (List.range ops.size).all fun j => j == i || (match ops[j]? with | some p => p.dst != some d | none => true)) = true := by
    intro i o ho
    have hlt : i < ops.size := (Array.getElem?_eq_some_iff.1 ho).1
    have := List.all_eq_true.1 h i (List.mem_range.2 hlt)
    simp only [ho, Bool.and_eq_true] at this
    exact this
  refine ⟨fun i o ho e he => ?_, fun i o d ho hd => ?_, fun i j o p d ho hp hj hd hpd => ?_⟩
  · have := Array.all_eq_true_iff_forall_mem.1 (key i o ho).1 e he
    exact of_decide_eq_true this
  · have := (key i o ho).2
    rw [hd] at this
    simp only [Bool.and_eq_true] at this
    exact of_decide_eq_true this.1
  · have := (key i o ho).2
    rw [hd] at this
    simp only [Bool.and_eq_true] at this
    have h2 := List.all_eq_true.1 this.2 j (List.mem_range.2 (Array.getElem?_eq_some_iff.1 hp).1)
    simp only [hp, Bool.or_eq_true, beq_iff_eq, hj, false_or, bne_iff_ne, ne_eq] at h2
    exact h2 hpd

/-- What one operation owes. -/
def Owes (P : Program) (md : Region.Mode) (ops : Array Oper) (Q : Exit → Act → World → Prop) (V : Tmp → Value → World → Prop) (G : World → Prop) (a0 : Act) (i : Nat) (o : Oper) : Prop :=
  ∀ a w, Agree ops a0 a → G w → AllV V a w (waits md ops o) →
    wpOp P ops Q i (fun a' w' => ∃ v, a' = a.put o.dst v ∧ (∀ t, o.dst = some t → V t v w') ∧ G w' ∧ ∀ t x, V t x w → V t x w') a w

theorem eval_put_same {a : Act} {d : Tmp} (h : d < a.tmps.size) (v : Value) : (a.put (some d) v).eval (.tmp d) = v := by
  simp [Act.put, Act.eval, h]
theorem size_put (a : Act) (d : Option Tmp) (v : Value) : (a.put d v).tmps.size = a.tmps.size := by
  cases d <;> simp [Act.put]
theorem defers_put (a : Act) (d : Option Tmp) (v : Value) : (a.put d v).defers = a.defers := by
  cases d <;> rfl

section
variable {P : Program} {ops : Array Oper} {Q : Exit → Act → World → Prop} {md : Region.Mode} {V : Tmp → Value → World → Prop} {G : World → Prop} {a0 : Act}

theorem ready_some (hok : DrawOk ops a0.tmps.size) {L : Array Bool} (hL : L.size = ops.size) : ∀ i, i < ops.size → L.getD i true = false → ∃ j, j ∈ Region.ready md ops L := by
  intro i
  induction i using Nat.strongRecOn with
  | ind i ih =>
    intro hi hun
    have ho : ops[i]? = some ops[i] := Array.getElem?_eq_getElem hi
    by_cases h : ∀ e ∈ ops[i].after, Region.binds md e = true → L.getD e.on false = true
    · exact ⟨i, mem_ready.2 ⟨hun, _, ho, h⟩⟩
    · have ⟨e, he⟩ := Classical.not_forall.1 h
      have ⟨he1, he2⟩ := Classical.not_imp.1 he
      have ⟨hb, hf⟩ := Classical.not_imp.1 he2
      have hlt := hok.before i _ ho e he1
      have hel : e.on < L.size := by omega
      refine ih e.on hlt (by omega) ?_
      simp [hel] at hf ⊢
      exact hf

theorem wpAny_vals (hok : DrawOk ops a0.tmps.size) (step : ∀ (i : Nat) (o : Oper), ops[i]? = some o → Owes P md ops Q V G a0 i o)
    (fin : ∀ a w, Agree ops a0 a → G w → (∀ (i : Nat) (o : Oper) (t : Tmp), ops[i]? = some o → o.dst = some t → V t (a.eval (.tmp t)) w) → Q .normal a w) :
    ∀ (fuel : Nat) (L : Array Bool) (a : Act) (w : World), unl L ops.size ≤ fuel → L.size = ops.size → Agree ops a0 a → G w →
      (∀ (i : Nat) (o : Oper) (t : Tmp), ops[i]? = some o → L.getD i true = true → o.dst = some t → V t (a.eval (.tmp t)) w) → wpAny P md ops Q fuel L a w := by
  have allL : ∀ L : Array Bool, L.size = ops.size → Region.ready md ops L = [] → ∀ (i : Nat) (o : Oper), ops[i]? = some o → L.getD i true = true := by
    intro L hL hr i o ho
    cases hc : L.getD i true with
    | true => rfl
    | false =>
      obtain ⟨j, hj⟩ := ready_some (md := md) hok hL i (Array.getElem?_eq_some_iff.1 ho).1 hc
      rw [hr] at hj; cases hj
  intro fuel
  induction fuel with
  | zero =>
    intro L a w hu hL ha hG hv
    have hr : Region.ready md ops L = [] := by
      apply List.eq_nil_iff_forall_not_mem.2
      intro j hj
      obtain ⟨hun, o, ho, _⟩ := mem_ready.1 hj
      have := unl_pos L ops.size j (Array.getElem?_eq_some_iff.1 ho).1 hun
      omega
    exact ⟨hr, fin a w ha hG (fun i o t ho ht => hv i o t ho (allL L hL hr i o ho) ht)⟩
  | succ fuel ih =>
    intro L a w hu hL ha hG hv
    refine ⟨fun hr => fin a w ha hG (fun i o t ho ht => hv i o t ho (allL L hL hr i o ho) ht), fun i hi => ?_⟩
    obtain ⟨hun, o, ho, hall⟩ := mem_ready.1 hi
    have hil : i < ops.size := (Array.getElem?_eq_some_iff.1 ho).1
    have hw : AllV V a w (waits md ops o) := AllV.of (by
      intro t ht
      unfold waits at ht
      obtain ⟨e, he, hd⟩ := List.mem_filterMap.1 ht
      obtain ⟨he1, he2⟩ := List.mem_filter.1 he
      cases hj : ops[e.on]? with
      | none => rw [hj] at hd; cases hd
      | some p =>
        rw [hj] at hd
        have hl := hall e (by simpa using he1) he2
        have hel : e.on < L.size := by rw [hL]; exact (Array.getElem?_eq_some_iff.1 hj).1
        exact hv e.on p t hj (by simp [hel] at hl ⊢; exact hl) hd)
    refine wpOp_mono (fun a' w' h => ?_) (step i o ho a w ha hG hw)
    obtain ⟨v, rfl, hvi, hG', hst⟩ := h
    refine ih _ _ _ ?_ (by simpa using hL) ?_ hG' ?_
    · have := unl_set L i hun ops.size
      rw [if_pos hil] at this; omega
    · refine ⟨by rw [size_put]; exact ha.size, by rw [defers_put]; exact ha.defers, fun t ht => ?_⟩
      rw [Act.eval_put (fun d hd e => ht i o ho (by cases e; exact hd))]
      exact ha.same t ht
    · intro j p t hp hl ht
      by_cases e : j = i
      · subst e
        rw [ho] at hp; cases hp
        rw [ht, eval_put_same (by rw [ha.size]; exact hok.room j o t ho ht)]
        exact hvi t ht
      · rw [Act.eval_put (fun d hd e2 => by cases e2; exact hok.apart i j o p t ho hp e hd ht)]
        rw [getD_set_ne true (Ne.symm e)] at hl
        exact hst _ _ (hv j p t hp hl ht)

/-- The obligations one after the other. -/
def OweAll (P : Program) (md : Region.Mode) (ops : Array Oper) (Q : Exit → Act → World → Prop) (V : Tmp → Value → World → Prop) (G : World → Prop) (a0 : Act) : Nat → List Oper → Prop
  | _, [] => True
  | k, o :: r => Owes P md ops Q V G a0 k o ∧ OweAll P md ops Q V G a0 (k + 1) r
theorem OweAll.get : ∀ {l : List Oper} {k : Nat}, OweAll P md ops Q V G a0 k l → ∀ (i : Nat) (o : Oper), l[i]? = some o → Owes P md ops Q V G a0 (k + i) o
  | _ :: _, k, h, 0, o, hi => by cases hi; exact h.1
  | _ :: r, k, h, i + 1, o, hi => by
    have := OweAll.get h.2 i o (by simpa using hi)
    rwa [show k + 1 + i = k + (i + 1) by omega] at this
  | [], _, _, i, o, hi => by simp at hi
theorem OweAll.cons {k : Nat} {o : Oper} {r : List Oper} (h : Owes P md ops Q V G a0 k o) (h2 : OweAll P md ops Q V G a0 (k + 1) r) : OweAll P md ops Q V G a0 k (o :: r) := ⟨h, h2⟩
theorem OweAll.nil {k : Nat} : OweAll P md ops Q V G a0 k [] := trivial

/-- A region that draws its order. -/
theorem wp_region_vals {id : Nat} {w : World} (V : Tmp → Value → World → Prop) (G : World → Prop) (N : Nat) (hm : P.follows .mixedOrders = true) (hok : drawOk ops N = true) (hN : a0.tmps.size = N) (hG : G w.drew)
    (step : OweAll P .any ops Q V G a0 0 ops.toList)
    (fin : ∀ a w, Agree ops a0 a → G w → (∀ (i : Nat) (o : Oper) (t : Tmp), ops[i]? = some o → o.dst = some t → V t (a.eval (.tmp t)) w) → Q .normal a w) : (Code.region id ops true).wp P Q a0 w := by
  subst hN
  have hok := drawOk_spec hok
  refine wp_region_any hm (wpAny_vals hok (V := V) (G := G) (fun i o ho => ?_) fin ops.size _ a0 _ (unl_le _ _) (by simp) ⟨rfl, rfl, fun _ _ => rfl⟩ hG ?_)
  · have := step.get i o (by simpa using ho)
    rwa [Nat.zero_add] at this
  · intro i o t ho hl _
    have hlt := (Array.getElem?_eq_some_iff.1 ho).1
    simp [hlt] at hl

/-- The slots of the operations. -/
def dsts (ops : Array Oper) : List Tmp := ops.toList.filterMap (·.dst)
def puts (f : Tmp → Value) (l : List Tmp) (b : Act) : Act := l.foldl (fun b t => b.put (some t) (f t)) b
theorem puts_spec (f : Tmp → Value) : ∀ (l : List Tmp) (b : Act), (∀ t ∈ l, t < b.tmps.size) →
    (puts f l b).tmps.size = b.tmps.size ∧ (puts f l b).defers = b.defers ∧ ∀ t, (puts f l b).eval (.tmp t) = if t ∈ l then f t else b.eval (.tmp t)
  | [], b, _ => ⟨rfl, rfl, fun t => by simp [puts]⟩
  | u :: r, b, h => by
    have ih := puts_spec f r (b.put (some u) (f u)) (fun t ht => by rw [size_put]; exact h t (by simp [ht]))
    refine ⟨ih.1.trans (size_put _ _ _), ih.2.1.trans (defers_put _ _ _), fun t => ?_⟩
    have e : puts f (u :: r) b = puts f r (b.put (some u) (f u)) := rfl
    rw [e, ih.2.2 t]
    by_cases h1 : t ∈ r
    · rw [if_pos h1, if_pos (by simp [h1])]
    · rw [if_neg h1]
      by_cases h2 : t = u
      · subst h2; rw [eval_put_same (h t (by simp)), if_pos (by simp)]
      · rw [Act.eval_put (fun d hd e2 => by cases hd; cases e2; exact h2 rfl), if_neg (by simp [h1, h2])]
theorem act_ext {a b : Act} (hs : a.tmps.size = b.tmps.size) (hd : a.defers = b.defers) (h : ∀ t, a.eval (.tmp t) = b.eval (.tmp t)) : a = b := by
  obtain ⟨ta, da⟩ := a
  obtain ⟨tb, db⟩ := b
  have : ta = tb := by
    apply Array.ext hs
    intro i h1 h2
    have := h i
    simpa [Act.eval, h1, h2] using this
  subst this
  cases hd
  rfl
theorem Agree.puts {a : Act} (ha : Agree ops a0 a) (hok : DrawOk ops a0.tmps.size) : a = puts (fun t => a.eval (.tmp t)) (dsts ops) a0 := by
  have hm : ∀ t ∈ dsts ops, ∃ (i : Nat) (o : Oper), ops[i]? = some o ∧ o.dst = some t := by
    intro t ht
    obtain ⟨o, ho, hd⟩ := List.mem_filterMap.1 ht
    obtain ⟨i, hi, e⟩ := List.getElem_of_mem ho
    refine ⟨i, o, ?_, hd⟩
    rw [← e]
    simp at hi
    simp [hi]
  have hp := puts_spec (fun t => a.eval (.tmp t)) (dsts ops) a0 (fun t ht => by obtain ⟨i, o, hi, hd⟩ := hm t ht; exact hok.room i o t hi hd)
  refine act_ext (ha.size.trans hp.1.symm) (ha.defers.trans hp.2.1.symm) (fun t => ?_)
  rw [hp.2.2 t]
  by_cases h : t ∈ dsts ops
  · rw [if_pos h]
  · rw [if_neg h]
    refine ha.same t (fun i o hi hd => h ?_)
    exact List.mem_filterMap.2 ⟨o, by simpa using Array.mem_of_getElem? hi, hd⟩

/-- A region that draws its order, what follows it at a known frame. -/
theorem wp_region_puts {id : Nat} {w : World} (V : Tmp → Value → World → Prop) (G : World → Prop) (N : Nat) (hm : P.follows .mixedOrders = true) (hok : drawOk ops N = true) (hN : a0.tmps.size = N) (hG : G w.drew)
    (step : OweAll P .any ops Q V G a0 0 ops.toList)
    (fin : ∀ f w, G w → (∀ (i : Nat) (o : Oper) (t : Tmp), ops[i]? = some o → o.dst = some t → V t (f t) w) → Q .normal (puts f (dsts ops) a0) w) : (Code.region id ops true).wp P Q a0 w :=
  wp_region_vals V G N hm hok hN hG step (fun a w ha hG hv => by
    subst hN
    rw [ha.puts (drawOk_spec hok)]
    exact fin _ w hG hv)

theorem AllV.get {a : Act} {w : World} : ∀ {l : List Tmp}, AllV V a w l → ∀ t, l.contains t = true → V t (a.eval (.tmp t)) w
  | [], _, t, h => by simp at h
  | u :: r, hh, t, h => by
    by_cases e : t = u
    · subst e; exact hh.1
    · exact AllV.get hh.2 t (by simpa [e] using h)
theorem Agree.outer {a : Act} (h : Agree ops a0 a) (t : Tmp) (ht : ops.all (fun o => o.dst != some t) = true) : a.eval (.tmp t) = a0.eval (.tmp t) := by
  refine h.same t (fun i o ho e => ?_)
  have := Array.all_eq_true_iff_forall_mem.1 ht o (Array.mem_of_getElem? ho)
  rw [e] at this; simp at this
theorem getD_bool {a : Act} {t : Tmp} {b : Bool} (h : a.eval (.tmp t) = .bool b) : a.tmps[t]? = some (.bool b) := by
  unfold Act.eval at h
  cases hc : a.tmps[t]? with
  | none => simp [hc, undef] at h
  | some x => simp [hc] at h; rw [h]
theorem wanted_of {o : Oper} {a : Act} {g : Nat} {want : Bool} {t : Tmp} (hg : o.guard = some (g, want)) (hd : (ops[g]?).bind (·.dst) = some t) (h : a.eval (.tmp t) = .bool want) : Region.wanted o (yielded ops a.tmps) = true := by
  unfold Region.wanted yielded
  rw [hg]
  simp only [hd, Option.bind_some, getD_bool h]
  simp
theorem wanted_free {o : Oper} {a : Act} (hg : o.guard = none) : Region.wanted o (yielded ops a.tmps) = true := by
  unfold Region.wanted; rw [hg]

/-- An operation that yields a value and turns nothing. -/
theorem owes_val {i : Nat} {o : Oper} {t : Tmp} (hi : ops[i]? = some o) (ht : o.dst = some t) (h : ∀ a w, Agree ops a0 a → G w → AllV V a w (waits md ops o) →
    ∃ v, Region.wanted o (yielded ops a.tmps) = true ∧ (execOp a.eval o).run P w = .ok (.value v) w ∧ V t v w) : Owes P md ops Q V G a0 i o := by
  intro a w ha hG hV
  obtain ⟨v, hw, hr, hv⟩ := h a w ha hG hV
  unfold wpOp
  rw [hi]
  simp only [hw, if_true, Oper.wp, hr, Oper.upon]
  exact .inl ⟨v, rfl, fun u hu => by rw [ht] at hu; cases hu; exact hv, hG, fun _ _ h => h⟩
/-- A call. -/
theorem owes_call {i : Nat} {o : Oper} {t : Tmp} (hi : ops[i]? = some o) (ht : o.dst = some t) (f : FuncId) (h : ∀ a w, Agree ops a0 a → G w → AllV V a w (waits md ops o) →
    ∃ args, Region.wanted o (yielded ops a.tmps) = true ∧ (execOp a.eval o).run P w = .ok (.enter f args) w ∧
      Calls P f args w fun e w' => ∃ v, e = .returned v ∧ V t v w' ∧ G w' ∧ ∀ t x, V t x w → V t x w') : Owes P md ops Q V G a0 i o := by
  intro a w ha hG hV
  obtain ⟨args, hw, hr, hc⟩ := h a w ha hG hV
  unfold wpOp
  rw [hi]
  simp only [hw, if_true, Oper.wp, hr, Oper.upon]
  refine .inl (hc.mono ?_)
  rintro e w' ⟨v, rfl, h1, h2, h3⟩
  exact ⟨v, rfl, fun u hu => by rw [ht] at hu; cases hu; exact h1, h2, h3⟩
end
end Go.Proofs.YtkejidmomnmdbaaDoor
