/- Texts 5: what the laws lean on. -/
import Derived.Test.YtjjkobbajbbgdaaGreatDoorZ2
import Derived.Test.YtjjkobbajbbgdaaGreatDoorZ4
import Derived.Test.YtjjkobbajbbgdaaGreatDoorShelf
import Derived.Great.FillDense
import Derived.Sort.KeysCollected
import Derived.Recover
namespace Go.Proofs.YtjjkobbajbbgdaaGreatDoor
open Go

def waitsI (md : Region.Mode) (o : Oper) : List Nat := (o.after.toList.filter (Region.binds md)).map (·.on)
def AllU {Γ : Type} (U : Nat → Γ → World → Prop) (γ : Γ) (w : World) (l : List Nat) : Prop := ∀ j, l.contains j = true → U j γ w

/-- As drawOk, of the edges that bind. -/
def drawOk2 (md : Region.Mode) (ops : Array Oper) (N : Nat) : Bool :=
  (List.range ops.size).all fun i => match ops[i]? with
    | none => true
    | some o => o.after.all (fun e => !Region.binds md e || decide (e.on < i)) && (match o.dst with
      | none => true
      | some d => decide (d < N) && (List.range ops.size).all fun j => j == i || (match ops[j]? with | some p => p.dst != some d | none => true))
structure DrawOk2 (md : Region.Mode) (ops : Array Oper) (N : Nat) : Prop where
  before : ∀ (i : Nat) (o : Oper), ops[i]? = some o → ∀ e ∈ o.after, Region.binds md e = true → e.on < i
  room : ∀ (i : Nat) (o : Oper) (d : Tmp), ops[i]? = some o → o.dst = some d → d < N
  apart : ∀ (i j : Nat) (o p : Oper) (d : Tmp), ops[i]? = some o → ops[j]? = some p → j ≠ i → o.dst = some d → p.dst ≠ some d
theorem drawOk2_spec {md : Region.Mode} {ops : Array Oper} {N : Nat} (h : drawOk2 md ops N = true) : DrawOk2 md ops N := by
  have key : ∀ (i : Nat) (o : Oper), ops[i]? = some o → o.after.all (fun e => !Region.binds md e || decide (e.on < i)) = true ∧ (match o.dst with
      | none => true
      | some d => decide (d < N) && (List.range ops.size).all fun j => j == i || (match ops[j]? with | some p => p.dst != some d | none => true)) = true := by
    intro i o ho
    have hlt : i < ops.size := (Array.getElem?_eq_some_iff.1 ho).1
    have := List.all_eq_true.1 h i (List.mem_range.2 hlt)
    simp only [ho, Bool.and_eq_true] at this
    exact this
  refine ⟨fun i o ho e he hb => ?_, fun i o d ho hd => ?_, fun i j o p d ho hp hj hd hpd => ?_⟩
  · have := Array.all_eq_true_iff_forall_mem.1 (key i o ho).1 e he
    rw [hb] at this
    simpa using this
  · have := (key i o ho).2
    rw [hd] at this
    simp only [Bool.and_eq_true] at this
    exact of_decide_eq_true this.1
  · have := (key i o ho).2
    rw [hd] at this
    simp only [Bool.and_eq_true] at this
    have h2 := List.all_eq_true.1 this.2 j (List.mem_range.2 (Array.getElem?_eq_some_iff.1 hp).1)
    simp only [hp, Bool.or_eq_true, beq_iff_eq, hj, false_or, bne_iff_ne, ne_eq] at h2
    exact h2 hpd
theorem ready_some2 {ops : Array Oper} {md : Region.Mode} {N : Nat} (hok : DrawOk2 md ops N) {L : Array Bool} (hL : L.size = ops.size) : ∀ i, i < ops.size → L.getD i true = false → ∃ j, j ∈ Region.ready md ops L := by
  intro i
  induction i using Nat.strongRecOn with
  | ind i ih =>
    intro hi hun
    have ho : ops[i]? = some ops[i] := Array.getElem?_eq_getElem hi
    by_cases h : ∀ e ∈ ops[i].after, Region.binds md e = true → L.getD e.on false = true
    · exact ⟨i, mem_ready.2 ⟨hun, _, ho, h⟩⟩
    · have ⟨e, he⟩ := Classical.not_forall.1 h
      have ⟨he1, he2⟩ := Classical.not_imp.1 he
      have ⟨hb, hf⟩ := Classical.not_imp.1 he2
      have hlt := hok.before i _ ho e he1 hb
      have hel : e.on < L.size := by omega
      refine ih e.on hlt (by omega) ?_
      simp [hel] at hf ⊢
      exact hf
theorem agree_puts2 {ops : Array Oper} {a0 a : Act} (ha : Agree ops a0 a) (room : ∀ (i : Nat) (o : Oper) (d : Tmp), ops[i]? = some o → o.dst = some d → d < a0.tmps.size) : a = puts (fun t => a.eval (.tmp t)) (dsts ops) a0 := by
  have hm : ∀ t ∈ dsts ops, ∃ (i : Nat) (o : Oper), ops[i]? = some o ∧ o.dst = some t := by
    intro t ht
    obtain ⟨o, ho, hd⟩ := List.mem_filterMap.1 ht
    obtain ⟨i, hi, e⟩ := List.getElem_of_mem ho
    refine ⟨i, o, ?_, hd⟩
    rw [← e]
    simp at hi
    simp [hi]
  have hp := puts_spec (fun t => a.eval (.tmp t)) (dsts ops) a0 (fun t ht => by obtain ⟨i, o, hi, hd⟩ := hm t ht; exact room i o t hi hd)
  refine act_ext (ha.size.trans hp.1.symm) (ha.defers.trans hp.2.1.symm) (fun t => ?_)
  rw [hp.2.2 t]
  by_cases h : t ∈ dsts ops
  · rw [if_pos h]
  · rw [if_neg h]
    refine ha.same t (fun i o hi hd => h ?_)
    exact List.mem_filterMap.2 ⟨o, by simpa using Array.mem_of_getElem? hi, hd⟩

section
variable {P : Program} {ops : Array Oper} {Q : Exit → Act → World → Prop} {md : Region.Mode} {Γ : Type} {V : Tmp → Value → Γ → World → Prop} {U : Nat → Γ → World → Prop} {G : Γ → World → Prop} {a0 : Act}

/-- What one operation owes. -/
def Owes2 (P : Program) (md : Region.Mode) (ops : Array Oper) (Q : Exit → Act → World → Prop) (V : Tmp → Value → Γ → World → Prop) (U : Nat → Γ → World → Prop) (G : Γ → World → Prop) (a0 : Act) (i : Nat) (o : Oper) : Prop :=
  ∀ γ a w, Agree ops a0 a → G γ w → AllV (fun t v w => V t v γ w) a w (waits md ops o) → AllU U γ w (waitsI md o) →
    wpOp P ops Q i (fun a' w' => ∃ v γ', a' = a.put o.dst v ∧ (∀ t, o.dst = some t → V t v γ' w') ∧ U i γ' w' ∧ G γ' w' ∧
      ∀ j p, ops[j]? = some p → j ≠ i → (∀ e ∈ p.after, Region.binds md e = true → e.on ≠ i) → (∀ t x, p.dst = some t → V t x γ w → V t x γ' w') ∧ (U j γ w → U j γ' w')) a w

theorem wpAny_vals2 (hok : DrawOk2 md ops a0.tmps.size) (step : ∀ (i : Nat) (o : Oper), ops[i]? = some o → Owes2 P md ops Q V U G a0 i o)
    (fin : ∀ γ a w, Agree ops a0 a → G γ w → (∀ (i : Nat) (o : Oper) (t : Tmp), ops[i]? = some o → o.dst = some t → V t (a.eval (.tmp t)) γ w) → (∀ (i : Nat) (o : Oper), ops[i]? = some o → U i γ w) → Q .normal a w) :
    ∀ (fuel : Nat) (γ : Γ) (L : Array Bool) (a : Act) (w : World), unl L ops.size ≤ fuel → L.size = ops.size → Agree ops a0 a → G γ w →
      (∀ (j : Nat) (p : Oper), ops[j]? = some p → L.getD j true = true → ∀ e ∈ p.after, Region.binds md e = true → L.getD e.on true = true) →
      (∀ (i : Nat) (o : Oper) (t : Tmp), ops[i]? = some o → L.getD i true = true → o.dst = some t → V t (a.eval (.tmp t)) γ w) →
      (∀ (i : Nat) (o : Oper), ops[i]? = some o → L.getD i true = true → U i γ w) → wpAny P md ops Q fuel L a w := by
  have allL : ∀ L : Array Bool, L.size = ops.size → Region.ready md ops L = [] → ∀ (i : Nat) (o : Oper), ops[i]? = some o → L.getD i true = true := by
    intro L hL hr i o ho
    cases hc : L.getD i true with
    | true => rfl
    | false =>
      obtain ⟨j, hj⟩ := ready_some2 hok hL i (Array.getElem?_eq_some_iff.1 ho).1 hc
      rw [hr] at hj; cases hj
  intro fuel
  induction fuel with
  | zero =>
    intro γ L a w hu hL ha hG _ hv hU
    have hr : Region.ready md ops L = [] := by
      apply List.eq_nil_iff_forall_not_mem.2
      intro j hj
      obtain ⟨hun, o, ho, _⟩ := mem_ready.1 hj
      have := unl_pos L ops.size j (Array.getElem?_eq_some_iff.1 ho).1 hun
      omega
    exact ⟨hr, fin γ a w ha hG (fun i o t ho ht => hv i o t ho (allL L hL hr i o ho) ht) (fun i o ho => hU i o ho (allL L hL hr i o ho))⟩
  | succ fuel ih =>
    intro γ L a w hu hL ha hG hcl hv hU
    refine ⟨fun hr => fin γ a w ha hG (fun i o t ho ht => hv i o t ho (allL L hL hr i o ho) ht) (fun i o ho => hU i o ho (allL L hL hr i o ho)), fun i hi => ?_⟩
    obtain ⟨hun, o, ho, hall⟩ := mem_ready.1 hi
    have hil : i < ops.size := (Array.getElem?_eq_some_iff.1 ho).1
    have up : ∀ k, k < ops.size → L.getD k false = true → L.getD k true = true := by
      intro k hk h
      have hkl : k < L.size := by omega
      simp [hkl] at h ⊢; exact h
    have hw : AllV (fun t v w => V t v γ w) a w (waits md ops o) := AllV.of (by
      intro t ht
      unfold waits at ht
      obtain ⟨e, he, hd⟩ := List.mem_filterMap.1 ht
      obtain ⟨he1, he2⟩ := List.mem_filter.1 he
      cases hj : ops[e.on]? with
      | none => rw [hj] at hd; cases hd
      | some p =>
        rw [hj] at hd
        exact hv e.on p t hj (up _ (Array.getElem?_eq_some_iff.1 hj).1 (hall e (by simpa using he1) he2)) hd)
    have hwU : AllU U γ w (waitsI md o) := by
      intro j hj
      have hj2 : j ∈ waitsI md o := by simpa using hj
      obtain ⟨e, he, rfl⟩ := List.mem_map.1 hj2
      obtain ⟨he1, he2⟩ := List.mem_filter.1 he
      have hlt := hok.before i o ho e (by simpa using he1) he2
      have hes : e.on < ops.size := by omega
      exact hU e.on _ (Array.getElem?_eq_getElem hes) (up _ hes (hall e (by simpa using he1) he2))
    refine wpOp_mono (fun a' w' h => ?_) (step i o ho γ a w ha hG hw hwU)
    obtain ⟨v, γ', rfl, hvi, hUi, hG', hst⟩ := h
    have notOn : ∀ (j : Nat) (p : Oper), ops[j]? = some p → L.getD j true = true → ∀ e ∈ p.after, Region.binds md e = true → e.on ≠ i := by
      intro j p hp hl e he hb heq
      have := hcl j p hp hl e he hb
      rw [heq, hun] at this; cases this
    refine ih γ' _ _ _ ?_ (by simpa using hL) ?_ hG' ?_ ?_ ?_
    · have := unl_set L i hun ops.size
      rw [if_pos hil] at this; omega
    · refine ⟨by rw [size_put]; exact ha.size, by rw [defers_put]; exact ha.defers, fun t ht => ?_⟩
      rw [Act.eval_put (fun d hd e => ht i o ho (by cases e; exact hd))]
      exact ha.same t ht
    · intro j p hp hl e he hb
      by_cases e1 : e.on = i
      · rw [e1]; exact set_self L i
      · rw [getD_set_ne true (Ne.symm e1)]
        by_cases e2 : j = i
        · subst e2
          rw [ho] at hp; cases hp
          have hlt := hok.before j o ho e he hb
          exact up _ (by omega) (hall e he hb)
        · rw [getD_set_ne true (Ne.symm e2)] at hl
          exact hcl j p hp hl e he hb
    · intro j p t hp hl ht
      by_cases e : j = i
      · subst e
        rw [ho] at hp; cases hp
        rw [ht, eval_put_same (by rw [ha.size]; exact hok.room j o t ho ht)]
        exact hvi t ht
      · rw [Act.eval_put (fun d hd e2 => by cases e2; exact hok.apart i j o p t ho hp e hd ht)]
        rw [getD_set_ne true (Ne.symm e)] at hl
        exact (hst j p hp e (notOn j p hp hl)).1 t _ ht (hv j p t hp hl ht)
    · intro j p hp hl
      by_cases e : j = i
      · subst e; exact hUi
      · rw [getD_set_ne true (Ne.symm e)] at hl
        exact (hst j p hp e (notOn j p hp hl)).2 (hU j p hp hl)

def OweAll2 (P : Program) (md : Region.Mode) (ops : Array Oper) (Q : Exit → Act → World → Prop) (V : Tmp → Value → Γ → World → Prop) (U : Nat → Γ → World → Prop) (G : Γ → World → Prop) (a0 : Act) : Nat → List Oper → Prop
  | _, [] => True
  | k, o :: r => Owes2 P md ops Q V U G a0 k o ∧ OweAll2 P md ops Q V U G a0 (k + 1) r
theorem OweAll2.get : ∀ {l : List Oper} {k : Nat}, OweAll2 P md ops Q V U G a0 k l → ∀ (i : Nat) (o : Oper), l[i]? = some o → Owes2 P md ops Q V U G a0 (k + i) o
  | _ :: _, k, h, 0, o, hi => by cases hi; exact h.1
  | _ :: r, k, h, i + 1, o, hi => by
    have := OweAll2.get h.2 i o (by simpa using hi)
    rwa [show k + 1 + i = k + (i + 1) by omega] at this
  | [], _, _, i, o, hi => by simp at hi
theorem OweAll2.cons {k : Nat} {o : Oper} {r : List Oper} (h : Owes2 P md ops Q V U G a0 k o) (h2 : OweAll2 P md ops Q V U G a0 (k + 1) r) : OweAll2 P md ops Q V U G a0 k (o :: r) := ⟨h, h2⟩
theorem OweAll2.nil {k : Nat} : OweAll2 P md ops Q V U G a0 k [] := trivial

/-- A region that draws its order, with a ghost. -/
theorem wp_region_vals2 {id : Nat} {w : World} (γ0 : Γ) (V : Tmp → Value → Γ → World → Prop) (U : Nat → Γ → World → Prop) (G : Γ → World → Prop) (N : Nat) (hm : P.follows .mixedOrders = true) (hok : drawOk2 .any ops N = true) (hN : a0.tmps.size = N) (hG : G γ0 w.drew)
    (step : OweAll2 P .any ops Q V U G a0 0 ops.toList)
    (fin : ∀ γ a w, Agree ops a0 a → G γ w → (∀ (i : Nat) (o : Oper) (t : Tmp), ops[i]? = some o → o.dst = some t → V t (a.eval (.tmp t)) γ w) → (∀ (i : Nat) (o : Oper), ops[i]? = some o → U i γ w) → Q .normal a w) : (Code.region id ops true).wp P Q a0 w := by
  subst hN
  have hok := drawOk2_spec hok
  have hrep : ∀ (i : Nat) (o : Oper), ops[i]? = some o → (Array.replicate ops.size false).getD i true = true → False := by
    intro i o ho hl
    have hlt := (Array.getElem?_eq_some_iff.1 ho).1
    simp [hlt] at hl
  refine wp_region_any hm (wpAny_vals2 hok (V := V) (U := U) (G := G) (fun i o ho => ?_) fin ops.size γ0 _ a0 _ (unl_le _ _) (by simp) ⟨rfl, rfl, fun _ _ => rfl⟩ hG ?_ ?_ ?_)
  · have := step.get i o (by simpa using ho)
    rwa [Nat.zero_add] at this
  · intro j p hp hl; exact (hrep j p hp hl).elim
  · intro j p t hp hl; exact (hrep j p hp hl).elim
  · intro j p hp hl; exact (hrep j p hp hl).elim
/-- .. what follows it at a known frame. -/
theorem wp_region_puts2 {id : Nat} {w : World} (γ0 : Γ) (V : Tmp → Value → Γ → World → Prop) (U : Nat → Γ → World → Prop) (G : Γ → World → Prop) (N : Nat) (hm : P.follows .mixedOrders = true) (hok : drawOk2 .any ops N = true) (hN : a0.tmps.size = N) (hG : G γ0 w.drew)
    (step : OweAll2 P .any ops Q V U G a0 0 ops.toList)
    (fin : ∀ f γ w, G γ w → (∀ (i : Nat) (o : Oper) (t : Tmp), ops[i]? = some o → o.dst = some t → V t (f t) γ w) → (∀ (i : Nat) (o : Oper), ops[i]? = some o → U i γ w) → Q .normal (puts f (dsts ops) a0) w) : (Code.region id ops true).wp P Q a0 w :=
  wp_region_vals2 γ0 V U G N hm hok hN hG step (fun γ a w ha hG hv hU => by
    subst hN
    rw [agree_puts2 ha (drawOk2_spec hok).room]
    exact fin _ γ w hG hv hU)
end
end Go.Proofs.YtjjkobbajbbgdaaGreatDoor

namespace Go.Proofs.YtjjkobbajbbgdaaGreatDoor
open Go

section
variable {P : Program} {ops : Array Oper} {Q : Exit → Act → World → Prop} {md : Region.Mode} {V : Tmp → Value → Prop} {G : Nat → Value → World → Prop} {C : List Nat} {a0 : Act}
theorem wpAny_chain2 (hok : DrawOk2 md ops a0.tmps.size) (hch : chainOk md ops C = true) (hnd : C.Nodup) (hCl : ∀ i ∈ C, i < ops.size) (step : ∀ (i : Nat) (o : Oper), ops[i]? = some o → OwesC P md ops Q V G C a0 i o)
    (fin : ∀ a w x, Agree ops a0 a → G C.length x w → Holds' ops C a C.length x → (∀ (i : Nat) (o : Oper) (t : Tmp), ops[i]? = some o → o.dst = some t → V t (a.eval (.tmp t))) → Q .normal a w) :
    ∀ (fuel : Nat) (L : Array Bool) (a : Act) (w : World) (k : Nat) (x : Value), unl L ops.size ≤ fuel → L.size = ops.size → ChainAt md ops V G C a0 L a w k x → wpAny P md ops Q fuel L a w := by
  have allL : ∀ L : Array Bool, L.size = ops.size → Region.ready md ops L = [] → ∀ (i : Nat) (o : Oper), ops[i]? = some o → L.getD i true = true := by
    intro L hL hr i o ho
    cases hc : L.getD i true with
    | true => rfl
    | false =>
      obtain ⟨j, hj⟩ := ready_some2 hok hL i (Array.getElem?_eq_some_iff.1 ho).1 hc
      rw [hr] at hj; cases hj
  have done : ∀ (L : Array Bool) (a : Act) (w : World) (k : Nat) (x : Value), L.size = ops.size → ChainAt md ops V G C a0 L a w k x → Region.ready md ops L = [] → Q .normal a w := by
    intro L a w k x hL h hr
    have hk : k = C.length := by
      refine Nat.le_antisymm h.le (Nat.le_of_not_lt fun hlt => ?_)
      have hm : C[k]? = some C[k] := List.getElem?_eq_getElem hlt
      have hi := hCl _ (List.getElem_mem hlt)
      exact Nat.lt_irrefl _ ((h.ch k _ hm).1 (allL L hL hr _ _ (Array.getElem?_eq_getElem hi)))
    subst hk
    exact fin a w x h.ag h.g h.ho (fun i o t ho ht => h.v i o t ho (allL L hL hr i o ho) ht)
  intro fuel
  induction fuel with
  | zero =>
    intro L a w k x hu hL h
    have hr : Region.ready md ops L = [] := by
      apply List.eq_nil_iff_forall_not_mem.2
      intro j hj
      obtain ⟨hun, o, ho, _⟩ := mem_ready.1 hj
      have := unl_pos L ops.size j (Array.getElem?_eq_some_iff.1 ho).1 hun
      omega
    exact ⟨hr, done L a w k x hL h hr⟩
  | succ fuel ih =>
    intro L a w k x hu hL h
    refine ⟨fun hr => done L a w k x hL h hr, fun i hi => ?_⟩
    obtain ⟨hun, o, ho, hall⟩ := mem_ready.1 hi
    have hil : i < ops.size := (Array.getElem?_eq_some_iff.1 ho).1
    have hw : AllV (fun t v _ => V t v) a w (waits md ops o) := AllV.of (by
      intro t ht
      unfold waits at ht
      obtain ⟨e, he, hd⟩ := List.mem_filterMap.1 ht
      obtain ⟨he1, he2⟩ := List.mem_filter.1 he
      cases hj : ops[e.on]? with
      | none => rw [hj] at hd; cases hd
      | some p =>
        rw [hj] at hd
        have hl := hall e (by simpa using he1) he2
        exact h.v e.on p t hj (by rw [getD_tf hL (Array.getElem?_eq_some_iff.1 hj).1]; exact hl) hd)
    -- what follows, with k' of the chain done
    have next : ∀ (k' : Nat) (y : Value → Value), k' ≤ C.length → (∀ v, Holds' ops C (a.put o.dst v) k' (y v)) → (∀ (m j : Nat), C[m]? = some j → ((L.setIfInBounds i true).getD j true = true ↔ m < k')) →
        wpOp P ops Q i (fun a' w' => ∃ v, a' = a.put o.dst v ∧ (∀ t, o.dst = some t → V t v) ∧ G k' (y v) w') a w → wpOp P ops Q i (fun a' w' => wpAny P md ops Q fuel (L.setIfInBounds i true) a' w') a w := by
      intro k' y hk' hho hch' hop
      refine wpOp_mono (fun a' w' hh => ?_) hop
      obtain ⟨v, rfl, hvi, hG'⟩ := hh
      refine ih _ _ _ k' (y v) ?_ (by simpa using hL) ⟨hG', hho v, hk', hch', ?_, ?_, ?_, ?_⟩
      · have := unl_set L i hun ops.size
        rw [if_pos hil] at this; omega
      · intro j p hp hl e he hb
        by_cases hji : j = i
        · subst hji
          rw [ho] at hp; cases hp
          have := hall e he hb
          by_cases hei : e.on = j
          · rw [hei, getD_set_at (by omega)]
          · rw [getD_set_ne' hei]; exact this
        · rw [getD_set_ne' hji] at hl
          have := h.cl j p hp hl e he hb
          by_cases hei : e.on = i
          · rw [hei, getD_set_at (by omega)]
          · rw [getD_set_ne' hei]; exact this
      · refine ⟨by rw [size_put]; exact h.ag.size, by rw [defers_put]; exact h.ag.defers, fun t ht => ?_⟩
        rw [Act.eval_put (fun d hd e => ht i o ho (by cases e; exact hd))]
        exact h.ag.same t ht
      · intro j p t hp hl ht
        have e : j ≠ i := by
          rintro rfl
          rw [getD_set_at (by omega)] at hl; cases hl
        rw [Act.eval_put (fun d hd e2 => by cases e2; exact hok.apart i j o p t ho hp e hd ht)]
        rw [getD_set_ne' e] at hl
        exact h.kp j p t hp hl ht
      · intro j p t hp hl ht
        by_cases e : j = i
        · subst e
          rw [ho] at hp; cases hp
          rw [ht, eval_put_same (by rw [h.ag.size]; exact hok.room j o t ho ht)]
          exact hvi t ht
        · rw [Act.eval_put (fun d hd e2 => by cases e2; exact hok.apart i j o p t ho hp e hd ht)]
          rw [getD_set_ne' e] at hl
          exact h.v j p t hp hl ht
    rcases step i o ho with ⟨m, hm, hop⟩ | ⟨hni, b, hb, hop⟩
    · have hmk : m = k := by
        have h1 : ¬ m < k := fun hlt => by rw [(h.ch m i hm).2 hlt] at hun; cases hun
        have h2 : m ≤ k := by
          cases m with
          | zero => exact Nat.zero_le _
          | succ m =>
            have hlt : m < C.length := by have := (List.getElem?_eq_some_iff.1 hm).1; omega
            have hj : C[m]? = some C[m] := List.getElem?_eq_getElem hlt
            obtain ⟨e, he, hbd, hon⟩ := chain_edge hch hj hm ho
            have := hall e he hbd
            rw [hon] at this
            exact (h.ch m _ hj).1 (by rw [getD_tf hL (hCl _ (List.getElem_mem hlt))]; exact this)
        omega
      subst hmk
      have hmlt : m < C.length := (List.getElem?_eq_some_iff.1 hm).1
      refine next (m + 1) (fun v => v) hmlt ?_ ?_ (hop a w x h.agc h.g h.ho hw)
      · intro v m2 j p t hm2 hj hp ht
        obtain rfl : m2 = m := by omega
        rw [hm] at hj; cases hj
        rw [ho] at hp; cases hp
        rw [ht, eval_put_same (by rw [h.ag.size]; exact hok.room i o t ho ht)]
      intro m2 j hj
      by_cases hji : j = i
      · subst hji
        have : m2 = m := by
          obtain ⟨l2, e2⟩ := List.getElem?_eq_some_iff.1 hj
          obtain ⟨l1, e1⟩ := List.getElem?_eq_some_iff.1 hm
          exact (List.getElem_inj hnd).1 (e2.trans e1.symm)
        subst this
        rw [getD_set_at (by omega)]
        exact ⟨fun _ => Nat.lt_succ_self _, fun _ => rfl⟩
      · rw [getD_set_ne' hji, h.ch m2 j hj]
        have : m2 ≠ m := by
          rintro rfl
          rw [hm] at hj; cases hj; exact hji rfl
        omega
    · have hkb : k ≤ b := by
        unfold aheadOf at hb
        rw [Bool.or_eq_true, beq_iff_eq] at hb
        rcases hb with rfl | hb
        · exact h.le
        · cases hj : C[b]? with
          | none => rw [hj] at hb; cases hb
          | some j =>
            rw [hj] at hb
            simp only at hb
            refine Nat.le_of_not_lt fun hlt => ?_
            have := reach_done h.cl 16 j i hb ((h.ch b j hj).2 hlt)
            rw [← getD_tf hL hil, hun] at this
            cases this
      refine next k (fun _ => x) h.le ?_ ?_ (hop k hkb a w x h.agc h.g hw)
      · intro v m2 j p t hm2 hj hp ht
        have hji : j ≠ i := by
          rintro rfl
          have := List.mem_of_getElem? hj
          rw [List.contains_eq_mem, decide_eq_false_iff_not] at hni
          exact hni this
        rw [Act.eval_put (fun d hd e2 => by cases e2; exact hok.apart i j o p t ho hp hji hd ht)]
        exact h.ho m2 j p t hm2 hj hp ht
      intro m2 j hj
      have hji : j ≠ i := by
        rintro rfl
        have := List.mem_of_getElem? hj
        rw [List.contains_eq_mem, decide_eq_false_iff_not] at hni
        exact hni this
      rw [getD_set_ne' hji, h.ch m2 j hj]

theorem wp_region_chain2 {id : Nat} {w : World} (V : Tmp → Value → Prop) (G : Nat → Value → World → Prop) (C : List Nat) (N : Nat) (hm : P.follows .mixedOrders = true) (hok : drawOk2 .any ops N = true) (hN : a0.tmps.size = N)
    (hch : chainOk .any ops C = true) (hnd : decide C.Nodup = true) (hCl : C.all (· < ops.size) = true) (hG : G 0 undef w.drew)
    (step : OweAllC P .any ops Q V G C a0 0 ops.toList)
    (fin : ∀ f w x, G C.length x w → (∀ (m i : Nat) (o : Oper) (t : Tmp), C.length = m + 1 → C[m]? = some i → ops[i]? = some o → o.dst = some t → f t = x) → (∀ (i : Nat) (o : Oper) (t : Tmp), ops[i]? = some o → o.dst = some t → V t (f t)) → Q .normal (puts f (dsts ops) a0) w) : (Code.region id ops true).wp P Q a0 w := by
  subst hN
  have hok := drawOk2_spec hok
  have hCl' : ∀ i ∈ C, i < ops.size := fun i hi => by simpa using List.all_eq_true.1 hCl i hi
  have hL0 : ∀ i, i < ops.size → (Array.replicate ops.size false).getD i true = false := fun i hi => by simp [hi]
  refine wp_region_any hm (wpAny_chain2 (V := V) (G := G) (C := C) hok hch (of_decide_eq_true hnd) hCl' (fun i o ho => ?_) (fun a w x ha hg hh hv => ?_) ops.size _ a0 _ 0 undef (unl_le _ _) (by simp) ⟨hG, (fun m i o t h => by omega), Nat.zero_le _, ?_, ?_, ⟨rfl, rfl, fun _ _ => rfl⟩, (fun _ _ _ _ _ _ => rfl), ?_⟩)
  · have := step.get i o (by simpa using ho)
    rwa [Nat.zero_add] at this
  · rw [agree_puts2 ha hok.room]
    exact fin _ w x hg hh hv
  · intro m i hi
    have := hCl' i (List.mem_of_getElem? hi)
    rw [hL0 i this]
    simp
  · intro i o ho hl
    rw [hL0 i (Array.getElem?_eq_some_iff.1 ho).1] at hl; cases hl
  · intro i o t ho hl _
    rw [hL0 i (Array.getElem?_eq_some_iff.1 ho).1] at hl; cases hl
end
end Go.Proofs.YtjjkobbajbbgdaaGreatDoor

namespace Go.Proofs.YtjjkobbajbbgdaaGreatDoor
open Go.RowKit

/-- A certificate that was accepted, and where its lists lie. -/
structure Cc where
  c : Ct
  p : Option Addr
  q : Option Addr
  cp : Nat
  cq : Nat
instance : Inhabited Cc := ⟨⟨zct, none, none, 0, 0⟩⟩
def encC : Enc Cc := ⟨fun x => (ctc x.c x.p x.q x.cp x.cq).toList, 5, fun _ => rfl, fun x => ctc_one x.c x.p x.q x.cp x.cq, by decide⟩
def chL (P : List Nat) (q : Option Addr) (n cap wp : Nat) : List Value := nums .i64 P ++ [.slice q n cap, .pointer (some ⟨wp, 0, none⟩)]
theorem chL_len {P : List Nat} (h : IsTab P) (q : Option Addr) (n cap wp : Nat) : (chL P q n cap wp).length = 66 := by simp [chL, nums_len, h.len]
theorem chL_one (P : List Nat) (q : Option Addr) (n cap wp : Nat) : ∀ v ∈ chL P q n cap wp, v.oneCell' = true := by
  intro v hv
  rcases List.mem_append.1 hv with h | h
  · exact nums_one .i64 _ v h
  · simp only [List.mem_cons, List.not_mem_nil, or_false] at h
    rcases h with rfl | rfl <;> rfl
/-- A chain at block c: its table, the certificates that were accepted, a pool at wp of which nothing waits. -/
structure FC (w : World) (c : Nat) (P : List Nat) (D : List Cc) (q : Option Addr) (cap wp b : Nat) : Prop where
  blk : w.heap[c]? = some (.cells (chL P q D.length cap wp).toArray 61 (0, 0))
  tab : IsTab P
  rw : Rw encC 47 w q cap D
  pl : w.heap[wp]? = some (.cells #[.int .i64 4, .map (some b)] 85 (0, 0))
  mp : MapK Tryz.prog 9 keyS w b []
  fl : ∀ x ∈ D, x.c.fin.length ≤ 1000000
theorem FC.lt {w : World} {c : Nat} {P : List Nat} {D : List Cc} {q : Option Addr} {cap wp b : Nat} (h : FC w c P D q cap wp b) : c < w.heap.size := (Array.getElem?_eq_some_iff.1 h.blk).1
theorem FC.plt {w : World} {c : Nat} {P : List Nat} {D : List Cc} {q : Option Addr} {cap wp b : Nat} (h : FC w c P D q cap wp b) : wp < w.heap.size := (Array.getElem?_eq_some_iff.1 h.pl).1
theorem FC.kept {w w' : World} {c : Nat} {P : List Nat} {D : List Cc} {q : Option Addr} {cap wp b : Nat} {S : Nat → Prop} (h : FC w c P D q cap wp b) (hm : Mod S w w') (h1 : ¬ S c) (h2 : ¬ S wp) (h3 : ¬ S b) (h4 : ∀ a, q = some a → ¬ S a.block) : FC w' c P D q cap wp b :=
  ⟨(hm.block c h.lt h1).trans h.blk, h.tab, h.rw.kept hm h4, (hm.block wp h.plt h2).trans h.pl, h.mp.kept hm h3, h.fl⟩
theorem FC.old {w w' : World} {c : Nat} {P : List Nat} {D : List Cc} {q : Option Addr} {cap wp b : Nat} (h : FC w c P D q cap wp b) (hb : Below w.heap.size w w') : FC w' c P D q cap wp b :=
  h.kept (Mod.of_below hb) (by have := h.lt; omega) (by have := h.plt; omega) (by have := h.mp.lt; omega) (fun a e => by subst e; have := h.rw.lt; omega)
theorem FC.tabc {w : World} {c : Nat} {P : List Nat} {D : List Cc} {q : Option Addr} {cap wp b : Nat} (h : FC w c P D q cap wp b) : ∀ i u, (nums .i64 P)[i]? = some u → w.cell? ⟨c, 0 + i, none⟩ = some u := by
  intro i u hu
  rw [cell_of_row w c (0 + i) _ _ _ h.blk, Nat.zero_add, List.getElem?_toArray]
  unfold chL
  rw [List.getElem?_append_left (List.getElem?_eq_some_iff.1 hu).1]
  exact hu
theorem FC.c64 {w : World} {c : Nat} {P : List Nat} {D : List Cc} {q : Option Addr} {cap wp b : Nat} (h : FC w c P D q cap wp b) : w.cell? ⟨c, 64, none⟩ = some (.slice q D.length cap) := by
  rw [cell_of_row w c 64 _ _ _ h.blk, List.getElem?_toArray]
  unfold chL
  rw [List.getElem?_append_right (by rw [nums_len, h.tab.len]; exact Nat.le_refl _), nums_len, h.tab.len]; rfl
theorem FC.c65 {w : World} {c : Nat} {P : List Nat} {D : List Cc} {q : Option Addr} {cap wp b : Nat} (h : FC w c P D q cap wp b) : w.cell? ⟨c, 65, none⟩ = some (.pointer (some ⟨wp, 0, none⟩)) := by
  rw [cell_of_row w c 65 _ _ _ h.blk, List.getElem?_toArray]
  unfold chL
  rw [List.getElem?_append_right (by rw [nums_len, h.tab.len]; omega), nums_len, h.tab.len]; rfl
theorem FC.p0 {w : World} {c : Nat} {P : List Nat} {D : List Cc} {q : Option Addr} {cap wp b : Nat} (h : FC w c P D q cap wp b) : w.cell? ⟨wp, 0, none⟩ = some (.int .i64 4) := by
  rw [cell_of_row w wp 0 _ _ _ h.pl]; rfl
theorem FC.p1 {w : World} {c : Nat} {P : List Nat} {D : List Cc} {q : Option Addr} {cap wp b : Nat} (h : FC w c P D q cap wp b) : w.cell? ⟨wp, 1, none⟩ = some (.map (some b)) := by
  rw [cell_of_row w wp 1 _ _ _ h.pl]; rfl
/-- The table of a chain, loaded. -/
theorem exec_load_tab {o : Oper} {a : Act} {w : World} (x : Operand) (ho : o.op = .load 26 x) (b off : Nat) (hx : a.eval x = .pointer (some ⟨b, off, none⟩)) (P : List Nat) (hP : IsTab P)
    (hc : ∀ i u, (nums .i64 P)[i]? = some u → w.cell? ⟨b, off + i, none⟩ = some u) : (execOp a.eval o).run Tryz.prog w = .ok (.value (tval P)) w := by
  have hl := run_loadVar_mid (P := Tryz.prog) w b off 26 (nums .i64 P) _ (fun j v hv => hc j v hv) Tryz.underlying26 rfl (by rw [nums_len, hP.len]; kernel_rfl)
  unfold execOp
  simp only [ho, hx, Instr.loadAt, Instr.sureAddr, Sem.run_bind, Sem.run_pure, Result.andThen_ok, hl]
  rfl
/-- What is final: the root, or what the last one says. -/
def finB (D : List Cc) : List UInt8 := match D.getLast? with | none => rootB | some x => x.c.fin
theorem finB_nil : finB [] = rootB := rfl
theorem finB_snoc (D : List Cc) (x : Cc) : finB (D ++ [x]) = x.c.fin := by simp [finB]
theorem finB_last {D : List Cc} (h : 0 < D.length) : finB D = (D[D.length - 1]'(by omega)).c.fin := by
  unfold finB
  rw [List.getLast?_eq_getElem?, List.getElem?_eq_getElem (by omega)]
end Go.Proofs.YtjjkobbajbbgdaaGreatDoor

namespace Go.Proofs.YtjjkobbajbbgdaaGreatDoor
open Go.RowKit Go.Sort Go.Maps

theorem results_cell_slotT {P : Program} {fn : Func} {p q : Tmp} {ty : TypeId} (h : fn.results = #[.cell p ty, .tmp q]) (tmps : Array Value) (w : World) (g : Nat) (t : TypeId) (cs : Array Value) (fr : Nat × Nat) (d : TypeDesc) (v : Value)
    (hp : tmps.getD p undef = .pointer (some ⟨g, 0, none⟩)) (hq : tmps.getD q undef = v) (hg : w.heap[g]? = some (.cells cs t fr))
    (hu : P.underlying ty = some d) (hd : (match d with | .struct _ | .array _ _ => true | _ => false) = true) (hi : (P.info? ty).map (·.size) = some cs.size) :
    (results fn tmps).run P w = .ok (.tuple #[.agg cs, v]) w := by
  have hp' : tmps[p]?.getD undef = .pointer (some ⟨g, 0, none⟩) := by simpa using hp
  have hq' : tmps[q]?.getD undef = v := by simpa using hq
  simp [results, h, hp', hq', asAddr, run_loadVar_row w g t ty cs fr d hg hu hd hi]
theorem two_allocs (w : World) (A B : Array Value) (t1 t2 : TypeId) : ((w.alloc (.cells A t1)).alloc (.cells B t2)).heap[w.heap.size]? = some (.cells A t1 (0, 0)) ∧ Below w.heap.size w ((w.alloc (.cells A t1)).alloc (.cells B t2)) := by
  refine ⟨?_, ((Below.refl _ w).alloc (Nat.le_refl _) _).alloc (by simp) _⟩
  rw [Below.heap_alloc _ _ _ (by simp)]; exact heap_alloc_new w _
theorem sclone_any (k : List UInt8) (w : World) (hk : k.length ≤ 1000000000) :
    Calls Tryz.prog 33 #[.string ⟨k.toArray⟩] w fun r w' => r = .returned (.string ⟨k.toArray⟩) ∧ Below w.heap.size w w' := by
  have h := fun w => Tryz.stringslite_Clone ⟨k.toArray⟩ w (by simp [ByteArray.size]; omega)
  have H := Lib.hid h
  clear h
  go_enter Tryz.func33, Tryz.ntmps33
  go_wp2_with fail
  refine (H.out w).mono ?_
  rintro e w2 ⟨rfl, hb⟩
  have HB := Lib.hid hb
  clear hb
  go_wp2_with fail
  go_ret
  exact ⟨rfl, HB.out⟩
theorem fnext_any {w : World} {c : Nat} {P : List Nat} {D : List Cc} {q : Option Addr} {cap wp b : Nat} (h : FC w c P D q cap wp b) :
    Calls Tryz.prog 14 #[.pointer (some ⟨c, 0, none⟩)] w fun r w' => r = .returned (.int .i64 (D.length : Nat)) ∧ w' = w := by
  have c64 := h.c64
  clear h
  generalize D.length = n at *
  go_enter Tryz.func14, Tryz.ntmps14
  go_wp2_with fail
  go_ret
  exact ⟨rfl, rfl⟩
/-- A new pool, of at most four. -/
theorem fpnew_any (w : World) :
    Calls Tryz.prog 18 #[.int .i64 4] w fun r w' => ∃ wp b, r = .returned (.pointer (some ⟨wp, 0, none⟩)) ∧ w'.heap[wp]? = some (.cells #[.int .i64 4, .map (some b)] 85 (0, 0)) ∧ MapK Tryz.prog 9 keyS w' b [] ∧ w.heap.size ≤ wp ∧ w.heap.size ≤ b ∧ Below w.heap.size w w' := by
  have hmk : ∀ w, (Instr.makeMap 83 none).run Tryz.prog w = .ok (.map (some w.heap.size)) (w.alloc (.map #[] 0)) := fun w => run_makeMap _ _
  go_enter Tryz.func18, Tryz.ntmps18
  go_wp2_with fail
  go_ret
  have h1 := MapK.made Tryz.prog 9 keyS w
  have hb1 : Below w.heap.size w (w.alloc (.map #[] 0)) := (Below.refl _ w).alloc (Nat.le_refl _) _
  have hb2 : Below (w.alloc (.map #[] 0)).heap.size (w.alloc (.map #[] 0)) ((w.alloc (.map #[] 0)).alloc (.cells #[.int .i64 4, .map (some w.heap.size)] 85)) := (Below.refl _ _).alloc (Nat.le_refl _) _
  exact ⟨w.heap.size + 1, w.heap.size, by simp, (by have := heap_alloc_new (w.alloc (.map #[] 0)) (.cells #[.int .i64 4, .map (some w.heap.size)] 85); rw [show (w.alloc (.map #[] 0)).heap.size = w.heap.size + 1 by simp] at this; exact this), h1.old hb2, by omega, Nat.le_refl _, hb1.trans (hb2.mono hb1.size)⟩
set_option maxRecDepth 20000 in
set_option maxHeartbeats 2000000 in
/-- What waits by a key, where nothing waits. -/
theorem fget_none {w : World} {c : Nat} {P : List Nat} {D : List Cc} {q : Option Addr} {cap wp b : Nat} (h : FC w c P D q cap wp b) (k : List UInt8) (hk : k.length ≤ maxLen) :
    Calls Tryz.prog 42 #[.pointer (some ⟨wp, 0, none⟩), .string ⟨k.toArray⟩] w fun r w' => r = .returned (.tuple #[.agg (ctc zct none none 0 0), .bool false]) ∧ Below w.heap.size w w' := by
  have hb1 : Below w.heap.size w (w.alloc (.cells #[.int .i64 0, .string ⟨#[]⟩, .string ⟨#[]⟩, .slice none 0 0, .slice none 0 0] 47)) := (Below.refl _ w).alloc (Nat.le_refl _) _
  have h1 := h.old hb1
  have c1 := h1.p1
  have hl := h1.mp.look_ok keyedS Tryz.underlying83 (z := .agg #[.int .i64 0, .int .i64 0, .string ⟨#[]⟩, .string ⟨#[]⟩, .slice none 0 0, .slice none 0 0]) (by kernel_rfl) (keyS_of k hk)
  simp only [hasE, getE, List.any_nil, List.find?_nil] at hl
  have hlt := h.plt
  clear h h1 hk hb1
  obtain ⟨C, hC⟩ : ∃ C, C = ctc zct none none 0 0 := ⟨_, rfl⟩
  have HC := Lib.hid hC
  rw [← hC]
  clear hC
  go_enter Tryz.func42, Tryz.ntmps42
  go_wp2_with fail
  have h2 := two_allocs w #[.int .i64 0, .string ⟨#[]⟩, .string ⟨#[]⟩, .slice none 0 0, .slice none 0 0] #[.int .i64 0, .int .i64 0, .string ⟨#[]⟩, .string ⟨#[]⟩, .slice none 0 0, .slice none 0 0] 47 102
  exact bodyPost_ret (v := .tuple #[.agg #[.int .i64 0, .string ⟨#[]⟩, .string ⟨#[]⟩, .slice none 0 0, .slice none 0 0], .bool false]) (results_cell_slotT Tryz.results42 _ _ w.heap.size 47 _ (0, 0) _ _ rfl rfl h2.1 Tryz.underlying47 rfl ct_info) rfl ⟨by rw [HC.out]; rfl, h2.2⟩
set_option maxRecDepth 20000 in
set_option maxHeartbeats 2000000 in
theorem fkeys_none {w : World} {c : Nat} {P : List Nat} {D : List Cc} {q : Option Addr} {cap wp b : Nat} (h : FC w c P D q cap wp b) :
    Calls Tryz.prog 52 #[.pointer (some ⟨wp, 0, none⟩)] w fun r w' => r = .returned (.slice none 0 0) ∧ Below w.heap.size w w' := by
  have hb1 : Below w.heap.size w (w.alloc (.cells #[.pointer (some ⟨wp, 0, none⟩)] 57)) := (Below.refl _ w).alloc (Nat.le_refl _) _
  have h1 := h.old hb1
  have c1 := h1.p1
  have hown := h1.mp.own
  have hlt := h.plt
  have e1 : (w.alloc (.cells #[.pointer (some ⟨wp, 0, none⟩)] 57)).heap.size = w.heap.size + 1 := by simp
  have HBW := Lib.hid hb1
  have HS : Hid (∀ f w, Calls Tryz.prog 78 #[.slice none 0 0, f] w fun r w' => r = .returned (.tuple #[]) ∧ w' = w) := Lib.hid (fun f w => Tryz.slices_SortFunc_none (α := Nat) none 0 f w)
  clear h h1 hb1
  go_enter Tryz.func52, Tryz.ntmps52
  go_wp2_with (first
    | (at_range; refine wpList_range_own _ rfl _ 83 rfl 9 102 keyedS Tryz.underlying83 _ b 0 _ rfl hown ?_; intro w0 hrg0 hg0 hs0)
    | go_in)
  go_frame
  rw [e1] at hrg0 hs0 ⊢
  have HB0 := Lib.hid (HBW.out.grown hg0 (by simp) (fun j hj => by cases hj))
  have HR0 := Lib.hid hrg0
  clear hrg0 hg0 hs0 hown c1 e1
  generalize w.heap.size + 1 = ri at HR0 ⊢
  obtain ⟨LF, hLF⟩ : ∃ LF : Lit → Bool, LF = Maps.has (keyS.d []) := ⟨_, rfl⟩
  rw [← hLF, show Maps.size (keyS.d []) = 0 from rfl] at HR0
  clear hLF
  go_loopw [3, 4] (fun s3 _ wr => s3 = .slice none 0 0 ∧ Hid (wr.ranges Tryz.prog 9 RVE b ri 0 (keyS.d []) LF 0 ∧ Below w.heap.size w wr)) (fun _ _ _ => 0)
  case atStart => exact ⟨rfl, Lib.hid ⟨HR0.out, HB0.out⟩⟩
  case round =>
    obtain ⟨rfl, hX⟩ := hrel
    have hrg := hX.out.1
    have HB := Lib.hid hX.out.2
    clear hX HR0 HB0
    go_wp2_with (first
      | (at_next; refine wpList_next_ranges _ rfl _ rfl 9 keyedS RVE encStr (fun v : Value => v) (fun key kl hk => by obtain ⟨x, hx, _⟩ := Maps.keyOf_str Tryz.underlying9 hk; exact ⟨x, hx⟩) (fun v y hv => ⟨v, rfl⟩) b ri 0 _ _ _ rfl hrg ?_ ?_)
      | go_in)
    · intro hl0
      clear hrg hl0
      go_wp2_with fail
      refine (HS.out (.func (.func 79) #[] #[.pointer (some ⟨w.heap.size, 0, none⟩)]) wr).mono ?_
      rintro r w2 ⟨rfl, rfl⟩
      go_wp2_with fail
      go_ret
      exact ⟨rfl, HB.out⟩
theorem info_id : (Tryz.prog.info? 36).map (fun i => (i.zero, i.size, i.bytes)) = some (some (.agg (vals zid).toArray), 32, 32) := by kernel_rfl
/-- A name alone, laid. -/
theorem build_name {o : Oper} {a : Act} {w : World} (x : Operand) (ho : o.op = .buildSlice 62 1 #[(0, x)]) (s : List UInt8) (hs : s.length = 32) (hx : a.eval x = .agg (vals s).toArray) :
    (execOp a.eval o).run Tryz.prog w = .ok (.value (.slice (some ⟨w.heap.size, 0, none⟩) 1 1)) (w.alloc (.cells (vals s).toArray 36)) := by
  obtain ⟨i, hi, hz, h1, _⟩ : ∃ i, Tryz.prog.info? 36 = some i ∧ i.zero = some (.agg (vals zid).toArray) ∧ i.size = 32 ∧ i.bytes = 32 := by
    have h := info_id
    cases hq : Tryz.prog.info? 36 with
    | none => rw [hq] at h; cases h
    | some i => rw [hq] at h; simp only [Option.map_some, Option.some.injEq, Prod.mk.injEq] at h; exact ⟨i, rfl, h.1, h.2.1, h.2.2⟩
  have hf := Great.fill_whole (s := 32) (by decide) [.agg (vals s).toArray] ((Array.range (1 * 32)).map ((Value.agg (vals zid).toArray).cells[· % (Value.agg (vals zid).toArray).cells.size]!)) (by
    intro v hv; rw [List.mem_singleton.1 hv]; exact id_size hs) (by simp)
  have hb := run_buildSlice (P := Tryz.prog) w 62 36 1 #[(0, .agg (vals s).toArray)] (vals s).toArray i _ Tryz.underlying62 hi hz (by rw [h1]; decide) (by rw [h1]; decide) (by
    rw [h1]
    refine hf.trans ?_
    simp [Value.cells])
  unfold execOp
  simp only [ho, List.map_toArray, List.map_cons, List.map_nil, hx, Sem.run_bind, hb, Result.andThen_ok, Sem.run_pure]
end Go.Proofs.YtjjkobbajbbgdaaGreatDoor

namespace Go.Proofs.YtjjkobbajbbgdaaGreatDoor
open Go.RowKit

/-- slices.Clone, of whatever rows. -/
theorem clone_gen {α : Type} (E : Enc α) (T : TypeId) (fn : FuncId) (by_ : Nat) (hby : by_ ≤ 1024)
    (hnil : ∀ n c w, Calls Tryz.prog fn #[.slice none n c] w fun e w' => e = .returned (.slice none 0 0) ∧ w' = w)
    (hsome : ∀ (b off n c : Nat) (news : List Value) (w : World), news.length = n * E.k → n ≤ maxLen → n * by_ ≤ 140737488355328 → (∀ j u, news[j]? = some u → w.cell? ⟨b, off + j, none⟩ = some u) → (∀ v ∈ news, v.oneCell' = true) →
      Calls Tryz.prog fn #[.slice (some ⟨b, off, none⟩) n c] w fun e w' => ∃ v', e = .returned v' ∧ w'.ownsRow w.heap.size T E.k v' n news ∧ v' ≠ .slice none 0 0 ∧ Below w.heap.size w w')
    (ao : Option Addr) (cap : Nat) (L : List α) (w : World) (hL : Rd E w ao L) (hao : ao = none ∨ ∃ b off, ao = some ⟨b, off, none⟩) (hn : L.length ≤ 1000000) :
    Calls Tryz.prog fn #[.slice ao L.length cap] w fun r w' => ∃ p c, r = .returned (.slice p L.length c) ∧ Rw E T w' p c L ∧ (∀ a, p = some a → w.heap.size ≤ a.block) ∧ Below w.heap.size w w' := by
  rcases hao with rfl | ⟨b, off, rfl⟩
  · have h0 : L = [] := by
      cases L with
      | nil => rfl
      | cons x l => obtain ⟨_, _, e, _⟩ := hL 0 (by simp); cases e
    subst h0
    refine Calls.mono (hnil 0 cap w) ?_
    rintro r w' ⟨rfl, rfl⟩
    exact ⟨none, 0, rfl, Rw.empty _ _, (fun a e => by cases e), Below.refl _ _⟩
  · have h := hsome b off L.length cap (E.all L) w (E.all_len L) (by unfold maxLen; omega) (Nat.le_trans (Nat.mul_le_mul hn hby) (by decide))
      (fun j u hj => by
        have hk := E.pos
        have hjl : j < L.length * E.k := by
          have := (List.getElem?_eq_some_iff.1 hj).1
          rwa [E.all_len] at this
        have hd : j / E.k < L.length := by rw [Nat.div_lt_iff_lt_mul hk]; exact hjl
        have hr : j % E.k < E.k := Nat.mod_lt _ hk
        have he : j / E.k * E.k + j % E.k = j := by rw [Nat.mul_comm]; exact Nat.div_add_mod j E.k
        obtain ⟨bs', off', e, _, c1⟩ := hL (j / E.k) hd
        cases e
        have e2 := E.all_get L (j / E.k) (j % E.k) hd hr
        rw [he, hj] at e2
        have e3 := c1 _ _ e2.symm
        rw [Nat.add_assoc, he] at e3
        exact e3) (E.all_one L)
    refine Calls.mono h ?_
    rintro r w' ⟨v, rfl, hown, hne, hb⟩
    rcases hown.2 with ⟨e, h0⟩ | ⟨g, c', cur, e, hg, hh, h3, h4, h5, h6⟩
    · exact absurd e hne
    · refine ⟨some ⟨g, 0, none⟩, c', by rw [e], Rw.of_row hh h3 h4 h5 h6, (fun a e => by cases e; exact hg), hb⟩
theorem info_ci : (Tryz.prog.info? 3).map (fun i => (i.zero, i.size, i.bytes)) = some (some (.int .i64 0), 1, 8) := by kernel_rfl
theorem info_ce : (Tryz.prog.info? 31).map (fun i => (i.zero, i.size, i.bytes)) = some (some (.agg #[.int .i64 0, .int .i64 0]), 2, 16) := by kernel_rfl
theorem iclone_any (ao : Option Addr) (cap : Nat) (L : List Int) (w : World) (hL : Rd encI w ao L) (hao : ao = none ∨ ∃ b off, ao = some ⟨b, off, none⟩) (hn : L.length ≤ 1000000) :
    Calls Tryz.prog 44 #[.slice ao L.length cap] w fun r w' => ∃ p c, r = .returned (.slice p L.length c) ∧ Rw encI 3 w' p c L ∧ (∀ a, p = some a → w.heap.size ≤ a.block) ∧ Below w.heap.size w w' := by
  obtain ⟨i, hi, hzz⟩ := Option.map_eq_some_iff.1 info_ci
  simp only [Prod.mk.injEq] at hzz
  obtain ⟨hz, h1, h2⟩ := hzz
  exact clone_gen encI 3 44 8 (by decide) (fun n c w => Tryz.slices_Clone_nil n c w) (fun b off n c news w hl hn hb hc ho => Tryz.slices_Clone i (.int .i64 0) 1 8 hi hz h1 h2 rfl (by decide) (fun w => Tryz.sizeOf3 w) b off n c news w hl hn hb hc ho) ao cap L w hL hao hn
theorem eclone_any (ao : Option Addr) (cap : Nat) (L : List (Int × Int)) (w : World) (hL : Rd encP w ao L) (hao : ao = none ∨ ∃ b off, ao = some ⟨b, off, none⟩) (hn : L.length ≤ 1000000) :
    Calls Tryz.prog 45 #[.slice ao L.length cap] w fun r w' => ∃ p c, r = .returned (.slice p L.length c) ∧ Rw encP 31 w' p c L ∧ (∀ a, p = some a → w.heap.size ≤ a.block) ∧ Below w.heap.size w w' := by
  obtain ⟨i, hi, hzz⟩ := Option.map_eq_some_iff.1 info_ce
  simp only [Prod.mk.injEq] at hzz
  obtain ⟨hz, h1, h2⟩ := hzz
  exact clone_gen encP 31 45 16 (by decide) (fun n c w => AnyE.slices_Clone_nil Tryz.cloneE n c w) (fun b off n c news w hl hn hb hc ho => AnyE.slices_Clone Tryz.cloneE i (.agg #[.int .i64 0, .int .i64 0]) 2 16 hi hz h1 h2 rfl (by decide) (fun w => Tryz.sizeOf31 w) b off n c news w hl hn hb hc ho) ao cap L w hL hao hn
end Go.Proofs.YtjjkobbajbbgdaaGreatDoor

namespace Go.Proofs.YtjjkobbajbbgdaaGreatDoor
open Go.RowKit

/-- What is told of a key. -/
structure Sy where
  key : List UInt8
  kn : Int
  bp : Option Addr
  bc : Nat
  bh : List (List UInt8)
  ft : Bool
instance : Inhabited Sy := ⟨⟨[], 7, none, 0, [], false⟩⟩
def syc (s : Sy) : Array Value := #[.string ⟨s.key.toArray⟩, .int .i64 s.kn, .slice s.bp s.bh.length s.bc, .bool s.ft]
def encSy : Enc Sy := ⟨fun s => (syc s).toList, 4, fun _ => rfl, (fun _ v hv => by simp only [syc, List.mem_cons, List.not_mem_nil, or_false] at hv; rcases hv with rfl | rfl | rfl | rfl <;> rfl), by decide⟩
def noSy : Sy := ⟨[], 7, none, 0, [], false⟩
def lookY (k : List UInt8) : List Sy → Sy
  | [] => noSy
  | s :: l => if s.key = k then s else lookY k l
theorem lookY_drop (k : List UInt8) (L : List Sy) (i : Nat) (h : i < L.length) : lookY k (L.drop i) = if L[i].key = k then L[i] else lookY k (L.drop (i + 1)) := by
  rw [List.drop_eq_getElem_cons h]; rfl
theorem exec_load_sy {o : Oper} {a : Act} {w : World} (x : Operand) (ho : o.op = .load 41 x) (b off : Nat) (hx : a.eval x = .pointer (some ⟨b, off, none⟩)) (s : Sy)
    (hc : ∀ i u, (encSy.f s)[i]? = some u → w.cell? ⟨b, off + i, none⟩ = some u) : (execOp a.eval o).run Tryz.prog w = .ok (.value (.agg (syc s))) w := by
  have hl := run_loadVar_mid (P := Tryz.prog) w b off 41 (syc s).toList _ (fun j v hv => hc j v hv) Tryz.underlying41 rfl (by kernel_rfl)
  unfold execOp
  simp only [ho, hx, Instr.loadAt, Instr.sureAddr, Sem.run_bind, Sem.run_pure, Result.andThen_ok, hl]
set_option maxRecDepth 20000 in
set_option maxHeartbeats 4000000 in
theorem vlook_any (p : Option Addr) (cap : Nat) (L : List Sy) (k : List UInt8) (w : World) (hL : Rd encSy w p L) (hn : L.length ≤ 1000000) :
    Calls Tryz.prog 134 #[.agg #[.slice p L.length cap], .string ⟨k.toArray⟩] w fun r w' => r = .returned (.agg (syc (lookY k L))) ∧ Below w.heap.size w w' := by
  obtain ⟨n, hnL⟩ : ∃ n, n = L.length := ⟨_, rfl⟩
  have HN := Lib.hid hnL
  have HL := Lib.hid hL
  obtain ⟨R, hR⟩ : ∃ R, R = lookY k L := ⟨_, rfl⟩
  have HR := Lib.hid hR
  rw [← hnL] at hn ⊢
  rw [← hR]
  obtain ⟨ZS, hZS⟩ : ∃ Z : Array Value, Z = #[.string ⟨#[]⟩, .int .i64 0, .slice none 0 0, .bool false] := ⟨_, rfl⟩
  obtain ⟨W0, hW0⟩ : ∃ W0, W0 = (w.alloc (.cells #[.slice p n cap] 44)).alloc (.cells ZS 41) := ⟨_, rfl⟩
  have hb0 : Hid (Below w.heap.size w W0) := Lib.hid (by rw [hW0]; exact ((Below.refl _ w).alloc (Nat.le_refl _) _).alloc (by simp) _)
  obtain ⟨r, hr⟩ : ∃ r, r = w.heap.size + 1 := ⟨_, rfl⟩
  have hz0 : Hid (W0.heap[r]? = some (.cells ZS 41 (0, 0))) := Lib.hid (by rw [hW0, hr]; have := heap_alloc_new (w.alloc (.cells #[.slice p n cap] 44)) (.cells ZS 41); simpa using this)
  have hZs : ZS.size = 4 := by rw [hZS]; rfl
  have hw0 : w.heap.size ≤ r := by omega
  have HZ := Lib.hid hZS
  have HW0 := Lib.hid hW0
  have Hr := Lib.hid hr
  have HI : (Tryz.prog.info? 41).map (·.size) = some 4 := by kernel_rfl
  have HII := Lib.hid HI
  clear hnL hL hR hZS hW0 hr HI
  go_enter Tryz.func134, Tryz.ntmps134
  go_wp2_with fail
  rw [← HZ.out, ← HW0.out, ← Hr.out]
  go_loopw [6, 10] (fun _ s10 wr => ∃ i : Nat, i ≤ n ∧ s10 = .int .i64 (i : Int) ∧ Hid (lookY k (L.drop i) = R) ∧ Hid (Below w.heap.size w wr ∧ wr.heap[r]? = some (.cells ZS 41 (0, 0)))) (fun _ s10 _ => n - (intOf s10).toNat)
  case atStart => exact ⟨0, Nat.zero_le _, by go_num, Lib.hid (by rw [List.drop_zero]; exact HR.out.symm), Lib.hid ⟨hb0.out, hz0.out⟩⟩
  case round =>
    obtain ⟨i, hi, rfl, HE, HB⟩ := hrel
    clear hb0 hz0 HW0
    by_cases hlt : i < n
    · have hiL : i < L.length := by rw [← HN.out]; exact hlt
      obtain ⟨bs, off, hp, hbs, c1⟩ := (HL.out.old HB.out.1) i hiL
      have hstep := HE.out
      rw [lookY_drop k L i hiL] at hstep
      obtain ⟨x, hx⟩ : ∃ x, x = L[i] := ⟨_, rfl⟩
      rw [← hx] at c1 hstep
      subst hp
      have C1 := Lib.hid c1
      have HST := Lib.hid hstep
      have i0 : (0 : Int) ≤ i := by omega
      have i1 : (i : Int) < n := by omega
      have hrlt := (Array.getElem?_eq_some_iff.1 HB.out.2).1
      obtain ⟨X, hX⟩ : ∃ X, X = syc x := ⟨_, rfl⟩
      have hXs : X.size = 4 := by rw [hX]; rfl
      have hX1 : ∀ v ∈ X.toList, v.oneCell' = true := by rw [hX]; exact encSy.one x
      have hbx := heap_alloc_new wr (.cells #[.string ⟨#[]⟩, .int .i64 0, .slice none 0 0, .bool false] 41)
      have hz2 : (#[.string ⟨#[]⟩, .int .i64 0, .slice none 0 0, .bool false] : Array Value).size = X.size := by rw [hXs]; rfl
      have hiX : (Tryz.prog.info? 41).map (·.size) = some X.size := by rw [hXs]; exact HII.out
      obtain ⟨W1, hW1⟩ : ∃ W1, W1 = (wr.alloc (.cells #[.string ⟨#[]⟩, .int .i64 0, .slice none 0 0, .bool false] 41)).setRow wr.heap.size X := ⟨_, rfl⟩
      have hrow1 : W1.heap[wr.heap.size]? = some (.cells X 41 (0, 0)) := by rw [hW1]; exact setRow_heap _ _ _ _ _ _ hbx
      have hc0 : W1.cell? ⟨wr.heap.size, 0, none⟩ = some (.string ⟨x.key.toArray⟩) := by rw [cell_of_row _ _ 0 _ _ _ hrow1, hX]; rfl
      have hbW : Below wr.heap.size wr W1 := by rw [hW1]; exact stored_below
      have hres := (hbW.block r hrlt).trans HB.out.2
      have HBW := Lib.hid (HB.out.1.trans (hbW.mono HB.out.1.size))
      have HRES := Lib.hid hres
      have HW1 := Lib.hid hW1
      have HX := Lib.hid hX
      clear c1 hstep hx hX hW1 hbW hres hiL
      by_cases he : x.key = k
      · rw [he] at hc0
        obtain ⟨W2, hW2⟩ : ∃ W2, W2 = W1.setRow r X := ⟨_, rfl⟩
        have hrz : ZS.size = X.size := by rw [hZs, hXs]
        have hres := HRES.out
        have hres2 : Hid (W2.heap[r]? = some (.cells X 41 (0, 0))) := Lib.hid (by rw [hW2]; exact setRow_heap _ _ _ _ _ _ hres)
        have HB2 : Hid (Below w.heap.size w W2) := Lib.hid (by
          rw [hW2]
          exact HBW.out.trans (((Mod.refl (fun _ => False) W1).setRow (g := r) X).to_below HBW.out.size (by rintro k hk (h | h); exact h; omega)))
        have HW2 := Lib.hid hW2
        have hst := HST.out
        rw [if_pos he] at hst
        have HST2 := Lib.hid hst
        clear hW2 hst
        go_wp2_with (first
          | (refine wpList_exec rfl (exec_load_sy (.tmp 12) rfl bs (off + i * 4) rfl x C1.out) ?_; rw [← HX.out])
          | (refine wpList_store_row rfl rfl 41 (.tmp 6) (.tmp 13) rfl wr.heap.size rfl 41 _ X rfl hbx hz2 hiX hX1 ?_; rw [← HW1.out])
          | (refine wpList_exec rfl (exec_load_row 41 (.tmp 6) rfl wr.heap.size rfl 41 X (0, 0) _ hrow1 Tryz.underlying41 rfl hiX) ?_)
          | (refine wpList_store_row rfl rfl 41 (.tmp 4) (.tmp 18) rfl r rfl 41 ZS X rfl hres hrz hiX hX1 ?_; rw [← HW2.out]))
        exact bodyPost_ret (v := .agg X) (results_cell_row Tryz.results134 _ _ r 41 _ (0, 0) _ rfl hres2.out Tryz.underlying41 rfl hiX) rfl ⟨by rw [← HST2.out, HX.out], HB2.out⟩
      · have hne : (x.key == k) = false := by simpa using he
        have hst := HST.out
        rw [if_neg he] at hst
        have HST2 := Lib.hid hst
        clear hst he
        go_wp2_with (first
          | (refine wpList_exec rfl (exec_load_sy (.tmp 12) rfl bs (off + i * 4) rfl x C1.out) ?_; rw [← HX.out])
          | (refine wpList_store_row rfl rfl 41 (.tmp 6) (.tmp 13) rfl wr.heap.size rfl 41 _ X rfl hbx hz2 hiX hX1 ?_; rw [← HW1.out]))
        go_roundw
        case rel => exact ⟨i + 1, by omega, by go_num, HST2, Lib.hid ⟨HBW.out, HRES.out⟩⟩
        case measure => simp [intOf]; omega
    · have hN : i = n := by omega
      subst hN
      have i1 : ¬ (i : Int) < i := by omega
      have hst := HE.out
      rw [HN.out, List.drop_length] at hst
      have hres := HB.out.2
      obtain ⟨X, hX⟩ : ∃ X : Array Value, X = #[.string ⟨#[]⟩, .int .i64 7, .slice none 0 0, .bool false] := ⟨_, rfl⟩
      have hXs : X.size = 4 := by rw [hX]; rfl
      have hX1 : ∀ v ∈ X.toList, v.oneCell' = true := by rw [hX]; exact encSy.one noSy
      have hiX : (Tryz.prog.info? 41).map (·.size) = some X.size := by rw [hXs]; exact HII.out
      have hrz : ZS.size = X.size := by rw [hZs, hXs]
      obtain ⟨W2, hW2⟩ : ∃ W2, W2 = wr.setRow r X := ⟨_, rfl⟩
      have hres2 : Hid (W2.heap[r]? = some (.cells X 41 (0, 0))) := Lib.hid (by rw [hW2]; exact setRow_heap _ _ _ _ _ _ hres)
      have HB2 : Hid (Below w.heap.size w W2) := Lib.hid (by
        rw [hW2]
        exact HB.out.1.trans (((Mod.refl (fun _ => False) wr).setRow (g := r) X).to_below HB.out.1.size (by rintro k hk (h | h); exact h; omega)))
      have HX := Lib.hid hX
      have HRX : Hid (R = noSy) := Lib.hid hst.symm
      have HW2 := Lib.hid hW2
      clear hW2 hst hX HE HB
      go_wp2_with (rw [← HX.out]; refine wpList_store_row rfl rfl 41 (.tmp 4) (.tmp 20) rfl r rfl 41 ZS X rfl hres hrz hiX hX1 ?_; rw [← HW2.out])
      exact bodyPost_ret (v := .agg X) (results_cell_row Tryz.results134 _ _ r 41 _ (0, 0) _ rfl hres2.out Tryz.underlying41 rfl hiX) rfl ⟨by rw [HRX.out, HX.out]; rfl, HB2.out⟩
end Go.Proofs.YtjjkobbajbbgdaaGreatDoor

namespace Go.Proofs.YtjjkobbajbbgdaaGreatDoor
open Go.RowKit

theorem see_field1 (s : Sy) (w : World) : (Instr.field 41 (.agg (syc s)) 1).run Tryz.prog w = .ok (.int .i64 s.kn) w := by kernel_rfl
theorem see_field2 (s : Sy) (w : World) : (Instr.field 41 (.agg (syc s)) 2).run Tryz.prog w = .ok (.slice s.bp s.bh.length s.bc) w := by kernel_rfl
theorem see_field3 (s : Sy) (w : World) : (Instr.field 41 (.agg (syc s)) 3).run Tryz.prog w = .ok (.bool s.ft) w := by kernel_rfl
set_option maxRecDepth 20000 in
set_option maxHeartbeats 1000000 in
theorem vknown_any (p : Option Addr) (cap : Nat) (L : List Sy) (k : List UInt8) (w : World) (hL : Rd encSy w p L) (hn : L.length ≤ 1000000) :
    Calls Tryz.prog 133 #[.agg #[.slice p L.length cap], .string ⟨k.toArray⟩] w fun r w' => r = .returned (.int .i64 (lookY k L).kn) ∧ Below w.heap.size w w' := by
  have hlk : Hid (∀ w', Below w.heap.size w w' → Calls Tryz.prog 134 #[.agg #[.slice p L.length cap], .string ⟨k.toArray⟩] w' fun r w'' => r = .returned (.agg (syc (lookY k L))) ∧ Below w'.heap.size w' w'') := Lib.hid (fun w' hb => vlook_any p cap L k w' (hL.old hb) hn)
  have hf := see_field1 (lookY k L)
  obtain ⟨S, hS⟩ : ∃ S, S = syc (lookY k L) := ⟨_, rfl⟩
  rw [← hS] at hlk hf
  generalize (lookY k L).kn = R at hf ⊢
  generalize L.length = n at hlk ⊢
  have hb : Hid (Below w.heap.size w (w.alloc (.cells #[.slice p n cap] 44))) := Lib.hid ((Below.refl _ w).alloc (Nat.le_refl _) _)
  clear hL hn hS
  go_enter Tryz.func133, Tryz.ntmps133
  go_wp2_with fail
  refine (hlk.out _ hb.out).mono ?_
  rintro e w2 ⟨rfl, hb2⟩
  have HB2 := Lib.hid (hb.out.trans (hb2.mono hb.out.size))
  have hf2 := hf w2
  clear hb2 hf hlk hb
  go_wp2_with fail
  go_ret
  exact ⟨rfl, HB2.out⟩
set_option maxRecDepth 20000 in
set_option maxHeartbeats 1000000 in
theorem vfits_any (p : Option Addr) (cap : Nat) (L : List Sy) (k : List UInt8) (w : World) (hL : Rd encSy w p L) (hn : L.length ≤ 1000000) :
    Calls Tryz.prog 132 #[.agg #[.slice p L.length cap], .string ⟨k.toArray⟩] w fun r w' => r = .returned (.bool (lookY k L).ft) ∧ Below w.heap.size w w' := by
  have hlk : Hid (∀ w', Below w.heap.size w w' → Calls Tryz.prog 134 #[.agg #[.slice p L.length cap], .string ⟨k.toArray⟩] w' fun r w'' => r = .returned (.agg (syc (lookY k L))) ∧ Below w'.heap.size w' w'') := Lib.hid (fun w' hb => vlook_any p cap L k w' (hL.old hb) hn)
  have hf := see_field3 (lookY k L)
  obtain ⟨S, hS⟩ : ∃ S, S = syc (lookY k L) := ⟨_, rfl⟩
  rw [← hS] at hlk hf
  generalize (lookY k L).ft = R at hf ⊢
  generalize L.length = n at hlk ⊢
  have hb : Hid (Below w.heap.size w (w.alloc (.cells #[.slice p n cap] 44))) := Lib.hid ((Below.refl _ w).alloc (Nat.le_refl _) _)
  clear hL hn hS
  go_enter Tryz.func132, Tryz.ntmps132
  go_wp2_with fail
  refine (hlk.out _ hb.out).mono ?_
  rintro e w2 ⟨rfl, hb2⟩
  have HB2 := Lib.hid (hb.out.trans (hb2.mono hb.out.size))
  have hf2 := hf w2
  clear hb2 hf hlk hb
  go_wp2_with fail
  go_ret
  exact ⟨rfl, HB2.out⟩
/-- Is a text among some? -/
def hasT (s : List UInt8) : List (List UInt8) → Bool
  | [] => false
  | x :: l => if x = s then true else hasT s l
theorem hasT_drop (k : List UInt8) (L : List (List UInt8)) (i : Nat) (h : i < L.length) : hasT k (L.drop i) = if L[i] = k then true else hasT k (L.drop (i + 1)) := by
  rw [List.drop_eq_getElem_cons h]; rfl
theorem rd_text {w : World} {ao : Option Addr} {L : List (List UInt8)} (h : Rd encS w ao L) (j : Nat) (hj : j < L.length) : ∃ bs off, ao = some ⟨bs, off, none⟩ ∧ bs < w.heap.size ∧ w.cell? ⟨bs, off + j, none⟩ = some (.string ⟨(L[j]).toArray⟩) := by
  obtain ⟨bs, off, e, hb, c⟩ := h j hj
  exact ⟨bs, off, e, hb, by have := c 0 _ rfl; simpa [encS] using this⟩
set_option maxRecDepth 20000 in
set_option maxHeartbeats 4000000 in
theorem vbehind_any (p : Option Addr) (cap : Nat) (L : List Sy) (k b : List UInt8) (w : World) (hL : Rd encSy w p L) (hn : L.length ≤ 1000000) (hY : Rd encS w (lookY k L).bp (lookY k L).bh) (hm : (lookY k L).bh.length ≤ 1000000) :
    Calls Tryz.prog 131 #[.agg #[.slice p L.length cap], .string ⟨k.toArray⟩, .string ⟨b.toArray⟩] w fun r w' => r = .returned (.bool (hasT b (lookY k L).bh)) ∧ Below w.heap.size w w' := by
  have hlk : Hid (∀ w', Below w.heap.size w w' → Calls Tryz.prog 134 #[.agg #[.slice p L.length cap], .string ⟨k.toArray⟩] w' fun r w'' => r = .returned (.agg (syc (lookY k L))) ∧ Below w'.heap.size w' w'') := Lib.hid (fun w' hb => vlook_any p cap L k w' (hL.old hb) hn)
  have hf := see_field2 (lookY k L)
  obtain ⟨S, hS⟩ : ∃ S, S = syc (lookY k L) := ⟨_, rfl⟩
  rw [← hS] at hlk hf
  generalize (lookY k L).bp = bp at hf hY ⊢
  generalize (lookY k L).bc = bc at hf ⊢
  generalize (lookY k L).bh = B at hf hY hm ⊢
  generalize L.length = n at hlk ⊢
  obtain ⟨m, hmB⟩ : ∃ m, m = B.length := ⟨_, rfl⟩
  obtain ⟨R, hR⟩ : ∃ R, R = hasT b B := ⟨_, rfl⟩
  rw [← hmB] at hf hm
  rw [← hR]
  have HR := Lib.hid hR
  have HM := Lib.hid hmB
  have HY := Lib.hid hY
  have hb : Hid (Below w.heap.size w (w.alloc (.cells #[.slice p n cap] 44))) := Lib.hid ((Below.refl _ w).alloc (Nat.le_refl _) _)
  clear hL hn hS hY hmB hR
  go_enter Tryz.func131, Tryz.ntmps131
  go_wp2_with fail
  refine (hlk.out _ hb.out).mono ?_
  rintro e w2 ⟨rfl, hb2⟩
  have HB2 := Lib.hid (hb.out.trans (hb2.mono hb.out.size))
  have hf2 := hf w2
  clear hb2 hf hlk hb
  go_wp2_with fail
  go_loopw [8, 14] (fun _ s14 wr => ∃ i : Nat, i ≤ m ∧ s14 = .int .i64 (i : Int) ∧ Hid (hasT b (B.drop i) = R) ∧ wr = w2) (fun _ s14 _ => m - (intOf s14).toNat)
  case atStart => exact ⟨0, Nat.zero_le _, by go_num, Lib.hid (by rw [List.drop_zero]; exact HR.out.symm), rfl⟩
  case round =>
    obtain ⟨i, hi, rfl, HE, rfl⟩ := hrel
    by_cases hlt : i < m
    · have hiL : i < B.length := by rw [← HM.out]; exact hlt
      obtain ⟨bs, off, hp, hbs, c1⟩ := rd_text (HY.out.old HB2.out) i hiL
      have hstep := HE.out
      rw [hasT_drop b B i hiL] at hstep
      obtain ⟨x, hx⟩ : ∃ x, x = B[i] := ⟨_, rfl⟩
      rw [← hx] at c1 hstep
      subst hp
      have i0 : (0 : Int) ≤ i := by omega
      have i1 : (i : Int) < m := by omega
      clear hx
      by_cases he : x = b
      · subst he
        rw [if_pos rfl] at hstep
        have HST := Lib.hid hstep
        clear hstep
        go_wp2_with fail
        go_ret
        exact ⟨by rw [← HST.out]; rfl, HB2.out⟩
      · have hne : (x == b) = false := by simpa using he
        rw [if_neg he] at hstep
        have HST := Lib.hid hstep
        clear hstep he
        go_wp2_with fail
        go_roundw
        case rel => exact ⟨i + 1, by omega, by go_num, HST, trivial⟩
        case measure => simp [intOf]; omega
    · have hN : i = m := by omega
      subst hN
      have i1 : ¬ (i : Int) < i := by omega
      have hst := HE.out
      rw [HM.out, List.drop_length] at hst
      have HST := Lib.hid hst
      clear hst HE
      go_wp2_with fail
      go_ret
      exact ⟨by rw [← HST.out]; rfl, HB2.out⟩
end Go.Proofs.YtjjkobbajbbgdaaGreatDoor

namespace Go.Proofs.YtjjkobbajbbgdaaGreatDoor
open Go.RowKit

theorem seen1_any (w : World) : CallsD Tryz.prog 92 #[] .returning w fun e u' w' => e = .returned (.tuple #[]) ∧ u' = .returning ∧ w' = w := by
  refine callsD_of_wpS Tryz.func92 rfl fun c₀ cs hu => ?_
  apply wpS_region
  cases c₀
  simp_all [wpOpsS, go_sem, recoverD, Tryz.ntmps92, bodyPostS, results, Tryz.results92]
theorem vm_known (v : Value) (w : World) : (method 293 44 v "Known").run Tryz.prog w = .ok (133, v) w := by kernel_rfl
theorem vm_behind (v : Value) (w : World) : (method 293 44 v "Behind").run Tryz.prog w = .ok (131, v) w := by kernel_rfl
theorem vm_fits (v : Value) (w : World) : (method 293 44 v "Fits").run Tryz.prog w = .ok (132, v) w := by kernel_rfl
set_option maxRecDepth 20000 in
set_option maxHeartbeats 2000000 in
/-- Where the tipset is there, has the base behind it, and fits. -/
theorem seen_ok (c : Ct) (p q : Option Addr) (cp cq : Nat) (pl : Option Addr) (cap : Nat) (L : List Sy) (w : World) (hL : Rd encSy w pl L) (hn : L.length ≤ 1000000)
    (hY : Rd encS w (lookY c.fin L).bp (lookY c.fin L).bh) (hm : (lookY c.fin L).bh.length ≤ 1000000) (h1 : (lookY c.fin L).kn = 0) (h2 : hasT c.base (lookY c.fin L).bh = true) (h3 : (lookY c.fin L).ft = true) :
    Calls Tryz.prog 76 #[.agg (ctc c p q cp cq), .iface 44 (.agg #[.slice pl L.length cap])] w fun r w' => r = .returned (.int .i64 0) ∧ Below w.heap.size w w' := by
  have hk : Hid (∀ w', Below w.heap.size w w' → Calls Tryz.prog 133 #[.agg #[.slice pl L.length cap], .string ⟨c.fin.toArray⟩] w' fun r w'' => r = .returned (.int .i64 0) ∧ Below w'.heap.size w' w'') := Lib.hid (fun w' hb => by have := vknown_any pl cap L c.fin w' (hL.old hb) hn; rw [h1] at this; exact this)
  have hbh : Hid (∀ w', Below w.heap.size w w' → Calls Tryz.prog 131 #[.agg #[.slice pl L.length cap], .string ⟨c.fin.toArray⟩, .string ⟨c.base.toArray⟩] w' fun r w'' => r = .returned (.bool true) ∧ Below w'.heap.size w' w'') := Lib.hid (fun w' hb => by have := vbehind_any pl cap L c.fin c.base w' (hL.old hb) hn (hY.old hb) hm; rw [h2] at this; exact this)
  have hft : Hid (∀ w', Below w.heap.size w w' → Calls Tryz.prog 132 #[.agg #[.slice pl L.length cap], .string ⟨c.fin.toArray⟩] w' fun r w'' => r = .returned (.bool true) ∧ Below w'.heap.size w' w'') := Lib.hid (fun w' hb => by have := vfits_any pl cap L c.fin w' (hL.old hb) hn; rw [h3] at this; exact this)
  generalize L.length = n at hk hbh hft ⊢
  obtain ⟨inst, base, fin, sg, ch⟩ := c
  unfold ctc
  simp only at *
  generalize sg.length = n1 at *
  generalize ch.length = n2 at *
  clear hL hn hY hm h1 h2 h3
  have hb : Hid (Below w.heap.size w (w.alloc (.cells #[.int .i64 inst, .string ⟨base.toArray⟩, .string ⟨fin.toArray⟩, .slice p n1 cp, .slice q n2 cq] 47))) := Lib.hid ((Below.refl _ w).alloc (Nat.le_refl _) _)
  have hc : Hid (∀ w2, Below w.heap.size w w2 → Below w.heap.size w w2 → (w.alloc (.cells #[.int .i64 inst, .string ⟨base.toArray⟩, .string ⟨fin.toArray⟩, .slice p n1 cp, .slice q n2 cq] 47)).heap.size ≤ w2.heap.size → True) := Lib.hid (fun _ _ _ _ => trivial)
  have hrow := heap_alloc_new w (.cells #[.int .i64 inst, .string ⟨base.toArray⟩, .string ⟨fin.toArray⟩, .slice p n1 cp, .slice q n2 cq] 47)
  obtain ⟨g, hg⟩ : ∃ g, g = w.heap.size := ⟨_, rfl⟩
  rw [← hg] at hrow
  have HROW := Lib.hid hrow
  have HG := Lib.hid hg
  have k1 := vm_known (.agg #[.slice pl n cap])
  have k2 := vm_behind (.agg #[.slice pl n cap])
  have k3 := vm_fits (.agg #[.slice pl n cap])
  have HD := Lib.hid seen1_any
  clear hrow hg hc
  go_enter_defers Tryz.func76, Tryz.ntmps76
  go_wp2_with fail
  rw [← HG.out] at *
  refine (hk.out _ hb.out).mono ?_
  rintro e w2 ⟨rfl, hb2⟩
  have HB2 := Lib.hid (hb.out.trans (hb2.mono hb.out.size))
  have HROW2 := Lib.hid ((hb2.block _ (Array.getElem?_eq_some_iff.1 HROW.out).1).trans HROW.out)
  have c1 := cell_of_row w2 g 1 _ _ _ HROW2.out
  have c2 := cell_of_row w2 g 2 _ _ _ HROW2.out
  clear hb2 HROW hk hb
  go_wp2_with fail
  refine (hbh.out _ HB2.out).mono ?_
  rintro e w3 ⟨rfl, hb3⟩
  have HB3 := Lib.hid (HB2.out.trans (hb3.mono HB2.out.size))
  have HROW3 := Lib.hid ((hb3.block _ (Array.getElem?_eq_some_iff.1 HROW2.out).1).trans HROW2.out)
  have d2 := cell_of_row w3 g 2 _ _ _ HROW3.out
  clear hb3 HROW2 hbh HB2
  go_wp2_with fail
  refine (hft.out _ HB3.out).mono ?_
  rintro e w4 ⟨rfl, hb4⟩
  have HB4 := Lib.hid (HB3.out.trans (hb4.mono HB3.out.size))
  clear hb4 HROW3 hft HB3
  go_wp2_with fail
  refine leaves_cons (f := 92) (args := #[]) (by simp) (by simp [go_sem]) ?_
  refine (HD.out w4).mono ?_
  rintro e u w5 ⟨rfl, rfl, rfl⟩
  exact ⟨_, results_tmp rfl _ _ _, rfl, HB4.out⟩
end Go.Proofs.YtjjkobbajbbgdaaGreatDoor

namespace Go.Proofs.YtjjkobbajbbgdaaGreatDoor
open Go.RowKit

set_option maxRecDepth 20000 in
set_option maxHeartbeats 8000000 in
theorem knext_no (c : Ct) (p q : Option Addr) (cp cq : Nat) (P : List Nat) (w : World) (hP : IsTab P) (hS : CtAt w c p q) (l1 : c.sg.length ≤ 1000000) (l2 : c.ch.length ≤ 1000000) (hq : ¬ 2 * tsum P < 3 * tsum (sig P c.sg)) :
    Calls Tryz.prog 47 #[.agg (ctc c p q cp cq), tval P] w fun r w' => r = .returned (.tuple #[tval (List.replicate 64 0), .int .i64 14]) ∧ Below w.heap.size w w' := by
  obtain ⟨inst, base, fin, sg, ch⟩ := c
  obtain ⟨hS1, hS2⟩ := hS
  simp only at *
  have hqu : Hid (∀ w, Rd encI w p sg → Calls Tryz.prog 77 #[tval P, .slice p sg.length cp] w fun r w' => r = .returned (.bool false) ∧ Below w.heap.size w w') := Lib.hid (fun w h => by
    have := quorum_any P p cp sg w hP (ints_of h) l1
    rw [decide_eq_false hq] at this; exact this)
  unfold ctc
  simp only
  unfold tval at *
  obtain ⟨A, hA⟩ : ∃ A, A = (nums .i64 P).toArray := ⟨_, rfl⟩
  have hAs := hP.row hA
  obtain ⟨Z, hZ⟩ : ∃ Z, Z = (nums .i64 (List.replicate 64 0)).toArray := ⟨_, rfl⟩
  have hz : ∀ w : World, (zeroValue 26).run Tryz.prog w = .ok (.agg Z) w := by rw [hZ]; exact fun _ => by kernel_rfl
  have hZs : Z.size = 64 := by rw [hZ]; simp [nums_len]
  have h1Z := tab_one hZ
  rw [← hA] at hqu
  rw [← hZ, ← hA]
  have HS1 := Lib.hid hS1
  have HS2 := Lib.hid hS2
  generalize sg.length = n at *
  generalize ch.length = m at *
  obtain ⟨W0, hW0⟩ : ∃ W, W = ((w.alloc (.cells #[.int .i64 inst, .string ⟨base.toArray⟩, .string ⟨fin.toArray⟩, .slice p n cp, .slice q m cq] 47)).alloc (.cells A 26)).alloc (.cells Z 26) := ⟨_, rfl⟩
  have hB : Hid (Below w.heap.size w W0) := Lib.hid (by rw [hW0]; exact (((Below.refl _ _).alloc (Nat.le_refl _) _).alloc (by simp) _).alloc (by simp; omega) _)
  have b0 : W0.heap[w.heap.size]? = some (.cells #[.int .i64 inst, .string ⟨base.toArray⟩, .string ⟨fin.toArray⟩, .slice p n cp, .slice q m cq] 47 (0, 0)) := by
    rw [hW0, Below.heap_alloc _ _ _ (by simp; omega), Below.heap_alloc _ _ _ (by simp)]; exact heap_alloc_new _ _
  have b1 : W0.heap[w.heap.size + 1]? = some (.cells A 26 (0, 0)) := by
    rw [hW0, Below.heap_alloc _ _ _ (by simp)]; have := heap_alloc_new (w.alloc (.cells #[.int .i64 inst, .string ⟨base.toArray⟩, .string ⟨fin.toArray⟩, .slice p n cp, .slice q m cq] 47)) (.cells A 26); simpa using this
  have b2 : W0.heap[w.heap.size + 2]? = some (.cells Z 26 (0, 0)) := by
    rw [hW0]; have := heap_alloc_new ((w.alloc (.cells #[.int .i64 inst, .string ⟨base.toArray⟩, .string ⟨fin.toArray⟩, .slice p n cp, .slice q m cq] 47)).alloc (.cells A 26)) (.cells Z 26); simpa using this
  have c3 : W0.cell? ⟨w.heap.size, 3, none⟩ = some (.slice p n cp) := cell_of_row W0 _ 3 _ 47 (0, 0) b0
  have HB0 := Lib.hid b0
  have HB1 := Lib.hid b1
  have HB2 := Lib.hid b2
  have HW := Lib.hid hW0
  clear hW0 b0 b2 hA hZ hq hP hS1 hS2
  have q3 : (Tryz.prog.info? 26).map (·.size) = some A.size := by rw [hAs]; kernel_rfl
  have q4 : (Tryz.prog.info? 26).map (·.size) = some Z.size := by rw [hZs]; kernel_rfl
  go_enter Tryz.func47, Tryz.ntmps47
  go_wp2_with (rw [← HW.out]; refine wpList_load_row rfl 26 (.tmp 3) rfl (w.heap.size + 1) rfl 26 A (0, 0) _ b1 Tryz.underlying26 rfl q3 ?_)
  refine (hqu.out W0 (HS1.out.old hB.out)).mono ?_
  rintro r w1 ⟨rfl, hb1⟩
  have d2 := (hb1.block _ (Array.getElem?_eq_some_iff.1 HB2.out).1).trans HB2.out
  have HB4 := Lib.hid (hB.out.trans (hb1.mono hB.out.size))
  have L0 := Lib.hid (tab_res (setRow_heap w1 (w.heap.size + 2) Z Z 26 (0, 0) d2) hZs)
  have LB : Hid (Below w.heap.size w (w1.setRow (w.heap.size + 2) Z)) := Lib.hid (((Mod.of_below HB4.out).setRow Z).to_below (Nat.le_refl _) (by rintro k hk (h | h) <;> omega))
  have q5 := h1Z.out
  clear hb1 c3 b1
  go_wp2_with (refine wpList_store_row rfl rfl 26 (.tmp 4) (.tmp 11) rfl (w.heap.size + 2) rfl 26 Z Z rfl d2 rfl q4 q5 ?_)
  exact bodyPost_ret (v := .tuple #[.agg Z, .int .i64 14]) (by simp [results, Tryz.results47, asAddr, L0.out]) rfl ⟨rfl, LB.out⟩
end Go.Proofs.YtjjkobbajbbgdaaGreatDoor

namespace Go.Proofs.YtjjkobbajbbgdaaGreatDoor
open Go.RowKit

set_option maxRecDepth 20000 in
set_option maxHeartbeats 2000000 in
theorem verdict_next {w : World} {b0 : Nat} {P : List Nat} {D : List Cc} {qd : Option Addr} {cap wp mb : Nat} (h : FC w b0 P D qd cap wp mb) (c : Ct) (p q : Option Addr) (cp cq : Nat) (hi : c.inst = (D.length : Nat)) (hD : D.length ≤ 1000000) (V : Value) (E : Int)
    (hj : ∀ w', Below w.heap.size w w' → Calls Tryz.prog 46 #[.pointer (some ⟨b0, 0, none⟩), .agg (ctc c p q cp cq), V] w' fun r w'' => r = .returned (.int .i64 E) ∧ Below w'.heap.size w' w'') :
    Calls Tryz.prog 28 #[.pointer (some ⟨b0, 0, none⟩), .agg (ctc c p q cp cq), V] w fun r w' => r = .returned (.int .i64 E) ∧ Below w.heap.size w w' := by
  obtain ⟨inst, base, fin, sg, ch⟩ := c
  simp only at hi
  subst hi
  unfold ctc at *
  simp only at *
  generalize sg.length = n1 at *
  generalize ch.length = n2 at *
  have hb : Below w.heap.size w (w.alloc (.cells #[.int .i64 (D.length : Nat), .string ⟨base.toArray⟩, .string ⟨fin.toArray⟩, .slice p n1 cp, .slice q n2 cq] 47)) := (Below.refl _ w).alloc (Nat.le_refl _) _
  have hrow := heap_alloc_new w (.cells #[.int .i64 (D.length : Nat), .string ⟨base.toArray⟩, .string ⟨fin.toArray⟩, .slice p n1 cp, .slice q n2 cq] 47)
  have hn : ∀ u, Below (w.alloc (.cells #[.int .i64 (D.length : Nat), .string ⟨base.toArray⟩, .string ⟨fin.toArray⟩, .slice p n1 cp, .slice q n2 cq] 47)).heap.size (w.alloc (.cells #[.int .i64 (D.length : Nat), .string ⟨base.toArray⟩, .string ⟨fin.toArray⟩, .slice p n1 cp, .slice q n2 cq] 47)) u → Calls Tryz.prog 14 #[.pointer (some ⟨b0, 0, none⟩)] u fun r w' => r = .returned (.int .i64 (D.length : Nat)) ∧ w' = u := fun u hu => fnext_any ((h.old hb).old hu)
  have hJ := Lib.hid hj
  generalize D.length = n at *
  obtain ⟨W1, hW1⟩ : ∃ W1, W1 = (w.alloc (.cells #[.int .i64 (n : Nat), .string ⟨base.toArray⟩, .string ⟨fin.toArray⟩, .slice p n1 cp, .slice q n2 cq] 47)) := ⟨_, rfl⟩
  obtain ⟨g, hg⟩ : ∃ g, g = w.heap.size := ⟨_, rfl⟩
  rw [← hg] at hrow
  rw [← hW1] at hrow hn hb
  have HW := Lib.hid hW1
  have HG := Lib.hid hg
  have HB := Lib.hid hb
  have HN := Lib.hid hn
  have HG0 : Hid ((fun (_ : Nat) (_ : Value) (w1 : World) => Below W1.heap.size W1 w1) 0 undef W1.drew) := Lib.hid ((Below.refl _ W1).drew)
  have c0 := cell_of_row W1 g 0 _ _ _ hrow
  have HROW := Lib.hid hrow
  have i1 : ¬ (n : Int) < n := by omega
  have i2 : ¬ (n : Int) > n := by omega
  clear h hj hW1 hg hrow hb hn
  go_enter Tryz.func28, Tryz.ntmps28
  go_wp2_with fail
  rw [← HW.out, ← HG.out]
  refine wp_region_chain (fun t v => match t with
    | 8 => v = .pointer (some ⟨g, 0, none⟩)
    | 9 => v = .int .i64 (n : Nat)
    | 10 => v = .pointer (some ⟨b0, 0, none⟩)
    | 11 => v = .int .i64 (n : Nat)
    | 12 => v = .bool false
    | 7 => v = .bool false
    | _ => True) (fun (_ : Nat) (_ : Value) (w1 : World) => Below W1.heap.size W1 w1) [3] 23 (by kernel_rfl) (by decide +kernel) rfl (by decide +kernel) (by decide) (by decide) HG0.out (by
    refine OweAllC.cons (owesC_val 1 (by decide +kernel) (by decide) rfl rfl fun k' a w1 x hk ha hG hV => ?_) ?_
    · skip
      have h4 := ha.outer 4 (by decide +kernel)
      simp only [Act.eval] at h4
      exact ⟨.pointer (some ⟨g, 0, none⟩), wanted_free rfl, by simp [execOp, go_sem, h4], rfl⟩
    refine OweAllC.cons (owesC_val 1 (by decide +kernel) (by decide) rfl rfl fun k' a w1 x hk ha hG hV => ?_) ?_
    · skip
      have h8 : a.tmps.getD 8 undef = .pointer (some ⟨g, 0, none⟩) := hV.get 8 (by decide +kernel)
      have cc := cell_of_row w1 g 0 _ _ _ ((hG.block g (Array.getElem?_eq_some_iff.1 HROW.out).1).trans HROW.out)
      exact ⟨.int .i64 (n : Nat), wanted_free rfl, by simp [execOp, go_sem, h8, cc], rfl⟩
    refine OweAllC.cons (owesC_val 0 (by decide +kernel) (by decide) rfl rfl fun k' a w1 x hk ha hG hV => ?_) ?_
    · skip
      have h0 := ha.outer 0 (by decide +kernel)
      simp only [Act.eval] at h0
      exact ⟨.pointer (some ⟨b0, 0, none⟩), wanted_free rfl, by simp [execOp, go_sem, h0], rfl⟩
    refine OweAllC.cons (owesC_call 0 rfl rfl rfl 14 fun a w1 x ha hG hx hV => ?_) ?_
    · skip
      have h10 : a.tmps.getD 10 undef = .pointer (some ⟨b0, 0, none⟩) := hV.get 10 (by decide +kernel)
      refine ⟨#[.pointer (some ⟨b0, 0, none⟩)], wanted_free rfl, by simp [execOp, resolve, invoke, go_sem, h10], ?_⟩
      refine (HN.out w1 hG).mono ?_
      rintro r u2 ⟨rfl, rfl⟩
      exact ⟨_, rfl, rfl, hG⟩
    refine OweAllC.cons (owesC_val 1 (by decide +kernel) (by decide) rfl rfl fun k' a w1 x hk ha hG hV => ?_) ?_
    · skip
      have h9 : a.tmps.getD 9 undef = .int .i64 (n : Nat) := hV.get 9 (by decide +kernel)
      have h11 : a.tmps.getD 11 undef = .int .i64 (n : Nat) := hV.get 11 (by decide +kernel)
      exact ⟨.bool false, wanted_free rfl, by simp [execOp, go_sem, h9, h11, i1], rfl⟩
    refine OweAllC.cons (owesC_val 1 (by decide +kernel) (by decide) rfl rfl fun k' a w1 x hk ha hG hV => ?_) ?_
    · skip
      have h12 : a.tmps.getD 12 undef = .bool false := hV.get 12 (by decide +kernel)
      exact ⟨.bool false, wanted_free rfl, by simp [execOp, go_sem, h12], rfl⟩
    exact OweAllC.nil
    ) ?_
  intro f wz xz hG hx hv
  have e7 : f 7 = .bool false := hv 5 _ 7 rfl rfl
  first | (rename_i hK; refine hK _ _ ?_; clear hK) | (rename_i hK _; refine hK _ _ ?_; clear hK) | (rename_i hK _ _; refine hK _ _ ?_; clear hK) | (rename_i hK _ _ _; refine hK _ _ ?_; clear hK)
  clear hv hx
  simp only [dsts, puts, List.filterMap_cons, List.filterMap_nil, List.foldl_cons, List.foldl_nil, Act.put, List.setIfInBounds_toArray, List.set_cons_succ, List.set_cons_zero, e7]
  clear e7
  have HB1 := Lib.hid hG
  clear hG HG0
  go_wp2_with fail
  have HG0 : Hid ((fun (_ : Nat) (_ : Value) (w1 : World) => Below W1.heap.size W1 w1) 0 undef wz.drew) := Lib.hid (HB1.out.drew)
  refine wp_region_chain (fun t v => match t with
    | 14 => v = .pointer (some ⟨g, 0, none⟩)
    | 15 => v = .int .i64 (n : Nat)
    | 16 => v = .pointer (some ⟨b0, 0, none⟩)
    | 17 => v = .int .i64 (n : Nat)
    | 18 => v = .bool false
    | 13 => v = .bool false
    | _ => True) (fun (_ : Nat) (_ : Value) (w1 : World) => Below W1.heap.size W1 w1) [3] 23 (by kernel_rfl) (by decide +kernel) rfl (by decide +kernel) (by decide) (by decide) HG0.out (by
    refine OweAllC.cons (owesC_val 1 (by decide +kernel) (by decide) rfl rfl fun k' a w1 x hk ha hG hV => ?_) ?_
    · skip
      have h4 := ha.outer 4 (by decide +kernel)
      simp only [Act.eval] at h4
      exact ⟨.pointer (some ⟨g, 0, none⟩), wanted_free rfl, by simp [execOp, go_sem, h4], rfl⟩
    refine OweAllC.cons (owesC_val 1 (by decide +kernel) (by decide) rfl rfl fun k' a w1 x hk ha hG hV => ?_) ?_
    · skip
      have h14 : a.tmps.getD 14 undef = .pointer (some ⟨g, 0, none⟩) := hV.get 14 (by decide +kernel)
      have cc := cell_of_row w1 g 0 _ _ _ ((hG.block g (Array.getElem?_eq_some_iff.1 HROW.out).1).trans HROW.out)
      exact ⟨.int .i64 (n : Nat), wanted_free rfl, by simp [execOp, go_sem, h14, cc], rfl⟩
    refine OweAllC.cons (owesC_val 0 (by decide +kernel) (by decide) rfl rfl fun k' a w1 x hk ha hG hV => ?_) ?_
    · skip
      have h0 := ha.outer 0 (by decide +kernel)
      simp only [Act.eval] at h0
      exact ⟨.pointer (some ⟨b0, 0, none⟩), wanted_free rfl, by simp [execOp, go_sem, h0], rfl⟩
    refine OweAllC.cons (owesC_call 0 rfl rfl rfl 14 fun a w1 x ha hG hx hV => ?_) ?_
    · skip
      have h16 : a.tmps.getD 16 undef = .pointer (some ⟨b0, 0, none⟩) := hV.get 16 (by decide +kernel)
      refine ⟨#[.pointer (some ⟨b0, 0, none⟩)], wanted_free rfl, by simp [execOp, resolve, invoke, go_sem, h16], ?_⟩
      refine (HN.out w1 hG).mono ?_
      rintro r u2 ⟨rfl, rfl⟩
      exact ⟨_, rfl, rfl, hG⟩
    refine OweAllC.cons (owesC_val 1 (by decide +kernel) (by decide) rfl rfl fun k' a w1 x hk ha hG hV => ?_) ?_
    · skip
      have h15 : a.tmps.getD 15 undef = .int .i64 (n : Nat) := hV.get 15 (by decide +kernel)
      have h17 : a.tmps.getD 17 undef = .int .i64 (n : Nat) := hV.get 17 (by decide +kernel)
      exact ⟨.bool false, wanted_free rfl, by simp [execOp, go_sem, h15, h17, i2], rfl⟩
    refine OweAllC.cons (owesC_val 1 (by decide +kernel) (by decide) rfl rfl fun k' a w1 x hk ha hG hV => ?_) ?_
    · skip
      have h18 : a.tmps.getD 18 undef = .bool false := hV.get 18 (by decide +kernel)
      exact ⟨.bool false, wanted_free rfl, by simp [execOp, go_sem, h18], rfl⟩
    exact OweAllC.nil
    ) ?_
  intro f wz xz hG hx hv
  have e13 : f 13 = .bool false := hv 5 _ 13 rfl rfl
  first | (rename_i hK; refine hK _ _ ?_; clear hK) | (rename_i hK _; refine hK _ _ ?_; clear hK) | (rename_i hK _ _; refine hK _ _ ?_; clear hK) | (rename_i hK _ _ _; refine hK _ _ ?_; clear hK)
  clear hv hx
  simp only [dsts, puts, List.filterMap_cons, List.filterMap_nil, List.foldl_cons, List.foldl_nil, Act.put, List.setIfInBounds_toArray, List.set_cons_succ, List.set_cons_zero, e13]
  clear e13
  have HB2 := Lib.hid (HB.out.trans (hG.mono HB.out.size))
  have rr := (hG.block g (Array.getElem?_eq_some_iff.1 HROW.out).1).trans HROW.out
  have r0 := cell_of_row wz g 0 _ _ _ rr
  have r1 := cell_of_row wz g 1 _ _ _ rr
  have r2 := cell_of_row wz g 2 _ _ _ rr
  have r3 := cell_of_row wz g 3 _ _ _ rr
  have r4 := cell_of_row wz g 4 _ _ _ rr
  clear hG HG0 HROW HB1 rr HN
  go_wp2_with fail
  refine (hJ.out wz HB2.out).mono ?_
  rintro r w3 ⟨rfl, hb3⟩
  have HB3 := Lib.hid (HB2.out.trans (hb3.mono HB2.out.size))
  clear hb3 hJ
  go_wp2_with fail
  go_ret
  exact ⟨rfl, HB3.out⟩
end Go.Proofs.YtjjkobbajbbgdaaGreatDoor

namespace Go.Proofs.YtjjkobbajbbgdaaGreatDoor
open Go.RowKit

theorem kset_one (x : Nm) : kB (kset [x]) = x.1 := by
  have e : ksort [x] = [x] := by unfold ksort; simp
  have : kset [x] = [x] := by
    unfold kset
    rw [e]; exact ind_one (by simp)
  rw [this]; simp [kB]
theorem rootkey_rd (w : World) : Rd encN (w.alloc (.cells (vals rootB).toArray 36)) (some ⟨w.heap.size, 0, none⟩) [(⟨rootB, rootB_len⟩ : Nm)] := by
  have h := Rw.made (E := encN) 36 w [(⟨rootB, rootB_len⟩ : Nm)] (by simp [maxLen])
  have e : encN.all [(⟨rootB, rootB_len⟩ : Nm)] = vals rootB := by simp [Enc.all, encN]
  rw [e] at h
  exact h.rd
set_option maxRecDepth 20000 in
set_option maxHeartbeats 2000000 in
theorem final_none {w : World} {b0 : Nat} {P : List Nat} {qd : Option Addr} {cap wp mb : Nat} (h : FC w b0 P [] qd cap wp mb) (hT : TabAt w) :
    Calls Tryz.prog 13 #[.pointer (some ⟨b0, 0, none⟩)] w fun r w' => r = .returned (.string ⟨rootB.toArray⟩) ∧ Below w.heap.size w w' := by
  have c64 := h.c64
  have HT := Lib.hid hT
  have HR := Lib.hid root_any
  have hK : Hid (∀ w' : World, Calls Tryz.prog 7 #[.slice (some ⟨w'.heap.size, 0, none⟩) 1 1] (w'.alloc (.cells (vals rootB).toArray 36)) fun r w'' => r = .returned (.string ⟨rootB.toArray⟩) ∧ Below (w'.alloc (.cells (vals rootB).toArray 36)).heap.size (w'.alloc (.cells (vals rootB).toArray 36)) w'') := Lib.hid (fun w' => by
    have := key_any (some ⟨w'.heap.size, 0, none⟩) 1 [(⟨rootB, rootB_len⟩ : Nm)] _ (rootkey_rd w') (.inr ⟨_, _, rfl⟩) (by show 1 ≤ 1000000; decide)
    rw [kset_one] at this; exact this)
  obtain ⟨RB, hRB⟩ : ∃ RB, RB = rootB := ⟨_, rfl⟩
  have HL : Hid (RB.length = 32) := Lib.hid (by rw [hRB]; exact rootB_len)
  rw [← hRB] at hK HR ⊢
  clear h hT hRB
  simp only [List.length_nil] at c64
  go_enter Tryz.func13, Tryz.ntmps13
  go_wp2_with fail
  refine (HR.out w HT.out).mono ?_
  rintro r w1 ⟨rfl, hb1⟩
  have HB1 := Lib.hid hb1
  clear hb1 HR
  have hb2 : Below w1.heap.size w1 (w1.alloc (.cells (vals RB).toArray 36)) := (Below.refl _ w1).alloc (Nat.le_refl _) _
  have HB2 := Lib.hid (HB1.out.trans (hb2.mono HB1.out.size))
  have HK := Lib.hid (hK.out w1)
  obtain ⟨W2, hW2⟩ : ∃ W2, W2 = w1.alloc (.cells (vals RB).toArray 36) := ⟨_, rfl⟩
  rw [← hW2] at HB2 HK
  have HW2 := Lib.hid hW2
  clear hb2 hK hW2
  go_wp2_with (refine wpList_exec rfl (build_name (.tmp 9) rfl RB HL.out rfl) ?_; rw [← HW2.out])
  refine HK.out.mono ?_
  rintro r w3 ⟨rfl, hb3⟩
  have HB3 := Lib.hid (HB2.out.trans (hb3.mono HB2.out.size))
  clear hb3 HK
  go_wp2_with fail
  go_ret
  exact ⟨rfl, HB3.out⟩
set_option maxRecDepth 20000 in
set_option maxHeartbeats 2000000 in
theorem final_some {w : World} {b0 : Nat} {P : List Nat} {D : List Cc} {qd : Option Addr} {cap wp mb : Nat} (h : FC w b0 P D qd cap wp mb) (h0 : 0 < D.length) (hD : D.length ≤ 1000000) :
    Calls Tryz.prog 13 #[.pointer (some ⟨b0, 0, none⟩)] w fun r w' => r = .returned (.string ⟨(finB D).toArray⟩) ∧ Below w.heap.size w w' := by
  have c64 := h.c64
  rw [finB_last h0]
  obtain ⟨bs, off, hq, hbs, hc⟩ := h.rw.rd (D.length - 1) (by omega)
  have cf := hc 2 _ rfl
  have hlen := h.fl _ (List.getElem_mem (by omega : D.length - 1 < D.length))
  subst hq
  obtain ⟨g, rfl, _⟩ : ∃ g, off = 0 ∧ g = bs := by
    rcases h.rw.shape with ⟨e, _⟩ | ⟨g, e, _⟩
    · cases e
    · cases e; exact ⟨_, rfl, rfl⟩
  have hCL : Hid (∀ u, Below w.heap.size w u → Calls Tryz.prog 33 #[.string ⟨((D[D.length - 1]'(by omega)).c.fin).toArray⟩] u fun r w' => r = .returned (.string ⟨((D[D.length - 1]'(by omega)).c.fin).toArray⟩) ∧ Below u.heap.size u w') := Lib.hid (fun u _ => sclone_any _ u (by omega))
  have hlt := h.lt
  clear hc h
  generalize (D[D.length - 1]'(by omega)).c.fin = FN at *
  generalize D.length = n at *
  have hn1 : (n : Int) - 1 = ((n - 1 : Nat) : Int) := by omega
  have cf' : w.cell? ⟨bs, (n - 1) * 5 + 2, none⟩ = some (.string ⟨FN.toArray⟩) := by rw [show (n - 1) * 5 + 2 = 0 + (n - 1) * encC.k + 2 from by rw [Nat.zero_add]; rfl]; exact cf
  have e1 : ¬ (n : Int) = 0 := by omega
  have HC := Lib.hid cf'
  have H64 := Lib.hid c64
  have HLT := Lib.hid (And.intro hlt hbs)
  have HG0 : Hid ((fun (_ : Nat) (_ : Value) (w1 : World) => Below w.heap.size w w1) 0 undef w.drew) := Lib.hid ((Below.refl _ w).drew)
  clear cf cf' hlen hbs hlt
  go_enter Tryz.func13, Tryz.ntmps13
  go_wp2_with fail
  refine wp_region_chain (fun t v => match t with
    | 12 => v = .pointer (some ⟨b0, 0, none⟩)
    | 13 => v = .pointer (some ⟨b0, 0, none⟩)
    | 14 => v = .pointer (some ⟨b0, 64, none⟩)
    | 15 => v = .slice (some ⟨bs, 0, none⟩) n cap
    | 16 => v = .pointer (some ⟨b0, 0, none⟩)
    | 17 => v = .pointer (some ⟨b0, 0, none⟩)
    | 18 => v = .pointer (some ⟨b0, 64, none⟩)
    | 19 => v = .slice (some ⟨bs, 0, none⟩) n cap
    | 20 => v = .int .i64 (n : Nat)
    | 21 => v = .int .i64 ((n - 1 : Nat) : Int)
    | 22 => v = .pointer (some ⟨bs, (n - 1) * 5, none⟩)
    | 23 => v = .pointer (some ⟨bs, (n - 1) * 5 + 2, none⟩)
    | 24 => v = .string ⟨FN.toArray⟩
    | 25 => v = .string ⟨FN.toArray⟩
    | 2 => v = .string ⟨FN.toArray⟩
    | _ => True) (fun (_ : Nat) (_ : Value) (w1 : World) => Below w.heap.size w w1) [13] 26 (by kernel_rfl) (by decide +kernel) rfl (by decide +kernel) (by decide) (by decide) HG0.out (by
    refine OweAllC.cons (owesC_val 0 (by decide +kernel) (by decide) rfl rfl fun k' a w1 x hk ha hG hV => ?_) ?_
    · skip
      have h0 := ha.outer 0 (by decide +kernel)
      simp only [Act.eval] at h0
      exact ⟨.pointer (some ⟨b0, 0, none⟩), wanted_free rfl, by simp [execOp, go_sem, h0], rfl⟩
    refine OweAllC.cons (owesC_val 0 (by decide +kernel) (by decide) rfl rfl fun k' a w1 x hk ha hG hV => ?_) ?_
    · skip
      have h12 : a.tmps.getD 12 undef = .pointer (some ⟨b0, 0, none⟩) := hV.get 12 (by decide +kernel)
      exact ⟨.pointer (some ⟨b0, 0, none⟩), wanted_free rfl, by simp [execOp, go_sem, h12], rfl⟩
    refine OweAllC.cons (owesC_val 0 (by decide +kernel) (by decide) rfl rfl fun k' a w1 x hk ha hG hV => ?_) ?_
    · skip
      have h13 : a.tmps.getD 13 undef = .pointer (some ⟨b0, 0, none⟩) := hV.get 13 (by decide +kernel)
      exact ⟨.pointer (some ⟨b0, 64, none⟩), wanted_free rfl, by simp [execOp, go_sem, h13], rfl⟩
    refine OweAllC.cons (owesC_val 0 (by decide +kernel) (by decide) rfl rfl fun k' a w1 x hk ha hG hV => ?_) ?_
    · skip
      have h14 : a.tmps.getD 14 undef = .pointer (some ⟨b0, 64, none⟩) := hV.get 14 (by decide +kernel)
      have cc := (World.cell?_of_block (hG.block b0 HLT.out.1)).trans H64.out
      exact ⟨.slice (some ⟨bs, 0, none⟩) n cap, wanted_free rfl, by simp [execOp, go_sem, h14, cc], rfl⟩
    refine OweAllC.cons (owesC_val 0 (by decide +kernel) (by decide) rfl rfl fun k' a w1 x hk ha hG hV => ?_) ?_
    · skip
      have h0 := ha.outer 0 (by decide +kernel)
      simp only [Act.eval] at h0
      exact ⟨.pointer (some ⟨b0, 0, none⟩), wanted_free rfl, by simp [execOp, go_sem, h0], rfl⟩
    refine OweAllC.cons (owesC_val 0 (by decide +kernel) (by decide) rfl rfl fun k' a w1 x hk ha hG hV => ?_) ?_
    · skip
      have h16 : a.tmps.getD 16 undef = .pointer (some ⟨b0, 0, none⟩) := hV.get 16 (by decide +kernel)
      exact ⟨.pointer (some ⟨b0, 0, none⟩), wanted_free rfl, by simp [execOp, go_sem, h16], rfl⟩
    refine OweAllC.cons (owesC_val 0 (by decide +kernel) (by decide) rfl rfl fun k' a w1 x hk ha hG hV => ?_) ?_
    · skip
      have h17 : a.tmps.getD 17 undef = .pointer (some ⟨b0, 0, none⟩) := hV.get 17 (by decide +kernel)
      exact ⟨.pointer (some ⟨b0, 64, none⟩), wanted_free rfl, by simp [execOp, go_sem, h17], rfl⟩
    refine OweAllC.cons (owesC_val 0 (by decide +kernel) (by decide) rfl rfl fun k' a w1 x hk ha hG hV => ?_) ?_
    · skip
      have h18 : a.tmps.getD 18 undef = .pointer (some ⟨b0, 64, none⟩) := hV.get 18 (by decide +kernel)
      have cc := (World.cell?_of_block (hG.block b0 HLT.out.1)).trans H64.out
      exact ⟨.slice (some ⟨bs, 0, none⟩) n cap, wanted_free rfl, by simp [execOp, go_sem, h18, cc], rfl⟩
    refine OweAllC.cons (owesC_val 0 (by decide +kernel) (by decide) rfl rfl fun k' a w1 x hk ha hG hV => ?_) ?_
    · skip
      have h19 : a.tmps.getD 19 undef = .slice (some ⟨bs, 0, none⟩) n cap := hV.get 19 (by decide +kernel)
      exact ⟨.int .i64 (n : Nat), wanted_free rfl, by simp [execOp, go_sem, h19], rfl⟩
    refine OweAllC.cons (owesC_val 0 (by decide +kernel) (by decide) rfl rfl fun k' a w1 x hk ha hG hV => ?_) ?_
    · skip
      have h20 : a.tmps.getD 20 undef = .int .i64 (n : Nat) := hV.get 20 (by decide +kernel)
      have hw : IntKind.i64.wrap ((n - 1 : Nat) : Int) = ((n - 1 : Nat) : Int) := by rw [IntKind.wrap_i64]; omega
      exact ⟨.int .i64 ((n - 1 : Nat) : Int), wanted_free rfl, by simp [execOp, go_sem, h20, hw, hn1], rfl⟩
    refine OweAllC.cons (owesC_val 0 (by decide +kernel) (by decide) rfl rfl fun k' a w1 x hk ha hG hV => ?_) ?_
    · skip
      have h15 : a.tmps.getD 15 undef = .slice (some ⟨bs, 0, none⟩) n cap := hV.get 15 (by decide +kernel)
      have h21 : a.tmps.getD 21 undef = .int .i64 ((n - 1 : Nat) : Int) := hV.get 21 (by decide +kernel)
      have k1 : ((n - 1 : Nat) : Int) < n := by omega
      have k0 : (0 : Int) ≤ ((n - 1 : Nat) : Int) := by omega
      exact ⟨.pointer (some ⟨bs, (n - 1) * 5, none⟩), wanted_free rfl, by simp [execOp, go_sem, h15, h21, k1, k0], rfl⟩
    refine OweAllC.cons (owesC_val 0 (by decide +kernel) (by decide) rfl rfl fun k' a w1 x hk ha hG hV => ?_) ?_
    · skip
      have h22 : a.tmps.getD 22 undef = .pointer (some ⟨bs, (n - 1) * 5, none⟩) := hV.get 22 (by decide +kernel)
      exact ⟨.pointer (some ⟨bs, (n - 1) * 5 + 2, none⟩), wanted_free rfl, by simp [execOp, go_sem, h22], rfl⟩
    refine OweAllC.cons (owesC_val 0 (by decide +kernel) (by decide) rfl rfl fun k' a w1 x hk ha hG hV => ?_) ?_
    · skip
      have h23 : a.tmps.getD 23 undef = .pointer (some ⟨bs, (n - 1) * 5 + 2, none⟩) := hV.get 23 (by decide +kernel)
      have cc := (World.cell?_of_block (hG.block bs HLT.out.2)).trans HC.out
      exact ⟨.string ⟨FN.toArray⟩, wanted_free rfl, by simp [execOp, go_sem, h23, cc], rfl⟩
    refine OweAllC.cons (owesC_call 0 rfl rfl rfl 33 fun a w1 x ha hG hx hV => ?_) ?_
    · skip
      have h24 : a.tmps.getD 24 undef = .string ⟨FN.toArray⟩ := hV.get 24 (by decide +kernel)
      refine ⟨#[.string ⟨FN.toArray⟩], wanted_free rfl, by simp [execOp, resolve, invoke, go_sem, h24], ?_⟩
      refine (hCL.out w1 hG).mono ?_
      rintro r u2 ⟨rfl, hb⟩
      exact ⟨_, rfl, rfl, hG.trans (hb.mono hG.size)⟩
    refine OweAllC.cons (owesC_val 1 (by decide +kernel) (by decide) rfl rfl fun k' a w1 x hk ha hG hV => ?_) ?_
    · skip
      have h25 : a.tmps.getD 25 undef = .string ⟨FN.toArray⟩ := hV.get 25 (by decide +kernel)
      exact ⟨.string ⟨FN.toArray⟩, wanted_free rfl, by simp [execOp, go_sem, h25], rfl⟩
    exact OweAllC.nil
    ) ?_
  intro f wz xz hG hx hv
  have e2 : f 2 = .string ⟨FN.toArray⟩ := hv 14 _ 2 rfl rfl
  first | (rename_i hK; refine hK _ _ ?_; clear hK) | (rename_i hK _; refine hK _ _ ?_; clear hK) | (rename_i hK _ _; refine hK _ _ ?_; clear hK) | (rename_i hK _ _ _; refine hK _ _ ?_; clear hK)
  clear hv hx
  simp only [dsts, puts, List.filterMap_cons, List.filterMap_nil, List.foldl_cons, List.foldl_nil, Act.put, List.setIfInBounds_toArray, List.set_cons_succ, List.set_cons_zero, e2]
  clear e2
  have HB := Lib.hid hG
  clear hG HG0
  go_wp2_with fail
  go_ret
  exact ⟨rfl, HB.out⟩
theorem final_any {w : World} {b0 : Nat} {P : List Nat} {D : List Cc} {qd : Option Addr} {cap wp mb : Nat} (h : FC w b0 P D qd cap wp mb) (hT : TabAt w) (hD : D.length ≤ 1000000) :
    Calls Tryz.prog 13 #[.pointer (some ⟨b0, 0, none⟩)] w fun r w' => r = .returned (.string ⟨(finB D).toArray⟩) ∧ Below w.heap.size w w' := by
  cases D with
  | nil => exact final_none h hT
  | cons x l => exact final_some h (by simp) hD
end Go.Proofs.YtjjkobbajbbgdaaGreatDoor

namespace Go.Proofs.YtjjkobbajbbgdaaGreatDoor
namespace CW
open Go

section
variable {P : Program} {ops : Array Oper} {Q : Exit → Act → World → Prop} {md : Region.Mode} {V : Tmp → Value → World → Prop} {G : Nat → Value → World → Prop} {C : List Nat} {a0 : Act}
theorem wpAny_chain2 (hok : DrawOk2 md ops a0.tmps.size) (hch : chainOk md ops C = true) (hnd : C.Nodup) (hCl : ∀ i ∈ C, i < ops.size) (step : ∀ (i : Nat) (o : Oper), ops[i]? = some o → OwesC P md ops Q V G C a0 i o)
    (fin : ∀ a w x, Agree ops a0 a → G C.length x w → Holds' ops C a C.length x → (∀ (i : Nat) (o : Oper) (t : Tmp), ops[i]? = some o → o.dst = some t → V t (a.eval (.tmp t)) w) → Q .normal a w) :
    ∀ (fuel : Nat) (L : Array Bool) (a : Act) (w : World) (k : Nat) (x : Value), unl L ops.size ≤ fuel → L.size = ops.size → ChainAt md ops V G C a0 L a w k x → wpAny P md ops Q fuel L a w := by
  have allL : ∀ L : Array Bool, L.size = ops.size → Region.ready md ops L = [] → ∀ (i : Nat) (o : Oper), ops[i]? = some o → L.getD i true = true := by
    intro L hL hr i o ho
    cases hc : L.getD i true with
    | true => rfl
    | false =>
      obtain ⟨j, hj⟩ := ready_some2 hok hL i (Array.getElem?_eq_some_iff.1 ho).1 hc
      rw [hr] at hj; cases hj
  have done : ∀ (L : Array Bool) (a : Act) (w : World) (k : Nat) (x : Value), L.size = ops.size → ChainAt md ops V G C a0 L a w k x → Region.ready md ops L = [] → Q .normal a w := by
    intro L a w k x hL h hr
    have hk : k = C.length := by
      refine Nat.le_antisymm h.le (Nat.le_of_not_lt fun hlt => ?_)
      have hm : C[k]? = some C[k] := List.getElem?_eq_getElem hlt
      have hi := hCl _ (List.getElem_mem hlt)
      exact Nat.lt_irrefl _ ((h.ch k _ hm).1 (allL L hL hr _ _ (Array.getElem?_eq_getElem hi)))
    subst hk
    exact fin a w x h.ag h.g h.ho (fun i o t ho ht => h.v i o t ho (allL L hL hr i o ho) ht)
  intro fuel
  induction fuel with
  | zero =>
    intro L a w k x hu hL h
    have hr : Region.ready md ops L = [] := by
      apply List.eq_nil_iff_forall_not_mem.2
      intro j hj
      obtain ⟨hun, o, ho, _⟩ := mem_ready.1 hj
      have := unl_pos L ops.size j (Array.getElem?_eq_some_iff.1 ho).1 hun
      omega
    exact ⟨hr, done L a w k x hL h hr⟩
  | succ fuel ih =>
    intro L a w k x hu hL h
    refine ⟨fun hr => done L a w k x hL h hr, fun i hi => ?_⟩
    obtain ⟨hun, o, ho, hall⟩ := mem_ready.1 hi
    have hil : i < ops.size := (Array.getElem?_eq_some_iff.1 ho).1
    have hw : AllV V a w (waits md ops o) := AllV.of (by
      intro t ht
      unfold waits at ht
      obtain ⟨e, he, hd⟩ := List.mem_filterMap.1 ht
      obtain ⟨he1, he2⟩ := List.mem_filter.1 he
      cases hj : ops[e.on]? with
      | none => rw [hj] at hd; cases hd
      | some p =>
        rw [hj] at hd
        have hl := hall e (by simpa using he1) he2
        exact h.v e.on p t hj (by rw [getD_tf hL (Array.getElem?_eq_some_iff.1 hj).1]; exact hl) hd)
    -- what follows, with k' of the chain done
    have next : ∀ (k' : Nat) (y : Value → Value), k' ≤ C.length → (∀ v, Holds' ops C (a.put o.dst v) k' (y v)) → (∀ (m j : Nat), C[m]? = some j → ((L.setIfInBounds i true).getD j true = true ↔ m < k')) →
        wpOp P ops Q i (fun a' w' => ∃ v, a' = a.put o.dst v ∧ (∀ t, o.dst = some t → V t v w') ∧ G k' (y v) w' ∧ (∀ t u, V t u w → V t u w')) a w → wpOp P ops Q i (fun a' w' => wpAny P md ops Q fuel (L.setIfInBounds i true) a' w') a w := by
      intro k' y hk' hho hch' hop
      refine wpOp_mono (fun a' w' hh => ?_) hop
      obtain ⟨v, rfl, hvi, hG', hpres⟩ := hh
      refine ih _ _ _ k' (y v) ?_ (by simpa using hL) ⟨hG', hho v, hk', hch', ?_, ?_, ?_, ?_⟩
      · have := unl_set L i hun ops.size
        rw [if_pos hil] at this; omega
      · intro j p hp hl e he hb
        by_cases hji : j = i
        · subst hji
          rw [ho] at hp; cases hp
          have := hall e he hb
          by_cases hei : e.on = j
          · rw [hei, getD_set_at (by omega)]
          · rw [getD_set_ne' hei]; exact this
        · rw [getD_set_ne' hji] at hl
          have := h.cl j p hp hl e he hb
          by_cases hei : e.on = i
          · rw [hei, getD_set_at (by omega)]
          · rw [getD_set_ne' hei]; exact this
      · refine ⟨by rw [size_put]; exact h.ag.size, by rw [defers_put]; exact h.ag.defers, fun t ht => ?_⟩
        rw [Act.eval_put (fun d hd e => ht i o ho (by cases e; exact hd))]
        exact h.ag.same t ht
      · intro j p t hp hl ht
        have e : j ≠ i := by
          rintro rfl
          rw [getD_set_at (by omega)] at hl; cases hl
        rw [Act.eval_put (fun d hd e2 => by cases e2; exact hok.apart i j o p t ho hp e hd ht)]
        rw [getD_set_ne' e] at hl
        exact h.kp j p t hp hl ht
      · intro j p t hp hl ht
        by_cases e : j = i
        · subst e
          rw [ho] at hp; cases hp
          rw [ht, eval_put_same (by rw [h.ag.size]; exact hok.room j o t ho ht)]
          exact hvi t ht
        · rw [Act.eval_put (fun d hd e2 => by cases e2; exact hok.apart i j o p t ho hp e hd ht)]
          rw [getD_set_ne' e] at hl
          exact hpres _ _ (h.v j p t hp hl ht)
    rcases step i o ho with ⟨m, hm, hop⟩ | ⟨hni, b, hb, hop⟩
    · have hmk : m = k := by
        have h1 : ¬ m < k := fun hlt => by rw [(h.ch m i hm).2 hlt] at hun; cases hun
        have h2 : m ≤ k := by
          cases m with
          | zero => exact Nat.zero_le _
          | succ m =>
            have hlt : m < C.length := by have := (List.getElem?_eq_some_iff.1 hm).1; omega
            have hj : C[m]? = some C[m] := List.getElem?_eq_getElem hlt
            obtain ⟨e, he, hbd, hon⟩ := chain_edge hch hj hm ho
            have := hall e he hbd
            rw [hon] at this
            exact (h.ch m _ hj).1 (by rw [getD_tf hL (hCl _ (List.getElem_mem hlt))]; exact this)
        omega
      subst hmk
      have hmlt : m < C.length := (List.getElem?_eq_some_iff.1 hm).1
      refine next (m + 1) (fun v => v) hmlt ?_ ?_ (hop a w x h.agc h.g h.ho hw)
      · intro v m2 j p t hm2 hj hp ht
        obtain rfl : m2 = m := by omega
        rw [hm] at hj; cases hj
        rw [ho] at hp; cases hp
        rw [ht, eval_put_same (by rw [h.ag.size]; exact hok.room i o t ho ht)]
      intro m2 j hj
      by_cases hji : j = i
      · subst hji
        have : m2 = m := by
          obtain ⟨l2, e2⟩ := List.getElem?_eq_some_iff.1 hj
          obtain ⟨l1, e1⟩ := List.getElem?_eq_some_iff.1 hm
          exact (List.getElem_inj hnd).1 (e2.trans e1.symm)
        subst this
        rw [getD_set_at (by omega)]
        exact ⟨fun _ => Nat.lt_succ_self _, fun _ => rfl⟩
      · rw [getD_set_ne' hji, h.ch m2 j hj]
        have : m2 ≠ m := by
          rintro rfl
          rw [hm] at hj; cases hj; exact hji rfl
        omega
    · have hkb : k ≤ b := by
        unfold aheadOf at hb
        rw [Bool.or_eq_true, beq_iff_eq] at hb
        rcases hb with rfl | hb
        · exact h.le
        · cases hj : C[b]? with
          | none => rw [hj] at hb; cases hb
          | some j =>
            rw [hj] at hb
            simp only at hb
            refine Nat.le_of_not_lt fun hlt => ?_
            have := reach_done h.cl 16 j i hb ((h.ch b j hj).2 hlt)
            rw [← getD_tf hL hil, hun] at this
            cases this
      refine next k (fun _ => x) h.le ?_ ?_ (hop k hkb a w x h.agc h.g hw)
      · intro v m2 j p t hm2 hj hp ht
        have hji : j ≠ i := by
          rintro rfl
          have := List.mem_of_getElem? hj
          rw [List.contains_eq_mem, decide_eq_false_iff_not] at hni
          exact hni this
        rw [Act.eval_put (fun d hd e2 => by cases e2; exact hok.apart i j o p t ho hp hji hd ht)]
        exact h.ho m2 j p t hm2 hj hp ht
      intro m2 j hj
      have hji : j ≠ i := by
        rintro rfl
        have := List.mem_of_getElem? hj
        rw [List.contains_eq_mem, decide_eq_false_iff_not] at hni
        exact hni this
      rw [getD_set_ne' hji, h.ch m2 j hj]
theorem wp_region_chain2 {id : Nat} {w : World} (V : Tmp → Value → World → Prop) (G : Nat → Value → World → Prop) (C : List Nat) (N : Nat) (hm : P.follows .mixedOrders = true) (hok : drawOk2 .any ops N = true) (hN : a0.tmps.size = N)
    (hch : chainOk .any ops C = true) (hnd : decide C.Nodup = true) (hCl : C.all (· < ops.size) = true) (hG : G 0 undef w.drew)
    (step : OweAllC P .any ops Q V G C a0 0 ops.toList)
    (fin : ∀ f w x, G C.length x w → (∀ (m i : Nat) (o : Oper) (t : Tmp), C.length = m + 1 → C[m]? = some i → ops[i]? = some o → o.dst = some t → f t = x) → (∀ (i : Nat) (o : Oper) (t : Tmp), ops[i]? = some o → o.dst = some t → V t (f t) w) → Q .normal (puts f (dsts ops) a0) w) : (Code.region id ops true).wp P Q a0 w := by
  subst hN
  have hok := drawOk2_spec hok
  have hCl' : ∀ i ∈ C, i < ops.size := fun i hi => by simpa using List.all_eq_true.1 hCl i hi
  have hL0 : ∀ i, i < ops.size → (Array.replicate ops.size false).getD i true = false := fun i hi => by simp [hi]
  refine wp_region_any hm (wpAny_chain2 (V := V) (G := G) (C := C) hok hch (of_decide_eq_true hnd) hCl' (fun i o ho => ?_) (fun a w x ha hg hh hv => ?_) ops.size _ a0 _ 0 undef (unl_le _ _) (by simp) ⟨hG, (fun m i o t h => by omega), Nat.zero_le _, ?_, ?_, ⟨rfl, rfl, fun _ _ => rfl⟩, (fun _ _ _ _ _ _ => rfl), ?_⟩)
  · have := step.get i o (by simpa using ho)
    rwa [Nat.zero_add] at this
  · rw [agree_puts2 ha hok.room]
    exact fin _ w x hg hh hv
  · intro m i hi
    have := hCl' i (List.mem_of_getElem? hi)
    rw [hL0 i this]
    simp
  · intro i o ho hl
    rw [hL0 i (Array.getElem?_eq_some_iff.1 ho).1] at hl; cases hl
  · intro i o t ho hl _
    rw [hL0 i (Array.getElem?_eq_some_iff.1 ho).1] at hl; cases hl
/-- An operation beside the chain that yields a value and makes memory. -/
theorem owesC_made {i : Nat} {o : Oper} {t : Tmp} (b : Nat) (hb : aheadOf md ops C i b = true) (hni : C.contains i = false) (hi : ops[i]? = some o) (ht : o.dst = some t)
    (h : ∀ k a w x, k ≤ b → AgreeC ops C k a0 a → G k x w → AllV V a w (waits md ops o) → ∃ v w', Region.wanted o (yielded ops a.tmps) = true ∧ (execOp a.eval o).run P w = .ok (.value v) w' ∧ V t v w' ∧ G k x w' ∧ (∀ t u, V t u w → V t u w')) : OwesC P md ops Q V G C a0 i o := by
  refine .inr ⟨hni, b, hb, fun k hk a w x ha hG hV => ?_⟩
  obtain ⟨v, w', hw, hr, hv, hg, hp⟩ := h k a w x hk ha hG hV
  unfold wpOp
  rw [hi]
  simp only [hw, if_true, Oper.wp, hr, Oper.upon]
  exact .inl ⟨v, rfl, fun u hu => by rw [ht] at hu; cases hu; exact hv, hg, hp⟩
end
end CW
end Go.Proofs.YtjjkobbajbbgdaaGreatDoor

namespace Go.Proofs.YtjjkobbajbbgdaaGreatDoor
open Go.RowKit

theorem exec_alloc_tab {o : Oper} {a : Act} {w : World} (ho : o.op = .alloc 26) : (execOp a.eval o).run Tryz.prog w = .ok (.value (.pointer (some ⟨w.heap.size, 0, none⟩))) (w.alloc (.cells (nums .i64 (List.replicate 64 0)).toArray 26)) := by
  have hz : ∀ w : World, (zeroValue 26).run Tryz.prog w = .ok (.agg (nums .i64 (List.replicate 64 0)).toArray) w := fun _ => by kernel_rfl
  generalize (nums .i64 (List.replicate 64 0)).toArray = Z at *
  unfold execOp
  simp [ho, go_sem, hz]
def VJ (X : Array Value) (TP TQ : Value) (e : Int) (b0 N : Nat) : Tmp → Value → World → Prop := fun t v w => match t with
  | 15 => v = .agg X
  | 16 => v = .pointer (some ⟨b0, 0, none⟩)
  | 17 => v = .pointer (some ⟨b0, 0, none⟩)
  | 18 => v = .pointer (some ⟨b0, 0, none⟩)
  | 19 => v = TP
  | 20 => v = .tuple #[TQ, .int .i64 e]
  | 14 => v = .tuple #[TQ, .int .i64 e]
  | 21 => v = TQ
  | 22 => v = .int .i64 e
  | 8 => v = .int .i64 e
  | 7 => ∃ g2 cs, v = .pointer (some ⟨g2, 0, none⟩) ∧ N ≤ g2 ∧ w.heap[g2]? = some (.cells cs 26 (0, 0)) ∧ cs.size = 64
  | _ => True
theorem VJ.other {X : Array Value} {TP TQ : Value} {e : Int} {b0 N : Nat} {t : Tmp} {v : Value} {w w' : World} (ht : t ≠ 7) (h : VJ X TP TQ e b0 N t v w) : VJ X TP TQ e b0 N t v w' := by
  have : VJ X TP TQ e b0 N t v w = VJ X TP TQ e b0 N t v w' := by
    unfold VJ
    split <;> first | rfl | exact absurd rfl ht
  rw [← this]; exact h
theorem VJ.kept {X : Array Value} {TP TQ : Value} {e : Int} {b0 N : Nat} {t : Tmp} {v : Value} {w w' : World} (hb : Below w.heap.size w w') (h : VJ X TP TQ e b0 N t v w) : VJ X TP TQ e b0 N t v w' := by
  by_cases ht : t = 7
  · subst ht
    obtain ⟨g2, cs, h1, h2, h3, h4⟩ := h
    exact ⟨g2, cs, h1, h2, (hb.block g2 (Array.getElem?_eq_some_iff.1 h3).1).trans h3, h4⟩
  · exact VJ.other ht h
theorem VJ.set {X : Array Value} {TP TQ : Value} {e : Int} {b0 N : Nat} {t : Tmp} {v : Value} {w : World} {g : Nat} {cs C : Array Value} (hg : w.heap[g]? = some (.cells cs 26 (0, 0))) (hC : C.size = 64) (h : VJ X TP TQ e b0 N t v w) : VJ X TP TQ e b0 N t v (w.setRow g C) := by
  by_cases ht : t = 7
  · subst ht
    obtain ⟨g2, cs2, h1, h2, h3, h4⟩ := h
    by_cases e2 : g2 = g
    · subst e2
      exact ⟨g2, C, h1, h2, setRow_heap _ _ _ _ _ _ hg, hC⟩
    · exact ⟨g2, cs2, h1, h2, (((Mod.refl (fun _ => False) w).setRow (g := g) C).block g2 (Array.getElem?_eq_some_iff.1 h3).1 (by rintro (h | h); exact h; exact e2 h)).trans h3, h4⟩
  · exact VJ.other ht h
set_option maxRecDepth 20000 in
set_option maxHeartbeats 4000000 in
theorem judge_no {w : World} {b0 : Nat} {P : List Nat} {D : List Cc} {qd : Option Addr} {cap wp mb : Nat} (h : FC w b0 P D qd cap wp mb) (hT : TabAt w) (hD : D.length ≤ 1000000) (c : Ct) (p q : Option Addr) (cp cq : Nat) (hbase : c.base = finB D) (V : Value) (T : List Nat) (hTT : IsTab T)
    (hnx : ∀ u, Below w.heap.size w u → Calls Tryz.prog 47 #[.agg (ctc c p q cp cq), tval P] u fun r w' => r = .returned (.tuple #[tval T, .int .i64 14]) ∧ Below u.heap.size u w') :
    Calls Tryz.prog 46 #[.pointer (some ⟨b0, 0, none⟩), .agg (ctc c p q cp cq), V] w fun r w' => r = .returned (.int .i64 14) ∧ Below w.heap.size w w' := by
  obtain ⟨inst, base, fin, sg, ch⟩ := c
  simp only at hbase
  subst hbase
  have hfin : Hid (∀ u, Below w.heap.size w u → Calls Tryz.prog 13 #[.pointer (some ⟨b0, 0, none⟩)] u fun r w' => r = .returned (.string ⟨(finB D).toArray⟩) ∧ Below u.heap.size u w') := Lib.hid (fun u hu => final_any (h.old hu) (hT.old hu) hD)
  have htabc : Hid (∀ i u, (nums .i64 P)[i]? = some u → w.cell? ⟨b0, 0 + i, none⟩ = some u) := Lib.hid h.tabc
  have HP := Lib.hid h.tab
  have HLT := Lib.hid h.lt
  have HNX := Lib.hid hnx
  generalize finB D = base at *
  unfold ctc at *
  simp only at *
  generalize sg.length = n1 at *
  generalize ch.length = n2 at *
  have hb : Below w.heap.size w (w.alloc (.cells #[.int .i64 inst, .string ⟨base.toArray⟩, .string ⟨fin.toArray⟩, .slice p n1 cp, .slice q n2 cq] 47)) := (Below.refl _ w).alloc (Nat.le_refl _) _
  have hrow := heap_alloc_new w (.cells #[.int .i64 inst, .string ⟨base.toArray⟩, .string ⟨fin.toArray⟩, .slice p n1 cp, .slice q n2 cq] 47)
  obtain ⟨X, hX⟩ : ∃ X : Array Value, X = #[.int .i64 inst, .string ⟨base.toArray⟩, .string ⟨fin.toArray⟩, .slice p n1 cp, .slice q n2 cq] := ⟨_, rfl⟩
  have hX1 : X[1]? = some (.string ⟨base.toArray⟩) := by rw [hX]; rfl
  have HXI : Hid ((Tryz.prog.info? 47).map (·.size) = some X.size) := Lib.hid (by rw [hX]; kernel_rfl)
  have HX := Lib.hid hX
  obtain ⟨W1, hW1⟩ : ∃ W1, W1 = (w.alloc (.cells #[.int .i64 inst, .string ⟨base.toArray⟩, .string ⟨fin.toArray⟩, .slice p n1 cp, .slice q n2 cq] 47)) := ⟨_, rfl⟩
  obtain ⟨g, hg⟩ : ∃ g, g = w.heap.size := ⟨_, rfl⟩
  rw [← hg, ← hX] at hrow
  rw [hX, ← hW1, ← hX] at hrow
  rw [← hW1] at hb
  rw [← hX]
  have HW := Lib.hid hW1
  have HG := Lib.hid hg
  have HB := Lib.hid hb
  have HROW := Lib.hid hrow
  have HX1 := Lib.hid hX1
  have HG0 : Hid ((fun (_ : Nat) (_ : Value) (w1 : World) => Below W1.heap.size W1 w1) 0 undef W1.drew) := Lib.hid ((Below.refl _ W1).drew)
  clear h hT hW1 hg hrow hb hnx hX hX1
  go_enter Tryz.func46, Tryz.ntmps46
  go_wp2_with fail
  rw [HX.out, ← HW.out, ← HG.out, ← HX.out]
  refine wp_region_chain (fun t v => match t with
    | 9 => v = .pointer (some ⟨g, 1, none⟩)
    | 10 => v = .string ⟨base.toArray⟩
    | 11 => v = .pointer (some ⟨b0, 0, none⟩)
    | 12 => v = .string ⟨base.toArray⟩
    | 13 => v = .bool false
    | _ => True) (fun (_ : Nat) (_ : Value) (w1 : World) => Below W1.heap.size W1 w1) [3] 28 (by kernel_rfl) (by decide +kernel) rfl (by decide +kernel) (by decide) (by decide) HG0.out (by
    refine OweAllC.cons (owesC_val 1 (by decide +kernel) (by decide) rfl rfl fun k' a w1 x hk ha hG hV => ?_) ?_
    · skip
      have h4 := ha.outer 4 (by decide +kernel)
      simp only [Act.eval] at h4
      exact ⟨.pointer (some ⟨g, 1, none⟩), wanted_free rfl, by simp [execOp, go_sem, h4], rfl⟩
    refine OweAllC.cons (owesC_val 1 (by decide +kernel) (by decide) rfl rfl fun k' a w1 x hk ha hG hV => ?_) ?_
    · skip
      have h9 : a.tmps.getD 9 undef = .pointer (some ⟨g, 1, none⟩) := hV.get 9 (by decide +kernel)
      have cc := cell_of_row w1 g 1 _ _ _ ((hG.block g (Array.getElem?_eq_some_iff.1 HROW.out).1).trans HROW.out)
      rw [HX1.out] at cc
      exact ⟨.string ⟨base.toArray⟩, wanted_free rfl, by simp [execOp, go_sem, h9, cc], rfl⟩
    refine OweAllC.cons (owesC_val 0 (by decide +kernel) (by decide) rfl rfl fun k' a w1 x hk ha hG hV => ?_) ?_
    · skip
      have h0 := ha.outer 0 (by decide +kernel)
      simp only [Act.eval] at h0
      exact ⟨.pointer (some ⟨b0, 0, none⟩), wanted_free rfl, by simp [execOp, go_sem, h0], rfl⟩
    refine OweAllC.cons (owesC_call 0 rfl rfl rfl 13 fun a w1 x ha hG hx hV => ?_) ?_
    · skip
      have h11 : a.tmps.getD 11 undef = .pointer (some ⟨b0, 0, none⟩) := hV.get 11 (by decide +kernel)
      refine ⟨#[.pointer (some ⟨b0, 0, none⟩)], wanted_free rfl, by simp [execOp, resolve, invoke, go_sem, h11], ?_⟩
      have hB := HB.out
      refine (hfin.out w1 (hB.trans (hG.mono hB.size))).mono ?_
      rintro r u2 ⟨rfl, hb⟩
      exact ⟨_, rfl, rfl, hG.trans (hb.mono hG.size)⟩
    refine OweAllC.cons (owesC_val 1 (by decide +kernel) (by decide) rfl rfl fun k' a w1 x hk ha hG hV => ?_) ?_
    · skip
      have h10 : a.tmps.getD 10 undef = .string ⟨base.toArray⟩ := hV.get 10 (by decide +kernel)
      have h12 : a.tmps.getD 12 undef = .string ⟨base.toArray⟩ := hV.get 12 (by decide +kernel)
      exact ⟨.bool false, wanted_free rfl, by simp [execOp, go_sem, h10, h12], rfl⟩
    exact OweAllC.nil
    ) ?_
  intro f wz xz hG hx hv
  have e13 : f 13 = .bool false := hv 4 _ 13 rfl rfl
  first | (rename_i hK; refine hK _ _ ?_; clear hK) | (rename_i hK _; refine hK _ _ ?_; clear hK) | (rename_i hK _ _; refine hK _ _ ?_; clear hK) | (rename_i hK _ _ _; refine hK _ _ ?_; clear hK)
  clear hv hx
  simp only [dsts, puts, List.filterMap_cons, List.filterMap_nil, List.foldl_cons, List.foldl_nil, Act.put, List.setIfInBounds_toArray, List.set_cons_succ, List.set_cons_zero, e13]
  clear e13
  have HB1 := Lib.hid hG
  clear hG HG0
  go_wp2_with fail
  have hTZ : Hid (∀ w : World, (zeroValue 26).run Tryz.prog w = .ok (.agg (nums .i64 (List.replicate 64 0)).toArray) w) := Lib.hid (fun _ => by kernel_rfl)
  have HTT := Lib.hid hTT
  clear hTT
  obtain ⟨TP, hTP⟩ : ∃ TP, TP = tval P := ⟨_, rfl⟩
  obtain ⟨TQ, hTQ⟩ : ∃ TQ, TQ = tval T := ⟨_, rfl⟩
  have HTP := Lib.hid hTP
  have HTQ := Lib.hid hTQ
  rw [← hTP, ← hTQ] at HNX
  clear hTP hTQ
  have HG0 : Hid ((fun (_ : Nat) (_ : Value) (w1 : World) => Below W1.heap.size W1 w1) 0 undef wz.drew) := Lib.hid (HB1.out.drew)
  refine CW.wp_region_chain2 (VJ X TP TQ 14 b0 W1.heap.size) (fun (_ : Nat) (_ : Value) (w1 : World) => Below W1.heap.size W1 w1) [5, 10] 28 (by kernel_rfl) (by decide +kernel) rfl (by decide +kernel) (by decide) (by decide) HG0.out (by
    refine CW.OweAllC.cons (CW.owesC_val 0 (by decide +kernel) (by decide) rfl rfl fun k' a w1 x hk ha hG hV => ?_) ?_
    · skip
      have h4 := ha.outer 4 (by decide +kernel)
      simp only [Act.eval] at h4
      have cc := (hG.block g (Array.getElem?_eq_some_iff.1 HROW.out).1).trans HROW.out
      exact ⟨.agg X, wanted_free rfl, exec_load_row 47 (.tmp 4) rfl g h4 47 X (0, 0) _ cc Tryz.underlying47 rfl HXI.out, rfl⟩
    refine CW.OweAllC.cons (CW.owesC_val 0 (by decide +kernel) (by decide) rfl rfl fun k' a w1 x hk ha hG hV => ?_) ?_
    · skip
      have h0 := ha.outer 0 (by decide +kernel)
      simp only [Act.eval] at h0
      exact ⟨.pointer (some ⟨b0, 0, none⟩), wanted_free rfl, by simp [execOp, go_sem, h0], rfl⟩
    refine CW.OweAllC.cons (CW.owesC_val 0 (by decide +kernel) (by decide) rfl rfl fun k' a w1 x hk ha hG hV => ?_) ?_
    · skip
      have h16 : a.tmps.getD 16 undef = .pointer (some ⟨b0, 0, none⟩) := hV.get 16 (by decide +kernel)
      exact ⟨.pointer (some ⟨b0, 0, none⟩), wanted_free rfl, by simp [execOp, go_sem, h16], rfl⟩
    refine CW.OweAllC.cons (CW.owesC_val 0 (by decide +kernel) (by decide) rfl rfl fun k' a w1 x hk ha hG hV => ?_) ?_
    · skip
      have h17 : a.tmps.getD 17 undef = .pointer (some ⟨b0, 0, none⟩) := hV.get 17 (by decide +kernel)
      exact ⟨.pointer (some ⟨b0, 0, none⟩), wanted_free rfl, by simp [execOp, go_sem, h17], rfl⟩
    refine CW.OweAllC.cons (CW.owesC_val 0 (by decide +kernel) (by decide) rfl rfl fun k' a w1 x hk ha hG hV => ?_) ?_
    · skip
      have h18 : a.tmps.getD 18 undef = .pointer (some ⟨b0, 0, none⟩) := hV.get 18 (by decide +kernel)
      have hB := HB.out.trans (hG.mono HB.out.size)
      exact ⟨TP, wanted_free rfl, (exec_load_tab (.tmp 18) rfl b0 0 h18 P HP.out (fun i u hu => (World.cell?_of_block (hB.block b0 HLT.out)).trans (htabc.out i u hu))).trans (by rw [HTP.out]), rfl⟩
    refine CW.OweAllC.cons (CW.owesC_call 0 rfl rfl rfl 47 fun a w1 x ha hG hx hV => ?_) ?_
    · skip
      have h15 : a.tmps.getD 15 undef = .agg X := hV.get 15 (by decide +kernel)
      have h19 : a.tmps.getD 19 undef = TP := hV.get 19 (by decide +kernel)
      refine ⟨#[.agg X, TP], wanted_free rfl, by simp [execOp, resolve, invoke, go_sem, h15, h19], ?_⟩
      have hB := HB.out.trans (hG.mono HB.out.size)
      have hc := HNX.out w1 hB
      rw [← HX.out] at hc
      refine hc.mono ?_
      rintro r u2 ⟨rfl, hb⟩
      exact ⟨_, rfl, rfl, hG.trans (hb.mono hG.size), fun _ _ h => VJ.kept hb h⟩
    refine CW.OweAllC.cons (CW.owesC_val 1 (by decide +kernel) (by decide) rfl rfl fun k' a w1 x hk ha hG hV => ?_) ?_
    · skip
      have h20 : a.tmps.getD 20 undef = .tuple #[TQ, .int .i64 14] := hV.get 20 (by decide +kernel)
      exact ⟨.tuple #[TQ, .int .i64 14], wanted_free rfl, by simp [execOp, go_sem, h20], rfl⟩
    refine CW.OweAllC.cons (CW.owesC_val 1 (by decide +kernel) (by decide) rfl rfl fun k' a w1 x hk ha hG hV => ?_) ?_
    · skip
      have h14 : a.tmps.getD 14 undef = .tuple #[TQ, .int .i64 14] := hV.get 14 (by decide +kernel)
      exact ⟨TQ, wanted_free rfl, by simp [execOp, go_sem, h14], rfl⟩
    refine CW.OweAllC.cons (CW.owesC_val 2 (by decide +kernel) (by decide) rfl rfl fun k' a w1 x hk ha hG hV => ?_) ?_
    · skip
      have h14 : a.tmps.getD 14 undef = .tuple #[TQ, .int .i64 14] := hV.get 14 (by decide +kernel)
      exact ⟨.int .i64 14, wanted_free rfl, by simp [execOp, go_sem, h14], rfl⟩
    refine CW.OweAllC.cons (CW.owesC_made 1 (by decide +kernel) (by decide) rfl rfl fun k' a w1 x hk ha hG hV => ?_) ?_
    · skip
      have hal : Below w1.heap.size w1 (w1.alloc (.cells (nums .i64 (List.replicate 64 0)).toArray 26)) := (Below.refl _ _).alloc (Nat.le_refl _) _
      exact ⟨_, _, wanted_free rfl, exec_alloc_tab rfl, ⟨w1.heap.size, _, rfl, hG.size, heap_alloc_new w1 _, by simp [nums_len]⟩, hG.trans (hal.mono hG.size), fun _ _ h => VJ.kept hal h⟩
    refine CW.OweAllC.cons (CW.owesC_store 1 rfl rfl rfl fun a w1 x ha hG hx hV => ?_) ?_
    · skip
      have h21 : a.tmps.getD 21 undef = TQ := hV.get 21 (by decide +kernel)
      obtain ⟨g2, cs, h7, hg2, hh2, hcs⟩ : ∃ g2 cs, a.tmps.getD 7 undef = .pointer (some ⟨g2, 0, none⟩) ∧ W1.heap.size ≤ g2 ∧ w1.heap[g2]? = some (.cells cs 26 (0, 0)) ∧ cs.size = 64 := hV.get 7 (by decide +kernel)
      have hsz : cs.size = (nums .i64 T).toArray.size := by rw [hcs]; simp [nums_len, HTT.out.len]
      exact ⟨_, wanted_free rfl, exec_store_row 26 (.tmp 7) (.tmp 21) rfl g2 h7 26 _ (nums .i64 T).toArray (h21.trans HTQ.out) hh2 hsz (by rw [List.size_toArray, nums_len, HTT.out.len]; kernel_rfl) (by simpa using nums_one .i64 T), (hG.trans (((Mod.refl (fun _ => False) w1).setRow (g := g2) (nums .i64 T).toArray).to_below hG.size (by rintro i hi (h | h); exact h; omega))), fun _ _ h => VJ.set hh2 (by simp [nums_len, HTT.out.len]) h⟩
    refine CW.OweAllC.cons (CW.owesC_val 2 (by decide +kernel) (by decide) rfl rfl fun k' a w1 x hk ha hG hV => ?_) ?_
    · skip
      have h22 : a.tmps.getD 22 undef = .int .i64 14 := hV.get 22 (by decide +kernel)
      exact ⟨.int .i64 14, wanted_free rfl, by simp [execOp, go_sem, h22], rfl⟩
    exact CW.OweAllC.nil
    ) ?_
  intro f wz xz hG hx hv
  have e8 : f 8 = .int .i64 14 := hv 11 _ 8 rfl rfl
  first | (rename_i hK; refine hK _ _ ?_; clear hK) | (rename_i hK _; refine hK _ _ ?_; clear hK) | (rename_i hK _ _; refine hK _ _ ?_; clear hK) | (rename_i hK _ _ _; refine hK _ _ ?_; clear hK)
  clear hv hx
  simp only [dsts, puts, List.filterMap_cons, List.filterMap_nil, List.foldl_cons, List.foldl_nil, Act.put, List.setIfInBounds_toArray, List.set_cons_succ, List.set_cons_zero, e8]
  clear e8
  have HB2 := Lib.hid (HB.out.trans (hG.mono HB.out.size))
  clear hG HG0 HB1
  go_wp2_with fail
  go_ret
  exact ⟨rfl, HB2.out⟩
set_option maxRecDepth 20000 in
set_option maxHeartbeats 4000000 in
theorem judge_ok {w : World} {b0 : Nat} {P : List Nat} {D : List Cc} {qd : Option Addr} {cap wp mb : Nat} (h : FC w b0 P D qd cap wp mb) (hT : TabAt w) (hD : D.length ≤ 1000000) (c : Ct) (p q : Option Addr) (cp cq : Nat) (hbase : c.base = finB D) (V : Value) (T : List Nat) (E : Int) (hTT : IsTab T)
    (hnx : ∀ u, Below w.heap.size w u → Calls Tryz.prog 47 #[.agg (ctc c p q cp cq), tval P] u fun r w' => r = .returned (.tuple #[tval T, .int .i64 0]) ∧ Below u.heap.size u w')
    (hse : ∀ u, Below w.heap.size w u → Calls Tryz.prog 76 #[.agg (ctc c p q cp cq), V] u fun r w' => r = .returned (.int .i64 E) ∧ Below u.heap.size u w') :
    Calls Tryz.prog 46 #[.pointer (some ⟨b0, 0, none⟩), .agg (ctc c p q cp cq), V] w fun r w' => r = .returned (.int .i64 E) ∧ Below w.heap.size w w' := by
  obtain ⟨inst, base, fin, sg, ch⟩ := c
  simp only at hbase
  subst hbase
  have hfin : Hid (∀ u, Below w.heap.size w u → Calls Tryz.prog 13 #[.pointer (some ⟨b0, 0, none⟩)] u fun r w' => r = .returned (.string ⟨(finB D).toArray⟩) ∧ Below u.heap.size u w') := Lib.hid (fun u hu => final_any (h.old hu) (hT.old hu) hD)
  have htabc : Hid (∀ i u, (nums .i64 P)[i]? = some u → w.cell? ⟨b0, 0 + i, none⟩ = some u) := Lib.hid h.tabc
  have HP := Lib.hid h.tab
  have HLT := Lib.hid h.lt
  have HNX := Lib.hid hnx
  have HSE := Lib.hid hse
  generalize finB D = base at *
  unfold ctc at *
  simp only at *
  generalize sg.length = n1 at *
  generalize ch.length = n2 at *
  have hb : Below w.heap.size w (w.alloc (.cells #[.int .i64 inst, .string ⟨base.toArray⟩, .string ⟨fin.toArray⟩, .slice p n1 cp, .slice q n2 cq] 47)) := (Below.refl _ w).alloc (Nat.le_refl _) _
  have hrow := heap_alloc_new w (.cells #[.int .i64 inst, .string ⟨base.toArray⟩, .string ⟨fin.toArray⟩, .slice p n1 cp, .slice q n2 cq] 47)
  obtain ⟨X, hX⟩ : ∃ X : Array Value, X = #[.int .i64 inst, .string ⟨base.toArray⟩, .string ⟨fin.toArray⟩, .slice p n1 cp, .slice q n2 cq] := ⟨_, rfl⟩
  have hX1 : X[1]? = some (.string ⟨base.toArray⟩) := by rw [hX]; rfl
  have HXI : Hid ((Tryz.prog.info? 47).map (·.size) = some X.size) := Lib.hid (by rw [hX]; kernel_rfl)
  have HX := Lib.hid hX
  obtain ⟨W1, hW1⟩ : ∃ W1, W1 = (w.alloc (.cells #[.int .i64 inst, .string ⟨base.toArray⟩, .string ⟨fin.toArray⟩, .slice p n1 cp, .slice q n2 cq] 47)) := ⟨_, rfl⟩
  obtain ⟨g, hg⟩ : ∃ g, g = w.heap.size := ⟨_, rfl⟩
  rw [← hg, ← hX] at hrow
  rw [hX, ← hW1, ← hX] at hrow
  rw [← hW1] at hb
  rw [← hX]
  have HW := Lib.hid hW1
  have HG := Lib.hid hg
  have HB := Lib.hid hb
  have HROW := Lib.hid hrow
  have HX1 := Lib.hid hX1
  have HG0 : Hid ((fun (_ : Nat) (_ : Value) (w1 : World) => Below W1.heap.size W1 w1) 0 undef W1.drew) := Lib.hid ((Below.refl _ W1).drew)
  clear h hT hW1 hg hrow hb hnx hX hX1 hse
  go_enter Tryz.func46, Tryz.ntmps46
  go_wp2_with fail
  rw [HX.out, ← HW.out, ← HG.out, ← HX.out]
  refine wp_region_chain (fun t v => match t with
    | 9 => v = .pointer (some ⟨g, 1, none⟩)
    | 10 => v = .string ⟨base.toArray⟩
    | 11 => v = .pointer (some ⟨b0, 0, none⟩)
    | 12 => v = .string ⟨base.toArray⟩
    | 13 => v = .bool false
    | _ => True) (fun (_ : Nat) (_ : Value) (w1 : World) => Below W1.heap.size W1 w1) [3] 28 (by kernel_rfl) (by decide +kernel) rfl (by decide +kernel) (by decide) (by decide) HG0.out (by
    refine OweAllC.cons (owesC_val 1 (by decide +kernel) (by decide) rfl rfl fun k' a w1 x hk ha hG hV => ?_) ?_
    · skip
      have h4 := ha.outer 4 (by decide +kernel)
      simp only [Act.eval] at h4
      exact ⟨.pointer (some ⟨g, 1, none⟩), wanted_free rfl, by simp [execOp, go_sem, h4], rfl⟩
    refine OweAllC.cons (owesC_val 1 (by decide +kernel) (by decide) rfl rfl fun k' a w1 x hk ha hG hV => ?_) ?_
    · skip
      have h9 : a.tmps.getD 9 undef = .pointer (some ⟨g, 1, none⟩) := hV.get 9 (by decide +kernel)
      have cc := cell_of_row w1 g 1 _ _ _ ((hG.block g (Array.getElem?_eq_some_iff.1 HROW.out).1).trans HROW.out)
      rw [HX1.out] at cc
      exact ⟨.string ⟨base.toArray⟩, wanted_free rfl, by simp [execOp, go_sem, h9, cc], rfl⟩
    refine OweAllC.cons (owesC_val 0 (by decide +kernel) (by decide) rfl rfl fun k' a w1 x hk ha hG hV => ?_) ?_
    · skip
      have h0 := ha.outer 0 (by decide +kernel)
      simp only [Act.eval] at h0
      exact ⟨.pointer (some ⟨b0, 0, none⟩), wanted_free rfl, by simp [execOp, go_sem, h0], rfl⟩
    refine OweAllC.cons (owesC_call 0 rfl rfl rfl 13 fun a w1 x ha hG hx hV => ?_) ?_
    · skip
      have h11 : a.tmps.getD 11 undef = .pointer (some ⟨b0, 0, none⟩) := hV.get 11 (by decide +kernel)
      refine ⟨#[.pointer (some ⟨b0, 0, none⟩)], wanted_free rfl, by simp [execOp, resolve, invoke, go_sem, h11], ?_⟩
      have hB := HB.out
      refine (hfin.out w1 (hB.trans (hG.mono hB.size))).mono ?_
      rintro r u2 ⟨rfl, hb⟩
      exact ⟨_, rfl, rfl, hG.trans (hb.mono hG.size)⟩
    refine OweAllC.cons (owesC_val 1 (by decide +kernel) (by decide) rfl rfl fun k' a w1 x hk ha hG hV => ?_) ?_
    · skip
      have h10 : a.tmps.getD 10 undef = .string ⟨base.toArray⟩ := hV.get 10 (by decide +kernel)
      have h12 : a.tmps.getD 12 undef = .string ⟨base.toArray⟩ := hV.get 12 (by decide +kernel)
      exact ⟨.bool false, wanted_free rfl, by simp [execOp, go_sem, h10, h12], rfl⟩
    exact OweAllC.nil
    ) ?_
  intro f wz xz hG hx hv
  have e13 : f 13 = .bool false := hv 4 _ 13 rfl rfl
  first | (rename_i hK; refine hK _ _ ?_; clear hK) | (rename_i hK _; refine hK _ _ ?_; clear hK) | (rename_i hK _ _; refine hK _ _ ?_; clear hK) | (rename_i hK _ _ _; refine hK _ _ ?_; clear hK)
  clear hv hx
  simp only [dsts, puts, List.filterMap_cons, List.filterMap_nil, List.foldl_cons, List.foldl_nil, Act.put, List.setIfInBounds_toArray, List.set_cons_succ, List.set_cons_zero, e13]
  clear e13
  have HB1 := Lib.hid hG
  clear hG HG0
  go_wp2_with fail
  have hTZ : Hid (∀ w : World, (zeroValue 26).run Tryz.prog w = .ok (.agg (nums .i64 (List.replicate 64 0)).toArray) w) := Lib.hid (fun _ => by kernel_rfl)
  have HTT := Lib.hid hTT
  clear hTT
  obtain ⟨TP, hTP⟩ : ∃ TP, TP = tval P := ⟨_, rfl⟩
  obtain ⟨TQ, hTQ⟩ : ∃ TQ, TQ = tval T := ⟨_, rfl⟩
  have HTP := Lib.hid hTP
  have HTQ := Lib.hid hTQ
  rw [← hTP, ← hTQ] at HNX
  clear hTP hTQ
  have HG0 : Hid ((fun (_ : Nat) (_ : Value) (w1 : World) => Below W1.heap.size W1 w1) 0 undef wz.drew) := Lib.hid (HB1.out.drew)
  refine CW.wp_region_chain2 (VJ X TP TQ 0 b0 W1.heap.size) (fun (_ : Nat) (_ : Value) (w1 : World) => Below W1.heap.size W1 w1) [5, 10] 28 (by kernel_rfl) (by decide +kernel) rfl (by decide +kernel) (by decide) (by decide) HG0.out (by
    refine CW.OweAllC.cons (CW.owesC_val 0 (by decide +kernel) (by decide) rfl rfl fun k' a w1 x hk ha hG hV => ?_) ?_
    · skip
      have h4 := ha.outer 4 (by decide +kernel)
      simp only [Act.eval] at h4
      have cc := (hG.block g (Array.getElem?_eq_some_iff.1 HROW.out).1).trans HROW.out
      exact ⟨.agg X, wanted_free rfl, exec_load_row 47 (.tmp 4) rfl g h4 47 X (0, 0) _ cc Tryz.underlying47 rfl HXI.out, rfl⟩
    refine CW.OweAllC.cons (CW.owesC_val 0 (by decide +kernel) (by decide) rfl rfl fun k' a w1 x hk ha hG hV => ?_) ?_
    · skip
      have h0 := ha.outer 0 (by decide +kernel)
      simp only [Act.eval] at h0
      exact ⟨.pointer (some ⟨b0, 0, none⟩), wanted_free rfl, by simp [execOp, go_sem, h0], rfl⟩
    refine CW.OweAllC.cons (CW.owesC_val 0 (by decide +kernel) (by decide) rfl rfl fun k' a w1 x hk ha hG hV => ?_) ?_
    · skip
      have h16 : a.tmps.getD 16 undef = .pointer (some ⟨b0, 0, none⟩) := hV.get 16 (by decide +kernel)
      exact ⟨.pointer (some ⟨b0, 0, none⟩), wanted_free rfl, by simp [execOp, go_sem, h16], rfl⟩
    refine CW.OweAllC.cons (CW.owesC_val 0 (by decide +kernel) (by decide) rfl rfl fun k' a w1 x hk ha hG hV => ?_) ?_
    · skip
      have h17 : a.tmps.getD 17 undef = .pointer (some ⟨b0, 0, none⟩) := hV.get 17 (by decide +kernel)
      exact ⟨.pointer (some ⟨b0, 0, none⟩), wanted_free rfl, by simp [execOp, go_sem, h17], rfl⟩
    refine CW.OweAllC.cons (CW.owesC_val 0 (by decide +kernel) (by decide) rfl rfl fun k' a w1 x hk ha hG hV => ?_) ?_
    · skip
      have h18 : a.tmps.getD 18 undef = .pointer (some ⟨b0, 0, none⟩) := hV.get 18 (by decide +kernel)
      have hB := HB.out.trans (hG.mono HB.out.size)
      exact ⟨TP, wanted_free rfl, (exec_load_tab (.tmp 18) rfl b0 0 h18 P HP.out (fun i u hu => (World.cell?_of_block (hB.block b0 HLT.out)).trans (htabc.out i u hu))).trans (by rw [HTP.out]), rfl⟩
    refine CW.OweAllC.cons (CW.owesC_call 0 rfl rfl rfl 47 fun a w1 x ha hG hx hV => ?_) ?_
    · skip
      have h15 : a.tmps.getD 15 undef = .agg X := hV.get 15 (by decide +kernel)
      have h19 : a.tmps.getD 19 undef = TP := hV.get 19 (by decide +kernel)
      refine ⟨#[.agg X, TP], wanted_free rfl, by simp [execOp, resolve, invoke, go_sem, h15, h19], ?_⟩
      have hB := HB.out.trans (hG.mono HB.out.size)
      have hc := HNX.out w1 hB
      rw [← HX.out] at hc
      refine hc.mono ?_
      rintro r u2 ⟨rfl, hb⟩
      exact ⟨_, rfl, rfl, hG.trans (hb.mono hG.size), fun _ _ h => VJ.kept hb h⟩
    refine CW.OweAllC.cons (CW.owesC_val 1 (by decide +kernel) (by decide) rfl rfl fun k' a w1 x hk ha hG hV => ?_) ?_
    · skip
      have h20 : a.tmps.getD 20 undef = .tuple #[TQ, .int .i64 0] := hV.get 20 (by decide +kernel)
      exact ⟨.tuple #[TQ, .int .i64 0], wanted_free rfl, by simp [execOp, go_sem, h20], rfl⟩
    refine CW.OweAllC.cons (CW.owesC_val 1 (by decide +kernel) (by decide) rfl rfl fun k' a w1 x hk ha hG hV => ?_) ?_
    · skip
      have h14 : a.tmps.getD 14 undef = .tuple #[TQ, .int .i64 0] := hV.get 14 (by decide +kernel)
      exact ⟨TQ, wanted_free rfl, by simp [execOp, go_sem, h14], rfl⟩
    refine CW.OweAllC.cons (CW.owesC_val 2 (by decide +kernel) (by decide) rfl rfl fun k' a w1 x hk ha hG hV => ?_) ?_
    · skip
      have h14 : a.tmps.getD 14 undef = .tuple #[TQ, .int .i64 0] := hV.get 14 (by decide +kernel)
      exact ⟨.int .i64 0, wanted_free rfl, by simp [execOp, go_sem, h14], rfl⟩
    refine CW.OweAllC.cons (CW.owesC_made 1 (by decide +kernel) (by decide) rfl rfl fun k' a w1 x hk ha hG hV => ?_) ?_
    · skip
      have hal : Below w1.heap.size w1 (w1.alloc (.cells (nums .i64 (List.replicate 64 0)).toArray 26)) := (Below.refl _ _).alloc (Nat.le_refl _) _
      exact ⟨_, _, wanted_free rfl, exec_alloc_tab rfl, ⟨w1.heap.size, _, rfl, hG.size, heap_alloc_new w1 _, by simp [nums_len]⟩, hG.trans (hal.mono hG.size), fun _ _ h => VJ.kept hal h⟩
    refine CW.OweAllC.cons (CW.owesC_store 1 rfl rfl rfl fun a w1 x ha hG hx hV => ?_) ?_
    · skip
      have h21 : a.tmps.getD 21 undef = TQ := hV.get 21 (by decide +kernel)
      obtain ⟨g2, cs, h7, hg2, hh2, hcs⟩ : ∃ g2 cs, a.tmps.getD 7 undef = .pointer (some ⟨g2, 0, none⟩) ∧ W1.heap.size ≤ g2 ∧ w1.heap[g2]? = some (.cells cs 26 (0, 0)) ∧ cs.size = 64 := hV.get 7 (by decide +kernel)
      have hsz : cs.size = (nums .i64 T).toArray.size := by rw [hcs]; simp [nums_len, HTT.out.len]
      exact ⟨_, wanted_free rfl, exec_store_row 26 (.tmp 7) (.tmp 21) rfl g2 h7 26 _ (nums .i64 T).toArray (h21.trans HTQ.out) hh2 hsz (by rw [List.size_toArray, nums_len, HTT.out.len]; kernel_rfl) (by simpa using nums_one .i64 T), (hG.trans (((Mod.refl (fun _ => False) w1).setRow (g := g2) (nums .i64 T).toArray).to_below hG.size (by rintro i hi (h | h); exact h; omega))), fun _ _ h => VJ.set hh2 (by simp [nums_len, HTT.out.len]) h⟩
    refine CW.OweAllC.cons (CW.owesC_val 2 (by decide +kernel) (by decide) rfl rfl fun k' a w1 x hk ha hG hV => ?_) ?_
    · skip
      have h22 : a.tmps.getD 22 undef = .int .i64 0 := hV.get 22 (by decide +kernel)
      exact ⟨.int .i64 0, wanted_free rfl, by simp [execOp, go_sem, h22], rfl⟩
    exact CW.OweAllC.nil
    ) ?_
  intro f wz xz hG hx hv
  have e8 : f 8 = .int .i64 0 := hv 11 _ 8 rfl rfl
  first | (rename_i hK; refine hK _ _ ?_; clear hK) | (rename_i hK _; refine hK _ _ ?_; clear hK) | (rename_i hK _ _; refine hK _ _ ?_; clear hK) | (rename_i hK _ _ _; refine hK _ _ ?_; clear hK)
  clear hv hx
  simp only [dsts, puts, List.filterMap_cons, List.filterMap_nil, List.foldl_cons, List.foldl_nil, Act.put, List.setIfInBounds_toArray, List.set_cons_succ, List.set_cons_zero, e8]
  clear e8
  have HB2 := Lib.hid (HB.out.trans (hG.mono HB.out.size))
  have rr := (hG.block g (Array.getElem?_eq_some_iff.1 HROW.out).1).trans HROW.out
  have HLD := Lib.hid (And.intro rr HXI.out)
  clear hG HG0 HB1 rr
  go_wp2_with (refine wpList_exec rfl (exec_load_row 47 (.tmp 4) rfl g rfl 47 X (0, 0) _ HLD.out.1 Tryz.underlying47 rfl HLD.out.2) ?_; rw [HX.out])
  refine (HSE.out _ HB2.out).mono ?_
  rintro r w3 ⟨rfl, hb3⟩
  have HB3 := Lib.hid (HB2.out.trans (hb3.mono HB2.out.size))
  clear hb3 HSE
  go_wp2_with fail
  go_ret
  exact ⟨rfl, HB3.out⟩
end Go.Proofs.YtjjkobbajbbgdaaGreatDoor
