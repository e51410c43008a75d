/- Texts 10: what the laws lean on. -/
import Derived.Test.YtmodikcghlbigaaDoorB3
import Derived.Test.YtmodikcghlbigaaDoorB9
import Derived.Deep.RegionLawGrows
import Derived.Test.YtmodikcghlbigaaDoorRows
import Derived.Test.YtmodikcghlbigaaDoorB1
import Derived.Test.YtmodikcghlbigaaDoorB2
import Derived.WalkKit
import Derived.ProofKit
import Derived.OpenShut
import Derived.SliceStrings
import Derived.Lib.LaidTab
import Derived.LaidSub
import Derived.Deep.SlicePairs
import Derived.Deep.Fields
import Derived.ChangeArms
namespace Go.Proofs.YtmodikcghlbigaaDoor.CW
open Go

section
variable {P : Program} {ops : Array Oper} {Q : Exit → Act → World → Prop} {md : Region.Mode} {V : Tmp → Value → World → Prop} {G : Nat → Value → World → Prop} {C : List Nat} {a0 : Act}

/-- What one operation owes while k of the chain are done, k' behind it. -/
def OwesAt (P : Program) (md : Region.Mode) (ops : Array Oper) (Q : Exit → Act → World → Prop) (V : Tmp → Value → World → Prop) (G : Nat → Value → World → Prop) (C : List Nat) (a0 : Act) (i : Nat) (o : Oper) (k : Nat) : Prop :=
  ∀ a w x, AgreeC ops C k a0 a → G k x w → AllV V a w (waits md ops o) →
    wpOp P ops Q i (fun a' w' => ∃ v, a' = a.put o.dst v ∧ (∀ t, o.dst = some t → V t v w') ∧ G k x w' ∧ (∀ t u, V t u w → V t u w')) a w
/-- What the chain's operation m owes. -/
def OwesIn (P : Program) (md : Region.Mode) (ops : Array Oper) (Q : Exit → Act → World → Prop) (V : Tmp → Value → World → Prop) (G : Nat → Value → World → Prop) (C : List Nat) (a0 : Act) (i : Nat) (o : Oper) (m : Nat) : Prop :=
  ∀ a w x, AgreeC ops C m a0 a → G m x w → Holds' ops C a m x → AllV V a w (waits md ops o) →
    wpOp P ops Q i (fun a' w' => ∃ v, a' = a.put o.dst v ∧ (∀ t, o.dst = some t → V t v w') ∧ G (m + 1) v w' ∧ (∀ t u, V t u w → V t u w')) a w
def OwesC (P : Program) (md : Region.Mode) (ops : Array Oper) (Q : Exit → Act → World → Prop) (V : Tmp → Value → World → Prop) (G : Nat → Value → World → Prop) (C : List Nat) (a0 : Act) (i : Nat) (o : Oper) : Prop :=
  (∃ m, C[m]? = some i ∧ OwesIn P md ops Q V G C a0 i o m) ∨ (C.contains i = false ∧ ∃ b, aheadOf md ops C i b = true ∧ ∀ k, k ≤ b → OwesAt P md ops Q V G C a0 i o k)

/-- What is known while the region goes. -/
structure ChainAt (md : Region.Mode) (ops : Array Oper) (V : Tmp → Value → World → Prop) (G : Nat → Value → World → Prop) (C : List Nat) (a0 : Act) (L : Array Bool) (a : Act) (w : World) (k : Nat) (x : Value) : Prop where
  g : G k x w
  ho : Holds' ops C a k x
  le : k ≤ C.length
  ch : ∀ (m i : Nat), C[m]? = some i → (L.getD i true = true ↔ m < k)
  cl : ∀ (i : Nat) (o : Oper), ops[i]? = some o → L.getD i true = true → ∀ e ∈ o.after, Region.binds md e = true → L.getD e.on false = true
  ag : Agree ops a0 a
  kp : ∀ (i : Nat) (o : Oper) (t : Tmp), ops[i]? = some o → L.getD i true = false → o.dst = some t → a.eval (.tmp t) = a0.eval (.tmp t)
  v : ∀ (i : Nat) (o : Oper) (t : Tmp), ops[i]? = some o → L.getD i true = true → o.dst = some t → V t (a.eval (.tmp t)) w

theorem ChainAt.agc {L : Array Bool} {a : Act} {w : World} {k : Nat} {x : Value} (h : ChainAt md ops V G C a0 L a w k x) : AgreeC ops C k a0 a :=
  ⟨h.ag, fun m i o t hm hi ho ht => h.kp i o t ho (by
    cases hl : L.getD i true with
    | false => rfl
    | true => exact absurd ((h.ch m i hi).1 hl) (by omega)) ht⟩
theorem wpAny_chain (hok : DrawOk ops a0.tmps.size) (hch : chainOk md ops C = true) (hnd : C.Nodup) (hCl : ∀ i ∈ C, i < ops.size) (step : ∀ (i : Nat) (o : Oper), ops[i]? = some o → OwesC P md ops Q V G C a0 i o)
    (fin : ∀ a w x, Agree ops a0 a → G C.length x w → Holds' ops C a C.length x → (∀ (i : Nat) (o : Oper) (t : Tmp), ops[i]? = some o → o.dst = some t → V t (a.eval (.tmp t)) w) → Q .normal a w) :
    ∀ (fuel : Nat) (L : Array Bool) (a : Act) (w : World) (k : Nat) (x : Value), unl L ops.size ≤ fuel → L.size = ops.size → ChainAt md ops V G C a0 L a w k x → wpAny P md ops Q fuel L a w := by
  have allL : ∀ L : Array Bool, L.size = ops.size → Region.ready md ops L = [] → ∀ (i : Nat) (o : Oper), ops[i]? = some o → L.getD i true = true := by
    intro L hL hr i o ho
    cases hc : L.getD i true with
    | true => rfl
    | false =>
      obtain ⟨j, hj⟩ := ready_some (md := md) hok hL i (Array.getElem?_eq_some_iff.1 ho).1 hc
      rw [hr] at hj; cases hj
  have done : ∀ (L : Array Bool) (a : Act) (w : World) (k : Nat) (x : Value), L.size = ops.size → ChainAt md ops V G C a0 L a w k x → Region.ready md ops L = [] → Q .normal a w := by
    intro L a w k x hL h hr
    have hk : k = C.length := by
      refine Nat.le_antisymm h.le (Nat.le_of_not_lt fun hlt => ?_)
      have hm : C[k]? = some C[k] := List.getElem?_eq_getElem hlt
      have hi := hCl _ (List.getElem_mem hlt)
      exact Nat.lt_irrefl _ ((h.ch k _ hm).1 (allL L hL hr _ _ (Array.getElem?_eq_getElem hi)))
    subst hk
    exact fin a w x h.ag h.g h.ho (fun i o t ho ht => h.v i o t ho (allL L hL hr i o ho) ht)
  intro fuel
  induction fuel with
  | zero =>
    intro L a w k x hu hL h
    have hr : Region.ready md ops L = [] := by
      apply List.eq_nil_iff_forall_not_mem.2
      intro j hj
      obtain ⟨hun, o, ho, _⟩ := mem_ready.1 hj
      have := unl_pos L ops.size j (Array.getElem?_eq_some_iff.1 ho).1 hun
      omega
    exact ⟨hr, done L a w k x hL h hr⟩
  | succ fuel ih =>
    intro L a w k x hu hL h
    refine ⟨fun hr => done L a w k x hL h hr, fun i hi => ?_⟩
    obtain ⟨hun, o, ho, hall⟩ := mem_ready.1 hi
    have hil : i < ops.size := (Array.getElem?_eq_some_iff.1 ho).1
    have hw : AllV V a w (waits md ops o) := AllV.of (by
      intro t ht
      unfold waits at ht
      obtain ⟨e, he, hd⟩ := List.mem_filterMap.1 ht
      obtain ⟨he1, he2⟩ := List.mem_filter.1 he
      cases hj : ops[e.on]? with
      | none => rw [hj] at hd; cases hd
      | some p =>
        rw [hj] at hd
        have hl := hall e (by simpa using he1) he2
        exact h.v e.on p t hj (by rw [getD_tf hL (Array.getElem?_eq_some_iff.1 hj).1]; exact hl) hd)
    -- what follows, with k' of the chain done
    have next : ∀ (k' : Nat) (y : Value → Value), k' ≤ C.length → (∀ v, Holds' ops C (a.put o.dst v) k' (y v)) → (∀ (m j : Nat), C[m]? = some j → ((L.setIfInBounds i true).getD j true = true ↔ m < k')) →
        wpOp P ops Q i (fun a' w' => ∃ v, a' = a.put o.dst v ∧ (∀ t, o.dst = some t → V t v w') ∧ G k' (y v) w' ∧ (∀ t u, V t u w → V t u w')) a w → wpOp P ops Q i (fun a' w' => wpAny P md ops Q fuel (L.setIfInBounds i true) a' w') a w := by
      intro k' y hk' hho hch' hop
      refine wpOp_mono (fun a' w' hh => ?_) hop
      obtain ⟨v, rfl, hvi, hG', hpres⟩ := hh
      refine ih _ _ _ k' (y v) ?_ (by simpa using hL) ⟨hG', hho v, hk', hch', ?_, ?_, ?_, ?_⟩
      · have := unl_set L i hun ops.size
        rw [if_pos hil] at this; omega
      · intro j p hp hl e he hb
        by_cases hji : j = i
        · subst hji
          rw [ho] at hp; cases hp
          have := hall e he hb
          by_cases hei : e.on = j
          · rw [hei, getD_set_at (by omega)]
          · rw [getD_set_ne' hei]; exact this
        · rw [getD_set_ne' hji] at hl
          have := h.cl j p hp hl e he hb
          by_cases hei : e.on = i
          · rw [hei, getD_set_at (by omega)]
          · rw [getD_set_ne' hei]; exact this
      · refine ⟨by rw [size_put]; exact h.ag.size, by rw [defers_put]; exact h.ag.defers, fun t ht => ?_⟩
        rw [Act.eval_put (fun d hd e => ht i o ho (by cases e; exact hd))]
        exact h.ag.same t ht
      · intro j p t hp hl ht
        have e : j ≠ i := by
          rintro rfl
          rw [getD_set_at (by omega)] at hl; cases hl
        rw [Act.eval_put (fun d hd e2 => by cases e2; exact hok.apart i j o p t ho hp e hd ht)]
        rw [getD_set_ne' e] at hl
        exact h.kp j p t hp hl ht
      · intro j p t hp hl ht
        by_cases e : j = i
        · subst e
          rw [ho] at hp; cases hp
          rw [ht, eval_put_same (by rw [h.ag.size]; exact hok.room j o t ho ht)]
          exact hvi t ht
        · rw [Act.eval_put (fun d hd e2 => by cases e2; exact hok.apart i j o p t ho hp e hd ht)]
          rw [getD_set_ne' e] at hl
          exact hpres _ _ (h.v j p t hp hl ht)
    rcases step i o ho with ⟨m, hm, hop⟩ | ⟨hni, b, hb, hop⟩
    · have hmk : m = k := by
        have h1 : ¬ m < k := fun hlt => by rw [(h.ch m i hm).2 hlt] at hun; cases hun
        have h2 : m ≤ k := by
          cases m with
          | zero => exact Nat.zero_le _
          | succ m =>
            have hlt : m < C.length := by have := (List.getElem?_eq_some_iff.1 hm).1; omega
            have hj : C[m]? = some C[m] := List.getElem?_eq_getElem hlt
            obtain ⟨e, he, hbd, hon⟩ := chain_edge hch hj hm ho
            have := hall e he hbd
            rw [hon] at this
            exact (h.ch m _ hj).1 (by rw [getD_tf hL (hCl _ (List.getElem_mem hlt))]; exact this)
        omega
      subst hmk
      have hmlt : m < C.length := (List.getElem?_eq_some_iff.1 hm).1
      refine next (m + 1) (fun v => v) hmlt ?_ ?_ (hop a w x h.agc h.g h.ho hw)
      · intro v m2 j p t hm2 hj hp ht
        obtain rfl : m2 = m := by omega
        rw [hm] at hj; cases hj
        rw [ho] at hp; cases hp
        rw [ht, eval_put_same (by rw [h.ag.size]; exact hok.room i o t ho ht)]
      intro m2 j hj
      by_cases hji : j = i
      · subst hji
        have : m2 = m := by
          obtain ⟨l2, e2⟩ := List.getElem?_eq_some_iff.1 hj
          obtain ⟨l1, e1⟩ := List.getElem?_eq_some_iff.1 hm
          exact (List.getElem_inj hnd).1 (e2.trans e1.symm)
        subst this
        rw [getD_set_at (by omega)]
        exact ⟨fun _ => Nat.lt_succ_self _, fun _ => rfl⟩
      · rw [getD_set_ne' hji, h.ch m2 j hj]
        have : m2 ≠ m := by
          rintro rfl
          rw [hm] at hj; cases hj; exact hji rfl
        omega
    · have hkb : k ≤ b := by
        unfold aheadOf at hb
        rw [Bool.or_eq_true, beq_iff_eq] at hb
        rcases hb with rfl | hb
        · exact h.le
        · cases hj : C[b]? with
          | none => rw [hj] at hb; cases hb
          | some j =>
            rw [hj] at hb
            simp only at hb
            refine Nat.le_of_not_lt fun hlt => ?_
            have := reach_done h.cl 16 j i hb ((h.ch b j hj).2 hlt)
            rw [← getD_tf hL hil, hun] at this
            cases this
      refine next k (fun _ => x) h.le ?_ ?_ (hop k hkb a w x h.agc h.g hw)
      · intro v m2 j p t hm2 hj hp ht
        have hji : j ≠ i := by
          rintro rfl
          have := List.mem_of_getElem? hj
          rw [List.contains_eq_mem, decide_eq_false_iff_not] at hni
          exact hni this
        rw [Act.eval_put (fun d hd e2 => by cases e2; exact hok.apart i j o p t ho hp hji hd ht)]
        exact h.ho m2 j p t hm2 hj hp ht
      intro m2 j hj
      have hji : j ≠ i := by
        rintro rfl
        have := List.mem_of_getElem? hj
        rw [List.contains_eq_mem, decide_eq_false_iff_not] at hni
        exact hni this
      rw [getD_set_ne' hji, h.ch m2 j hj]

/-- The obligations one after the other. -/
def OweAllC (P : Program) (md : Region.Mode) (ops : Array Oper) (Q : Exit → Act → World → Prop) (V : Tmp → Value → World → Prop) (G : Nat → Value → World → Prop) (C : List Nat) (a0 : Act) : Nat → List Oper → Prop
  | _, [] => True
  | k, o :: r => OwesC P md ops Q V G C a0 k o ∧ OweAllC P md ops Q V G C a0 (k + 1) r
theorem OweAllC.get : ∀ {l : List Oper} {k : Nat}, OweAllC P md ops Q V G C a0 k l → ∀ (i : Nat) (o : Oper), l[i]? = some o → OwesC P md ops Q V G C a0 (k + i) o
  | _ :: _, k, h, 0, o, hi => by cases hi; exact h.1
  | _ :: r, k, h, i + 1, o, hi => by
    have := OweAllC.get h.2 i o (by simpa using hi)
    rwa [show k + 1 + i = k + (i + 1) by omega] at this
  | [], _, _, i, o, hi => by simp at hi
theorem OweAllC.cons {k : Nat} {o : Oper} {r : List Oper} (h : OwesC P md ops Q V G C a0 k o) (h2 : OweAllC P md ops Q V G C a0 (k + 1) r) : OweAllC P md ops Q V G C a0 k (o :: r) := ⟨h, h2⟩
theorem OweAllC.nil {k : Nat} : OweAllC P md ops Q V G C a0 k [] := trivial

theorem wp_region_chain {id : Nat} {w : World} (V : Tmp → Value → World → Prop) (G : Nat → Value → World → Prop) (C : List Nat) (N : Nat) (hm : P.follows .mixedOrders = true) (hok : drawOk ops N = true) (hN : a0.tmps.size = N)
    (hch : chainOk .any ops C = true) (hnd : decide C.Nodup = true) (hCl : C.all (· < ops.size) = true) (hG : G 0 undef w.drew)
    (step : OweAllC P .any ops Q V G C a0 0 ops.toList)
    (fin : ∀ f w x, G C.length x w → (∀ (m i : Nat) (o : Oper) (t : Tmp), C.length = m + 1 → C[m]? = some i → ops[i]? = some o → o.dst = some t → f t = x) → (∀ (i : Nat) (o : Oper) (t : Tmp), ops[i]? = some o → o.dst = some t → V t (f t) w) → Q .normal (puts f (dsts ops) a0) w) : (Code.region id ops true).wp P Q a0 w := by
  subst hN
  have hok := drawOk_spec hok
  have hCl' : ∀ i ∈ C, i < ops.size := fun i hi => by simpa using List.all_eq_true.1 hCl i hi
  have hL0 : ∀ i, i < ops.size → (Array.replicate ops.size false).getD i true = false := fun i hi => by simp [hi]
  refine wp_region_any hm (wpAny_chain (V := V) (G := G) (C := C) hok hch (of_decide_eq_true hnd) hCl' (fun i o ho => ?_) (fun a w x ha hg hh hv => ?_) ops.size _ a0 _ 0 undef (unl_le _ _) (by simp) ⟨hG, (fun m i o t h => by omega), Nat.zero_le _, ?_, ?_, ⟨rfl, rfl, fun _ _ => rfl⟩, (fun _ _ _ _ _ _ => rfl), ?_⟩)
  · have := step.get i o (by simpa using ho)
    rwa [Nat.zero_add] at this
  · rw [ha.puts hok]
    exact fin _ w x hg hh hv
  · intro m i hi
    have := hCl' i (List.mem_of_getElem? hi)
    rw [hL0 i this]
    simp
  · intro i o ho hl
    rw [hL0 i (Array.getElem?_eq_some_iff.1 ho).1] at hl; cases hl
  · intro i o t ho hl _
    rw [hL0 i (Array.getElem?_eq_some_iff.1 ho).1] at hl; cases hl

/-- An operation beside the chain that yields a value and turns nothing. -/
theorem owesC_val {i : Nat} {o : Oper} {t : Tmp} (b : Nat) (hb : aheadOf md ops C i b = true) (hni : C.contains i = false) (hi : ops[i]? = some o) (ht : o.dst = some t)
    (h : ∀ k a w x, k ≤ b → AgreeC ops C k a0 a → G k x w → AllV V a w (waits md ops o) → ∃ v, Region.wanted o (yielded ops a.tmps) = true ∧ (execOp a.eval o).run P w = .ok (.value v) w ∧ V t v w) : OwesC P md ops Q V G C a0 i o := by
  refine .inr ⟨hni, b, hb, fun k hk a w x ha hG hV => ?_⟩
  obtain ⟨v, hw, hr, hv⟩ := h k a w x hk ha hG hV
  unfold wpOp
  rw [hi]
  simp only [hw, if_true, Oper.wp, hr, Oper.upon]
  exact .inl ⟨v, rfl, fun u hu => by rw [ht] at hu; cases hu; exact hv, hG, fun _ _ h => h⟩
/-- A call of the chain. -/
theorem owesC_call {i : Nat} {o : Oper} {t : Tmp} (m : Nat) (hm : C[m]? = some i) (hi : ops[i]? = some o) (ht : o.dst = some t) (f : FuncId)
    (h : ∀ a w x, AgreeC ops C m a0 a → G m x w → Holds' ops C a m x → AllV V a w (waits md ops o) → ∃ args, Region.wanted o (yielded ops a.tmps) = true ∧ (execOp a.eval o).run P w = .ok (.enter f args) w ∧
      Calls P f args w fun e w' => ∃ v, e = .returned v ∧ V t v w' ∧ G (m + 1) v w' ∧ (∀ t u, V t u w → V t u w')) : OwesC P md ops Q V G C a0 i o := by
  refine .inl ⟨m, hm, fun a w x ha hG hh hV => ?_⟩
  obtain ⟨args, hw, hr, hc⟩ := h a w x ha hG hh hV
  unfold wpOp
  rw [hi]
  simp only [hw, if_true, Oper.wp, hr, Oper.upon]
  refine .inl (hc.mono ?_)
  rintro e w' ⟨v, rfl, h1, h2, h3⟩
  exact ⟨v, rfl, fun u hu => by rw [ht] at hu; cases hu; exact h1, h2, h3⟩
/-- A store of the chain. -/
theorem owesC_store {i : Nat} {o : Oper} (m : Nat) (hm : C[m]? = some i) (hi : ops[i]? = some o) (ht : o.dst = none)
    (h : ∀ a w x, AgreeC ops C m a0 a → G m x w → Holds' ops C a m x → AllV V a w (waits md ops o) → ∃ w', Region.wanted o (yielded ops a.tmps) = true ∧ (execOp a.eval o).run P w = .ok .skip w' ∧ G (m + 1) undef w' ∧ (∀ t u, V t u w → V t u w')) : OwesC P md ops Q V G C a0 i o := by
  refine .inl ⟨m, hm, fun a w x ha hG hh hV => ?_⟩
  obtain ⟨w', hw, hr, h2, h3⟩ := h a w x ha hG hh hV
  unfold wpOp
  rw [hi]
  simp only [hw, if_true, Oper.wp, hr, Oper.upon]
  exact .inl ⟨undef, rfl, fun u hu => (by rw [ht] at hu; cases hu), h2, h3⟩
end
end Go.Proofs.YtmodikcghlbigaaDoor.CW

namespace Go.Proofs.YtmodikcghlbigaaDoor
open Go.RowKit

namespace CW
section
variable {P : Program} {ops : Array Oper} {Q : Exit → Act → World → Prop} {md : Region.Mode} {V : Tmp → Value → World → Prop} {G : Nat → Value → World → Prop} {C : List Nat} {a0 : Act}
theorem owesC_mem {i : Nat} {o : Oper} {t : Tmp} (m : Nat) (hm : C[m]? = some i) (hi : ops[i]? = some o) (ht : o.dst = some t)
    (h : ∀ a w x, AgreeC ops C m a0 a → G m x w → Holds' ops C a m x → AllV V a w (waits md ops o) → ∃ v w', Region.wanted o (yielded ops a.tmps) = true ∧ (execOp a.eval o).run P w = .ok (.value v) w' ∧ V t v w' ∧ G (m + 1) v w' ∧ (∀ t u, V t u w → V t u w')) : OwesC P md ops Q V G C a0 i o := by
  refine .inl ⟨m, hm, fun a w x ha hG hh hV => ?_⟩
  obtain ⟨v, w', hw, hr, h1, h2, h3⟩ := h a w x ha hG hh hV
  unfold wpOp
  rw [hi]
  simp only [hw, if_true, Oper.wp, hr, Oper.upon]
  exact .inl ⟨v, rfl, fun u hu => by rw [ht] at hu; cases hu; exact h1, h2, h3⟩
theorem owesC_law {i : Nat} {o : Oper} (m : Nat) (hm : C[m]? = some i) (hi : ops[i]? = some o)
    (h : ∀ a w x, AgreeC ops C m a0 a → G m x w → Holds' ops C a m x → AllV V a w (waits md ops o) → Region.wanted o (yielded ops a.tmps) = true ∧
      ∀ K : Act → World → Prop, (∀ v w', (∀ t, o.dst = some t → V t v w') → G (m + 1) v w' → (∀ t u, V t u w → V t u w') → K (a.put o.dst v) w') → o.wp P a w K Q) : OwesC P md ops Q V G C a0 i o := by
  refine .inl ⟨m, hm, fun a w x ha hG hh hV => ?_⟩
  obtain ⟨hw, hl⟩ := h a w x ha hG hh hV
  unfold wpOp
  rw [hi]
  simp only [hw, if_true]
  exact .inl (hl _ (fun v w' h1 h2 h3 => ⟨v, rfl, h1, h2, h3⟩))
end
end CW
theorem Mod.of_below' {w w' : World} {r : Nat} (hb : Below w.heap.size w w') : Mod (· = r) w w' := (Mod.of_below hb).mono (fun i hi h => absurd h (by omega))
theorem Rd.far {α : Type} {E : Enc α} {w W0 w1 : World} {ao : Option Addr} {L : List α} {r : Nat} (h : Rd E w ao L) (hb : Below w.heap.size w W0) (hm : Mod (· = r) W0 w1) (hr : w.heap.size ≤ r) : Rd E w1 ao L := by
  intro j hj
  obtain ⟨bs, off, e, hlt, hc⟩ := h j hj
  have h1 := Nat.lt_of_lt_of_le hlt hb.size
  exact ⟨bs, off, e, Nat.lt_of_lt_of_le h1 hm.size, fun i u hu => (World.cell?_of_block ((hm.block bs h1 (by omega)).trans (hb.block bs hlt))).trans (hc i u hu)⟩
/-- Its lists lie in rows of their own. -/
def CtW (w : World) (c : Ct) (p q : Option Addr) (cp cq : Nat) : Prop := Rw encI 3 w p cp c.sg ∧ Rw encP 57 w q cq c.ch
theorem CtW.rd {w : World} {c : Ct} {p q : Option Addr} {cp cq : Nat} (h : CtW w c p q cp cq) : CtAt w c p q := ⟨h.1.rd, h.2.rd⟩
theorem CtW.old {w w' : World} {c : Ct} {p q : Option Addr} {cp cq : Nat} (h : CtW w c p q cp cq) (hb : Below w.heap.size w w') : CtW w' c p q cp cq := ⟨h.1.old hb, h.2.old hb⟩
/-- Appended to a row of no cells. -/
theorem wp_append0 {α : Type} {P : Program} {o : Oper} {a : Act} {K : Act → World → Prop} {Q : Exit → Act → World → Prop} {w : World} (E : Enc α) (s x : Operand) (Ts T : TypeId) (z : Value) (by_ : Nat)
    (ho : o.op = .call { callee := .builtin .append, args := #[s, x], argTypes := #[Ts, Ts] }) (hT : P.underlying Ts = some (.slice T)) (hi : (P.info? T).map (fun i => (i.zero, i.size, i.bytes)) = some (some z, E.k, by_)) (hzs : z.cells.size = E.k) (hby : by_ ≤ 1024)
    (g9 : Nat) (hs : a.eval s = .slice (some ⟨g9, 0, none⟩) 0 0) (hg9 : w.heap[g9]? = some (.cells #[] T (0, 0))) (ao : Option Addr) (cx : Nat) (Y : List α) {m : Nat} (hm : Y.length = m) (hx : a.eval x = .slice ao m cx) (hY : Rd E w ao Y) (hl : m ≤ 1000000000)
    (h : ∀ q c w', Rw E T w' q c Y → Below w.heap.size w w' → (∀ a, q = some a → g9 ≤ a.block) → K (a.put o.dst (.slice q m c)) w') : o.wp P a w K Q := by
  subst hm
  cases hq : P.info? T with
  | none => rw [hq] at hi; cases hi
  | some i =>
    rw [hq] at hi
    simp only [Option.map_some, Option.some.injEq, Prod.mk.injEq] at hi
    obtain ⟨hz, h1, h2⟩ := hi
    by_cases h0 : 0 < Y.length
    · obtain ⟨bs, off, rfl, hbs, _⟩ := hY 0 h0
      have hmul : (0 + Y.length) * by_ ≤ 140737488355328 := Nat.le_trans (Nat.mul_le_mul (show 0 + Y.length ≤ 1000000000 by omega) hby) (by decide)
      obtain ⟨v', w', hrun, r1, r2⟩ := run_append_arg_grows (P := P) w Ts o.type T i z E.k by_ hT hq hz h1 h2 hzs E.pos ⟨g9, 0, none⟩ 0 0 [] (by simp) (by intro j u hj; simp at hj) ⟨bs, off, none⟩ Y.length cx (E.all Y) (E.all_len Y) (by
        intro j u hj
        have hjl : j < Y.length * E.k := by
          have := (List.getElem?_eq_some_iff.1 hj).1
          rwa [E.all_len] at this
        have hd : j / E.k < Y.length := by rw [Nat.div_lt_iff_lt_mul E.pos]; exact hjl
        have hr : j % E.k < E.k := Nat.mod_lt _ E.pos
        have he : j / E.k * E.k + j % E.k = j := by rw [Nat.mul_comm]; exact Nat.div_add_mod j E.k
        obtain ⟨bs', off', e, _, c1⟩ := hY (j / E.k) hd
        cases e
        have hadd : (⟨bs, off, none⟩ : Addr).add j = ⟨bs, off + j, none⟩ := by unfold Addr.add; split <;> simp_all
        rw [← he, E.all_get Y _ _ hd hr] at hj
        have := c1 _ _ hj
        rw [Nat.add_assoc, he] at this
        rw [hadd, this]) (by omega) (by unfold maxLen; omega) hmul
      unfold Oper.wp execOp
      simp only [ho, resolve, invoke, builtin, Sem.run_bind, Sem.run_pure, Result.andThen_ok, List.map_toArray, List.map_cons, List.map_nil, hs, hx, hrun]
      rw [List.nil_append, Nat.zero_add] at r1
      have hb : Below w.heap.size w w' := (Below.refl _ _).grown r2 (Nat.le_refl _) (by intro k hk; cases hk)
      rcases r1.2 with ⟨e, hn0⟩ | ⟨g, cap, cur, e, hge, hh, q1, q2, q3, q4⟩
      · omega
      · subst e
        refine h (some ⟨g, 0, none⟩) cap w' (Rw.of_row hh q1 q2 q3 q4) hb (fun a' e' => ?_)
        cases e'
        have := (Array.getElem?_eq_some_iff.1 hg9).1
        simp only; omega
    · obtain rfl : Y = [] := List.eq_nil_of_length_eq_zero (by omega)
      have hrun := run_append_no (P := P) (w := w) Ts o.type T i hT hq (some ⟨g9, 0, none⟩) 0 0 (Nat.le_refl _) (fun e => by cases e) ao cx
      unfold Oper.wp execOp
      simp only [List.length_nil] at hx
      simp only [ho, resolve, invoke, builtin, Sem.run_bind, Sem.run_pure, Result.andThen_ok, List.map_toArray, List.map_cons, List.map_nil, hs, hx, hrun]
      exact h (some ⟨g9, 0, none⟩) 0 w (Rw.of_row hg9 (Nat.le_refl _) (Nat.zero_le _) (by simp) (by simp [Enc.all])) (Below.refl _ _) (fun a' e' => by cases e'; exact Nat.le_refl _)
theorem build_none {o : Oper} {a : Act} {w : World} (ho : o.op = .buildSlice 22 0 #[]) : (execOp a.eval o).run Tryd.prog w = .ok (.value (.slice (some ⟨w.heap.size, 0, none⟩) 0 0)) (w.alloc (.cells #[] 3)) := by
  unfold execOp
  simp [ho, Instr.buildSlice, run_underlying Tryd.underlying22, Instr.fill, newRow, Tryd.sizeOf3]
  congr 2
  exact Array.eq_empty_of_size_eq_zero (by simp)

set_option maxRecDepth 20000 in
set_option maxHeartbeats 4000000 in
theorem pown_any (ao : Option Addr) (cap : Nat) (E : List (Int × Int)) (w : World) (hS : Rd encP w ao E) (hl : E.length ≤ 1000000) :
    Calls Tryd.prog 23 #[.slice ao E.length cap] w fun r w' => ∃ q c, r = .returned (.slice q E.length c) ∧ Rw encP 57 w' q c E ∧ (∀ a, q = some a → w.heap.size ≤ a.block) ∧ Below w.heap.size w w' := by
  obtain ⟨n, hn⟩ : ∃ n, E.length = n := ⟨_, rfl⟩
  rw [hn] at hl ⊢
  have Hn := Lib.hid hn
  have HS := Lib.hid hS
  have hK := Lib.hid (AccR.zero encP 57 w)
  clear hn hS
  go_enter Tryd.func23, Tryd.ntmps23
  go_wp2_with fail
  go_loopw [3, 8] (fun s3 s8 wr => ∃ (i : Nat) (D : List (Int × Int)) (q : Option Addr) (c : Nat), i ≤ n ∧ s3 = .slice q i c ∧ s8 = .int .i64 (i : Int) ∧ Hid (D = E.take i ∧ AccR encP 57 w i D q c wr)) (fun _ i _ => n - (intOf i).toNat)
  case atStart => exact ⟨0, [], none, 0, by omega, rfl, rfl, Lib.hid ⟨rfl, hK.out⟩⟩
  case round =>
    clear hK
    obtain ⟨i, D, q, c, hi, rfl, rfl, hD⟩ := hrel
    by_cases hin : i < n
    · have hil : i < E.length := by rw [Hn.out]; exact hin
      obtain ⟨bs, off, rfl, hbs, c1, c2⟩ := (HS.out.old hD.out.2.m).pair i hil
      have hD2 : Hid (D ++ [E[i]] = E.take (i + 1)) := Lib.hid (by rw [hD.out.1]; exact List.take_append_getElem hil)
      obtain ⟨e, he⟩ : ∃ e, e = E[i] := ⟨_, rfl⟩
      rw [← he] at c1 c2 hD2
      obtain ⟨m, p⟩ := e
      simp only at c1 c2
      have i1 : (i : Int) < n := by omega
      have i0 : (0 : Int) ≤ i := by omega
      have hb1 : Below wr.heap.size wr (wr.alloc (.cells #[.int .i64 m, .int .i64 p] 75)) := (Below.refl _ _).alloc (Nat.le_refl _) _
      have hR1 := hD.out.2.below hb1
      obtain ⟨W2, hW2⟩ : ∃ W, W = wr.alloc (.cells #[.int .i64 m, .int .i64 p] 75) := ⟨_, rfl⟩
      have hb2 : Below W2.heap.size W2 (W2.alloc (.cells #[.int .i64 m, .int .i64 p] 57)) := (Below.refl _ _).alloc (Nat.le_refl _) _
      rw [← hW2] at hR1
      have hR2 := hR1.below hb2
      have hYY : Rd encP (W2.alloc (.cells #[.int .i64 m, .int .i64 p] 57)) (some ⟨W2.heap.size, 0, none⟩) [(m, p)] := Rd.made encP W2 57 [(m, p)] (by simp [maxLen])
      have hRl := Lib.hid hR2.len
      have hRs := hR2.s
      have e9 : W2.heap.size = wr.heap.size + 1 := by rw [hW2]; simp
      rw [e9] at hYY
      rw [hW2] at hRs hYY
      have HR2 : Hid (AccR encP 57 w i D q c ((wr.alloc (.cells #[.int .i64 m, .int .i64 p] 75)).alloc (.cells #[.int .i64 m, .int .i64 p] 57))) := Lib.hid (by rw [hW2] at hR2; exact hR2)
      clear he hD hb1 hb2 hR1 hR2 hW2 e9
      go_wp2_with (at_builtin; refine wpList_pushR encP rfl _ _ 28 57 (.agg #[.int .i64 0, .int .i64 0]) 16 rfl Tryd.underlying28 info_entk rfl (by decide) q c i D hRl.out rfl hRs _ 1 1 [(m, p)] rfl rfl hYY (by omega) ?_; intro pq2 cq2 W5 hP; have HR5 := Lib.hid (HR2.out.push hP); clear hP)
      go_roundw
      case rel => exact ⟨i + 1, D ++ [(m, p)], pq2, cq2, by omega, rfl, by go_num, Lib.hid ⟨hD2.out, HR5.out⟩⟩
      case measure => simp [intOf]; omega
    · have e : i = n := by omega
      have e2 : Hid (D = E) := Lib.hid (by rw [hD.out.1, List.take_of_length_le (by rw [Hn.out]; omega)])
      have HR := Lib.hid hD.out.2
      have hin' : (i : Int) = n := by omega
      obtain rfl := e2.out
      subst e
      clear hD hin'
      go_wp2_with fail
      go_ret
      exact ⟨q, c, rfl, HR.out.s, HR.out.new, HR.out.m⟩

/-- The slots of Own's region. -/
def V8 (N : Nat) (inst : Int) (base fin : List UInt8) (p q : Option Addr) (cp cq n m : Nat) (sg : List Int) (ch : List (Int × Int)) (g : Nat) (t : Tmp) (v : Value) (w : World) : Prop := match t with
  | 3 => v = .pointer (some ⟨g, 0, none⟩)
  | 4 => v = .int .i64 inst
  | 5 => v = .pointer (some ⟨g, 1, none⟩)
  | 6 => v = .string ⟨base.toArray⟩
  | 7 => v = .pointer (some ⟨g, 2, none⟩)
  | 8 => v = .string ⟨fin.toArray⟩
  | 9 => ∃ g9, v = .slice (some ⟨g9, 0, none⟩) 0 0 ∧ w.heap[g9]? = some (.cells #[] 3 (0, 0)) ∧ N ≤ g9
  | 10 => v = .pointer (some ⟨g, 3, none⟩)
  | 11 => v = .slice p n cp
  | 12 => ∃ q c, v = .slice q n c ∧ Rw encI 3 w q c sg ∧ ∀ a, q = some a → N ≤ a.block
  | 13 => v = .pointer (some ⟨g, 4, none⟩)
  | 14 => v = .slice q m cq
  | 15 => ∃ q c, v = .slice q m c ∧ Rw encP 57 w q c ch ∧ ∀ a, q = some a → N ≤ a.block
  | 16 => ∃ q1 c1 q2 c2, v = .agg (ctc ⟨inst, base, fin, sg, ch⟩ q1 q2 c1 c2) ∧ Rw encI 3 w q1 c1 sg ∧ Rw encP 57 w q2 c2 ch ∧ (∀ a, q1 = some a → N ≤ a.block) ∧ (∀ a, q2 = some a → N ≤ a.block)
  | _ => True
theorem V8.keep {N : Nat} {inst : Int} {base fin : List UInt8} {p q : Option Addr} {cp cq n m : Nat} {sg : List Int} {ch : List (Int × Int)} {g r : Nat} {w w' : World} (hr : r < N) (hM : Mod (· = r) w w') (t : Tmp) (v : Value) (h : V8 N inst base fin p q cp cq n m sg ch g t v w) : V8 N inst base fin p q cp cq n m sg ch g t v w' := by
  unfold V8 at h ⊢
  split at h
  case h_7 =>
    obtain ⟨g9, h1, h2, h3⟩ := h
    exact ⟨g9, h1, (hM.block g9 (Array.getElem?_eq_some_iff.1 h2).1 (by omega)).trans h2, h3⟩
  case h_10 =>
    obtain ⟨q, c, h1, h2, h3⟩ := h
    exact ⟨q, c, h1, h2.kept hM (fun a e h => by have := h3 a e; omega), h3⟩
  case h_13 =>
    obtain ⟨q, c, h1, h2, h3⟩ := h
    exact ⟨q, c, h1, h2.kept hM (fun a e h => by have := h3 a e; omega), h3⟩
  case h_14 =>
    obtain ⟨q1, c1, q2, c2, h1, h2, h3, h4, h5⟩ := h
    exact ⟨q1, c1, q2, c2, h1, h2.kept hM (fun a e h => by have := h4 a e; omega), h3.kept hM (fun a e h => by have := h5 a e; omega), h4, h5⟩
  all_goals exact h

set_option maxRecDepth 20000 in
set_option maxHeartbeats 8000000 in
theorem own07R_any (c : Ct) (p q : Option Addr) (cp cq : Nat) (w : World) (hS : CtAt w c p q) (l1 : c.sg.length ≤ 1000000) (l2 : c.ch.length ≤ 1000000) :
    Calls Tryd.prog 8 #[.agg (ctc c p q cp cq)] w fun r w' => ∃ p' q' cp' cq', r = .returned (.agg (ctc c p' q' cp' cq')) ∧ CtW w' c p' q' cp' cq' ∧ Below w.heap.size w w' := by
  obtain ⟨inst, base, fin, sg, ch⟩ := c
  obtain ⟨hS1, hS2⟩ := hS
  simp only at hS1 hS2 l1 l2
  obtain ⟨n, hn⟩ : ∃ n, sg.length = n := ⟨_, rfl⟩
  obtain ⟨m, hm⟩ : ∃ n, ch.length = n := ⟨_, rfl⟩
  obtain ⟨PP, hPP⟩ : ∃ P : Ending → World → Prop, P = fun r w' => ∃ p' q' cp' cq', r = .returned (.agg (ctc ⟨inst, base, fin, sg, ch⟩ p' q' cp' cq')) ∧ CtW w' ⟨inst, base, fin, sg, ch⟩ p' q' cp' cq' ∧ Below w.heap.size w w' := ⟨_, rfl⟩
  rw [show (fun r w' => ∃ p' q' cp' cq', r = .returned (.agg (ctc ⟨inst, base, fin, sg, ch⟩ p' q' cp' cq')) ∧ CtW w' ⟨inst, base, fin, sg, ch⟩ p' q' cp' cq' ∧ Below w.heap.size w w') = PP from hPP.symm]
  have HPP := Lib.hid hPP
  have hown : Hid (∀ w, Rd encP w q ch → Calls Tryd.prog 23 #[.slice q m cq] w fun r w' => ∃ q c, r = .returned (.slice q m c) ∧ Rw encP 57 w' q c ch ∧ (∀ a, q = some a → w.heap.size ≤ a.block) ∧ Below w.heap.size w w') := Lib.hid (fun w h => by have := pown_any q cq ch w h l2; rw [hm] at this; exact this)
  have Hn := Lib.hid hn
  have Hm := Lib.hid hm
  unfold ctc
  simp only
  rw [hn] at l1
  rw [hn, hm]
  obtain ⟨ZZ, hZZ⟩ : ∃ Z : Array Value, Z = #[.int .i64 0, .string ⟨#[]⟩, .string ⟨#[]⟩, .slice none 0 0, .slice none 0 0] := ⟨_, rfl⟩
  have hZs : ZZ.size = 5 := by rw [hZZ]; rfl
  obtain ⟨W0, hW0⟩ : ∃ W, W = (w.alloc (.cells #[.int .i64 inst, .string ⟨base.toArray⟩, .string ⟨fin.toArray⟩, .slice p n cp, .slice q m cq] 25)).alloc (.cells ZZ 30) := ⟨_, rfl⟩
  have hB : Hid (Below w.heap.size w W0) := Lib.hid (by rw [hW0]; exact ((Below.refl _ _).alloc (Nat.le_refl _) _).alloc (by simp) _)
  obtain ⟨g, hg⟩ : ∃ g, g = w.heap.size := ⟨_, rfl⟩
  obtain ⟨r, hr⟩ : ∃ g, g = w.heap.size + 1 := ⟨_, rfl⟩
  have hsz : W0.heap.size = w.heap.size + 2 := by rw [hW0]; simp
  have hbx0 : W0.heap[g]? = some (.cells #[.int .i64 inst, .string ⟨base.toArray⟩, .string ⟨fin.toArray⟩, .slice p n cp, .slice q m cq] 25 (0, 0)) := by rw [hW0, hg, Below.heap_alloc _ _ _ (by simp)]; exact heap_alloc_new _ _
  have hrs : W0.heap[r]? = some (.cells ZZ 30 (0, 0)) := by rw [hW0, hr]; have := heap_alloc_new (w.alloc (.cells #[.int .i64 inst, .string ⟨base.toArray⟩, .string ⟨fin.toArray⟩, .slice p n cp, .slice q m cq] 25)) (.cells ZZ 30); simpa using this
  have hbx : ∀ w2, Mod (· = r) W0 w2 → w2.cell? ⟨g, 0, none⟩ = some (.int .i64 inst) ∧ w2.cell? ⟨g, 1, none⟩ = some (.string ⟨base.toArray⟩) ∧ w2.cell? ⟨g, 2, none⟩ = some (.string ⟨fin.toArray⟩) ∧ w2.cell? ⟨g, 3, none⟩ = some (.slice p n cp) ∧ w2.cell? ⟨g, 4, none⟩ = some (.slice q m cq) := fun w2 h2 => by
    have e := (h2.block g (by omega) (by omega)).trans hbx0
    exact ⟨cell_of_row w2 g 0 _ 25 (0, 0) e, cell_of_row w2 g 1 _ 25 (0, 0) e, cell_of_row w2 g 2 _ 25 (0, 0) e, cell_of_row w2 g 3 _ 25 (0, 0) e, cell_of_row w2 g 4 _ 25 (0, 0) e⟩
  have HS1 := Lib.hid hS1
  have HS2 := Lib.hid hS2
  have Hr : Hid (r < W0.heap.size) := Lib.hid (by omega)
  have Hg := Lib.hid hg
  have Hrr := Lib.hid hr
  have HW := Lib.hid hW0
  have HZ := Lib.hid hZZ
  have HG0 : Hid ((fun (j : Nat) (_ : Value) (w' : World) => Mod (· = r) W0 w' ∧ (j ≤ 3 → w'.heap[r]? = some (.cells ZZ 30 (0, 0))) ∧ (j = 4 → ∃ q1 c1 q2 c2, w'.heap[r]? = some (.cells (ctc ⟨inst, base, fin, sg, ch⟩ q1 q2 c1 c2) 30 (0, 0)) ∧ Rw encI 3 w' q1 c1 sg ∧ Rw encP 57 w' q2 c2 ch)) 0 undef W0.drew) := Lib.hid ⟨(Mod.refl _ _).drew, (fun _ => hrs), (fun h => absurd h (by omega))⟩
  clear hS1 hS2 hW0 hg hr hZZ hbx0 hrs hsz hPP hn hm
  go_enter Tryd.func8, Tryd.ntmps8
  go_wp2_with fail
  rw [← HZ.out, ← HW.out, ← Hrr.out, ← Hg.out]
  refine CW.wp_region_chain (V8 W0.heap.size inst base fin p q cp cq n m sg ch g) (fun (j : Nat) (_ : Value) (w' : World) => Mod (· = r) W0 w' ∧ (j ≤ 3 → w'.heap[r]? = some (.cells ZZ 30 (0, 0))) ∧ (j = 4 → ∃ q1 c1 q2 c2, w'.heap[r]? = some (.cells (ctc ⟨inst, base, fin, sg, ch⟩ q1 q2 c1 c2) 30 (0, 0)) ∧ Rw encI 3 w' q1 c1 sg ∧ Rw encP 57 w' q2 c2 ch)) [6, 9, 12, 14] 17 (by kernel_rfl) (by decide +kernel) rfl (by decide +kernel) (by decide) (by decide) HG0.out (by
    refine CW.OweAllC.cons (CW.owesC_val 3 (by decide +kernel) (by decide) rfl rfl fun k' a w1 x hk ha hG hV => ?_) ?_
    · skip
      have h1 := ha.outer 1 (by decide +kernel)
      simp only [Act.eval] at h1
      exact ⟨.pointer (some ⟨g, 0, none⟩), wanted_free rfl, by simp [execOp, go_sem, h1], rfl⟩
    refine CW.OweAllC.cons (CW.owesC_val 3 (by decide +kernel) (by decide) rfl rfl fun k' a w1 x hk ha hG hV => ?_) ?_
    · skip
      have h3 : a.tmps.getD 3 undef = .pointer (some ⟨g, 0, none⟩) := hV.get 3 (by decide +kernel)
      have cc := hbx _ hG.1
      exact ⟨.int .i64 inst, wanted_free rfl, by simp [execOp, go_sem, h3, cc.1], rfl⟩
    refine CW.OweAllC.cons (CW.owesC_val 3 (by decide +kernel) (by decide) rfl rfl fun k' a w1 x hk ha hG hV => ?_) ?_
    · skip
      have h1 := ha.outer 1 (by decide +kernel)
      simp only [Act.eval] at h1
      exact ⟨.pointer (some ⟨g, 1, none⟩), wanted_free rfl, by simp [execOp, go_sem, h1], rfl⟩
    refine CW.OweAllC.cons (CW.owesC_val 3 (by decide +kernel) (by decide) rfl rfl fun k' a w1 x hk ha hG hV => ?_) ?_
    · skip
      have h5 : a.tmps.getD 5 undef = .pointer (some ⟨g, 1, none⟩) := hV.get 5 (by decide +kernel)
      have cc := hbx _ hG.1
      exact ⟨.string ⟨base.toArray⟩, wanted_free rfl, by simp [execOp, go_sem, h5, cc.2.1], rfl⟩
    refine CW.OweAllC.cons (CW.owesC_val 3 (by decide +kernel) (by decide) rfl rfl fun k' a w1 x hk ha hG hV => ?_) ?_
    · skip
      have h1 := ha.outer 1 (by decide +kernel)
      simp only [Act.eval] at h1
      exact ⟨.pointer (some ⟨g, 2, none⟩), wanted_free rfl, by simp [execOp, go_sem, h1], rfl⟩
    refine CW.OweAllC.cons (CW.owesC_val 3 (by decide +kernel) (by decide) rfl rfl fun k' a w1 x hk ha hG hV => ?_) ?_
    · skip
      have h7 : a.tmps.getD 7 undef = .pointer (some ⟨g, 2, none⟩) := hV.get 7 (by decide +kernel)
      have cc := hbx _ hG.1
      exact ⟨.string ⟨fin.toArray⟩, wanted_free rfl, by simp [execOp, go_sem, h7, cc.2.2.1], rfl⟩
    refine CW.OweAllC.cons (CW.owesC_mem 0 rfl rfl rfl fun a w1 x ha hG hx hV => ?_) ?_
    · skip
      have hb : Below w1.heap.size w1 (w1.alloc (.cells #[] 3)) := (Below.refl _ _).alloc (Nat.le_refl _) _
      exact ⟨_, _, wanted_free rfl, build_none rfl, ⟨w1.heap.size, rfl, heap_alloc_new w1 _, hG.1.size⟩, ⟨hG.1.trans (Mod.of_below hb) (fun i hi h => absurd h (by have := hG.1.size; omega)), (fun h => (hb.block r (Array.getElem?_eq_some_iff.1 (hG.2.1 (by omega))).1).trans (hG.2.1 (by omega))), (fun h => absurd h (by omega))⟩, V8.keep Hr.out (Mod.of_below' hb)⟩
    refine CW.OweAllC.cons (CW.owesC_val 1 (by decide +kernel) (by decide) rfl rfl fun k' a w1 x hk ha hG hV => ?_) ?_
    · skip
      have h1 := ha.outer 1 (by decide +kernel)
      simp only [Act.eval] at h1
      exact ⟨.pointer (some ⟨g, 3, none⟩), wanted_free rfl, by simp [execOp, go_sem, h1], rfl⟩
    refine CW.OweAllC.cons (CW.owesC_val 1 (by decide +kernel) (by decide) rfl rfl fun k' a w1 x hk ha hG hV => ?_) ?_
    · skip
      have h10 : a.tmps.getD 10 undef = .pointer (some ⟨g, 3, none⟩) := hV.get 10 (by decide +kernel)
      have cc := hbx _ hG.1
      exact ⟨.slice p n cp, wanted_free rfl, by simp [execOp, go_sem, h10, cc.2.2.2.1], rfl⟩
    refine CW.OweAllC.cons (CW.owesC_law 1 rfl rfl fun a w1 x ha hG hx hV => ?_) ?_
    · skip
      have h11 : a.tmps.getD 11 undef = .slice p n cp := hV.get 11 (by decide +kernel)
      obtain ⟨g9, h9, hr9, hl9⟩ : ∃ g9, a.tmps.getD 9 undef = .slice (some ⟨g9, 0, none⟩) 0 0 ∧ w1.heap[g9]? = some (.cells #[] 3 (0, 0)) ∧ W0.heap.size ≤ g9 := hV.get 9 (by decide +kernel)
      have hL := HS1.out.far hB.out hG.1 (by have := Hrr.out; omega)
      refine ⟨wanted_free rfl, fun K hK => ?_⟩
      refine wp_append0 encI (.tmp 9) (.tmp 11) 22 3 (.int .i64 0) 8 rfl Tryd.underlying22 info_intk rfl (by decide) g9 h9 hr9 p cp sg Hn.out h11 hL (by omega) ?_
      rintro q' c' w' hR hb hfr
      exact hK _ _ (fun t ht => by cases ht; exact ⟨q', c', rfl, hR, fun a e => Nat.le_trans (by omega) (hfr a e)⟩) ⟨hG.1.trans (Mod.of_below hb) (fun i hi h => absurd h (by have := hG.1.size; omega)), (fun h => (hb.block r (Array.getElem?_eq_some_iff.1 (hG.2.1 (by omega))).1).trans (hG.2.1 (by omega))), (fun h => absurd h (by omega))⟩ (V8.keep Hr.out (Mod.of_below' hb))
    refine CW.OweAllC.cons (CW.owesC_val 2 (by decide +kernel) (by decide) rfl rfl fun k' a w1 x hk ha hG hV => ?_) ?_
    · skip
      have h1 := ha.outer 1 (by decide +kernel)
      simp only [Act.eval] at h1
      exact ⟨.pointer (some ⟨g, 4, none⟩), wanted_free rfl, by simp [execOp, go_sem, h1], rfl⟩
    refine CW.OweAllC.cons (CW.owesC_val 2 (by decide +kernel) (by decide) rfl rfl fun k' a w1 x hk ha hG hV => ?_) ?_
    · skip
      have h13 : a.tmps.getD 13 undef = .pointer (some ⟨g, 4, none⟩) := hV.get 13 (by decide +kernel)
      have cc := hbx _ hG.1
      exact ⟨.slice q m cq, wanted_free rfl, by simp [execOp, go_sem, h13, cc.2.2.2.2], rfl⟩
    refine CW.OweAllC.cons (CW.owesC_call 2 rfl rfl rfl 23 fun a w1 x ha hG hx hV => ?_) ?_
    · skip
      have h14 : a.tmps.getD 14 undef = .slice q m cq := hV.get 14 (by decide +kernel)
      refine ⟨#[.slice q m cq], wanted_free rfl, by simp [execOp, resolve, invoke, go_sem, h14], ?_⟩
      have hL := HS2.out.far hB.out hG.1 (by have := Hrr.out; omega)
      refine (hown.out w1 hL).mono ?_
      rintro rr u2 ⟨q', c', rfl, hR, hfr, hb⟩
      exact ⟨_, rfl, ⟨q', c', rfl, hR, fun a e => Nat.le_trans hG.1.size (hfr a e)⟩, ⟨hG.1.trans (Mod.of_below hb) (fun i hi h => absurd h (by have := hG.1.size; omega)), (fun h => (hb.block r (Array.getElem?_eq_some_iff.1 (hG.2.1 (by omega))).1).trans (hG.2.1 (by omega))), (fun h => absurd h (by omega))⟩, V8.keep Hr.out (Mod.of_below' hb)⟩
    refine CW.OweAllC.cons (CW.owesC_val 3 (by decide +kernel) (by decide) rfl rfl fun k' a w1 x hk ha hG hV => ?_) ?_
    · skip
      have h4 : a.tmps.getD 4 undef = .int .i64 inst := hV.get 4 (by decide +kernel)
      have h6 : a.tmps.getD 6 undef = .string ⟨base.toArray⟩ := hV.get 6 (by decide +kernel)
      have h8 : a.tmps.getD 8 undef = .string ⟨fin.toArray⟩ := hV.get 8 (by decide +kernel)
      obtain ⟨q1, c1, h12, r12, f12⟩ : ∃ q c, a.tmps.getD 12 undef = .slice q n c ∧ Rw encI 3 w1 q c sg ∧ ∀ a, q = some a → W0.heap.size ≤ a.block := hV.get 12 (by decide +kernel)
      obtain ⟨q2, c2, h15, r15, f15⟩ : ∃ q c, a.tmps.getD 15 undef = .slice q m c ∧ Rw encP 57 w1 q c ch ∧ ∀ a, q = some a → W0.heap.size ≤ a.block := hV.get 15 (by decide +kernel)
      have g4 : a.tmps[4]?.getD undef = .int .i64 inst := by simpa using h4
      have g6 : a.tmps[6]?.getD undef = .string ⟨base.toArray⟩ := by simpa using h6
      have g8 : a.tmps[8]?.getD undef = .string ⟨fin.toArray⟩ := by simpa using h8
      have g12 : a.tmps[12]?.getD undef = .slice q1 n c1 := by simpa using h12
      have g15 : a.tmps[15]?.getD undef = .slice q2 m c2 := by simpa using h15
      exact ⟨.agg (ctc ⟨inst, base, fin, sg, ch⟩ q1 q2 c1 c2), wanted_free rfl, by unfold ctc; simp only [Hn.out, Hm.out]; simp [execOp, go_sem, h4, h6, h8, h12, h15, g4, g6, g8, g12, g15], ⟨q1, c1, q2, c2, rfl, r12, r15, f12, f15⟩⟩
    refine CW.OweAllC.cons (CW.owesC_store 3 rfl rfl rfl fun a w1 x ha hG hx hV => ?_) ?_
    · skip
      have h2 := ha.outer 2 (by decide +kernel)
      simp only [Act.eval] at h2
      obtain ⟨q1, c1, q2, c2, h16, hR1, hR2, hf1, hf2⟩ : ∃ q1 c1 q2 c2, a.tmps.getD 16 undef = .agg (ctc ⟨inst, base, fin, sg, ch⟩ q1 q2 c1 c2) ∧ Rw encI 3 w1 q1 c1 sg ∧ Rw encP 57 w1 q2 c2 ch ∧ (∀ a, q1 = some a → W0.heap.size ≤ a.block) ∧ (∀ a, q2 = some a → W0.heap.size ≤ a.block) := hV.get 16 (by decide +kernel)
      have hrow := hG.2.1 (by omega)
      have hr := Hr.out
      have hM : Mod (· = r) w1 (w1.setRow r (ctc ⟨inst, base, fin, sg, ch⟩ q1 q2 c1 c2)) := ((Mod.refl (fun _ => False) w1).setRow (g := r) _).mono (by rintro i hi (h | h) <;> first | exact h.elim | exact h)
      exact ⟨w1.setRow r (ctc ⟨inst, base, fin, sg, ch⟩ q1 q2 c1 c2), wanted_free rfl, exec_store_row 30 (.tmp 2) (.tmp 16) rfl r h2 30 _ _ h16 hrow hZs ct_info (ctc_one _ _ _ _ _), ⟨hG.1.trans hM (fun i hi h => h), (fun h => absurd h (by omega)), (fun h => ⟨q1, c1, q2, c2, setRow_heap _ _ _ _ _ _ hrow, hR1.kept hM (fun a e h => by have := hf1 a e; omega), hR2.kept hM (fun a e h => by have := hf2 a e; omega)⟩)⟩, V8.keep Hr.out hM⟩
    exact CW.OweAllC.nil
    ) ?_
  intro f wz xz hG hx hv
  first | (rename_i hK; refine hK _ _ ?_; clear hK) | (rename_i hK _; refine hK _ _ ?_; clear hK) | (rename_i hK _ _; refine hK _ _ ?_; clear hK) | (rename_i hK _ _ _; refine hK _ _ ?_; clear hK)
  clear hv hx
  simp only [dsts, puts, List.filterMap_cons, List.filterMap_nil, List.foldl_cons, List.foldl_nil, Act.put, List.setIfInBounds_toArray, List.set_cons_succ, List.set_cons_zero]
  obtain ⟨hM, -, h4⟩ := hG
  obtain ⟨q1, c1, q2, c2, hrow, hR1, hR2⟩ := h4 rfl
  have HB : Hid (Below w.heap.size w wz) := Lib.hid (hB.out.trans (hM.to_below hB.out.size (fun i hi e => by have := Hrr.out; omega)))
  have HP := Lib.hid (⟨q1, q2, c1, c2, rfl, ⟨hR1, hR2⟩, HB.out⟩ : ∃ p' q' cp' cq', Ending.returned (.agg (ctc ⟨inst, base, fin, sg, ch⟩ q1 q2 c1 c2)) = .returned (.agg (ctc ⟨inst, base, fin, sg, ch⟩ p' q' cp' cq')) ∧ CtW wz ⟨inst, base, fin, sg, ch⟩ p' q' cp' cq' ∧ Below w.heap.size w wz)
  clear HG0 hM h4 hR1 hR2
  go_wp2_with fail
  exact bodyPost_ret (v := .agg (ctc ⟨inst, base, fin, sg, ch⟩ q1 q2 c1 c2)) (results_cell_row Tryd.results8 _ _ r 30 _ (0, 0) _ rfl hrow Tryd.underlying30 rfl ct_info) rfl (by rw [HPP.out]; exact HP.out)
theorem own07_any (c : Ct) (p q : Option Addr) (cp cq : Nat) (w : World) (hS : CtAt w c p q) (l1 : c.sg.length ≤ 1000000) (l2 : c.ch.length ≤ 1000000) :
    Calls Tryd.prog 8 #[.agg (ctc c p q cp cq)] w fun r w' => ∃ p' q' cp' cq', r = .returned (.agg (ctc c p' q' cp' cq')) ∧ CtAt w' c p' q' ∧ Below w.heap.size w w' := by
  refine (own07R_any c p q cp cq w hS l1 l2).mono ?_
  rintro r w' ⟨p', q', cp', cq', h1, h2, h3⟩
  exact ⟨p', q', cp', cq', h1, h2.rd, h3⟩
end Go.Proofs.YtmodikcghlbigaaDoor

namespace Go.Proofs.YtmodikcghlbigaaDoor
open Go.RowKit

/-- What few leaves. -/
def fewC (c : Ct) : Ct := ⟨c.inst, c.base.take 200, c.fin.take 200, c.sg.take 66, c.ch.take 66⟩

set_option maxRecDepth 20000 in
set_option maxHeartbeats 8000000 in
theorem few07_any (c : Ct) (p q : Option Addr) (cp cq : Nat) (w : World) (l1 : c.sg.length ≤ cp) (l2 : c.ch.length ≤ cq) (k1 : (c.base.length : Int) ≤ 9223372036854775807) (k2 : (c.fin.length : Int) ≤ 9223372036854775807) :
    Calls Tryd.prog 7 #[.agg (ctc c p q cp cq)] w fun r w' => r = .returned (.agg (ctc (fewC c) p q cp cq)) ∧ Below w.heap.size w w' := by
  obtain ⟨inst, base, fin, sg, ch⟩ := c
  unfold ctc fewC
  simp only [List.length_take]
  simp only at l1 l2 k1 k2
  have cutbase := Lib.hid (fun w => cut_any base 200 w k1 (by decide))
  have cutfin := Lib.hid (fun w => cut_any fin 200 w k2 (by decide))
  obtain ⟨n, hn⟩ : ∃ n, n = sg.length := ⟨_, rfl⟩
  obtain ⟨m, hm⟩ : ∃ n, n = ch.length := ⟨_, rfl⟩
  obtain ⟨B, hB⟩ : ∃ B, B = base.take 200 := ⟨_, rfl⟩
  obtain ⟨F, hF⟩ : ∃ B, B = fin.take 200 := ⟨_, rfl⟩
  rw [← hn] at l1 ⊢
  rw [← hm] at l2 ⊢
  rw [← hB] at cutbase ⊢
  rw [← hF] at cutfin ⊢
  clear hn hm hB hF k1 k2
  obtain ⟨ZZ, hZZ⟩ : ∃ Z : Array Value, Z = #[.int .i64 0, .string ⟨#[]⟩, .string ⟨#[]⟩, .slice none 0 0, .slice none 0 0] := ⟨_, rfl⟩
  have hZs : ZZ.size = 5 := by rw [hZZ]; rfl
  obtain ⟨W0, hW0⟩ : ∃ W, W = (w.alloc (.cells #[.int .i64 inst, .string ⟨base.toArray⟩, .string ⟨fin.toArray⟩, .slice p n cp, .slice q m cq] 25)).alloc (.cells ZZ 25) := ⟨_, rfl⟩
  have hBW : Hid (Below w.heap.size w W0) := Lib.hid (by rw [hW0]; exact ((Below.refl _ _).alloc (Nat.le_refl _) _).alloc (by simp) _)
  obtain ⟨g, hg⟩ : ∃ g, g = w.heap.size := ⟨_, rfl⟩
  obtain ⟨r, hr⟩ : ∃ g, g = w.heap.size + 1 := ⟨_, rfl⟩
  have hbx0 : W0.heap[g]? = some (.cells #[.int .i64 inst, .string ⟨base.toArray⟩, .string ⟨fin.toArray⟩, .slice p n cp, .slice q m cq] 25 (0, 0)) := by rw [hW0, hg, Below.heap_alloc _ _ _ (by simp)]; exact heap_alloc_new _ _
  have hrs : W0.heap[r]? = some (.cells ZZ 25 (0, 0)) := by rw [hW0, hr]; have := heap_alloc_new (w.alloc (.cells #[.int .i64 inst, .string ⟨base.toArray⟩, .string ⟨fin.toArray⟩, .slice p n cp, .slice q m cq] 25)) (.cells ZZ 25); simpa using this
  have Hrs := Lib.hid hrs
  have Hgr : Hid (g = w.heap.size ∧ r = w.heap.size + 1) := Lib.hid ⟨hg, hr⟩
  have HW := Lib.hid hW0
  have HZ := Lib.hid hZZ
  have HG0 : Hid ((fun (j : Nat) (_ : Value) (w' : World) => Mod (· = g) W0 w' ∧ w'.heap[g]? = some (.cells (match j with | 0 => #[.int .i64 inst, .string ⟨base.toArray⟩, .string ⟨fin.toArray⟩, .slice p n cp, .slice q m cq] | 1 => #[.int .i64 inst, .string ⟨base.toArray⟩, .string ⟨fin.toArray⟩, .slice p n cp, .slice q m cq] | 2 => #[.int .i64 inst, .string ⟨base.toArray⟩, .string ⟨fin.toArray⟩, .slice p n cp, .slice q m cq] | 3 => #[.int .i64 inst, .string ⟨B.toArray⟩, .string ⟨fin.toArray⟩, .slice p n cp, .slice q m cq] | _ => #[.int .i64 inst, .string ⟨B.toArray⟩, .string ⟨F.toArray⟩, .slice p n cp, .slice q m cq]) 25 (0, 0))) 0 undef W0.drew) := Lib.hid ⟨(Mod.refl _ _).drew, hbx0⟩
  clear hW0 hg hr hZZ hbx0 hrs
  go_enter Tryd.func7, Tryd.ntmps7
  go_wp2_with fail
  rw [← HZ.out, ← HW.out, ← Hgr.out.2, ← Hgr.out.1]
  refine wp_region_chain (fun t v => match t with
    | 3 => v = .pointer (some ⟨g, 1, none⟩)
    | 4 => v = .string ⟨base.toArray⟩
    | 5 => v = .string ⟨B.toArray⟩
    | 6 => v = .pointer (some ⟨g, 2, none⟩)
    | 7 => v = .string ⟨fin.toArray⟩
    | 8 => v = .string ⟨F.toArray⟩
    | 9 => v = .pointer (some ⟨g, 1, none⟩)
    | 10 => v = .pointer (some ⟨g, 2, none⟩)
    | _ => True) (fun (j : Nat) (_ : Value) (w' : World) => Mod (· = g) W0 w' ∧ w'.heap[g]? = some (.cells (match j with | 0 => #[.int .i64 inst, .string ⟨base.toArray⟩, .string ⟨fin.toArray⟩, .slice p n cp, .slice q m cq] | 1 => #[.int .i64 inst, .string ⟨base.toArray⟩, .string ⟨fin.toArray⟩, .slice p n cp, .slice q m cq] | 2 => #[.int .i64 inst, .string ⟨base.toArray⟩, .string ⟨fin.toArray⟩, .slice p n cp, .slice q m cq] | 3 => #[.int .i64 inst, .string ⟨B.toArray⟩, .string ⟨fin.toArray⟩, .slice p n cp, .slice q m cq] | _ => #[.int .i64 inst, .string ⟨B.toArray⟩, .string ⟨F.toArray⟩, .slice p n cp, .slice q m cq]) 25 (0, 0))) [2, 5, 7, 9] 28 (by kernel_rfl) (by decide +kernel) rfl (by decide +kernel) (by decide) (by decide) HG0.out (by
    refine OweAllC.cons (owesC_val 0 (by decide +kernel) (by decide) rfl rfl fun k' a w1 x hk ha hG hV => ?_) ?_
    · skip
      have h1 := ha.outer 1 (by decide +kernel)
      simp only [Act.eval] at h1
      exact ⟨.pointer (some ⟨g, 1, none⟩), wanted_free rfl, by simp [execOp, go_sem, h1], rfl⟩
    refine OweAllC.cons (owesC_val 0 (by decide +kernel) (by decide) rfl rfl fun k' a w1 x hk ha hG hV => ?_) ?_
    · skip
      have h3 : a.tmps.getD 3 undef = .pointer (some ⟨g, 1, none⟩) := hV.get 3 (by decide +kernel)
      have cc : w1.cell? ⟨g, 1, none⟩ = some (.string ⟨base.toArray⟩) := by have h := hG.2; rcases (show k' = 0 ∨ k' = 1 ∨ k' = 2 by omega) with rfl | rfl | rfl <;> exact cell_of_row w1 g 1 _ 25 (0, 0) h
      exact ⟨.string ⟨base.toArray⟩, wanted_free rfl, by simp [execOp, go_sem, h3, cc], rfl⟩
    refine OweAllC.cons (owesC_call 0 rfl rfl rfl 17 fun a w1 x ha hG hx hV => ?_) ?_
    · skip
      have h4 : a.tmps.getD 4 undef = .string ⟨base.toArray⟩ := hV.get 4 (by decide +kernel)
      refine ⟨#[.string ⟨base.toArray⟩, .int .i64 200], wanted_free rfl, by simp [execOp, resolve, invoke, go_sem, h4], ?_⟩
      refine (cutbase.out w1).mono ?_
      rintro rr u2 ⟨rfl, rfl⟩; exact ⟨_, rfl, rfl, hG⟩
    refine OweAllC.cons (owesC_val 1 (by decide +kernel) (by decide) rfl rfl fun k' a w1 x hk ha hG hV => ?_) ?_
    · skip
      have h1 := ha.outer 1 (by decide +kernel)
      simp only [Act.eval] at h1
      exact ⟨.pointer (some ⟨g, 2, none⟩), wanted_free rfl, by simp [execOp, go_sem, h1], rfl⟩
    refine OweAllC.cons (owesC_val 1 (by decide +kernel) (by decide) rfl rfl fun k' a w1 x hk ha hG hV => ?_) ?_
    · skip
      have h6 : a.tmps.getD 6 undef = .pointer (some ⟨g, 2, none⟩) := hV.get 6 (by decide +kernel)
      have cc : w1.cell? ⟨g, 2, none⟩ = some (.string ⟨fin.toArray⟩) := by have h := hG.2; rcases (show k' = 0 ∨ k' = 1 ∨ k' = 2 by omega) with rfl | rfl | rfl <;> exact cell_of_row w1 g 2 _ 25 (0, 0) h
      exact ⟨.string ⟨fin.toArray⟩, wanted_free rfl, by simp [execOp, go_sem, h6, cc], rfl⟩
    refine OweAllC.cons (owesC_call 1 rfl rfl rfl 17 fun a w1 x ha hG hx hV => ?_) ?_
    · skip
      have h7 : a.tmps.getD 7 undef = .string ⟨fin.toArray⟩ := hV.get 7 (by decide +kernel)
      refine ⟨#[.string ⟨fin.toArray⟩, .int .i64 200], wanted_free rfl, by simp [execOp, resolve, invoke, go_sem, h7], ?_⟩
      refine (cutfin.out w1).mono ?_
      rintro rr u2 ⟨rfl, rfl⟩; exact ⟨_, rfl, rfl, hG⟩
    refine OweAllC.cons (owesC_val 2 (by decide +kernel) (by decide) rfl rfl fun k' a w1 x hk ha hG hV => ?_) ?_
    · skip
      have h1 := ha.outer 1 (by decide +kernel)
      simp only [Act.eval] at h1
      exact ⟨.pointer (some ⟨g, 1, none⟩), wanted_free rfl, by simp [execOp, go_sem, h1], rfl⟩
    refine OweAllC.cons (owesC_store 2 rfl rfl rfl fun a w1 x ha hG hx hV => ?_) ?_
    · skip
      have h9 : a.tmps.getD 9 undef = .pointer (some ⟨g, 1, none⟩) := hV.get 9 (by decide +kernel)
      have cc : w1.cell? ⟨g, 1, none⟩ = some (.string ⟨base.toArray⟩) := cell_of_row w1 g 1 _ 25 (0, 0) hG.2
      have cf := frozen_of_row w1 g 1 _ 25 hG.2
      have h5 : a.tmps.getD 5 undef = .string ⟨B.toArray⟩ := hV.get 5 (by decide +kernel)
      exact ⟨w1.setCell ⟨g, 1, none⟩ (.string ⟨B.toArray⟩), wanted_free rfl, by simp [execOp, go_sem, h5, h9, cc, cf], hG.1.setCell (p := ⟨g, 1, none⟩) (fun _ => rfl) _, heap_setCell_same w1 g 1 _ 25 _ hG.2⟩
    refine OweAllC.cons (owesC_val 3 (by decide +kernel) (by decide) rfl rfl fun k' a w1 x hk ha hG hV => ?_) ?_
    · skip
      have h1 := ha.outer 1 (by decide +kernel)
      simp only [Act.eval] at h1
      exact ⟨.pointer (some ⟨g, 2, none⟩), wanted_free rfl, by simp [execOp, go_sem, h1], rfl⟩
    refine OweAllC.cons (owesC_store 3 rfl rfl rfl fun a w1 x ha hG hx hV => ?_) ?_
    · skip
      have h10 : a.tmps.getD 10 undef = .pointer (some ⟨g, 2, none⟩) := hV.get 10 (by decide +kernel)
      have cc : w1.cell? ⟨g, 2, none⟩ = some (.string ⟨fin.toArray⟩) := cell_of_row w1 g 2 _ 25 (0, 0) hG.2
      have cf := frozen_of_row w1 g 2 _ 25 hG.2
      have h8 : a.tmps.getD 8 undef = .string ⟨F.toArray⟩ := hV.get 8 (by decide +kernel)
      exact ⟨w1.setCell ⟨g, 2, none⟩ (.string ⟨F.toArray⟩), wanted_free rfl, by simp [execOp, go_sem, h8, h10, cc, cf], hG.1.setCell (p := ⟨g, 2, none⟩) (fun _ => rfl) _, heap_setCell_same w1 g 2 _ 25 _ hG.2⟩
    exact OweAllC.nil
    ) ?_
  intro f wz xz hG hx hv
  first | (rename_i hK; refine hK _ _ ?_; clear hK) | (rename_i hK _; refine hK _ _ ?_; clear hK) | (rename_i hK _ _; refine hK _ _ ?_; clear hK) | (rename_i hK _ _ _; refine hK _ _ ?_; clear hK)
  clear hv hx
  simp only [dsts, puts, List.filterMap_cons, List.filterMap_nil, List.foldl_cons, List.foldl_nil, Act.put, List.setIfInBounds_toArray, List.set_cons_succ, List.set_cons_zero]
  obtain ⟨hM, hrow⟩ : Mod (· = g) W0 wz ∧ wz.heap[g]? = some (.cells #[.int .i64 inst, .string ⟨B.toArray⟩, .string ⟨F.toArray⟩, .slice p n cp, .slice q m cq] 25 (0, 0)) := hG
  have HM := Lib.hid hM
  clear hM HG0
  have c3 : wz.cell? ⟨g, 3, none⟩ = some (.slice p n cp) := cell_of_row wz g 3 _ 25 (0, 0) hrow
  have f3 := frozen_of_row wz g 3 _ 25 hrow
  by_cases b1 : (66 : Int) < n
  · have i1 : (66 : Int) ≤ cp := by omega
    have i2 : 66 ≤ cp := by omega
    have e1 : Hid (min 66 n = 66) := Lib.hid (by omega)
    have hrow2 : (wz.setCell ⟨g, 3, none⟩ (.slice p 66 cp)).heap[g]? = some (.cells #[.int .i64 inst, .string ⟨B.toArray⟩, .string ⟨F.toArray⟩, .slice p 66 cp, .slice q m cq] 25 (0, 0)) := heap_setCell_same wz g 3 _ 25 _ hrow
    have HM2 : Hid (Mod (· = g) W0 (wz.setCell ⟨g, 3, none⟩ (.slice p 66 cp))) := Lib.hid (HM.out.setCell (p := ⟨g, 3, none⟩) (fun _ => rfl) _)
    go_upto_region 4 with fail
    generalize wz.setCell ⟨g, 3, none⟩ (.slice p 66 cp) = V1 at hrow2 HM2 ⊢
    clear c3 f3 hrow HM
    have HMW := HM2
    have c4 : V1.cell? ⟨g, 4, none⟩ = some (.slice q m cq) := cell_of_row V1 g 4 _ 25 (0, 0) hrow2
    have f4 := frozen_of_row V1 g 4 _ 25 hrow2
    by_cases b2 : (66 : Int) < m
    · have j1 : (66 : Int) ≤ cq := by omega
      have j2 : 66 ≤ cq := by omega
      have e2 : Hid (min 66 m = 66) := Lib.hid (by omega)
      have hrow3 : (V1.setCell ⟨g, 4, none⟩ (.slice q 66 cq)).heap[g]? = some (.cells #[.int .i64 inst, .string ⟨B.toArray⟩, .string ⟨F.toArray⟩, .slice p 66 cp, .slice q 66 cq] 25 (0, 0)) := heap_setCell_same V1 g 4 _ 25 _ hrow2
      have HM3 : Hid (Mod (· = g) W0 (V1.setCell ⟨g, 4, none⟩ (.slice q 66 cq))) := Lib.hid (HMW.out.setCell (p := ⟨g, 4, none⟩) (fun _ => rfl) _)
      go_upto_region 6 with fail
      generalize V1.setCell ⟨g, 4, none⟩ (.slice q 66 cq) = V2 at hrow3 HM3 ⊢
      clear c4 f4 hrow2 HM2 HMW
      obtain ⟨Y, hY⟩ : ∃ Y : Array Value, Y = #[.int .i64 inst, .string ⟨B.toArray⟩, .string ⟨F.toArray⟩, .slice p 66 cp, .slice q 66 cq] := ⟨_, rfl⟩
      rw [← hY] at hrow3
      have hYs : Y.size = 5 := by rw [hY]; rfl
      have q3 : (Tryd.prog.info? 25).map (·.size) = some Y.size := by rw [hYs]; exact rct_info
      have q4 : ∀ v ∈ Y.toList, v.oneCell' = true := by
        rw [hY]; intro v hv
        simp only [List.mem_cons, List.not_mem_nil, or_false] at hv
        rcases hv with rfl | rfl | rfl | rfl | rfl <;> rfl
      have hrz : V2.heap[r]? = some (.cells ZZ 25 (0, 0)) := (HM3.out.block r (Array.getElem?_eq_some_iff.1 Hrs.out).1 (by have := Hgr.out; omega)).trans Hrs.out
      have L0 := Lib.hid (setRow_heap V2 r ZZ Y 25 (0, 0) hrz)
      have LB : Hid (Below w.heap.size w (V2.setRow r Y)) := Lib.hid (by
        have h := hBW.out.trans (HM3.out.to_below hBW.out.size (fun i hi e => by have := Hgr.out; omega))
        exact ((Mod.of_below h).setRow Y).to_below (Nat.le_refl _) (by rintro k hk (h | h) <;> (have := Hgr.out; omega)))
      have HY := Lib.hid hY
      have hZY : ZZ.size = Y.size := by rw [hZs, hYs]
      clear hY hYs
      go_wp2_with (first | (refine wpList_load_row rfl 25 (.tmp 1) rfl g rfl 25 Y (0, 0) _ hrow3 Tryd.underlying25 rfl q3 ?_) | (refine wpList_store_row rfl rfl 25 (.tmp 2) (.tmp 27) rfl r rfl 25 ZZ Y rfl hrz hZY q3 q4 ?_))
      exact bodyPost_ret (v := .agg Y) (results_cell_row Tryd.results7 _ _ r 25 Y (0, 0) _ rfl L0.out Tryd.underlying25 rfl q3) rfl ⟨by rw [HY.out, e1.out, e2.out], LB.out⟩
    · have e2 : Hid (min 66 m = m) := Lib.hid (by omega)
      go_upto_region 6 with fail
      have hrow3 := hrow2
      have HM3 := HM2
      obtain ⟨V2, hV2⟩ : ∃ V, V = V1 := ⟨_, rfl⟩
      rw [← hV2] at hrow3 HM3 ⊢
      clear c4 f4 hrow2 HM2 HMW hV2
      obtain ⟨Y, hY⟩ : ∃ Y : Array Value, Y = #[.int .i64 inst, .string ⟨B.toArray⟩, .string ⟨F.toArray⟩, .slice p 66 cp, .slice q m cq] := ⟨_, rfl⟩
      rw [← hY] at hrow3
      have hYs : Y.size = 5 := by rw [hY]; rfl
      have q3 : (Tryd.prog.info? 25).map (·.size) = some Y.size := by rw [hYs]; exact rct_info
      have q4 : ∀ v ∈ Y.toList, v.oneCell' = true := by
        rw [hY]; intro v hv
        simp only [List.mem_cons, List.not_mem_nil, or_false] at hv
        rcases hv with rfl | rfl | rfl | rfl | rfl <;> rfl
      have hrz : V2.heap[r]? = some (.cells ZZ 25 (0, 0)) := (HM3.out.block r (Array.getElem?_eq_some_iff.1 Hrs.out).1 (by have := Hgr.out; omega)).trans Hrs.out
      have L0 := Lib.hid (setRow_heap V2 r ZZ Y 25 (0, 0) hrz)
      have LB : Hid (Below w.heap.size w (V2.setRow r Y)) := Lib.hid (by
        have h := hBW.out.trans (HM3.out.to_below hBW.out.size (fun i hi e => by have := Hgr.out; omega))
        exact ((Mod.of_below h).setRow Y).to_below (Nat.le_refl _) (by rintro k hk (h | h) <;> (have := Hgr.out; omega)))
      have HY := Lib.hid hY
      have hZY : ZZ.size = Y.size := by rw [hZs, hYs]
      clear hY hYs
      go_wp2_with (first | (refine wpList_load_row rfl 25 (.tmp 1) rfl g rfl 25 Y (0, 0) _ hrow3 Tryd.underlying25 rfl q3 ?_) | (refine wpList_store_row rfl rfl 25 (.tmp 2) (.tmp 27) rfl r rfl 25 ZZ Y rfl hrz hZY q3 q4 ?_))
      exact bodyPost_ret (v := .agg Y) (results_cell_row Tryd.results7 _ _ r 25 Y (0, 0) _ rfl L0.out Tryd.underlying25 rfl q3) rfl ⟨by rw [HY.out, e1.out, e2.out], LB.out⟩
  · have e1 : Hid (min 66 n = n) := Lib.hid (by omega)
    go_upto_region 4 with fail
    have hrow2 := hrow
    have HM2 := HM
    obtain ⟨V1, hV1⟩ : ∃ V, V = wz := ⟨_, rfl⟩
    rw [← hV1] at hrow2 HM2 ⊢
    clear c3 f3 hrow HM hV1
    have HMW := HM2
    have c4 : V1.cell? ⟨g, 4, none⟩ = some (.slice q m cq) := cell_of_row V1 g 4 _ 25 (0, 0) hrow2
    have f4 := frozen_of_row V1 g 4 _ 25 hrow2
    by_cases b2 : (66 : Int) < m
    · have j1 : (66 : Int) ≤ cq := by omega
      have j2 : 66 ≤ cq := by omega
      have e2 : Hid (min 66 m = 66) := Lib.hid (by omega)
      have hrow3 : (V1.setCell ⟨g, 4, none⟩ (.slice q 66 cq)).heap[g]? = some (.cells #[.int .i64 inst, .string ⟨B.toArray⟩, .string ⟨F.toArray⟩, .slice p n cp, .slice q 66 cq] 25 (0, 0)) := heap_setCell_same V1 g 4 _ 25 _ hrow2
      have HM3 : Hid (Mod (· = g) W0 (V1.setCell ⟨g, 4, none⟩ (.slice q 66 cq))) := Lib.hid (HMW.out.setCell (p := ⟨g, 4, none⟩) (fun _ => rfl) _)
      go_upto_region 6 with fail
      generalize V1.setCell ⟨g, 4, none⟩ (.slice q 66 cq) = V2 at hrow3 HM3 ⊢
      clear c4 f4 hrow2 HM2 HMW
      obtain ⟨Y, hY⟩ : ∃ Y : Array Value, Y = #[.int .i64 inst, .string ⟨B.toArray⟩, .string ⟨F.toArray⟩, .slice p n cp, .slice q 66 cq] := ⟨_, rfl⟩
      rw [← hY] at hrow3
      have hYs : Y.size = 5 := by rw [hY]; rfl
      have q3 : (Tryd.prog.info? 25).map (·.size) = some Y.size := by rw [hYs]; exact rct_info
      have q4 : ∀ v ∈ Y.toList, v.oneCell' = true := by
        rw [hY]; intro v hv
        simp only [List.mem_cons, List.not_mem_nil, or_false] at hv
        rcases hv with rfl | rfl | rfl | rfl | rfl <;> rfl
      have hrz : V2.heap[r]? = some (.cells ZZ 25 (0, 0)) := (HM3.out.block r (Array.getElem?_eq_some_iff.1 Hrs.out).1 (by have := Hgr.out; omega)).trans Hrs.out
      have L0 := Lib.hid (setRow_heap V2 r ZZ Y 25 (0, 0) hrz)
      have LB : Hid (Below w.heap.size w (V2.setRow r Y)) := Lib.hid (by
        have h := hBW.out.trans (HM3.out.to_below hBW.out.size (fun i hi e => by have := Hgr.out; omega))
        exact ((Mod.of_below h).setRow Y).to_below (Nat.le_refl _) (by rintro k hk (h | h) <;> (have := Hgr.out; omega)))
      have HY := Lib.hid hY
      have hZY : ZZ.size = Y.size := by rw [hZs, hYs]
      clear hY hYs
      go_wp2_with (first | (refine wpList_load_row rfl 25 (.tmp 1) rfl g rfl 25 Y (0, 0) _ hrow3 Tryd.underlying25 rfl q3 ?_) | (refine wpList_store_row rfl rfl 25 (.tmp 2) (.tmp 27) rfl r rfl 25 ZZ Y rfl hrz hZY q3 q4 ?_))
      exact bodyPost_ret (v := .agg Y) (results_cell_row Tryd.results7 _ _ r 25 Y (0, 0) _ rfl L0.out Tryd.underlying25 rfl q3) rfl ⟨by rw [HY.out, e1.out, e2.out], LB.out⟩
    · have e2 : Hid (min 66 m = m) := Lib.hid (by omega)
      go_upto_region 6 with fail
      have hrow3 := hrow2
      have HM3 := HM2
      obtain ⟨V2, hV2⟩ : ∃ V, V = V1 := ⟨_, rfl⟩
      rw [← hV2] at hrow3 HM3 ⊢
      clear c4 f4 hrow2 HM2 HMW hV2
      obtain ⟨Y, hY⟩ : ∃ Y : Array Value, Y = #[.int .i64 inst, .string ⟨B.toArray⟩, .string ⟨F.toArray⟩, .slice p n cp, .slice q m cq] := ⟨_, rfl⟩
      rw [← hY] at hrow3
      have hYs : Y.size = 5 := by rw [hY]; rfl
      have q3 : (Tryd.prog.info? 25).map (·.size) = some Y.size := by rw [hYs]; exact rct_info
      have q4 : ∀ v ∈ Y.toList, v.oneCell' = true := by
        rw [hY]; intro v hv
        simp only [List.mem_cons, List.not_mem_nil, or_false] at hv
        rcases hv with rfl | rfl | rfl | rfl | rfl <;> rfl
      have hrz : V2.heap[r]? = some (.cells ZZ 25 (0, 0)) := (HM3.out.block r (Array.getElem?_eq_some_iff.1 Hrs.out).1 (by have := Hgr.out; omega)).trans Hrs.out
      have L0 := Lib.hid (setRow_heap V2 r ZZ Y 25 (0, 0) hrz)
      have LB : Hid (Below w.heap.size w (V2.setRow r Y)) := Lib.hid (by
        have h := hBW.out.trans (HM3.out.to_below hBW.out.size (fun i hi e => by have := Hgr.out; omega))
        exact ((Mod.of_below h).setRow Y).to_below (Nat.le_refl _) (by rintro k hk (h | h) <;> (have := Hgr.out; omega)))
      have HY := Lib.hid hY
      have hZY : ZZ.size = Y.size := by rw [hZs, hYs]
      clear hY hYs
      go_wp2_with (first | (refine wpList_load_row rfl 25 (.tmp 1) rfl g rfl 25 Y (0, 0) _ hrow3 Tryd.underlying25 rfl q3 ?_) | (refine wpList_store_row rfl rfl 25 (.tmp 2) (.tmp 27) rfl r rfl 25 ZZ Y rfl hrz hZY q3 q4 ?_))
      exact bodyPost_ret (v := .agg Y) (results_cell_row Tryd.results7 _ _ r 25 Y (0, 0) _ rfl L0.out Tryd.underlying25 rfl q3) rfl ⟨by rw [HY.out, e1.out, e2.out], LB.out⟩
end Go.Proofs.YtmodikcghlbigaaDoor

namespace Go.Proofs.YtmodikcghlbigaaDoor
open Go.RowKit

/-- Two structs of two numbers compared. -/
theorem run_neq_two {P : Program} (w : World) (t e : TypeId) (n1 n2 : String) (ht : P.underlying t = some (.struct (P.fieldsOf t))) (hp : P.stoodInHeld t = false)
    (hl : (P.fieldsOf t).toList.map (fun f => (f.name, f.type, f.offset)) = [(n1, e, 0), (n2, e, 1)]) (h1 : n1 ≠ "_") (h2 : n2 ≠ "_") (he : P.underlying e = some (.int .i64)) (a b c d : Int) :
    (binOp .neq t (.agg #[.int .i64 a, .int .i64 b]) (.agg #[.int .i64 c, .int .i64 d])).run P w = .ok (.bool (!((a == c) && (b == d)))) w := by
  have pa : ∀ x y : Int, (part e #[.int .i64 x, .int .i64 y] 0).run P w = .ok (.int .i64 x) w := fun x y => by simp [part, isAgg, run_underlying he]
  have pb : ∀ x y : Int, (part e #[.int .i64 x, .int .i64 y] 1).run P w = .ok (.int .i64 y) w := fun x y => by simp [part, isAgg, run_underlying he]
  have key : ∀ k, (Op.equalIn (k + 3) t (.agg #[.int .i64 a, .int .i64 b]) (.agg #[.int .i64 c, .int .i64 d])).run P w = .ok ((a == c) && (b == d)) w := by
    intro k
    rw [run_equalIn_struct (w := w) (k + 2) t _ _ ht hp]
    generalize (P.fieldsOf t).toList = L at hl ⊢
    match L, hl with
    | [], hl => cases hl
    | [_], hl => simp at hl
    | _ :: _ :: _ :: _, hl => simp at hl
    | [f, f'], hl =>
      simp only [List.map_cons, List.map_nil, List.cons.injEq, Prod.mk.injEq, and_true] at hl
      obtain ⟨⟨x1, x2, x3⟩, y1, y2, y3⟩ := hl
      simp only [Op.eqFields, x1, x2, x3, y1, y2, y3]
      rw [if_pos h1, if_pos h2]
      simp only [Sem.run_bind, pa, pb, Result.andThen_ok, run_equalIn_int w (k + 1) e .i64 .i64 _ _ he]
      cases a == c <;> simp [pb, run_equalIn_int w (k + 1) e .i64 .i64 _ _ he]
      by_cases hb : b = d <;> simp [hb]
  rw [run_neq_struct, key 9997]; rfl
theorem entry_neq (a b c d : Int) (w : World) : (binOp .neq 57 (.agg #[.int .i64 a, .int .i64 b]) (.agg #[.int .i64 c, .int .i64 d])).run Tryd.prog w = .ok (.bool (!((a == c) && (b == d)))) w :=
  run_neq_two w 57 3 "Miner" "Power" (by kernel_rfl) (by kernel_rfl) (by kernel_rfl) (by decide) (by decide) Tryd.underlying3 a b c d

set_option maxRecDepth 20000 in
set_option maxHeartbeats 8000000 in
theorem same07_any (X Y : Ct) (p q p' q' : Option Addr) (cp cq cp' cq' : Nat) (w : World) (hX : CtAt w X p q) (hY : CtAt w Y p' q') (l1 : X.sg.length ≤ 1000000) (l2 : X.ch.length ≤ 1000000) :
    Calls Tryd.prog 15 #[.agg (ctc X p q cp cq), .agg (ctc Y p' q' cp' cq')] w fun r w' => ∃ R : Bool, (R = true ↔ X = Y) ∧ r = .returned (.bool R) ∧ Below w.heap.size w w' := by
  obtain ⟨inst, base, fin, sg, ch⟩ := X
  obtain ⟨inst', base', fin', sg', ch'⟩ := Y
  obtain ⟨hX1, hX2⟩ := hX
  obtain ⟨hY1, hY2⟩ := hY
  simp only [Ct.mk.injEq] at *
  unfold ctc
  simp only
  obtain ⟨n, hn⟩ : ∃ n, n = sg.length := ⟨_, rfl⟩
  obtain ⟨m, hm⟩ : ∃ n, n = ch.length := ⟨_, rfl⟩
  obtain ⟨n', hn'⟩ : ∃ n, n = sg'.length := ⟨_, rfl⟩
  obtain ⟨m', hm'⟩ : ∃ n, n = ch'.length := ⟨_, rfl⟩
  rw [← hn] at l1 ⊢
  rw [← hm] at l2 ⊢
  rw [← hn', ← hm']
  obtain ⟨PP, hPP⟩ : ∃ P : Ending → World → Prop, P = fun r w' => ∃ R : Bool, (R = true ↔ (inst = inst' ∧ base = base' ∧ fin = fin' ∧ sg = sg' ∧ ch = ch')) ∧ r = .returned (.bool R) ∧ Below w.heap.size w w' := ⟨_, rfl⟩
  rw [show (fun r w' => ∃ R : Bool, (R = true ↔ (inst = inst' ∧ base = base' ∧ fin = fin' ∧ sg = sg' ∧ ch = ch')) ∧ r = .returned (.bool R) ∧ Below w.heap.size w w') = PP from hPP.symm]
  have HNO : Hid (∀ w', Below w.heap.size w w' → ¬ (inst = inst' ∧ base = base' ∧ fin = fin' ∧ sg = sg' ∧ ch = ch') → PP (.returned (.bool false)) w') := Lib.hid (fun w' hb h => by rw [hPP]; exact ⟨false, ⟨fun h2 => (by cases h2), fun h2 => absurd h2 h⟩, rfl, hb⟩)
  have HYES : Hid (∀ w', Below w.heap.size w w' → (inst = inst' ∧ base = base' ∧ fin = fin' ∧ sg = sg' ∧ ch = ch') → PP (.returned (.bool true)) w') := Lib.hid (fun w' hb h => by rw [hPP]; exact ⟨true, ⟨fun _ => h, fun _ => rfl⟩, rfl, hb⟩)
  have HX1 := Lib.hid hX1
  have HX2 := Lib.hid hX2
  have HY1 := Lib.hid hY1
  have HY2 := Lib.hid hY2
  have Hn := Lib.hid hn
  have Hm := Lib.hid hm
  have Hn' := Lib.hid hn'
  have Hm' := Lib.hid hm'
  clear hX1 hX2 hY1 hY2 hn hm hn' hm' hPP
  by_cases h0 : inst = inst'
  case neg =>
    have x1 : (inst == inst') = false := beq_eq_false_iff_ne.2 h0
    have x2 : (inst != inst') = true := by rw [bne_iff_ne]; exact h0
    have hB := Lib.hid (((Below.refl _ w).alloc (Nat.le_refl _) (.cells #[.int .i64 inst, .string ⟨base.toArray⟩, .string ⟨fin.toArray⟩, .slice p n cp, .slice q m cq] 30)).alloc (by simp) (.cells #[.int .i64 inst', .string ⟨base'.toArray⟩, .string ⟨fin'.toArray⟩, .slice p' n' cp', .slice q' m' cq'] 25))
    have HN := Lib.hid (HNO.out _ hB.out (fun h => h0 h.1))
    clear h0 HNO HYES
    go_enter Tryd.func15, Tryd.ntmps15
    go_wp2_with fail
    exact HN.out
  subst h0
  by_cases h1 : base = base'
  case neg =>
    have x1 : (base == base') = false := beq_eq_false_iff_ne.2 h1
    have x2 : (base != base') = true := by simp [h1]
    have hB := Lib.hid (((Below.refl _ w).alloc (Nat.le_refl _) (.cells #[.int .i64 inst, .string ⟨base.toArray⟩, .string ⟨fin.toArray⟩, .slice p n cp, .slice q m cq] 30)).alloc (by simp) (.cells #[.int .i64 inst, .string ⟨base'.toArray⟩, .string ⟨fin'.toArray⟩, .slice p' n' cp', .slice q' m' cq'] 25))
    have HN := Lib.hid (HNO.out _ hB.out (fun h => h1 h.2.1))
    clear h1 HNO HYES
    go_enter Tryd.func15, Tryd.ntmps15
    go_wp2_with fail
    exact HN.out
  subst h1
  by_cases h2 : fin = fin'
  case neg =>
    have x1 : (fin == fin') = false := beq_eq_false_iff_ne.2 h2
    have x2 : (fin != fin') = true := by simp [h2]
    have hB := Lib.hid (((Below.refl _ w).alloc (Nat.le_refl _) (.cells #[.int .i64 inst, .string ⟨base.toArray⟩, .string ⟨fin.toArray⟩, .slice p n cp, .slice q m cq] 30)).alloc (by simp) (.cells #[.int .i64 inst, .string ⟨base.toArray⟩, .string ⟨fin'.toArray⟩, .slice p' n' cp', .slice q' m' cq'] 25))
    have HN := Lib.hid (HNO.out _ hB.out (fun h => h2 h.2.2.1))
    clear h2 HNO HYES
    go_enter Tryd.func15, Tryd.ntmps15
    go_wp2_with fail
    exact HN.out
  subst h2
  by_cases hn : n = n'
  case neg =>
    have x1 : ((n : Int) == (n' : Int)) = false := beq_eq_false_iff_ne.2 (by omega)
    have x2 : ((n : Int) != (n' : Int)) = true := by rw [bne_iff_ne]; omega
    have hB := Lib.hid (((Below.refl _ w).alloc (Nat.le_refl _) (.cells #[.int .i64 inst, .string ⟨base.toArray⟩, .string ⟨fin.toArray⟩, .slice p n cp, .slice q m cq] 30)).alloc (by simp) (.cells #[.int .i64 inst, .string ⟨base.toArray⟩, .string ⟨fin.toArray⟩, .slice p' n' cp', .slice q' m' cq'] 25))
    have HN := Lib.hid (HNO.out _ hB.out (fun h => hn (by rw [Hn.out, Hn'.out, h.2.2.2.1])))
    clear hn HNO HYES
    go_enter Tryd.func15, Tryd.ntmps15
    go_wp2_with fail
    exact HN.out
  subst hn
  by_cases hm : m = m'
  case neg =>
    have x1 : ((m : Int) == (m' : Int)) = false := beq_eq_false_iff_ne.2 (by omega)
    have x2 : ((m : Int) != (m' : Int)) = true := by rw [bne_iff_ne]; omega
    have hB := Lib.hid (((Below.refl _ w).alloc (Nat.le_refl _) (.cells #[.int .i64 inst, .string ⟨base.toArray⟩, .string ⟨fin.toArray⟩, .slice p n cp, .slice q m cq] 30)).alloc (by simp) (.cells #[.int .i64 inst, .string ⟨base.toArray⟩, .string ⟨fin.toArray⟩, .slice p' n cp', .slice q' m' cq'] 25))
    have HN := Lib.hid (HNO.out _ hB.out (fun h => hm (by rw [Hm.out, Hm'.out, h.2.2.2.2])))
    clear hm HNO HYES
    go_enter Tryd.func15, Tryd.ntmps15
    go_wp2_with fail
    exact HN.out
  subst hm
  obtain ⟨W0, hW0⟩ : ∃ W, W = (w.alloc (.cells #[.int .i64 inst, .string ⟨base.toArray⟩, .string ⟨fin.toArray⟩, .slice p n cp, .slice q m cq] 30)).alloc (.cells #[.int .i64 inst, .string ⟨base.toArray⟩, .string ⟨fin.toArray⟩, .slice p' n cp', .slice q' m cq'] 25) := ⟨_, rfl⟩
  have hB : Hid (Below w.heap.size w W0) := Lib.hid (by rw [hW0]; exact ((Below.refl _ _).alloc (Nat.le_refl _) _).alloc (by simp) _)
  have hb0 : W0.heap[w.heap.size]? = some (.cells #[.int .i64 inst, .string ⟨base.toArray⟩, .string ⟨fin.toArray⟩, .slice p n cp, .slice q m cq] 30 (0, 0)) := by rw [hW0, Below.heap_alloc _ _ _ (by simp)]; exact heap_alloc_new w _
  have hb1 : W0.heap[w.heap.size + 1]? = some (.cells #[.int .i64 inst, .string ⟨base.toArray⟩, .string ⟨fin.toArray⟩, .slice p' n cp', .slice q' m cq'] 25 (0, 0)) := by rw [hW0]; have := heap_alloc_new (w.alloc (.cells #[.int .i64 inst, .string ⟨base.toArray⟩, .string ⟨fin.toArray⟩, .slice p n cp, .slice q m cq] 30)) (.cells #[.int .i64 inst, .string ⟨base.toArray⟩, .string ⟨fin.toArray⟩, .slice p' n cp', .slice q' m cq'] 25); simpa using this
  have HC : Hid (∀ w2, Below W0.heap.size W0 w2 → w2.cell? ⟨w.heap.size, 3, none⟩ = some (.slice p n cp) ∧ w2.cell? ⟨w.heap.size, 4, none⟩ = some (.slice q m cq) ∧ w2.cell? ⟨w.heap.size + 1, 3, none⟩ = some (.slice p' n cp') ∧ w2.cell? ⟨w.heap.size + 1, 4, none⟩ = some (.slice q' m cq')) := Lib.hid (fun w2 h2 => by
    have e0 := (h2.block _ (Array.getElem?_eq_some_iff.1 hb0).1).trans hb0
    have e1 := (h2.block _ (Array.getElem?_eq_some_iff.1 hb1).1).trans hb1
    exact ⟨cell_of_row w2 _ 3 _ 30 (0, 0) e0, cell_of_row w2 _ 4 _ 30 (0, 0) e0, cell_of_row w2 _ 3 _ 25 (0, 0) e1, cell_of_row w2 _ 4 _ 25 (0, 0) e1⟩)
  have HW := Lib.hid hW0
  clear hW0 hb0 hb1
  go_enter Tryd.func15, Tryd.ntmps15
  go_wp2_with fail
  rw [← HW.out]
  go_loopw [49] (fun s49 wr => ∃ k : Nat, k ≤ n ∧ s49 = .int .i64 (k : Int) ∧ Hid (sg.take k = sg'.take k ∧ Below W0.heap.size W0 wr)) (fun i _ => n - (intOf i).toNat)
  case atStart => exact ⟨0, Nat.zero_le _, rfl, Lib.hid ⟨rfl, Below.refl _ _⟩⟩
  case round =>
    obtain ⟨k, hk, rfl, hG⟩ := hrel
    have HBW : Hid (Below w.heap.size w wr) := Lib.hid (hB.out.trans (hG.out.2.mono hB.out.size))
    by_cases hlt : k < n
    · have h1 : k < sg.length := by rw [← Hn.out]; exact hlt
      have h2 : k < sg'.length := by rw [← Hn'.out]; exact hlt
      obtain ⟨bs, off, rfl, hbs, c1⟩ := (HX1.out.old HBW.out).int k h1
      obtain ⟨bs', off', rfl, hbs', c2⟩ := (HY1.out.old HBW.out).int k h2
      obtain ⟨d3, d4, d5, d6⟩ := HC.out wr hG.out.2
      have Hnx : Hid (sg[k] = sg'[k] → sg.take (k + 1) = sg'.take (k + 1)) := Lib.hid (fun e => by rw [List.take_succ_eq_append_getElem h1, List.take_succ_eq_append_getElem h2, hG.out.1, e])
      have Hno : Hid (sg[k] ≠ sg'[k] → sg ≠ sg') := Lib.hid (fun hne e => by subst e; exact hne rfl)
      obtain ⟨x, hx⟩ : ∃ x, x = sg[k] := ⟨_, rfl⟩
      obtain ⟨y, hy⟩ : ∃ x, x = sg'[k] := ⟨_, rfl⟩
      rw [← hx] at c1 Hnx Hno
      rw [← hy] at c2 Hnx Hno
      have HG2 := Lib.hid hG.out.2
      have i0 : (0 : Int) ≤ k := by omega
      have i1 : (k : Int) < n := by omega
      clear hx hy hG h1 h2 hbs hbs'
      by_cases hxy : x = y
      · have e1 := Lib.hid (Hnx.out hxy)
        have x1 : (x == y) = true := by rw [beq_iff_eq]; exact hxy
        have x2 : (x != y) = false := by simp [hxy]
        clear Hnx Hno hxy
        go_wp2_with fail
        go_roundw
        case rel => exact ⟨k + 1, by omega, by go_num, Lib.hid ⟨e1.out, HG2.out⟩⟩
        case measure => simp [intOf]; omega
      · have HN := Lib.hid (HNO.out _ HBW.out (fun h => Hno.out hxy h.2.2.2.1))
        have x1 : (x == y) = false := beq_eq_false_iff_ne.2 hxy
        have x2 : (x != y) = true := by rw [bne_iff_ne]; exact hxy
        clear Hnx Hno hxy
        go_wp2_with fail
        exact HN.out
    · have e : k = n := by omega
      have HSG : Hid (sg = sg') := Lib.hid (by
        have h := hG.out.1
        rw [e] at h
        rw [List.take_of_length_le (by rw [← Hn.out]; omega), List.take_of_length_le (by rw [← Hn'.out]; omega)] at h
        exact h)
      have HG2 := Lib.hid hG.out.2
      obtain ⟨d3, d4, d5, d6⟩ := HC.out wr hG.out.2
      have i1 : ¬ (k : Int) < n := by omega
      clear hG e
      go_wp2_with fail
      clear d3 d4 d5 d6 hlt hk i1
      go_loopw [65] (fun s65 wr => ∃ k : Nat, k ≤ m ∧ s65 = .int .i64 (k : Int) ∧ Hid (ch.take k = ch'.take k ∧ Below W0.heap.size W0 wr)) (fun i _ => m - (intOf i).toNat)
      case atStart => exact ⟨0, Nat.zero_le _, rfl, Lib.hid ⟨rfl, HG2.out⟩⟩
      case round =>
        clear HG2 HBW
        obtain ⟨k, hk, rfl, hG⟩ := hrel
        have HBW : Hid (Below w.heap.size w wr) := Lib.hid (hB.out.trans (hG.out.2.mono hB.out.size))
        by_cases hlt : k < m
        · have h1 : k < ch.length := by rw [← Hm.out]; exact hlt
          have h2 : k < ch'.length := by rw [← Hm'.out]; exact hlt
          obtain ⟨bs, off, rfl, hbs, c1, c1'⟩ := (HX2.out.old HBW.out).pair k h1
          obtain ⟨bs', off', rfl, hbs', c2, c2'⟩ := (HY2.out.old HBW.out).pair k h2
          have Hnx : Hid (ch[k] = ch'[k] → ch.take (k + 1) = ch'.take (k + 1)) := Lib.hid (fun e => by rw [List.take_succ_eq_append_getElem h1, List.take_succ_eq_append_getElem h2, hG.out.1, e])
          have Hno : Hid (ch[k] ≠ ch'[k] → ch ≠ ch') := Lib.hid (fun hne e => by subst e; exact hne rfl)
          obtain ⟨x, hx⟩ : ∃ x, x = ch[k] := ⟨_, rfl⟩
          obtain ⟨y, hy⟩ : ∃ x, x = ch'[k] := ⟨_, rfl⟩
          rw [← hx] at c1 c1' Hnx Hno
          rw [← hy] at c2 c2' Hnx Hno
          obtain ⟨a, b⟩ := x
          obtain ⟨c, d⟩ := y
          simp only at c1 c1' c2 c2'
          have HG2 := Lib.hid hG.out.2
          have i0 : (0 : Int) ≤ k := by omega
          have i1 : (k : Int) < m := by omega
          clear hx hy hG h1 h2
          go_upto_region 12 with fail
          have hal : Below wr.heap.size wr (wr.alloc (.cells #[.int .i64 c, .int .i64 d] 75)) := (Below.refl _ _).alloc (Nat.le_refl _) _
          have hrw := heap_alloc_new wr (.cells #[.int .i64 c, .int .i64 d] 75)
          have hd1 := (hal.cell (p := ⟨bs, off + k * 2, none⟩) hbs).trans c1
          have hd1' := (hal.cell (p := ⟨bs, off + k * 2 + 1, none⟩) hbs).trans c1'
          have HG3 : Hid (Below W0.heap.size W0 (wr.alloc (.cells #[.int .i64 c, .int .i64 d] 75))) := Lib.hid (HG2.out.alloc HG2.out.size _)
          generalize wr.alloc (.cells #[.int .i64 c, .int .i64 d] 75) = WA at hrw hd1 hd1' HG3 ⊢
          generalize wr.heap.size = g8 at hrw ⊢
          have e0 : WA.cell? ⟨g8, 0, none⟩ = some (.int .i64 c) := cell_of_row WA g8 0 _ 75 (0, 0) hrw
          have e1 : WA.cell? ⟨g8, 1, none⟩ = some (.int .i64 d) := cell_of_row WA g8 1 _ 75 (0, 0) hrw
          obtain ⟨d3, d4, d5, d6⟩ := HC.out WA HG3.out
          have HBA : Hid (Below w.heap.size w WA) := Lib.hid (hB.out.trans (HG3.out.mono hB.out.size))
          obtain ⟨D, hD⟩ : ∃ D, D = ((a == c) && (b == d)) := ⟨_, rfl⟩
          have hneq : ∀ w, (binOp .neq 57 (.agg #[.int .i64 a, .int .i64 b]) (.agg #[.int .i64 c, .int .i64 d])).run Tryd.prog w = .ok (.bool (!D)) w := fun w => by rw [hD]; exact entry_neq a b c d w
          have HD := Lib.hid hD
          clear hD hal hrw c1 c1' c2 c2' hbs hbs' HG2
          go_quiet (fail)
          cases D with
          | true =>
            have e1' : Hid (ch.take (k + 1) = ch'.take (k + 1)) := Lib.hid (Hnx.out (by have h := HD.out.symm; rw [Bool.and_eq_true, beq_iff_eq, beq_iff_eq] at h; rw [h.1, h.2]))
            clear Hnx Hno
            go_wp2_with fail
            go_roundw
            case rel => exact ⟨k + 1, by omega, by go_num, Lib.hid ⟨e1'.out, below_drewN HG3.out _⟩⟩
            case measure => simp [intOf]; omega
          | false =>
            have HN := Lib.hid (fun nq => HNO.out _ (below_drewN HBA.out nq) (fun h => Hno.out (by rintro e; have h2 := HD.out; simp only [Prod.mk.injEq] at e; rw [e.1, e.2] at h2; simp at h2) h.2.2.2.2))
            clear Hnx Hno
            go_wp2_with fail
            exact HN.out _
        · have e : k = m := by omega
          have HN := Lib.hid (HYES.out wr HBW.out ⟨trivial, trivial, trivial, HSG.out, by
            have h := hG.out.1
            rw [e] at h
            rw [List.take_of_length_le (by rw [← Hm.out]; omega), List.take_of_length_le (by rw [← Hm'.out]; omega)] at h
            exact h⟩)
          have i1 : ¬ (k : Int) < m := by omega
          clear hG e
          go_wp2_with fail
          exact HN.out
end Go.Proofs.YtmodikcghlbigaaDoor

namespace Go.Proofs.YtmodikcghlbigaaDoor
open Go.RowKit

theorem ints_of {w : World} {ao : Option Addr} {S : List Int} (h : Rd encI w ao S) : IntsAt w ao S := fun j hj => h.int j hj

set_option maxRecDepth 20000 in
set_option maxHeartbeats 8000000 in
theorem knext_any (c : Ct) (p q : Option Addr) (cp cq : Nat) (P : List Nat) (w : World) (hP : IsTab P) (hS : CtAt w c p q) (l1 : c.sg.length ≤ 1000000) (l2 : c.ch.length ≤ 1000000) (hq : 2 * tsum P < 3 * tsum (sig P c.sg)) :
    Calls Tryd.prog 21 #[.agg (ctc c p q cp cq), tval P] w fun r w' => r = .returned (.tuple #[tval (chgT P c.ch), .int .i64 (chgE P c.ch)]) ∧ Below w.heap.size w w' := by
  obtain ⟨inst, base, fin, sg, ch⟩ := c
  obtain ⟨hS1, hS2⟩ := hS
  simp only at *
  have htab := chgT_tab (E := ch) hP
  have hqu : Hid (∀ w, Rd encI w p sg → Calls Tryd.prog 43 #[tval P, .slice p sg.length cp] w fun r w' => r = .returned (.bool true) ∧ Below w.heap.size w w') := Lib.hid (fun w h => by
    have := quorum_any P p cp sg w hP (ints_of h) l1
    rw [decide_eq_true hq] at this; exact this)
  have hch : Hid (∀ w, Rd encP w q ch → Calls Tryd.prog 44 #[tval P, .slice q ch.length cq] w fun r w' => r = .returned (.tuple #[tval (chgT P ch), .int .i64 (chgE P ch)]) ∧ Below w.heap.size w w') := Lib.hid (fun w h => tchange_any P q cq ch w hP h l2)
  unfold ctc
  simp only
  generalize chgE P ch = RE at *
  unfold tval at *
  obtain ⟨A, hA⟩ : ∃ A, A = (nums .i64 P).toArray := ⟨_, rfl⟩
  obtain ⟨AQ, hAQ⟩ : ∃ AQ, AQ = (nums .i64 (chgT P ch)).toArray := ⟨_, rfl⟩
  have hAs := hP.row hA
  have hQs : AQ.size = 64 := htab.row hAQ
  have h1Q := tab_one hAQ
  obtain ⟨Z, hZ⟩ : ∃ Z, Z = (nums .i64 (List.replicate 64 0)).toArray := ⟨_, rfl⟩
  have hz : ∀ w : World, (zeroValue 53).run Tryd.prog w = .ok (.agg Z) w := by rw [hZ]; exact fun _ => by kernel_rfl
  have hZs : Z.size = 64 := by rw [hZ]; simp [nums_len]
  rw [← hA] at hqu hch ⊢
  rw [← hAQ] at hch ⊢
  have HS1 := Lib.hid hS1
  have HS2 := Lib.hid hS2
  generalize sg.length = n at *
  generalize ch.length = m at *
  obtain ⟨W0, hW0⟩ : ∃ W, W = ((w.alloc (.cells #[.int .i64 inst, .string ⟨base.toArray⟩, .string ⟨fin.toArray⟩, .slice p n cp, .slice q m cq] 30)).alloc (.cells A 53)).alloc (.cells Z 53) := ⟨_, rfl⟩
  have hB : Hid (Below w.heap.size w W0) := Lib.hid (by rw [hW0]; exact (((Below.refl _ _).alloc (Nat.le_refl _) _).alloc (by simp) _).alloc (by simp; omega) _)
  have b0 : W0.heap[w.heap.size]? = some (.cells #[.int .i64 inst, .string ⟨base.toArray⟩, .string ⟨fin.toArray⟩, .slice p n cp, .slice q m cq] 30 (0, 0)) := by
    rw [hW0, Below.heap_alloc _ _ _ (by simp; omega), Below.heap_alloc _ _ _ (by simp)]; exact heap_alloc_new _ _
  have b1 : W0.heap[w.heap.size + 1]? = some (.cells A 53 (0, 0)) := by
    rw [hW0, Below.heap_alloc _ _ _ (by simp)]; have := heap_alloc_new (w.alloc (.cells #[.int .i64 inst, .string ⟨base.toArray⟩, .string ⟨fin.toArray⟩, .slice p n cp, .slice q m cq] 30)) (.cells A 53); simpa using this
  have b2 : W0.heap[w.heap.size + 2]? = some (.cells Z 53 (0, 0)) := by
    rw [hW0]; have := heap_alloc_new ((w.alloc (.cells #[.int .i64 inst, .string ⟨base.toArray⟩, .string ⟨fin.toArray⟩, .slice p n cp, .slice q m cq] 30)).alloc (.cells A 53)) (.cells Z 53); simpa using this
  have c3 : W0.cell? ⟨w.heap.size, 3, none⟩ = some (.slice p n cp) := cell_of_row W0 _ 3 _ 30 (0, 0) b0
  have HB0 := Lib.hid b0
  have HB1 := Lib.hid b1
  have HB2 := Lib.hid b2
  have HW := Lib.hid hW0
  clear hW0 b0 b2 hA hAQ hZ htab hq hP hS1 hS2
  have q3 : (Tryd.prog.info? 53).map (·.size) = some A.size := by rw [hAs]; kernel_rfl
  have q4 : (Tryd.prog.info? 53).map (·.size) = some AQ.size := by rw [hQs]; kernel_rfl
  go_enter Tryd.func21, Tryd.ntmps21
  go_wp2_with (rw [← HW.out]; refine wpList_load_row rfl 53 (.tmp 3) rfl (w.heap.size + 1) rfl 53 A (0, 0) _ b1 Tryd.underlying53 rfl q3 ?_)
  refine (hqu.out W0 (HS1.out.old hB.out)).mono ?_
  rintro r w1 ⟨rfl, hb1⟩
  have d1 := (hb1.block _ (Array.getElem?_eq_some_iff.1 HB1.out).1).trans HB1.out
  have d0 := (hb1.block _ (Array.getElem?_eq_some_iff.1 HB0.out).1).trans HB0.out
  have d2 := (hb1.block _ (Array.getElem?_eq_some_iff.1 HB2.out).1).trans HB2.out
  have c4 : w1.cell? ⟨w.heap.size, 4, none⟩ = some (.slice q m cq) := cell_of_row w1 _ 4 _ 30 (0, 0) d0
  have HB3 := Lib.hid (hB.out.trans (hb1.mono hB.out.size))
  have HD2 := Lib.hid d2
  clear hb1 d0 d2 c3 b1
  go_wp2_with (refine wpList_load_row rfl 53 (.tmp 3) rfl (w.heap.size + 1) rfl 53 A (0, 0) _ d1 Tryd.underlying53 rfl q3 ?_)
  refine (hch.out w1 (HS2.out.old HB3.out)).mono ?_
  rintro r w2 ⟨rfl, hb2⟩
  have d2 := (hb2.block _ (Array.getElem?_eq_some_iff.1 HD2.out).1).trans HD2.out
  have HB4 := Lib.hid (HB3.out.trans (hb2.mono HB3.out.size))
  have L0 := Lib.hid (tab_res (setRow_heap w2 (w.heap.size + 2) Z AQ 53 (0, 0) d2) hQs)
  have LB : Hid (Below w.heap.size w (w2.setRow (w.heap.size + 2) AQ)) := Lib.hid (((Mod.of_below HB4.out).setRow AQ).to_below (Nat.le_refl _) (by rintro k hk (h | h) <;> omega))
  have q5 := h1Q.out
  have q6 : Z.size = AQ.size := by rw [hZs, hQs]
  clear hb2 c4 d1
  go_wp2_with (refine wpList_store_row rfl rfl 53 (.tmp 4) (.tmp 16) rfl (w.heap.size + 2) rfl 53 Z AQ rfl d2 q6 q4 q5 ?_)
  exact bodyPost_ret (v := .tuple #[.agg AQ, .int .i64 RE]) (by simp [results, Tryd.results21, asAddr, L0.out]) rfl ⟨rfl, LB.out⟩
end Go.Proofs.YtmodikcghlbigaaDoor

namespace Go.Proofs.YtmodikcghlbigaaDoor
open Go.RowKit

/-- 'make([]byte, 32)'. -/
theorem wpList_makeB {ops : Array Oper} {rest : List Oper} {o : Oper} {a : Act} {Q : Exit → Act → World → Prop} {w : World} (hgd : o.guard = none) (l c : Operand) (hop : o.op = Op.makeSlice 43 l c)
    (hl : a.eval l = .int .i64 32) (hc : a.eval c = .int .i64 32)
    (hK : ∀ w', w'.heap[w.heap.size]? = some (.cells (vals zid).toArray 5 (0, 0)) → Below w.heap.size w w' → wpList Tryd.prog ops Q rest (a.put o.dst (.slice (some ⟨w.heap.size, 0, none⟩) 32 32)) w') :
    wpList Tryd.prog ops Q (o :: rest) a w := by
  obtain ⟨i, hi, hzz⟩ := Option.map_eq_some_iff.1 info_u8k
  simp only [Prod.mk.injEq] at hzz
  obtain ⟨hz, h1, h2⟩ := hzz
  refine wpList_make_full w hgd l c 43 hop 0 5 i (.int .u8 0) 1 Tryd.underlying43 hi hz h1 .i64 .i64 32 32 32 hl hc rfl rfl (by rw [h2]; decide) (by unfold maxLen; decide) (Nat.zero_le _) ?_
  intro w' hown hgrow
  refine hK w' ?_ ((Below.refl _ _).grown hgrow (Nat.le_refl _) (by intro k h; cases h))
  rcases hown.2 with ⟨h, _⟩ | ⟨g, cap, cur, h, _, hh, h3, h4, h5, h6⟩
  · cases h
  · simp only [Value.slice.injEq, Option.some.injEq, Addr.mk.injEq] at h
    obtain ⟨⟨rfl, _⟩, _, rfl⟩ := h
    rw [hh]
    have e : cur.toList = vals zid := by
      rw [List.take_of_length_le (by rw [Array.length_toList, h5]; exact Nat.le_refl _)] at h6
      rw [h6]; kernel_rfl
    rw [← e]

/-- A number's name. -/
def nameL (x : UInt8) : List UInt8 := (zid.set 0 x).set 31 (~~~x)
theorem nameL_len (x : UInt8) : (nameL x).length = 32 := by simp [nameL, zid]
theorem vals_set (L : List UInt8) (i : Nat) (x : UInt8) : (vals L).set i (.int .u8 (x.toNat : Int)) = vals (L.set i x) := by simp [vals, List.map_set]

theorem not_bits (x : UInt8) : bits BinOp.xor IntKind.u8 IntKind.u8.max (x.toNat : Int) = ((~~~x).toNat : Int) := by
  have h : ∀ n : Fin 256, bits BinOp.xor IntKind.u8 IntKind.u8.max (n.val : Int) = ((~~~(UInt8.ofNat n.val)).toNat : Int) := by decide +kernel
  have := h ⟨x.toNat, x.toNat_lt⟩
  simpa using this
theorem text_row {w : World} {g : Nat} {s : List UInt8} (hl : s.length = 32) (h : w.heap[g]? = some (.cells (vals s).toArray 5 (0, 0))) : (convert 43 9 (.slice (some ⟨g, 0, none⟩) 32 32)).run Tryd.prog w = .ok (.string ⟨s.toArray⟩) w := by
  rw [run_convert_bytes_arg w 43 5 Tryd.underlying43 Tryd.underlying5 g 0 32 32 (s.map fun x => (x.toNat : Int)) (by simpa using hl) (fun i hi => by
    rw [Nat.zero_add, cell_of_row w g i _ 5 (0, 0) h]
    simp [vals, List.getD, hl, hi]) 9 Tryd.underlying9]
  simp [strOfNums, Function.comp_def]
theorem name_row {w1 : World} {g : Nat} (x : UInt8) (h : w1.heap[g]? = some (.cells (vals zid).toArray 5 (0, 0))) : ((w1.setCell ⟨g, 0, none⟩ (.int .u8 (x.toNat : Int))).setCell ⟨g, 31, none⟩ (.int .u8 ((~~~x).toNat : Int))).heap[g]? = some (.cells (vals (nameL x)).toArray 5 (0, 0)) := by
  have h1 := heap_setCell_same w1 g 0 _ 5 (.int .u8 (x.toNat : Int)) h
  have e1 : (vals zid).toArray.setIfInBounds 0 (.int .u8 (x.toNat : Int)) = (vals (zid.set 0 x)).toArray := by rw [← vals_set]; exact List.setIfInBounds_toArray _ _ _
  rw [e1] at h1
  have h2 := heap_setCell_same _ g 31 _ 5 (.int .u8 ((~~~x).toNat : Int)) h1
  have e2 : (vals (zid.set 0 x)).toArray.setIfInBounds 31 (.int .u8 ((~~~x).toNat : Int)) = (vals (nameL x)).toArray := by unfold nameL; rw [← vals_set]; exact List.setIfInBounds_toArray _ _ _
  rw [e2] at h2
  exact h2

set_option maxRecDepth 20000 in
set_option maxHeartbeats 4000000 in
theorem lawname_any (x : UInt8) (w : World) : Calls Tryd.prog 19 #[.int .u8 (x.toNat : Int)] w fun r w' => r = .returned (.string ⟨(nameL x).toArray⟩) ∧ Below w.heap.size w w' := by
  have hx := x.toNat_lt
  have hnb := not_bits x
  have HN := Lib.hid (fun (w1 : World) (h : w1.heap[w.heap.size]? = some (.cells (vals zid).toArray 5 (0, 0))) => text_row (nameL_len x) (name_row x h))
  obtain ⟨y, hy⟩ : ∃ y : Int, y = ((~~~x).toNat : Int) := ⟨_, rfl⟩
  rw [← hy] at hnb HN
  clear hy
  generalize nameL x = N at HN ⊢
  go_enter Tryd.func19, Tryd.ntmps19
  go_wp2_with (at_make; refine wpList_makeB rfl _ _ rfl rfl rfl ?_; intro w1 hh hb; have HB := Lib.hid hb; have c0 : w1.cell? ⟨w.heap.size, 0, none⟩ = some (.int .u8 0) := cell_of_row w1 w.heap.size 0 _ 5 (0, 0) hh; have f0 := frozen_of_row w1 w.heap.size 0 _ 5 hh; have c31 : w1.cell? ⟨w.heap.size, 31, none⟩ = some (.int .u8 0) := cell_of_row w1 w.heap.size 31 _ 5 (0, 0) hh; have f31 := frozen_of_row w1 w.heap.size 31 _ 5 hh; have hcv := HN.out w1 hh; clear hh hb)
  go_ret
  exact ⟨rfl, (HB.out.setCell (by exact Nat.le_refl _) _).setCell (by exact Nat.le_refl _) _⟩
end Go.Proofs.YtmodikcghlbigaaDoor

namespace Go.Proofs.YtmodikcghlbigaaDoor
open Go.RowKit

theorem nmsOk_one (s : List UInt8) (h : s.length = 32) : nmsOk s = true := by
  unfold nmsOk
  rw [decide_eq_true (by omega), Bool.true_and, show s.length / 32 - 1 = 0 by omega]; rfl
theorem one_ok (x y : UInt8) : CtOk ⟨0, nameL x, nameL y, [3], []⟩ :=
  ⟨by simp, by simp, Int.le_refl 0, (show (0 : Int) ≤ 1073741824 by decide), nmsOk_one _ (nameL_len x), nmsOk_one _ (nameL_len y), rfl, (show rise (-1) [3] = true by decide)⟩
theorem ent_ok : EntsOk [(3, 7)] 1 := by
  refine ⟨by decide, by decide, ?_⟩
  intro j hj; simp at hj
def P37 : List Nat := wth (List.replicate 64 0) [(3, 7)]
theorem P37_tab : IsTab P37 := isTab_zero.wth ent_ok
theorem P37_chg : chgE P37 [] = 0 ∧ chgT P37 [] = P37 := by
  have h : chgE P37 [] = 0 := by
    unfold chgE
    rw [if_neg (by simp), if_neg (by simp [good]), if_neg (by
      show wth P37 [] ≠ _
      unfold wth P37; decide +kernel)]
  refine ⟨h, ?_⟩
  unfold chgT; rw [if_pos h]; rfl
theorem P37_sum : tsum P37 = 7 := by decide +kernel
theorem P37_quo : 2 * tsum P37 < 3 * tsum (sig P37 [3]) := by decide +kernel

set_option maxRecDepth 20000 in
set_option maxHeartbeats 8000000 in
theorem awake07_any (w : World) (hT : TabAt w) : Calls Tryd.prog 6 #[] w fun r w' => r = .returned (.bool true) ∧ Below w.heap.size w w' := by
  obtain ⟨c, hc⟩ : ∃ c : Ct, c = ⟨0, nameL 1, nameL 2, [3], []⟩ := ⟨_, rfl⟩
  have ok : CtOk c := by rw [hc]; exact one_ok 1 2
  have L1 : Hid (∀ w, Calls Tryd.prog 19 #[.int .u8 1] w fun r w' => r = .returned (.string ⟨(nameL 1).toArray⟩) ∧ Below w.heap.size w w') := Lib.hid (fun w => lawname_any 1 w)
  have L2 : Hid (∀ w, Calls Tryd.prog 19 #[.int .u8 2] w fun r w' => r = .returned (.string ⟨(nameL 2).toArray⟩) ∧ Below w.heap.size w w') := Lib.hid (fun w => lawname_any 2 w)
  have lens : c.sg.length ≤ 1000000 ∧ c.ch.length ≤ 1000000 ∧ c.base.length ≤ 1000000 ∧ c.fin.length ≤ 1000000 := by rw [hc]; simp [nameL_len]
  have hck : ck c = 0 := ck_ok.2 ok
  have KC : Hid (∀ p q cp cq w, CtAt w c p q → Calls Tryd.prog 9 #[.agg (ctc c p q cp cq)] w fun r w' => r = .returned (.int .i64 0) ∧ Below w.heap.size w w') := Lib.hid (fun p q cp cq w h => by have := kcheck_any c p q cp cq w h lens.1 lens.2.1 lens.2.2.1 lens.2.2.2; rw [hck] at this; exact this)
  have KB : Hid (∀ p q cp cq w, CtAt w c p q → Calls Tryd.prog 12 #[.agg (ctc c p q cp cq)] w fun r w' => r = .returned (.string ⟨(ctB c).toArray⟩) ∧ Below w.heap.size w w') := Lib.hid (fun p q cp cq w h => kbytes_any c p q cp cq w h ok)
  have KI : Hid (∀ p q cp cq w, CtAt w c p q → TabAt w → Calls Tryd.prog 13 #[.agg (ctc c p q cp cq)] w fun r w' => r = .returned (.agg (vals (shaB (ctB c))).toArray) ∧ Below w.heap.size w w') := Lib.hid (fun p q cp cq w h hT => kid_any c p q cp cq w h ok hT)
  have KP : Hid (∀ w, Calls Tryd.prog 11 #[.string ⟨(ctB c).toArray⟩] w (KPost c 0 w)) := Lib.hid (fun w => by
    have h := par_back ok
    have := kparse_any (ctB c) w (by have := ctB_len ok; omega)
    rw [h.1, h.2] at this; exact this)
  have KN : Hid (∀ p q cp cq w, CtAt w c p q → Calls Tryd.prog 21 #[.agg (ctc c p q cp cq), tval P37] w fun r w' => r = .returned (.tuple #[tval P37, .int .i64 0]) ∧ Below w.heap.size w w') := Lib.hid (fun p q cp cq w h => by
    have := knext_any c p q cp cq P37 w P37_tab h lens.1 lens.2.1 (by rw [hc]; exact P37_quo)
    rw [show c.ch = [] by rw [hc], P37_chg.1, P37_chg.2] at this; exact this)
  have KW : Hid (∀ w ao, EntsAt w ao [(3, 7)] → Calls Tryd.prog 20 #[.slice ao 1 1] w fun r w' => r = .returned (.tuple #[tval P37, .int .i64 0]) ∧ Below w.heap.size w w') := Lib.hid (fun w ao h => new_any ao 1 [(3, 7)] w h ent_ok (by decide) (by simp))
  have KT : Hid (∀ w, Calls Tryd.prog 22 #[tval P37] w fun r w' => r = .returned (.int .i64 7) ∧ Below w.heap.size w w') := Lib.hid (fun w => by have := total_any P37 w P37_tab; rw [P37_sum] at this; exact this)
  unfold tval at KN KW KT
  obtain ⟨AP, hAP⟩ : ∃ A, A = (nums .i64 P37).toArray := ⟨_, rfl⟩
  rw [← hAP] at KN KW KT
  have hAs := P37_tab.row hAP
  have h1A := tab_one hAP
  obtain ⟨Z, hZ⟩ : ∃ Z, Z = (nums .i64 (List.replicate 64 0)).toArray := ⟨_, rfl⟩
  have hz : ∀ w : World, (zeroValue 53).run Tryd.prog w = .ok (.agg Z) w := by rw [hZ]; exact fun _ => by kernel_rfl
  have hZs : Z.size = 64 := by rw [hZ]; simp [nums_len]
  have iAP : (Tryd.prog.info? 53).map (·.size) = some AP.size := by rw [hAs]; kernel_rfl
  have hShl : (shaB (ctB c)).length = 32 := shaB_len _
  obtain ⟨ID, hID⟩ : ∃ I, I = (vals (shaB (ctB c))).toArray := ⟨_, rfl⟩
  have hide : ∀ w, (Op.equalIn 10000 39 (.agg ID) (.agg ID)).run Tryd.prog w = .ok true w := fun w => by
    rw [hID]
    have h := run_equalIn_bytes w 9998 39 5 32 Tryd.underlying39 Tryd.underlying5 Tryd.sizeOf5 (shaB (ctB c)) (shaB (ctB c)) hShl hShl
    rw [beq_self_eq_true] at h; exact h
  rw [← hID] at KI
  generalize ctB c = S at KB KP
  have HT := Lib.hid hT
  have hcl : Hid (∀ s : Addr, ctc c (some s) none 1 0 = #[.int .i64 0, .string ⟨(nameL 1).toArray⟩, .string ⟨(nameL 2).toArray⟩, .slice (some s) 1 1, .slice none 0 0]) := Lib.hid (fun s => by rw [hc]; rfl)
  have hat : Hid (∀ w2 : World, CtAt (w2.alloc (.cells #[.int .i64 3] 3)) c (some ⟨w2.heap.size, 0, none⟩) none) := Lib.hid (fun w2 => by
    rw [hc]; exact ⟨Rd.made encI w2 3 [3] (by simp [maxLen]), Rd.nil _ _⟩)
  have hents : Hid (∀ w2 : World, EntsAt (w2.alloc (.cells #[.int .i64 3, .int .i64 7] 57)) (some ⟨w2.heap.size, 0, none⟩) [(3, 7)]) := Lib.hid (fun w2 => by
    intro j hj
    have e : j = 0 := by simp at hj; exact hj
    subst e
    refine ⟨w2.heap.size, 0, rfl, by simp, ?_, ?_⟩ <;> (rw [cell_of_row _ w2.heap.size _ _ 57 (0, 0) (heap_alloc_new _ _)]; rfl))
  have hfin : c.fin = nameL 2 := by rw [hc]
  have Hfin := Lib.hid hfin
  obtain ⟨b1, hb1⟩ : ∃ b, b = nameL 1 := ⟨_, rfl⟩
  obtain ⟨b2, hb2⟩ : ∃ b, b = nameL 2 := ⟨_, rfl⟩
  rw [← hb1] at hcl L1
  rw [← hb2] at hcl L2 Hfin
  clear hAP hZ hID hShl hc ok lens hck hT hb1 hb2 hfin
  go_enter Tryd.func6, Tryd.ntmps6
  go_wp2_with fail
  refine (L1.out w).mono ?_
  rintro r w1 ⟨rfl, hb1⟩
  have B1 := Lib.hid hb1
  clear hb1 L1
  go_wp2_with fail
  refine (L2.out w1).mono ?_
  rintro r w2 ⟨rfl, hb2⟩
  have B2 := Lib.hid (B1.out.trans (hb2.mono B1.out.size))
  clear hb2 L2
  obtain ⟨W4, hW4⟩ : ∃ W, W = w2.alloc (.cells #[.int .i64 3] 3) := ⟨_, rfl⟩
  have b4 : Below w2.heap.size w2 W4 := by rw [hW4]; exact (Below.refl _ _).alloc (Nat.le_refl _) _
  have rd4 : CtAt W4 c (some ⟨w2.heap.size, 0, none⟩) none := by rw [hW4]; exact hat.out w2
  have sz4 : W4.heap.size = w2.heap.size + 1 := by rw [hW4]; simp
  obtain ⟨CL, hCL⟩ : ∃ C, C = ctc c (some ⟨w2.heap.size, 0, none⟩) none 1 0 := ⟨_, rfl⟩
  have hCLs : CL.size = 5 := by rw [hCL]; rfl
  have q1 : ∀ v ∈ CL.toList, v.oneCell' = true := by rw [hCL]; exact ctc_one _ _ _ _ _
  have iCL : (Tryd.prog.info? 30).map (·.size) = some CL.size := by rw [hCLs]; exact ct_info
  obtain ⟨W5, hW5⟩ : ∃ W, W = (W4.alloc (.cells #[.int .i64 0, .string ⟨#[]⟩, .string ⟨#[]⟩, .slice none 0 0, .slice none 0 0] 30)).setRow W4.heap.size CL := ⟨_, rfl⟩
  have hg4 := heap_alloc_new W4 (.cells #[.int .i64 0, .string ⟨#[]⟩, .string ⟨#[]⟩, .slice none 0 0, .slice none 0 0] 30)
  have b45 : Below W4.heap.size W4 W5 := by rw [hW5]; exact stored_new W4 _ CL 30
  have box5 : Hid (W5.heap[W4.heap.size]? = some (.cells CL 30 (0, 0))) := Lib.hid (by rw [hW5]; exact setRow_heap _ _ _ _ _ _ (heap_alloc_new W4 _))
  have rd5 := Lib.hid (rd4.old b45)
  have B5 := Lib.hid (B2.out.trans ((b4.trans (b45.mono b4.size)).mono B2.out.size))
  have HCL : Hid (CL = #[.int .i64 0, .string ⟨b1.toArray⟩, .string ⟨b2.toArray⟩, .slice (some ⟨w2.heap.size, 0, none⟩) 1 1, .slice none 0 0]) := Lib.hid (by rw [hCL]; exact hcl.out _)
  have KC1 := Lib.hid (fun w h => KC.out (some ⟨w2.heap.size, 0, none⟩) none 1 0 w h)
  have KB1 := Lib.hid (fun w h => KB.out (some ⟨w2.heap.size, 0, none⟩) none 1 0 w h)
  have KI1 := Lib.hid (fun w h => KI.out (some ⟨w2.heap.size, 0, none⟩) none 1 0 w h)
  have KN1 := Lib.hid (fun w h => KN.out (some ⟨w2.heap.size, 0, none⟩) none 1 0 w h)
  rw [← hCL] at KC1 KB1 KI1 KN1
  have HW4 := Lib.hid hW4
  have HW5 := Lib.hid hW5
  have Hs4 := Lib.hid sz4
  have W5s := Lib.hid hg4
  clear hW4 hW5 hCL b4 b45 rd4 sz4 KC KB KN hcl hat
  go_upto_region 2 with (refine wpList_store_row rfl rfl 30 (.tmp 1) (.tmp 11) rfl (w2.heap.size + 1) rfl 30 #[.int .i64 0, .string ⟨#[]⟩, .string ⟨#[]⟩, .slice none 0 0, .slice none 0 0] CL (by rw [HCL.out]; rfl) (by rw [← HW4.out, ← Hs4.out]; exact W5s.out) (by rw [hCLs]; rfl) iCL q1 ?_)
  rw [← HW4.out, ← Hs4.out, ← HW5.out]
  obtain ⟨ga, hga⟩ : ∃ g, g = W4.heap.size := ⟨_, rfl⟩
  rw [← hga] at box5 ⊢
  clear hga hg4
  obtain ⟨W6, hW6⟩ : ∃ W, W = W5.alloc (.cells #[.int .i64 3, .int .i64 7] 57) := ⟨_, rfl⟩
  have b56 : Below W5.heap.size W5 W6 := by rw [hW6]; exact (Below.refl _ _).alloc (Nat.le_refl _) _
  have ne := hents.out W5
  rw [← hW6] at ne
  have knew := Lib.hid (KW.out W6 _ ne)
  have HW6 := Lib.hid hW6
  clear hW6 ne KW hents
  go_wp2_with fail
  rw [← HW6.out]
  refine knew.out.mono ?_
  rintro r w7 ⟨rfl, hb7⟩
  have b57 : Below W5.heap.size W5 w7 := b56.trans (hb7.mono b56.size)
  obtain ⟨W8, hW8⟩ : ∃ W, W = (w7.alloc (.cells Z 53)).setRow w7.heap.size AP := ⟨_, rfl⟩
  have hg7 := heap_alloc_new w7 (.cells Z 53)
  have b78 : Below w7.heap.size w7 W8 := by rw [hW8]; exact stored_new w7 _ AP 53
  have b58 := b57.trans (b78.mono b57.size)
  have box8 : Hid (W8.heap[w7.heap.size]? = some (.cells AP 53 (0, 0))) := Lib.hid (by rw [hW8]; exact setRow_heap _ _ _ _ _ _ (heap_alloc_new w7 _))
  have box81 : Hid (W8.heap[ga]? = some (.cells CL 30 (0, 0))) := Lib.hid ((b58.block _ (Array.getElem?_eq_some_iff.1 box5.out).1).trans box5.out)
  have rd8 := Lib.hid (rd5.out.old b58)
  have B8 := Lib.hid (B5.out.trans (b58.mono B5.out.size))
  have HW8 := Lib.hid hW8
  have hZA : Z.size = AP.size := by rw [hZs, hAs]
  have q1A := h1A.out
  clear hW8 b56 b57 b78 b58 hb7 knew box5 rd5 HW6
  go_upto_region 3 with (refine wpList_store_row rfl rfl 53 (.tmp 2) (.tmp 16) rfl w7.heap.size rfl 53 Z AP rfl hg7 hZA iAP q1A ?_)
  rw [← HW8.out]
  have lb1 := box81.out
  have lb2 := box8.out
  go_wp2_with (first | (refine wpList_load_row rfl 30 (.tmp 1) rfl ga rfl 30 CL (0, 0) _ lb1 Tryd.underlying30 rfl iCL ?_) | (refine wpList_load_row rfl 53 (.tmp 2) rfl w7.heap.size rfl 53 AP (0, 0) _ lb2 Tryd.underlying53 rfl iAP ?_))
  refine (KN1.out W8 rd8.out).mono ?_
  rintro r w9 ⟨rfl, hb9⟩
  obtain ⟨W10, hW10⟩ : ∃ W, W = (w9.alloc (.cells Z 53)).setRow w9.heap.size AP := ⟨_, rfl⟩
  have hg9 := heap_alloc_new w9 (.cells Z 53)
  have b90 : Below w9.heap.size w9 W10 := by rw [hW10]; exact stored_new w9 _ AP 53
  have b80 := hb9.trans (b90.mono hb9.size)
  have box10 : Hid (W10.heap[w9.heap.size]? = some (.cells AP 53 (0, 0))) := Lib.hid (by rw [hW10]; exact setRow_heap _ _ _ _ _ _ (heap_alloc_new w9 _))
  have box101 : Hid (W10.heap[ga]? = some (.cells CL 30 (0, 0))) := Lib.hid ((b80.block _ (Array.getElem?_eq_some_iff.1 box81.out).1).trans box81.out)
  have rd10 := Lib.hid (rd8.out.old b80)
  have B10 := Lib.hid (B8.out.trans (b80.mono B8.out.size))
  have HW10 := Lib.hid hW10
  clear hW10 b90 b80 hb9 box8 box81 rd8 lb1 lb2 hg7
  go_upto_region 4 with (refine wpList_store_row rfl rfl 53 (.tmp 4) (.tmp 22) rfl w9.heap.size rfl 53 Z AP rfl hg9 hZA iAP q1A ?_)
  rw [← HW10.out]
  obtain ⟨gb, hgb⟩ : ∃ g, g = w9.heap.size := ⟨_, rfl⟩
  rw [← hgb] at box10 ⊢
  clear hgb hg9
  have lb1 := box101.out
  go_wp2_with (refine wpList_load_row rfl 30 (.tmp 1) rfl ga rfl 30 CL (0, 0) _ lb1 Tryd.underlying30 rfl iCL ?_)
  refine (KB1.out W10 rd10.out).mono ?_
  rintro r w11 ⟨rfl, hb11⟩
  have B11 := Lib.hid hb11
  clear hb11 lb1
  go_wp2_with fail
  refine (KP.out w11).mono ?_
  rintro r w12 ⟨p, q, cp, cq, rfl, hat12, hb12, -, -⟩
  have b012 := B11.out.trans (hb12.mono B11.out.size)
  obtain ⟨Y, hY⟩ : ∃ Y, Y = ctc c p q cp cq := ⟨_, rfl⟩
  have hYs : Y.size = 5 := by rw [hY]; rfl
  have qY : ∀ v ∈ Y.toList, v.oneCell' = true := by rw [hY]; exact ctc_one _ _ _ _ _
  have iY : (Tryd.prog.info? 30).map (·.size) = some Y.size := by rw [hYs]; exact ct_info
  have HY2 : Hid (Y[2]? = some (.string ⟨b2.toArray⟩)) := Lib.hid (by rw [hY, ← Hfin.out]; rfl)
  have KI2 := Lib.hid (fun w h hT => KI.out p q cp cq w h hT)
  rw [← hY] at KI2 ⊢
  obtain ⟨W13, hW13⟩ : ∃ W, W = (w12.alloc (.cells #[.int .i64 0, .string ⟨#[]⟩, .string ⟨#[]⟩, .slice none 0 0, .slice none 0 0] 30)).setRow w12.heap.size Y := ⟨_, rfl⟩
  have hg12 := heap_alloc_new w12 (.cells #[.int .i64 0, .string ⟨#[]⟩, .string ⟨#[]⟩, .slice none 0 0, .slice none 0 0] 30)
  have b23 : Below w12.heap.size w12 W13 := by rw [hW13]; exact stored_new w12 _ Y 30
  have b13 := b012.trans (b23.mono b012.size)
  have X6 : Hid (W13.heap[w12.heap.size]? = some (.cells Y 30 (0, 0))) := Lib.hid (by rw [hW13]; exact setRow_heap _ _ _ _ _ _ (heap_alloc_new w12 _))
  have X4 : Hid (W13.heap[gb]? = some (.cells AP 53 (0, 0))) := Lib.hid ((b13.block _ (Array.getElem?_eq_some_iff.1 box10.out).1).trans box10.out)
  have X1 : Hid (W13.heap[ga]? = some (.cells CL 30 (0, 0))) := Lib.hid ((b13.block _ (Array.getElem?_eq_some_iff.1 box101.out).1).trans box101.out)
  have rdC := Lib.hid (rd10.out.old b13)
  have rdY := Lib.hid (hat12.old b23)
  have B13 := Lib.hid (B10.out.trans (b13.mono B10.out.size))
  have HW13 := Lib.hid hW13
  clear hW13 b23 b13 b012 hb12 hat12 box10 box101 rd10 hY KI
  have qsY : (#[.int .i64 0, .string ⟨#[]⟩, .string ⟨#[]⟩, .slice none 0 0, .slice none 0 0] : Array Value).size = Y.size := by rw [hYs]; rfl
  go_upto_region 5 with (refine wpList_store_row rfl rfl 30 (.tmp 6) (.tmp 28) rfl w12.heap.size rfl 30 #[.int .i64 0, .string ⟨#[]⟩, .string ⟨#[]⟩, .slice none 0 0, .slice none 0 0] Y rfl hg12 qsY iY qY ?_)
  rw [← HW13.out]
  obtain ⟨gc, hgc⟩ : ∃ g, g = w12.heap.size := ⟨_, rfl⟩
  rw [← hgc] at X6 ⊢
  clear hgc hg12
  have X1l : ga < W13.heap.size := (Array.getElem?_eq_some_iff.1 X1.out).1
  have X4l : gb < W13.heap.size := (Array.getElem?_eq_some_iff.1 X4.out).1
  have X6l : gc < W13.heap.size := (Array.getElem?_eq_some_iff.1 X6.out).1
  have KC : Hid (∀ w1, Below W13.heap.size W13 w1 → Calls Tryd.prog 9 #[.agg CL] w1 fun r w' => r = .returned (.int .i64 0) ∧ Below w1.heap.size w1 w') := Lib.hid (fun w1 h => KC1.out w1 (rdC.out.old h))
  have KT2 : Hid (∀ w1, Below W13.heap.size W13 w1 → Calls Tryd.prog 22 #[.agg AP] w1 fun r w' => r = .returned (.int .i64 7) ∧ Below w1.heap.size w1 w') := Lib.hid (fun w1 h => KT.out w1)
  have KI6 : Hid (∀ w1, Below W13.heap.size W13 w1 → Calls Tryd.prog 13 #[.agg Y] w1 fun r w' => r = .returned (.agg ID) ∧ Below w1.heap.size w1 w') := Lib.hid (fun w1 h => KI2.out w1 (rdY.out.old h) (HT.out.old (B13.out.trans (h.mono B13.out.size))))
  have KI7 : Hid (∀ w1, Below W13.heap.size W13 w1 → Calls Tryd.prog 13 #[.agg CL] w1 fun r w' => r = .returned (.agg ID) ∧ Below w1.heap.size w1 w') := Lib.hid (fun w1 h => KI1.out w1 (rdC.out.old h) (HT.out.old (B13.out.trans (h.mono B13.out.size))))
  have HC2 : Hid (CL[2]? = some (.string ⟨b2.toArray⟩)) := Lib.hid (by rw [HCL.out]; rfl)
  refine wp_region_puts (fun t v w => VK (match t with
    | 30 => .eq (.agg CL)
    | 31 => .eq (.int .i64 0)
    | 32 => .eq (Value.bool true)
    | 33 => .eq (Value.bool true)
    | 34 => .eq (.int .i64 0)
    | 35 => .eq (Value.bool true)
    | 36 => .eq (Value.bool true)
    | 37 => .eq (Value.bool true)
    | 38 => .eq (.agg AP)
    | 39 => .eq (.int .i64 7)
    | 40 => .eq (Value.bool true)
    | 41 => .eq (Value.bool true)
    | 42 => .eq (Value.bool true)
    | 43 => .eq (.int .i64 0)
    | 44 => .eq (Value.bool true)
    | 45 => .eq (Value.bool true)
    | 46 => .eq (Value.bool true)
    | 47 => .eq (.agg Y)
    | 48 => .eq (.agg ID)
    | 49 => .eq (.agg CL)
    | 50 => .eq (.agg ID)
    | 51 => .eq (Value.bool true)
    | 52 => .eq (Value.bool true)
    | 53 => .eq (Value.bool true)
    | 54 => .eq (.pointer (some ⟨gc, 2, none⟩))
    | 55 => .eq (.string ⟨b2.toArray⟩)
    | 56 => .eq (.pointer (some ⟨ga, 2, none⟩))
    | 57 => .eq (.string ⟨b2.toArray⟩)
    | 58 => .eq (Value.bool true)
    | 59 => .eq (Value.bool true)
    | 0 => .eq (Value.bool true)
    | _ => .any) v w) (fun w' => Below W13.heap.size W13 w') 60 (by kernel_rfl) (by decide +kernel) rfl (Below.refl _ _).drew (by
    refine OweAll.cons (owesK rfl rfl fun a w1 ha hG hV => ?_) ?_
    · skip
      have h1 := ha.outer 1 (by decide +kernel)
      simp only [Act.eval] at h1
      exact ⟨.agg CL, w1, wanted_free rfl, exec_load_row 30 (.tmp 1) rfl ga h1 30 CL (0, 0) _ ((hG.block _ X1l).trans X1.out) Tryd.underlying30 rfl iCL, Below.refl _ _, rfl⟩
    refine OweAll.cons (owesK_call rfl rfl 9 fun a w1 ha hG hV => ?_) ?_
    · skip
      have h30 : a.tmps.getD 30 undef = .agg CL := hV.get 30 (by decide +kernel)
      refine ⟨#[.agg CL], wanted_free rfl, by simp [execOp, resolve, invoke, go_sem, h30], ?_⟩
      refine (KC.out w1 hG).mono ?_
      rintro r u2 ⟨rfl, hb⟩; exact ⟨_, rfl, rfl, hb⟩
    refine OweAll.cons (owesK rfl rfl fun a w1 ha hG hV => ?_) ?_
    · skip
      have h31 : a.tmps.getD 31 undef = .int .i64 0 := hV.get 31 (by decide +kernel)
      exact ⟨Value.bool true, w1, wanted_free rfl, by simp [execOp, go_sem, h31], Below.refl _ _, rfl⟩
    refine OweAll.cons (owesK rfl rfl fun a w1 ha hG hV => ?_) ?_
    · skip
      have h32 : a.tmps.getD 32 undef = Value.bool true := hV.get 32 (by decide +kernel)
      exact ⟨Value.bool true, w1, wanted_free rfl, by simp [execOp, go_sem, h32], Below.refl _ _, rfl⟩
    refine OweAll.cons (owesK rfl rfl fun a w1 ha hG hV => ?_) ?_
    · skip
      have h5 := ha.outer 5 (by decide +kernel)
      simp only [Act.eval] at h5
      exact ⟨.int .i64 0, w1, (wanted_of (t := 33) rfl rfl (hV.get 33 (by decide +kernel))), by simp [execOp, go_sem, h5], Below.refl _ _, rfl⟩
    refine OweAll.cons (owesK rfl rfl fun a w1 ha hG hV => ?_) ?_
    · skip
      have h34 : a.tmps.getD 34 undef = .int .i64 0 := hV.get 34 (by decide +kernel)
      exact ⟨Value.bool true, w1, (wanted_of (t := 33) rfl rfl (hV.get 33 (by decide +kernel))), by simp [execOp, go_sem, h34], Below.refl _ _, rfl⟩
    refine OweAll.cons (owesK rfl rfl fun a w1 ha hG hV => ?_) ?_
    · skip
      have h33 : a.tmps.getD 33 undef = Value.bool true := hV.get 33 (by decide +kernel)
      have h35 : a.tmps.getD 35 undef = Value.bool true := hV.get 35 (by decide +kernel)
      exact ⟨Value.bool true, w1, wanted_free rfl, by simp [execOp, go_sem, h33, h35], Below.refl _ _, rfl⟩
    refine OweAll.cons (owesK rfl rfl fun a w1 ha hG hV => ?_) ?_
    · skip
      have h36 : a.tmps.getD 36 undef = Value.bool true := hV.get 36 (by decide +kernel)
      exact ⟨Value.bool true, w1, wanted_free rfl, by simp [execOp, go_sem, h36], Below.refl _ _, rfl⟩
    refine OweAll.cons (owesK rfl rfl fun a w1 ha hG hV => ?_) ?_
    · skip
      have h4 := ha.outer 4 (by decide +kernel)
      simp only [Act.eval] at h4
      exact ⟨.agg AP, w1, (wanted_of (t := 37) rfl rfl (hV.get 37 (by decide +kernel))), exec_load_row 53 (.tmp 4) rfl gb h4 53 AP (0, 0) _ ((hG.block _ X4l).trans X4.out) Tryd.underlying53 rfl iAP, Below.refl _ _, rfl⟩
    refine OweAll.cons (owesK_call rfl rfl 22 fun a w1 ha hG hV => ?_) ?_
    · skip
      have h38 : a.tmps.getD 38 undef = .agg AP := hV.get 38 (by decide +kernel)
      refine ⟨#[.agg AP], (wanted_of (t := 37) rfl rfl (hV.get 37 (by decide +kernel))), by simp [execOp, resolve, invoke, go_sem, h38], ?_⟩
      refine (KT2.out w1 hG).mono ?_
      rintro r u2 ⟨rfl, hb⟩; exact ⟨_, rfl, rfl, hb⟩
    refine OweAll.cons (owesK rfl rfl fun a w1 ha hG hV => ?_) ?_
    · skip
      have h39 : a.tmps.getD 39 undef = .int .i64 7 := hV.get 39 (by decide +kernel)
      exact ⟨Value.bool true, w1, (wanted_of (t := 37) rfl rfl (hV.get 37 (by decide +kernel))), by simp [execOp, go_sem, h39], Below.refl _ _, rfl⟩
    refine OweAll.cons (owesK rfl rfl fun a w1 ha hG hV => ?_) ?_
    · skip
      have h37 : a.tmps.getD 37 undef = Value.bool true := hV.get 37 (by decide +kernel)
      have h40 : a.tmps.getD 40 undef = Value.bool true := hV.get 40 (by decide +kernel)
      exact ⟨Value.bool true, w1, wanted_free rfl, by simp [execOp, go_sem, h37, h40], Below.refl _ _, rfl⟩
    refine OweAll.cons (owesK rfl rfl fun a w1 ha hG hV => ?_) ?_
    · skip
      have h41 : a.tmps.getD 41 undef = Value.bool true := hV.get 41 (by decide +kernel)
      exact ⟨Value.bool true, w1, wanted_free rfl, by simp [execOp, go_sem, h41], Below.refl _ _, rfl⟩
    refine OweAll.cons (owesK rfl rfl fun a w1 ha hG hV => ?_) ?_
    · skip
      have h7 := ha.outer 7 (by decide +kernel)
      simp only [Act.eval] at h7
      exact ⟨.int .i64 0, w1, (wanted_of (t := 42) rfl rfl (hV.get 42 (by decide +kernel))), by simp [execOp, go_sem, h7], Below.refl _ _, rfl⟩
    refine OweAll.cons (owesK rfl rfl fun a w1 ha hG hV => ?_) ?_
    · skip
      have h43 : a.tmps.getD 43 undef = .int .i64 0 := hV.get 43 (by decide +kernel)
      exact ⟨Value.bool true, w1, (wanted_of (t := 42) rfl rfl (hV.get 42 (by decide +kernel))), by simp [execOp, go_sem, h43], Below.refl _ _, rfl⟩
    refine OweAll.cons (owesK rfl rfl fun a w1 ha hG hV => ?_) ?_
    · skip
      have h42 : a.tmps.getD 42 undef = Value.bool true := hV.get 42 (by decide +kernel)
      have h44 : a.tmps.getD 44 undef = Value.bool true := hV.get 44 (by decide +kernel)
      exact ⟨Value.bool true, w1, wanted_free rfl, by simp [execOp, go_sem, h42, h44], Below.refl _ _, rfl⟩
    refine OweAll.cons (owesK rfl rfl fun a w1 ha hG hV => ?_) ?_
    · skip
      have h45 : a.tmps.getD 45 undef = Value.bool true := hV.get 45 (by decide +kernel)
      exact ⟨Value.bool true, w1, wanted_free rfl, by simp [execOp, go_sem, h45], Below.refl _ _, rfl⟩
    refine OweAll.cons (owesK rfl rfl fun a w1 ha hG hV => ?_) ?_
    · skip
      have h6 := ha.outer 6 (by decide +kernel)
      simp only [Act.eval] at h6
      exact ⟨.agg Y, w1, (wanted_of (t := 46) rfl rfl (hV.get 46 (by decide +kernel))), exec_load_row 30 (.tmp 6) rfl gc h6 30 Y (0, 0) _ ((hG.block _ X6l).trans X6.out) Tryd.underlying30 rfl iY, Below.refl _ _, rfl⟩
    refine OweAll.cons (owesK_call rfl rfl 13 fun a w1 ha hG hV => ?_) ?_
    · skip
      have h47 : a.tmps.getD 47 undef = .agg Y := hV.get 47 (by decide +kernel)
      refine ⟨#[.agg Y], (wanted_of (t := 46) rfl rfl (hV.get 46 (by decide +kernel))), by simp [execOp, resolve, invoke, go_sem, h47], ?_⟩
      refine (KI6.out w1 hG).mono ?_
      rintro r u2 ⟨rfl, hb⟩; exact ⟨_, rfl, rfl, hb⟩
    refine OweAll.cons (owesK rfl rfl fun a w1 ha hG hV => ?_) ?_
    · skip
      have h1 := ha.outer 1 (by decide +kernel)
      simp only [Act.eval] at h1
      exact ⟨.agg CL, w1, (wanted_of (t := 46) rfl rfl (hV.get 46 (by decide +kernel))), exec_load_row 30 (.tmp 1) rfl ga h1 30 CL (0, 0) _ ((hG.block _ X1l).trans X1.out) Tryd.underlying30 rfl iCL, Below.refl _ _, rfl⟩
    refine OweAll.cons (owesK_call rfl rfl 13 fun a w1 ha hG hV => ?_) ?_
    · skip
      have h49 : a.tmps.getD 49 undef = .agg CL := hV.get 49 (by decide +kernel)
      refine ⟨#[.agg CL], (wanted_of (t := 46) rfl rfl (hV.get 46 (by decide +kernel))), by simp [execOp, resolve, invoke, go_sem, h49], ?_⟩
      refine (KI7.out w1 hG).mono ?_
      rintro r u2 ⟨rfl, hb⟩; exact ⟨_, rfl, rfl, hb⟩
    refine OweAll.cons (owesK rfl rfl fun a w1 ha hG hV => ?_) ?_
    · skip
      have h48 : a.tmps.getD 48 undef = .agg ID := hV.get 48 (by decide +kernel)
      have h50 : a.tmps.getD 50 undef = .agg ID := hV.get 50 (by decide +kernel)
      exact ⟨Value.bool true, w1, (wanted_of (t := 46) rfl rfl (hV.get 46 (by decide +kernel))), by simp [execOp, go_sem, h48, h50, hide w1], Below.refl _ _, rfl⟩
    refine OweAll.cons (owesK rfl rfl fun a w1 ha hG hV => ?_) ?_
    · skip
      have h46 : a.tmps.getD 46 undef = Value.bool true := hV.get 46 (by decide +kernel)
      have h51 : a.tmps.getD 51 undef = Value.bool true := hV.get 51 (by decide +kernel)
      exact ⟨Value.bool true, w1, wanted_free rfl, by simp [execOp, go_sem, h46, h51], Below.refl _ _, rfl⟩
    refine OweAll.cons (owesK rfl rfl fun a w1 ha hG hV => ?_) ?_
    · skip
      have h52 : a.tmps.getD 52 undef = Value.bool true := hV.get 52 (by decide +kernel)
      exact ⟨Value.bool true, w1, wanted_free rfl, by simp [execOp, go_sem, h52], Below.refl _ _, rfl⟩
    refine OweAll.cons (owesK rfl rfl fun a w1 ha hG hV => ?_) ?_
    · skip
      have h6 := ha.outer 6 (by decide +kernel)
      simp only [Act.eval] at h6
      exact ⟨.pointer (some ⟨gc, 2, none⟩), w1, (wanted_of (t := 53) rfl rfl (hV.get 53 (by decide +kernel))), by simp [execOp, go_sem, h6], Below.refl _ _, rfl⟩
    refine OweAll.cons (owesK rfl rfl fun a w1 ha hG hV => ?_) ?_
    · skip
      have h54 : a.tmps.getD 54 undef = .pointer (some ⟨gc, 2, none⟩) := hV.get 54 (by decide +kernel)
      have cc : w1.cell? ⟨gc, 2, none⟩ = some (.string ⟨b2.toArray⟩) := (cell_of_row w1 gc 2 _ 30 (0, 0) ((hG.block _ X6l).trans X6.out)).trans HY2.out
      exact ⟨.string ⟨b2.toArray⟩, w1, (wanted_of (t := 53) rfl rfl (hV.get 53 (by decide +kernel))), by simp [execOp, go_sem, h54, cc], Below.refl _ _, rfl⟩
    refine OweAll.cons (owesK rfl rfl fun a w1 ha hG hV => ?_) ?_
    · skip
      have h1 := ha.outer 1 (by decide +kernel)
      simp only [Act.eval] at h1
      exact ⟨.pointer (some ⟨ga, 2, none⟩), w1, (wanted_of (t := 53) rfl rfl (hV.get 53 (by decide +kernel))), by simp [execOp, go_sem, h1], Below.refl _ _, rfl⟩
    refine OweAll.cons (owesK rfl rfl fun a w1 ha hG hV => ?_) ?_
    · skip
      have h56 : a.tmps.getD 56 undef = .pointer (some ⟨ga, 2, none⟩) := hV.get 56 (by decide +kernel)
      have cc : w1.cell? ⟨ga, 2, none⟩ = some (.string ⟨b2.toArray⟩) := (cell_of_row w1 ga 2 _ 30 (0, 0) ((hG.block _ X1l).trans X1.out)).trans HC2.out
      exact ⟨.string ⟨b2.toArray⟩, w1, (wanted_of (t := 53) rfl rfl (hV.get 53 (by decide +kernel))), by simp [execOp, go_sem, h56, cc], Below.refl _ _, rfl⟩
    refine OweAll.cons (owesK rfl rfl fun a w1 ha hG hV => ?_) ?_
    · skip
      have h55 : a.tmps.getD 55 undef = .string ⟨b2.toArray⟩ := hV.get 55 (by decide +kernel)
      have h57 : a.tmps.getD 57 undef = .string ⟨b2.toArray⟩ := hV.get 57 (by decide +kernel)
      exact ⟨Value.bool true, w1, (wanted_of (t := 53) rfl rfl (hV.get 53 (by decide +kernel))), by simp [execOp, go_sem, h55, h57], Below.refl _ _, rfl⟩
    refine OweAll.cons (owesK rfl rfl fun a w1 ha hG hV => ?_) ?_
    · skip
      have h53 : a.tmps.getD 53 undef = Value.bool true := hV.get 53 (by decide +kernel)
      have h58 : a.tmps.getD 58 undef = Value.bool true := hV.get 58 (by decide +kernel)
      exact ⟨Value.bool true, w1, wanted_free rfl, by simp [execOp, go_sem, h53, h58], Below.refl _ _, rfl⟩
    refine OweAll.cons (owesK rfl rfl fun a w1 ha hG hV => ?_) ?_
    · skip
      have h59 : a.tmps.getD 59 undef = Value.bool true := hV.get 59 (by decide +kernel)
      exact ⟨Value.bool true, w1, wanted_free rfl, by simp [execOp, go_sem, h59], Below.refl _ _, rfl⟩
    exact OweAll.nil
    ) ?_
  intro f wz hG hv
  have e0 : f 0 = Value.bool true := hv 30 _ 0 rfl rfl
  rename_i hK
  refine hK _ _ ?_
  clear hK hv
  simp only [dsts, puts, List.filterMap_cons, List.filterMap_nil, List.foldl_cons, List.foldl_nil, Act.put, List.setIfInBounds_toArray, List.set_cons_succ, List.set_cons_zero, e0]
  clear e0
  have HB := Lib.hid (B13.out.trans (hG.mono B13.out.size))
  clear hG
  go_wp2_with fail
  go_ret
  exact ⟨rfl, HB.out⟩
end Go.Proofs.YtmodikcghlbigaaDoor

namespace Go.Proofs.YtmodikcghlbigaaDoor
open Go.ChangeShapes Go.WideShapes Go.ChangeAt Go.RowKit Go.Deep

theorem cell_block {w : World} {a : Addr} {v : Value} (h : w.cell? a = some v) : a.block < w.heap.size := by
  unfold World.cell? at h
  apply Nat.lt_of_not_le; intro hle
  rw [Array.getElem?_eq_none hle] at h
  simp at h

theorem okWide_array {P : Program} {w : World} {r : Reach} {base : Nat} {t : TypeId} {v : Value} {n : Nat} {e : TypeId} (ht : P.underlying t = some (.array n e)) (h : Value.okWide P w r base t v) : ∃ cs, v = .agg cs ∧ cs.size = P.cellsOf t := by
  unfold Value.okWide at h
  simp only [ht] at h
  cases v <;> simp at h
  exact ⟨_, rfl, h.1⟩

set_option maxRecDepth 20000 in
theorem open_a32 {H : Type} {enc : TypeId × Value → H} {W : World} {base : Nat} {v : Value} {d : DataW H} {ps : List MemPlace} (hval : Value.okWide Tryd.prog W .any base 38 v) (h : DataW.Trod enc Tryd.prog W 0 (fun _ => true) true 38 v d ps) :
    ∃ A : List Nat, v = .agg (nums .u8 A).toArray ∧ A.length = 32 ∧ ∀ x ∈ A, x < 256 := by
  obtain ⟨cs, rfl, _⟩ := okWide_array Tryd.underlying38 hval
  obtain ⟨fuel, hf⟩ := h
  obtain ⟨xs, m, _, _, hl, hx, hi⟩ := DataW.trod_array Tryd.underlying38 hf
  have hc : Tryd.prog.cellsOf 5 = 1 := by kernel_rfl
  have hct : Tryd.prog.cellsOf 38 = 32 := by kernel_rfl
  simp only [Value.cells, hct] at hl
  simp only [Value.cells, hc, Nat.mul_one] at hi
  have hcl : cs.size = 32 := by simpa using hl
  have hj : ∀ i, i < 32 → ∃ s : Nat, cs.toList[i]? = some (.int .u8 (s : Int)) ∧ s < 256 := by
    intro i h32
    have h1 := hi i h32
    rw [List.getElem?_eq_getElem (by omega)] at h1
    obtain ⟨N, hN, _, hw⟩ := DataW.trod_int Tryd.underlying5 h1
    have hb := bounds_u8 hw
    refine ⟨N.toNat, ?_, by omega⟩
    have h2 : cs.toList[i]? = some (.int .u8 N) := by
      have := congrArg (·[0]?) hN
      simpa [List.getElem?_take, List.getElem?_drop] using this
    rw [h2, Int.toNat_of_nonneg hb.1]
  obtain ⟨f, hf2⟩ := choose_lt hj
  refine ⟨(List.range 32).map f, ?_, by simp, ?_⟩
  · congr 1
    apply Array.ext'
    apply List.ext_getElem?
    intro i
    by_cases h32 : i < 32
    · rw [(hf2 i h32).1]; simp [nums, h32]
    · rw [List.getElem?_eq_none (by simp; omega), List.getElem?_eq_none (by simp [nums]; omega)]
  · intro x hx
    obtain ⟨i, hi', rfl⟩ := List.mem_map.1 hx
    exact (hf2 i (List.mem_range.1 hi')).2

set_option maxRecDepth 20000 in
theorem open_texts {H : Type} {enc : TypeId × Value → H} {W : World} {base : Nat} {v : Value} {d : DataW H} {ps : List MemPlace} (hval : Value.okWide Tryd.prog W .any base 93 v) (h : DataW.Trod enc Tryd.prog W 0 (fun _ => true) true 93 v d ps) :
    ∃ ao cap L, v = .slice ao L.length cap ∧ Rd encS W ao L ∧ (∀ s ∈ L, (s.length : Int) ≤ 9223372036854775807) ∧ L.length ≤ 9223372036854775807 ∧ L.length ≤ cap := by
  obtain ⟨a, len, cap, rfl⟩ := okWide_slice Tryd.underlying93 hval
  obtain ⟨fuel, hf⟩ := h
  rcases open_strings Tryd.underlying93 Tryd.underlying9 (by kernel_rfl) hf with ⟨hc, _⟩ | ⟨a', len', cap', ss, hc, _, hl, hm, hss, _, hcell, hsz⟩
  · have hc2 : [Value.slice a len cap] = [Value.slice none 0 0] := hc
    simp only [List.cons.injEq, Value.slice.injEq, and_true] at hc2
    obtain ⟨rfl, rfl, rfl⟩ := hc2
    exact ⟨none, 0, [], rfl, Rd.nil _ _, fun s hs => by simp at hs, Nat.zero_le _, Nat.le_refl _⟩
  · have hc2 : [Value.slice a len cap] = [Value.slice (some a') len' cap'] := hc
    simp only [List.cons.injEq, Value.slice.injEq, and_true] at hc2
    obtain ⟨rfl, rfl, rfl⟩ := hc2
    simp only [if_true] at hss
    have hlen : (ss.take len).length = len := by rw [List.length_take]; omega
    refine ⟨some a', cap, (ss.take len).map (fun (b : ByteArray) => b.data.toList), by rw [List.length_map, hlen], ?_, ?_, ?_, ?_⟩
    · intro j hj
      have hjl : j < len := by rw [List.length_map, hlen] at hj; exact hj
      have hc0 := hcell 0 (by omega)
      obtain ⟨bs, off, spot⟩ := a'
      have hspot : spot = none := by simpa [Addr.add] using World.cell?_spot hc0
      subst hspot
      have hcj := hcell j (by omega)
      refine ⟨bs, off, rfl, cell_block (by simpa [Addr.add_lit] using hcj), fun i u hu => ?_⟩
      have hi0 : i = 0 := by
        have := (List.getElem?_eq_some_iff.1 hu).1
        simp [encS] at this; exact this
      subst hi0
      simp only [encS, List.getElem?_cons_zero, Option.some.injEq] at hu
      subst hu
      have e : (ss.getD j ByteArray.empty) = ⟨(((ss.take len).map (fun (b : ByteArray) => b.data.toList))[j]'hj).toArray⟩ := by
        rw [List.getElem_map, List.getElem_take]
        simp [List.getD, List.getElem?_eq_getElem (show j < ss.length by omega)]
      rw [← e]
      simpa [Addr.add_lit, encS] using hcj
    · intro s hs
      obtain ⟨b, hb, rfl⟩ := List.mem_map.1 hs
      have := hsz b (List.mem_of_mem_take hb)
      unfold maxLen at this
      have e : b.data.toList.length = b.size := rfl
      omega
    · unfold maxLen at hm; rw [List.length_map, hlen]; omega
    · rw [List.length_map, hlen]; exact hl

set_option maxRecDepth 20000 in
theorem tab_of_laid {W : World} (h : laidMetH Tryd.prog [("coxswain/digest.roundWords", Rows.laid_coxswain_digest_roundWords)] W) : TabAt W := by
  have h2 : laidMet Tryd.prog (("coxswain/digest.roundWords", Lib.tabData .u32 (kTab.map fun (x : Nat) => (x : Int))) :: []) W := (laidMetH_iff.1 h).1
  have h3 := Lib.tabIs_of_head (g := 0) (t := 119) (e := 94) (n := 64) (by kernel_rfl) (by kernel_rfl) Tryd.underlying119 Tryd.underlying94 (by kernel_rfl) (by kernel_rfl) h2
  intro i hi
  have hi2 : i < kTab.length := by rw [kTab_len]; exact hi
  have := h3.cell (g := 0) (by kernel_rfl) i (by simpa using hi2)
  rw [this]
  simp [List.getD, hi2]
end Go.Proofs.YtmodikcghlbigaaDoor

namespace Go.Proofs.YtmodikcghlbigaaDoor
open Go.ChangeShapes Go.WideShapes Go.ChangeAt Go.RowKit Go.Deep

set_option maxRecDepth 20000 in
theorem open_ints1 {H : Type} {enc : TypeId × Value → H} {W : World} {v : Value} {fuel : Nat} {x : DataW H × List MemPlace} (hf : DataW.trod enc Tryd.prog W 0 (fun _ => true) true fuel 22 [v] = some x) :
    ∃ ao cap S, v = .slice ao S.length cap ∧ Rd encI W ao S ∧ S.length ≤ cap := by
  rcases open_slice1 Tryd.underlying22 (by kernel_rfl) hf with ⟨hc, _⟩ | ⟨a', len', cap', m, k, V, D, Pl, hc, _, hl, _, hmm, _, hall⟩
  · have hc2 : [v] = [Value.slice none 0 0] := hc
    simp only [List.cons.injEq, and_true] at hc2
    subst hc2
    exact ⟨none, 0, [], rfl, Rd.nil _ _, Nat.le_refl _⟩
  · have hc2 : [v] = [Value.slice (some a') len' cap'] := hc
    simp only [List.cons.injEq, and_true] at hc2
    subst hc2
    simp only [if_true] at hmm
    subst hmm
    have hj : ∀ i, i < len' → ∃ s : Int, V i = .int .i64 s := by
      intro i hi
      obtain ⟨N, h1, _, _⟩ := DataW.trod_int Tryd.underlying3 (hall i (by omega)).2
      simp only [List.cons.injEq, and_true] at h1
      exact ⟨N, h1⟩
    obtain ⟨f, hf2⟩ := choose_lt hj
    refine ⟨some a', m, (List.range len').map f, by simp, ?_, by simpa using hl⟩
    intro j hjl
    have hjn : j < len' := by simpa using hjl
    obtain ⟨bs, off, spot⟩ := a'
    have hspot : spot = none := by simpa [Addr.add] using World.cell?_spot (hall 0 (by omega)).1
    subst hspot
    have e0 := hf2 j hjn
    obtain ⟨c0, _⟩ := hall j (by omega)
    rw [e0] at c0
    have c0' : W.cell? ⟨bs, off + j, none⟩ = some (.int .i64 (f j)) := by simpa [Addr.add_lit] using c0
    refine ⟨bs, off, rfl, cell_block c0', fun i u hu => ?_⟩
    have hi0 : i = 0 := by
      have := (List.getElem?_eq_some_iff.1 hu).1
      simp [encI] at this; exact this
    subst hi0
    simp only [encI, List.getElem?_cons_zero, Option.some.injEq] at hu
    subst hu
    simpa [encI] using c0'
set_option maxRecDepth 20000 in
theorem open_ents1 {H : Type} {enc : TypeId × Value → H} {W : World} {v : Value} {fuel : Nat} {x : DataW H × List MemPlace} (hf : DataW.trod enc Tryd.prog W 0 (fun _ => true) true fuel 23 [v] = some x) :
    ∃ ao cap L, v = .slice ao L.length cap ∧ Rd encP W ao L ∧ L.length ≤ cap := by
  rcases open_slice_pairs Tryd.underlying23 Tryd.underlying75 (by kernel_rfl) rfl rfl (by kernel_rfl) (by kernel_rfl) hf with ⟨hc, _⟩ | ⟨a', len', cap', m, k, V0, V1, D0, D1, P0, P1, hc, _, hl, _, hmm, _, hall⟩
  · have hc2 : [v] = [Value.slice none 0 0] := hc
    simp only [List.cons.injEq, and_true] at hc2
    subst hc2
    exact ⟨none, 0, [], rfl, Rd.nil _ _, Nat.le_refl _⟩
  · have hc2 : [v] = [Value.slice (some a') len' cap'] := hc
    simp only [List.cons.injEq, and_true] at hc2
    subst hc2
    simp only [if_true] at hmm
    subst hmm
    have hj : ∀ i, i < len' → ∃ s : Int × Int, V0 i = .int .i64 s.1 ∧ V1 i = .int .i64 s.2 := by
      intro i hi
      obtain ⟨N, h1, _, _⟩ := DataW.trod_int Tryd.underlying3 (hall i (by omega)).2.2.1
      obtain ⟨M, h2, _, _⟩ := DataW.trod_int Tryd.underlying3 (hall i (by omega)).2.2.2
      simp only [List.cons.injEq, and_true] at h1 h2
      exact ⟨(N, M), h1, h2⟩
    obtain ⟨f, hf2⟩ := choose_lt hj
    refine ⟨some a', m, (List.range len').map f, by simp, ?_, by simpa using hl⟩
    intro j hjl
    have hjn : j < len' := by simpa using hjl
    obtain ⟨bs, off, spot⟩ := a'
    have hspot : spot = none := by simpa [Addr.add] using World.cell?_spot (hall 0 (by omega)).1
    subst hspot
    obtain ⟨e0, e1⟩ := hf2 j hjn
    obtain ⟨c0, c1, _⟩ := hall j (by omega)
    rw [e0] at c0
    rw [e1] at c1
    have c0' : W.cell? ⟨bs, off + j * 2, none⟩ = some (.int .i64 (f j).1) := by simpa [Addr.add_lit] using c0
    have c1' : W.cell? ⟨bs, off + j * 2 + 1, none⟩ = some (.int .i64 (f j).2) := by simpa [Addr.add_lit, Nat.add_assoc] using c1
    refine ⟨bs, off, rfl, cell_block c0', fun i u hu => ?_⟩
    have e : ((List.range len').map f)[j] = f j := by simp
    rw [e] at hu
    have hi2 : i < 2 := by
      have := (List.getElem?_eq_some_iff.1 hu).1
      simpa [encP] using this
    show W.cell? ⟨bs, off + j * 2 + i, none⟩ = some u
    match i, hi2 with
    | 0, _ =>
      simp only [encP, List.getElem?_cons_zero, Option.some.injEq] at hu
      subst hu; exact c0'
    | 1, _ =>
      simp only [encP, List.getElem?_cons_succ, List.getElem?_cons_zero, Option.some.injEq] at hu
      subst hu; exact c1'
set_option maxRecDepth 20000 in
theorem open_rcert {H : Type} {enc : TypeId × Value → H} {W : World} {base : Nat} {v : Value} {d : DataW H} {ps : List MemPlace} (hval : Value.okWide Tryd.prog W .any base 25 v) (h : DataW.Trod enc Tryd.prog W 0 (fun _ => true) true 25 v d ps) :
    ∃ (X : Ct) (p q : Option Addr) (cp cq : Nat), v = .agg (ctc X p q cp cq) ∧ CtAt W X p q ∧ X.sg.length ≤ cp ∧ X.ch.length ≤ cq ∧ (X.base.length : Int) ≤ 9223372036854775807 ∧ (X.fin.length : Int) ≤ 9223372036854775807 := by
  obtain ⟨cs, rfl, hsz⟩ := okWide_struct Tryd.underlying25 hval
  obtain ⟨l⟩ := cs
  have h5 : Tryd.prog.cellsOf 25 = 5 := by kernel_rfl
  have ki : Tryd.prog.cellsOf 3 = 1 := by kernel_rfl
  have ks : Tryd.prog.cellsOf 9 = 1 := by kernel_rfl
  have ku : Tryd.prog.cellsOf 22 = 1 := by kernel_rfl
  have kt : Tryd.prog.cellsOf 23 = 1 := by kernel_rfl
  match l, hsz.trans h5 with
  | [c0, c1, c2, c3, c4], _ =>
    obtain ⟨fuel, hf⟩ := h
    obtain ⟨xs, n, _, _, _, hlen, hg⟩ := DataW.trod_struct Tryd.underlying25 hf
    match xs, hlen with
    | [y0, y1, y2, y3, y4], _ =>
      have g0 := hg 0 _ rfl
      have g1 := hg 1 _ rfl
      have g2 := hg 2 _ rfl
      have g3 := hg 3 _ rfl
      have g4 := hg 4 _ rfl
      simp [Value.cells, ki, ks, ku, kt] at g0 g1 g2 g3 g4
      obtain ⟨n0, e0, _, w0⟩ := DataW.trod_int Tryd.underlying3 g0
      obtain ⟨s1, e1, _, w1⟩ := DataW.trod_string Tryd.underlying9 g1
      obtain ⟨s2, e2, _, w2⟩ := DataW.trod_string Tryd.underlying9 g2
      obtain ⟨p, cp, S, rfl, hS, hSc⟩ := open_ints1 g3
      obtain ⟨q, cq, E, rfl, hE, hEc⟩ := open_ents1 g4
      simp only [List.cons.injEq, and_true] at e0 e1 e2
      subst e0 e1 e2
      refine ⟨⟨n0, s1.data.toList, s2.data.toList, S, E⟩, p, q, cp, cq, rfl, ⟨hS, hE⟩, hSc, hEc, ?_, ?_⟩
      · unfold maxLen at w1
        have e : s1.data.toList.length = s1.size := rfl
        simp only; omega
      · unfold maxLen at w2
        have e : s2.data.toList.length = s2.size := rfl
        simp only; omega
end Go.Proofs.YtmodikcghlbigaaDoor
