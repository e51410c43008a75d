/- Texts 4: what the laws lean on. -/
import Derived.Test.YtpbcglepecojmaaVDmi1
import Derived.Test.YtpbcglepecojmaaVDmi3
import Derived.Laws.OwnMore
import Derived.ChangeArms
import Derived.Deep.SlicePairs
import Derived.BigQuiet
import Derived.Deep.MidRow
namespace Go.Proofs.Ytpbcglepecojmaa.CW
open Go

section
variable {P : Program} {ops : Array Oper} {Q : Exit → Act → World → Prop} {md : Region.Mode} {V : Tmp → Value → World → Prop} {G : Nat → Value → World → Prop} {C : List Nat} {a0 : Act}

/-- What one operation owes while k of the chain are done, k' behind it. -/
def OwesAt (P : Program) (md : Region.Mode) (ops : Array Oper) (Q : Exit → Act → World → Prop) (V : Tmp → Value → World → Prop) (G : Nat → Value → World → Prop) (C : List Nat) (a0 : Act) (i : Nat) (o : Oper) (k : Nat) : Prop :=
  ∀ a w x, AgreeC ops C k a0 a → G k x w → AllV V a w (waits md ops o) →
    wpOp P ops Q i (fun a' w' => ∃ v, a' = a.put o.dst v ∧ (∀ t, o.dst = some t → V t v w') ∧ G k x w' ∧ (∀ t u, V t u w → V t u w')) a w
/-- What the chain's operation m owes. -/
def OwesIn (P : Program) (md : Region.Mode) (ops : Array Oper) (Q : Exit → Act → World → Prop) (V : Tmp → Value → World → Prop) (G : Nat → Value → World → Prop) (C : List Nat) (a0 : Act) (i : Nat) (o : Oper) (m : Nat) : Prop :=
  ∀ a w x, AgreeC ops C m a0 a → G m x w → Holds' ops C a m x → AllV V a w (waits md ops o) →
    wpOp P ops Q i (fun a' w' => ∃ v, a' = a.put o.dst v ∧ (∀ t, o.dst = some t → V t v w') ∧ G (m + 1) v w' ∧ (∀ t u, V t u w → V t u w')) a w
def OwesC (P : Program) (md : Region.Mode) (ops : Array Oper) (Q : Exit → Act → World → Prop) (V : Tmp → Value → World → Prop) (G : Nat → Value → World → Prop) (C : List Nat) (a0 : Act) (i : Nat) (o : Oper) : Prop :=
  (∃ m, C[m]? = some i ∧ OwesIn P md ops Q V G C a0 i o m) ∨ (C.contains i = false ∧ ∃ b, aheadOf md ops C i b = true ∧ ∀ k, k ≤ b → OwesAt P md ops Q V G C a0 i o k)

/-- What is known while the region goes. -/
structure ChainAt (md : Region.Mode) (ops : Array Oper) (V : Tmp → Value → World → Prop) (G : Nat → Value → World → Prop) (C : List Nat) (a0 : Act) (L : Array Bool) (a : Act) (w : World) (k : Nat) (x : Value) : Prop where
  g : G k x w
  ho : Holds' ops C a k x
  le : k ≤ C.length
  ch : ∀ (m i : Nat), C[m]? = some i → (L.getD i true = true ↔ m < k)
  cl : ∀ (i : Nat) (o : Oper), ops[i]? = some o → L.getD i true = true → ∀ e ∈ o.after, Region.binds md e = true → L.getD e.on false = true
  ag : Agree ops a0 a
  kp : ∀ (i : Nat) (o : Oper) (t : Tmp), ops[i]? = some o → L.getD i true = false → o.dst = some t → a.eval (.tmp t) = a0.eval (.tmp t)
  v : ∀ (i : Nat) (o : Oper) (t : Tmp), ops[i]? = some o → L.getD i true = true → o.dst = some t → V t (a.eval (.tmp t)) w

theorem ChainAt.agc {L : Array Bool} {a : Act} {w : World} {k : Nat} {x : Value} (h : ChainAt md ops V G C a0 L a w k x) : AgreeC ops C k a0 a :=
  ⟨h.ag, fun m i o t hm hi ho ht => h.kp i o t ho (by
    cases hl : L.getD i true with
    | false => rfl
    | true => exact absurd ((h.ch m i hi).1 hl) (by omega)) ht⟩
theorem wpAny_chain (hok : DrawOk ops a0.tmps.size) (hch : chainOk md ops C = true) (hnd : C.Nodup) (hCl : ∀ i ∈ C, i < ops.size) (step : ∀ (i : Nat) (o : Oper), ops[i]? = some o → OwesC P md ops Q V G C a0 i o)
    (fin : ∀ a w x, Agree ops a0 a → G C.length x w → Holds' ops C a C.length x → (∀ (i : Nat) (o : Oper) (t : Tmp), ops[i]? = some o → o.dst = some t → V t (a.eval (.tmp t)) w) → Q .normal a w) :
    ∀ (fuel : Nat) (L : Array Bool) (a : Act) (w : World) (k : Nat) (x : Value), unl L ops.size ≤ fuel → L.size = ops.size → ChainAt md ops V G C a0 L a w k x → wpAny P md ops Q fuel L a w := by
  have allL : ∀ L : Array Bool, L.size = ops.size → Region.ready md ops L = [] → ∀ (i : Nat) (o : Oper), ops[i]? = some o → L.getD i true = true := by
    intro L hL hr i o ho
    cases hc : L.getD i true with
    | true => rfl
    | false =>
      obtain ⟨j, hj⟩ := ready_some (md := md) hok hL i (Array.getElem?_eq_some_iff.1 ho).1 hc
      rw [hr] at hj; cases hj
  have done : ∀ (L : Array Bool) (a : Act) (w : World) (k : Nat) (x : Value), L.size = ops.size → ChainAt md ops V G C a0 L a w k x → Region.ready md ops L = [] → Q .normal a w := by
    intro L a w k x hL h hr
    have hk : k = C.length := by
      refine Nat.le_antisymm h.le (Nat.le_of_not_lt fun hlt => ?_)
      have hm : C[k]? = some C[k] := List.getElem?_eq_getElem hlt
      have hi := hCl _ (List.getElem_mem hlt)
      exact Nat.lt_irrefl _ ((h.ch k _ hm).1 (allL L hL hr _ _ (Array.getElem?_eq_getElem hi)))
    subst hk
    exact fin a w x h.ag h.g h.ho (fun i o t ho ht => h.v i o t ho (allL L hL hr i o ho) ht)
  intro fuel
  induction fuel with
  | zero =>
    intro L a w k x hu hL h
    have hr : Region.ready md ops L = [] := by
      apply List.eq_nil_iff_forall_not_mem.2
      intro j hj
      obtain ⟨hun, o, ho, _⟩ := mem_ready.1 hj
      have := unl_pos L ops.size j (Array.getElem?_eq_some_iff.1 ho).1 hun
      omega
    exact ⟨hr, done L a w k x hL h hr⟩
  | succ fuel ih =>
    intro L a w k x hu hL h
    refine ⟨fun hr => done L a w k x hL h hr, fun i hi => ?_⟩
    obtain ⟨hun, o, ho, hall⟩ := mem_ready.1 hi
    have hil : i < ops.size := (Array.getElem?_eq_some_iff.1 ho).1
    have hw : AllV V a w (waits md ops o) := AllV.of (by
      intro t ht
      unfold waits at ht
      obtain ⟨e, he, hd⟩ := List.mem_filterMap.1 ht
      obtain ⟨he1, he2⟩ := List.mem_filter.1 he
      cases hj : ops[e.on]? with
      | none => rw [hj] at hd; cases hd
      | some p =>
        rw [hj] at hd
        have hl := hall e (by simpa using he1) he2
        exact h.v e.on p t hj (by rw [getD_tf hL (Array.getElem?_eq_some_iff.1 hj).1]; exact hl) hd)
    -- what follows, with k' of the chain done
    have next : ∀ (k' : Nat) (y : Value → Value), k' ≤ C.length → (∀ v, Holds' ops C (a.put o.dst v) k' (y v)) → (∀ (m j : Nat), C[m]? = some j → ((L.setIfInBounds i true).getD j true = true ↔ m < k')) →
        wpOp P ops Q i (fun a' w' => ∃ v, a' = a.put o.dst v ∧ (∀ t, o.dst = some t → V t v w') ∧ G k' (y v) w' ∧ (∀ t u, V t u w → V t u w')) a w → wpOp P ops Q i (fun a' w' => wpAny P md ops Q fuel (L.setIfInBounds i true) a' w') a w := by
      intro k' y hk' hho hch' hop
      refine wpOp_mono (fun a' w' hh => ?_) hop
      obtain ⟨v, rfl, hvi, hG', hpres⟩ := hh
      refine ih _ _ _ k' (y v) ?_ (by simpa using hL) ⟨hG', hho v, hk', hch', ?_, ?_, ?_, ?_⟩
      · have := unl_set L i hun ops.size
        rw [if_pos hil] at this; omega
      · intro j p hp hl e he hb
        by_cases hji : j = i
        · subst hji
          rw [ho] at hp; cases hp
          have := hall e he hb
          by_cases hei : e.on = j
          · rw [hei, getD_set_at (by omega)]
          · rw [getD_set_ne' hei]; exact this
        · rw [getD_set_ne' hji] at hl
          have := h.cl j p hp hl e he hb
          by_cases hei : e.on = i
          · rw [hei, getD_set_at (by omega)]
          · rw [getD_set_ne' hei]; exact this
      · refine ⟨by rw [size_put]; exact h.ag.size, by rw [defers_put]; exact h.ag.defers, fun t ht => ?_⟩
        rw [Act.eval_put (fun d hd e => ht i o ho (by cases e; exact hd))]
        exact h.ag.same t ht
      · intro j p t hp hl ht
        have e : j ≠ i := by
          rintro rfl
          rw [getD_set_at (by omega)] at hl; cases hl
        rw [Act.eval_put (fun d hd e2 => by cases e2; exact hok.apart i j o p t ho hp e hd ht)]
        rw [getD_set_ne' e] at hl
        exact h.kp j p t hp hl ht
      · intro j p t hp hl ht
        by_cases e : j = i
        · subst e
          rw [ho] at hp; cases hp
          rw [ht, eval_put_same (by rw [h.ag.size]; exact hok.room j o t ho ht)]
          exact hvi t ht
        · rw [Act.eval_put (fun d hd e2 => by cases e2; exact hok.apart i j o p t ho hp e hd ht)]
          rw [getD_set_ne' e] at hl
          exact hpres _ _ (h.v j p t hp hl ht)
    rcases step i o ho with ⟨m, hm, hop⟩ | ⟨hni, b, hb, hop⟩
    · have hmk : m = k := by
        have h1 : ¬ m < k := fun hlt => by rw [(h.ch m i hm).2 hlt] at hun; cases hun
        have h2 : m ≤ k := by
          cases m with
          | zero => exact Nat.zero_le _
          | succ m =>
            have hlt : m < C.length := by have := (List.getElem?_eq_some_iff.1 hm).1; omega
            have hj : C[m]? = some C[m] := List.getElem?_eq_getElem hlt
            obtain ⟨e, he, hbd, hon⟩ := chain_edge hch hj hm ho
            have := hall e he hbd
            rw [hon] at this
            exact (h.ch m _ hj).1 (by rw [getD_tf hL (hCl _ (List.getElem_mem hlt))]; exact this)
        omega
      subst hmk
      have hmlt : m < C.length := (List.getElem?_eq_some_iff.1 hm).1
      refine next (m + 1) (fun v => v) hmlt ?_ ?_ (hop a w x h.agc h.g h.ho hw)
      · intro v m2 j p t hm2 hj hp ht
        obtain rfl : m2 = m := by omega
        rw [hm] at hj; cases hj
        rw [ho] at hp; cases hp
        rw [ht, eval_put_same (by rw [h.ag.size]; exact hok.room i o t ho ht)]
      intro m2 j hj
      by_cases hji : j = i
      · subst hji
        have : m2 = m := by
          obtain ⟨l2, e2⟩ := List.getElem?_eq_some_iff.1 hj
          obtain ⟨l1, e1⟩ := List.getElem?_eq_some_iff.1 hm
          exact (List.getElem_inj hnd).1 (e2.trans e1.symm)
        subst this
        rw [getD_set_at (by omega)]
        exact ⟨fun _ => Nat.lt_succ_self _, fun _ => rfl⟩
      · rw [getD_set_ne' hji, h.ch m2 j hj]
        have : m2 ≠ m := by
          rintro rfl
          rw [hm] at hj; cases hj; exact hji rfl
        omega
    · have hkb : k ≤ b := by
        unfold aheadOf at hb
        rw [Bool.or_eq_true, beq_iff_eq] at hb
        rcases hb with rfl | hb
        · exact h.le
        · cases hj : C[b]? with
          | none => rw [hj] at hb; cases hb
          | some j =>
            rw [hj] at hb
            simp only at hb
            refine Nat.le_of_not_lt fun hlt => ?_
            have := reach_done h.cl 16 j i hb ((h.ch b j hj).2 hlt)
            rw [← getD_tf hL hil, hun] at this
            cases this
      refine next k (fun _ => x) h.le ?_ ?_ (hop k hkb a w x h.agc h.g hw)
      · intro v m2 j p t hm2 hj hp ht
        have hji : j ≠ i := by
          rintro rfl
          have := List.mem_of_getElem? hj
          rw [List.contains_eq_mem, decide_eq_false_iff_not] at hni
          exact hni this
        rw [Act.eval_put (fun d hd e2 => by cases e2; exact hok.apart i j o p t ho hp hji hd ht)]
        exact h.ho m2 j p t hm2 hj hp ht
      intro m2 j hj
      have hji : j ≠ i := by
        rintro rfl
        have := List.mem_of_getElem? hj
        rw [List.contains_eq_mem, decide_eq_false_iff_not] at hni
        exact hni this
      rw [getD_set_ne' hji, h.ch m2 j hj]

/-- The obligations one after the other. -/
def OweAllC (P : Program) (md : Region.Mode) (ops : Array Oper) (Q : Exit → Act → World → Prop) (V : Tmp → Value → World → Prop) (G : Nat → Value → World → Prop) (C : List Nat) (a0 : Act) : Nat → List Oper → Prop
  | _, [] => True
  | k, o :: r => OwesC P md ops Q V G C a0 k o ∧ OweAllC P md ops Q V G C a0 (k + 1) r
theorem OweAllC.get : ∀ {l : List Oper} {k : Nat}, OweAllC P md ops Q V G C a0 k l → ∀ (i : Nat) (o : Oper), l[i]? = some o → OwesC P md ops Q V G C a0 (k + i) o
  | _ :: _, k, h, 0, o, hi => by cases hi; exact h.1
  | _ :: r, k, h, i + 1, o, hi => by
    have := OweAllC.get h.2 i o (by simpa using hi)
    rwa [show k + 1 + i = k + (i + 1) by omega] at this
  | [], _, _, i, o, hi => by simp at hi
theorem OweAllC.cons {k : Nat} {o : Oper} {r : List Oper} (h : OwesC P md ops Q V G C a0 k o) (h2 : OweAllC P md ops Q V G C a0 (k + 1) r) : OweAllC P md ops Q V G C a0 k (o :: r) := ⟨h, h2⟩
theorem OweAllC.nil {k : Nat} : OweAllC P md ops Q V G C a0 k [] := trivial

theorem wp_region_chain {id : Nat} {w : World} (V : Tmp → Value → World → Prop) (G : Nat → Value → World → Prop) (C : List Nat) (N : Nat) (hm : P.follows .mixedOrders = true) (hok : drawOk ops N = true) (hN : a0.tmps.size = N)
    (hch : chainOk .any ops C = true) (hnd : decide C.Nodup = true) (hCl : C.all (· < ops.size) = true) (hG : G 0 undef w.drew)
    (step : OweAllC P .any ops Q V G C a0 0 ops.toList)
    (fin : ∀ f w x, G C.length x w → (∀ (m i : Nat) (o : Oper) (t : Tmp), C.length = m + 1 → C[m]? = some i → ops[i]? = some o → o.dst = some t → f t = x) → (∀ (i : Nat) (o : Oper) (t : Tmp), ops[i]? = some o → o.dst = some t → V t (f t) w) → Q .normal (puts f (dsts ops) a0) w) : (Code.region id ops true).wp P Q a0 w := by
  subst hN
  have hok := drawOk_spec hok
  have hCl' : ∀ i ∈ C, i < ops.size := fun i hi => by simpa using List.all_eq_true.1 hCl i hi
  have hL0 : ∀ i, i < ops.size → (Array.replicate ops.size false).getD i true = false := fun i hi => by simp [hi]
  refine wp_region_any hm (wpAny_chain (V := V) (G := G) (C := C) hok hch (of_decide_eq_true hnd) hCl' (fun i o ho => ?_) (fun a w x ha hg hh hv => ?_) ops.size _ a0 _ 0 undef (unl_le _ _) (by simp) ⟨hG, (fun m i o t h => by omega), Nat.zero_le _, ?_, ?_, ⟨rfl, rfl, fun _ _ => rfl⟩, (fun _ _ _ _ _ _ => rfl), ?_⟩)
  · have := step.get i o (by simpa using ho)
    rwa [Nat.zero_add] at this
  · rw [ha.puts hok]
    exact fin _ w x hg hh hv
  · intro m i hi
    have := hCl' i (List.mem_of_getElem? hi)
    rw [hL0 i this]
    simp
  · intro i o ho hl
    rw [hL0 i (Array.getElem?_eq_some_iff.1 ho).1] at hl; cases hl
  · intro i o t ho hl _
    rw [hL0 i (Array.getElem?_eq_some_iff.1 ho).1] at hl; cases hl

/-- An operation beside the chain that yields a value and turns nothing. -/
theorem owesC_val {i : Nat} {o : Oper} {t : Tmp} (b : Nat) (hb : aheadOf md ops C i b = true) (hni : C.contains i = false) (hi : ops[i]? = some o) (ht : o.dst = some t)
    (h : ∀ k a w x, k ≤ b → AgreeC ops C k a0 a → G k x w → AllV V a w (waits md ops o) → ∃ v, Region.wanted o (yielded ops a.tmps) = true ∧ (execOp a.eval o).run P w = .ok (.value v) w ∧ V t v w) : OwesC P md ops Q V G C a0 i o := by
  refine .inr ⟨hni, b, hb, fun k hk a w x ha hG hV => ?_⟩
  obtain ⟨v, hw, hr, hv⟩ := h k a w x hk ha hG hV
  unfold wpOp
  rw [hi]
  simp only [hw, if_true, Oper.wp, hr, Oper.upon]
  exact .inl ⟨v, rfl, fun u hu => by rw [ht] at hu; cases hu; exact hv, hG, fun _ _ h => h⟩
/-- A call of the chain. -/
theorem owesC_call {i : Nat} {o : Oper} {t : Tmp} (m : Nat) (hm : C[m]? = some i) (hi : ops[i]? = some o) (ht : o.dst = some t) (f : FuncId)
    (h : ∀ a w x, AgreeC ops C m a0 a → G m x w → Holds' ops C a m x → AllV V a w (waits md ops o) → ∃ args, Region.wanted o (yielded ops a.tmps) = true ∧ (execOp a.eval o).run P w = .ok (.enter f args) w ∧
      Calls P f args w fun e w' => ∃ v, e = .returned v ∧ V t v w' ∧ G (m + 1) v w' ∧ (∀ t u, V t u w → V t u w')) : OwesC P md ops Q V G C a0 i o := by
  refine .inl ⟨m, hm, fun a w x ha hG hh hV => ?_⟩
  obtain ⟨args, hw, hr, hc⟩ := h a w x ha hG hh hV
  unfold wpOp
  rw [hi]
  simp only [hw, if_true, Oper.wp, hr, Oper.upon]
  refine .inl (hc.mono ?_)
  rintro e w' ⟨v, rfl, h1, h2, h3⟩
  exact ⟨v, rfl, fun u hu => by rw [ht] at hu; cases hu; exact h1, h2, h3⟩
/-- A store of the chain. -/
theorem owesC_store {i : Nat} {o : Oper} (m : Nat) (hm : C[m]? = some i) (hi : ops[i]? = some o) (ht : o.dst = none)
    (h : ∀ a w x, AgreeC ops C m a0 a → G m x w → Holds' ops C a m x → AllV V a w (waits md ops o) → ∃ w', Region.wanted o (yielded ops a.tmps) = true ∧ (execOp a.eval o).run P w = .ok .skip w' ∧ G (m + 1) undef w' ∧ (∀ t u, V t u w → V t u w')) : OwesC P md ops Q V G C a0 i o := by
  refine .inl ⟨m, hm, fun a w x ha hG hh hV => ?_⟩
  obtain ⟨w', hw, hr, h2, h3⟩ := h a w x ha hG hh hV
  unfold wpOp
  rw [hi]
  simp only [hw, if_true, Oper.wp, hr, Oper.upon]
  exact .inl ⟨undef, rfl, fun u hu => (by rw [ht] at hu; cases hu), h2, h3⟩
end
end Go.Proofs.Ytpbcglepecojmaa.CW

namespace Go.Proofs.Ytpbcglepecojmaa.CW
open Go
section
variable {P : Program} {ops : Array Oper} {Q : Exit → Act → World → Prop} {md : Region.Mode} {V : Tmp → Value → World → Prop} {G : Nat → Value → World → Prop} {C : List Nat} {a0 : Act}
/-- An operation beside the chain that yields a value and makes memory. -/
theorem owesC_made {i : Nat} {o : Oper} {t : Tmp} (b : Nat) (hb : aheadOf md ops C i b = true) (hni : C.contains i = false) (hi : ops[i]? = some o) (ht : o.dst = some t)
    (h : ∀ k a w x, k ≤ b → AgreeC ops C k a0 a → G k x w → AllV V a w (waits md ops o) → ∃ v w', Region.wanted o (yielded ops a.tmps) = true ∧ (execOp a.eval o).run P w = .ok (.value v) w' ∧ V t v w' ∧ G k x w' ∧ (∀ t u, V t u w → V t u w')) : OwesC P md ops Q V G C a0 i o := by
  refine .inr ⟨hni, b, hb, fun k hk a w x ha hG hV => ?_⟩
  obtain ⟨v, w', hw, hr, hv, hg, hp⟩ := h k a w x hk ha hG hV
  unfold wpOp
  rw [hi]
  simp only [hw, if_true, Oper.wp, hr, Oper.upon]
  exact .inl ⟨v, rfl, fun u hu => by rw [ht] at hu; cases hu; exact hv, hg, hp⟩
end
end Go.Proofs.Ytpbcglepecojmaa.CW
namespace Go.Proofs.Ytpbcglepecojmaa
open Go.RowKit

theorem zeros_made (n : Nat) : (madeCells (Value.int .u8 0).cells (n * 1)).toList = vals (List.replicate n 0) := by
  unfold madeCells vals
  rw [Nat.mul_one, Array.toList_map, Array.toList_range, List.map_replicate]
  apply List.ext_getElem?
  intro j
  by_cases h : j < n
  · simp [h, Value.cells, Nat.mod_one]
  · simp [h, Value.cells]
theorem make_bytes (w : World) (n : Nat) (hn : n ≤ 1000000) :
    ∃ w', (Instr.makeSlice 54 (.int .i64 (n : Int)) (.int .i64 (n : Int))).run Try.prog w = .ok (.slice (some ⟨w.heap.size, 0, none⟩) n n) w' ∧ Rw encY 5 w' (some ⟨w.heap.size, 0, none⟩) n (List.replicate n 0) ∧ Below w.heap.size w w' := by
  have h := info_u8
  cases hq : Try.prog.info? 5 with
  | none => rw [hq] at h; cases h
  | some i =>
    rw [hq] at h
    simp only [Option.map_some, Option.some.injEq, Prod.mk.injEq] at h
    obtain ⟨hz, h1, h2⟩ := h
    obtain ⟨w', hr, ho, hg⟩ := run_makeSlice_full (P := Try.prog) (w := w) 0 54 5 i (.int .u8 0) 1 Try.underlying54 hq hz h1 .i64 .i64 n (by omega) (by rw [h2]; omega) (by unfold maxLen; omega) (Nat.zero_le _)
    refine ⟨w', hr, ?_, (Below.refl _ w).grown hg (Nat.le_refl _) (fun j e => by cases e)⟩
    unfold Rw
    rw [encY_all, List.length_replicate, ← zeros_made]
    exact ho
/-- A byte of a name. -/
def nmX (i : Nat) : UInt8 := UInt8.ofNat (97 + i % 3)
theorem nmX_toNat (i : Nat) : ((nmX i).toNat : Int) = 97 + (i : Int) % 3 := by
  unfold nmX
  rw [UInt8.toNat_ofNat']
  omega
def vRoom (W : World) (p i n : Nat) (R : Int) (t : Tmp) (v : Value) (w' : World) : Prop := match t with
  | 35 => v = .pointer (some ⟨p, 0, none⟩)
  | 36 => v = .int .i64 (i : Int)
  | 37 => v = .int .i64 ((i : Int) % 3)
  | 38 => v = .int .i64 (97 + (i : Int) % 3)
  | 39 => v = .int .u8 ((nmX i).toNat : Int)
  | 40 => ∃ b, v = .slice (some ⟨b, 0, none⟩) 1 1 ∧ W.heap.size ≤ b ∧ Rw encY 5 w' (some ⟨b, 0, none⟩) 1 [nmX i]
  | 41 => v = .string ⟨#[nmX i]⟩
  | 42 => v = .int .i64 (n : Int)
  | 43 => ∃ b, v = .slice (some ⟨b, 0, none⟩) n n ∧ W.heap.size ≤ b ∧ Rw encY 5 w' (some ⟨b, 0, none⟩) n (List.replicate n 0)
  | 44 => v = .string ⟨(List.replicate n 0).toArray⟩
  | 45 => v = .int .i64 R
  | 9 => v = .int .i64 R
  | _ => True
theorem vRoom_kept {W : World} {p i n : Nat} {R : Int} {w1 w2 : World} {T : Nat → Prop} (hm : Mod T w1 w2) (hT : ∀ j, T j → j < W.heap.size) (t : Tmp) (v : Value) (h : vRoom W p i n R t v w1) : vRoom W p i n R t v w2 := by
  unfold vRoom at h ⊢
  split at h <;> first | exact h | skip
  · obtain ⟨b, h1, h2, h3⟩ := h
    exact ⟨b, h1, h2, h3.kept hm (fun a e hn => by cases e; have := hT _ hn; simp only at this; omega)⟩
  · obtain ⟨b, h1, h2, h3⟩ := h
    exact ⟨b, h1, h2, h3.kept hm (fun a e hn => by cases e; have := hT _ hn; simp only at this; omega)⟩
theorem Mod.to_any {w w' : World} (h : Below w.heap.size w w') : Mod (fun _ => False) w w' := ⟨h.os, h.tape, h.output, h.size, fun k hk _ => h.block k hk⟩
set_option maxRecDepth 20000 in
set_option maxHeartbeats 4000000 in
theorem diskRoom_any (w : World) (rq : Int) (ao : Option Addr) (cap : Nat) (L : List Int) (hL : Rd encI w ao L) (hLl : (L.length : Int) ≤ 9223372036854775807) (hLb : ∀ x ∈ L, -9223372036854775808 ≤ x ∧ x ≤ 9223372036854775807) :
    Calls Try.prog 5 #[.int .i64 rq, .slice ao L.length cap] w fun r w' => r = .returned (.bool true) ∧ Below w.heap.size w w' := by
  have HA := Lib.hid (awake09_any w)
  obtain ⟨r1, hr1⟩ : ∃ r, min rq 500 = r := ⟨_, rfl⟩
  obtain ⟨r, hr⟩ : ∃ r, max 0 r1 = r := ⟨_, rfl⟩
  have hrb : 0 ≤ r ∧ r ≤ 500 := by omega
  have HRB := Lib.hid hrb
  have HN : Hid (∀ w, Calls Try.prog 8 #[.int .i64 r] w fun e w' => ∃ p, e = .returned (.pointer (some ⟨p, 0, none⟩)) ∧ Dk w w' p ⟨r, 0, -1, false, []⟩) := Lib.hid (fun w => Dk.new r r r w (by omega) (by omega))
  have HN2 : Hid (∀ w, Calls Try.prog 8 #[.int .i64 (-1)] w fun e w' => ∃ p, e = .returned (.pointer (some ⟨p, 0, none⟩)) ∧ Dk w w' p ⟨0, 0, -1, false, []⟩) := Lib.hid (fun w => Dk.new (-1) 0 0 w (by decide) (by decide))
  have HL := Lib.hid hL
  have HLB := Lib.hid hLb
  obtain ⟨nl, hnl⟩ : ∃ nl, nl = L.length := ⟨_, rfl⟩
  have HNL := Lib.hid hnl
  rw [← hnl] at hLl ⊢
  clear hL hLb hrb hnl
  go_enter Try.func5, Try.ntmps5
  go_wp2_with fail
  refine HA.out.mono ?_
  rintro e w1 ⟨rfl, hb1⟩
  have HB1 := Lib.hid hb1
  clear hb1
  go_wp2_with fail
  refine (HN.out _).mono ?_
  rintro e w2 ⟨p, rfl, hD⟩
  have HD := Lib.hid hD
  clear hD
  go_wp2_with fail
  have HK0 : Hid (∃ S, Gd S 0 ∧ S.rm = r ∧ S.dn = false ∧ S.lf = -1 ∧ Dk w1 w2 p S ∧ usedX S.X = 0) := Lib.hid ⟨_, Gd.new r HRB.out.1 (by have := HRB.out.2; omega), rfl, rfl, rfl, HD.out, rfl⟩
  clear HD
  go_loopw [6, 7, 8, 9] (fun s6 s7 _ _ wr => ∃ i u : Nat, i ≤ nl ∧ i ≤ 20 ∧ s7 = .int .i64 (i : Int) ∧ s6 = .int .i64 (u : Int) ∧ Hid (∃ S, Gd S i ∧ S.rm = r ∧ S.dn = false ∧ S.lf = -1 ∧ Dk w1 wr p S ∧ usedX S.X = u)) (fun _ s7 _ _ _ => 20 - (intOf s7).toNat)
  case atStart => exact ⟨0, 0, Nat.zero_le _, by omega, rfl, rfl, HK0⟩
  case round =>
    obtain ⟨i, u, hi, hi2, rfl, rfl, hR⟩ := hrel
    obtain ⟨S, hg, hrm, hdn, hlf, hD, hu⟩ := hR.out
    have HG := Lib.hid hg
    have HS := Lib.hid (And.intro hrm (And.intro hdn hlf))
    have HU := Lib.hid hu
    have HD := Lib.hid hD
    have hub : (u : Int) ≤ r := by have := hg.u; rw [hrm, hu] at this; exact this
    clear hR HK0 hg hrm hdn hlf hD hu
    have hru := HRB.out.2
    by_cases hend : i < nl ∧ i < 20
    · obtain ⟨hd1, hd2⟩ := hend
      obtain ⟨ab, af, hae, _, hac⟩ := (HL.out.old (HB1.out.trans (HD.out.b.mono HB1.out.size))) i (by rw [← HNL.out]; exact hd1)
      have hc := hac 0 _ rfl
      have hxb := HLB.out (L[i]'(by rw [← HNL.out]; exact hd1)) (List.getElem_mem _)
      subst hae
      generalize L[i]'(by rw [← HNL.out]; exact hd1) = x at hc hxb
      have hc : wr.cell? ⟨ab, af + i, none⟩ = some (.int .i64 x) := by simpa [encI] using hc
      obtain ⟨y, hy⟩ : ∃ y, min x 300 = y := ⟨_, rfl⟩
      obtain ⟨n, hn⟩ : ∃ n : Nat, max 0 y = (n : Int) := ⟨(max 0 y).toNat, by omega⟩
      have hnb : n ≤ 300 := by omega
      have e1 : decide ((i : Int) < (nl : Int)) = true := by simpa using hd1
      have e2 : decide ((i : Int) < 20) = true := by simp; omega
      clear hac hxb
      go_upto_region 12 with fail
      have HCW := Lib.hid HD.out
      obtain ⟨W, hW⟩ : ∃ W, W = wr := ⟨_, rfl⟩
      rw [← hW] at HD hc ⊢
      obtain ⟨F, hA, hF, hB⟩ := HD.out
      have hFl := hA.lt
      obtain ⟨R, hRR⟩ : ∃ R, R = dedR S (wrA S (List.replicate n 0)) := ⟨_, rfl⟩
      obtain ⟨S', hS'⟩ : ∃ S', S' = dedS S (wrA S (List.replicate n 0)) (apX S [nmX i] (List.replicate n 0)) := ⟨_, rfl⟩
      have HAP : Hid (∀ w3, Below W.heap.size W w3 → Calls Try.prog 18 #[.pointer (some ⟨p, 0, none⟩), .string ⟨#[nmX i]⟩, .string ⟨(List.replicate n 0).toArray⟩] w3 fun e w' => e = .returned (.int .i64 R) ∧ Eff W w' p S' F ∧ Mod F w3 w') := Lib.hid (fun w3 hb => by
        have := dkappend_any (hA.old hb) (HG.out.ok (by omega)) [nmX i] (List.replicate n 0) (by simp) (by rw [List.length_replicate]; omega)
        rw [← hRR, ← hS'] at this
        refine this.mono ?_
        rintro e w' ⟨rfl, hE⟩
        refine ⟨rfl, Eff.trans ((Mod.of_below hb).mono (fun i hi h => by omega)) hE, ?_⟩
        obtain ⟨_, _, _, hm⟩ := hE
        exact hm)
      have HFL := Lib.hid hFl
      have HDE : Hid (∀ w', Eff W w' p S' F → Dk w1 w' p S') := Lib.hid (fun w' hE => Dk.eff hF hB hE)
      have HG' : Hid (Gd S' (i + 1)) := Lib.hid (by rw [hS']; exact HG.out.app _ _ (by simp))
      have HG0 : Hid ((fun (j : Nat) (_ : Value) (w' : World) => (j = 0 → Below W.heap.size W w') ∧ (j = 1 → Eff W w' p S' F)) 0 undef W.drew) := Lib.hid ⟨fun _ => (Below.refl _ W).drew, (fun h => absurd h (by omega))⟩
      have hrm3 : Int.tmod (i : Int) 3 = (i : Int) % 3 := Int.tmod_eq_emod_of_nonneg (by omega)
      have hrm : Int.tmod (i : Int) 3 = (i : Int) % 3 := hrm3
      have hwa : IntKind.i64.wrap (97 + (i : Int) % 3) = 97 + (i : Int) % 3 := by rw [IntKind.wrap_i64]; omega
      have hcv : IntKind.u8.wrap (97 + (i : Int) % 3) = ((nmX i).toNat : Int) := by rw [nmX_toNat, IntKind.wrap_u8]; omega
      have hn2 := hnb
      have hn := Nat.le_trans hnb (show 300 ≤ 1000000 by decide)
      have hWR : S'.rm = r ∧ S'.dn = false ∧ S'.lf = -1 ∧ ((u + n : Nat) : Int) ≤ r ∧ usedX S'.X = u + n ∧ R = 0 ∨ S'.rm = r ∧ S'.dn = false ∧ S'.lf = -1 ∧ r < ((u + n : Nat) : Int) ∧ usedX S'.X = u ∧ R = 5 := by
        obtain ⟨q1, q2, q3⟩ := HS.out
        have hwo := usedX_wo HG.out.so [nmX i]
        have hww : usedX (apX S [nmX i] (List.replicate n 0)) = u + n := by
          unfold apX
          rw [usedX_with]
          simp only [List.length_append, List.length_replicate]
          have := HU.out
          omega
        have hl : ((List.replicate n (0 : UInt8)).length : Int) = n := by rw [List.length_replicate]
        rw [hRR, hS']
        unfold dedR dedS wrA
        rw [hl, q1, q2, q3, HU.out]
        by_cases hc : (n : Int) > r - (u : Nat)
        · right
          rw [if_pos hc]
          simp only [Bool.false_eq_true, if_false]
          exact ⟨q1, q2, q3, by omega, HU.out, rfl⟩
        · left
          rw [if_neg hc]
          simp only [Bool.false_eq_true, if_false, lfX, ne_eq, not_true_eq_false, if_true, show ¬ ((-1 : Int) = 0) from by decide]
          refine ⟨?_, ?_, ?_, ?_, ?_, ?_⟩ <;> first | trivial | exact hww | omega
      have HWR := Lib.hid hWR
      clear hA hF hB hFl hRR hS' hrm3 hWR hc
      refine CW.wp_region_chain (vRoom W p i n R) (fun (j : Nat) (_ : Value) (w' : World) => (j = 0 → Below W.heap.size W w') ∧ (j = 1 → Eff W w' p S' F)) [10] 74 (by kernel_rfl) (by decide +kernel) rfl (by decide +kernel) (by decide) (by decide) HG0.out (by
        refine CW.OweAllC.cons (CW.owesC_val 0 (by decide +kernel) (by decide) rfl rfl fun k' a w1 x hk ha hG hV => ?_) ?_
        · skip
          have h5 := ha.outer 5 (by decide +kernel)
          simp only [Act.eval] at h5
          exact ⟨.pointer (some ⟨p, 0, none⟩), wanted_free rfl, by simp [execOp, go_sem, h5], rfl⟩
        refine CW.OweAllC.cons (CW.owesC_val 0 (by decide +kernel) (by decide) rfl rfl fun k' a w1 x hk ha hG hV => ?_) ?_
        · skip
          have h7 := ha.outer 7 (by decide +kernel)
          simp only [Act.eval] at h7
          exact ⟨.int .i64 (i : Int), wanted_free rfl, by simp [execOp, go_sem, h7], rfl⟩
        refine CW.OweAllC.cons (CW.owesC_val 0 (by decide +kernel) (by decide) rfl rfl fun k' a w1 x hk ha hG hV => ?_) ?_
        · skip
          have h36 : a.tmps.getD 36 undef = .int .i64 (i : Int) := hV.get 36 (by decide +kernel)
          exact ⟨.int .i64 ((i : Int) % 3), wanted_free rfl, by simp [execOp, go_sem, h36, hrm], rfl⟩
        refine CW.OweAllC.cons (CW.owesC_val 0 (by decide +kernel) (by decide) rfl rfl fun k' a w1 x hk ha hG hV => ?_) ?_
        · skip
          have h37 : a.tmps.getD 37 undef = .int .i64 ((i : Int) % 3) := hV.get 37 (by decide +kernel)
          exact ⟨.int .i64 (97 + (i : Int) % 3), wanted_free rfl, by simp [execOp, go_sem, h37, hwa], rfl⟩
        refine CW.OweAllC.cons (CW.owesC_val 0 (by decide +kernel) (by decide) rfl rfl fun k' a w1 x hk ha hG hV => ?_) ?_
        · skip
          have h38 : a.tmps.getD 38 undef = .int .i64 (97 + (i : Int) % 3) := hV.get 38 (by decide +kernel)
          exact ⟨.int .u8 ((nmX i).toNat : Int), wanted_free rfl, by simp [execOp, go_sem, h38, hcv], rfl⟩
        refine CW.OweAllC.cons (CW.owesC_made 0 (by decide +kernel) (by decide) rfl rfl fun k' a w1 x hk ha hG hV => ?_) ?_
        · skip
          have h39 : a.tmps.getD 39 undef = .int .u8 ((nmX i).toNat : Int) := hV.get 39 (by decide +kernel)
          have g39 : a.tmps[39]?.getD undef = .int .u8 ((nmX i).toNat : Int) := by simpa using h39
          have hb := hG.1 (by omega)
          have hal : Below W.heap.size W (w1.alloc (.cells #[.int .u8 ((nmX i).toNat : Int)] 5)) := hb.alloc hb.size _
          refine ⟨.slice (some ⟨w1.heap.size, 0, none⟩) 1 1, w1.alloc (.cells #[.int .u8 ((nmX i).toNat : Int)] 5), wanted_free rfl, by simp [execOp, go_sem, h39, g39], ⟨w1.heap.size, rfl, hb.size, ?_⟩, ⟨fun _ => hal, (fun h => absurd h (by omega))⟩, vRoom_kept ((Mod.refl (fun _ => False) w1).alloc _) (fun _ h => h.elim)⟩
          have := Rw.made (E := encY) 5 w1 [nmX i] (by simp [maxLen])
          exact this
        refine CW.OweAllC.cons (CW.owesC_val 0 (by decide +kernel) (by decide) rfl rfl fun k' a w1 x hk ha hG hV => ?_) ?_
        · skip
          obtain ⟨b, e40, _, hr⟩ : ∃ b, a.tmps.getD 40 undef = .slice (some ⟨b, 0, none⟩) 1 1 ∧ W.heap.size ≤ b ∧ Rw encY 5 w1 (some ⟨b, 0, none⟩) 1 [nmX i] := hV.get 40 (by decide +kernel)
          have hcv := Rw.convY (P := Try.prog) hr 54 9 Try.underlying54 Try.underlying5 Try.underlying9
          simp only [List.length_cons, List.length_nil, Nat.zero_add] at hcv
          exact ⟨.string ⟨#[nmX i]⟩, wanted_free rfl, by simp [execOp, go_sem, e40, hcv], rfl⟩
        refine CW.OweAllC.cons (CW.owesC_val 0 (by decide +kernel) (by decide) rfl rfl fun k' a w1 x hk ha hG hV => ?_) ?_
        · skip
          have h8 := ha.outer 8 (by decide +kernel)
          simp only [Act.eval] at h8
          exact ⟨.int .i64 (n : Int), wanted_free rfl, by simp [execOp, go_sem, h8], rfl⟩
        refine CW.OweAllC.cons (CW.owesC_made 0 (by decide +kernel) (by decide) rfl rfl fun k' a w1 x hk ha hG hV => ?_) ?_
        · skip
          have h42 : a.tmps.getD 42 undef = .int .i64 (n : Int) := hV.get 42 (by decide +kernel)
          have hb := hG.1 (by omega)
          obtain ⟨w2, hr, hw, hb2⟩ := make_bytes w1 n hn
          exact ⟨_, w2, wanted_free rfl, by simp [execOp, go_sem, h42, hr], ⟨w1.heap.size, rfl, hb.size, hw⟩, ⟨fun _ => hb.trans (hb2.mono hb.size), (fun h => absurd h (by omega))⟩, vRoom_kept (Mod.to_any hb2) (fun _ h => h.elim)⟩
        refine CW.OweAllC.cons (CW.owesC_val 0 (by decide +kernel) (by decide) rfl rfl fun k' a w1 x hk ha hG hV => ?_) ?_
        · skip
          obtain ⟨b, e43, _, hr⟩ : ∃ b, a.tmps.getD 43 undef = .slice (some ⟨b, 0, none⟩) n n ∧ W.heap.size ≤ b ∧ Rw encY 5 w1 (some ⟨b, 0, none⟩) n (List.replicate n 0) := hV.get 43 (by decide +kernel)
          have hcv := Rw.convY (P := Try.prog) hr 54 9 Try.underlying54 Try.underlying5 Try.underlying9
          rw [List.length_replicate] at hcv
          exact ⟨.string ⟨(List.replicate n 0).toArray⟩, wanted_free rfl, by simp [execOp, go_sem, e43, hcv], rfl⟩
        refine CW.OweAllC.cons (CW.owesC_call 0 rfl rfl rfl 18 fun a w1 x ha hG hx hV => ?_) ?_
        · skip
          have h35 : a.tmps.getD 35 undef = .pointer (some ⟨p, 0, none⟩) := hV.get 35 (by decide +kernel)
          have h41 : a.tmps.getD 41 undef = .string ⟨#[nmX i]⟩ := hV.get 41 (by decide +kernel)
          have h44 : a.tmps.getD 44 undef = .string ⟨(List.replicate n 0).toArray⟩ := hV.get 44 (by decide +kernel)
          refine ⟨#[.pointer (some ⟨p, 0, none⟩), .string ⟨#[nmX i]⟩, .string ⟨(List.replicate n 0).toArray⟩], wanted_free rfl, by simp [execOp, resolve, invoke, go_sem, h35, h41, h44], ?_⟩
          have hb := hG.1 (by omega)
          refine (HAP.out w1 hb).mono ?_
          rintro r u2 ⟨rfl, hE, hm⟩
          exact ⟨_, rfl, rfl, ⟨(fun h => absurd h (by omega)), fun _ => hE⟩, vRoom_kept hm HFL.out⟩
        refine CW.OweAllC.cons (CW.owesC_val 1 (by decide +kernel) (by decide) rfl rfl fun k' a w1 x hk ha hG hV => ?_) ?_
        · skip
          have h45 : a.tmps.getD 45 undef = .int .i64 R := hV.get 45 (by decide +kernel)
          exact ⟨.int .i64 R, wanted_free rfl, by simp [execOp, go_sem, h45], rfl⟩
        exact CW.OweAllC.nil
        ) ?_
      intro f wz xz hG hx hv
      have e9 : f 9 = .int .i64 R := hv 11 _ 9 rfl rfl
      have hE := hG.2 rfl
      have HDZ := Lib.hid (HDE.out wz hE)
      have hcv2 : True := trivial
      rename_i hK
      refine hK _ _ ?_
      clear hK hv hx hG hcv hcv2 hwa hrm hE HG0
      simp only [dsts, puts, List.filterMap_cons, List.filterMap_nil, List.foldl_cons, List.foldl_nil, Act.put, List.setIfInBounds_toArray, List.set_cons_succ, List.set_cons_zero, e9]
      clear e9
      have hw := HWR.out
      clear HWR
      rcases hw with hw | hw
      · obtain ⟨a1, a2, a3, a4, a5, rfl⟩ := hw
        have e3 : ((u : Int) + (n : Int) ≤ r) := by omega
        have HUS : Hid (Calls Try.prog 24 #[.pointer (some ⟨p, 0, none⟩)] wz fun e w' => e = .returned (.int .i64 (((u + n : Nat) : Int) : Int)) ∧ Dk w1 w' p S') := Lib.hid (by
          have := HDZ.out.used (HG'.out.ok (by omega))
          rw [a5] at this
          exact this)
        have HSS := Lib.hid (And.intro a1 (And.intro a2 (And.intro a3 a5)))
        clear a1 a2 a3 a4 a5
        go_wp2_with fail
        refine HUS.out.mono ?_
        rintro r5 w5 ⟨rfl, hD5⟩
        have HD5 := Lib.hid hD5
        clear hD5
        go_wp2_with fail
        refine ⟨⟨i + 1, u + n, by omega, by omega, by simp, by simp, Lib.hid ⟨S', HG'.out, HSS.out.1, HSS.out.2.1, HSS.out.2.2.1, HD5.out, HSS.out.2.2.2⟩⟩, ?_⟩
        show 20 - ((i : Int) + 1).toNat < 20 - ((i : Int)).toNat
        omega
      · obtain ⟨a1, a2, a3, a4, a5, rfl⟩ := hw
        have e3 : ¬ ((u : Int) + (n : Int) ≤ r) := by omega
        have HUS : Hid (Calls Try.prog 24 #[.pointer (some ⟨p, 0, none⟩)] wz fun e w' => e = .returned (.int .i64 (((u : Nat) : Int) : Int)) ∧ Dk w1 w' p S') := Lib.hid (by
          have := HDZ.out.used (HG'.out.ok (by omega))
          rw [a5] at this
          exact this)
        have HSS := Lib.hid (And.intro a1 (And.intro a2 (And.intro a3 a5)))
        clear a1 a2 a3 a4 a5
        go_wp2_with fail
        refine HUS.out.mono ?_
        rintro r5 w5 ⟨rfl, hD5⟩
        have HD5 := Lib.hid hD5
        clear hD5
        go_wp2_with fail
        refine ⟨⟨i + 1, u, by omega, by omega, by simp, by simp, Lib.hid ⟨S', HG'.out, HSS.out.1, HSS.out.2.1, HSS.out.2.2.1, HD5.out, HSS.out.2.2.2⟩⟩, ?_⟩
        show 20 - ((i : Int) + 1).toNat < 20 - ((i : Int)).toNat
        omega
    · have hend2 : decide ((i : Int) < (nl : Int)) = false ∨ (i : Int) < (nl : Int) ∧ decide ((i : Int) < 20) = false := by
        by_cases h1 : i < nl
        · right; exact ⟨by omega, by simp; omega⟩
        · left; simp; omega
      have HB2 : Hid (Below w.heap.size w wr) := Lib.hid (HB1.out.trans (HD.out.b.mono HB1.out.size))
      have hcase : (¬ (i : Int) < (nl : Int)) ∨ ((i : Int) < (nl : Int) ∧ ¬ (i : Int) < 20) := by omega
      clear hend2 hend
      have HRM : Hid (∀ w6 q, Dk wr w6 q ⟨0, 0, -1, false, []⟩ → Calls Try.prog 25 #[.pointer (some ⟨q, 0, none⟩)] w6 fun e w' => e = .returned (.int .i64 0) ∧ Dk wr w' q ⟨0, 0, -1, false, []⟩) := Lib.hid (fun w6 q h => h.room)
      rcases hcase with h1 | ⟨h1, h2⟩ <;>
      · go_wp2_with fail
        refine (HN2.out _).mono ?_
        rintro e w6 ⟨q, rfl, hD6⟩
        have HD6 := Lib.hid hD6
        clear hD6
        go_wp2_with fail
        refine (HRM.out _ _ HD6.out).mono ?_
        rintro e w7 ⟨rfl, hD7⟩
        have HB7 := Lib.hid (HB2.out.trans (hD7.b.mono HB2.out.size))
        clear hD7
        go_wp2_with fail
        go_ret
        exact ⟨rfl, HB7.out⟩
end Go.Proofs.Ytpbcglepecojmaa

namespace Go.Proofs.Ytpbcglepecojmaa
open Go.ChangeShapes Go.WideShapes Go.ChangeAt Go.RowKit Go.Deep

set_option maxRecDepth 20000 in
theorem open_ints1 {H : Type} {enc : TypeId × Value → H} {W : World} {v : Value} {fuel : Nat} {x : DataW H × List MemPlace} (hf : DataW.trod enc Try.prog W 0 (fun _ => true) true fuel 29 [v] = some x) :
    ∃ ao cap S, v = .slice ao S.length cap ∧ Rd encI W ao S ∧ (∀ x ∈ S, -9223372036854775808 ≤ x ∧ x ≤ 9223372036854775807) ∧ S.length ≤ 9223372036854775807 ∧ S.length ≤ cap := by
  rcases open_slice1 Try.underlying29 (by kernel_rfl) hf with ⟨hc, _⟩ | ⟨a', len', cap', m, k, V, D, Pl, hc, _, hl, hm, hmm, _, hall⟩
  · have hc2 : [v] = [Value.slice none 0 0] := hc
    simp only [List.cons.injEq, and_true] at hc2
    subst hc2
    exact ⟨none, 0, [], rfl, Rd.nil _ _, (fun x hx => by simp at hx), Nat.zero_le _, Nat.le_refl _⟩
  · have hc2 : [v] = [Value.slice (some a') len' cap'] := hc
    simp only [List.cons.injEq, and_true] at hc2
    subst hc2
    simp only [if_true] at hmm
    subst hmm
    have hj : ∀ i, i < len' → ∃ s : Int, V i = .int .i64 s ∧ -9223372036854775808 ≤ s ∧ s ≤ 9223372036854775807 := by
      intro i hi
      obtain ⟨N, h1, _, hw⟩ := DataW.trod_int Try.underlying3 (hall i (by omega)).2
      simp only [List.cons.injEq, and_true] at h1
      have b := bounds_i64 hw
      exact ⟨N, h1, by omega, by omega⟩
    obtain ⟨f, hf2⟩ := choose_lt hj
    obtain ⟨bs, off, spot⟩ := a'
    by_cases h0 : 0 < m
    · have hspot : spot = none := by simpa [Addr.add] using World.cell?_spot (hall 0 (by omega)).1
      subst hspot
      refine ⟨some ⟨bs, off, none⟩, m, (List.range len').map f, by simp, ?_, ?_, by unfold maxLen at hm; rw [List.length_map, List.length_range]; omega, by rw [List.length_map, List.length_range]; exact hl⟩
      · intro j hjl
        have hjn : j < len' := by simpa using hjl
        have e0 := (hf2 j hjn).1
        obtain ⟨c0, _⟩ := hall j (by omega)
        rw [e0] at c0
        have c0' : W.cell? ⟨bs, off + j, none⟩ = some (.int .i64 (f j)) := by simpa [Addr.add_lit] using c0
        refine ⟨bs, off, rfl, cell_block9 c0', fun i u hu => ?_⟩
        have hi0 : i = 0 := by
          have := (List.getElem?_eq_some_iff.1 hu).1
          simp [encI] at this; exact this
        subst hi0
        simp only [encI, List.getElem?_cons_zero, Option.some.injEq] at hu
        subst hu
        simpa [encI] using c0'
      · intro x hx
        obtain ⟨i, hi, rfl⟩ := List.mem_map.1 hx
        exact (hf2 i (List.mem_range.1 hi)).2
    · have hl0 : len' = 0 := by omega
      subst hl0
      exact ⟨some ⟨bs, off, spot⟩, m, [], rfl, (fun j hj => by simp at hj), (fun x hx => by simp at hx), Nat.zero_le _, Nat.zero_le _⟩
def i64ok (x : Int) : Prop := -9223372036854775808 ≤ x ∧ x ≤ 9223372036854775807
/-- A call on a disk: its kind, its number, its name, its text, its choices (where they lie, and their capacity). -/
structure AX where
  kd : Int
  nn : Int
  nm : List UInt8
  tx : List UInt8
  co : Option Addr
  cc : Nat
  ch : List Int
instance : Inhabited AX := ⟨⟨0, 0, [], [], none, 0, []⟩⟩
def AX.cells (x : AX) : List Value := [.int .i64 x.kd, .int .i64 x.nn, .string ⟨x.nm.toArray⟩, .string ⟨x.tx.toArray⟩, .slice x.co x.ch.length x.cc]
def encX : Enc AX := ⟨AX.cells, 5, fun _ => rfl, fun _ v hv => by simp [AX.cells] at hv; rcases hv with rfl | rfl | rfl | rfl | rfl <;> rfl, by decide⟩
structure okX (W : World) (x : AX) : Prop where
  kd : i64ok x.kd
  nn : i64ok x.nn
  nm : x.nm.length ≤ maxLen
  tx : x.tx.length ≤ maxLen
  rd : Rd encI W x.co x.ch
  cb : ∀ z ∈ x.ch, i64ok z
  cl : x.ch.length ≤ 9223372036854775807
  cc : x.ch.length ≤ x.cc
theorem Rd.ax {w : World} {ao : Option Addr} {L : List AX} (h : Rd encX w ao L) (j : Nat) (hj : j < L.length) : ∃ bs off, ao = some ⟨bs, off, none⟩ ∧ bs < w.heap.size ∧
    ∀ i u, (L[j]).cells[i]? = some u → w.cell? ⟨bs, off + j * 5 + i, none⟩ = some u := h j hj
set_option maxRecDepth 20000 in
theorem open_dacts1 {H : Type} {enc : TypeId × Value → H} {W : World} {v : Value} {fuel : Nat} {x : DataW H × List MemPlace} (hf : DataW.trod enc Try.prog W 0 (fun _ => true) true fuel 22 [v] = some x) :
    ∃ ao cap L, v = .slice ao L.length cap ∧ Rd encX W ao L ∧ (∀ s ∈ L, okX W s) ∧ L.length ≤ 9223372036854775807 ∧ L.length ≤ cap := by
  have k5 : Try.prog.cellsOf 31 = 5 := by kernel_rfl
  have ki : Try.prog.cellsOf 3 = 1 := by kernel_rfl
  have ks : Try.prog.cellsOf 9 = 1 := by kernel_rfl
  have kt : Try.prog.cellsOf 29 = 1 := by kernel_rfl
  rcases open_slice Try.underlying22 hf with ⟨hc, _⟩ | ⟨a', len', cap', m, n, D, Pl, hc, _, hl, hm, hmm, _, hall⟩
  · have hc2 : [v] = [Value.slice none 0 0] := hc
    simp only [List.cons.injEq, and_true] at hc2
    subst hc2
    exact ⟨none, 0, [], rfl, Rd.nil _ _, fun s hs => by simp at hs, Nat.zero_le _, Nat.le_refl _⟩
  · have hc2 : [v] = [Value.slice (some a') len' cap'] := hc
    simp only [List.cons.injEq, and_true] at hc2
    subst hc2
    simp only [if_true] at hmm
    subst hmm
    have hj : ∀ i, i < len' → ∃ s : AX, okX W s ∧ ∀ t u, s.cells[t]? = some u → W.cell? ((a'.add (i * 5)).add t) = some u := by
      intro i hi
      obtain ⟨cs', h1, h2⟩ := hall i (by omega)
      rw [k5] at h1
      obtain ⟨_, hlen, hcell⟩ := World.cells?_some h1
      obtain ⟨xs, k, _, _, _, hxl, hg⟩ := DataW.trod_struct Try.underlying31 h2
      match xs, hxl, cs', hlen with
      | [y0, y1, y2, y3, y4], _, [v0, v1, v2, v3, v4], _ =>
        have g0 := hg 0 _ rfl
        have g1 := hg 1 _ rfl
        have g2 := hg 2 _ rfl
        have g3 := hg 3 _ rfl
        have g4 := hg 4 _ rfl
        simp [ki, ks, kt] at g0 g1 g2 g3 g4
        obtain ⟨n0, e0, _, w0⟩ := DataW.trod_int Try.underlying3 g0
        obtain ⟨n1, e1, _, w1⟩ := DataW.trod_int Try.underlying3 g1
        obtain ⟨s2, e2, _, w2⟩ := DataW.trod_string Try.underlying9 g2
        obtain ⟨s3, e3, _, w3⟩ := DataW.trod_string Try.underlying9 g3
        obtain ⟨co, cc, ch, rfl, hrd, hcb, hcl, hcc⟩ := open_ints1 g4
        simp only [List.cons.injEq, and_true] at e0 e1 e2 e3
        subst e0 e1 e2 e3
        refine ⟨⟨n0, n1, s2.data.toList, s3.data.toList, co, cc, ch⟩, ⟨bounds_i64 w0, bounds_i64 w1, w2, w3, hrd, hcb, hcl, hcc⟩, fun t u hu => ?_⟩
        have ht : t < 5 := by have := (List.getElem?_eq_some_iff.1 hu).1; simpa [AX.cells] using this
        have q := hcell t (by omega)
        rw [q, ← hu]
        match t, ht with
        | 0, _ => rfl
        | 1, _ => rfl
        | 2, _ => simp [AX.cells]
        | 3, _ => simp [AX.cells]
        | 4, _ => rfl
    obtain ⟨f, hf2⟩ := choose_lt hj
    refine ⟨some a', m, (List.range len').map f, by simp, ?_, ?_, by simp; unfold maxLen at hm; omega, by simpa using hl⟩
    · intro j hjl
      have hjn : j < len' := by simpa using hjl
      obtain ⟨bs, off, spot⟩ := a'
      obtain ⟨ho, hcs⟩ := hf2 j hjn
      have c0 := hcs 0 _ rfl
      have hspot : spot = none := by simpa [Addr.add] using World.cell?_spot ((hf2 0 (by omega)).2 0 _ rfl)
      subst hspot
      refine ⟨bs, off, rfl, by have := cell_block9 c0; simpa [Addr.add_lit] using this, fun i u hu => ?_⟩
      rw [List.getElem_map, List.getElem_range] at hu
      have := hcs i u hu
      simpa [Addr.add_lit, encX] using this
    · intro s hs
      obtain ⟨i, hi, rfl⟩ := List.mem_map.1 hs
      exact (hf2 i (List.mem_range.1 hi)).1
theorem open_dacts {H : Type} {enc : TypeId × Value → H} {W : World} {base : Nat} {v : Value} {d : DataW H} {ps : List MemPlace} (_hval : Value.okWide Try.prog W .any base 22 v) (h : DataW.Trod enc Try.prog W 0 (fun _ => true) true 22 v d ps) :
    ∃ ao cap L, v = .slice ao L.length cap ∧ Rd encX W ao L ∧ (∀ s ∈ L, okX W s) ∧ L.length ≤ 9223372036854775807 ∧ L.length ≤ cap := by
  obtain ⟨a, len, cap, rfl⟩ := okWide_slice Try.underlying22 _hval
  obtain ⟨fuel, hf⟩ := h
  exact open_dacts1 (by simpa [Value.cells] using hf)
end Go.Proofs.Ytpbcglepecojmaa

namespace Go.Proofs.Ytpbcglepecojmaa
open Go.RowKit

theorem extract_head (s : List UInt8) (k : Nat) : (ByteArray.mk s.toArray).extract 0 k = ⟨(s.take k).toArray⟩ := by
  rw [ByteArray.extract_mk]; simp
set_option maxHeartbeats 400000 in
theorem cut_any (s : List UInt8) (n : Nat) (w : World) (_hl : s.length ≤ maxLen) (_hn : n ≤ 1000000) :
    Calls Try.prog 9 #[.string ⟨s.toArray⟩, .int .i64 n] w fun r w' => r = .returned (.string ⟨(s.take n).toArray⟩) ∧ w' = w := by
  have h0 : (0 : Int) ≤ n := by omega
  by_cases h : n < s.length
  · go_enter Try.func9, Try.ntmps9
    go_wp2_with fail
    rw [extract_head]
    go_ret
    exact ⟨rfl, rfl⟩
  · have e : s.take n = s := List.take_of_length_le (by omega)
    rw [e]
    clear e
    go_enter Try.func9, Try.ntmps9
    go_wp2_with fail
    go_ret
    exact ⟨rfl, rfl⟩
theorem few09_any (co : Option Addr) (cc : Nat) (ch : List Int) (w : World) (hc : ch.length ≤ cc) (hl : (ch.length : Int) ≤ 9223372036854775807) :
    Calls Try.prog 14 #[.slice co ch.length cc] w fun r w' => r = .returned (.slice co (ch.take 20).length cc) ∧ w' = w := by
  obtain ⟨n, hn⟩ : ∃ n, n = ch.length := ⟨_, rfl⟩
  have HN := Lib.hid hn
  rw [← hn] at hc hl ⊢
  clear hn
  by_cases h : 20 < n
  · have e : (ch.take 20).length = 20 := by have := HN.out; rw [List.length_take]; omega
    rw [e]
    clear e
    go_enter Try.func14, Try.ntmps14
    go_wp2_with fail
    go_ret
    exact ⟨rfl, rfl⟩
  · have e : (ch.take 20).length = n := by have := HN.out; rw [List.length_take]; omega
    rw [e]
    clear e
    go_enter Try.func14, Try.ntmps14
    go_wp2_with fail
    go_ret
    exact ⟨rfl, rfl⟩
/-- What is wrong with a deed, and the files that it leaves. -/
def actW (S : St) (x : AX) : Int × List FX :=
  if x.kd = 1 then (wrN S (x.nm.take 3), syX S (x.nm.take 3))
  else if x.kd = 2 then (wrC S (x.nm.take 3) x.nn, cuX S (x.nm.take 3) x.nn.toNat)
  else if x.kd = 3 then (wrN S (x.nm.take 3), rnX S (x.nm.take 3) (x.tx.take 3))
  else if x.kd = 4 then (wrN S (x.nm.take 3), wo (x.nm.take 3) S.X)
  else (wrA S (x.tx.take 20), apX S (x.nm.take 3) (x.tx.take 20))
def actS (S : St) (x : AX) : St := dedS S (actW S x).1 (actW S x).2
def actR (S : St) (x : AX) : Int := dedR S (actW S x).1
theorem Gd.act {S : St} {n : Nat} (h : Gd S n) (x : AX) : Gd (actS S x) (n + 1) := by
  have h3 : ∀ s : List UInt8, (s.take 3).length ≤ 1000000 := fun s => by rw [List.length_take]; omega
  unfold actS actW
  split
  · exact h.syn _ (h3 _)
  · split
    · exact h.cut _ _ (h3 _)
    · split
      · exact h.ren _ _ (h3 _)
      · split
        · exact h.rem _
        · exact h.app _ _ (h3 _)
set_option maxRecDepth 20000 in
set_option maxHeartbeats 4000000 in
theorem do09_any {w : World} {d : Nat} {S : St} {F : Nat → Prop} (h : DA w d S F) (ok : Ok S) (x : AX) (hnm : x.nm.length ≤ maxLen) (htx : x.tx.length ≤ maxLen) :
    Calls Try.prog 21 #[.pointer (some ⟨d, 0, none⟩), .agg x.cells.toArray] w fun e w' => e = .returned (.int .i64 (actR S x)) ∧ Eff w w' d (actS S x) F := by
  obtain ⟨kd, nn, nm, tx, co, cc, ch⟩ := x
  simp only at hnm htx
  unfold AX.cells
  simp only
  have h3 : ∀ s : List UInt8, (s.take 3).length ≤ 1000000 := fun s => by rw [List.length_take]; omega
  have h20 : (tx.take 20).length ≤ 1000000000 := by rw [List.length_take]; omega
  have c3 := fun w => cut_any nm 3 w hnm (by decide)
  have c20 := fun w => cut_any tx 20 w htx (by decide)
  have c33 := fun w => cut_any tx 3 w htx (by decide)
  obtain ⟨W0, hW0⟩ : ∃ W0, W0 = w.alloc (.cells #[.int .i64 kd, .int .i64 nn, .string ⟨nm.toArray⟩, .string ⟨tx.toArray⟩, .slice co ch.length cc] 31) := ⟨_, rfl⟩
  have hb0 : Below w.heap.size w W0 := by rw [hW0]; exact (Below.refl _ w).alloc (Nat.le_refl _) _
  have hr0 : W0.heap[w.heap.size]? = some (.cells #[.int .i64 kd, .int .i64 nn, .string ⟨nm.toArray⟩, .string ⟨tx.toArray⟩, .slice co ch.length cc] 31 (0, 0)) := by rw [hW0]; exact heap_alloc_new _ _
  have HC : Hid (∀ n, (W0.drewN n).cell? ⟨w.heap.size, 0, none⟩ = some (.int .i64 kd) ∧ (W0.drewN n).cell? ⟨w.heap.size, 1, none⟩ = some (.int .i64 nn) ∧ (W0.drewN n).cell? ⟨w.heap.size, 2, none⟩ = some (.string ⟨nm.toArray⟩) ∧ (W0.drewN n).cell? ⟨w.heap.size, 3, none⟩ = some (.string ⟨tx.toArray⟩)) := Lib.hid (fun n => by
    have e : (W0.drewN n).heap = W0.heap := rfl
    refine ⟨?_, ?_, ?_, ?_⟩ <;> (unfold World.cell?; rw [e, hr0]; rfl))
  have c2 : W0.cell? ⟨w.heap.size, 2, none⟩ = some (.string ⟨nm.toArray⟩) := by unfold World.cell?; rw [hr0]; rfl
  have c3' : W0.cell? ⟨w.heap.size, 3, none⟩ = some (.string ⟨tx.toArray⟩) := by unfold World.cell?; rw [hr0]; rfl
  have hE0 : ∀ n w' S', Eff (W0.drewN n) w' d S' F → Eff w w' d S' F := fun n w' S' hE => Eff.trans (Mod.trans (T := F) (((Mod.of_below hb0).drewN n).mono (fun i hi h => by omega)) (Mod.refl F _) (fun _ _ h => h)) hE
  have hA0 : ∀ n, DA (W0.drewN n) d S F := fun n => (h.old hb0).kept ((Mod.refl (fun _ => False) W0).drewN n) (fun _ _ h => h)
  by_cases hk : kd = 1
  · skip
    have HL : Hid (∀ nq, Calls Try.prog 19 #[.pointer (some ⟨d, 0, none⟩), .string ⟨(nm.take 3).toArray⟩] (W0.drewN nq) fun e w' => e = .returned (.int .i64 (actR S ⟨kd, nn, nm, tx, co, cc, ch⟩)) ∧ Eff w w' d (actS S ⟨kd, nn, nm, tx, co, cc, ch⟩) F) := Lib.hid (fun nq => by
      have e : actW S ⟨kd, nn, nm, tx, co, cc, ch⟩ = (wrN S (nm.take 3), syX S (nm.take 3)) := by unfold actW; simp [hk]
      unfold actR actS
      rw [e]
      exact (dksync_any (hA0 nq) ok (nm.take 3) (h3 _)).mono (by rintro e w' ⟨rfl, hE⟩; exact ⟨rfl, hE0 nq _ _ hE⟩))
    generalize actR S ⟨kd, nn, nm, tx, co, cc, ch⟩ = R at HL ⊢
    generalize actS S ⟨kd, nn, nm, tx, co, cc, ch⟩ = S' at HL ⊢
    subst hk
    have HC33 := Lib.hid c33
    clear h hE0 hA0 hb0 hr0 ok h3 h20 c33 hnm htx
    go_enter Try.func21, Try.ntmps21
    go_upto_region 1 with fail
    rw [← hW0]
    clear hW0
    go_quiet (first | (go_at_call_of 9 (Value.int IntKind.i64 3); exact Calls.quiet_of_same (c3 _)) | (go_at_call_of 9 (Value.int IntKind.i64 20); exact Calls.quiet_of_same (c20 _)))
    have hl := HL.out nq
    obtain ⟨d0, d1, d2, d3⟩ := HC.out nq
    clear c3 c20 c2 c3'
    generalize W0.drewN nq = W1 at *
    go_wp2_with fail
    refine hl.mono ?_
    rintro r w6 ⟨rfl, hE⟩
    have HE := Lib.hid hE
    clear hE hl
    go_wp2_with fail
    go_ret
    exact ⟨rfl, HE.out⟩
  have hk1 : ¬ kd = 1 := hk
  clear hk
  by_cases hk : kd = 2
  · skip
    have HL : Hid (∀ nq, Calls Try.prog 39 #[.pointer (some ⟨d, 0, none⟩), .string ⟨(nm.take 3).toArray⟩, .int .i64 nn] (W0.drewN nq) fun e w' => e = .returned (.int .i64 (actR S ⟨kd, nn, nm, tx, co, cc, ch⟩)) ∧ Eff w w' d (actS S ⟨kd, nn, nm, tx, co, cc, ch⟩) F) := Lib.hid (fun nq => by
      have e : actW S ⟨kd, nn, nm, tx, co, cc, ch⟩ = (wrC S (nm.take 3) nn, cuX S (nm.take 3) nn.toNat) := by unfold actW; simp [hk]
      unfold actR actS
      rw [e]
      exact (dkcut_any (hA0 nq) ok (nm.take 3) nn (h3 _)).mono (by rintro e w' ⟨rfl, hE⟩; exact ⟨rfl, hE0 nq _ _ hE⟩))
    generalize actR S ⟨kd, nn, nm, tx, co, cc, ch⟩ = R at HL ⊢
    generalize actS S ⟨kd, nn, nm, tx, co, cc, ch⟩ = S' at HL ⊢
    subst hk
    have HC33 := Lib.hid c33
    clear h hE0 hA0 hb0 hr0 ok h3 h20 c33 hnm htx
    go_enter Try.func21, Try.ntmps21
    go_upto_region 1 with fail
    rw [← hW0]
    clear hW0
    go_quiet (first | (go_at_call_of 9 (Value.int IntKind.i64 3); exact Calls.quiet_of_same (c3 _)) | (go_at_call_of 9 (Value.int IntKind.i64 20); exact Calls.quiet_of_same (c20 _)))
    have hl := HL.out nq
    obtain ⟨d0, d1, d2, d3⟩ := HC.out nq
    clear c3 c20 c2 c3'
    generalize W0.drewN nq = W1 at *
    go_wp2_with fail
    refine hl.mono ?_
    rintro r w6 ⟨rfl, hE⟩
    have HE := Lib.hid hE
    clear hE hl
    go_wp2_with fail
    go_ret
    exact ⟨rfl, HE.out⟩
  have hk2 : ¬ kd = 2 := hk
  clear hk
  by_cases hk : kd = 3
  · skip
    have HL : Hid (∀ nq, Calls Try.prog 40 #[.pointer (some ⟨d, 0, none⟩), .string ⟨(nm.take 3).toArray⟩, .string ⟨(tx.take 3).toArray⟩] (W0.drewN nq) fun e w' => e = .returned (.int .i64 (actR S ⟨kd, nn, nm, tx, co, cc, ch⟩)) ∧ Eff w w' d (actS S ⟨kd, nn, nm, tx, co, cc, ch⟩) F) := Lib.hid (fun nq => by
      have e : actW S ⟨kd, nn, nm, tx, co, cc, ch⟩ = (wrN S (nm.take 3), rnX S (nm.take 3) (tx.take 3)) := by unfold actW; simp [hk]
      unfold actR actS
      rw [e]
      exact (dkrename_any (hA0 nq) ok (nm.take 3) (tx.take 3) (h3 _) (h3 _)).mono (by rintro e w' ⟨rfl, hE⟩; exact ⟨rfl, hE0 nq _ _ hE⟩))
    generalize actR S ⟨kd, nn, nm, tx, co, cc, ch⟩ = R at HL ⊢
    generalize actS S ⟨kd, nn, nm, tx, co, cc, ch⟩ = S' at HL ⊢
    subst hk
    have HC33 := Lib.hid c33
    clear h hE0 hA0 hb0 hr0 ok h3 h20 c33 hnm htx
    go_enter Try.func21, Try.ntmps21
    go_upto_region 1 with fail
    rw [← hW0]
    clear hW0
    go_quiet (first | (go_at_call_of 9 (Value.int IntKind.i64 3); exact Calls.quiet_of_same (c3 _)) | (go_at_call_of 9 (Value.int IntKind.i64 20); exact Calls.quiet_of_same (c20 _)))
    have hl := HL.out nq
    obtain ⟨d0, d1, d2, d3⟩ := HC.out nq
    clear c3 c20 c2 c3'
    generalize W0.drewN nq = W1 at *
    go_wp2_with fail
    refine (HC33.out _).mono ?_
    rintro r wz ⟨rfl, rfl⟩
    go_wp2_with fail
    refine hl.mono ?_
    rintro r w6 ⟨rfl, hE⟩
    have HE := Lib.hid hE
    clear hE hl
    go_wp2_with fail
    go_ret
    exact ⟨rfl, HE.out⟩
  have hk3 : ¬ kd = 3 := hk
  clear hk
  by_cases hk : kd = 4
  · skip
    have HL : Hid (∀ nq, Calls Try.prog 41 #[.pointer (some ⟨d, 0, none⟩), .string ⟨(nm.take 3).toArray⟩] (W0.drewN nq) fun e w' => e = .returned (.int .i64 (actR S ⟨kd, nn, nm, tx, co, cc, ch⟩)) ∧ Eff w w' d (actS S ⟨kd, nn, nm, tx, co, cc, ch⟩) F) := Lib.hid (fun nq => by
      have e : actW S ⟨kd, nn, nm, tx, co, cc, ch⟩ = (wrN S (nm.take 3), wo (nm.take 3) S.X) := by unfold actW; simp [hk]
      unfold actR actS
      rw [e]
      exact (dkremove_any (hA0 nq) ok (nm.take 3) (h3 _)).mono (by rintro e w' ⟨rfl, hE⟩; exact ⟨rfl, hE0 nq _ _ hE⟩))
    generalize actR S ⟨kd, nn, nm, tx, co, cc, ch⟩ = R at HL ⊢
    generalize actS S ⟨kd, nn, nm, tx, co, cc, ch⟩ = S' at HL ⊢
    subst hk
    have HC33 := Lib.hid c33
    clear h hE0 hA0 hb0 hr0 ok h3 h20 c33 hnm htx
    go_enter Try.func21, Try.ntmps21
    go_upto_region 1 with fail
    rw [← hW0]
    clear hW0
    go_quiet (first | (go_at_call_of 9 (Value.int IntKind.i64 3); exact Calls.quiet_of_same (c3 _)) | (go_at_call_of 9 (Value.int IntKind.i64 20); exact Calls.quiet_of_same (c20 _)))
    have hl := HL.out nq
    obtain ⟨d0, d1, d2, d3⟩ := HC.out nq
    clear c3 c20 c2 c3'
    generalize W0.drewN nq = W1 at *
    go_wp2_with fail
    refine hl.mono ?_
    rintro r w6 ⟨rfl, hE⟩
    have HE := Lib.hid hE
    clear hE hl
    go_wp2_with fail
    go_ret
    exact ⟨rfl, HE.out⟩
  have hk4 : ¬ kd = 4 := hk
  clear hk
  have hk : True := trivial
  have HL : Hid (∀ nq, Calls Try.prog 18 #[.pointer (some ⟨d, 0, none⟩), .string ⟨(nm.take 3).toArray⟩, .string ⟨(tx.take 20).toArray⟩] (W0.drewN nq) fun e w' => e = .returned (.int .i64 (actR S ⟨kd, nn, nm, tx, co, cc, ch⟩)) ∧ Eff w w' d (actS S ⟨kd, nn, nm, tx, co, cc, ch⟩) F) := Lib.hid (fun nq => by
    have e : actW S ⟨kd, nn, nm, tx, co, cc, ch⟩ = (wrA S (tx.take 20), apX S (nm.take 3) (tx.take 20)) := by unfold actW; simp [hk, hk1, hk2, hk3, hk4]
    unfold actR actS
    rw [e]
    exact (dkappend_any (hA0 nq) ok (nm.take 3) (tx.take 20) (h3 _) h20).mono (by rintro e w' ⟨rfl, hE⟩; exact ⟨rfl, hE0 nq _ _ hE⟩))
  generalize actR S ⟨kd, nn, nm, tx, co, cc, ch⟩ = R at HL ⊢
  generalize actS S ⟨kd, nn, nm, tx, co, cc, ch⟩ = S' at HL ⊢
  have b1 : (kd == 1) = false := by simpa using hk1
  have b2 : (kd == 2) = false := by simpa using hk2
  have b3 : (kd == 3) = false := by simpa using hk3
  have b4 : (kd == 4) = false := by simpa using hk4
  clear hk hk1 hk2 hk3 hk4
  have HC33 := Lib.hid c33
  clear h hE0 hA0 hb0 hr0 ok h3 h20 c33 hnm htx
  go_enter Try.func21, Try.ntmps21
  go_upto_region 1 with fail
  rw [← hW0]
  clear hW0
  go_quiet (first | (go_at_call_of 9 (Value.int IntKind.i64 3); exact Calls.quiet_of_same (c3 _)) | (go_at_call_of 9 (Value.int IntKind.i64 20); exact Calls.quiet_of_same (c20 _)))
  have hl := HL.out nq
  obtain ⟨d0, d1, d2, d3⟩ := HC.out nq
  clear c3 c20 c2 c3'
  generalize W0.drewN nq = W1 at *
  go_wp2_with fail
  refine hl.mono ?_
  rintro r w6 ⟨rfl, hE⟩
  have HE := Lib.hid hE
  clear hE hl
  go_wp2_with fail
  go_ret
  exact ⟨rfl, HE.out⟩
end Go.Proofs.Ytpbcglepecojmaa

namespace Go.Proofs.Ytpbcglepecojmaa
open Go.RowKit

theorem exec_load_act {o : Oper} {a : Act} {w : World} (x : Operand) (ho : o.op = .load 31 x) (b off : Nat) (hx : a.eval x = .pointer (some ⟨b, off, none⟩)) (y : AX) (hc : ∀ i u, y.cells[i]? = some u → w.cell? ⟨b, off + i, none⟩ = some u) :
    (execOp a.eval o).run Try.prog w = .ok (.value (.agg y.cells.toArray)) w := by
  have hl := run_loadVar_mid (P := Try.prog) w b off 31 y.cells _ (fun j v hv => hc j v hv) Try.underlying31 rfl (by kernel_rfl)
  unfold execOp
  simp only [ho, hx, Instr.loadAt, Instr.sureAddr, Sem.run_bind, Sem.run_pure, Result.andThen_ok, hl]
theorem Dk.do {w0 w : World} {d : Nat} {S : St} (h : Dk w0 w d S) (ok : Ok S) (x : AX) (hnm : x.nm.length ≤ maxLen) (htx : x.tx.length ≤ maxLen) :
    Calls Try.prog 21 #[.pointer (some ⟨d, 0, none⟩), .agg x.cells.toArray] w fun e w' => e = .returned (.int .i64 (actR S x)) ∧ Dk w0 w' d (actS S x) := by
  obtain ⟨F, hA, hF, hB⟩ := h
  exact (do09_any hA ok x hnm htx).mono (by rintro e w' ⟨rfl, hE⟩; exact ⟨rfl, Dk.eff hF hB hE⟩)
/-- A disk that no halt was asked of. -/
def Up (S : St) : Prop := S.dn = false ∧ S.lf = -1
theorem Up.act {S : St} (h : Up S) (x : AX) : Up (actS S x) ∧ (actS S x).rm = S.rm := by
  obtain ⟨h1, h2⟩ := h
  unfold actS dedS
  rw [h1, h2]
  by_cases hw : (actW S x).1 = 0
  · simp [hw, lfX, Up]
  · simp [hw, Up, h1, h2]
/-- The file of that name, behind a crash. -/
theorem crX_fi {X : List FX} (h : SrtX X) (hs : ∀ x ∈ X, x.2.2 ≤ x.2.1.length) (ch : List Int) {k : List UInt8} (hk : hasX k X = true) :
    ∃ m, m ≤ (fiX k X).2.1.length ∧ (fiX k X).2.2 ≤ m ∧ (fiX k (crX ch X)).2.1 = (fiX k X).2.1.take m ∧ (fiX k (crX ch X)).2.2 = m ∧ hasX k (crX ch X) = true := by
  have hm := fiX_mem hk
  have hkey := fiX_key k X
  obtain ⟨j, hj, e⟩ := List.mem_iff_getElem.1 hm
  have hj2 : j < (crX ch X).length := by rw [crX_len]; exact hj
  obtain ⟨x, hx, hn, m, h1, h2, h3, h4⟩ := crX_all ch X hs j (crX ch X)[j] (List.getElem?_eq_getElem hj2)
  have ex : x = fiX k X := by rw [List.getElem?_eq_getElem hj, e] at hx; exact (Option.some.inj hx).symm
  have hso : SrtX (crX ch X) := srt_of_map (crX_map ch X) h
  have hself := fiX_self hso (List.getElem_mem hj2)
  rw [hn, ex, hkey] at hself
  subst ex
  refine ⟨m, h1, h2, by rw [hself, h3], by rw [hself, h4], ?_⟩
  unfold hasX
  rw [List.any_eq_true]
  exact ⟨_, List.getElem_mem hj2, by rw [hn, hkey]; simp⟩
set_option maxRecDepth 20000 in
set_option maxHeartbeats 8000000 in
theorem diskKeeps_any (w : World) (ao : Option Addr) (cap : Nat) (L : List AX) (hL : Rd encX w ao L) (hLx : ∀ s ∈ L, okX w s) (hLl : L.length ≤ 9223372036854775807) (co : Option Addr) (cc : Nat) (ch : List Int) (hch : Rd encI w co ch) (hcl : (ch.length : Int) ≤ 9223372036854775807) (hcc : ch.length ≤ cc) :
    Calls Try.prog 4 #[.slice ao L.length cap, .slice co ch.length cc] w fun r w' => r = .returned (.bool true) ∧ Below w.heap.size w w' := by
  have HA := Lib.hid (awake09_any w)
  have HN := Lib.hid (fun w => Dk.new 4000 4000 4000 w (by decide) (by decide))
  obtain ⟨chf, hcf⟩ : ∃ c, c = ch.take 20 := ⟨_, rfl⟩
  have HCF := Lib.hid hcf
  have HFW := Lib.hid (fun w => few09_any co cc ch w hcc hcl)
  rw [← hcf] at HFW
  clear hcf
  have HL := Lib.hid hL
  have HLX := Lib.hid hLx
  have HCH := Lib.hid hch
  have HCC := Lib.hid hcc
  obtain ⟨nl, hnl⟩ : ∃ nl, nl = L.length := ⟨_, rfl⟩
  have HNL := Lib.hid hnl
  obtain ⟨nc, hnc⟩ : ∃ nc, nc = ch.length := ⟨_, rfl⟩
  rw [← hnl] at hLl ⊢
  rw [← hnc] at HFW ⊢
  clear hL hLx hch hcl hcc hnl hnc
  go_enter Try.func4, Try.ntmps4
  go_wp2_with fail
  refine HA.out.mono ?_
  rintro e w1 ⟨rfl, hb1⟩
  have HB1 := Lib.hid hb1
  clear hb1
  go_wp2_with fail
  refine (HN.out _).mono ?_
  rintro e w2 ⟨p, rfl, hD⟩
  have HK0 : Hid (∃ S, Gd S 0 ∧ Up S ∧ S.rm = 4000 ∧ Dk w1 w2 p S) := Lib.hid ⟨_, Gd.new 4000 (by decide) (by decide), ⟨rfl, rfl⟩, rfl, hD⟩
  clear hD HN HA
  go_wp2_with fail
  go_loopw [6] (fun s6 wr => ∃ i : Nat, i ≤ nl ∧ i ≤ 30 ∧ s6 = .int .i64 (i : Int) ∧ Hid (∃ S, Gd S i ∧ Up S ∧ S.rm = 4000 ∧ Dk w1 wr p S)) (fun s6 _ => 30 - (intOf s6).toNat)
  case atStart => exact ⟨0, Nat.zero_le _, by omega, rfl, HK0⟩
  case round =>
    obtain ⟨i, hi, hi2, rfl, hR⟩ := hrel
    by_cases hend : i < nl ∧ i < 30
    · obtain ⟨S, hg, hup, hrm, hD⟩ := hR.out
      obtain ⟨hd1, hd2⟩ := hend
      obtain ⟨ab, af, hae, _, hac⟩ := (HL.out.old (HB1.out.trans (hD.b.mono HB1.out.size))).ax i (by rw [← HNL.out]; exact hd1)
      have hxo := HLX.out (L[i]'(by rw [← HNL.out]; exact hd1)) (List.getElem_mem _)
      subst hae
      generalize L[i]'(by rw [← HNL.out]; exact hd1) = x at hac hxo
      have e1 : decide ((i : Int) < (nl : Int)) = true := by simpa using hd1
      have e2 : decide ((i : Int) < 30) = true := by simp; omega
      have HDO := Lib.hid (hD.do (hg.ok (by omega)) x hxo.nm hxo.tx)
      have c0 : wr.cell? ⟨ab, af + i * 5, none⟩ = some (.int .i64 x.kd) := hac 0 _ rfl
      have c1 : wr.cell? ⟨ab, af + i * 5 + 1, none⟩ = some (.int .i64 x.nn) := hac 1 _ rfl
      have c2 : wr.cell? ⟨ab, af + i * 5 + 2, none⟩ = some (.string ⟨x.nm.toArray⟩) := hac 2 _ rfl
      have c3 : wr.cell? ⟨ab, af + i * 5 + 3, none⟩ = some (.string ⟨x.tx.toArray⟩) := hac 3 _ rfl
      have c4 : wr.cell? ⟨ab, af + i * 5 + 4, none⟩ = some (.slice x.co x.ch.length x.cc) := hac 4 _ rfl
      have HG : Hid (Gd (actS S x) (i + 1) ∧ Up (actS S x) ∧ (actS S x).rm = 4000) := Lib.hid ⟨hg.act x, (hup.act x).1, (hup.act x).2.trans hrm⟩
      clear hR HK0 hg hup hrm hD hac hxo
      go_wp2_with fail
      refine HDO.out.mono ?_
      rintro r w5 ⟨rfl, hD5⟩
      have HD5 := Lib.hid hD5
      clear hD5
      go_wp2_with fail
      refine ⟨⟨i + 1, by omega, by omega, by simp, Lib.hid ⟨_, HG.out.1, HG.out.2.1, HG.out.2.2, HD5.out⟩⟩, ?_⟩
      show 30 - ((i : Int) + 1).toNat < 30 - ((i : Int)).toNat
      omega
    · obtain ⟨S, hg, hup, hrm, hD⟩ := hR.out
      have hcase : (¬ (i : Int) < (nl : Int)) ∨ ((i : Int) < (nl : Int) ∧ ¬ (i : Int) < 30) := by omega
      obtain ⟨F, hA, hF, hB⟩ := hD
      have ok := hg.ok (by omega)
      have HCL : Hid (Calls Try.prog 16 #[.pointer (some ⟨p, 0, none⟩)] wr fun e w' => ∃ c G, e = .returned (.pointer (some ⟨c, 0, none⟩)) ∧ DA w' c S G ∧ (∀ i, G i → wr.heap.size ≤ i) ∧ Below wr.heap.size wr w') := Lib.hid (dkclone_any hA ok)
      have HDA := Lib.hid hA
      have HOK := Lib.hid ok
      have HUP := Lib.hid hup
      have HW := Lib.hid (HB1.out.trans (hB.mono HB1.out.size))
      have HG := Lib.hid hg
      have HI30 := Lib.hid hi2
      clear hR HK0 hg hup hrm hA hF hB ok hend hi2 hi
      rcases hcase with h1 | ⟨h1, h2⟩ <;>
      · go_wp2_with fail
        refine HCL.out.mono ?_
        rintro e w3 ⟨c, G, rfl, hC, hG, hb3⟩
        have HC3 := Lib.hid hC
        have HG3 := Lib.hid hG
        have HB3 := Lib.hid hb3
        have HNM := Lib.hid (dknames_any (HDA.out.old hb3) (Nat.le_trans HOK.out.n (by decide)) HOK.out.k)
        clear hC hG hb3
        go_wp2_with fail
        refine HNM.out.mono ?_
        rintro e w4 ⟨q, qc, rfl, hq, hqn, hb4⟩
        have HQ4 := Lib.hid hq
        have HQN := Lib.hid hqn
        have HB4 := Lib.hid hb4
        clear hq hqn hb4 HNM HCL
        go_wp2_with fail
        refine (HFW.out _).mono ?_
        rintro e w4' ⟨rfl, rfl⟩
        have HCR := Lib.hid (dkcrash_any (HC3.out.old HB4.out) HOK.out co cc chf (by have h1 := HCC.out; rw [HCF.out, List.length_take]; omega) (by rw [HCF.out]; exact (HCH.out.take 20).old (HW.out.trans ((HB3.out.mono HW.out.size).trans (HB4.out.mono (Nat.le_trans HW.out.size HB3.out.size)))))
          (fun hne a e hf => by
            have h1 := HG3.out _ hf
            have h2 := HW.out.size
            have hne2 : ch ≠ [] := by rintro rfl; exact hne (by rw [HCF.out]; rfl)
            obtain ⟨x0, l0, e0⟩ := List.exists_cons_of_ne_nil hne2
            obtain ⟨b0, o0, e1, hlt, _⟩ := HCH.out 0 (by rw [e0]; simp)
            rw [e] at e1
            obtain rfl := Option.some.inj e1
            simp only at h1
            omega))
        go_wp2_with fail
        refine HCR.out.mono ?_
        rintro e w5 ⟨rfl, hE⟩
        obtain ⟨G', hC5, hG', hm5⟩ := hE
        have hFlt := HDA.out.lt
        have hGlt := HC3.out.lt
        have HP5 : Hid (DA w5 p S F) := Lib.hid (((HDA.out.old HB3.out).old HB4.out).kept hm5 (fun i hi hg => by have h1 := hFlt i hi; have h2 := HG3.out i hg; omega))
        have HN5 : Hid (Rd encS w5 q (S.X.map (·.1))) := Lib.hid ((HQ4.out.kept hm5 (fun a e hg => by have h1 := HQN.out a e; have h2 := hGlt _ hg; omega)).rd)
        have HC5 := Lib.hid hC5
        have HB5 : Hid (Below w.heap.size w w5) := Lib.hid ((HW.out.trans ((HB3.out.mono HW.out.size).trans (HB4.out.mono (Nat.le_trans HW.out.size HB3.out.size)))).trans (hm5.to_below (by have h1 := HW.out.size; have h2 := HB3.out.size; have h3 := HB4.out.size; omega) (fun k hk hg => by have h1 := HG3.out k hg; have h2 := HW.out.size; omega)))
        have HOK2 : Hid (Ok { S with X := crX chf S.X, lf := -1, dn := false }) := Lib.hid ((HG.out.crash chf).ok (by have := HI30.out; omega))
        have HNM2 := Lib.hid (dknames_any HC5.out (Nat.le_trans HOK2.out.n (by decide)) HOK2.out.k)
        simp only [crX_len] at HNM2
        clear hC5 hG' hm5 hFlt hGlt HCR
        go_wp2_with fail
        refine HNM2.out.mono ?_
        rintro e w6 ⟨q2, qc2, rfl, _, _, hb6⟩
        have HB6 := Lib.hid hb6
        clear hb6 HNM2
        obtain ⟨ns, hns⟩ : ∃ ns, ns = S.X.length := ⟨_, rfl⟩
        have HNS := Lib.hid hns
        have hnb : ns ≤ 1000000 := by have := HOK.out.n; omega
        rw [← hns]
        clear hns
        have hU := crX_used chf S.X
        have HU1 : Hid (∀ w', Below w5.heap.size w5 w' → Calls Try.prog 24 #[.pointer (some ⟨c, 0, none⟩)] w' fun e w'' => e = .returned (.int .i64 (usedX (crX chf S.X) : Nat)) ∧ Below w'.heap.size w' w'') := Lib.hid (fun w' hb => dkused_any (HC5.out.old hb) (Nat.le_trans HOK2.out.n (by decide)) HOK2.out.f)
        have HU2 : Hid (∀ w', Below w5.heap.size w5 w' → Calls Try.prog 24 #[.pointer (some ⟨p, 0, none⟩)] w' fun e w'' => e = .returned (.int .i64 (usedX S.X : Nat)) ∧ Below w'.heap.size w' w'') := Lib.hid (fun w' hb => dkused_any (HP5.out.old hb) (Nat.le_trans HOK.out.n (by decide)) HOK.out.f)
        generalize usedX (crX chf S.X) = u1 at hU HU1
        generalize usedX S.X = u2 at hU HU2
        go_wp2_with fail
        go_loopw [10, 11, 12, 13, 14, 52] (fun _ _ _ _ _ s52 wr => ∃ j : Nat, j ≤ ns ∧ s52 = .int .i64 (j : Int) ∧ Hid (Below w5.heap.size w5 wr)) (fun _ _ _ _ _ s52 _ => ns - (intOf s52).toNat)
        case atStart => exact ⟨0, Nat.zero_le _, rfl, HB6⟩
        case round =>
          obtain ⟨j, hj, rfl, HBR⟩ := hrel
          by_cases hend : j < ns
          · obtain ⟨nb, no, hqe, _, hnc⟩ := (HN5.out.old HBR.out).str j (by rw [List.length_map, ← HNS.out]; exact hend)
            subst hqe
            have hmem : (S.X.map (·.1))[j]'(by rw [List.length_map, ← HNS.out]; exact hend) ∈ S.X.map (·.1) := List.getElem_mem _
            generalize (S.X.map (·.1))[j]'(by rw [List.length_map, ← HNS.out]; exact hend) = k at hnc hmem
            obtain ⟨z, hz, hzk⟩ := List.mem_map.1 hmem
            have hkl : k.length ≤ 1000000 := by rw [← hzk]; exact HOK.out.k z hz
            have hhas : hasX k S.X = true := by unfold hasX; rw [List.any_eq_true]; exact ⟨z, hz, by rw [hzk]; simp⟩
            obtain ⟨m, hm1, hm2, hm3, hm4, hm5⟩ := crX_fi HG.out.so HG.out.sy chf hhas
            have hmax : k.length ≤ maxLen := by unfold maxLen; omega
            have HR1 : Hid (∀ w', Below w5.heap.size w5 w' → Calls Try.prog 10 #[.pointer (some ⟨p, 0, none⟩), .string ⟨k.toArray⟩] w' fun e w'' => e = .returned (.tuple #[.string ⟨(fiX k S.X).2.1.toArray⟩, .int .i64 0]) ∧ Below w'.heap.size w' w'') := Lib.hid (fun w' hb => by
              have := dkread_any (HP5.out.old hb) k hmax
              have e : rdX S k = ((fiX k S.X).2.1, 0) := by unfold rdX; rw [HUP.out.1, hhas]; rfl
              rwa [e] at this)
            have HR2 : Hid (∀ w', Below w5.heap.size w5 w' → Calls Try.prog 10 #[.pointer (some ⟨c, 0, none⟩), .string ⟨k.toArray⟩] w' fun e w'' => e = .returned (.tuple #[.string ⟨((fiX k S.X).2.1.take m).toArray⟩, .int .i64 0]) ∧ Below w'.heap.size w' w'') := Lib.hid (fun w' hb => by
              have := dkread_any (HC5.out.old hb) k hmax
              have e : rdX { S with X := crX chf S.X, lf := -1, dn := false } k = ((fiX k S.X).2.1.take m, 0) := by unfold rdX; simp only [Bool.false_eq_true, if_false, hm5, hm3, if_true]
              rwa [e] at this)
            have HL1 : Hid (∀ w', Below w5.heap.size w5 w' → Calls Try.prog 23 #[.pointer (some ⟨p, 0, none⟩), .string ⟨k.toArray⟩] w' fun e w'' => e = .returned (.int .i64 (((fiX k S.X).2.1.length - (fiX k S.X).2.2 : Nat) : Int)) ∧ Below w'.heap.size w' w'') := Lib.hid (fun w' hb => dkloose_any (HP5.out.old hb) k hmax HOK.out.f)
            have HL2 : Hid (∀ w', Below w5.heap.size w5 w' → Calls Try.prog 23 #[.pointer (some ⟨c, 0, none⟩), .string ⟨k.toArray⟩] w' fun e w'' => e = .returned (.int .i64 0) ∧ Below w'.heap.size w' w'') := Lib.hid (fun w' hb => by
              have := dkloose_any (HC5.out.old hb) k hmax HOK2.out.f
              simp only at this
              rw [hm3, hm4, List.length_take, show min m (fiX k S.X).2.1.length - m = 0 by omega] at this
              exact this)
            have hwl : (fiX k S.X).2.1.length ≤ 2000000000 := fiX_len HOK.out.f k
            obtain ⟨nw, hnw⟩ : ∃ nw, nw = (fiX k S.X).2.1.take m := ⟨_, rfl⟩
            have hnl : nw.length = m := by rw [hnw, List.length_take]; omega
            have hx : (ByteArray.mk (fiX k S.X).2.1.toArray).extract 0 nw.length = ⟨nw.toArray⟩ := by rw [extract_head, hnl, hnw]
            rw [← hnw] at HR2
            obtain ⟨lo, hlo⟩ : ∃ lo, lo = (fiX k S.X).2.1.length - (fiX k S.X).2.2 := ⟨_, rfl⟩
            rw [← hlo] at HL1
            have hq1 : nw.length ≤ (fiX k S.X).2.1.length := by omega
            have hq2 : (fiX k S.X).2.1.length - lo ≤ nw.length := by omega
            have hq3 : lo ≤ (fiX k S.X).2.1.length := by omega
            generalize (fiX k S.X).2.1 = wa at *
            clear hnw hnl hlo hm1 hm2 hm3 hm4 hm5 hz hzk hkl hhas hmem hmax
            go_wp2_with fail
            refine (HR1.out _ HBR.out).mono ?_
            rintro e w7 ⟨rfl, hb⟩
            have HB7 := Lib.hid (HBR.out.trans (hb.mono HBR.out.size))
            clear hb
            go_wp2_with fail
            refine (HR2.out _ HB7.out).mono ?_
            rintro e w8 ⟨rfl, hb⟩
            have HB8 := Lib.hid (HB7.out.trans (hb.mono HB7.out.size))
            clear hb
            have hwrp : IntKind.i64.wrap ((wa.length : Int) - (lo : Int)) = (wa.length : Int) - (lo : Int) := by rw [IntKind.wrap_i64]; omega
            go_wp2_with fail
            refine (HL1.out _ HB8.out).mono ?_
            rintro e w9 ⟨rfl, hb⟩
            have HB9 := Lib.hid (HB8.out.trans (hb.mono HB8.out.size))
            clear hb
            go_wp2_with fail
            refine (HL2.out _ HB9.out).mono ?_
            rintro e wa0 ⟨rfl, hb⟩
            have HBA := Lib.hid (HB9.out.trans (hb.mono HB9.out.size))
            clear hb
            go_wp2_with fail
            refine ⟨⟨j + 1, by omega, by simp, HBA⟩, ?_⟩
            show ns - ((j : Int) + 1).toNat < ns - ((j : Int)).toNat
            omega
          · have hend2 : ¬ (j : Int) < (ns : Int) := by omega
            clear hend
            go_wp2_with fail
            refine (HU1.out _ HBR.out).mono ?_
            rintro e w7 ⟨rfl, hb⟩
            have HB7 := Lib.hid (HBR.out.trans (hb.mono HBR.out.size))
            clear hb
            go_wp2_with fail
            refine (HU2.out _ HB7.out).mono ?_
            rintro e w8 ⟨rfl, hb⟩
            have HB8 := Lib.hid (HB5.out.trans ((HB7.out.trans (hb.mono HB7.out.size)).mono HB5.out.size))
            clear hb
            go_wp2_with fail
            go_ret
            exact ⟨rfl, HB8.out⟩
end Go.Proofs.Ytpbcglepecojmaa

namespace Go.Proofs.Ytpbcglepecojmaa
open Go.RowKit

/-- Two disks that are made since w0 and lie apart; the blocks of K are no one's, and as in V. -/
def D2 (w0 w : World) (d : Nat) (S : St) (c : Nat) (T : St) (K : Nat → Prop) (V : World) : Prop :=
  ∃ F G, DA w d S F ∧ DA w c T G ∧ (∀ i, F i → ¬ G i) ∧ (∀ i, F i → w0.heap.size ≤ i) ∧ (∀ i, G i → w0.heap.size ≤ i) ∧ Below w0.heap.size w0 w ∧ ∀ i, K i → i < w.heap.size ∧ ¬ F i ∧ ¬ G i ∧ w.heap[i]? = V.heap[i]?
section
variable {w0 w w' : World} {d c : Nat} {S T S' : St} {K : Nat → Prop} {V : World}
theorem D2.b (h : D2 w0 w d S c T K V) : Below w0.heap.size w0 w := by obtain ⟨_, _, _, _, _, _, _, h, _⟩ := h; exact h
theorem D2.at (h : D2 w0 w d S c T K V) : ∀ i, K i → w.heap[i]? = V.heap[i]? := by obtain ⟨_, _, _, _, _, _, _, _, h⟩ := h; exact fun i hi => (h i hi).2.2.2
theorem D2.das (h : D2 w0 w d S c T K V) : ∃ F G, DA w d S F ∧ DA w c T G := by obtain ⟨F, G, h1, h2, _⟩ := h; exact ⟨F, G, h1, h2⟩
theorem D2.swap (h : D2 w0 w d S c T K V) : D2 w0 w c T d S K V := by
  obtain ⟨F, G, h1, h2, h3, h4, h5, h6, h7⟩ := h
  exact ⟨G, F, h2, h1, fun i hg hf => h3 i hf hg, h5, h4, h6, fun i hi => ⟨(h7 i hi).1, (h7 i hi).2.2.1, (h7 i hi).2.1, (h7 i hi).2.2.2⟩⟩
theorem D2.old (h : D2 w0 w d S c T K V) (hb : Below w.heap.size w w') : D2 w0 w' d S c T K V := by
  obtain ⟨F, G, h1, h2, h3, h4, h5, h6, h7⟩ := h
  exact ⟨F, G, h1.old hb, h2.old hb, h3, h4, h5, h6.trans (hb.mono h6.size), fun i hi => ⟨Nat.lt_of_lt_of_le (h7 i hi).1 hb.size, (h7 i hi).2.1, (h7 i hi).2.2.1, (hb.block i (h7 i hi).1).trans (h7 i hi).2.2.2⟩⟩
theorem D2.eff (h : D2 w0 w d S c T K V) : ∃ F, DA w d S F ∧ (∀ i, F i → w0.heap.size ≤ i) ∧ ∀ w' S', Eff w w' d S' F → D2 w0 w' d S' c T K V := by
  obtain ⟨F, G, h1, h2, h3, h4, h5, h6, h7⟩ := h
  refine ⟨F, h1, h4, fun w' S' hE => ?_⟩
  obtain ⟨F', hA, hF', hm⟩ := hE
  have hgl := h2.lt
  refine ⟨F', G, hA, h2.kept hm (fun i hg hf => h3 i hf hg), fun i hf hg => ?_, fun i hi => ?_, h5, h6.trans (hm.to_below h6.size (fun k hk hf => by have := h4 k hf; omega)), fun i hi => ?_⟩
  · rcases hF' i hf with h | h
    · exact h3 i h hg
    · have := hgl i hg; omega
  · rcases hF' i hi with h | h
    · exact h4 i h
    · exact Nat.le_trans h6.size h
  · obtain ⟨k1, k2, k3, k4⟩ := h7 i hi
    refine ⟨Nat.lt_of_lt_of_le k1 hm.size, fun hf => ?_, k3, (hm.block i k1 k2).trans k4⟩
    rcases hF' i hf with h | h
    · exact k2 h
    · omega
theorem D2.step (h : D2 w0 w d S c T K V) {f : FuncId} {args : Array Value} {r : Ending} (hc : ∀ F, DA w d S F → (∀ i, F i → w0.heap.size ≤ i) → Calls Try.prog f args w fun e w' => e = r ∧ Eff w w' d S' F) :
    Calls Try.prog f args w fun e w' => e = r ∧ D2 w0 w' d S' c T K V := by
  obtain ⟨F, h1, h2, h3⟩ := h.eff
  exact (hc F h1 h2).mono (by rintro e w' ⟨rfl, hE⟩; exact ⟨rfl, h3 _ _ hE⟩)
/-- A new block beside them. -/
theorem D2.keep (h : D2 w0 w d S c T K V) (g : Nat) (hb : Below w.heap.size w w') (hg : w.heap.size ≤ g) (hg2 : g < w'.heap.size) : D2 w0 w' d S c T (fun i => i = g) w' := by
  obtain ⟨F, G, h1, h2, h3, h4, h5, h6, h7⟩ := h
  exact ⟨F, G, h1.old hb, h2.old hb, h3, h4, h5, h6.trans (hb.mono h6.size), fun i hi => by
    subst hi
    exact ⟨hg2, (fun hf => by have := h1.lt i hf; omega), (fun hf => by have := h2.lt i hf; omega), rfl⟩⟩
theorem D2.free (h : D2 w0 w d S c T K V) : D2 w0 w d S c T (fun _ => False) w := by
  obtain ⟨F, G, h1, h2, h3, h4, h5, h6, _⟩ := h
  exact ⟨F, G, h1, h2, h3, h4, h5, h6, fun _ h => h.elim⟩
/-- A disk's clone beside it. -/
theorem D2.clone (h : Dk w0 w d S) (ok : Ok S) : Calls Try.prog 16 #[.pointer (some ⟨d, 0, none⟩)] w fun e w' => ∃ p, e = .returned (.pointer (some ⟨p, 0, none⟩)) ∧ D2 w0 w' d S p S (fun _ => False) w' := by
  obtain ⟨F, hA, hF, hB⟩ := h
  refine (dkclone_any hA ok).mono ?_
  rintro e w' ⟨p, G, rfl, hG, hg, hb⟩
  have hl := hA.lt
  exact ⟨p, rfl, F, G, hA.old hb, hG, fun i hf hg' => by have h1 := hl i hf; have h2 := hg i hg'; omega, hF, fun i hi => Nat.le_trans hB.size (hg i hi), hB.trans (hb.mono hB.size), fun _ h => h.elim⟩
end
/-- What one of the twins is behind a call. -/
def twS (S : St) (x : AX) : St := if x.kd = 6 then { S with lf := max x.nn (-1) } else if x.kd = 7 then { S with X := crX (x.ch.take 20) S.X, lf := -1, dn := false } else actS S x
theorem Gd.tw {S : St} {n : Nat} (h : Gd S n) (x : AX) (hx : x.nn ≤ 9223372036854775807) : Gd (twS S x) (n + 1) := by
  unfold twS
  split
  · exact (h.halt x.nn hx).more (by omega)
  · split
    · exact (h.crash _).more (by omega)
    · exact h.act x
/-- What both are while k of them were asked. -/
def atS (k : Nat) (S S' : St) : St := if k = 0 then S else S'
set_option maxRecDepth 20000 in
set_option maxHeartbeats 8000000 in
theorem diskTwins_any (w : World) (rq : Int) (ao : Option Addr) (cap : Nat) (L : List AX) (hL : Rd encX w ao L) (hLx : ∀ s ∈ L, okX w s) (hLl : L.length ≤ 9223372036854775807) (ao2 : Option Addr) (cap2 : Nat) (L2 : List AX) (hL2 : Rd encX w ao2 L2) (hLx2 : ∀ s ∈ L2, okX w s) (hLl2 : L2.length ≤ 9223372036854775807) :
    Calls Try.prog 6 #[.int .i64 rq, .slice ao L.length cap, .slice ao2 L2.length cap2] w fun r w' => r = .returned (.bool true) ∧ Below w.heap.size w w' := by
  have HA := Lib.hid (awake09_any w)
  obtain ⟨r1, hr1⟩ : ∃ r, min rq 300 = r := ⟨_, rfl⟩
  obtain ⟨r, hr⟩ : ∃ r, max 0 r1 = r := ⟨_, rfl⟩
  have hrb : 0 ≤ r ∧ r ≤ 300 := by omega
  have HN : Hid (∀ w, Calls Try.prog 8 #[.int .i64 r] w fun e w' => ∃ p, e = .returned (.pointer (some ⟨p, 0, none⟩)) ∧ Dk w w' p ⟨r, 0, -1, false, []⟩) := Lib.hid (fun w => Dk.new r r r w (by omega) (by omega))
  have HRB := Lib.hid hrb
  have HL := Lib.hid hL
  have HLX := Lib.hid hLx
  have HL2 := Lib.hid hL2
  have HLX2 := Lib.hid hLx2
  obtain ⟨nl, hnl⟩ : ∃ nl, nl = L.length := ⟨_, rfl⟩
  have HNL := Lib.hid hnl
  obtain ⟨nl2, hnl2⟩ : ∃ nl, nl = L2.length := ⟨_, rfl⟩
  have HNL2 := Lib.hid hnl2
  rw [← hnl] at hLl ⊢
  rw [← hnl2] at hLl2 ⊢
  clear hL hLx hL2 hLx2 hnl hnl2 hrb
  go_enter Try.func6, Try.ntmps6
  go_wp2_with fail
  refine HA.out.mono ?_
  rintro e w1 ⟨rfl, hb1⟩
  have HB1 := Lib.hid hb1
  clear hb1
  go_wp2_with fail
  refine (HN.out _).mono ?_
  rintro e w2 ⟨p, rfl, hD⟩
  have HK0 : Hid (∃ S, Gd S 0 ∧ Dk w1 w2 p S) := Lib.hid ⟨_, Gd.new r HRB.out.1 (by have := HRB.out.2; omega), hD⟩
  clear hD HN HA
  go_wp2_with fail
  go_loopw [8] (fun s8 wr => ∃ i : Nat, i ≤ nl ∧ i ≤ 20 ∧ s8 = .int .i64 (i : Int) ∧ Hid (∃ S, Gd S i ∧ Dk w1 wr p S)) (fun s8 _ => 20 - (intOf s8).toNat)
  case atStart => exact ⟨0, Nat.zero_le _, by omega, rfl, HK0⟩
  case round =>
    obtain ⟨i, hi, hi2, rfl, hR⟩ := hrel
    by_cases hend : i < nl ∧ i < 20
    · obtain ⟨S, hg, hD⟩ := hR.out
      obtain ⟨hd1, hd2⟩ := hend
      obtain ⟨ab, af, hae, _, hac⟩ := (HL.out.old (HB1.out.trans (hD.b.mono HB1.out.size))).ax i (by rw [← HNL.out]; exact hd1)
      have hxo := HLX.out (L[i]'(by rw [← HNL.out]; exact hd1)) (List.getElem_mem _)
      subst hae
      generalize L[i]'(by rw [← HNL.out]; exact hd1) = x at hac hxo
      have e1 : decide ((i : Int) < (nl : Int)) = true := by simpa using hd1
      have e2 : decide ((i : Int) < 20) = true := by simp; omega
      have HDO := Lib.hid (hD.do (hg.ok (by omega)) x hxo.nm hxo.tx)
      have c0 : wr.cell? ⟨ab, af + i * 5, none⟩ = some (.int .i64 x.kd) := hac 0 _ rfl
      have c1 : wr.cell? ⟨ab, af + i * 5 + 1, none⟩ = some (.int .i64 x.nn) := hac 1 _ rfl
      have c2 : wr.cell? ⟨ab, af + i * 5 + 2, none⟩ = some (.string ⟨x.nm.toArray⟩) := hac 2 _ rfl
      have c3 : wr.cell? ⟨ab, af + i * 5 + 3, none⟩ = some (.string ⟨x.tx.toArray⟩) := hac 3 _ rfl
      have c4 : wr.cell? ⟨ab, af + i * 5 + 4, none⟩ = some (.slice x.co x.ch.length x.cc) := hac 4 _ rfl
      have HG : Hid (Gd (actS S x) (i + 1)) := Lib.hid (hg.act x)
      clear hR HK0 hg hD hac hxo
      go_wp2_with fail
      refine HDO.out.mono ?_
      rintro r w5 ⟨rfl, hD5⟩
      have HD5 := Lib.hid hD5
      clear hD5
      go_wp2_with fail
      refine ⟨⟨i + 1, by omega, by omega, by simp, Lib.hid ⟨_, HG.out, HD5.out⟩⟩, ?_⟩
      show 20 - ((i : Int) + 1).toNat < 20 - ((i : Int)).toNat
      omega
    · obtain ⟨S0, hg0, hD0⟩ := hR.out
      have hcase : (¬ (i : Int) < (nl : Int)) ∨ ((i : Int) < (nl : Int) ∧ ¬ (i : Int) < 20) := by omega
      have HCL := Lib.hid (D2.clone hD0 (hg0.ok (by omega)))
      have HG0 : Hid (Gd S0 20) := Lib.hid (hg0.more hi2)
      clear hR HK0 hend hg0 hD0 hi2
      rcases hcase with h1 | ⟨h1, h2⟩ <;>
      · go_wp2_with fail
        refine HCL.out.mono ?_
        rintro e w3 ⟨c, rfl, hD3⟩
        have HK3 : Hid (∃ S, Gd S 20 ∧ D2 w1 w3 p S c S (fun _ => False) w3) := Lib.hid ⟨_, HG0.out, hD3⟩
        clear hD3 HCL HG0
        go_wp2_with fail
        go_loopw [10, 12] (fun s10 _ wr => ∃ i : Nat, i ≤ nl2 ∧ i ≤ 40 ∧ s10 = .int .i64 (i : Int) ∧ Hid (∃ S, Gd S (20 + i) ∧ D2 w1 wr p S c S (fun _ => False) wr)) (fun s10 _ _ => 40 - (intOf s10).toNat)
        case atStart => exact ⟨0, Nat.zero_le _, by omega, rfl, HK3⟩
        case round =>
          obtain ⟨i, hi, hi2, rfl, hR⟩ := hrel
          by_cases hend : i < nl2 ∧ i < 40
          · obtain ⟨S, hg, hD⟩ := hR.out
            obtain ⟨hd1, hd2⟩ := hend
            obtain ⟨ab, af, hae, _, _⟩ := HL2.out.ax i (by rw [← HNL2.out]; exact hd1)
            have hxo := HLX2.out (L2[i]'(by rw [← HNL2.out]; exact hd1)) (List.getElem_mem _)
            have HAX : Hid (∀ w', Below w1.heap.size w1 w' → ∀ j u, (L2[i]'(by rw [← HNL2.out]; exact hd1)).cells[j]? = some u → w'.cell? ⟨ab, af + i * 5 + j, none⟩ = some u) := Lib.hid (fun w' hb => by
              obtain ⟨ab', af', e, _, hac⟩ := (HL2.out.old (HB1.out.trans (hb.mono HB1.out.size))).ax i (by rw [← HNL2.out]; exact hd1)
              rw [hae] at e
              cases e
              exact hac)
            subst hae
            generalize L2[i]'(by rw [← HNL2.out]; exact hd1) = x at HAX hxo
            have HXO := Lib.hid hxo
            have e1 : decide ((i : Int) < (nl2 : Int)) = true := by simpa using hd1
            have e2 : decide ((i : Int) < 40) = true := by simp; omega
            have HGS : Hid (Gd (twS S x) (20 + (i + 1))) := Lib.hid (hg.tw x hxo.nn.2)
            have HOK : Hid (Ok S) := Lib.hid (hg.ok (by omega))
            have cho : x.ch.take 20 ≠ [] → ∀ a, x.co = some a → ¬ w1.heap.size ≤ a.block := by
              intro hne a e h
              have hne2 : x.ch ≠ [] := by intro e'; rw [e'] at hne; exact hne rfl
              obtain ⟨x0, l0, e0⟩ := List.exists_cons_of_ne_nil hne2
              obtain ⟨b0, o0, e1, hlt, _⟩ := hxo.rd 0 (by rw [e0]; simp)
              rw [e] at e1
              obtain rfl := Option.some.inj e1
              have := HB1.out.size
              simp only at h
              omega
            have HCHO := Lib.hid cho
            obtain ⟨chf, hchf⟩ : ∃ c, c = x.ch.take 20 := ⟨_, rfl⟩
            have HCF := Lib.hid hchf
            have hfw := fun w => few09_any x.co x.cc x.ch w hxo.cc (by have := hxo.cl; omega)
            rw [← hchf] at hfw
            have HFW := Lib.hid hfw
            clear hchf hfw
            have HD := Lib.hid hD
            clear hR HK3 hg hD hxo cho
            go_wp2_with fail
            obtain ⟨V, hV⟩ : ∃ V, V = wr.alloc (.cells #[.pointer (some ⟨p, 0, none⟩), .pointer (some ⟨c, 0, none⟩)] 24) := ⟨_, rfl⟩
            have HGB : Hid (V.heap[wr.heap.size]? = some (.cells #[.pointer (some ⟨p, 0, none⟩), .pointer (some ⟨c, 0, none⟩)] 24 (0, 0))) := Lib.hid (by rw [hV]; exact heap_alloc_new _ _)
            have hbV : Below wr.heap.size wr V := by rw [hV]; exact (Below.refl _ _).alloc (Nat.le_refl _) _
            have HIN0 : Hid (D2 w1 V p S c S (fun j => j = wr.heap.size) V) := Lib.hid (HD.out.keep wr.heap.size hbV (Nat.le_refl _) (by rw [hV]; simp))
            rw [← hV]
            clear hV hbV HD
            generalize wr.heap.size = gb at HGB HIN0 ⊢
            go_loopw [12, 61] (fun _ s61 wr => ∃ k : Nat, k ≤ 2 ∧ s61 = .int .i64 (k : Int) ∧ Hid (D2 w1 wr p (atS k S (twS S x)) c (atS (k - 1) S (twS S x)) (fun j => j = gb) V)) (fun _ s61 _ => 2 - (intOf s61).toNat)
            case atStart => exact ⟨0, by omega, rfl, HIN0⟩
            case round =>
              obtain ⟨k, hk, rfl, hIN⟩ := hrel
              obtain rfl | rfl | rfl : k = 0 ∨ k = 1 ∨ k = 2 := by omega
              · skip
                have HIN : Hid (D2 w1 wr p S c S (fun j => j = gb) V) := Lib.hid (by simpa [atS] using hIN.out)
                have hgb : wr.heap[gb]? = some (.cells #[.pointer (some ⟨p, 0, none⟩), .pointer (some ⟨c, 0, none⟩)] 24 (0, 0)) := (HIN.out.at gb rfl).trans HGB.out
                have g0 : wr.cell? ⟨gb, 0, none⟩ = some (.pointer (some ⟨p, 0, none⟩)) := by unfold World.cell?; rw [hgb]; rfl
                have hac := HAX.out wr HIN.out.b
                have c0 : wr.cell? ⟨ab, af + i * 5, none⟩ = some (.int .i64 x.kd) := hac 0 _ rfl
                have c1 : wr.cell? ⟨ab, af + i * 5 + 1, none⟩ = some (.int .i64 x.nn) := hac 1 _ rfl
                have c2 : wr.cell? ⟨ab, af + i * 5 + 2, none⟩ = some (.string ⟨x.nm.toArray⟩) := hac 2 _ rfl
                have c3 : wr.cell? ⟨ab, af + i * 5 + 3, none⟩ = some (.string ⟨x.tx.toArray⟩) := hac 3 _ rfl
                have c4 : wr.cell? ⟨ab, af + i * 5 + 4, none⟩ = some (.slice x.co x.ch.length x.cc) := hac 4 _ rfl
                clear hgb hac hIN
                by_cases hk6 : x.kd = 6
                · have e6 : twS S x = { S with lf := max x.nn (-1) } := by unfold twS; rw [if_pos hk6]
                  have HCALL : Hid (Calls Try.prog 12 #[.pointer (some ⟨p, 0, none⟩), .int .i64 x.nn] wr fun e w' => e = .returned (.tuple #[]) ∧ D2 w1 w' p (twS S x) c S (fun j => j = gb) V) := Lib.hid (HIN.out.step (fun F hA hF => by rw [e6]; exact dkhalt_any hA x.nn))
                  go_wp2_with fail
                  refine HCALL.out.mono ?_
                  rintro r w5 ⟨rfl, hD5⟩
                  have HD5 := Lib.hid hD5
                  clear hD5
                  go_wp2_with fail
                  exact ⟨⟨1, by omega, rfl, Lib.hid (by simpa [atS] using HD5.out)⟩, by decide⟩
                · by_cases hk7 : x.kd = 7
                  · have e7 : twS S x = { S with X := crX (x.ch.take 20) S.X, lf := -1, dn := false } := by unfold twS; rw [if_neg hk6, if_pos hk7]
                    have HCALL : Hid (Calls Try.prog 13 #[.pointer (some ⟨p, 0, none⟩), .slice x.co chf.length x.cc] wr fun e w' => e = .returned (.tuple #[]) ∧ D2 w1 w' p (twS S x) c S (fun j => j = gb) V) := Lib.hid (HIN.out.step (fun F hA hF => by rw [e7]; rw [← HCF.out]; exact dkcrash_any hA HOK.out x.co x.cc chf (by have := HXO.out.cc; rw [HCF.out, List.length_take]; omega) (by rw [HCF.out]; exact (HXO.out.rd.take 20).old (HB1.out.trans (HIN.out.b.mono HB1.out.size))) (fun hne a e hf => HCHO.out (by rw [← HCF.out]; exact hne) a e (hF _ hf))))
                    go_wp2_with fail
                    refine (HFW.out _).mono ?_
                    rintro e wr2 ⟨rfl, rfl⟩
                    go_wp2_with fail
                    refine HCALL.out.mono ?_
                    rintro r w5 ⟨rfl, hD5⟩
                    have HD5 := Lib.hid hD5
                    clear hD5
                    go_wp2_with fail
                    exact ⟨⟨1, by omega, rfl, Lib.hid (by simpa [atS] using HD5.out)⟩, by decide⟩
                  · have e8 : twS S x = actS S x := by unfold twS; rw [if_neg hk6, if_neg hk7]
                    have b6 : (x.kd == 6) = false := by simpa using hk6
                    have b7 : (x.kd == 7) = false := by simpa using hk7
                    have HCALL : Hid (Calls Try.prog 21 #[.pointer (some ⟨p, 0, none⟩), .agg x.cells.toArray] wr fun e w' => e = .returned (.int .i64 (actR S x)) ∧ D2 w1 w' p (twS S x) c S (fun j => j = gb) V) := Lib.hid (HIN.out.step (fun F hA hF => by rw [e8]; exact do09_any hA HOK.out x HXO.out.nm HXO.out.tx))
                    clear hk6 hk7
                    go_wp2_with fail
                    refine HCALL.out.mono ?_
                    rintro r w5 ⟨rfl, hD5⟩
                    have HD5 := Lib.hid hD5
                    clear hD5
                    go_wp2_with fail
                    exact ⟨⟨1, by omega, rfl, Lib.hid (by simpa [atS] using HD5.out)⟩, by decide⟩
              · skip
                have HIN : Hid (D2 w1 wr p (twS S x) c S (fun j => j = gb) V) := Lib.hid (by simpa [atS] using hIN.out)
                have hgb : wr.heap[gb]? = some (.cells #[.pointer (some ⟨p, 0, none⟩), .pointer (some ⟨c, 0, none⟩)] 24 (0, 0)) := (HIN.out.at gb rfl).trans HGB.out
                have g1 : wr.cell? ⟨gb, 1, none⟩ = some (.pointer (some ⟨c, 0, none⟩)) := by unfold World.cell?; rw [hgb]; rfl
                have hac := HAX.out wr HIN.out.b
                have c0 : wr.cell? ⟨ab, af + i * 5, none⟩ = some (.int .i64 x.kd) := hac 0 _ rfl
                have c1 : wr.cell? ⟨ab, af + i * 5 + 1, none⟩ = some (.int .i64 x.nn) := hac 1 _ rfl
                have c2 : wr.cell? ⟨ab, af + i * 5 + 2, none⟩ = some (.string ⟨x.nm.toArray⟩) := hac 2 _ rfl
                have c3 : wr.cell? ⟨ab, af + i * 5 + 3, none⟩ = some (.string ⟨x.tx.toArray⟩) := hac 3 _ rfl
                have c4 : wr.cell? ⟨ab, af + i * 5 + 4, none⟩ = some (.slice x.co x.ch.length x.cc) := hac 4 _ rfl
                clear hgb hac hIN
                by_cases hk6 : x.kd = 6
                · have e6 : twS S x = { S with lf := max x.nn (-1) } := by unfold twS; rw [if_pos hk6]
                  have HCALL : Hid (Calls Try.prog 12 #[.pointer (some ⟨c, 0, none⟩), .int .i64 x.nn] wr fun e w' => e = .returned (.tuple #[]) ∧ D2 w1 w' c (twS S x) p (twS S x) (fun j => j = gb) V) := Lib.hid (HIN.out.swap.step (fun F hA hF => by rw [e6]; exact dkhalt_any hA x.nn))
                  go_wp2_with fail
                  refine HCALL.out.mono ?_
                  rintro r w5 ⟨rfl, hD5⟩
                  have HD5 := Lib.hid hD5
                  clear hD5
                  go_wp2_with fail
                  exact ⟨⟨2, by omega, rfl, Lib.hid (by simpa [atS] using HD5.out.swap)⟩, by decide⟩
                · by_cases hk7 : x.kd = 7
                  · have e7 : twS S x = { S with X := crX (x.ch.take 20) S.X, lf := -1, dn := false } := by unfold twS; rw [if_neg hk6, if_pos hk7]
                    have HCALL : Hid (Calls Try.prog 13 #[.pointer (some ⟨c, 0, none⟩), .slice x.co chf.length x.cc] wr fun e w' => e = .returned (.tuple #[]) ∧ D2 w1 w' c (twS S x) p (twS S x) (fun j => j = gb) V) := Lib.hid (HIN.out.swap.step (fun F hA hF => by rw [e7]; rw [← HCF.out]; exact dkcrash_any hA HOK.out x.co x.cc chf (by have := HXO.out.cc; rw [HCF.out, List.length_take]; omega) (by rw [HCF.out]; exact (HXO.out.rd.take 20).old (HB1.out.trans (HIN.out.b.mono HB1.out.size))) (fun hne a e hf => HCHO.out (by rw [← HCF.out]; exact hne) a e (hF _ hf))))
                    go_wp2_with fail
                    refine (HFW.out _).mono ?_
                    rintro e wr2 ⟨rfl, rfl⟩
                    go_wp2_with fail
                    refine HCALL.out.mono ?_
                    rintro r w5 ⟨rfl, hD5⟩
                    have HD5 := Lib.hid hD5
                    clear hD5
                    go_wp2_with fail
                    exact ⟨⟨2, by omega, rfl, Lib.hid (by simpa [atS] using HD5.out.swap)⟩, by decide⟩
                  · have e8 : twS S x = actS S x := by unfold twS; rw [if_neg hk6, if_neg hk7]
                    have b6 : (x.kd == 6) = false := by simpa using hk6
                    have b7 : (x.kd == 7) = false := by simpa using hk7
                    have HCALL : Hid (Calls Try.prog 21 #[.pointer (some ⟨c, 0, none⟩), .agg x.cells.toArray] wr fun e w' => e = .returned (.int .i64 (actR S x)) ∧ D2 w1 w' c (twS S x) p (twS S x) (fun j => j = gb) V) := Lib.hid (HIN.out.swap.step (fun F hA hF => by rw [e8]; exact do09_any hA HOK.out x HXO.out.nm HXO.out.tx))
                    clear hk6 hk7
                    go_wp2_with fail
                    refine HCALL.out.mono ?_
                    rintro r w5 ⟨rfl, hD5⟩
                    have HD5 := Lib.hid hD5
                    clear hD5
                    go_wp2_with fail
                    exact ⟨⟨2, by omega, rfl, Lib.hid (by simpa [atS] using HD5.out.swap)⟩, by decide⟩
              · have HIN : Hid (D2 w1 wr p (twS S x) c (twS S x) (fun _ => False) wr) := Lib.hid (by simpa [atS] using hIN.out.free)
                clear hIN
                go_wp2_with fail
                refine ⟨⟨i + 1, by omega, by omega, by simp, Lib.hid ⟨_, HGS.out, HIN.out⟩⟩, ?_⟩
                show 40 - ((i : Int) + 1).toNat < 40 - ((i : Int)).toNat
                omega
          · obtain ⟨S, hg, hD⟩ := hR.out
            have hcase2 : (¬ (i : Int) < (nl2 : Int)) ∨ ((i : Int) < (nl2 : Int) ∧ ¬ (i : Int) < 40) := by omega
            have HOK : Hid (Ok S) := Lib.hid (hg.ok (by omega))
            obtain ⟨S2, hS2⟩ : ∃ S2 : St, S2 = { S with X := crX [] S.X, lf := -1, dn := false } := ⟨_, rfl⟩
            have hg2 : Gd S2 (20 + i) := by rw [hS2]; exact hg.crash []
            have HOK2 : Hid (Ok S2) := Lib.hid (hg2.ok (by omega))
            have HUP : Hid (S2.dn = false) := Lib.hid (by rw [hS2])
            have HC1 : Hid (Calls Try.prog 13 #[.pointer (some ⟨p, 0, none⟩), .slice none 0 0] wr fun e w' => e = .returned (.tuple #[]) ∧ D2 w1 w' p S2 c S (fun _ => False) wr) := Lib.hid (hD.step (fun F hA hF => by rw [hS2]; exact dkcrash_any hA HOK.out none 0 [] (by decide) (Rd.nil _ _) (fun h => absurd rfl h)))
            have HC2 : Hid (∀ w', D2 w1 w' p S2 c S (fun _ => False) wr → Calls Try.prog 13 #[.pointer (some ⟨c, 0, none⟩), .slice none 0 0] w' fun e w'' => e = .returned (.tuple #[]) ∧ D2 w1 w'' c S2 p S2 (fun _ => False) wr) := Lib.hid (fun w' h => h.swap.step (fun F hA hF => by rw [hS2]; exact dkcrash_any hA HOK.out none 0 [] (by decide) (Rd.nil _ _) (fun h => absurd rfl h)))
            clear hR HK3 hg hD hg2 hS2 hend hi2
            rcases hcase2 with q1 | ⟨q1, q2⟩ <;>
            · go_wp2_with fail
              refine HC1.out.mono ?_
              rintro e w5 ⟨rfl, hD5⟩
              have HD5 := Lib.hid hD5
              clear hD5
              go_wp2_with fail
              refine (HC2.out _ HD5.out).mono ?_
              rintro e w6 ⟨rfl, hD6⟩
              obtain ⟨G, F, hC6, hP6⟩ := hD6.das
              have HB6 : Hid (Below w.heap.size w w6) := Lib.hid (HB1.out.trans (hD6.b.mono HB1.out.size))
              have HP6 := Lib.hid hP6
              have HC6 := Lib.hid hC6
              clear hD6 hP6 hC6
              obtain ⟨ns, hns⟩ : ∃ ns, ns = S2.X.length := ⟨_, rfl⟩
              have HNS := Lib.hid hns
              have hnb : ns ≤ 100000 := by rw [hns]; exact HOK2.out.n
              clear hns
              have HNM : Hid (∀ d F w', DA w6 d S2 F → Below w6.heap.size w6 w' → Calls Try.prog 22 #[.pointer (some ⟨d, 0, none⟩)] w' fun e w'' => ∃ q c, e = .returned (.slice q ns c) ∧ Rd encS w'' q (S2.X.map (·.1)) ∧ Below w'.heap.size w' w'') := Lib.hid (fun d F w' h hb => by
                have := dknames_any (h.old hb) (Nat.le_trans HOK2.out.n (by decide)) HOK2.out.k
                rw [← HNS.out] at this
                refine this.mono ?_
                rintro e w'' ⟨q, c, rfl, hq, _, hb2⟩
                exact ⟨q, c, rfl, hq.rd, hb2⟩)
              have HUS : Hid (∀ d F w', DA w6 d S2 F → Below w6.heap.size w6 w' → Calls Try.prog 24 #[.pointer (some ⟨d, 0, none⟩)] w' fun e w'' => e = .returned (.int .i64 (usedX S2.X : Nat)) ∧ Below w'.heap.size w' w'') := Lib.hid (fun d F w' h hb => dkused_any (h.old hb) (Nat.le_trans HOK2.out.n (by decide)) HOK2.out.f)
              generalize usedX S2.X = us at HUS
              have HDS : Hid (∀ d F w', DA w6 d S2 F → Below w6.heap.size w6 w' → Calls Try.prog 26 #[.pointer (some ⟨d, 0, none⟩)] w' fun e w'' => e = .returned (.int .i64 S2.dd) ∧ w'' = w') := Lib.hid (fun d F w' h hb => dkdeeds_any (h.old hb))
              generalize S2.dd = dd at HDS
              go_wp2_with fail
              refine (HNM.out _ _ _ HP6.out (Below.refl _ _)).mono ?_
              rintro e w7 ⟨qa, ca, rfl, hqa, hb⟩
              have HQA := Lib.hid hqa
              have HB7 := Lib.hid hb
              clear hqa hb
              go_wp2_with fail
              refine (HNM.out _ _ _ HC6.out HB7.out).mono ?_
              rintro e w8 ⟨qb, cb, rfl, hqb, hb⟩
              have HQB := Lib.hid hqb
              have HQA8 := Lib.hid (HQA.out.old hb)
              have HB8 := Lib.hid (HB7.out.trans (hb.mono HB7.out.size))
              clear hqb hb
              go_wp2_with fail
              refine (HUS.out _ _ _ HP6.out HB8.out).mono ?_
              rintro e w9 ⟨rfl, hb⟩
              have HB89 := Lib.hid hb
              have HB9 := Lib.hid (HB8.out.trans (hb.mono HB8.out.size))
              clear hb
              go_wp2_with fail
              refine (HUS.out _ _ _ HC6.out HB9.out).mono ?_
              rintro e w10 ⟨rfl, hb⟩
              have HB810 := Lib.hid (HB89.out.trans (hb.mono HB89.out.size))
              have HB10 := Lib.hid (HB9.out.trans (hb.mono HB9.out.size))
              clear hb
              go_wp2_with fail
              refine (HDS.out _ _ _ HP6.out HB10.out).mono ?_
              rintro e w10a ⟨rfl, rfl⟩
              go_wp2_with fail
              refine (HDS.out _ _ _ HC6.out HB10.out).mono ?_
              rintro e w10b ⟨rfl, rfl⟩
              go_wp2_with fail
              go_loopw [15, 16, 17, 18, 19, 20, 125] (fun _ _ _ _ _ _ s125 wr => ∃ j : Nat, j ≤ ns ∧ s125 = .int .i64 (j : Int) ∧ Hid (Below w8.heap.size w8 wr)) (fun _ _ _ _ _ _ s125 _ => ns - (intOf s125).toNat)
              case atStart => exact ⟨0, Nat.zero_le _, rfl, HB810⟩
              case round =>
                obtain ⟨j, hj, rfl, HBR⟩ := hrel
                by_cases hend : j < ns
                · obtain ⟨n1, o1, hqe1, _, hnc1⟩ := (HQA8.out.old HBR.out).str j (by rw [List.length_map, ← HNS.out]; exact hend)
                  obtain ⟨n2, o2, hqe2, _, hnc2⟩ := (HQB.out.old HBR.out).str j (by rw [List.length_map, ← HNS.out]; exact hend)
                  have HBR6 := Lib.hid (HB8.out.trans (HBR.out.mono HB8.out.size))
                  subst hqe1 hqe2
                  have hmem : (S2.X.map (·.1))[j]'(by rw [List.length_map, ← HNS.out]; exact hend) ∈ S2.X.map (·.1) := List.getElem_mem _
                  generalize (S2.X.map (·.1))[j]'(by rw [List.length_map, ← HNS.out]; exact hend) = k at hnc1 hnc2 hmem
                  obtain ⟨z, hz, hzk⟩ := List.mem_map.1 hmem
                  have hkl : k.length ≤ 1000000 := by rw [← hzk]; exact HOK2.out.k z hz
                  have hhas : hasX k S2.X = true := by unfold hasX; rw [List.any_eq_true]; exact ⟨z, hz, by rw [hzk]; simp⟩
                  have HRD : Hid (∀ d F w', DA w6 d S2 F → Below w6.heap.size w6 w' → Calls Try.prog 10 #[.pointer (some ⟨d, 0, none⟩), .string ⟨k.toArray⟩] w' fun e w'' => e = .returned (.tuple #[.string ⟨(fiX k S2.X).2.1.toArray⟩, .int .i64 0]) ∧ Below w'.heap.size w' w'') := Lib.hid (fun d F w' h hb => by
                    have := dkread_any (h.old hb) k (by unfold maxLen; omega)
                    have e : rdX S2 k = ((fiX k S2.X).2.1, 0) := by unfold rdX; rw [HUP.out, hhas]; rfl
                    rwa [e] at this)
                  generalize (fiX k S2.X).2.1 = fb at HRD
                  clear hz hzk hkl hhas hmem
                  go_wp2_with fail
                  refine (HRD.out _ _ _ HP6.out HBR6.out).mono ?_
                  rintro e wb1 ⟨rfl, hb⟩
                  have hnc1b := (World.cell?_of_block (hb.block n2 (cell_block9 hnc2))).trans hnc2
                  have HBB := Lib.hid (HBR6.out.trans (hb.mono HBR6.out.size))
                  have HBC := Lib.hid (HBR.out.trans (hb.mono HBR.out.size))
                  clear hb
                  go_wp2_with fail
                  refine (HRD.out _ _ _ HC6.out HBB.out).mono ?_
                  rintro e wb2 ⟨rfl, hb⟩
                  have HBD := Lib.hid (HBC.out.trans (hb.mono HBC.out.size))
                  have hnc3 := (World.cell?_of_block (hb.block n2 (cell_block9 hnc1b))).trans hnc1b
                  clear hb
                  go_wp2_with fail
                  refine ⟨⟨j + 1, by omega, by simp, HBD⟩, ?_⟩
                  show ns - ((j : Int) + 1).toNat < ns - ((j : Int)).toNat
                  omega
                · have hend2 : ¬ (j : Int) < (ns : Int) := by omega
                  have HBE : Hid (Below w.heap.size w wr) := Lib.hid (HB6.out.trans ((HB8.out.trans (HBR.out.mono HB8.out.size)).mono HB6.out.size))
                  clear hend
                  go_wp2_with fail
                  go_ret
                  exact ⟨rfl, HBE.out⟩
end Go.Proofs.Ytpbcglepecojmaa

namespace Go.Proofs.Ytpbcglepecojmaa
open Go.RowKit

def FX.cells (x : FX) : List Value := [.string ⟨x.1.toArray⟩, .string ⟨x.2.1.toArray⟩, .int .i64 (x.2.2 : Int)]
def encF : Enc FX := ⟨FX.cells, 3, fun _ => rfl, fun _ v hv => by simp [FX.cells] at hv; rcases hv with rfl | rfl | rfl <;> rfl, by decide⟩
def rdC (S : St) (ao : Option Addr) (c : Nat) : Array Value := #[.slice ao S.X.length c, .int .i64 S.rm, .int .i64 S.dd, .int .i64 S.lf, .bool S.dn]
theorem Rd.fx {w : World} {ao : Option Addr} {L : List FX} (h : Rd encF w ao L) (j : Nat) (hj : j < L.length) : ∃ bs off, ao = some ⟨bs, off, none⟩ ∧ bs < w.heap.size ∧
    w.cell? ⟨bs, off + j * 3, none⟩ = some (.string ⟨(L[j]).1.toArray⟩) ∧ w.cell? ⟨bs, off + j * 3 + 1, none⟩ = some (.string ⟨(L[j]).2.1.toArray⟩) ∧ w.cell? ⟨bs, off + j * 3 + 2, none⟩ = some (.int .i64 ((L[j]).2.2 : Int)) := by
  obtain ⟨bs, off, e, hlt, hc⟩ := h j hj
  exact ⟨bs, off, e, hlt, hc 0 _ rfl, hc 1 _ rfl, hc 2 _ rfl⟩
/-- Where the file of that name stands. -/
def fdX (k : List UInt8) : List FX → Nat → Int
  | [], _ => -1
  | x :: l, i => if x.1 = k then (i : Int) else fdX k l (i + 1)
theorem fdX_none {k : List UInt8} : ∀ {X : List FX} {i : Nat}, hasX k X = false → fdX k X i = -1
  | [], _, _ => rfl
  | x :: l, i, h => by
    unfold hasX at h
    simp only [List.any_cons, Bool.or_eq_false_iff, beq_eq_false_iff_ne, ne_eq] at h
    unfold fdX
    rw [if_neg h.1]
    exact fdX_none (by unfold hasX; exact h.2)
theorem fdX_some {k : List UInt8} : ∀ {X : List FX} {i : Nat}, hasX k X = true → ∃ j, fdX k X i = ((i + j : Nat) : Int) ∧ X[j]? = some (fiX k X)
  | [], _, h => by cases h
  | x :: l, i, h => by
    by_cases e : x.1 = k
    · refine ⟨0, by unfold fdX; rw [if_pos e]; rfl, ?_⟩
      unfold fiX
      rw [List.find?_cons_of_pos (by simp [e])]; rfl
    · have h2 : hasX k l = true := by
        unfold hasX at h ⊢
        rw [List.any_cons, show (x.1 == k) = false by simpa using e, Bool.false_or] at h
        exact h
      obtain ⟨j, h3, h4⟩ := fdX_some (i := i + 1) h2
      refine ⟨j + 1, by unfold fdX; rw [if_neg e, h3]; congr 1; omega, ?_⟩
      have : fiX k (x :: l) = fiX k l := by unfold fiX; rw [List.find?_cons_of_neg (by simp [e])]
      rw [this, List.getElem?_cons_succ, h4]
theorem fdX_step {k : List UInt8} {X : List FX} (j : Nat) (hj : j < X.length) (i : Nat) : fdX k (X.drop j) i = if (X[j]).1 = k then (i : Int) else fdX k (X.drop (j + 1)) (i + 1) := by
  rw [List.drop_eq_getElem_cons hj]; rfl
theorem rinfo : (Try.prog.info? 28).map (·.size) = some 5 := by kernel_rfl
theorem finfo : (Try.prog.info? 64).map (·.size) = some 3 := by kernel_rfl
set_option maxRecDepth 20000 in
set_option maxHeartbeats 2000000 in
theorem rkfind_any {w : World} (S : St) (ao : Option Addr) (c : Nat) (k : List UInt8) (hR : Rd encF w ao S.X) (hn : S.X.length ≤ 1000000) :
    Calls Try.prog 11 #[.agg (rdC S ao c), .string ⟨k.toArray⟩] w fun e w' => e = .returned (.int .i64 (fdX k S.X 0)) ∧ Below w.heap.size w w' := by
  unfold rdC
  obtain ⟨n, hnn⟩ : ∃ n, n = S.X.length := ⟨_, rfl⟩
  have HNN := Lib.hid hnn
  rw [← hnn] at hn ⊢
  have HR := Lib.hid hR
  have HI := Lib.hid finfo
  clear hR hnn
  obtain ⟨z, hz⟩ : ∃ z, z = fdX k S.X 0 := ⟨_, rfl⟩
  have HZ := Lib.hid hz
  rw [← hz]
  clear hz
  go_enter Try.func11, Try.ntmps11
  go_wp2_with fail
  have hb0 : Below w.heap.size w (w.alloc (.cells #[.slice ao n c, .int .i64 S.rm, .int .i64 S.dd, .int .i64 S.lf, .bool S.dn] 28)) := (Below.refl _ w).alloc (Nat.le_refl _) _
  generalize w.alloc (.cells #[.slice ao n c, .int .i64 S.rm, .int .i64 S.dd, .int .i64 S.lf, .bool S.dn] 28) = W0 at hb0 ⊢
  have HB0 := Lib.hid hb0
  clear hb0
  go_loopw [5, 6, 10] (fun _ _ s10 wr => ∃ i : Nat, i ≤ n ∧ s10 = .int .i64 (i : Int) ∧ Hid (Below w.heap.size w wr ∧ z = fdX k (S.X.drop i) i)) (fun _ _ s10 _ => n - (intOf s10).toNat)
  case atStart => exact ⟨0, Nat.zero_le _, rfl, Lib.hid ⟨HB0.out, HZ.out⟩⟩
  case round =>
    obtain ⟨i, hi, rfl, hR⟩ := hrel
    by_cases hend : i < n
    · obtain ⟨b, o, hae, _, c0, c1, c2⟩ := (HR.out.old hR.out.1).fx i (by rw [← HNN.out]; exact hend)
      have hst := fdX_step (k := k) (X := S.X) i (by rw [← HNN.out]; exact hend) i
      rw [← hR.out.2] at hst
      subst hae
      generalize S.X[i]'(by rw [← HNN.out]; exact hend) = x at *
      obtain ⟨xk, xs, xn⟩ := x
      simp only at *
      have HST := Lib.hid hst
      have HBW := Lib.hid hR.out.1
      clear hst hR
      have hr1 : (wr.alloc (.cells #[.string ⟨#[]⟩, .string ⟨#[]⟩, .int .i64 0] 64)).heap[wr.heap.size]? = some (.cells #[.string ⟨#[]⟩, .string ⟨#[]⟩, .int .i64 0] 64 (0, 0)) := heap_alloc_new _ _
      have hV : ∀ v ∈ (#[.string ⟨xk.toArray⟩, .string ⟨xs.toArray⟩, .int .i64 (xn : Int)] : Array Value).toList, v.oneCell' = true := by intro v hv; simp at hv; rcases hv with rfl | rfl | rfl <;> rfl
      have HI2 := HI.out
      go_upto_region 4 with (refine wpList_store_row rfl rfl 64 (.tmp 6) (.tmp 14) rfl wr.heap.size rfl 64 _ #[.string ⟨xk.toArray⟩, .string ⟨xs.toArray⟩, .int .i64 (xn : Int)] rfl hr1 rfl HI2 hV ?_)
      obtain ⟨W3, hW3⟩ : ∃ W, W = (wr.alloc (.cells #[.string ⟨#[]⟩, .string ⟨#[]⟩, .int .i64 0] 64)).setRow wr.heap.size #[.string ⟨xk.toArray⟩, .string ⟨xs.toArray⟩, .int .i64 (xn : Int)] := ⟨_, rfl⟩
      have hb3 : Below wr.heap.size wr W3 := by rw [hW3]; exact (((Mod.refl (fun _ => False) wr).alloc _).setRow (g := wr.heap.size) _).to_below (Nat.le_refl _) (by rintro k hk (h | h); exact h; omega)
      have h3 : W3.heap[wr.heap.size]? = some (.cells #[.string ⟨xk.toArray⟩, .string ⟨xs.toArray⟩, .int .i64 (xn : Int)] 64 (0, 0)) := by rw [hW3]; exact setRow_heap _ _ _ _ 64 (0, 0) hr1
      have k0 : W3.cell? ⟨wr.heap.size, 0, none⟩ = some (.string ⟨xk.toArray⟩) := by unfold World.cell?; rw [h3]; rfl
      have k1 : W3.cell? ⟨wr.heap.size, 1, none⟩ = some (.string ⟨xs.toArray⟩) := by unfold World.cell?; rw [h3]; rfl
      have k2 : W3.cell? ⟨wr.heap.size, 2, none⟩ = some (.int .i64 (xn : Int)) := by unfold World.cell?; rw [h3]; rfl
      rw [← hW3]
      have HB3 := Lib.hid hb3
      have H3 := Lib.hid h3
      clear hW3 hr1 hV hb3 h3
      by_cases he : xk = k
      · subst he
        have hz : z = (i : Int) := by rw [HST.out, if_pos rfl]
        have HBE := Lib.hid (HBW.out.trans (HB3.out.mono HBW.out.size))
        subst hz
        go_wp2_with fail
        go_ret
        exact ⟨rfl, HBE.out⟩
      · have HBE := Lib.hid (HBW.out.trans (HB3.out.mono HBW.out.size))
        have he2 : (xk == k) = false := by simpa using he
        go_wp2_with fail
        refine ⟨⟨i + 1, by omega, by simp, Lib.hid ⟨HBE.out, by rw [HST.out, if_neg he]⟩⟩, ?_⟩
        show n - ((i : Int) + 1).toNat < n - ((i : Int)).toNat
        omega
    · have hz : z = -1 := by
        rw [hR.out.2, List.drop_of_length_le (by rw [← HNN.out]; omega)]; rfl
      have HBE := Lib.hid hR.out.1
      subst hz
      have hend2 : ¬ (i : Int) < (n : Int) := by omega
      clear hend hR
      go_wp2_with fail
      go_ret
      exact ⟨rfl, HBE.out⟩
theorem usedX_take {X : List FX} (j : Nat) (hj : j < X.length) : usedX (X.take (j + 1)) = usedX (X.take j) + (X[j]).2.1.length := by
  rw [List.take_succ_eq_append_getElem hj, usedX_app]; rfl
theorem usedX_take_le (X : List FX) (j : Nat) : usedX (X.take j) ≤ usedX X := by
  have := usedX_app (X.take j) (X.drop j)
  rw [List.take_append_drop] at this
  omega
set_option maxRecDepth 20000 in
set_option maxHeartbeats 2000000 in
theorem rkused_any {w : World} (S : St) (ao : Option Addr) (c : Nat) (hR : Rd encF w ao S.X) (hn : S.X.length ≤ 1000000) (hu : usedX S.X ≤ 1000000000000000) :
    Calls Try.prog 33 #[.agg (rdC S ao c)] w fun e w' => e = .returned (.int .i64 ((usedX S.X : Nat) : Int)) ∧ Below w.heap.size w w' := by
  unfold rdC
  obtain ⟨n, hnn⟩ : ∃ n, n = S.X.length := ⟨_, rfl⟩
  have HNN := Lib.hid hnn
  rw [← hnn] at hn ⊢
  have HR := Lib.hid hR
  have HI := Lib.hid finfo
  have HU := Lib.hid hu
  clear hR hnn hu
  obtain ⟨z, hz⟩ : ∃ z, z = usedX S.X := ⟨_, rfl⟩
  have HZ := Lib.hid hz
  rw [← hz]
  clear hz
  go_enter Try.func33, Try.ntmps33
  go_wp2_with fail
  have hb0 : Below w.heap.size w (w.alloc (.cells #[.slice ao n c, .int .i64 S.rm, .int .i64 S.dd, .int .i64 S.lf, .bool S.dn] 28)) := (Below.refl _ w).alloc (Nat.le_refl _) _
  generalize w.alloc (.cells #[.slice ao n c, .int .i64 S.rm, .int .i64 S.dd, .int .i64 S.lf, .bool S.dn] 28) = W0 at hb0 ⊢
  have HB0 := Lib.hid hb0
  clear hb0
  go_loopw [3, 5, 9] (fun s3 _ s9 wr => ∃ i u : Nat, i ≤ n ∧ s9 = .int .i64 (i : Int) ∧ s3 = .int .i64 (u : Int) ∧ Hid (Below w.heap.size w wr ∧ u = usedX (S.X.take i))) (fun _ _ s9 _ => n - (intOf s9).toNat)
  case atStart => exact ⟨0, 0, Nat.zero_le _, rfl, rfl, Lib.hid ⟨HB0.out, rfl⟩⟩
  case round =>
    obtain ⟨i, u, hi, rfl, rfl, hR⟩ := hrel
    by_cases hend : i < n
    · obtain ⟨b, o, hae, _, c0, c1, c2⟩ := (HR.out.old hR.out.1).fx i (by rw [← HNN.out]; exact hend)
      have hst := usedX_take (X := S.X) i (by rw [← HNN.out]; exact hend)
      have hle := usedX_take_le S.X (i + 1)
      rw [← hR.out.2] at hst
      subst hae
      generalize S.X[i]'(by rw [← HNN.out]; exact hend) = x at *
      obtain ⟨xk, xs, xn⟩ := x
      simp only at *
      have hub : u + xs.length ≤ 1000000000000000 := by have := HU.out; omega
      have HST := Lib.hid hst
      have HBW := Lib.hid hR.out.1
      clear hst hR hle
      have hr1 : (wr.alloc (.cells #[.string ⟨#[]⟩, .string ⟨#[]⟩, .int .i64 0] 64)).heap[wr.heap.size]? = some (.cells #[.string ⟨#[]⟩, .string ⟨#[]⟩, .int .i64 0] 64 (0, 0)) := heap_alloc_new _ _
      have hV : ∀ v ∈ (#[.string ⟨xk.toArray⟩, .string ⟨xs.toArray⟩, .int .i64 (xn : Int)] : Array Value).toList, v.oneCell' = true := by intro v hv; simp at hv; rcases hv with rfl | rfl | rfl <;> rfl
      have HI2 := HI.out
      go_upto_region 5 with (refine wpList_store_row rfl rfl 64 (.tmp 5) (.tmp 12) rfl wr.heap.size rfl 64 _ #[.string ⟨xk.toArray⟩, .string ⟨xs.toArray⟩, .int .i64 (xn : Int)] rfl hr1 rfl HI2 hV ?_)
      obtain ⟨W3, hW3⟩ : ∃ W, W = (wr.alloc (.cells #[.string ⟨#[]⟩, .string ⟨#[]⟩, .int .i64 0] 64)).setRow wr.heap.size #[.string ⟨xk.toArray⟩, .string ⟨xs.toArray⟩, .int .i64 (xn : Int)] := ⟨_, rfl⟩
      have hb3 : Below wr.heap.size wr W3 := by rw [hW3]; exact (((Mod.refl (fun _ => False) wr).alloc _).setRow (g := wr.heap.size) _).to_below (Nat.le_refl _) (by rintro k hk (h | h); exact h; omega)
      have h3 : W3.heap[wr.heap.size]? = some (.cells #[.string ⟨xk.toArray⟩, .string ⟨xs.toArray⟩, .int .i64 (xn : Int)] 64 (0, 0)) := by rw [hW3]; exact setRow_heap _ _ _ _ 64 (0, 0) hr1
      have k0 : W3.cell? ⟨wr.heap.size, 0, none⟩ = some (.string ⟨xk.toArray⟩) := by unfold World.cell?; rw [h3]; rfl
      have k1 : W3.cell? ⟨wr.heap.size, 1, none⟩ = some (.string ⟨xs.toArray⟩) := by unfold World.cell?; rw [h3]; rfl
      have k2 : W3.cell? ⟨wr.heap.size, 2, none⟩ = some (.int .i64 (xn : Int)) := by unfold World.cell?; rw [h3]; rfl
      rw [← hW3]
      have HB3 := Lib.hid hb3
      have H3 := Lib.hid h3
      clear hW3 hr1 hV hb3 h3
      have HBE := Lib.hid (HBW.out.trans (HB3.out.mono HBW.out.size))
      go_wp2_with fail
      refine ⟨⟨i + 1, u + xs.length, by omega, by simp, by simp, Lib.hid ⟨HBE.out, HST.out.symm⟩⟩, ?_⟩
      show n - ((i : Int) + 1).toNat < n - ((i : Int)).toNat
      omega
    · have hz : z = u := by
        rw [hR.out.2, List.take_of_length_le (by rw [← HNN.out]; omega)]; exact HZ.out
      have HBE := Lib.hid hR.out.1
      subst hz
      have hend2 : ¬ (i : Int) < (n : Int) := by omega
      clear hend hR
      go_wp2_with fail
      go_ret
      exact ⟨rfl, HBE.out⟩
end Go.Proofs.Ytpbcglepecojmaa

namespace Go.Proofs.Ytpbcglepecojmaa
open Go.RowKit

theorem info_rf : (Try.prog.info? 64).map (fun i => (i.zero, i.size, i.bytes)) = some (some (.agg #[.string ⟨#[]⟩, .string ⟨#[]⟩, .int .i64 0]), 3, 40) := by kernel_rfl
theorem wo_take {k : List UInt8} {X : List FX} (j : Nat) (hj : j < X.length) : wo k (X.take (j + 1)) = if (X[j]).1 = k then wo k (X.take j) else wo k (X.take j) ++ [X[j]] := by
  rw [List.take_succ_eq_append_getElem hj]
  unfold wo
  rw [List.filter_append]
  by_cases h : (X[j]).1 = k
  · rw [if_pos h, List.filter_cons_of_neg (by simp [h]), List.filter_nil, List.append_nil]
  · rw [if_neg h, List.filter_cons_of_pos (by simp [h]), List.filter_nil]
set_option maxRecDepth 20000 in
set_option maxHeartbeats 4000000 in
theorem rkwithout_any {w : World} (X : List FX) (ao : Option Addr) (c : Nat) (k : List UInt8) (hR : Rd encF w ao X) (hn : X.length ≤ 1000000) :
    Calls Try.prog 38 #[.slice ao X.length c, .string ⟨k.toArray⟩] w fun e w' => ∃ q c', e = .returned (.slice q (wo k X).length c') ∧ Rw encF 64 w' q c' (wo k X) ∧ (∀ a, q = some a → w.heap.size ≤ a.block) ∧ Below w.heap.size w w' := by
  obtain ⟨n, hnn⟩ : ∃ n, n = X.length := ⟨_, rfl⟩
  have HNN := Lib.hid hnn
  rw [← hnn] at hn ⊢
  have HR := Lib.hid hR
  have HI := Lib.hid finfo
  have HZ0 := Lib.hid (Rw.made (E := encF) 64 w [] (by simp [maxLen]))
  clear hR hnn
  go_enter Try.func38, Try.ntmps38
  go_wp2_with fail
  have hb0 : Below w.heap.size w (w.alloc (.cells #[] 64)) := (Below.refl _ w).alloc (Nat.le_refl _) _
  have HK0 : Hid (AccR encF 64 w 0 [] (some ⟨w.heap.size, 0, none⟩) 0 (w.alloc (.cells #[] 64))) := Lib.hid ⟨HZ0.out, rfl, (fun a e => by cases e; exact Nat.le_refl _), hb0⟩
  clear hb0 HZ0
  generalize w.alloc (.cells #[] 64) = W0 at HK0 ⊢
  go_loopw [5, 7, 11] (fun s5 _ s11 wr => ∃ (i m : Nat) (q : Option Addr) (cq : Nat), i ≤ n ∧ m ≤ i ∧ s11 = .int .i64 (i : Int) ∧ s5 = .slice q m cq ∧ Hid (AccR encF 64 w m (wo k (X.take i)) q cq wr)) (fun _ _ s11 _ => n - (intOf s11).toNat)
  case atStart => exact ⟨0, 0, _, 0, Nat.zero_le _, Nat.le_refl _, rfl, rfl, HK0⟩
  case round =>
    obtain ⟨i, m, q, cq, hi, hm, rfl, rfl, hR⟩ := hrel
    by_cases hend : i < n
    · obtain ⟨b, o, hae, _, c0, c1, c2⟩ := (HR.out.old hR.out.m).fx i (by rw [← HNN.out]; exact hend)
      have hst := wo_take (k := k) (X := X) i (by rw [← HNN.out]; exact hend)
      subst hae
      generalize X[i]'(by rw [← HNN.out]; exact hend) = x at *
      obtain ⟨xk, xs, xn⟩ := x
      simp only at *
      have HST := Lib.hid hst
      have HAC := Lib.hid hR.out
      clear hst hR
      have hr1 : (wr.alloc (.cells #[.string ⟨#[]⟩, .string ⟨#[]⟩, .int .i64 0] 64)).heap[wr.heap.size]? = some (.cells #[.string ⟨#[]⟩, .string ⟨#[]⟩, .int .i64 0] 64 (0, 0)) := heap_alloc_new _ _
      have hV : ∀ v ∈ (#[.string ⟨xk.toArray⟩, .string ⟨xs.toArray⟩, .int .i64 (xn : Int)] : Array Value).toList, v.oneCell' = true := by intro v hv; simp at hv; rcases hv with rfl | rfl | rfl <;> rfl
      have HI2 := HI.out
      go_upto_region 5 with (refine wpList_store_row rfl rfl 64 (.tmp 7) (.tmp 14) rfl wr.heap.size rfl 64 _ #[.string ⟨xk.toArray⟩, .string ⟨xs.toArray⟩, .int .i64 (xn : Int)] rfl hr1 rfl HI2 hV ?_)
      obtain ⟨W3, hW3⟩ : ∃ W, W = (wr.alloc (.cells #[.string ⟨#[]⟩, .string ⟨#[]⟩, .int .i64 0] 64)).setRow wr.heap.size #[.string ⟨xk.toArray⟩, .string ⟨xs.toArray⟩, .int .i64 (xn : Int)] := ⟨_, rfl⟩
      have hb3 : Below wr.heap.size wr W3 := by rw [hW3]; exact (((Mod.refl (fun _ => False) wr).alloc _).setRow (g := wr.heap.size) _).to_below (Nat.le_refl _) (by rintro k hk (h | h); exact h; omega)
      have h3 : W3.heap[wr.heap.size]? = some (.cells #[.string ⟨xk.toArray⟩, .string ⟨xs.toArray⟩, .int .i64 (xn : Int)] 64 (0, 0)) := by rw [hW3]; exact setRow_heap _ _ _ _ 64 (0, 0) hr1
      have k0 : W3.cell? ⟨wr.heap.size, 0, none⟩ = some (.string ⟨xk.toArray⟩) := by unfold World.cell?; rw [h3]; rfl
      have k1 : W3.cell? ⟨wr.heap.size, 1, none⟩ = some (.string ⟨xs.toArray⟩) := by unfold World.cell?; rw [h3]; rfl
      have k2 : W3.cell? ⟨wr.heap.size, 2, none⟩ = some (.int .i64 (xn : Int)) := by unfold World.cell?; rw [h3]; rfl
      rw [← hW3]
      have HB3 := Lib.hid hb3
      have H3 := Lib.hid h3
      clear hW3 hr1 hV hb3 h3
      have HA3 := Lib.hid (HAC.out.below HB3.out)
      by_cases he : xk = k
      · subst he
        go_wp2_with fail
        refine ⟨⟨i + 1, m, q, cq, by omega, by omega, by simp, rfl, Lib.hid (by rw [HST.out, if_pos rfl]; exact HA3.out)⟩, ?_⟩
        show n - ((i : Int) + 1).toNat < n - ((i : Int)).toNat
        omega
      · have he2 : (xk == k) = false := by simpa using he
        have h3 := H3.out
        have hml : (wo k (X.take i)).length = m := HAC.out.len
        have HML := Lib.hid hml
        have HNB : Hid (m + 1 ≤ 100000000000) := Lib.hid (by omega)
        clear hml
        obtain ⟨W4, hW4⟩ : ∃ W, W = W3.alloc (.cells #[.string ⟨xk.toArray⟩, .string ⟨xs.toArray⟩, .int .i64 (xn : Int)] 64) := ⟨_, rfl⟩
        have hb4 : Below W3.heap.size W3 W4 := by rw [hW4]; exact (Below.refl _ _).alloc (Nat.le_refl _) _
        have HS4 : Hid (AccR encF 64 w m (wo k (X.take i)) q cq W4 ∧ Rd encF W4 (some ⟨W3.heap.size, 0, none⟩) [(xk, xs, xn)]) := Lib.hid ⟨HA3.out.below hb4, by
          have := Rd.made encF W3 64 [(xk, xs, xn)] (by simp [maxLen])
          rw [hW4]; exact this⟩
        have HW4 := Lib.hid hW4
        clear hb4 hW4
        go_wp2_with (first
          | (refine wpList_load_row rfl 64 (.tmp 7) rfl wr.heap.size rfl 64 #[.string ⟨xk.toArray⟩, .string ⟨xs.toArray⟩, .int .i64 (xn : Int)] (0, 0) _ h3 Try.underlying64 rfl HI2 ?_; clear h3)
          | (rw [← HW4.out]; refine wpList_pushR encF rfl (.tmp 19) (.tmp 21) 26 64 _ 40 rfl Try.underlying26 info_rf rfl (by decide) q cq m (wo k (X.take i)) HML.out rfl HS4.out.1.s (some ⟨W3.heap.size, 0, none⟩) 1 1 [(xk, xs, xn)] rfl rfl HS4.out.2 HNB.out ?_; intro q2 c2 w5 hP5; have HP5 := Lib.hid hP5; clear hP5; go_frame))
        have hP := HS4.out.1.push HP5.out
        refine ⟨⟨i + 1, m + 1, q2, c2, by omega, by omega, by simp, rfl, Lib.hid (by rw [HST.out, if_neg he]; exact hP)⟩, ?_⟩
        show n - ((i : Int) + 1).toNat < n - ((i : Int)).toNat
        omega
    · have hX : X.take i = X := List.take_of_length_le (by rw [← HNN.out]; omega)
      have hAC := hR.out
      rw [hX] at hAC
      have HAC := Lib.hid hAC
      have hend2 : ¬ (i : Int) < (n : Int) := by omega
      clear hend hR hAC hX
      go_wp2_with fail
      go_ret
      exact ⟨q, cq, by rw [HAC.out.len]; rfl, HAC.out.s, HAC.out.new, HAC.out.m⟩
end Go.Proofs.Ytpbcglepecojmaa
