/- GainSums' walk with what it needs alone, in one text. -/
import Derived.Test.YtepibfpdkjkdjaaDoorDraw2
import Derived.Test.YtepibfpdkjkdjaaDoorVal
import Derived.Test.YtepibfpdkjkdjaaDoorG10
import Derived.Test.YtepibfpdkjkdjaaDoorAuto2
import Derived.Deep.SlicePairs
import Derived.ChangeArms
import Derived.WalkKit
import Derived.ProofKit
import Derived.OpenShut
/- A region that draws its order and ends in one store: the law of XDraw2, with what is known of operations that are not done yet. -/
namespace Go.Proofs.YtepibfpdkjkdjaaDoor
open Go Go.RowKit

section
variable {P : Program} {ops : Array Oper} {Q : Exit → Act → World → Prop} {md : Region.Mode} {Γ : Type} {V : Tmp → Value → Γ → World → Prop} {U N : Nat → Γ → World → Prop} {G : Γ → World → Prop} {a0 : Act}

/-- What one operation owes. -/
def Owes3 (P : Program) (md : Region.Mode) (ops : Array Oper) (Q : Exit → Act → World → Prop) (V : Tmp → Value → Γ → World → Prop) (U N : Nat → Γ → World → Prop) (G : Γ → World → Prop) (a0 : Act) (i : Nat) (o : Oper) : Prop :=
  ∀ γ a w, Agree ops a0 a → G γ w → AllV (fun t v w => V t v γ w) a w (waits md ops o) → AllU U γ w (waitsI md o) → N i γ w → (∀ j p, ops[j]? = some p → (∃ e ∈ p.after, Region.binds md e = true ∧ e.on = i) → N j γ w) →
    wpOp P ops Q i (fun a' w' => ∃ v γ', a' = a.put o.dst v ∧ (∀ t, o.dst = some t → V t v γ' w') ∧ U i γ' w' ∧ G γ' w' ∧
      (∀ j p, ops[j]? = some p → j ≠ i → (∀ e ∈ p.after, Region.binds md e = true → e.on ≠ i) → (∀ t x, p.dst = some t → V t x γ w → V t x γ' w') ∧ (U j γ w → U j γ' w')) ∧ (∀ j, j ≠ i → N j γ w → N j γ' w')) a w

theorem wpAny_vals3 (hok : DrawOk2 md ops a0.tmps.size) (step : ∀ (i : Nat) (o : Oper), ops[i]? = some o → Owes3 P md ops Q V U N G a0 i o)
    (fin : ∀ γ a w, Agree ops a0 a → G γ w → (∀ (i : Nat) (o : Oper) (t : Tmp), ops[i]? = some o → o.dst = some t → V t (a.eval (.tmp t)) γ w) → (∀ (i : Nat) (o : Oper), ops[i]? = some o → U i γ w) → Q .normal a w) :
    ∀ (fuel : Nat) (γ : Γ) (L : Array Bool) (a : Act) (w : World), unl L ops.size ≤ fuel → L.size = ops.size → Agree ops a0 a → G γ w →
      (∀ (j : Nat) (p : Oper), ops[j]? = some p → L.getD j true = true → ∀ e ∈ p.after, Region.binds md e = true → L.getD e.on true = true) →
      (∀ (i : Nat) (o : Oper) (t : Tmp), ops[i]? = some o → L.getD i true = true → o.dst = some t → V t (a.eval (.tmp t)) γ w) →
      (∀ (i : Nat) (o : Oper), ops[i]? = some o → L.getD i true = true → U i γ w) →
      (∀ (i : Nat) (o : Oper), ops[i]? = some o → L.getD i true = false → N i γ w) → wpAny P md ops Q fuel L a w := by
  have allL : ∀ L : Array Bool, L.size = ops.size → Region.ready md ops L = [] → ∀ (i : Nat) (o : Oper), ops[i]? = some o → L.getD i true = true := by
    intro L hL hr i o ho
    cases hc : L.getD i true with
    | true => rfl
    | false =>
      obtain ⟨j, hj⟩ := ready_some2 hok hL i (Array.getElem?_eq_some_iff.1 ho).1 hc
      rw [hr] at hj; cases hj
  intro fuel
  induction fuel with
  | zero =>
    intro γ L a w hu hL ha hG _ hv hU _
    have hr : Region.ready md ops L = [] := by
      apply List.eq_nil_iff_forall_not_mem.2
      intro j hj
      obtain ⟨hun, o, ho, _⟩ := mem_ready.1 hj
      have := unl_pos L ops.size j (Array.getElem?_eq_some_iff.1 ho).1 hun
      omega
    exact ⟨hr, fin γ a w ha hG (fun i o t ho ht => hv i o t ho (allL L hL hr i o ho) ht) (fun i o ho => hU i o ho (allL L hL hr i o ho))⟩
  | succ fuel ih =>
    intro γ L a w hu hL ha hG hcl hv hU hN
    refine ⟨fun hr => fin γ a w ha hG (fun i o t ho ht => hv i o t ho (allL L hL hr i o ho) ht) (fun i o ho => hU i o ho (allL L hL hr i o ho)), fun i hi => ?_⟩
    obtain ⟨hun, o, ho, hall⟩ := mem_ready.1 hi
    have hil : i < ops.size := (Array.getElem?_eq_some_iff.1 ho).1
    have up : ∀ k, k < ops.size → L.getD k false = true → L.getD k true = true := by
      intro k hk h
      have hkl : k < L.size := by omega
      simp [hkl] at h ⊢; exact h
    have hw : AllV (fun t v w => V t v γ w) a w (waits md ops o) := AllV.of (by
      intro t ht
      unfold waits at ht
      obtain ⟨e, he, hd⟩ := List.mem_filterMap.1 ht
      obtain ⟨he1, he2⟩ := List.mem_filter.1 he
      cases hj : ops[e.on]? with
      | none => rw [hj] at hd; cases hd
      | some p =>
        rw [hj] at hd
        exact hv e.on p t hj (up _ (Array.getElem?_eq_some_iff.1 hj).1 (hall e (by simpa using he1) he2)) hd)
    have hwU : AllU U γ w (waitsI md o) := by
      intro j hj
      have hj2 : j ∈ waitsI md o := by simpa using hj
      obtain ⟨e, he, rfl⟩ := List.mem_map.1 hj2
      obtain ⟨he1, he2⟩ := List.mem_filter.1 he
      have hlt := hok.before i o ho e (by simpa using he1) he2
      have hes : e.on < ops.size := by omega
      exact hU e.on _ (Array.getElem?_eq_getElem hes) (up _ hes (hall e (by simpa using he1) he2))
    refine wpOp_mono (fun a' w' h => ?_) (step i o ho γ a w ha hG hw hwU (hN i o ho hun) (fun j p hp ⟨e, he, hb, heq⟩ => hN j p hp (by
      cases hl : L.getD j true with
      | false => rfl
      | true => have := hcl j p hp hl e he hb; rw [heq, hun] at this; cases this)))
    obtain ⟨v, γ', rfl, hvi, hUi, hG', hst, hNst⟩ := h
    have notOn : ∀ (j : Nat) (p : Oper), ops[j]? = some p → L.getD j true = true → ∀ e ∈ p.after, Region.binds md e = true → e.on ≠ i := by
      intro j p hp hl e he hb heq
      have := hcl j p hp hl e he hb
      rw [heq, hun] at this; cases this
    refine ih γ' _ _ _ ?_ (by simpa using hL) ?_ hG' ?_ ?_ ?_ ?_
    · have := unl_set L i hun ops.size
      rw [if_pos hil] at this; omega
    · refine ⟨by rw [size_put]; exact ha.size, by rw [defers_put]; exact ha.defers, fun t ht => ?_⟩
      rw [Act.eval_put (fun d hd e => ht i o ho (by cases e; exact hd))]
      exact ha.same t ht
    · intro j p hp hl e he hb
      by_cases e1 : e.on = i
      · rw [e1]; exact set_self L i
      · rw [getD_set_ne true (Ne.symm e1)]
        by_cases e2 : j = i
        · subst e2
          rw [ho] at hp; cases hp
          have hlt := hok.before j o ho e he hb
          exact up _ (by omega) (hall e he hb)
        · rw [getD_set_ne true (Ne.symm e2)] at hl
          exact hcl j p hp hl e he hb
    · intro j p t hp hl ht
      by_cases e : j = i
      · subst e
        rw [ho] at hp; cases hp
        rw [ht, eval_put_same (by rw [ha.size]; exact hok.room j o t ho ht)]
        exact hvi t ht
      · rw [Act.eval_put (fun d hd e2 => by cases e2; exact hok.apart i j o p t ho hp e hd ht)]
        rw [getD_set_ne true (Ne.symm e)] at hl
        exact (hst j p hp e (notOn j p hp hl)).1 t _ ht (hv j p t hp hl ht)
    · intro j p hp hl
      by_cases e : j = i
      · subst e; exact hUi
      · rw [getD_set_ne true (Ne.symm e)] at hl
        exact (hst j p hp e (notOn j p hp hl)).2 (hU j p hp hl)
    · intro j p hp hl
      by_cases e : j = i
      · subst e; rw [set_self] at hl; cases hl
      · rw [getD_set_ne true (Ne.symm e)] at hl
        exact hNst j e (hN j p hp hl)

def OweAll3 (P : Program) (md : Region.Mode) (ops : Array Oper) (Q : Exit → Act → World → Prop) (V : Tmp → Value → Γ → World → Prop) (U N : Nat → Γ → World → Prop) (G : Γ → World → Prop) (a0 : Act) : Nat → List Oper → Prop
  | _, [] => True
  | k, o :: r => Owes3 P md ops Q V U N G a0 k o ∧ OweAll3 P md ops Q V U N G a0 (k + 1) r
theorem OweAll3.get : ∀ {l : List Oper} {k : Nat}, OweAll3 P md ops Q V U N G a0 k l → ∀ (i : Nat) (o : Oper), l[i]? = some o → Owes3 P md ops Q V U N G a0 (k + i) o
  | _ :: _, k, h, 0, o, hi => by cases hi; exact h.1
  | _ :: r, k, h, i + 1, o, hi => by
    have := OweAll3.get h.2 i o (by simpa using hi)
    rwa [show k + 1 + i = k + (i + 1) by omega] at this
  | [], _, _, i, o, hi => by simp at hi
theorem OweAll3.cons {k : Nat} {o : Oper} {r : List Oper} (h : Owes3 P md ops Q V U N G a0 k o) (h2 : OweAll3 P md ops Q V U N G a0 (k + 1) r) : OweAll3 P md ops Q V U N G a0 k (o :: r) := ⟨h, h2⟩
theorem OweAll3.nil {k : Nat} : OweAll3 P md ops Q V U N G a0 k [] := trivial

/-- A region that draws its order, with a ghost. -/
theorem wp_region_vals3 {id : Nat} {w : World} (γ0 : Γ) (V : Tmp → Value → Γ → World → Prop) (U N : Nat → Γ → World → Prop) (G : Γ → World → Prop) (n : Nat) (hm : P.follows .mixedOrders = true) (hok : drawOk2 .any ops n = true) (hn : a0.tmps.size = n) (hG : G γ0 w.drew) (hN0 : ∀ i, N i γ0 w.drew)
    (step : OweAll3 P .any ops Q V U N G a0 0 ops.toList)
    (fin : ∀ γ a w, Agree ops a0 a → G γ w → (∀ (i : Nat) (o : Oper) (t : Tmp), ops[i]? = some o → o.dst = some t → V t (a.eval (.tmp t)) γ w) → (∀ (i : Nat) (o : Oper), ops[i]? = some o → U i γ w) → Q .normal a w) : (Code.region id ops true).wp P Q a0 w := by
  subst hn
  have hok := drawOk2_spec hok
  have hrep : ∀ (i : Nat) (o : Oper), ops[i]? = some o → (Array.replicate ops.size false).getD i true = true → False := by
    intro i o ho hl
    have hlt := (Array.getElem?_eq_some_iff.1 ho).1
    simp [hlt] at hl
  refine wp_region_any hm (wpAny_vals3 hok (V := V) (U := U) (N := N) (G := G) (fun i o ho => ?_) fin ops.size γ0 _ a0 _ (unl_le _ _) (by simp) ⟨rfl, rfl, fun _ _ => rfl⟩ hG ?_ ?_ ?_ (fun i _ _ _ => hN0 i))
  · have := step.get i o (by simpa using ho)
    rwa [Nat.zero_add] at this
  · intro j p hp hl; exact (hrep j p hp hl).elim
  · intro j p t hp hl; exact (hrep j p hp hl).elim
  · intro j p hp hl; exact (hrep j p hp hl).elim
/-- .. what follows it at a known frame. -/
theorem wp_region_puts3 {id : Nat} {w : World} (γ0 : Γ) (V : Tmp → Value → Γ → World → Prop) (U N : Nat → Γ → World → Prop) (G : Γ → World → Prop) (n : Nat) (hm : P.follows .mixedOrders = true) (hok : drawOk2 .any ops n = true) (hn : a0.tmps.size = n) (hG : G γ0 w.drew) (hN0 : ∀ i, N i γ0 w.drew)
    (step : OweAll3 P .any ops Q V U N G a0 0 ops.toList)
    (fin : ∀ f γ w, G γ w → (∀ (i : Nat) (o : Oper) (t : Tmp), ops[i]? = some o → o.dst = some t → V t (f t) γ w) → (∀ (i : Nat) (o : Oper), ops[i]? = some o → U i γ w) → Q .normal (puts f (dsts ops) a0) w) : (Code.region id ops true).wp P Q a0 w :=
  wp_region_vals3 γ0 V U N G n hm hok hn hG hN0 step (fun γ a w ha hG hv hU => by
    subst hn
    rw [agree_puts2 ha (drawOk2_spec hok).room]
    exact fin _ γ w hG hv hU)
end

/-! A region whose last work is one store: until then nothing old is turned. -/
section
variable {P : Program} {ops : Array Oper} {Q : Exit → Act → World → Prop} {md : Region.Mode} {K : Tmp → Kd} {ks : Nat} {W : World} {R : World → Prop} {a0 : Act}
def VS (K : Tmp → Kd) (t : Tmp) (v : Value) (γ : Bool) (w : World) : Prop := γ = true ∨ Val (K t) v w
def US (ks : Nat) (j : Nat) (γ : Bool) (_ : World) : Prop := j = ks → γ = true
def NS (ks : Nat) (j : Nat) (γ : Bool) (_ : World) : Prop := j = ks → γ = false
structure GS (W : World) (R : World → Prop) (γ : Bool) (w : World) : Prop where
  no : γ = false → Below W.heap.size W w
  yes : γ = true → R w
theorem AllV.plain {K : Tmp → Kd} {a : Act} {w : World} : ∀ {l : List Tmp}, AllV (fun t v w => VS K t v false w) a w l → AllV (fun t v w => Val (K t) v w) a w l
  | [], _ => trivial
  | _ :: _, h => ⟨h.1.resolve_left (by simp), AllV.plain h.2⟩
theorem owes3_val {i : Nat} {o o' : Oper} {t : Tmp} (hi : ops[i]? = some o) (ht : o.dst = some t) (hks : ops[ks]? = some o') (hne : i ≠ ks) (hwait : ∃ e ∈ o'.after, Region.binds md e = true ∧ e.on = i)
    (h : ∀ a w, Agree ops a0 a → Below W.heap.size W w → AllV (fun t v w => Val (K t) v w) a w (waits md ops o) →
    ∃ v, Region.wanted o (yielded ops a.tmps) = true ∧ (execOp a.eval o).run P w = .ok (.value v) w ∧ Val (K t) v w) : Owes3 P md ops Q (VS K) (US ks) (NS ks) (GS W R) a0 i o := by
  intro γ a w ha hG hV _ _ hN
  obtain rfl : γ = false := hN ks o' hks hwait rfl
  obtain ⟨v, hw, hr, hv⟩ := h a w ha (hG.no rfl) (AllV.plain hV)
  unfold wpOp
  rw [hi]
  simp only [hw, if_true, Oper.wp, hr, Oper.upon]
  exact .inl ⟨v, false, rfl, fun u hu => by rw [ht] at hu; cases hu; exact .inr hv, fun e => absurd e hne, hG, fun _ _ _ _ _ => ⟨fun _ _ _ h => h, fun h => h⟩, fun _ _ h => h⟩
theorem owes3_call {i : Nat} {o o' : Oper} {t : Tmp} (hi : ops[i]? = some o) (ht : o.dst = some t) (f : FuncId) (hks : ops[ks]? = some o') (hne : i ≠ ks) (hwait : ∃ e ∈ o'.after, Region.binds md e = true ∧ e.on = i)
    (h : ∀ a w, Agree ops a0 a → Below W.heap.size W w → AllV (fun t v w => Val (K t) v w) a w (waits md ops o) →
    ∃ args, Region.wanted o (yielded ops a.tmps) = true ∧ (execOp a.eval o).run P w = .ok (.enter f args) w ∧
      Calls P f args w fun e w' => ∃ v, e = .returned v ∧ Val (K t) v w' ∧ Below w.heap.size w w') : Owes3 P md ops Q (VS K) (US ks) (NS ks) (GS W R) a0 i o := by
  intro γ a w ha hG hV _ _ hN
  obtain rfl : γ = false := hN ks o' hks hwait rfl
  have hb0 := hG.no rfl
  obtain ⟨args, hw, hr, hc⟩ := h a w ha hb0 (AllV.plain hV)
  unfold wpOp
  rw [hi]
  simp only [hw, if_true, Oper.wp, hr, Oper.upon]
  refine .inl (hc.mono ?_)
  rintro e w' ⟨v, rfl, h1, hb⟩
  exact ⟨v, false, rfl, fun u hu => by rw [ht] at hu; cases hu; exact .inr h1, fun e => absurd e hne, ⟨fun _ => hb0.trans (hb.mono hb0.size), fun e => by cases e⟩, fun _ _ _ _ _ => ⟨fun _ _ _ h => h.imp id (fun h => Val.old h hb), fun h => h⟩, fun _ _ h => h⟩
theorem owes3_store {o : Oper} (hi : ops[ks]? = some o) (ht : o.dst = none) (hg : o.guard = none) (h : ∀ a w, Agree ops a0 a → Below W.heap.size W w → AllV (fun t v w => Val (K t) v w) a w (waits md ops o) →
    ∃ w', (execOp a.eval o).run P w = .ok .skip w' ∧ R w') : Owes3 P md ops Q (VS K) (US ks) (NS ks) (GS W R) a0 ks o := by
  intro γ a w ha hG hV _ hN _
  obtain rfl : γ = false := hN rfl
  obtain ⟨w', hr, hR⟩ := h a w ha (hG.no rfl) (AllV.plain hV)
  unfold wpOp
  rw [hi]
  simp only [wanted_free hg, if_true, Oper.wp, hr, Oper.upon]
  have hv0 : ∀ t, o.dst = some t → VS K t undef true w' := by intro t e; rw [ht] at e; cases e
  refine .inl ⟨undef, true, rfl, hv0, fun _ => rfl, ⟨fun e => (by cases e), fun _ => hR⟩, fun _ _ _ _ _ => ⟨fun _ _ _ _ => .inl rfl, fun _ _ => rfl⟩, fun j hj _ e => absurd e hj⟩
/-- The region: behind it the store has been. -/
theorem wp_region_last {id : Nat} {w : World} {o' : Oper} (K : Tmp → Kd) (ks : Nat) (R : World → Prop) (n : Nat) (hm : P.follows .mixedOrders = true) (hok : drawOk2 .any ops n = true) (hn : a0.tmps.size = n) (hW : Below W.heap.size W w.drew) (hks : ops[ks]? = some o')
    (step : OweAll3 P .any ops Q (VS K) (US ks) (NS ks) (GS W R) a0 0 ops.toList) (fin : ∀ f w, R w → Q .normal (puts f (dsts ops) a0) w) : (Code.region id ops true).wp P Q a0 w :=
  wp_region_puts3 false (VS K) (US ks) (NS ks) (GS W R) n hm hok hn ⟨fun _ => hW, fun e => by cases e⟩ (fun _ _ => rfl) step
    (fun f _ w hG _ hU => fin f w (hG.yes (hU ks o' hks rfl)))
end
end Go.Proofs.YtepibfpdkjkdjaaDoor

/- gain.Sum. -/
namespace Go.Proofs.YtepibfpdkjkdjaaDoor
open Go.RowKit

/-- The slice holds the steps. -/
def StepsAt (w : World) (ao : Option Addr) (L : List (Nat × Int)) : Prop :=
  ∀ j (h : j < L.length), ∃ bs off, ao = some ⟨bs, off, none⟩ ∧ bs < w.heap.size ∧ w.cell? ⟨bs, off + j * 2, none⟩ = some (.int .u64 ((L[j].1 : Nat) : Int)) ∧ w.cell? ⟨bs, off + j * 2 + 1, none⟩ = some (.int .i64 L[j].2)
theorem StepsAt.old {w w' : World} {ao : Option Addr} {L : List (Nat × Int)} (h : StepsAt w ao L) (hb : Below w.heap.size w w') : StepsAt w' ao L := by
  intro j hj
  obtain ⟨bs, off, e, hlt, c1, c2⟩ := h j hj
  exact ⟨bs, off, e, Nat.lt_of_lt_of_le hlt hb.size, (hb.cell (p := ⟨bs, off + j * 2, none⟩) hlt).trans c1, (hb.cell (p := ⟨bs, off + j * 2 + 1, none⟩) hlt).trans c2⟩
theorem StepsAt.take {w : World} {ao : Option Addr} {L : List (Nat × Int)} (h : StepsAt w ao L) (n : Nat) : StepsAt w ao (L.take n) := by
  intro j hj
  have hj2 : j < L.length := by rw [List.length_take] at hj; omega
  obtain ⟨bs, off, e, hlt, c1, c2⟩ := h j hj2
  refine ⟨bs, off, e, hlt, ?_, ?_⟩ <;> rw [List.getElem_take] <;> assumption
/-- Each step's numbers are of their kinds. -/
def StepsOk (L : List (Nat × Int)) : Prop := ∀ s ∈ L, s.1 < 18446744073709551616 ∧ -9223372036854775808 ≤ s.2 ∧ s.2 ≤ 9223372036854775807
/-- A weight and steps. -/
def gsum (x : Nat) (L : List (Nat × Int)) : Nat := L.foldl (fun a s => a + gw s.1 s.2) x
theorem gsum_take (x : Nat) (L : List (Nat × Int)) (i : Nat) (hi : i < L.length) : gsum x (L.take (i + 1)) = gsum x (L.take i) + gw L[i].1 L[i].2 := by
  unfold gsum
  rw [← List.take_append_getElem hi, List.foldl_append]; rfl

/-- A box is no row of numbers. -/
theorem Boxed.apart {w : World} {B : Nat} {T T' : TypeId} {v : Value} {k : IntKind} {q : Option Addr} {c : Nat} {A : List Nat} (h : Boxed w B T v) (hs : Sl k T' w q c A) (hT : T ≠ T') : ∀ a, q = some a → a.block ≠ B := by
  rintro a rfl rfl
  rcases hs.shape with ⟨e, _⟩ | ⟨g, e, _, _, _, cur, hh, _⟩
  · cases e
  · cases e
    have h2 : w.heap[g]? = _ := h
    rw [hh] at h2
    cases h2
    exact hT rfl
/-- While the steps are added: i are. -/
structure SumR (w : World) (B x n : Nat) (L : List (Nat × Int)) (i y ny : Nat) (q : Option Addr) (c : Nat) (wr : World) : Prop where
  val : y = gsum x (L.take i)
  len : ny = (lb y).length
  nyb : ny ≤ n + 10 * i
  s : NatIn wr q c y
  kb : Boxed wr B 25 (.slice q ny c)
  kr : Boxed wr (w.heap.size + 1) 25 (.slice none 0 0)
  m : Below w.heap.size w wr
  hB : w.heap.size + 1 < B

theorem SumR.next {w : World} {B x n : Nat} {L : List (Nat × Int)} {i y ny : Nat} {q : Option Addr} {c : Nat} {wr W w1 : World} (h : SumR w B x n L i y ny q c wr) (hW : Below wr.heap.size wr W) (hi : i < L.length) (y2 : Nat) (hy : y2 = y + gw L[i].1 L[i].2) (hg : (lb (gw L[i].1 L[i].2)).length ≤ 9)
    {q2 : Option Addr} {c2 : Nat} (hb : Below W.heap.size W w1) (hN : NatIn w1 q2 c2 y2) : SumR w B x n L (i + 1) y2 (lb y2).length q2 c2 (w1.setCell ⟨B, 0, none⟩ (.slice q2 (lb y2).length c2)) := by
  have hb2 : Below wr.heap.size wr w1 := hW.trans (hb.mono hW.size)
  have k2 := Boxed.below' h.kb hb2 h.kb.lt
  have hm : Mod (· = B) w1 (w1.setCell ⟨B, 0, none⟩ (.slice q2 (lb y2).length c2)) := (Mod.refl (· = B) w1).setCell (p := ⟨B, 0, none⟩) (fun _ => rfl) _
  have hB := h.hB
  refine ⟨?_, rfl, ?_, hN.kept hm (Boxed.apart k2 hN (by decide)), k2.set _, Boxed.mod' (Boxed.below' h.kr hb2 h.kr.lt) hm (by omega), (h.m.trans (hb2.mono h.m.size)).setCell (p := ⟨B, 0, none⟩) (by show w.heap.size ≤ B; omega) _, hB⟩
  · rw [gsum_take x L i hi, ← h.val, hy]
  · have h1 := lb_add y (gw L[i].1 L[i].2)
    rw [← hy] at h1
    have := h.len; have := h.nyb; omega

set_option maxRecDepth 20000 in
set_option maxHeartbeats 8000000 in
theorem sum_any (p : Option Addr) (cp x : Nat) (ao : Option Addr) (cap : Nat) (L : List (Nat × Int)) (w : World) (hx : NatIn w p cp x) (hS : StepsAt w ao L) (hL : L.length ≤ 12) (hok : StepsOk L) (lx : (lb x).length ≤ 1000) :
    Calls Tryd.prog 49 #[.agg #[.slice p (lb x).length cp], .slice ao L.length cap] w fun r w' => ∃ q c, r = .returned (.agg #[.slice q (lb (gsum x L)).length c]) ∧ NatIn w' q c (gsum x L) ∧ Below w.heap.size w w' := by
  obtain ⟨n, hn⟩ : ∃ n, L.length = n := ⟨_, rfl⟩
  rw [hn] at hL ⊢
  have Hn := Lib.hid hn
  have Hok := Lib.hid hok
  have hz0 : NatIn (((w.alloc (.cells #[.slice p (lb x).length cp] 25)).alloc (.cells #[.slice none 0 0] 25))) none 0 0 := by show Sl _ _ _ _ _ (lb 0); rw [lb_zero]; exact Sl.empty _ _ _
  have hB : Below w.heap.size w ((w.alloc (.cells #[.slice p (lb x).length cp] 25)).alloc (.cells #[.slice none 0 0] 25)) := ((Below.refl _ _).alloc (Nat.le_refl _) _).alloc (by simp) _
  have kr : Boxed ((w.alloc (.cells #[.slice p (lb x).length cp] 25)).alloc (.cells #[.slice none 0 0] 25)) (w.heap.size + 1) 25 (.slice none 0 0) := by
    have := Boxed.new (w.alloc (.cells #[.slice p (lb x).length cp] 25)) 25 (.slice none 0 0)
    rwa [World.size_alloc] at this
  have hx2 := hx.old hB
  have hadd := add_any p none cp 0 x 0 _ hx2 hz0 (by omega) (by rw [lb_zero]; exact Nat.zero_le _)
  rw [Nat.add_zero, show (lb 0).length = 0 by rw [lb_zero]; rfl] at hadd
  have HS := Lib.hid hS
  clear hn hok hx hz0 hx2 hS
  go_enter Tryd.func49, Tryd.ntmps49
  go_wp2_with fail
  refine hadd.mono ?_
  clear hadd
  rintro r w2 ⟨q, c, rfl, nx, hb, -⟩
  obtain ⟨nl, hnl⟩ : ∃ nl, nl = (lb x).length := ⟨_, rfl⟩
  have hR0 : SumR w w2.heap.size x nl L 0 x nl q c (w2.alloc (.cells #[.slice q nl c] 25)) := by
    have hs2 := hb.size
    have hs3 := hB.size
    have hlt := (Boxed.below' kr hb kr.lt).lt
    refine ⟨by simp [gsum], hnl, by omega, nx.alloc _, Boxed.new _ _ _, (Boxed.below' kr hb kr.lt).alloc _, (hB.trans (hb.mono hB.size)).alloc (by omega) _, by omega⟩
  rw [← hnl]
  have lnl : nl ≤ 1000 := by omega
  clear hB kr nx hb hnl
  go_upto_block 0 with fail
  generalize (w2.alloc (.cells #[.slice q nl c] 25)) = W0 at hR0 ⊢
  generalize w2.heap.size = B at hR0 ⊢
  go_wp2_with fail
  go_loopw [13] (fun s13 wr => ∃ (i y ny : Nat) (q : Option Addr) (c : Nat), i ≤ n ∧ s13 = .int .i64 (i : Int) ∧ SumR w B x nl L i y ny q c wr) (fun i _ => n - (intOf i).toNat)
  case atStart => exact ⟨0, x, nl, q, c, by omega, rfl, hR0⟩
  case round =>
    clear hR0
    obtain ⟨i, y, ny, q, c, hi, rfl, hR⟩ := hrel
    by_cases hin : i < n
    · have hil : i < L.length := by rw [Hn.out]; exact hin
      obtain ⟨bs, off, rfl, hbs, c1, c2⟩ := (HS.out.old hR.m) i hil
      obtain ⟨p1, hp1⟩ : ∃ z, z = L[i].1 := ⟨_, rfl⟩
      obtain ⟨w1, hw1⟩ : ∃ z, z = L[i].2 := ⟨_, rfl⟩
      have ho := Hok.out L[i] (List.getElem_mem hil)
      rw [← hp1, ← hw1] at ho
      rw [← hp1] at c1
      rw [← hw1] at c2
      have i1 : (i : Int) < n := by omega
      have i0 : (0 : Int) ≤ i := by omega
      have hnyb : ny ≤ 1200 := by have := hR.nyb; omega
      obtain ⟨g, hg⟩ : ∃ g, g = gw p1 w1 := ⟨_, rfl⟩
      have lg9 : (lb g).length ≤ 9 := by
        rw [hg]
        have h1 := lg_le p1 ho.1
        have h2 : lg p1 * w1.toNat ≤ 16384 * 9223372036854775807 := Nat.mul_le_mul h1 (by omega)
        have h3 : gw p1 w1 ≤ 16384 + 16384 * 9223372036854775807 := by
          unfold gw
          have := Nat.div_le_self (lg p1 * w1.toNat) 10
          omega
        exact Nat.le_trans (dg_len_le _ (by decide) _ 4 (Nat.lt_of_le_of_lt h3 (by decide))) (by decide)
      have hgo := fun w => gof_any p1 w1 w (Lib.hid ho.1) (Lib.hid ho.2.2)
      rw [← hg] at hgo
      have Hgo := Lib.hid hgo
      have hnext := fun W u1 h1 q2 c2 h2 h3 => hR.next (W := W) (w1 := u1) h1 hil (y + g) (by rw [hg, hp1, hw1]) (by rw [← hp1, ← hw1, ← hg]; exact lg9) (q2 := q2) (c2 := c2) h2 h3
      have Hnext := Lib.hid hnext
      have kb := hR.kb
      have nq := hR.s
      have hlen := hR.len
      clear hgo hnext hg ho hp1 hw1 hR
      go_upto_region 5 with fail
      obtain ⟨W, hW⟩ : ∃ W, W = wr.alloc (.cells #[.int .u64 (p1 : Int), .int .i64 w1] 66) := ⟨_, rfl⟩
      have hbW : Below wr.heap.size wr W := by rw [hW]; exact (Below.refl _ _).alloc (Nat.le_refl _) _
      have hSl : wr.heap.size < W.heap.size := by rw [hW]; simp
      have hrow : W.heap[wr.heap.size]? = some (.cells #[.int .u64 (p1 : Int), .int .i64 w1] 66 (0, 0)) := by rw [hW]; exact heap_alloc_new _ _
      have cS0 : W.cell? ⟨wr.heap.size, 0, none⟩ = some (.int .u64 (p1 : Int)) := by rw [cell_of_row W wr.heap.size 0 _ 66 (0, 0) hrow]; rfl
      have cS1 : W.cell? ⟨wr.heap.size, 1, none⟩ = some (.int .i64 w1) := by rw [cell_of_row W wr.heap.size 1 _ 66 (0, 0) hrow]; rfl
      rw [← hW]
      have kbW := Boxed.below' kb hbW kb.lt
      have nqW := nq.old hbW
      rw [hlen] at kbW
      have Hnx := Lib.hid (Hnext.out W · hbW)
      have lyb : (lb y).length ≤ 100000 := by rw [← hlen]; omega
      clear hW hrow kb nq Hnext
      generalize wr.heap.size = S at *
      refine wp_region_last (W := W) (fun t => match t with
        | 17 => .nat y
        | 18 => .eq (.pointer (some ⟨S, 0, none⟩))
        | 19 => .eq (.int .u64 (p1 : Int))
        | 20 => .eq (.pointer (some ⟨S, 1, none⟩))
        | 21 => .eq (.int .i64 w1)
        | 22 => .nat g
        | 23 => .nat (y + g)
        | _ => .any) 7 (fun w' => ∃ u1 q2 c2, Below W.heap.size W u1 ∧ NatIn u1 q2 c2 (y + g) ∧ w' = u1.setCell ⟨B, 0, none⟩ (.slice q2 (lb (y + g)).length c2)) 26 (by kernel_rfl) (by decide +kernel) rfl (Below.refl _ _).drew rfl (by
        refine OweAll3.cons (owes3_val rfl rfl rfl (by decide) ⟨⟨0, .phase⟩, by simp, rfl, rfl⟩ fun a u1 ha hG hV => ?_) ?_
        · skip
          have h5 := ha.outer 5 (by decide +kernel)
          simp only [Act.eval] at h5
          have c5 := (Boxed.below' kbW hG kbW.lt).cell
          exact ⟨.agg #[.slice q (lb y).length c], wanted_free rfl, by simp [execOp, go_sem, h5, c5], ⟨_, _, rfl, nqW.old hG⟩⟩
        refine OweAll3.cons (owes3_val rfl rfl rfl (by decide) ⟨⟨1, .phase⟩, by simp, rfl, rfl⟩ fun a u1 ha hG hV => ?_) ?_
        · skip
          have h7 := ha.outer 7 (by decide +kernel)
          simp only [Act.eval] at h7
          exact ⟨.pointer (some ⟨S, 0, none⟩), wanted_free rfl, by simp [execOp, go_sem, h7], rfl⟩
        refine OweAll3.cons (owes3_val rfl rfl rfl (by decide) ⟨⟨2, .phase⟩, by simp, rfl, rfl⟩ fun a u1 ha hG hV => ?_) ?_
        · skip
          have h18 : a.tmps.getD 18 undef = .pointer (some ⟨S, 0, none⟩) := hV.get 18 (by decide +kernel)
          have cc := (hG.cell (p := ⟨S, 0, none⟩) hSl).trans cS0
          exact ⟨.int .u64 (p1 : Int), wanted_free rfl, by simp [execOp, go_sem, h18, cc], rfl⟩
        refine OweAll3.cons (owes3_val rfl rfl rfl (by decide) ⟨⟨3, .phase⟩, by simp, rfl, rfl⟩ fun a u1 ha hG hV => ?_) ?_
        · skip
          have h7 := ha.outer 7 (by decide +kernel)
          simp only [Act.eval] at h7
          exact ⟨.pointer (some ⟨S, 1, none⟩), wanted_free rfl, by simp [execOp, go_sem, h7], rfl⟩
        refine OweAll3.cons (owes3_val rfl rfl rfl (by decide) ⟨⟨4, .phase⟩, by simp, rfl, rfl⟩ fun a u1 ha hG hV => ?_) ?_
        · skip
          have h20 : a.tmps.getD 20 undef = .pointer (some ⟨S, 1, none⟩) := hV.get 20 (by decide +kernel)
          have cc := (hG.cell (p := ⟨S, 1, none⟩) hSl).trans cS1
          exact ⟨.int .i64 w1, wanted_free rfl, by simp [execOp, go_sem, h20, cc], rfl⟩
        refine OweAll3.cons (owes3_call rfl rfl 46 rfl (by decide) ⟨⟨5, .phase⟩, by simp, rfl, rfl⟩ fun a u1 ha hG hV => ?_) ?_
        · skip
          have h19 : a.tmps.getD 19 undef = .int .u64 (p1 : Int) := hV.get 19 (by decide +kernel)
          have h21 : a.tmps.getD 21 undef = .int .i64 w1 := hV.get 21 (by decide +kernel)
          refine ⟨#[.int .u64 (p1 : Int), .int .i64 w1], wanted_free rfl, by simp [execOp, resolve, invoke, go_sem, h19, h21], ?_⟩
          refine (Hgo.out u1).mono ?_
          rintro r u2 ⟨qr, cr, rfl, hN, hb, -⟩; exact ⟨_, rfl, ⟨qr, cr, rfl, hN⟩, hb⟩
        refine OweAll3.cons (owes3_call rfl rfl 20 rfl (by decide) ⟨⟨6, .phase⟩, by simp, rfl, rfl⟩ fun a u1 ha hG hV => ?_) ?_
        · skip
          obtain ⟨q17, c17, h17, n17⟩ : NV y (a.tmps.getD 17 undef) u1 := hV.get 17 (by decide +kernel)
          obtain ⟨q22, c22, h22, n22⟩ : NV g (a.tmps.getD 22 undef) u1 := hV.get 22 (by decide +kernel)
          refine ⟨#[.agg #[.slice q17 (lb y).length c17], .agg #[.slice q22 (lb g).length c22]], wanted_free rfl, by simp [execOp, resolve, invoke, go_sem, h17, h22], ?_⟩
          refine (add_any q17 q22 c17 c22 y g u1 n17 n22 (by omega) (by omega)).mono ?_
          rintro r u2 ⟨qr, cr, rfl, hN, hb, -⟩; exact ⟨_, rfl, ⟨qr, cr, rfl, hN⟩, hb⟩
        refine OweAll3.cons (owes3_store rfl rfl rfl fun a u1 ha hG hV => ?_) ?_
        · skip
          have h5 := ha.outer 5 (by decide +kernel)
          simp only [Act.eval] at h5
          obtain ⟨q23, c23, h23, n23⟩ : NV (y + g) (a.tmps.getD 23 undef) u1 := hV.get 23 (by decide +kernel)
          have k5 := Boxed.below' kbW hG kbW.lt
          have c5 := k5.cell
          have f5 := k5.frozen
          exact ⟨_, by simp [execOp, go_sem, h5, h23, c5, f5], u1, q23, c23, hG, n23, rfl⟩
        exact OweAll3.nil) ?_
      rintro f w' ⟨u1, q2, c2, hb1, hN2, rfl⟩
      rename_i hK
      refine hK _ _ ?_
      clear hK
      have hR2 := Hnx.out u1 q2 c2 hb1 hN2
      clear hb1 hN2 Hnx kbW nqW hbW cS0 cS1 hSl
      simp only [dsts, puts, List.filterMap_cons, List.filterMap_nil, List.foldl_cons, List.foldl_nil, Act.put, List.setIfInBounds_toArray, List.set_cons_succ, List.set_cons_zero]
      go_wp2_with fail
      go_roundw
      case rel => exact ⟨i + 1, y + g, _, q2, c2, by omega, by go_num, hR2⟩
      case measure => simp [intOf]; omega
    · obtain rfl : i = n := by omega
      have hv := hR.val
      rw [List.take_of_length_le (by rw [Hn.out]; exact Nat.le_refl _)] at hv
      subst hv
      have hlen := Lib.hid hR.len
      have cB := hR.kb.cell
      have kr2 := hR.kr
      have crr := kr2.cell
      have frr := kr2.frozen
      have hap := Boxed.apart kr2 hR.s (by decide)
      have hN := hR.s
      have hm := hR.m
      clear hR
      go_wp2_with fail
      have c7 := (kr2.set (.slice q ny c)).cell
      refine bodyPost_ret (v := .agg #[.slice q ny c]) (by simp [results, Tryd.results49, go_sem, c7]) rfl ⟨q, c, by rw [hlen.out], ?_, ?_⟩
      · exact hN.other ⟨w.heap.size + 1, 0, none⟩ _ (fun a e => hap a e)
      · exact hm.setCell (p := ⟨w.heap.size + 1, 0, none⟩) (by show w.heap.size ≤ w.heap.size + 1; omega) _
end Go.Proofs.YtepibfpdkjkdjaaDoor

/- The law GainSums. -/
namespace Go.Proofs.YtepibfpdkjkdjaaDoor
open Go.RowKit

theorem gsum_ge (x : Nat) (L : List (Nat × Int)) : x ≤ gsum x L := by
  unfold gsum
  induction L generalizing x with
  | nil => exact Nat.le_refl _
  | cons s L ih => rw [List.foldl_cons]; exact Nat.le_trans (Nat.le_add_right _ _) (ih _)
theorem gw_small (p : Nat) (wins : Int) (hp : p < 18446744073709551616) (hw : wins ≤ 9223372036854775807) : gw p wins < 10 ^ 30 := by
  have h1 := lg_le p hp
  have h2 : lg p * wins.toNat ≤ 16384 * 9223372036854775807 := Nat.mul_le_mul h1 (by omega)
  have h3 : gw p wins ≤ 16384 + 16384 * 9223372036854775807 := by
    unfold gw
    have := Nat.div_le_self (lg p * wins.toNat) 10
    omega
  exact Nat.lt_of_le_of_lt h3 (by decide)
theorem gsum_le (x : Nat) (L : List (Nat × Int)) (h : StepsOk L) : gsum x L ≤ x + L.length * 10 ^ 30 := by
  unfold gsum
  induction L generalizing x with
  | nil => simp
  | cons s L ih =>
    have h1 := h s (by simp)
    have h2 := gw_small s.1 s.2 h1.1 h1.2.2
    have := ih (x + gw s.1 s.2) (fun t ht => h t (by simp [ht]))
    rw [List.foldl_cons, List.length_cons, Nat.add_mul]
    generalize 10 ^ 30 = P at *
    omega
theorem gsum_lt (x : Nat) (L : List (Nat × Int)) (h : StepsOk L) (hx : x < 18446744073709551616) (hl : L.length ≤ 12) : gsum x L < 10 ^ 40 := by
  have h1 := gsum_le x L h
  have h2 : L.length * 10 ^ 30 ≤ 12 * 10 ^ 30 := Nat.mul_le_mul_right _ hl
  have h3 : 18446744073709551616 + 12 * 10 ^ 30 < 10 ^ 40 := by decide
  omega
theorem StepsOk.take {L : List (Nat × Int)} (h : StepsOk L) (n : Nat) : StepsOk (L.take n) := fun s hs => h s (List.mem_of_mem_take hs)

set_option maxRecDepth 20000 in
set_option maxHeartbeats 8000000 in
theorem gainSums_any (x : Nat) (ao : Option Addr) (cap : Nat) (L : List (Nat × Int)) (w : World) (hx : Hid (x < 18446744073709551616)) (hS : StepsAt w ao L) (hok : StepsOk L) (hc : L.length ≤ cap) :
    Calls Tryd.prog 13 #[.int .u64 (x : Int), .slice ao L.length cap] w fun r w' => r = .returned (.bool true) ∧ Below w.heap.size w w' := by
  have HS := Lib.hid hS
  have Hok := Lib.hid hok
  have lx := lb_64 hx.out
  obtain ⟨len, hlen⟩ : ∃ n, n = L.length := ⟨_, rfl⟩
  rw [← hlen] at hc ⊢
  have Hlen := Lib.hid hlen
  clear hS hok hlen
  go_enter Tryd.func13, Tryd.ntmps13
  go_wp2_with fail
  refine (awake04_any w).mono ?_
  rintro r w1 ⟨rfl, hB⟩
  go_upto_region 3 with fail
  go_cut [12, 13] (fun s12 s13 wx => s12 = .int .i64 (len : Int) ∧ s13 = .bool (decide (12 < len)) ∧ wx = w1)
  case first =>
    by_cases h12 : 12 < len
    · have b1 : (12 : Int) < len := by omega
      have e1 := decide_eq_true h12
      go_wp2_with fail
      go_meet
      exact ⟨rfl, by rw [e1], rfl⟩
    · have b1 : ¬ (12 : Int) < len := by omega
      have e1 := decide_eq_false h12
      go_wp2_with fail
      go_meet
      exact ⟨rfl, by rw [e1], rfl⟩
  case rest =>
  obtain ⟨rfl, rfl, rfl⟩ := hcut
  go_upto_if 13 with fail
  go_cut [1, 14, 15] (fun s1 s14 s15 wx => ∃ L' : List (Nat × Int), s1 = .slice ao L'.length cap ∧ L'.length ≤ 12 ∧ StepsAt w ao L' ∧ StepsOk L' ∧ wx = wc)
  case first =>
    by_cases h12 : 12 < len
    · have e1 := decide_eq_true h12
      have i1 : (12 : Int) ≤ cap := by omega
      have i2 : 12 ≤ cap := by omega
      have hl : (L.take 12).length = 12 := by rw [List.length_take]; have := Hlen.out; omega
      have Hl := Lib.hid hl
      clear hl
      go_wp2_with fail
      go_meet
      exact ⟨L.take 12, by rw [Hl.out], by rw [Hl.out]; exact Nat.le_refl _, HS.out.take 12, Hok.out.take 12, rfl⟩
    · have e1 := decide_eq_false h12
      go_wp2_with fail
      go_meet
      exact ⟨L, by rw [← Hlen.out], by rw [← Hlen.out]; omega, HS.out, Hok.out, rfl⟩
  case rest =>
  obtain ⟨L2, rfl, h12, hS2, hok2, rfl⟩ := hcut
  rename World => wd
  obtain ⟨n, hn⟩ : ∃ n, n = L2.length := ⟨_, rfl⟩
  rw [← hn] at h12 ⊢
  have Hn := Lib.hid hn
  have HS2 := Lib.hid hS2
  have Hok2 := Lib.hid hok2
  have hl2 : L2.length ≤ 12 := by omega
  clear HS Hok Hlen hc hn
  have hlt := fun i => gsum_lt x (L2.take i) (Hok2.out.take i) hx.out (by rw [List.length_take]; omega)
  have Hlt := Lib.hid hlt
  clear hlt
  go_wp2_with fail
  refine (rof_any x wd hx).mono ?_
  rintro r w2 ⟨q, c, rfl, hN, hb, -⟩
  replace hB := hB.trans (hb.mono hB.size)
  clear hb
  obtain ⟨nd, hnd⟩ : ∃ nd, nd = (dg 10 x).length := ⟨_, rfl⟩
  have Hnd := Lib.hid hnd
  have hnd40 : nd ≤ 40 := by rw [hnd]; have := dlen_le (Nat.lt_of_lt_of_le hx.out (show 18446744073709551616 ≤ 10 ^ 20 by decide)); omega
  rw [← hnd]
  clear hnd
  go_upto_block 0 with fail
  go_cut [5] (fun s5 wr => ∃ (nd : Nat) (q : Option Addr) (c : Nat), s5 = .slice q nd c ∧ Hid (nd = (dg 10 (gsum x L2)).length) ∧ nd ≤ 40 ∧ DecIn wr q c (gsum x L2) ∧ Below w.heap.size w wr)
  case first =>
    go_wp2_with fail
    go_loopw [5, 20] (fun s5 s20 wr => ∃ (i y nd : Nat) (q : Option Addr) (c : Nat), i ≤ n ∧ s20 = .int .i64 (i : Int) ∧ s5 = .slice q nd c ∧ Hid (y = gsum x (L2.take i)) ∧ Hid (nd = (dg 10 y).length) ∧ nd ≤ 40 ∧ DecIn wr q c y ∧ Below w.heap.size w wr) (fun _ i _ => n - (intOf i).toNat)
    case atStart => exact ⟨0, x, nd, q, c, by omega, rfl, rfl, Lib.hid (by simp [gsum]), Hnd, hnd40, hN, hB⟩
    case round =>
      clear hN hB Hnd hnd40
      obtain ⟨i, y, nd, q, c, hi, rfl, rfl, hy, hnd, hnd40, hN, hB⟩ := hrel
      by_cases hin : i < n
      · have hil : i < L2.length := by rw [← Hn.out]; exact hin
        obtain ⟨bs, off, rfl, hbs, c1, c2⟩ := (HS2.out.old hB) i hil
        obtain ⟨p1, hp1⟩ : ∃ z, z = L2[i].1 := ⟨_, rfl⟩
        obtain ⟨w1, hw1⟩ : ∃ z, z = L2[i].2 := ⟨_, rfl⟩
        have ho := Hok2.out L2[i] (List.getElem_mem hil)
        rw [← hp1, ← hw1] at ho
        rw [← hp1] at c1
        rw [← hw1] at c2
        have i1 : (i : Int) < n := by omega
        have i0 : (0 : Int) ≤ i := by omega
        obtain ⟨g, hg⟩ : ∃ g, g = gw p1 w1 := ⟨_, rfl⟩
        obtain ⟨y2, hy2⟩ : ∃ z, z = y + g := ⟨_, rfl⟩
        have hval : Hid (y2 = gsum x (L2.take (i + 1))) := Lib.hid (by rw [gsum_take x L2 i hil, hy2, hy.out, hg, hp1, hw1])
        have hg30 : (dg 10 g).length ≤ 30 := by rw [hg]; exact dlen_le (gw_small p1 w1 ho.1 ho.2.2)
        have hy40 : (dg 10 y2).length ≤ 40 := by rw [hval.out]; exact dlen_le (Hlt.out (i + 1))
        have hgo := fun w => rgof_any p1 w1 w (Lib.hid ho.1) (Lib.hid ho.2.2)
        rw [← hg] at hgo
        have Hgo := Lib.hid hgo
        have Hy2 := Lib.hid hy2
        clear hgo hg ho hp1 hw1 hy2 hy
        go_wp2_with fail
        obtain ⟨W, hW⟩ : ∃ W, W = wr.alloc (.cells #[.int .u64 (p1 : Int), .int .i64 w1] 66) := ⟨_, rfl⟩
        have hbW : Below wr.heap.size wr W := by rw [hW]; exact (Below.refl _ _).alloc (Nat.le_refl _) _
        rw [← hW]
        refine (Hgo.out W).mono ?_
        rintro r w3 ⟨q3, c3, rfl, hN3, hb, -⟩
        have hb2 := hbW.trans (hb.mono hbW.size)
        replace hB := hB.trans (hb2.mono hB.size)
        replace hN := hN.old hb2
        clear hb hb2 hbW hW
        have had := radd_any q q3 c c3 y g w3 hN hN3 (by rw [← hnd.out]; omega) (by omega)
        rw [← Hy2.out, ← hnd.out] at had
        go_wp2_with fail
        refine had.mono ?_
        clear had
        rintro r w4 ⟨q4, c4, rfl, hN4, hb, -⟩
        replace hB := hB.trans (hb.mono hB.size)
        clear hb hN hN3
        go_wp2_with fail
        go_roundw
        case rel => exact ⟨i + 1, y2, _, q4, c4, by omega, by go_num, rfl, hval, Lib.hid rfl, hy40, hN4, hB⟩
        case measure => simp [intOf]; omega
      · obtain rfl : i = n := by omega
        have e : y = gsum x L2 := by rw [hy.out, List.take_of_length_le (by rw [← Hn.out]; exact Nat.le_refl _)]
        subst e
        go_wp2_with fail
        go_meet
        exact ⟨nd, q, c, rfl, hnd, hnd40, hN, hB⟩
  case rest =>
  clear hN hB Hnd hnd40
  obtain ⟨nd, q', c', rfl, hnd, hnd40, ex, hB⟩ := hcut
  rename World => we
  have hX40 := Hlt.out 12
  rw [List.take_of_length_le hl2] at hX40
  have lX := lb_pow hX40
  have lX2 : (lb x).length ≤ 1000 := by omega
  have hge : decide (gsum x L2 < x) = false := by rw [decide_eq_false_iff_not]; have := gsum_ge x L2; omega
  have hsm := fun w q c hq hs => sum_any q c x ao cap L2 w hq hs hl2 Hok2.out lX2
  rw [← Hn.out] at hsm
  obtain ⟨X, hX⟩ : ∃ X, X = gsum x L2 := ⟨_, rfl⟩
  rw [← hX] at hsm hge lX hnd ex
  have Hsm := Lib.hid hsm
  have hrt : ∀ w, DecIn w q' c' X → Calls Tryd.prog 22 #[.slice q' nd c'] w fun r w' => r = .returned (.string ⟨(dec X).toArray⟩) ∧ Below w.heap.size w w' := fun w h => by have := rtext_any q' c' X w h (by rw [← hnd.out]; omega); rw [← hnd.out] at this; exact this
  replace hrt := Lib.hid hrt
  have hcb : ∃ b : Bool, decide ((0 : Int) < cmpI X x) = b ∧ decide (x < X) = b := by
    unfold cmpI
    rcases Nat.lt_trichotomy X x with h | h | h
    · refine ⟨false, ?_, by simp; omega⟩; rw [if_pos h]; rfl
    · refine ⟨false, ?_, by simp; omega⟩; rw [if_neg (by omega), if_neg (by omega)]; rfl
    · refine ⟨true, ?_, by simp; omega⟩; rw [if_neg (by omega), if_pos h]; rfl
  obtain ⟨b, hb1, hb2⟩ := hcb
  obtain ⟨z, hcz⟩ : ∃ z, z = cmpI X x := ⟨_, rfl⟩
  rw [← hcz] at hb1
  replace hb1 := Lib.hid hb1
  replace hb2 := Lib.hid hb2
  replace hge := Lib.hid hge
  replace hcz := Lib.hid hcz
  clear hsm hX40 hX Hlt
  go_wp2_with fail
  refine (nofn_any x we hx).mono ?_
  rintro r w5 ⟨q, c, rfl, nx, hb, -⟩
  replace hB := hB.trans (hb.mono hB.size)
  replace ex := ex.old hb
  clear hb
  go_wp2_with fail
  refine (Hsm.out _ _ _ nx (HS2.out.old hB)).mono ?_
  rintro r w6 ⟨q, c, rfl, nX, hb⟩
  replace hB := hB.trans (hb.mono hB.size)
  replace ex := (ex.old hb).alloc (.cells #[.slice q (lb X).length c] 25)
  have kX := Boxed.new w6 25 (.slice q (lb X).length c)
  replace hB := hB.alloc hB.size (.cells #[.slice q (lb X).length c] 25)
  replace nX := nX.alloc (.cells #[.slice q (lb X).length c] 25)
  clear hb nx
  go_upto_region 12 with fail
  generalize (w6.alloc (.cells #[.slice q (lb X).length c] 25)) = W at *
  generalize w6.heap.size = gX at *
  refine wp_region_vals (fun t v w' => Val (match t with
      | 36 => .nat (X)
      | 37 => .eq (.string ⟨(dec X).toArray⟩)
      | 38 => .eq (.slice q' nd c')
      | 39 => .eq (.string ⟨(dec X).toArray⟩)
      | 40 => .eq (Value.bool true)
      | 41 => .eq (Value.bool true)
      | 42 => .nat (X)
      | 43 => .eq (Value.int .u64 (x : Int))
      | 44 => .nat (x)
      | 45 => .eq (Value.bool b)
      | 46 => .nat (X)
      | 47 => .eq (Value.int .u64 (x : Int))
      | 48 => .nat (x)
      | 49 => .eq (Value.int .i64 z)
      | 50 => .eq (Value.bool b)
      | 51 => .eq (Value.bool true)
      | 52 => .eq (Value.bool true)
      | 53 => .eq (Value.bool true)
      | 54 => .eq (Value.int .u64 (x : Int))
      | 55 => .nat (x)
      | 56 => .nat (X)
      | 57 => .eq (Value.bool false)
      | 58 => .eq (Value.bool true)
      | 59 => .eq (Value.bool true)
      | 4 => .eq (Value.bool true)
      | _ => .any) v w') (fun w' => Below W.heap.size W w') 60 (by kernel_rfl) (by decide +kernel) rfl (Below.refl _ _).drew ?_ ?_
  · skip
    refine OweAll.cons (owes_val rfl rfl fun a w1 ha hG hV => ?_) ?_
    · skip
      have h8 := ha.outer 8 (by decide +kernel)
      simp only [Act.eval] at h8
      have c8 := (Boxed.below' kX hG kX.lt).cell
      exact ⟨.agg #[.slice q (lb X).length c], wanted_free rfl, by simp [execOp, go_sem, h8, c8], ⟨_, _, rfl, nX.old hG⟩⟩
    refine OweAll.cons (owes_call rfl rfl 21 fun a w1 ha hG hV => ?_) ?_
    · skip
      obtain ⟨q36, c36, h36, n36⟩ : NV (X) (a.tmps.getD 36 undef) w1 := hV.get 36 (by decide +kernel)
      refine ⟨#[.agg #[.slice q36 (lb (X)).length c36]], wanted_free rfl, by simp [execOp, resolve, invoke, go_sem, h36], ?_⟩
      refine (text_any q36 c36 X w1 n36 (by omega)).mono ?_
      rintro r w2 ⟨rfl, hb⟩; exact ⟨_, rfl, rfl, hG.trans (hb.mono hG.size), fun _ _ h => Val.old h hb⟩
    refine OweAll.cons (owes_val rfl rfl fun a w1 ha hG hV => ?_) ?_
    · skip
      have h5 := ha.outer 5 (by decide +kernel)
      simp only [Act.eval] at h5
      exact ⟨.slice q' nd c', wanted_free rfl, by simp [execOp, go_sem, h5], rfl⟩
    refine OweAll.cons (owes_call rfl rfl 22 fun a w1 ha hG hV => ?_) ?_
    · skip
      have h38 : a.tmps.getD 38 undef = .slice q' nd c' := hV.get 38 (by decide +kernel)
      refine ⟨#[.slice q' nd c'], wanted_free rfl, by simp [execOp, resolve, invoke, go_sem, h38], ?_⟩
      refine (hrt.out w1 (ex.old hG)).mono ?_
      rintro r w2 ⟨rfl, hb⟩; exact ⟨_, rfl, rfl, hG.trans (hb.mono hG.size), fun _ _ h => Val.old h hb⟩
    refine OweAll.cons (owes_val rfl rfl fun a w1 ha hG hV => ?_) ?_
    · skip
      have h37 : a.tmps.getD 37 undef = .string ⟨(dec X).toArray⟩ := hV.get 37 (by decide +kernel)
      have h39 : a.tmps.getD 39 undef = .string ⟨(dec X).toArray⟩ := hV.get 39 (by decide +kernel)
      exact ⟨Value.bool true, wanted_free rfl, by simp [execOp, go_sem, h37, h39], rfl⟩
    refine OweAll.cons (owes_val rfl rfl fun a w1 ha hG hV => ?_) ?_
    · skip
      have h40 : a.tmps.getD 40 undef = Value.bool true := hV.get 40 (by decide +kernel)
      exact ⟨Value.bool true, wanted_free rfl, by simp [execOp, go_sem, h40], rfl⟩
    refine OweAll.cons (owes_val rfl rfl fun a w1 ha hG hV => ?_) ?_
    · skip
      have h8 := ha.outer 8 (by decide +kernel)
      simp only [Act.eval] at h8
      have c8 := (Boxed.below' kX hG kX.lt).cell
      exact ⟨.agg #[.slice q (lb X).length c], (wanted_of (t := 41) rfl rfl (hV.get 41 (by decide +kernel))), by simp [execOp, go_sem, h8, c8], ⟨_, _, rfl, nX.old hG⟩⟩
    refine OweAll.cons (owes_val rfl rfl fun a w1 ha hG hV => ?_) ?_
    · skip
      have h0 := ha.outer 0 (by decide +kernel)
      simp only [Act.eval] at h0
      exact ⟨Value.int .u64 (x : Int), (wanted_of (t := 41) rfl rfl (hV.get 41 (by decide +kernel))), by simp [execOp, go_sem, h0], rfl⟩
    refine OweAll.cons (owes_call rfl rfl 36 fun a w1 ha hG hV => ?_) ?_
    · skip
      have h43 : a.tmps.getD 43 undef = Value.int .u64 (x : Int) := hV.get 43 (by decide +kernel)
      refine ⟨#[Value.int .u64 (x : Int)], (wanted_of (t := 41) rfl rfl (hV.get 41 (by decide +kernel))), by simp [execOp, resolve, invoke, go_sem, h43], ?_⟩
      refine (nofn_any x w1 hx).mono ?_
      rintro r w2 ⟨qr, cr, rfl, hN, hb, -⟩; exact ⟨_, rfl, ⟨qr, cr, rfl, hN⟩, hG.trans (hb.mono hG.size), fun _ _ h => Val.old h hb⟩
    refine OweAll.cons (owes_call rfl rfl 48 fun a w1 ha hG hV => ?_) ?_
    · skip
      obtain ⟨q42, c42, h42, n42⟩ : NV (X) (a.tmps.getD 42 undef) w1 := hV.get 42 (by decide +kernel)
      obtain ⟨q44, c44, h44, n44⟩ : NV (x) (a.tmps.getD 44 undef) w1 := hV.get 44 (by decide +kernel)
      refine ⟨#[.agg #[.slice q42 (lb (X)).length c42], .agg #[.slice q44 (lb (x)).length c44]], (wanted_of (t := 41) rfl rfl (hV.get 41 (by decide +kernel))), by simp [execOp, resolve, invoke, go_sem, h42, h44], ?_⟩
      refine (heavier_any q42 q44 c42 c44 X x w1 n42 n44 (by omega)).mono ?_
      rintro r w2 ⟨rfl, hb⟩; exact ⟨_, rfl, by show Value.bool (decide (x < X)) = _; rw [hb2.out], hG.trans (hb.mono hG.size), fun _ _ h => Val.old h hb⟩
    refine OweAll.cons (owes_val rfl rfl fun a w1 ha hG hV => ?_) ?_
    · skip
      have h8 := ha.outer 8 (by decide +kernel)
      simp only [Act.eval] at h8
      have c8 := (Boxed.below' kX hG kX.lt).cell
      exact ⟨.agg #[.slice q (lb X).length c], (wanted_of (t := 41) rfl rfl (hV.get 41 (by decide +kernel))), by simp [execOp, go_sem, h8, c8], ⟨_, _, rfl, nX.old hG⟩⟩
    refine OweAll.cons (owes_val rfl rfl fun a w1 ha hG hV => ?_) ?_
    · skip
      have h0 := ha.outer 0 (by decide +kernel)
      simp only [Act.eval] at h0
      exact ⟨Value.int .u64 (x : Int), (wanted_of (t := 41) rfl rfl (hV.get 41 (by decide +kernel))), by simp [execOp, go_sem, h0], rfl⟩
    refine OweAll.cons (owes_call rfl rfl 36 fun a w1 ha hG hV => ?_) ?_
    · skip
      have h47 : a.tmps.getD 47 undef = Value.int .u64 (x : Int) := hV.get 47 (by decide +kernel)
      refine ⟨#[Value.int .u64 (x : Int)], (wanted_of (t := 41) rfl rfl (hV.get 41 (by decide +kernel))), by simp [execOp, resolve, invoke, go_sem, h47], ?_⟩
      refine (nofn_any x w1 hx).mono ?_
      rintro r w2 ⟨qr, cr, rfl, hN, hb, -⟩; exact ⟨_, rfl, ⟨qr, cr, rfl, hN⟩, hG.trans (hb.mono hG.size), fun _ _ h => Val.old h hb⟩
    refine OweAll.cons (owes_call rfl rfl 26 fun a w1 ha hG hV => ?_) ?_
    · skip
      obtain ⟨q46, c46, h46, n46⟩ : NV (X) (a.tmps.getD 46 undef) w1 := hV.get 46 (by decide +kernel)
      obtain ⟨q48, c48, h48, n48⟩ : NV (x) (a.tmps.getD 48 undef) w1 := hV.get 48 (by decide +kernel)
      refine ⟨#[.agg #[.slice q46 (lb (X)).length c46], .agg #[.slice q48 (lb (x)).length c48]], (wanted_of (t := 41) rfl rfl (hV.get 41 (by decide +kernel))), by simp [execOp, resolve, invoke, go_sem, h46, h48], ?_⟩
      refine (cmp_any q46 q48 c46 c48 X x w1 n46 n48 (by omega)).mono ?_
      rintro r w2 ⟨rfl, hb⟩; exact ⟨_, rfl, by show Value.int .i64 (cmpI X x) = _; rw [← hcz.out], hG.trans (hb.mono hG.size), fun _ _ h => Val.old h hb⟩
    refine OweAll.cons (owes_val rfl rfl fun a w1 ha hG hV => ?_) ?_
    · skip
      have h49 : a.tmps.getD 49 undef = Value.int .i64 z := hV.get 49 (by decide +kernel)
      exact ⟨Value.bool b, (wanted_of (t := 41) rfl rfl (hV.get 41 (by decide +kernel))), by simp [execOp, go_sem, h49, hb1.out], rfl⟩
    refine OweAll.cons (owes_val rfl rfl fun a w1 ha hG hV => ?_) ?_
    · skip
      have h45 : a.tmps.getD 45 undef = Value.bool b := hV.get 45 (by decide +kernel)
      have h50 : a.tmps.getD 50 undef = Value.bool b := hV.get 50 (by decide +kernel)
      exact ⟨Value.bool true, (wanted_of (t := 41) rfl rfl (hV.get 41 (by decide +kernel))), by simp [execOp, go_sem, h45, h50], rfl⟩
    refine OweAll.cons (owes_val rfl rfl fun a w1 ha hG hV => ?_) ?_
    · skip
      have h41 : a.tmps.getD 41 undef = Value.bool true := hV.get 41 (by decide +kernel)
      have h51 : a.tmps.getD 51 undef = Value.bool true := hV.get 51 (by decide +kernel)
      exact ⟨Value.bool true, wanted_free rfl, by simp [execOp, go_sem, h41, h51], rfl⟩
    refine OweAll.cons (owes_val rfl rfl fun a w1 ha hG hV => ?_) ?_
    · skip
      have h52 : a.tmps.getD 52 undef = Value.bool true := hV.get 52 (by decide +kernel)
      exact ⟨Value.bool true, wanted_free rfl, by simp [execOp, go_sem, h52], rfl⟩
    refine OweAll.cons (owes_val rfl rfl fun a w1 ha hG hV => ?_) ?_
    · skip
      have h0 := ha.outer 0 (by decide +kernel)
      simp only [Act.eval] at h0
      exact ⟨Value.int .u64 (x : Int), (wanted_of (t := 53) rfl rfl (hV.get 53 (by decide +kernel))), by simp [execOp, go_sem, h0], rfl⟩
    refine OweAll.cons (owes_call rfl rfl 36 fun a w1 ha hG hV => ?_) ?_
    · skip
      have h54 : a.tmps.getD 54 undef = Value.int .u64 (x : Int) := hV.get 54 (by decide +kernel)
      refine ⟨#[Value.int .u64 (x : Int)], (wanted_of (t := 53) rfl rfl (hV.get 53 (by decide +kernel))), by simp [execOp, resolve, invoke, go_sem, h54], ?_⟩
      refine (nofn_any x w1 hx).mono ?_
      rintro r w2 ⟨qr, cr, rfl, hN, hb, -⟩; exact ⟨_, rfl, ⟨qr, cr, rfl, hN⟩, hG.trans (hb.mono hG.size), fun _ _ h => Val.old h hb⟩
    refine OweAll.cons (owes_val rfl rfl fun a w1 ha hG hV => ?_) ?_
    · skip
      have h8 := ha.outer 8 (by decide +kernel)
      simp only [Act.eval] at h8
      have c8 := (Boxed.below' kX hG kX.lt).cell
      exact ⟨.agg #[.slice q (lb X).length c], (wanted_of (t := 53) rfl rfl (hV.get 53 (by decide +kernel))), by simp [execOp, go_sem, h8, c8], ⟨_, _, rfl, nX.old hG⟩⟩
    refine OweAll.cons (owes_call rfl rfl 48 fun a w1 ha hG hV => ?_) ?_
    · skip
      obtain ⟨q55, c55, h55, n55⟩ : NV (x) (a.tmps.getD 55 undef) w1 := hV.get 55 (by decide +kernel)
      obtain ⟨q56, c56, h56, n56⟩ : NV (X) (a.tmps.getD 56 undef) w1 := hV.get 56 (by decide +kernel)
      refine ⟨#[.agg #[.slice q55 (lb (x)).length c55], .agg #[.slice q56 (lb (X)).length c56]], (wanted_of (t := 53) rfl rfl (hV.get 53 (by decide +kernel))), by simp [execOp, resolve, invoke, go_sem, h55, h56], ?_⟩
      refine (heavier_any q55 q56 c55 c56 x X w1 n55 n56 (by omega)).mono ?_
      rintro r w2 ⟨rfl, hb⟩; exact ⟨_, rfl, by show Value.bool (decide (X < x)) = _; rw [hge.out], hG.trans (hb.mono hG.size), fun _ _ h => Val.old h hb⟩
    refine OweAll.cons (owes_val rfl rfl fun a w1 ha hG hV => ?_) ?_
    · skip
      have h57 : a.tmps.getD 57 undef = Value.bool false := hV.get 57 (by decide +kernel)
      exact ⟨Value.bool true, (wanted_of (t := 53) rfl rfl (hV.get 53 (by decide +kernel))), by simp [execOp, go_sem, h57], rfl⟩
    refine OweAll.cons (owes_val rfl rfl fun a w1 ha hG hV => ?_) ?_
    · skip
      have h53 : a.tmps.getD 53 undef = Value.bool true := hV.get 53 (by decide +kernel)
      have h58 : a.tmps.getD 58 undef = Value.bool true := hV.get 58 (by decide +kernel)
      exact ⟨Value.bool true, wanted_free rfl, by simp [execOp, go_sem, h53, h58], rfl⟩
    refine OweAll.cons (owes_val rfl rfl fun a w1 ha hG hV => ?_) ?_
    · skip
      have h59 : a.tmps.getD 59 undef = Value.bool true := hV.get 59 (by decide +kernel)
      exact ⟨Value.bool true, wanted_free rfl, by simp [execOp, go_sem, h59], rfl⟩
    exact OweAll.nil
  · intro a w1 ha hG hv
    rename_i hK
    have h4 : a.tmps.getD 4 undef = .bool true := hv 24 _ 4 rfl rfl
    refine hK _ _ (wp_ret ?_)
    show bodyPost Tryd.prog Tryd.f13 _ .ret a w1
    refine bodyPost_ret (results_tmp (t := 4) rfl _ _ _) ha.defers ?_
    rw [h4]
    exact ⟨rfl, hB.trans (hG.mono hB.size)⟩
end Go.Proofs.YtepibfpdkjkdjaaDoor

/- Steps as an argument. -/
namespace Go.Proofs.YtepibfpdkjkdjaaDoor
open Go.ChangeShapes Go.WideShapes Go.ChangeAt Go.RowKit Go.Deep

theorem cell_lt {w : World} {a : Addr} {v : Value} (h : w.cell? a = some v) : a.block < w.heap.size := by
  unfold World.cell? at h
  apply Nat.lt_of_not_le; intro hle
  rw [Array.getElem?_eq_none hle] at h
  simp at h

set_option maxRecDepth 20000 in
theorem open_steps {H : Type} {enc : TypeId × Value → H} {W : World} {base : Nat} {v : Value} {d : DataW H} {ps : List MemPlace} (hval : Value.okWide Tryd.prog W .any base 64 v) (h : DataW.Trod enc Tryd.prog W 0 (fun _ => true) true 64 v d ps) :
    ∃ ao cap L, v = .slice ao L.length cap ∧ StepsAt W ao L ∧ StepsOk L ∧ L.length ≤ cap := by
  obtain ⟨a, len, cap, rfl⟩ := okWide_slice Tryd.underlying64 hval
  obtain ⟨fuel, hf⟩ := h
  rcases open_slice_pairs Tryd.underlying64 Tryd.underlying66 (by kernel_rfl) rfl rfl (by kernel_rfl) (by kernel_rfl) hf with ⟨hc, _⟩ | ⟨a', len', cap', m, k, V0, V1, D0, D1, P0, P1, hc, _, hl, _, hmm, _, hall⟩
  · have hc2 : [Value.slice a len cap] = [Value.slice none 0 0] := hc
    simp only [List.cons.injEq, Value.slice.injEq, and_true] at hc2
    obtain ⟨rfl, rfl, rfl⟩ := hc2
    exact ⟨none, 0, [], rfl, (fun j h => by simp at h), (fun s hs => by cases hs), Nat.le_refl _⟩
  · have hc2 : [Value.slice a len cap] = [Value.slice (some a') len' cap'] := hc
    simp only [List.cons.injEq, Value.slice.injEq, and_true] at hc2
    obtain ⟨rfl, rfl, rfl⟩ := hc2
    simp only [if_true] at hmm
    subst hmm
    have h0 : ∀ i, i < len → ∃ n : Nat, V0 i = .int .u64 (n : Int) ∧ n < 18446744073709551616 := by
      intro i hi
      obtain ⟨N, h1, _, h3⟩ := DataW.trod_int Tryd.underlying45 (hall i (by omega)).2.2.1
      simp only [List.cons.injEq, and_true] at h1
      have b := bounds_u64 h3
      exact ⟨N.toNat, by rw [h1, Int.toNat_of_nonneg b.1], by omega⟩
    have h1 : ∀ i, i < len → ∃ n : Int, V1 i = .int .i64 n ∧ -9223372036854775808 ≤ n ∧ n ≤ 9223372036854775807 := by
      intro i hi
      obtain ⟨N, h1, _, h3⟩ := DataW.trod_int Tryd.underlying3 (hall i (by omega)).2.2.2
      simp only [List.cons.injEq, and_true] at h1
      have b := bounds_i64 h3
      exact ⟨N, h1, by omega, by omega⟩
    have hj : ∀ i, i < len → ∃ s : Nat × Int, V0 i = .int .u64 (s.1 : Int) ∧ V1 i = .int .i64 s.2 ∧ s.1 < 18446744073709551616 ∧ -9223372036854775808 ≤ s.2 ∧ s.2 ≤ 9223372036854775807 := by
      intro i hi
      obtain ⟨n, e0, b0⟩ := h0 i hi
      obtain ⟨z, e1, b1⟩ := h1 i hi
      exact ⟨(n, z), e0, e1, b0, b1⟩
    obtain ⟨f, hf2⟩ := choose_lt hj
    refine ⟨some a', m, (List.range len).map f, by simp, ?_, ?_, by simpa using hl⟩
    · intro j hjl
      have hjn : j < len := by simpa using hjl
      obtain ⟨bs, off, spot⟩ := a'
      have hspot : spot = none := by simpa [Addr.add] using World.cell?_spot (hall 0 (by omega)).1
      subst hspot
      obtain ⟨e0, e1, _⟩ := hf2 j hjn
      obtain ⟨c0, c1, _⟩ := hall j (by omega)
      rw [e0] at c0
      rw [e1] at c1
      have c0' : W.cell? ⟨bs, off + j * 2, none⟩ = some (.int .u64 ((f j).1 : Int)) := by simpa [Addr.add_lit] using c0
      have c1' : W.cell? ⟨bs, off + j * 2 + 1, none⟩ = some (.int .i64 (f j).2) := by simpa [Addr.add_lit, Nat.add_assoc] using c1
      refine ⟨bs, off, rfl, ?_, by simpa using c0', by simpa using c1'⟩
      exact cell_lt c0'
    · intro s hs
      obtain ⟨i, hi, rfl⟩ := List.mem_map.1 hs
      exact (hf2 i (List.mem_range.1 hi)).2.2
end Go.Proofs.YtepibfpdkjkdjaaDoor
