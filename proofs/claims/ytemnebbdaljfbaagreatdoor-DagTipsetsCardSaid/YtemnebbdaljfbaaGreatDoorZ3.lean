/- Texts 3: what the laws lean on. -/
import Derived.Test.YtemnebbdaljfbaaGreatDoorZ2
import Derived.Great.BuildSlice
import Derived.Laws.ResultCell
set_option linter.unusedVariables false
set_option linter.unusedSimpArgs false
namespace Go.Proofs.YtemnebbdaljfbaaGreatDoor
open Go

/-- Each of the chain waits for the one ahead of it. -/
def chainOk (md : Region.Mode) (ops : Array Oper) (C : List Nat) : Bool :=
  (List.range C.length).all fun m => match C[m]?, C[m + 1]? with
    | some i, some j => (match ops[j]? with | some p => p.after.any (fun e => Region.binds md e && e.on == i) | none => false)
    | _, _ => true
/-- Operation j waits for i, by n edges at most. -/
def reach (md : Region.Mode) (ops : Array Oper) : Nat → Nat → Nat → Bool
  | 0, _, _ => false
  | n + 1, j, i => match ops[j]? with
    | some p => p.after.any (fun e => Region.binds md e && (e.on == i || reach md ops n e.on i))
    | none => false
/-- The chain's place b waits for operation i (or there is no such place). -/
def aheadOf (md : Region.Mode) (ops : Array Oper) (C : List Nat) (i b : Nat) : Bool :=
  b == C.length || (match C[b]? with
    | some j => reach md ops 16 j i
    | none => false)

/-- Only slots of the operations turn; that of a chain's operation that isn't done yet hasn't. -/
structure AgreeC (ops : Array Oper) (C : List Nat) (k : Nat) (a0 a : Act) : Prop extends Agree ops a0 a where
  kp : ∀ (m i : Nat) (o : Oper) (t : Tmp), k ≤ m → C[m]? = some i → ops[i]? = some o → o.dst = some t → a.eval (.tmp t) = a0.eval (.tmp t)

section
variable {P : Program} {ops : Array Oper} {Q : Exit → Act → World → Prop} {md : Region.Mode} {V : Tmp → Value → Prop} {G : Nat → Value → World → Prop} {C : List Nat} {a0 : Act}

/-- What one operation owes while k of the chain are done, k' behind it. -/
def OwesAt (P : Program) (md : Region.Mode) (ops : Array Oper) (Q : Exit → Act → World → Prop) (V : Tmp → Value → Prop) (G : Nat → Value → World → Prop) (C : List Nat) (a0 : Act) (i : Nat) (o : Oper) (k : Nat) : Prop :=
  ∀ a w x, AgreeC ops C k a0 a → G k x w → AllV (fun t v _ => V t v) a w (waits md ops o) →
    wpOp P ops Q i (fun a' w' => ∃ v, a' = a.put o.dst v ∧ (∀ t, o.dst = some t → V t v) ∧ G k x w') a w
/-- The slot of the chain's last one that is done holds x. -/
def Holds' (ops : Array Oper) (C : List Nat) (a : Act) (k : Nat) (x : Value) : Prop := ∀ (m i : Nat) (o : Oper) (t : Tmp), k = m + 1 → C[m]? = some i → ops[i]? = some o → o.dst = some t → a.eval (.tmp t) = x
/-- What the chain's operation m owes. -/
def OwesIn (P : Program) (md : Region.Mode) (ops : Array Oper) (Q : Exit → Act → World → Prop) (V : Tmp → Value → Prop) (G : Nat → Value → World → Prop) (C : List Nat) (a0 : Act) (i : Nat) (o : Oper) (m : Nat) : Prop :=
  ∀ a w x, AgreeC ops C m a0 a → G m x w → Holds' ops C a m x → AllV (fun t v _ => V t v) a w (waits md ops o) →
    wpOp P ops Q i (fun a' w' => ∃ v, a' = a.put o.dst v ∧ (∀ t, o.dst = some t → V t v) ∧ G (m + 1) v w') a w
def OwesC (P : Program) (md : Region.Mode) (ops : Array Oper) (Q : Exit → Act → World → Prop) (V : Tmp → Value → Prop) (G : Nat → Value → World → Prop) (C : List Nat) (a0 : Act) (i : Nat) (o : Oper) : Prop :=
  (∃ m, C[m]? = some i ∧ OwesIn P md ops Q V G C a0 i o m) ∨ (C.contains i = false ∧ ∃ b, aheadOf md ops C i b = true ∧ ∀ k, k ≤ b → OwesAt P md ops Q V G C a0 i o k)

theorem any_edge {md : Region.Mode} {p : Oper} {i : Nat} (h : p.after.any (fun e => Region.binds md e && e.on == i) = true) : ∃ e ∈ p.after, Region.binds md e = true ∧ e.on = i := by
  obtain ⟨j, hj, h1⟩ := Array.any_iff_exists.1 h
  obtain ⟨_, _, h2⟩ := h1
  rw [Bool.and_eq_true, beq_iff_eq] at h2
  exact ⟨_, Array.getElem_mem _, h2.1, h2.2⟩
theorem chain_edge {m i j : Nat} {p : Oper} (h : chainOk md ops C = true) (hi : C[m]? = some i) (hj : C[m + 1]? = some j) (hp : ops[j]? = some p) : ∃ e ∈ p.after, Region.binds md e = true ∧ e.on = i := by
  have := List.all_eq_true.1 h m (List.mem_range.2 (List.getElem?_eq_some_iff.1 hi).1)
  simp only [hi, hj, hp] at this
  exact any_edge this

theorem reach_done {L : Array Bool} (cl : ∀ (i : Nat) (o : Oper), ops[i]? = some o → L.getD i true = true → ∀ e ∈ o.after, Region.binds md e = true → L.getD e.on false = true) :
    ∀ (n j i : Nat), reach md ops n j i = true → L.getD j true = true → L.getD i false = true
  | 0, _, _, h, _ => by cases h
  | n + 1, j, i, h, hl => by
    unfold reach at h
    cases hp : ops[j]? with
    | none => rw [hp] at h; cases h
    | some p =>
      rw [hp] at h
      obtain ⟨q, _, h1⟩ := Array.any_iff_exists.1 h
      obtain ⟨_, _, h2⟩ := h1
      rw [Bool.and_eq_true, Bool.or_eq_true, beq_iff_eq] at h2
      have h3 := cl j p hp hl _ (Array.getElem_mem _) h2.1
      rcases h2.2 with e | hr
      · rw [← e]; exact h3
      · refine reach_done cl n _ i hr ?_
        have : p.after[q].on < L.size := by
          apply Nat.lt_of_not_le; intro hle
          simp [Array.getElem?_eq_none hle] at h3
        simp [this] at h3 ⊢
        exact h3
theorem getD_tf {L : Array Bool} {n i : Nat} (hL : L.size = n) (hi : i < n) : L.getD i true = L.getD i false := by
  simp [show i < L.size by omega]
theorem getD_set_at {L : Array Bool} {i : Nat} (hi : i < L.size) (d : Bool) : (L.setIfInBounds i true).getD i d = true := by simp [hi]
theorem getD_set_ne' {L : Array Bool} {i j : Nat} (h : j ≠ i) (d : Bool) : (L.setIfInBounds i true).getD j d = L.getD j d := by
  have := Ne.symm h
  simp [Array.getD_eq_getD_getElem?, this]

/-- What is known while the region goes. -/
structure ChainAt (md : Region.Mode) (ops : Array Oper) (V : Tmp → Value → Prop) (G : Nat → Value → World → Prop) (C : List Nat) (a0 : Act) (L : Array Bool) (a : Act) (w : World) (k : Nat) (x : Value) : Prop where
  g : G k x w
  ho : Holds' ops C a k x
  le : k ≤ C.length
  ch : ∀ (m i : Nat), C[m]? = some i → (L.getD i true = true ↔ m < k)
  cl : ∀ (i : Nat) (o : Oper), ops[i]? = some o → L.getD i true = true → ∀ e ∈ o.after, Region.binds md e = true → L.getD e.on false = true
  ag : Agree ops a0 a
  kp : ∀ (i : Nat) (o : Oper) (t : Tmp), ops[i]? = some o → L.getD i true = false → o.dst = some t → a.eval (.tmp t) = a0.eval (.tmp t)
  v : ∀ (i : Nat) (o : Oper) (t : Tmp), ops[i]? = some o → L.getD i true = true → o.dst = some t → V t (a.eval (.tmp t))

theorem ChainAt.agc {L : Array Bool} {a : Act} {w : World} {k : Nat} {x : Value} (h : ChainAt md ops V G C a0 L a w k x) : AgreeC ops C k a0 a :=
  ⟨h.ag, fun m i o t hm hi ho ht => h.kp i o t ho (by
    cases hl : L.getD i true with
    | false => rfl
    | true => exact absurd ((h.ch m i hi).1 hl) (by omega)) ht⟩
theorem wpAny_chain (hok : DrawOk ops a0.tmps.size) (hch : chainOk md ops C = true) (hnd : C.Nodup) (hCl : ∀ i ∈ C, i < ops.size) (step : ∀ (i : Nat) (o : Oper), ops[i]? = some o → OwesC P md ops Q V G C a0 i o)
    (fin : ∀ a w x, Agree ops a0 a → G C.length x w → Holds' ops C a C.length x → (∀ (i : Nat) (o : Oper) (t : Tmp), ops[i]? = some o → o.dst = some t → V t (a.eval (.tmp t))) → Q .normal a w) :
    ∀ (fuel : Nat) (L : Array Bool) (a : Act) (w : World) (k : Nat) (x : Value), unl L ops.size ≤ fuel → L.size = ops.size → ChainAt md ops V G C a0 L a w k x → wpAny P md ops Q fuel L a w := by
  have allL : ∀ L : Array Bool, L.size = ops.size → Region.ready md ops L = [] → ∀ (i : Nat) (o : Oper), ops[i]? = some o → L.getD i true = true := by
    intro L hL hr i o ho
    cases hc : L.getD i true with
    | true => rfl
    | false =>
      obtain ⟨j, hj⟩ := ready_some (md := md) hok hL i (Array.getElem?_eq_some_iff.1 ho).1 hc
      rw [hr] at hj; cases hj
  have done : ∀ (L : Array Bool) (a : Act) (w : World) (k : Nat) (x : Value), L.size = ops.size → ChainAt md ops V G C a0 L a w k x → Region.ready md ops L = [] → Q .normal a w := by
    intro L a w k x hL h hr
    have hk : k = C.length := by
      refine Nat.le_antisymm h.le (Nat.le_of_not_lt fun hlt => ?_)
      have hm : C[k]? = some C[k] := List.getElem?_eq_getElem hlt
      have hi := hCl _ (List.getElem_mem hlt)
      exact Nat.lt_irrefl _ ((h.ch k _ hm).1 (allL L hL hr _ _ (Array.getElem?_eq_getElem hi)))
    subst hk
    exact fin a w x h.ag h.g h.ho (fun i o t ho ht => h.v i o t ho (allL L hL hr i o ho) ht)
  intro fuel
  induction fuel with
  | zero =>
    intro L a w k x hu hL h
    have hr : Region.ready md ops L = [] := by
      apply List.eq_nil_iff_forall_not_mem.2
      intro j hj
      obtain ⟨hun, o, ho, _⟩ := mem_ready.1 hj
      have := unl_pos L ops.size j (Array.getElem?_eq_some_iff.1 ho).1 hun
      omega
    exact ⟨hr, done L a w k x hL h hr⟩
  | succ fuel ih =>
    intro L a w k x hu hL h
    refine ⟨fun hr => done L a w k x hL h hr, fun i hi => ?_⟩
    obtain ⟨hun, o, ho, hall⟩ := mem_ready.1 hi
    have hil : i < ops.size := (Array.getElem?_eq_some_iff.1 ho).1
    have hw : AllV (fun t v _ => V t v) a w (waits md ops o) := AllV.of (by
      intro t ht
      unfold waits at ht
      obtain ⟨e, he, hd⟩ := List.mem_filterMap.1 ht
      obtain ⟨he1, he2⟩ := List.mem_filter.1 he
      cases hj : ops[e.on]? with
      | none => rw [hj] at hd; cases hd
      | some p =>
        rw [hj] at hd
        have hl := hall e (by simpa using he1) he2
        exact h.v e.on p t hj (by rw [getD_tf hL (Array.getElem?_eq_some_iff.1 hj).1]; exact hl) hd)
    -- what follows, with k' of the chain done
    have next : ∀ (k' : Nat) (y : Value → Value), k' ≤ C.length → (∀ v, Holds' ops C (a.put o.dst v) k' (y v)) → (∀ (m j : Nat), C[m]? = some j → ((L.setIfInBounds i true).getD j true = true ↔ m < k')) →
        wpOp P ops Q i (fun a' w' => ∃ v, a' = a.put o.dst v ∧ (∀ t, o.dst = some t → V t v) ∧ G k' (y v) w') a w → wpOp P ops Q i (fun a' w' => wpAny P md ops Q fuel (L.setIfInBounds i true) a' w') a w := by
      intro k' y hk' hho hch' hop
      refine wpOp_mono (fun a' w' hh => ?_) hop
      obtain ⟨v, rfl, hvi, hG'⟩ := hh
      refine ih _ _ _ k' (y v) ?_ (by simpa using hL) ⟨hG', hho v, hk', hch', ?_, ?_, ?_, ?_⟩
      · have := unl_set L i hun ops.size
        rw [if_pos hil] at this; omega
      · intro j p hp hl e he hb
        by_cases hji : j = i
        · subst hji
          rw [ho] at hp; cases hp
          have := hall e he hb
          by_cases hei : e.on = j
          · rw [hei, getD_set_at (by omega)]
          · rw [getD_set_ne' hei]; exact this
        · rw [getD_set_ne' hji] at hl
          have := h.cl j p hp hl e he hb
          by_cases hei : e.on = i
          · rw [hei, getD_set_at (by omega)]
          · rw [getD_set_ne' hei]; exact this
      · refine ⟨by rw [size_put]; exact h.ag.size, by rw [defers_put]; exact h.ag.defers, fun t ht => ?_⟩
        rw [Act.eval_put (fun d hd e => ht i o ho (by cases e; exact hd))]
        exact h.ag.same t ht
      · intro j p t hp hl ht
        have e : j ≠ i := by
          rintro rfl
          rw [getD_set_at (by omega)] at hl; cases hl
        rw [Act.eval_put (fun d hd e2 => by cases e2; exact hok.apart i j o p t ho hp e hd ht)]
        rw [getD_set_ne' e] at hl
        exact h.kp j p t hp hl ht
      · intro j p t hp hl ht
        by_cases e : j = i
        · subst e
          rw [ho] at hp; cases hp
          rw [ht, eval_put_same (by rw [h.ag.size]; exact hok.room j o t ho ht)]
          exact hvi t ht
        · rw [Act.eval_put (fun d hd e2 => by cases e2; exact hok.apart i j o p t ho hp e hd ht)]
          rw [getD_set_ne' e] at hl
          exact h.v j p t hp hl ht
    rcases step i o ho with ⟨m, hm, hop⟩ | ⟨hni, b, hb, hop⟩
    · have hmk : m = k := by
        have h1 : ¬ m < k := fun hlt => by rw [(h.ch m i hm).2 hlt] at hun; cases hun
        have h2 : m ≤ k := by
          cases m with
          | zero => exact Nat.zero_le _
          | succ m =>
            have hlt : m < C.length := by have := (List.getElem?_eq_some_iff.1 hm).1; omega
            have hj : C[m]? = some C[m] := List.getElem?_eq_getElem hlt
            obtain ⟨e, he, hbd, hon⟩ := chain_edge hch hj hm ho
            have := hall e he hbd
            rw [hon] at this
            exact (h.ch m _ hj).1 (by rw [getD_tf hL (hCl _ (List.getElem_mem hlt))]; exact this)
        omega
      subst hmk
      have hmlt : m < C.length := (List.getElem?_eq_some_iff.1 hm).1
      refine next (m + 1) (fun v => v) hmlt ?_ ?_ (hop a w x h.agc h.g h.ho hw)
      · intro v m2 j p t hm2 hj hp ht
        obtain rfl : m2 = m := by omega
        rw [hm] at hj; cases hj
        rw [ho] at hp; cases hp
        rw [ht, eval_put_same (by rw [h.ag.size]; exact hok.room i o t ho ht)]
      intro m2 j hj
      by_cases hji : j = i
      · subst hji
        have : m2 = m := by
          obtain ⟨l2, e2⟩ := List.getElem?_eq_some_iff.1 hj
          obtain ⟨l1, e1⟩ := List.getElem?_eq_some_iff.1 hm
          exact (List.getElem_inj hnd).1 (e2.trans e1.symm)
        subst this
        rw [getD_set_at (by omega)]
        exact ⟨fun _ => Nat.lt_succ_self _, fun _ => rfl⟩
      · rw [getD_set_ne' hji, h.ch m2 j hj]
        have : m2 ≠ m := by
          rintro rfl
          rw [hm] at hj; cases hj; exact hji rfl
        omega
    · have hkb : k ≤ b := by
        unfold aheadOf at hb
        rw [Bool.or_eq_true, beq_iff_eq] at hb
        rcases hb with rfl | hb
        · exact h.le
        · cases hj : C[b]? with
          | none => rw [hj] at hb; cases hb
          | some j =>
            rw [hj] at hb
            simp only at hb
            refine Nat.le_of_not_lt fun hlt => ?_
            have := reach_done h.cl 16 j i hb ((h.ch b j hj).2 hlt)
            rw [← getD_tf hL hil, hun] at this
            cases this
      refine next k (fun _ => x) h.le ?_ ?_ (hop k hkb a w x h.agc h.g hw)
      · intro v m2 j p t hm2 hj hp ht
        have hji : j ≠ i := by
          rintro rfl
          have := List.mem_of_getElem? hj
          rw [List.contains_eq_mem, decide_eq_false_iff_not] at hni
          exact hni this
        rw [Act.eval_put (fun d hd e2 => by cases e2; exact hok.apart i j o p t ho hp hji hd ht)]
        exact h.ho m2 j p t hm2 hj hp ht
      intro m2 j hj
      have hji : j ≠ i := by
        rintro rfl
        have := List.mem_of_getElem? hj
        rw [List.contains_eq_mem, decide_eq_false_iff_not] at hni
        exact hni this
      rw [getD_set_ne' hji, h.ch m2 j hj]

/-- The obligations one after the other. -/
def OweAllC (P : Program) (md : Region.Mode) (ops : Array Oper) (Q : Exit → Act → World → Prop) (V : Tmp → Value → Prop) (G : Nat → Value → World → Prop) (C : List Nat) (a0 : Act) : Nat → List Oper → Prop
  | _, [] => True
  | k, o :: r => OwesC P md ops Q V G C a0 k o ∧ OweAllC P md ops Q V G C a0 (k + 1) r
theorem OweAllC.get : ∀ {l : List Oper} {k : Nat}, OweAllC P md ops Q V G C a0 k l → ∀ (i : Nat) (o : Oper), l[i]? = some o → OwesC P md ops Q V G C a0 (k + i) o
  | _ :: _, k, h, 0, o, hi => by cases hi; exact h.1
  | _ :: r, k, h, i + 1, o, hi => by
    have := OweAllC.get h.2 i o (by simpa using hi)
    rwa [show k + 1 + i = k + (i + 1) by omega] at this
  | [], _, _, i, o, hi => by simp at hi
theorem OweAllC.cons {k : Nat} {o : Oper} {r : List Oper} (h : OwesC P md ops Q V G C a0 k o) (h2 : OweAllC P md ops Q V G C a0 (k + 1) r) : OweAllC P md ops Q V G C a0 k (o :: r) := ⟨h, h2⟩
theorem OweAllC.nil {k : Nat} : OweAllC P md ops Q V G C a0 k [] := trivial

theorem wp_region_chain {id : Nat} {w : World} (V : Tmp → Value → Prop) (G : Nat → Value → World → Prop) (C : List Nat) (N : Nat) (hm : P.follows .mixedOrders = true) (hok : drawOk ops N = true) (hN : a0.tmps.size = N)
    (hch : chainOk .any ops C = true) (hnd : decide C.Nodup = true) (hCl : C.all (· < ops.size) = true) (hG : G 0 undef w.drew)
    (step : OweAllC P .any ops Q V G C a0 0 ops.toList)
    (fin : ∀ f w x, G C.length x w → (∀ (m i : Nat) (o : Oper) (t : Tmp), C.length = m + 1 → C[m]? = some i → ops[i]? = some o → o.dst = some t → f t = x) → (∀ (i : Nat) (o : Oper) (t : Tmp), ops[i]? = some o → o.dst = some t → V t (f t)) → Q .normal (puts f (dsts ops) a0) w) : (Code.region id ops true).wp P Q a0 w := by
  subst hN
  have hok := drawOk_spec hok
  have hCl' : ∀ i ∈ C, i < ops.size := fun i hi => by simpa using List.all_eq_true.1 hCl i hi
  have hL0 : ∀ i, i < ops.size → (Array.replicate ops.size false).getD i true = false := fun i hi => by simp [hi]
  refine wp_region_any hm (wpAny_chain (V := V) (G := G) (C := C) hok hch (of_decide_eq_true hnd) hCl' (fun i o ho => ?_) (fun a w x ha hg hh hv => ?_) ops.size _ a0 _ 0 undef (unl_le _ _) (by simp) ⟨hG, (fun m i o t h => by omega), Nat.zero_le _, ?_, ?_, ⟨rfl, rfl, fun _ _ => rfl⟩, (fun _ _ _ _ _ _ => rfl), ?_⟩)
  · have := step.get i o (by simpa using ho)
    rwa [Nat.zero_add] at this
  · rw [ha.puts hok]
    exact fin _ w x hg hh hv
  · intro m i hi
    have := hCl' i (List.mem_of_getElem? hi)
    rw [hL0 i this]
    simp
  · intro i o ho hl
    rw [hL0 i (Array.getElem?_eq_some_iff.1 ho).1] at hl; cases hl
  · intro i o t ho hl _
    rw [hL0 i (Array.getElem?_eq_some_iff.1 ho).1] at hl; cases hl

/-- An operation beside the chain that yields a value and turns nothing. -/
theorem owesC_val {i : Nat} {o : Oper} {t : Tmp} (b : Nat) (hb : aheadOf md ops C i b = true) (hni : C.contains i = false) (hi : ops[i]? = some o) (ht : o.dst = some t)
    (h : ∀ k a w x, k ≤ b → AgreeC ops C k a0 a → G k x w → AllV (fun t v _ => V t v) a w (waits md ops o) → ∃ v, Region.wanted o (yielded ops a.tmps) = true ∧ (execOp a.eval o).run P w = .ok (.value v) w ∧ V t v) : OwesC P md ops Q V G C a0 i o := by
  refine .inr ⟨hni, b, hb, fun k hk a w x ha hG hV => ?_⟩
  obtain ⟨v, hw, hr, hv⟩ := h k a w x hk ha hG hV
  unfold wpOp
  rw [hi]
  simp only [hw, if_true, Oper.wp, hr, Oper.upon]
  exact .inl ⟨v, rfl, fun u hu => by rw [ht] at hu; cases hu; exact hv, hG⟩
/-- A call beside the chain. -/
theorem owesC_side {i : Nat} {o : Oper} {t : Tmp} (b : Nat) (hb : aheadOf md ops C i b = true) (hni : C.contains i = false) (hi : ops[i]? = some o) (ht : o.dst = some t) (f : FuncId)
    (h : ∀ k a w x, k ≤ b → AgreeC ops C k a0 a → G k x w → AllV (fun t v _ => V t v) a w (waits md ops o) → ∃ args, Region.wanted o (yielded ops a.tmps) = true ∧ (execOp a.eval o).run P w = .ok (.enter f args) w ∧
      Calls P f args w fun e w' => ∃ v, e = .returned v ∧ V t v ∧ G k x w') : OwesC P md ops Q V G C a0 i o := by
  refine .inr ⟨hni, b, hb, fun k hk a w x ha hG hV => ?_⟩
  obtain ⟨args, hw, hr, hc⟩ := h k a w x hk ha hG hV
  unfold wpOp
  rw [hi]
  simp only [hw, if_true, Oper.wp, hr, Oper.upon]
  refine .inl (hc.mono ?_)
  rintro e w' ⟨v, rfl, h1, h2⟩
  exact ⟨v, rfl, fun u hu => by rw [ht] at hu; cases hu; exact h1, h2⟩
/-- A call of the chain. -/
theorem owesC_call {i : Nat} {o : Oper} {t : Tmp} (m : Nat) (hm : C[m]? = some i) (hi : ops[i]? = some o) (ht : o.dst = some t) (f : FuncId)
    (h : ∀ a w x, AgreeC ops C m a0 a → G m x w → Holds' ops C a m x → AllV (fun t v _ => V t v) a w (waits md ops o) → ∃ args, Region.wanted o (yielded ops a.tmps) = true ∧ (execOp a.eval o).run P w = .ok (.enter f args) w ∧
      Calls P f args w fun e w' => ∃ v, e = .returned v ∧ V t v ∧ G (m + 1) v w') : OwesC P md ops Q V G C a0 i o := by
  refine .inl ⟨m, hm, fun a w x ha hG hh hV => ?_⟩
  obtain ⟨args, hw, hr, hc⟩ := h a w x ha hG hh hV
  unfold wpOp
  rw [hi]
  simp only [hw, if_true, Oper.wp, hr, Oper.upon]
  refine .inl (hc.mono ?_)
  rintro e w' ⟨v, rfl, h1, h2⟩
  exact ⟨v, rfl, fun u hu => by rw [ht] at hu; cases hu; exact h1, h2⟩
/-- An operation of the chain that yields a value and turns memory. -/
theorem owesC_mem {i : Nat} {o : Oper} {t : Tmp} (m : Nat) (hm : C[m]? = some i) (hi : ops[i]? = some o) (ht : o.dst = some t)
    (h : ∀ a w x, AgreeC ops C m a0 a → G m x w → Holds' ops C a m x → AllV (fun t v _ => V t v) a w (waits md ops o) → ∃ v w', Region.wanted o (yielded ops a.tmps) = true ∧ (execOp a.eval o).run P w = .ok (.value v) w' ∧ V t v ∧ G (m + 1) v w') : OwesC P md ops Q V G C a0 i o := by
  refine .inl ⟨m, hm, fun a w x ha hG hh hV => ?_⟩
  obtain ⟨v, w', hw, hr, h1, h2⟩ := h a w x ha hG hh hV
  unfold wpOp
  rw [hi]
  simp only [hw, if_true, Oper.wp, hr, Oper.upon]
  exact .inl ⟨v, rfl, fun u hu => by rw [ht] at hu; cases hu; exact h1, h2⟩
/-- A store of the chain. -/
theorem owesC_store {i : Nat} {o : Oper} (m : Nat) (hm : C[m]? = some i) (hi : ops[i]? = some o) (ht : o.dst = none)
    (h : ∀ a w x, AgreeC ops C m a0 a → G m x w → Holds' ops C a m x → AllV (fun t v _ => V t v) a w (waits md ops o) → ∃ w', Region.wanted o (yielded ops a.tmps) = true ∧ (execOp a.eval o).run P w = .ok .skip w' ∧ G (m + 1) undef w') : OwesC P md ops Q V G C a0 i o := by
  refine .inl ⟨m, hm, fun a w x ha hG hh hV => ?_⟩
  obtain ⟨w', hw, hr, h2⟩ := h a w x ha hG hh hV
  unfold wpOp
  rw [hi]
  simp only [hw, if_true, Oper.wp, hr, Oper.upon]
  exact .inl ⟨undef, rfl, fun u hu => (by rw [ht] at hu; cases hu), h2⟩
/-- An operation of the chain by its own law (an append). -/
theorem owesC_law {i : Nat} {o : Oper} (m : Nat) (hm : C[m]? = some i) (hi : ops[i]? = some o)
    (h : ∀ a w x, AgreeC ops C m a0 a → G m x w → Holds' ops C a m x → AllV (fun t v _ => V t v) a w (waits md ops o) → Region.wanted o (yielded ops a.tmps) = true ∧
      ∀ K : Act → World → Prop, (∀ v w', (∀ t, o.dst = some t → V t v) → G (m + 1) v w' → K (a.put o.dst v) w') → o.wp P a w K Q) : OwesC P md ops Q V G C a0 i o := by
  refine .inl ⟨m, hm, fun a w x ha hG hh hV => ?_⟩
  obtain ⟨hw, hl⟩ := h a w x ha hG hh hV
  unfold wpOp
  rw [hi]
  simp only [hw, if_true]
  exact .inl (hl _ (fun v w' h1 h2 => ⟨v, rfl, h1, h2⟩))
end
end Go.Proofs.YtemnebbdaljfbaaGreatDoor
namespace Go.Proofs.YtemnebbdaljfbaaGreatDoor
open Go
/-- A slot is written, by an operation of no region. -/
def mv (t : Tmp) (v : Value) : Oper := { dst := some t, op := .move (.const v), type := 0, pos := "", after := #[], guard := none }
theorem moves_back {P : Program} {ops : Array Oper} {Q : Exit → Act → World → Prop} (f : Tmp → Value) : ∀ (l : List Tmp) (a : Act) (w : World), wpList P ops Q (l.map fun t => mv t (f t)) a w → Q .normal (puts f l a) w
  | [], _, _, h => h
  | t :: r, a, w, h => by
    refine moves_back (P := P) (ops := ops) f r (a.put (some t) (f t)) w ?_
    rw [List.map_cons, wpList] at h
    have hw : Region.wanted (mv t (f t)) (yielded ops a.tmps) = true := rfl
    rw [if_pos hw] at h
    rcases h with h | h
    · unfold Oper.wp at h
      have he : (execOp a.eval (mv t (f t))).run P w = .ok (.value (f t)) w := rfl
      rw [he] at h
      exact h
    · exfalso
      have he : ((execOp a.eval (mv t (f t))).runT P w #[]).2 = #[] := rfl
      have h1 := h.1.1
      rw [he] at h1
      simp at h1
end Go.Proofs.YtemnebbdaljfbaaGreatDoor

namespace Go.Proofs.YtemnebbdaljfbaaGreatDoor
open Go.RowKit

theorem wpList_load_mid {ops : Array Oper} {rest : List Oper} {o : Oper} {a : Act} {w : World} {Q : Exit → Act → World → Prop} (hgd : o.guard = none) (x : Operand) (ho : o.op = .load 70 x) (b off : Nat) (hx : a.eval x = .pointer (some ⟨b, off, none⟩)) (s : Nm)
    (hc : ∀ i u, (encN.f s)[i]? = some u → w.cell? ⟨b, off + i, none⟩ = some u) (h : wpList Tryz.prog ops Q rest (a.put o.dst (.agg (vals s.1).toArray)) w) : wpList Tryz.prog ops Q (o :: rest) a w := by
  refine wpList_plain hgd fun K hK => ?_
  have he := exec_load_mid x ho b off hx s hc
  unfold Oper.wp
  rw [he]
  exact hK _ _ h
theorem flat_succ (L : List Nm) (k : Nat) (h : k < L.length) : ((L.take (k + 1)).map (·.1)).flatten = ((L.take k).map (·.1)).flatten ++ L[k].1 := by
  rw [List.take_succ_eq_append_getElem h, List.map_append, List.flatten_append]
  simp only [List.map_cons, List.map_nil, List.flatten_cons, List.flatten_nil, List.append_nil]
theorem flat_len (L : List Nm) : ((L.map (·.1)).flatten).length = 32 * L.length := by
  induction L with
  | nil => rfl
  | cons x l ih => rw [List.map_cons, List.flatten_cons, List.length_append, ih, x.2, List.length_cons]; omega
/-- A power as a number that has bytes. -/
def pwN (p : Nat) : Int := if 9223372036854775807 < p then 0 else p
theorem pwN_bd (p : Nat) : 0 ≤ pwN p ∧ pwN p ≤ 9223372036854775807 := by unfold pwN; split <;> omega
set_option maxRecDepth 20000 in
set_option maxHeartbeats 1000000 in
theorem hnumber_any (p : Nat) (w : World) (hp : p < 18446744073709551616) :
    Calls Tryz.prog 109 #[.int .u64 (p : Int)] w fun r w' => r = .returned (.int .i64 (pwN p)) ∧ w = w' := by
  by_cases h : 9223372036854775807 < p
  · have hfin : pwN p = 0 := by unfold pwN; rw [if_pos h]
    rw [hfin]
    have h1 : (9223372036854775807 : Int) < p := by omega
    clear hfin
    go_enter Tryz.func109, Tryz.ntmps109
    go_wp2_with fail
    go_ret
    exact ⟨rfl, rfl⟩
  · have hfin : pwN p = p := by unfold pwN; rw [if_neg h]
    rw [hfin]
    have h1 : ¬ (9223372036854775807 : Int) < p := by omega
    have h2 : (p : Int) ≤ 9223372036854775807 := by omega
    have h3 : IntKind.i64.wrap (p : Int) = (p : Int) := IntWalk.i64_in _ (by omega)
    clear hfin
    go_enter Tryz.func109, Tryz.ntmps109
    go_wp2_with fail
    go_ret
    exact ⟨rfl, rfl⟩
/-- The bytes ahead of the parents. -/
def hhead {α : Type} (h : Hd α) : List UInt8 := numL h.ht ++ numL h.mi ++ (numL h.tk.length ++ h.tk) ++ numL h.wi ++ numL (pwN h.pw)
def hbytes {α : Type} (f : α → List UInt8) (h : Hd α) : List UInt8 := hhead h ++ numL h.ps.length ++ (h.ps.map f).flatten ++ numL h.sa

set_option maxRecDepth 20000 in
set_option maxHeartbeats 8000000 in
theorem hbytes_any (h : Hd Nm) (ao : Option Addr) (cap : Nat) (w : World) (hL : Rd encN w ao h.ps) (hn : h.ps.length ≤ 1000000) (hk : h.tk.length ≤ 1000000) (hpw : h.pw < 18446744073709551616)
    (b1 : -9223372036854775808 ≤ h.ht ∧ h.ht ≤ 9223372036854775807) (b2 : -9223372036854775808 ≤ h.mi ∧ h.mi ≤ 9223372036854775807) (b3 : -9223372036854775808 ≤ h.wi ∧ h.wi ≤ 9223372036854775807) (b4 : -9223372036854775808 ≤ h.sa ∧ h.sa ≤ 9223372036854775807) :
    Calls Tryz.prog 76 #[.agg (hcells h ao cap)] w fun r w' => r = .returned (.string ⟨(hbytes (·.1) h).toArray⟩) ∧ Below w.heap.size w w' := by
  obtain ⟨ht, mi, tk, wi, pw, ps, sa⟩ := h
  simp only at hL hn hk hpw b1 b2 b3 b4
  have n1 := numL_len ht (by have := b1.2; omega)
  have n2 := numL_len mi (by have := b2.2; omega)
  have n3 := numL_len (tk.length : Int) (by omega)
  have n4 := numL_len wi (by have := b3.2; omega)
  have n6 := numL_len (ps.length : Int) (by omega)
  have n7 := numL_len sa (by have := b4.2; omega)
  have hp5 := pwN_bd pw
  have n5 := numL_len (pwN pw) (by omega)
  have hnum := Lib.hid (fun w => hnumber_any pw w hpw)
  obtain ⟨n, hnp⟩ : ∃ n, n = ps.length := ⟨_, rfl⟩
  obtain ⟨B1, hB1⟩ : ∃ B, B = numL ht := ⟨_, rfl⟩
  obtain ⟨B2, hB2⟩ : ∃ B, B = B1 ++ numL mi := ⟨_, rfl⟩
  obtain ⟨B3, hB3⟩ : ∃ B, B = B2 ++ (numL tk.length ++ tk) := ⟨_, rfl⟩
  obtain ⟨B4, hB4⟩ : ∃ B, B = B3 ++ numL wi := ⟨_, rfl⟩
  obtain ⟨B5, hB5⟩ : ∃ B, B = B4 ++ numL (pwN pw) := ⟨_, rfl⟩
  obtain ⟨B6, hB6⟩ : ∃ B, B = B5 ++ numL ps.length := ⟨_, rfl⟩
  have l1 : B1.length ≤ 9 := by rw [hB1]; exact n1
  have l2 : B2.length ≤ 18 := by rw [hB2, List.length_append]; omega
  have l3 : B3.length ≤ 1000027 := by rw [hB3, List.length_append, List.length_append]; omega
  have l4 : B4.length ≤ 1000036 := by rw [hB4, List.length_append]; omega
  have l5 : B5.length ≤ 1000045 := by rw [hB5, List.length_append]; omega
  have l6 : B6.length ≤ 1000054 := by rw [hB6, List.length_append]; omega
  obtain ⟨F, hF⟩ : ∃ F, F = B6 ++ (ps.map (·.1)).flatten ++ numL sa := ⟨_, rfl⟩
  have hfin : hbytes (·.1) (⟨ht, mi, tk, wi, pw, ps, sa⟩ : Hd Nm) = F := by rw [hF, hB6, hB5, hB4, hB3, hB2, hB1]; rfl
  rw [hfin]
  unfold hcells
  simp only
  rw [← hnp]
  obtain ⟨W0, hW0⟩ : ∃ W0, W0 = w.alloc (.cells #[.int .i64 ht, .int .i64 mi, .string ⟨tk.toArray⟩, .int .i64 wi, .int .u64 (pw : Int), .slice ao n cap, .int .i64 sa] 41) := ⟨_, rfl⟩
  have hbox : W0.heap[w.heap.size]? = some (.cells #[.int .i64 ht, .int .i64 mi, .string ⟨tk.toArray⟩, .int .i64 wi, .int .u64 (pw : Int), .slice ao n cap, .int .i64 sa] 41 (0, 0)) := by rw [hW0]; exact heap_alloc_new _ _
  have hbw : Below w.heap.size w W0 := by rw [hW0]; exact (Below.refl _ _).alloc (Nat.le_refl _) _
  obtain ⟨b, hb⟩ : ∃ b, b = W0.heap.size := ⟨_, rfl⟩
  have hgb : w.heap.size < b := by rw [hb]; exact (Array.getElem?_eq_some_iff.1 hbox).1
  have hmade := OutSt.made W0
  rw [← hb] at hmade
  -- what the box's cells are, whatever is written
  have hread : Hid (∀ (bs : List UInt8) (w1 : World), OutSt W0 b bs w1 → w1.cell? ⟨w.heap.size, 0, none⟩ = some (.int .i64 ht) ∧ w1.cell? ⟨w.heap.size, 1, none⟩ = some (.int .i64 mi) ∧ w1.cell? ⟨w.heap.size, 2, none⟩ = some (.string ⟨tk.toArray⟩) ∧ w1.cell? ⟨w.heap.size, 3, none⟩ = some (.int .i64 wi) ∧ w1.cell? ⟨w.heap.size, 4, none⟩ = some (.int .u64 (pw : Int)) ∧ w1.cell? ⟨w.heap.size, 5, none⟩ = some (.slice ao n cap) ∧ w1.cell? ⟨w.heap.size, 6, none⟩ = some (.int .i64 sa)) := Lib.hid (by
    intro bs w1 h1
    have hh := (h1.below.block _ hgb).trans hbox
    have hc := fun i => cell_of_row w1 w.heap.size i _ 41 (0, 0) hh
    exact ⟨hc 0, hc 1, hc 2, hc 3, hc 4, hc 5, hc 6⟩)
  have hrd : Hid (∀ (bs : List UInt8) (w1 : World), OutSt W0 b bs w1 → Rd encN w1 ao ps ∧ Below w.heap.size w w1) := Lib.hid (by
    intro bs w1 h1
    have h2 : Below w.heap.size w w1 := hbw.trans (h1.below.mono (Nat.le_of_lt hgb))
    exact ⟨hL.old h2, h2⟩)
  have HB1 := Lib.hid hB1
  have HB2 := Lib.hid hB2
  have HB3 := Lib.hid hB3
  have HB4 := Lib.hid hB4
  have HB5 := Lib.hid hB5
  have HB6 := Lib.hid hB6
  have HF := Lib.hid hF
  have Hnp := Lib.hid hnp
  have HW0 := Lib.hid hW0
  have Hb2 : Hid (w.heap.size + 1 = b) := Lib.hid (by rw [hb, hW0, World.size_alloc])
  clear hB1 hB2 hB3 hB4 hB5 hB6 hF hnp hfin hbox hbw hW0 hb hL n1 n2 n3 n4 n5 n6
  go_enter Tryz.func76, Tryz.ntmps76
  go_wp2_with fail
  rw [← HW0.out, Hb2.out]
  have HG0 : Hid ((fun (j : Nat) (_ : Value) (w1 : World) => OutSt W0 b (match j with | 0 => [] | 1 => B1 | 2 => B2 | 3 => B3 | 4 => B4 | _ => B5) w1) 0 undef (W0.alloc (.cells #[.slice none 0 0] 146)).drew) := Lib.hid (by
    obtain ⟨v, h1, h2, h3⟩ := hmade
    exact ⟨v, h1.kept (Mod.drew (Mod.refl (fun _ => False) _)) (fun h => h) (fun _ _ h => h), h2, h3.drew⟩)
  clear hmade
  generalize W0.alloc (.cells #[.slice none 0 0] 146) = W1 at HG0 ⊢
  generalize hgg : w.heap.size = g at hread hrd hgb ⊢
  have HGG : Hid (g = w.heap.size) := Lib.hid hgg.symm
  clear hgg
  refine wp_region_chain (fun t v => match t with
    | 6 => v = .pointer (some ⟨g, 0, none⟩)
    | 7 => v = .int .i64 ht
    | 8 => v = .pointer (some ⟨b, 0, none⟩)
    | 9 => v = .pointer (some ⟨g, 1, none⟩)
    | 10 => v = .int .i64 mi
    | 11 => v = .pointer (some ⟨b, 0, none⟩)
    | 12 => v = .pointer (some ⟨g, 2, none⟩)
    | 13 => v = .string ⟨tk.toArray⟩
    | 14 => v = .pointer (some ⟨b, 0, none⟩)
    | 15 => v = .pointer (some ⟨g, 3, none⟩)
    | 16 => v = .int .i64 wi
    | 17 => v = .pointer (some ⟨b, 0, none⟩)
    | 18 => v = .pointer (some ⟨g, 4, none⟩)
    | 19 => v = .int .u64 (pw : Int)
    | 20 => v = .int .i64 (pwN pw)
    | 21 => v = .pointer (some ⟨b, 0, none⟩)
    | _ => True) (fun (j : Nat) (_ : Value) (w1 : World) => OutSt W0 b (match j with | 0 => [] | 1 => B1 | 2 => B2 | 3 => B3 | 4 => B4 | _ => B5) w1) [2, 5, 8, 11, 15] 41 (by kernel_rfl) (by decide +kernel) rfl (by decide +kernel) (by decide) (by decide) HG0.out (by
    refine OweAllC.cons (owesC_val 0 (by decide +kernel) (by decide) rfl rfl fun k' a w1 x hk ha hG hV => ?_) ?_
    · skip
      have h1 := ha.outer 1 (by decide +kernel)
      simp only [Act.eval] at h1
      exact ⟨.pointer (some ⟨g, 0, none⟩), wanted_free rfl, by simp [execOp, go_sem, h1], rfl⟩
    refine OweAllC.cons (owesC_val 0 (by decide +kernel) (by decide) rfl rfl fun k' a w1 x hk ha hG hV => ?_) ?_
    · skip
      have h6 : a.tmps.getD 6 undef = .pointer (some ⟨g, 0, none⟩) := hV.get 6 (by decide +kernel)
      have cc := hread.out _ w1 hG
      exact ⟨.int .i64 ht, wanted_free rfl, by simp [execOp, go_sem, h6, cc.1], rfl⟩
    refine OweAllC.cons (owesC_call 0 rfl rfl rfl 107 fun a w1 x ha hG hx hV => ?_) ?_
    · skip
      have h3 := ha.outer 3 (by decide +kernel)
      simp only [Act.eval] at h3
      have h7 : a.tmps.getD 7 undef = .int .i64 ht := hV.get 7 (by decide +kernel)
      refine ⟨#[.pointer (some ⟨b, 0, none⟩), .int .i64 ht], wanted_free rfl, by simp [execOp, resolve, invoke, go_sem, h3, h7], ?_⟩
      refine (out_num W0 b [] ht w1 hG (by simp) b1.1 b1.2).mono ?_
      rintro r u2 ⟨rfl, hO⟩; exact ⟨_, rfl, rfl, by rw [List.nil_append, ← HB1.out] at hO; exact hO⟩
    refine OweAllC.cons (owesC_val 1 (by decide +kernel) (by decide) rfl rfl fun k' a w1 x hk ha hG hV => ?_) ?_
    · skip
      have h1 := ha.outer 1 (by decide +kernel)
      simp only [Act.eval] at h1
      exact ⟨.pointer (some ⟨g, 1, none⟩), wanted_free rfl, by simp [execOp, go_sem, h1], rfl⟩
    refine OweAllC.cons (owesC_val 1 (by decide +kernel) (by decide) rfl rfl fun k' a w1 x hk ha hG hV => ?_) ?_
    · skip
      have h9 : a.tmps.getD 9 undef = .pointer (some ⟨g, 1, none⟩) := hV.get 9 (by decide +kernel)
      have cc := hread.out _ w1 hG
      exact ⟨.int .i64 mi, wanted_free rfl, by simp [execOp, go_sem, h9, cc.2.1], rfl⟩
    refine OweAllC.cons (owesC_call 1 rfl rfl rfl 107 fun a w1 x ha hG hx hV => ?_) ?_
    · skip
      have h8 : a.tmps.getD 8 undef = .pointer (some ⟨b, 0, none⟩) := hV.get 8 (by decide +kernel)
      have h10 : a.tmps.getD 10 undef = .int .i64 mi := hV.get 10 (by decide +kernel)
      refine ⟨#[.pointer (some ⟨b, 0, none⟩), .int .i64 mi], wanted_free rfl, by simp [execOp, resolve, invoke, go_sem, h8, h10], ?_⟩
      refine (out_num W0 b B1 mi w1 hG (by omega) b2.1 b2.2).mono ?_
      rintro r u2 ⟨rfl, hO⟩; exact ⟨_, rfl, rfl, by rw [← HB2.out] at hO; exact hO⟩
    refine OweAllC.cons (owesC_val 2 (by decide +kernel) (by decide) rfl rfl fun k' a w1 x hk ha hG hV => ?_) ?_
    · skip
      have h1 := ha.outer 1 (by decide +kernel)
      simp only [Act.eval] at h1
      exact ⟨.pointer (some ⟨g, 2, none⟩), wanted_free rfl, by simp [execOp, go_sem, h1], rfl⟩
    refine OweAllC.cons (owesC_val 2 (by decide +kernel) (by decide) rfl rfl fun k' a w1 x hk ha hG hV => ?_) ?_
    · skip
      have h12 : a.tmps.getD 12 undef = .pointer (some ⟨g, 2, none⟩) := hV.get 12 (by decide +kernel)
      have cc := hread.out _ w1 hG
      exact ⟨.string ⟨tk.toArray⟩, wanted_free rfl, by simp [execOp, go_sem, h12, cc.2.2.1], rfl⟩
    refine OweAllC.cons (owesC_call 2 rfl rfl rfl 108 fun a w1 x ha hG hx hV => ?_) ?_
    · skip
      have h11 : a.tmps.getD 11 undef = .pointer (some ⟨b, 0, none⟩) := hV.get 11 (by decide +kernel)
      have h13 : a.tmps.getD 13 undef = .string ⟨tk.toArray⟩ := hV.get 13 (by decide +kernel)
      refine ⟨#[.pointer (some ⟨b, 0, none⟩), .string ⟨tk.toArray⟩], wanted_free rfl, by simp [execOp, resolve, invoke, go_sem, h11, h13], ?_⟩
      refine (out_text W0 b B2 tk w1 hG (by omega) (by omega)).mono ?_
      rintro r u2 ⟨rfl, hO⟩; exact ⟨_, rfl, rfl, by rw [← HB3.out] at hO; exact hO⟩
    refine OweAllC.cons (owesC_val 3 (by decide +kernel) (by decide) rfl rfl fun k' a w1 x hk ha hG hV => ?_) ?_
    · skip
      have h1 := ha.outer 1 (by decide +kernel)
      simp only [Act.eval] at h1
      exact ⟨.pointer (some ⟨g, 3, none⟩), wanted_free rfl, by simp [execOp, go_sem, h1], rfl⟩
    refine OweAllC.cons (owesC_val 3 (by decide +kernel) (by decide) rfl rfl fun k' a w1 x hk ha hG hV => ?_) ?_
    · skip
      have h15 : a.tmps.getD 15 undef = .pointer (some ⟨g, 3, none⟩) := hV.get 15 (by decide +kernel)
      have cc := hread.out _ w1 hG
      exact ⟨.int .i64 wi, wanted_free rfl, by simp [execOp, go_sem, h15, cc.2.2.2.1], rfl⟩
    refine OweAllC.cons (owesC_call 3 rfl rfl rfl 107 fun a w1 x ha hG hx hV => ?_) ?_
    · skip
      have h14 : a.tmps.getD 14 undef = .pointer (some ⟨b, 0, none⟩) := hV.get 14 (by decide +kernel)
      have h16 : a.tmps.getD 16 undef = .int .i64 wi := hV.get 16 (by decide +kernel)
      refine ⟨#[.pointer (some ⟨b, 0, none⟩), .int .i64 wi], wanted_free rfl, by simp [execOp, resolve, invoke, go_sem, h14, h16], ?_⟩
      refine (out_num W0 b B3 wi w1 hG (by omega) b3.1 b3.2).mono ?_
      rintro r u2 ⟨rfl, hO⟩; exact ⟨_, rfl, rfl, by rw [← HB4.out] at hO; exact hO⟩
    refine OweAllC.cons (owesC_val 4 (by decide +kernel) (by decide) rfl rfl fun k' a w1 x hk ha hG hV => ?_) ?_
    · skip
      have h1 := ha.outer 1 (by decide +kernel)
      simp only [Act.eval] at h1
      exact ⟨.pointer (some ⟨g, 4, none⟩), wanted_free rfl, by simp [execOp, go_sem, h1], rfl⟩
    refine OweAllC.cons (owesC_val 4 (by decide +kernel) (by decide) rfl rfl fun k' a w1 x hk ha hG hV => ?_) ?_
    · skip
      have h18 : a.tmps.getD 18 undef = .pointer (some ⟨g, 4, none⟩) := hV.get 18 (by decide +kernel)
      have cc := hread.out _ w1 hG
      exact ⟨.int .u64 (pw : Int), wanted_free rfl, by simp [execOp, go_sem, h18, cc.2.2.2.2.1], rfl⟩
    refine OweAllC.cons (owesC_side 4 (by decide +kernel) (by decide) rfl rfl 109 fun k' a w1 x hk ha hG hV => ?_) ?_
    · skip
      have h19 : a.tmps.getD 19 undef = .int .u64 (pw : Int) := hV.get 19 (by decide +kernel)
      refine ⟨#[.int .u64 (pw : Int)], wanted_free rfl, by simp [execOp, resolve, invoke, go_sem, h19], ?_⟩
      refine (hnum.out w1).mono ?_
      rintro r u2 ⟨rfl, rfl⟩; exact ⟨_, rfl, rfl, hG⟩
    refine OweAllC.cons (owesC_call 4 rfl rfl rfl 107 fun a w1 x ha hG hx hV => ?_) ?_
    · skip
      have h17 : a.tmps.getD 17 undef = .pointer (some ⟨b, 0, none⟩) := hV.get 17 (by decide +kernel)
      have h20 : a.tmps.getD 20 undef = .int .i64 (pwN pw) := hV.get 20 (by decide +kernel)
      refine ⟨#[.pointer (some ⟨b, 0, none⟩), .int .i64 (pwN pw)], wanted_free rfl, by simp [execOp, resolve, invoke, go_sem, h17, h20], ?_⟩
      refine (out_num W0 b B4 (pwN pw) w1 hG (by omega) (by omega) (by omega)).mono ?_
      rintro r u2 ⟨rfl, hO⟩; exact ⟨_, rfl, rfl, by rw [← HB5.out] at hO; exact hO⟩
    exact OweAllC.nil
    ) ?_
  intro f wz xz hG hx hv
  have e21 : f 21 = .pointer (some ⟨b, 0, none⟩) := hv 15 _ 21 rfl rfl
  first | (rename_i hK; refine hK _ _ ?_; clear hK) | (rename_i hK _; refine hK _ _ ?_; clear hK) | (rename_i hK _ _; refine hK _ _ ?_; clear hK) | (rename_i hK _ _ _; refine hK _ _ ?_; clear hK)
  clear hv hx
  simp only [dsts, puts, List.filterMap_cons, List.filterMap_nil, List.foldl_cons, List.foldl_nil, Act.put, List.setIfInBounds_toArray, List.set_cons_succ, List.set_cons_zero, e21]
  clear e21
  have hG5 : OutSt W0 b B5 wz := hG
  have c5 := (hread.out _ wz hG5).2.2.2.2.2.1
  clear hG HG0
  go_wp2_with fail
  refine (out_num W0 b B5 (n : Int) wz hG5 (by omega) (by omega) (by have := Hnp.out; omega)).mono ?_
  rintro r w3 ⟨rfl, hG6⟩
  rw [Hnp.out, ← HB6.out] at hG6
  have c6 := (hread.out _ w3 hG6).2.2.2.2.2.1
  clear hG5 c5
  have HG6 := Lib.hid hG6
  clear hG6
  go_wp2_with fail
  go_loopw [29] (fun s29 wr => ∃ (k : Nat) (bs : List UInt8), k ≤ n ∧ s29 = .int .i64 (k : Int) ∧ Hid (bs = B6 ++ ((ps.take k).map (·.1)).flatten) ∧ OutSt W0 b bs wr) (fun i _ => n - (intOf i).toNat)
  case atStart => exact ⟨0, B6, by omega, rfl, Lib.hid (by simp), HG6.out⟩
  case round =>
    clear HG6 c6
    obtain ⟨k, bs, hk, rfl, hbs, hO⟩ := hrel
    have hbl : bs.length ≤ 33000054 := by
      have e := hbs.out
      have := flat_len (ps.take k)
      rw [e, List.length_append, this, List.length_take]; omega
    by_cases hkn : k < n
    · have hkl : k < ps.length := by rw [← Hnp.out]; exact hkn
      obtain ⟨bb, off, rfl, hlt, c1⟩ := (hrd.out _ wr hO).1 k hkl
      obtain ⟨x, hx⟩ : ∃ x, x = ps[k] := ⟨_, rfl⟩
      have hnx : Hid (bs ++ x.1 = B6 ++ ((ps.take (k + 1)).map (·.1)).flatten) := Lib.hid (by rw [hbs.out, flat_succ ps k hkl, hx, List.append_assoc])
      rw [← hx] at c1
      have c1' : ∀ i u, (encN.f x)[i]? = some u → wr.cell? ⟨bb, off + k * 32 + i, none⟩ = some u := c1
      have C1 := Lib.hid c1'
      have k1 : (k : Int) < n := by omega
      have k0 : (0 : Int) ≤ k := by omega
      have hz := zid_run
      have q2 := zid_len.trans (id_size x.2).symm
      have q3 := id_info x.2
      have q4 := id_one x.1
      have hI := IdAt.stored (w := wr) (A := (vals zid).toArray) x.2
      have hBz := stored_below (w := wr) (A := (vals zid).toArray) (C := (vals x.1).toArray) (T := 70)
      have htx := Lib.hid hI.text
      have HO := Lib.hid (hO.old hBz)
      have hxl : x.1.length = 32 := x.2
      have Hxl := Lib.hid hxl
      clear hx c1 c1' hI hBz hxl hbs hO
      generalize (vals zid).toArray = ZA at hz q2 htx HO
      go_upto_region 7 with (first | (refine wpList_load_mid rfl (.tmp 31) rfl bb (off + k * 32) rfl x C1.out ?_) | (refine wpList_store_row rfl rfl 70 (.tmp 5) (.tmp 32) rfl wr.heap.size rfl 70 ZA (vals x.1).toArray rfl (heap_alloc_new _ _) q2 q3 q4 ?_))
      have ht := htx.out
      generalize (wr.alloc (.cells ZA 70)).setRow wr.heap.size (vals x.1).toArray = W2 at ht HO ⊢
      clear htx C1 hz q2 q3 q4
      go_wp2_with fail
      refine (out_raw W0 b bs x.1 _ HO.out (by have := Hxl.out; omega)).mono ?_
      rintro r w4 ⟨rfl, hO4⟩
      clear ht HO
      go_wp2_with fail
      go_roundw
      case rel => exact ⟨k + 1, bs ++ x.1, by omega, by go_num, hnx, hO4⟩
      case measure => simp [intOf]; omega
    · obtain rfl : k = n := by omega
      have c6 := (hread.out _ wr hO).2.2.2.2.2.2
      have hbF : Hid (bs ++ numL sa = F) := Lib.hid (by rw [hbs.out, HF.out, Hnp.out, List.take_of_length_le (Nat.le_refl _)])
      clear hbs
      go_wp2_with fail
      refine (out_num W0 b bs sa wr hO (by omega) b4.1 b4.2).mono ?_
      rintro r w5 ⟨rfl, hO5⟩
      rw [hbF.out] at hO5
      have hB5 := Lib.hid (hrd.out _ w5 hO5).2
      clear hO c6
      go_wp2_with fail
      refine (out_bytes W0 b F w5 hO5).mono ?_
      rintro r w6 ⟨rfl, rfl⟩
      clear hO5
      go_wp2_with fail
      go_ret
      exact ⟨rfl, HGG.out ▸ hB5.out⟩
end Go.Proofs.YtemnebbdaljfbaaGreatDoor

namespace Go.Proofs.YtemnebbdaljfbaaGreatDoor
open Go.RowKit

/-- A header whose numbers are ints, and which isn't great. -/
structure HOk {α : Type} (h : Hd α) : Prop where
  n : h.ps.length ≤ 1000000
  k : h.tk.length ≤ 1000000
  pw : h.pw < 18446744073709551616
  b1 : -9223372036854775808 ≤ h.ht ∧ h.ht ≤ 9223372036854775807
  b2 : -9223372036854775808 ≤ h.mi ∧ h.mi ≤ 9223372036854775807
  b3 : -9223372036854775808 ≤ h.wi ∧ h.wi ≤ 9223372036854775807
  b4 : -9223372036854775808 ≤ h.sa ∧ h.sa ≤ 9223372036854775807
theorem hbytes_len (h : Hd Nm) (ok : HOk h) : (hbytes (·.1) h).length ≤ 33000063 := by
  have n1 := numL_len h.ht (by have := ok.b1.2; omega)
  have n2 := numL_len h.mi (by have := ok.b2.2; omega)
  have n3 := numL_len (h.tk.length : Int) (by have := ok.k; omega)
  have n4 := numL_len h.wi (by have := ok.b3.2; omega)
  have n5 := numL_len (pwN h.pw) (by have := pwN_bd h.pw; omega)
  have n6 := numL_len (h.ps.length : Int) (by have := ok.n; omega)
  have n7 := numL_len h.sa (by have := ok.b4.2; omega)
  have n8 := flat_len h.ps
  have hn := ok.n
  have hk := ok.k
  simp only [hbytes, hhead, List.length_append]
  rw [n8]
  omega

set_option maxRecDepth 20000 in
set_option maxHeartbeats 4000000 in
theorem hid_any (h : Hd Nm) (ao : Option Addr) (cap : Nat) (w : World) (hL : Rd encN w ao h.ps) (ok : HOk h) (hT : TabAt w) :
    Calls Tryz.prog 34 #[.agg (hcells h ao cap)] w fun r w' => r = .returned (.agg (vals (shaB (hbytes (·.1) h))).toArray) ∧ Below w.heap.size w w' := by
  have hlen := hbytes_len h ok
  have hby := Lib.hid (fun w' (hb : Below w.heap.size w w') => hbytes_any h ao cap w' (hL.old hb) ok.n ok.k ok.pw ok.b1 ok.b2 ok.b3 ok.b4)
  obtain ⟨C, hC⟩ : ∃ C, C = hcells h ao cap := ⟨_, rfl⟩
  have hCs : C.size = 7 := by rw [hC]; rfl
  rw [← hC] at hby ⊢
  obtain ⟨S, hS⟩ : ∃ S, S = hbytes (·.1) h := ⟨_, rfl⟩
  rw [← hS] at hby hlen ⊢
  have hof := Lib.hid (fun (w : World) hT => dofB (.slice (some ⟨w.heap.size, 0, none⟩) 1 1) [S] (w.alloc (.cells #[.string ⟨S.toArray⟩] 9)) (StrsAt.made w 9 [S]) (by simp; omega) (by simp) hT)
  rw [show ([S] : List (List UInt8)).flatten = S from by simp] at hof
  have hZl := shaB_len S
  generalize shaB S = Z at hof hZl ⊢
  have hci : (Tryz.prog.info? 41).map (·.size) = some C.size := by rw [hCs]; kernel_rfl
  have hz := zid_run
  have q2 := zid_len.trans (id_size hZl).symm
  have q3 := id_info hZl
  have q4 := id_one Z
  generalize (vals zid).toArray = ZA at hz q2
  obtain ⟨Y, hY⟩ : ∃ Y, Y = (vals Z).toArray := ⟨_, rfl⟩
  rw [← hY] at q2 q3 q4 hof ⊢
  obtain ⟨W0, hW0⟩ : ∃ W0, W0 = (w.alloc (.cells C 41)).alloc (.cells ZA 70) := ⟨_, rfl⟩
  have hb0 : Below w.heap.size w W0 := by rw [hW0]; exact ((Below.refl _ w).alloc (Nat.le_refl _) _).alloc (by simp) _
  have hbox : W0.heap[w.heap.size]? = some (.cells C 41 (0, 0)) := by rw [hW0, Below.heap_alloc _ _ _ (by simp)]; exact heap_alloc_new w _
  have hres : W0.heap[w.heap.size + 1]? = some (.cells ZA 70 (0, 0)) := by rw [hW0]; have := heap_alloc_new (w.alloc (.cells C 41)) (.cells ZA 70); simpa using this
  have HW0 := Lib.hid hW0
  have Hres := Lib.hid hres
  have Hb0 := Lib.hid hb0
  have HT := Lib.hid hT
  clear hY hZl hS hC hCs hlen hW0 hres hb0 hT hL
  go_enter Tryz.func34, Tryz.ntmps34
  go_wp2_with (first | (rw [← HW0.out]; refine wpList_load_row rfl 41 (.tmp 1) rfl w.heap.size rfl 41 C (0, 0) _ hbox Tryz.underlying41 rfl hci ?_) | fail)
  refine (hby.out W0 Hb0.out).mono ?_
  rintro r w1 ⟨rfl, hb1⟩
  have HB1 := Lib.hid (Hb0.out.trans (hb1.mono Hb0.out.size))
  have Hres1 := Lib.hid ((hb1.block _ (Array.getElem?_eq_some_iff.1 Hres.out).1).trans Hres.out)
  have hT1 := Lib.hid (HT.out.old (HB1.out.trans (((Below.refl _ w1).alloc (Nat.le_refl _) (.cells #[.string ⟨S.toArray⟩] 9)).mono HB1.out.size)))
  clear hb1 hbox
  go_wp2_with fail
  refine (hof.out w1 hT1.out).mono ?_
  rintro r w2 ⟨rfl, hb2⟩
  have hb2' : Below w1.heap.size w1 w2 := ((Below.refl _ w1).alloc (Nat.le_refl _) (.cells #[.string ⟨S.toArray⟩] 9)).trans (hb2.mono (by simp))
  have hres2 : w2.heap[w.heap.size + 1]? = some (.cells ZA 70 (0, 0)) := (hb2'.block _ (Array.getElem?_eq_some_iff.1 Hres1.out).1).trans Hres1.out
  have hB2 := HB1.out.trans (hb2'.mono HB1.out.size)
  have L0 := Lib.hid (setRow_heap w2 (w.heap.size + 1) ZA Y 70 (0, 0) hres2)
  have LB := Lib.hid (hB2.trans (((Mod.refl (fun _ => False) w2).setRow (g := w.heap.size + 1) Y).to_below (by have := hB2.size; exact this) (by rintro k hk (h | h) <;> first | exact h | omega)))
  clear hb2 hb2' hB2
  go_wp2_with (refine wpList_store_row rfl rfl 70 (.tmp 2) (.tmp 6) rfl (w.heap.size + 1) rfl 70 ZA Y rfl hres2 q2 q3 q4 ?_)
  exact bodyPost_ret (v := .agg Y) (results_cell_row Tryz.results34 _ _ (w.heap.size + 1) 70 Y (0, 0) _ rfl L0.out Tryz.underlying70 rfl q3) rfl ⟨rfl, LB.out⟩
end Go.Proofs.YtemnebbdaljfbaaGreatDoor

namespace Go.Proofs.YtemnebbdaljfbaaGreatDoor
open Go.RowKit

theorem rawS_len (s : List UInt8) (e n : Int) : (rawS s e n).2.1.length ≤ s.length := by
  unfold rawS; split
  · exact failS_len _ _ _
  · simp
theorem textS_len (s : List UInt8) (e n : Int) : (textS s e n).2.1.length ≤ s.length := by
  unfold textS; exact Nat.le_trans (rawS_len _ _ _) (numS_len _ _ _)
theorem numS_lo (s : List UInt8) (e m : Int) : 0 ≤ (numS s e m).1 := by
  unfold numS; split
  · exact Int.le_refl 0
  · split
    · exact Int.le_refl 0
    · simp
theorem numS_hi (s : List UInt8) (e m : Int) (h : 0 ≤ m) : (numS s e m).1 ≤ m := by
  unfold numS; split
  · exact h
  · split
    · exact h
    · simp only; omega
/-- Names that are taken. -/
def parS : Nat → List UInt8 → Int → List Nm × List UInt8 × Int
  | 0, s, e => ([], s, e)
  | k + 1, s, e => ((parS k s e).1 ++ [⟨idL (rawS (parS k s e).2.1 (parS k s e).2.2 32).1, idL_len _⟩], (rawS (parS k s e).2.1 (parS k s e).2.2 32).2)
theorem parS_len (k : Nat) (s : List UInt8) (e : Int) : (parS k s e).1.length = k := by
  induction k with
  | zero => rfl
  | succ k ih => simp [parS, ih]
theorem parS_short (k : Nat) (s : List UInt8) (e : Int) : (parS k s e).2.1.length ≤ s.length := by
  induction k with
  | zero => exact Nat.le_refl _
  | succ k ih => exact Nat.le_trans (rawS_len _ _ _) ih
/-- A header that is taken, and what is left. -/
def takeS (s : List UInt8) : Hd Nm × List UInt8 × Int :=
  let a := numS s 0 4611686018427387904
  let b := numS a.2.1 a.2.2 4611686018427387904
  let c := textS b.2.1 b.2.2 8
  let d := numS c.2.1 c.2.2 4611686018427387904
  let e := numS d.2.1 d.2.2 4611686018427387904
  let f := numS e.2.1 e.2.2 5
  let p := parS f.1.toNat f.2.1 f.2.2
  let g := numS p.2.1 p.2.2 4611686018427387904
  (⟨a.1, b.1, c.1, d.1, e.1.toNat, p.1, g.1⟩, g.2)

theorem info_id : (Tryz.prog.info? 70).map (fun i => (i.zero, i.size, i.bytes)) = some (some (.agg (vals zid).toArray), 32, 32) := by kernel_rfl
/-- A name alone, laid. -/
theorem build_name {o : Oper} {a : Act} {w : World} (x : Operand) (ho : o.op = .buildSlice 39 1 #[(0, x)]) (s : List UInt8) (hs : s.length = 32) (hx : a.eval x = .agg (vals s).toArray) :
    (execOp a.eval o).run Tryz.prog w = .ok (.value (.slice (some ⟨w.heap.size, 0, none⟩) 1 1)) (w.alloc (.cells (vals s).toArray 70)) := by
  obtain ⟨i, hi, hz, h1, _⟩ : ∃ i, Tryz.prog.info? 70 = some i ∧ i.zero = some (.agg (vals zid).toArray) ∧ i.size = 32 ∧ i.bytes = 32 := by
    have h := info_id
    cases hq : Tryz.prog.info? 70 with
    | none => rw [hq] at h; cases h
    | some i => rw [hq] at h; simp only [Option.map_some, Option.some.injEq, Prod.mk.injEq] at h; exact ⟨i, rfl, h.1, h.2.1, h.2.2⟩
  have hf := Great.fill_whole (s := 32) (by decide) [.agg (vals s).toArray] ((Array.range (1 * 32)).map ((Value.agg (vals zid).toArray).cells[· % (Value.agg (vals zid).toArray).cells.size]!)) (by
    intro v hv; rw [List.mem_singleton.1 hv]; exact id_size hs) (by simp)
  have hb := run_buildSlice (P := Tryz.prog) w 39 70 1 #[(0, .agg (vals s).toArray)] (vals s).toArray i _ Tryz.underlying39 hi hz (by rw [h1]; decide) (by rw [h1]; decide) (by
    rw [h1]
    refine hf.trans ?_
    simp [Value.cells])
  unfold execOp
  simp only [ho, List.map_toArray, List.map_cons, List.map_nil, hx, Sem.run_bind, hb, Result.andThen_ok, Sem.run_pure]
/-- One element more. -/
theorem wp_pushR1 {α : Type} {P : Program} {o : Oper} {a : Act} {K : Act → World → Prop} {Q : Exit → Act → World → Prop} {w : World} (E : Enc α) (s x : Operand) (Ts T : TypeId) (z : Value) (by_ : Nat)
    (ho : o.op = .call { callee := .builtin .append, args := #[s, x], argTypes := #[Ts, Ts] }) (hT : P.underlying Ts = some (.slice T)) (hi : (P.info? T).map (fun i => (i.zero, i.size, i.bytes)) = some (some z, E.k, by_)) (hzs : z.cells.size = E.k) (hby : by_ ≤ 1024)
    (p : Option Addr) (cap n : Nat) (L : List α) (hn : L.length = n) (hs : a.eval s = .slice p n cap) (hS : Rw E T w p cap L) (ao : Option Addr) (cx : Nat) (y : α) (hx : a.eval x = .slice ao 1 cx) (hY : Rd E w ao [y]) (hl : n ≤ 1000000000)
    (h : ∀ q c w', PushR E T w p (L ++ [y]) q c w' → K (a.put o.dst (.slice q (n + 1) c)) w') : o.wp P a w K Q := by
  cases hq : P.info? T with
  | none => rw [hq] at hi; cases hi
  | some i =>
    rw [hq] at hi
    simp only [Option.map_some, Option.some.injEq, Prod.mk.injEq] at hi
    obtain ⟨hz, h1, h2⟩ := hi
    subst hn
    have hmul : (L.length + 1) * by_ ≤ 140737488355328 := Nat.le_trans (Nat.mul_le_mul (show L.length + 1 ≤ 1000000001 by omega) hby) (by decide)
    obtain ⟨bs, off, rfl, hbs, hc⟩ := hY 0 (by simp)
    refine wp_append_lies w s x Ts ho 0 T i z E.k by_ hT hq hz h1 h2 hzs E.pos _ L.length (E.all L) hs hS ⟨bs, off, none⟩ 1 cx (E.f y) hx (by rw [E.len]; omega) ?_ (E.one _) (by decide) (by unfold maxLen; omega) hmul (Nat.zero_le _) _ rfl ?_
    · intro j u hj
      have := hc j u hj
      have hadd : (⟨bs, off, none⟩ : Addr).add j = ⟨bs, off + j, none⟩ := by unfold Addr.add; split <;> simp_all
      rw [hadd]
      simpa using this
    · intro g c w' hown hgrow hat _
      refine h (some ⟨g, 0, none⟩) c w' ⟨?_, ?_, ?_⟩
      · have e : E.all (L ++ [y]) = E.all L ++ E.f y := by rw [E.all_app]; simp [Enc.all]
        unfold Rw; rw [List.length_append, e]; exact hown
      · refine (Mod.refl _ w).grown hgrow ?_
        intro j hj _
        cases p with
        | none => simp [Value.ownBlock] at hj
        | some a => simp [Value.ownBlock] at hj; exact ⟨a, rfl, hj.symm⟩
      · rintro a' e; cases e
        rcases hat with hat | hat
        · left
          rcases hS.shape with ⟨rfl, _⟩ | ⟨g', rfl, _⟩
          · simp [Value.ownBlock] at hat
          · simp [Value.ownBlock] at hat; subst hat; rfl
        · right; rw [hat]; exact Nat.le_refl _
end Go.Proofs.YtemnebbdaljfbaaGreatDoor

namespace Go.Proofs.YtemnebbdaljfbaaGreatDoor
open Go.RowKit

end Go.Proofs.YtemnebbdaljfbaaGreatDoor

namespace Go.Proofs.YtemnebbdaljfbaaGreatDoor
open Go.RowKit

theorem results_row2 {P : Program} {fn : Func} {p u : Tmp} {ty : TypeId} (h : fn.results = #[.cell p ty, .tmp u]) (tmps : Array Value) (w : World) (g : Nat) (t : TypeId) (cs : Array Value) (fr : Nat × Nat) (d : TypeDesc) (v : Value)
    (hp : tmps.getD p undef = .pointer (some ⟨g, 0, none⟩)) (hv : tmps.getD u undef = v) (hg : w.heap[g]? = some (.cells cs t fr))
    (hu : P.underlying ty = some d) (hd : (match d with | .struct _ | .array _ _ => true | _ => false) = true) (hi : (P.info? ty).map (·.size) = some cs.size) :
    (results fn tmps).run P w = .ok (.tuple #[.agg cs, v]) w := by
  rw [results_cell_tmp h, hp, hv]
  simp [asAddr, run_loadVar_row w g t ty cs fr d hg hu hd hi, Result.andThen]

def zhd : Hd Nm := ⟨0, 0, [], 0, 0, [], 0⟩
def zhc : Array Value := #[.int .i64 0, .int .i64 0, .string ⟨#[]⟩, .int .i64 0, .int .u64 0, .slice none 0 0, .int .i64 0]
theorem zhc_cells : hcells zhd none 0 = zhc := rfl
/-- Do a header's parents rise? -/
def hrs (h : Hd Nm) : Bool := rs (h.ps.map (·.1)) (h.ps.length - 1)
/-- 0, or what is wrong with bytes. -/
def hparE (s : List UInt8) : Int :=
  if (takeS s).2.1 = [] then (if (takeS s).2.2 = 0 then chk (takeS s).1 (hrs (takeS s).1) else (takeS s).2.2) else 3
def HPost (h : Hd Nm) (e : Int) (w : World) (r : Ending) (w' : World) : Prop := ∃ q c, r = .returned (.tuple #[.agg (hcells h q c), .int .i64 e]) ∧ Rw encN 70 w' q c h.ps ∧ Below w.heap.size w w' ∧ ∀ a, q = some a → w.heap.size ≤ a.block
theorem hinfo : (Tryz.prog.info? 41).map (·.size) = some 7 := by kernel_rfl
theorem hcells_one (h : Hd Nm) (q : Option Addr) (c : Nat) : ∀ v ∈ (hcells h q c).toList, v.oneCell' = true := by
  unfold hcells; intro v hv
  simp only [List.mem_cons, List.not_mem_nil, or_false] at hv
  rcases hv with rfl | rfl | rfl | rfl | rfl | rfl | rfl <;> rfl

end Go.Proofs.YtemnebbdaljfbaaGreatDoor

namespace Go.Proofs.YtemnebbdaljfbaaGreatDoor
open Go.RowKit

theorem numS_back (x most : Int) (h0 : 0 ≤ x) (hx : x ≤ most) (hm : most ≤ 9223372036854775807) (r : List UInt8) : numS (numL x ++ r) 0 most = (x, r, 0) := by
  obtain ⟨n, rfl⟩ : ∃ n : Nat, x = n := ⟨x.toNat, by omega⟩
  have h := headL_num n (by omega) r
  unfold numS
  rw [h]
  simp only [ne_eq, not_true_eq_false, if_false, List.drop_left]
  rw [if_neg (by omega)]
theorem textS_back (s r : List UInt8) (most : Int) (hm : most ≤ 9223372036854775807) (h : (s.length : Int) ≤ most) : textS (numL s.length ++ (s ++ r)) 0 most = (s, r, 0) := by
  unfold textS
  rw [numS_back _ _ (by omega) (by omega) (by omega)]
  simp only [rawS]
  rw [if_neg (by simp; omega)]
  simp
theorem rawS_back (s r : List UInt8) (n : Int) (h : (s.length : Int) = n) : rawS (s ++ r) 0 n = (s, r, 0) := by
  unfold rawS
  rw [if_neg (by simp; omega), ← h]
  simp
theorem parS_back (L : List Nm) (r : List UInt8) : ∀ k, k ≤ L.length → parS k ((L.map (·.1)).flatten ++ r) 0 = (L.take k, ((L.drop k).map (·.1)).flatten ++ r, 0)
  | 0, _ => by simp [parS]
  | k + 1, h => by
    have ih := parS_back L r k (by omega)
    have hk : k < L.length := by omega
    have e : ((L.drop k).map (·.1)).flatten ++ r = L[k].1 ++ (((L.drop (k + 1)).map (·.1)).flatten ++ r) := by
      rw [List.drop_eq_getElem_cons hk, List.map_cons, List.flatten_cons, List.append_assoc]
    have hr : rawS (((L.drop k).map (·.1)).flatten ++ r) 0 32 = (L[k].1, ((L.drop (k + 1)).map (·.1)).flatten ++ r, 0) := by rw [e, rawS_back _ _ 32 (by rw [L[k].2]; rfl)]
    simp only [parS, ih]
    have e1 : (⟨idL (rawS (((L.drop k).map (·.1)).flatten ++ r) 0 32).1, idL_len _⟩ : Nm) = L[k] := Subtype.ext (by
      show idL (rawS (((L.drop k).map (·.1)).flatten ++ r) 0 32).1 = L[k].1
      rw [hr]; exact idL_self _ L[k].2)
    rw [e1, hr, List.take_succ_eq_append_getElem hk]
/-- A header that may be. -/
def HOkay {α : Type} (h : Hd α) : Prop := (1 ≤ h.ht ∧ h.ht ≤ 1073741824) ∧ (0 ≤ h.mi ∧ h.mi < 64) ∧ (1 ≤ h.tk.length ∧ h.tk.length ≤ 8) ∧ (1 ≤ h.wi ∧ h.wi ≤ 15) ∧ (2 ≤ h.pw ∧ h.pw ≤ 4611686018427387904) ∧ (1 ≤ h.ps.length ∧ h.ps.length ≤ 5) ∧ (0 ≤ h.sa ∧ h.sa ≤ 1073741824)
theorem chk_zero {α : Type} (h : Hd α) (R : Bool) : chk h R = 0 ↔ HOkay h ∧ R = true := by
  unfold chk HOkay
  by_cases h5 : 5 < h.ps.length
  · rw [if_pos h5]
    constructor
    · intro h; cases h
    · rintro ⟨⟨_, _, _, _, _, h6, _⟩, _⟩; omega
  · rw [if_neg h5]
    split
    · rename_i hc
      constructor
      · intro h; cases h
      · rintro ⟨⟨h1, h2, h3, h4, h5, h6, h7⟩, rfl⟩
        rcases hc with hc | hc | hc | hc | hc | hc | hc
        · omega
        · omega
        · omega
        · omega
        · omega
        · rcases hc with hc | hc
          · omega
          · cases hc
        · omega
    · rename_i hc
      constructor
      · intro _
        simp only [not_or] at hc
        obtain ⟨h1, h2, h3, h4, h5, h6, h7⟩ := hc
        refine ⟨⟨by omega, by omega, by omega, by omega, by omega, by omega, by omega⟩, ?_⟩
        cases R with
        | true => rfl
        | false => exact absurd rfl h6.2
      · intro _; rfl
theorem takeS_back (h : Hd Nm) (ok : HOkay h) : takeS (hbytes (·.1) h) = (h, [], 0) := by
  obtain ⟨ht, mi, tk, wi, pw, ps, sa⟩ := h
  obtain ⟨h1, h2, h3, h4, h5, h6, h7⟩ := ok
  simp only at h1 h2 h3 h4 h5 h6 h7
  have hp : pwN pw = (pw : Int) := by unfold pwN; rw [if_neg (by omega)]
  unfold hbytes hhead
  simp only [hp, List.append_assoc]
  unfold takeS
  rw [numS_back ht _ (by omega) (by omega) (by omega)]
  simp only
  rw [numS_back mi _ (by omega) (by omega) (by omega)]
  simp only
  rw [textS_back tk _ 8 (by omega) (by omega)]
  simp only
  rw [numS_back wi _ (by omega) (by omega) (by omega)]
  simp only
  rw [numS_back (pw : Int) _ (by omega) (by omega) (by omega)]
  simp only
  rw [numS_back (ps.length : Int) 5 (by omega) (by omega) (by omega)]
  simp only [Int.toNat_natCast]
  rw [parS_back ps _ ps.length (Nat.le_refl _)]
  simp only [List.take_length, List.drop_length, List.map_nil, List.flatten_nil, List.nil_append]
  have := numS_back sa 4611686018427387904 (by omega) (by omega) (by omega) []
  rw [List.append_nil] at this
  rw [this]
theorem hpar_back (h : Hd Nm) (ok : HOkay h) (hr : hrs h = true) : (takeS (hbytes (·.1) h)).1 = h ∧ hparE (hbytes (·.1) h) = 0 := by
  unfold hparE
  rw [takeS_back h ok]
  exact ⟨rfl, (chk_zero h _).2 ⟨ok, hr⟩⟩
theorem HOk.of {h : Hd Nm} (ok : HOkay h) : HOk h := by
  obtain ⟨h1, h2, h3, h4, h5, h6, h7⟩ := ok
  exact ⟨by omega, by omega, by omega, by omega, by omega, by omega, by omega⟩

/-- The first header. -/
def ghd : Hd Nm := ⟨0, 0, [], 0, 2, [], 0⟩
theorem ghd_ok : HOk ghd := ⟨by decide, by decide, by decide, by decide, by decide, by decide, by decide⟩
set_option maxRecDepth 20000 in
set_option maxHeartbeats 1000000 in
theorem genesis_any (w : World) : Calls Tryz.prog 41 #[] w fun r w' => r = .returned (.agg (hcells ghd none 0)) ∧ Below w.heap.size w w' := by
  have hg := heap_alloc_new w (.cells #[.int .i64 0, .int .i64 0, .string ⟨#[]⟩, .int .i64 0, .int .u64 0, .slice none 0 0, .int .i64 0] 41)
  have L0 := Lib.hid (setRow_heap _ w.heap.size _ #[.int .i64 0, .int .i64 0, .string ⟨#[]⟩, .int .i64 0, .int .u64 2, .slice none 0 0, .int .i64 0] 41 (0, 0) hg)
  go_enter Tryz.func41, Tryz.ntmps41
  go_wp2_with (refine wpList_store_row rfl rfl 41 (.tmp 0) (.tmp 1) rfl w.heap.size rfl 41 _ #[.int .i64 0, .int .i64 0, .string ⟨#[]⟩, .int .i64 0, .int .u64 2, .slice none 0 0, .int .i64 0] rfl hg rfl hinfo (hcells_one ghd none 0) ?_)
  exact bodyPost_ret (v := .agg (hcells ghd none 0)) (results_cell_row Tryz.results41 _ _ w.heap.size 41 _ (0, 0) _ rfl L0.out Tryz.underlying41 rfl hinfo) rfl ⟨rfl, stored_below⟩

/-- The first header's name. -/
def rootB : List UInt8 := shaB (hbytes (·.1) ghd)
theorem rootB_len : rootB.length = 32 := shaB_len _
set_option maxRecDepth 20000 in
set_option maxHeartbeats 1000000 in
theorem root_any (w : World) (hT : TabAt w) : Calls Tryz.prog 32 #[] w fun r w' => r = .returned (.agg (vals rootB).toArray) ∧ Below w.heap.size w w' := by
  have hz := zid_run
  have hZl := rootB_len
  have q2 := zid_len.trans (id_size hZl).symm
  have q3 := id_info hZl
  have q4 := id_one rootB
  have hid := Lib.hid (fun w (hT : TabAt w) => hid_any ghd none 0 w (Rd.nil _ _) ghd_ok hT)
  have hgen := Lib.hid genesis_any
  unfold ghd at hid hgen
  unfold hcells at hid hgen
  rw [show shaB (hbytes (·.1) (⟨0, 0, [], 0, 2, [], 0⟩ : Hd Nm)) = rootB from rfl] at hid
  generalize (vals zid).toArray = ZA at hz q2
  obtain ⟨Y, hY⟩ : ∃ Y, Y = (vals rootB).toArray := ⟨_, rfl⟩
  rw [← hY] at q2 q3 q4 hid ⊢
  clear hY hZl
  obtain ⟨W0, hW0⟩ : ∃ W0, W0 = w.alloc (.cells ZA 70) := ⟨_, rfl⟩
  have hb0 : Hid (Below w.heap.size w W0) := Lib.hid (by rw [hW0]; exact (Below.refl _ w).alloc (Nat.le_refl _) _)
  have hres : Hid (W0.heap[w.heap.size]? = some (.cells ZA 70 (0, 0))) := Lib.hid (by rw [hW0]; exact heap_alloc_new w _)
  have HT := Lib.hid hT
  have HW0 := Lib.hid hW0
  clear hW0 hT
  go_enter Tryz.func32, Tryz.ntmps32
  go_wp2_with fail
  rw [← HW0.out]
  refine (hgen.out W0).mono ?_
  rintro r w1 ⟨rfl, hb1⟩
  have B1 := Lib.hid (hb0.out.trans (hb1.mono hb0.out.size))
  have res1 := Lib.hid ((hb1.block _ (Array.getElem?_eq_some_iff.1 hres.out).1).trans hres.out)
  clear hb1
  go_wp2_with fail
  refine (hid.out w1 (HT.out.old B1.out)).mono ?_
  rintro r w2 ⟨rfl, hb2⟩
  have res2 := (hb2.block _ (Array.getElem?_eq_some_iff.1 res1.out).1).trans res1.out
  have B2 := B1.out.trans (hb2.mono B1.out.size)
  have L0 := Lib.hid (setRow_heap w2 w.heap.size ZA Y 70 (0, 0) res2)
  have LB := Lib.hid (B2.trans (((Mod.refl (fun _ => False) w2).setRow (g := w.heap.size) Y).to_below B2.size (by rintro k hk (h | h) <;> first | exact h | omega)))
  clear hb2 B2
  go_wp2_with (refine wpList_store_row rfl rfl 70 (.tmp 0) (.tmp 2) rfl w.heap.size rfl 70 ZA Y rfl res2 q2 q3 q4 ?_)
  exact bodyPost_ret (v := .agg Y) (results_cell_row Tryz.results32 _ _ w.heap.size 70 Y (0, 0) _ rfl L0.out Tryz.underlying70 rfl q3) rfl ⟨rfl, LB.out⟩
end Go.Proofs.YtemnebbdaljfbaaGreatDoor

namespace Go.Proofs.YtemnebbdaljfbaaGreatDoor
open Go.RowKit

theorem exec_load_row {P : Program} {o : Oper} {a : Act} {w : World} (ty : TypeId) (x : Operand) (ho : o.op = .load ty x) (g : Nat) (hx : a.eval x = .pointer (some ⟨g, 0, none⟩)) (t : TypeId) (cs : Array Value) (fr : Nat × Nat) (d : TypeDesc) (hg : w.heap[g]? = some (.cells cs t fr))
    (hu : P.underlying ty = some d) (hd : (match d with | .struct _ | .array _ _ => true | _ => false) = true) (hi : (P.info? ty).map (·.size) = some cs.size) : (execOp a.eval o).run P w = .ok (.value (.agg cs)) w := by
  unfold execOp
  simp only [ho, hx, Instr.loadAt, Instr.sureAddr, Sem.run_bind, Sem.run_pure, Result.andThen_ok, run_loadVar_row w g t ty cs fr d hg hu hd hi]
theorem wpList_exec {P : Program} {ops : Array Oper} {rest : List Oper} {o : Oper} {a : Act} {w w' : World} {Q : Exit → Act → World → Prop} {v : Value} (hgd : o.guard = none) (hr : (execOp a.eval o).run P w = .ok (.value v) w') (h : wpList P ops Q rest (a.put o.dst v) w') : wpList P ops Q (o :: rest) a w := by
  refine wpList_plain hgd fun K hK => ?_
  unfold Oper.wp
  rw [hr]
  exact hK _ _ h
def oneHd : Hd Nm := ⟨1, 0, [116], 1, 2, [⟨rootB, rootB_len⟩], 0⟩
theorem oneHd_ok : HOkay oneHd := ⟨by decide, by decide, by decide, by decide, ⟨Nat.le_refl 2, Nat.le_of_ble_eq_true rfl⟩, by decide, by decide⟩
theorem oneHd_rs : hrs oneHd = true := rfl
theorem ghd_chk : chk ghd (rs (ghd.ps.map (·.1)) (ghd.ps.length - 1)) = 1 := by
  unfold chk ghd; simp
theorem oneHd_chk : chk oneHd (rs (oneHd.ps.map (·.1)) (oneHd.ps.length - 1)) = 0 := (chk_zero _ _).2 ⟨oneHd_ok, oneHd_rs⟩
theorem enc_one (s : Nm) : encN.all [s] = vals s.1 := by simp [Enc.all, encN]

end Go.Proofs.YtemnebbdaljfbaaGreatDoor

namespace Go.Proofs.YtemnebbdaljfbaaGreatDoor
open Go.RowKit

theorem less_cmp : ∀ a b : List UInt8, Op.bytesLess a b = decide (Lib.compareBytes a b < 0)
  | [], [] => rfl
  | [], _ :: _ => rfl
  | _ :: _, [] => rfl
  | a :: x, b :: y => by
    have ih := less_cmp x y
    unfold Op.bytesLess Lib.compareBytes
    by_cases h1 : a < b
    · simp [h1]
    · by_cases h2 : b < a
      · have : ¬ a = b := by rintro rfl; exact absurd h2 h1
        simp [h1, h2, this]
      · have e : a = b := by
          rw [UInt8.lt_iff_toNat_lt] at h1 h2
          exact UInt8.toNat_inj.1 (by omega)
        subst e
        simp [h1, ih]
theorem binOp_geq_str (t : TypeId) (a b : ByteArray) : binOp .geq t (.string a) (.string b) = pure (.bool !(Op.bytesLess a.toList b.toList)) := by simp [binOp, Op.stringOp]

set_option maxRecDepth 20000 in
set_option maxHeartbeats 4000000 in
theorem rise_any (ao : Option Addr) (cap : Nat) (L : List (List UInt8)) (w : World) (hL : Rd encS w ao L) (hn : L.length ≤ 1000000) :
    Calls Tryz.prog 85 #[.slice ao L.length cap] w fun r w' => r = .returned (.bool (rs L (L.length - 1))) ∧ Below w.heap.size w w' := by
  obtain ⟨n, hnL⟩ : ∃ n, n = L.length := ⟨_, rfl⟩
  rw [← hnL] at hn ⊢
  obtain ⟨RR, hR⟩ : ∃ RR, RR = rs L (n - 1) := ⟨_, rfl⟩
  rw [← hR]
  have HR := Lib.hid hR
  have Hn := Lib.hid hnL
  have HL := Lib.hid hL
  have hB0 := Below.refl w.heap.size w
  clear hnL hL hR
  go_enter Tryz.func85, Tryz.ntmps85
  go_wp2_with fail
  go_loopw [6] (fun s6 wr => ∃ k : Nat, k ≤ n ∧ s6 = .int .i64 (k : Int) ∧ Hid (rs L (k - 1) = true) ∧ Below w.heap.size w wr) (fun i _ => n - (intOf i).toNat)
  case atStart => exact ⟨0, by omega, rfl, Lib.hid rfl, hB0⟩
  case round =>
    clear hB0
    obtain ⟨k, hk, rfl, hrs, hB⟩ := hrel
    by_cases hlt : k < n
    · by_cases hk0 : k = 0
      · subst hk0
        have HB := Lib.hid hB
        clear hB
        go_wp2_with fail
        refine wp_region_puts (fun t v w => VK (match t with
          | 9 => .eq (.int .i64 0)
          | 10 => .eq (Value.bool false)
          | 11 => .eq (Value.bool false)
          | 12 => .eq (undef)
          | 13 => .eq (undef)
          | 14 => .eq (undef)
          | 15 => .eq (undef)
          | 16 => .eq (undef)
          | 17 => .eq (undef)
          | 18 => .eq (undef)
          | 19 => .eq (undef)
          | 20 => .eq (undef)
          | 21 => .eq (undef)
          | 22 => .eq (Value.bool false)
          | _ => .any) v w) (fun w' => Below wr.heap.size wr w') 24 (by kernel_rfl) (by decide +kernel) rfl (Below.refl _ _).drew (by
          refine OweAll.cons (owesK rfl rfl fun a w1 ha hG hV => ?_) ?_
          · skip
            have h3 := ha.outer 3 (by decide +kernel)
            simp only [Act.eval] at h3
            exact ⟨.int .i64 0, w1, wanted_free rfl, by simp [execOp, go_sem, h3], Below.refl _ _, rfl⟩
          refine OweAll.cons (owesK rfl rfl fun a w1 ha hG hV => ?_) ?_
          · skip
            have h9 : a.tmps.getD 9 undef = .int .i64 0 := hV.get 9 (by decide +kernel)
            exact ⟨Value.bool false, w1, wanted_free rfl, by simp [execOp, go_sem, h9], Below.refl _ _, rfl⟩
          refine OweAll.cons (owesK rfl rfl fun a w1 ha hG hV => ?_) ?_
          · skip
            have h10 : a.tmps.getD 10 undef = Value.bool false := hV.get 10 (by decide +kernel)
            exact ⟨Value.bool false, w1, wanted_free rfl, by simp [execOp, go_sem, h10], Below.refl _ _, rfl⟩
          refine OweAll.cons (owesK_not rfl rfl fun a w1 ha hG hV => ⟨not_wanted (t := 11) rfl rfl (hV.get 11 (by decide +kernel)) (by simp), rfl⟩) ?_
          refine OweAll.cons (owesK_not rfl rfl fun a w1 ha hG hV => ⟨not_wanted (t := 11) rfl rfl (hV.get 11 (by decide +kernel)) (by simp), rfl⟩) ?_
          refine OweAll.cons (owesK_not rfl rfl fun a w1 ha hG hV => ⟨not_wanted (t := 11) rfl rfl (hV.get 11 (by decide +kernel)) (by simp), rfl⟩) ?_
          refine OweAll.cons (owesK_not rfl rfl fun a w1 ha hG hV => ⟨not_wanted (t := 11) rfl rfl (hV.get 11 (by decide +kernel)) (by simp), rfl⟩) ?_
          refine OweAll.cons (owesK_not rfl rfl fun a w1 ha hG hV => ⟨not_wanted (t := 11) rfl rfl (hV.get 11 (by decide +kernel)) (by simp), rfl⟩) ?_
          refine OweAll.cons (owesK_not rfl rfl fun a w1 ha hG hV => ⟨not_wanted (t := 11) rfl rfl (hV.get 11 (by decide +kernel)) (by simp), rfl⟩) ?_
          refine OweAll.cons (owesK_not rfl rfl fun a w1 ha hG hV => ⟨not_wanted (t := 11) rfl rfl (hV.get 11 (by decide +kernel)) (by simp), rfl⟩) ?_
          refine OweAll.cons (owesK_not rfl rfl fun a w1 ha hG hV => ⟨not_wanted (t := 11) rfl rfl (hV.get 11 (by decide +kernel)) (by simp), rfl⟩) ?_
          refine OweAll.cons (owesK_not rfl rfl fun a w1 ha hG hV => ⟨not_wanted (t := 11) rfl rfl (hV.get 11 (by decide +kernel)) (by simp), rfl⟩) ?_
          refine OweAll.cons (owesK_not rfl rfl fun a w1 ha hG hV => ⟨not_wanted (t := 11) rfl rfl (hV.get 11 (by decide +kernel)) (by simp), rfl⟩) ?_
          refine OweAll.cons (owesK rfl rfl fun a w1 ha hG hV => ?_) ?_
          · skip
            have h11 : a.tmps.getD 11 undef = Value.bool false := hV.get 11 (by decide +kernel)
            exact ⟨Value.bool false, w1, wanted_free rfl, by simp [execOp, go_sem, h11], Below.refl _ _, rfl⟩
          exact OweAll.nil
          ) ?_
        intro f wz hG hv
        have e22 : f 22 = Value.bool false := hv 13 _ 22 rfl rfl
        rename_i hK
        refine hK _ _ ?_
        clear hK hv
        simp only [dsts, puts, List.filterMap_cons, List.filterMap_nil, List.foldl_cons, List.foldl_nil, Act.put, List.setIfInBounds_toArray, List.set_cons_succ, List.set_cons_zero, e22]
        clear e22
        have HG := Lib.hid (HB.out.trans (hG.mono HB.out.size))
        clear hG
        go_wp2_with fail
        go_roundw
        case rel => exact ⟨1, by omega, by go_num, hrs, HG.out⟩
        case measure => simp [intOf]; omega
      · obtain ⟨i, rfl⟩ : ∃ i, k = i + 1 := ⟨k - 1, by omega⟩
        have h1 : i < L.length := by rw [← Hn.out]; omega
        have h2 : i + 1 < L.length := by rw [← Hn.out]; omega
        obtain ⟨bs, off, rfl, hbs, c1⟩ := (HL.out.old hB).str i h1
        obtain ⟨bs', off', e, _, c2⟩ := (HL.out.old hB).str (i + 1) h2
        cases e
        have C1 : Hid (∀ w', Below wr.heap.size wr w' → w'.cell? ⟨bs, off + i, none⟩ = some (.string ⟨L[i].toArray⟩)) := Lib.hid (fun w' hb => (World.cell?_of_block (hb.block bs hbs)).trans c1)
        have C2 : Hid (∀ w', Below wr.heap.size wr w' → w'.cell? ⟨bs, off + (i + 1), none⟩ = some (.string ⟨L[i + 1].toArray⟩)) := Lib.hid (fun w' hb => (World.cell?_of_block (hb.block bs hbs)).trans c2)
        have hsu := rs_succ L i
        have hgx : L.getD i [] = L[i] := by simp [List.getD, h1]
        have hgy : L.getD (i + 1) [] = L[i + 1] := by simp [List.getD, h2]
        rw [hgx, hgy, show rs L i = true from hrs.out, Bool.true_and, ← less_cmp] at hsu
        obtain ⟨x, hx⟩ : ∃ x, x = L[i] := ⟨_, rfl⟩
        obtain ⟨y, hy⟩ : ∃ y, y = L[i + 1] := ⟨_, rfl⟩
        rw [← hx] at C1 hsu
        rw [← hy] at C2 hsu
        obtain ⟨D, hD⟩ : ∃ D, D = Op.bytesLess x y := ⟨_, rfl⟩
        rw [← hD] at hsu
        have HD : Hid (Op.bytesLess x y = D) := Lib.hid hD.symm
        have Hsu := Lib.hid hsu
        have HB := Lib.hid hB
        have i0 : (0 : Int) ≤ i := by omega
        have i1 : (i : Int) < n := by omega
        have i2 : (i : Int) + 1 < n := by omega
        have e1 : IntKind.i64.wrap ((i : Int) + 1 - 1) = (i : Int) := by rw [IntWalk.i64_in _ (by omega)]; omega
        have e0 : IntKind.i64.wrap (i : Int) = (i : Int) := IntWalk.i64_in _ (by omega)
        have e2 : ((i : Int) + 1).toNat = i + 1 := by omega
        have e3 : (0 : Int) ≤ (i : Int) + 1 := by omega
        have e4 : (0 : Int) < (i : Int) + 1 := by omega
        have hrs1 := Lib.hid hk
        clear hx hy hgx hgy hsu c1 c2 hB hrs hD
        go_wp2_with fail
        refine wp_region_puts (fun t v w => VK (match t with
          | 9 => .eq (.int .i64 ((i : Int) + 1))
          | 10 => .eq (Value.bool true)
          | 11 => .eq (Value.bool true)
          | 12 => .eq (.slice (some ⟨bs, off, none⟩) n cap)
          | 13 => .eq (.int .i64 ((i : Int) + 1))
          | 14 => .eq (.int .i64 (i : Int))
          | 15 => .eq (.pointer (some ⟨bs, off + i, none⟩))
          | 16 => .eq (.string ⟨x.toArray⟩)
          | 17 => .eq (.slice (some ⟨bs, off, none⟩) n cap)
          | 18 => .eq (.int .i64 ((i : Int) + 1))
          | 19 => .eq (.pointer (some ⟨bs, off + (i + 1), none⟩))
          | 20 => .eq (.string ⟨y.toArray⟩)
          | 21 => .eq (.bool (!D))
          | 22 => .eq (.bool (!D))
          | _ => .any) v w) (fun w' => Below wr.heap.size wr w') 24 (by kernel_rfl) (by decide +kernel) rfl (Below.refl _ _).drew (by
          refine OweAll.cons (owesK rfl rfl fun a w1 ha hG hV => ?_) ?_
          · skip
            have h3 := ha.outer 3 (by decide +kernel)
            simp only [Act.eval] at h3
            exact ⟨.int .i64 ((i : Int) + 1), w1, wanted_free rfl, by simp [execOp, go_sem, h3], Below.refl _ _, rfl⟩
          refine OweAll.cons (owesK rfl rfl fun a w1 ha hG hV => ?_) ?_
          · skip
            have h9 : a.tmps.getD 9 undef = .int .i64 ((i : Int) + 1) := hV.get 9 (by decide +kernel)
            exact ⟨Value.bool true, w1, wanted_free rfl, by simp [execOp, go_sem, h9, e4], Below.refl _ _, rfl⟩
          refine OweAll.cons (owesK rfl rfl fun a w1 ha hG hV => ?_) ?_
          · skip
            have h10 : a.tmps.getD 10 undef = Value.bool true := hV.get 10 (by decide +kernel)
            exact ⟨Value.bool true, w1, wanted_free rfl, by simp [execOp, go_sem, h10], Below.refl _ _, rfl⟩
          refine OweAll.cons (owesK rfl rfl fun a w1 ha hG hV => ?_) ?_
          · skip
            have h0 := ha.outer 0 (by decide +kernel)
            simp only [Act.eval] at h0
            exact ⟨.slice (some ⟨bs, off, none⟩) n cap, w1, (wanted_of (t := 11) rfl rfl (hV.get 11 (by decide +kernel))), by simp [execOp, go_sem, h0], Below.refl _ _, rfl⟩
          refine OweAll.cons (owesK rfl rfl fun a w1 ha hG hV => ?_) ?_
          · skip
            have h3 := ha.outer 3 (by decide +kernel)
            simp only [Act.eval] at h3
            exact ⟨.int .i64 ((i : Int) + 1), w1, (wanted_of (t := 11) rfl rfl (hV.get 11 (by decide +kernel))), by simp [execOp, go_sem, h3], Below.refl _ _, rfl⟩
          refine OweAll.cons (owesK rfl rfl fun a w1 ha hG hV => ?_) ?_
          · skip
            have h13 : a.tmps.getD 13 undef = .int .i64 ((i : Int) + 1) := hV.get 13 (by decide +kernel)
            exact ⟨.int .i64 (i : Int), w1, (wanted_of (t := 11) rfl rfl (hV.get 11 (by decide +kernel))), by simp [execOp, go_sem, h13, e0], Below.refl _ _, rfl⟩
          refine OweAll.cons (owesK rfl rfl fun a w1 ha hG hV => ?_) ?_
          · skip
            have h12 : a.tmps.getD 12 undef = .slice (some ⟨bs, off, none⟩) n cap := hV.get 12 (by decide +kernel)
            have h14 : a.tmps.getD 14 undef = .int .i64 (i : Int) := hV.get 14 (by decide +kernel)
            exact ⟨.pointer (some ⟨bs, off + i, none⟩), w1, (wanted_of (t := 11) rfl rfl (hV.get 11 (by decide +kernel))), by simp [execOp, go_sem, h12, h14, i0, i1], Below.refl _ _, rfl⟩
          refine OweAll.cons (owesK rfl rfl fun a w1 ha hG hV => ?_) ?_
          · skip
            have h15 : a.tmps.getD 15 undef = .pointer (some ⟨bs, off + i, none⟩) := hV.get 15 (by decide +kernel)
            have cc := C1.out w1 hG
            exact ⟨.string ⟨x.toArray⟩, w1, (wanted_of (t := 11) rfl rfl (hV.get 11 (by decide +kernel))), by simp [execOp, go_sem, h15, cc], Below.refl _ _, rfl⟩
          refine OweAll.cons (owesK rfl rfl fun a w1 ha hG hV => ?_) ?_
          · skip
            have h0 := ha.outer 0 (by decide +kernel)
            simp only [Act.eval] at h0
            exact ⟨.slice (some ⟨bs, off, none⟩) n cap, w1, (wanted_of (t := 11) rfl rfl (hV.get 11 (by decide +kernel))), by simp [execOp, go_sem, h0], Below.refl _ _, rfl⟩
          refine OweAll.cons (owesK rfl rfl fun a w1 ha hG hV => ?_) ?_
          · skip
            have h3 := ha.outer 3 (by decide +kernel)
            simp only [Act.eval] at h3
            exact ⟨.int .i64 ((i : Int) + 1), w1, (wanted_of (t := 11) rfl rfl (hV.get 11 (by decide +kernel))), by simp [execOp, go_sem, h3], Below.refl _ _, rfl⟩
          refine OweAll.cons (owesK rfl rfl fun a w1 ha hG hV => ?_) ?_
          · skip
            have h17 : a.tmps.getD 17 undef = .slice (some ⟨bs, off, none⟩) n cap := hV.get 17 (by decide +kernel)
            have h18 : a.tmps.getD 18 undef = .int .i64 ((i : Int) + 1) := hV.get 18 (by decide +kernel)
            exact ⟨.pointer (some ⟨bs, off + (i + 1), none⟩), w1, (wanted_of (t := 11) rfl rfl (hV.get 11 (by decide +kernel))), by simp [execOp, go_sem, h17, h18, e2, e3, i2], Below.refl _ _, rfl⟩
          refine OweAll.cons (owesK rfl rfl fun a w1 ha hG hV => ?_) ?_
          · skip
            have h19 : a.tmps.getD 19 undef = .pointer (some ⟨bs, off + (i + 1), none⟩) := hV.get 19 (by decide +kernel)
            have cc := C2.out w1 hG
            exact ⟨.string ⟨y.toArray⟩, w1, (wanted_of (t := 11) rfl rfl (hV.get 11 (by decide +kernel))), by simp [execOp, go_sem, h19, cc], Below.refl _ _, rfl⟩
          refine OweAll.cons (owesK rfl rfl fun a w1 ha hG hV => ?_) ?_
          · skip
            have h16 : a.tmps.getD 16 undef = .string ⟨x.toArray⟩ := hV.get 16 (by decide +kernel)
            have h20 : a.tmps.getD 20 undef = .string ⟨y.toArray⟩ := hV.get 20 (by decide +kernel)
            exact ⟨.bool (!D), w1, (wanted_of (t := 11) rfl rfl (hV.get 11 (by decide +kernel))), by simp [execOp, go_sem, h16, h20, HD.out], Below.refl _ _, rfl⟩
          refine OweAll.cons (owesK rfl rfl fun a w1 ha hG hV => ?_) ?_
          · skip
            have h11 : a.tmps.getD 11 undef = Value.bool true := hV.get 11 (by decide +kernel)
            have h21 : a.tmps.getD 21 undef = .bool (!D) := hV.get 21 (by decide +kernel)
            exact ⟨.bool (!D), w1, wanted_free rfl, by simp [execOp, go_sem, h11, h21], Below.refl _ _, rfl⟩
          exact OweAll.nil
          ) ?_
        intro f wz hG hv
        have e22 : f 22 = .bool (!D) := hv 13 _ 22 rfl rfl
        rename_i hK
        refine hK _ _ ?_
        clear hK hv
        simp only [dsts, puts, List.filterMap_cons, List.filterMap_nil, List.foldl_cons, List.foldl_nil, Act.put, List.setIfInBounds_toArray, List.set_cons_succ, List.set_cons_zero, e22]
        clear e22
        have HG := Lib.hid (HB.out.trans (hG.mono HB.out.size))
        clear hG
        cases D with
        | true =>
          go_wp2_with fail
          go_roundw
          case rel => exact ⟨i + 2, by omega, by go_num, Hsu, HG.out⟩
          case measure => simp [intOf]; omega
        | false =>
          have hfin : Hid (RR = false) := Lib.hid (HR.out.trans (rs_stop Hsu.out (by omega)))
          go_wp2_with fail
          go_ret
          exact ⟨by rw [hfin.out]; rfl, HG.out⟩
    · have hfin : Hid (RR = true) := Lib.hid (by rw [HR.out]; have h := hrs.out; have e : k = n := (by omega); rw [← e]; exact h)
      go_wp2_with fail
      go_ret
      exact ⟨by rw [hfin.out]; rfl, hB⟩
end Go.Proofs.YtemnebbdaljfbaaGreatDoor

namespace Go.Proofs.YtemnebbdaljfbaaGreatDoor
open Go.RowKit

set_option maxRecDepth 20000 in
set_option maxHeartbeats 2000000 in
theorem rchk_big (h : Hd (List UInt8)) (ao : Option Addr) (cap : Nat) (w : World) (hL : Rd encS w ao h.ps) (l n : Nat) (hl : l = h.tk.length) (hn : n = h.ps.length) (R : Bool) (hR : R = rs h.ps (n - 1)) (g0 : 5 < n) :
    Calls Tryz.prog 44 #[.agg (hcells h ao cap)] w fun r w' => r = .returned (.int .i64 4) ∧ Below w.heap.size w w' := by
  obtain ⟨ht, mi, tk, wi, pw, ps, sa⟩ := h
  simp only at *
  unfold hcells
  simp only
  rw [← hn]
  have hsz : (ByteArray.mk tk.toArray).size = l := hl.symm
  have Hris : Hid (∀ w', Below w.heap.size w w' → n ≤ 1000000 → Calls Tryz.prog 85 #[.slice ao n cap] w' fun r w'' => r = .returned (.bool R) ∧ Below w'.heap.size w' w'') := Lib.hid (fun w' hb h6 => by
    have := rise_any ao cap ps w' (hL.old hb) (by omega)
    rw [← hn, ← hR] at this; exact this)
  clear hl hL hn hR
  have f5 : 5 < (n : Int) := by omega
  have hb0 : Below w.heap.size w (w.alloc (.cells #[.int .i64 ht, .int .i64 mi, .string ⟨tk.toArray⟩, .int .i64 wi, .int .u64 (pw : Int), .slice ao n cap, .int .i64 sa] 29)) := (Below.refl _ w).alloc (Nat.le_refl _) _
  clear g0
  go_enter Tryz.func44, Tryz.ntmps44
  go_wp2_with fail
  go_ret
  exact ⟨rfl, hb0⟩
set_option maxRecDepth 20000 in
set_option maxHeartbeats 2000000 in
theorem rchk_ht1 (h : Hd (List UInt8)) (ao : Option Addr) (cap : Nat) (w : World) (hL : Rd encS w ao h.ps) (l n : Nat) (hl : l = h.tk.length) (hn : n = h.ps.length) (R : Bool) (hR : R = rs h.ps (n - 1)) (g0 : ¬ 5 < n) (g1 : h.ht < 1) :
    Calls Tryz.prog 44 #[.agg (hcells h ao cap)] w fun r w' => r = .returned (.int .i64 1) ∧ Below w.heap.size w w' := by
  obtain ⟨ht, mi, tk, wi, pw, ps, sa⟩ := h
  simp only at *
  unfold hcells
  simp only
  rw [← hn]
  have hsz : (ByteArray.mk tk.toArray).size = l := hl.symm
  have Hris : Hid (∀ w', Below w.heap.size w w' → n ≤ 1000000 → Calls Tryz.prog 85 #[.slice ao n cap] w' fun r w'' => r = .returned (.bool R) ∧ Below w'.heap.size w' w'') := Lib.hid (fun w' hb h6 => by
    have := rise_any ao cap ps w' (hL.old hb) (by omega)
    rw [← hn, ← hR] at this; exact this)
  clear hl hL hn hR
  have f5 : (n : Int) ≤ 5 := by omega
  have f5' : n ≤ 5 := by omega
  have e1 : ht < 1 := by omega
  have hb0 : Below w.heap.size w (w.alloc (.cells #[.int .i64 ht, .int .i64 mi, .string ⟨tk.toArray⟩, .int .i64 wi, .int .u64 (pw : Int), .slice ao n cap, .int .i64 sa] 29)) := (Below.refl _ w).alloc (Nat.le_refl _) _
  clear g0 g1
  go_enter Tryz.func44, Tryz.ntmps44
  go_wp2_with fail
  go_ret
  exact ⟨rfl, hb0⟩
set_option maxRecDepth 20000 in
set_option maxHeartbeats 2000000 in
theorem rchk_ht2 (h : Hd (List UInt8)) (ao : Option Addr) (cap : Nat) (w : World) (hL : Rd encS w ao h.ps) (l n : Nat) (hl : l = h.tk.length) (hn : n = h.ps.length) (R : Bool) (hR : R = rs h.ps (n - 1)) (g0 : ¬ 5 < n) (g1 : ¬ h.ht < 1) (g2 : 1073741824 < h.ht) :
    Calls Tryz.prog 44 #[.agg (hcells h ao cap)] w fun r w' => r = .returned (.int .i64 1) ∧ Below w.heap.size w w' := by
  obtain ⟨ht, mi, tk, wi, pw, ps, sa⟩ := h
  simp only at *
  unfold hcells
  simp only
  rw [← hn]
  have hsz : (ByteArray.mk tk.toArray).size = l := hl.symm
  have Hris : Hid (∀ w', Below w.heap.size w w' → n ≤ 1000000 → Calls Tryz.prog 85 #[.slice ao n cap] w' fun r w'' => r = .returned (.bool R) ∧ Below w'.heap.size w' w'') := Lib.hid (fun w' hb h6 => by
    have := rise_any ao cap ps w' (hL.old hb) (by omega)
    rw [← hn, ← hR] at this; exact this)
  clear hl hL hn hR
  have f5 : (n : Int) ≤ 5 := by omega
  have f5' : n ≤ 5 := by omega
  have fht1 : 1 ≤ ht := by omega
  have e1 : 1073741824 < ht := by omega
  have hb0 : Below w.heap.size w (w.alloc (.cells #[.int .i64 ht, .int .i64 mi, .string ⟨tk.toArray⟩, .int .i64 wi, .int .u64 (pw : Int), .slice ao n cap, .int .i64 sa] 29)) := (Below.refl _ w).alloc (Nat.le_refl _) _
  clear g0 g1 g2
  go_enter Tryz.func44, Tryz.ntmps44
  go_wp2_with fail
  go_ret
  exact ⟨rfl, hb0⟩
set_option maxRecDepth 20000 in
set_option maxHeartbeats 2000000 in
theorem rchk_mi1 (h : Hd (List UInt8)) (ao : Option Addr) (cap : Nat) (w : World) (hL : Rd encS w ao h.ps) (l n : Nat) (hl : l = h.tk.length) (hn : n = h.ps.length) (R : Bool) (hR : R = rs h.ps (n - 1)) (g0 : ¬ 5 < n) (g1 : ¬ h.ht < 1) (g2 : ¬ 1073741824 < h.ht) (g3 : h.mi < 0) :
    Calls Tryz.prog 44 #[.agg (hcells h ao cap)] w fun r w' => r = .returned (.int .i64 1) ∧ Below w.heap.size w w' := by
  obtain ⟨ht, mi, tk, wi, pw, ps, sa⟩ := h
  simp only at *
  unfold hcells
  simp only
  rw [← hn]
  have hsz : (ByteArray.mk tk.toArray).size = l := hl.symm
  have Hris : Hid (∀ w', Below w.heap.size w w' → n ≤ 1000000 → Calls Tryz.prog 85 #[.slice ao n cap] w' fun r w'' => r = .returned (.bool R) ∧ Below w'.heap.size w' w'') := Lib.hid (fun w' hb h6 => by
    have := rise_any ao cap ps w' (hL.old hb) (by omega)
    rw [← hn, ← hR] at this; exact this)
  clear hl hL hn hR
  have f5 : (n : Int) ≤ 5 := by omega
  have f5' : n ≤ 5 := by omega
  have fht1 : 1 ≤ ht := by omega
  have fht2 : ht ≤ 1073741824 := by omega
  have e1 : mi < 0 := by omega
  have hb0 : Below w.heap.size w (w.alloc (.cells #[.int .i64 ht, .int .i64 mi, .string ⟨tk.toArray⟩, .int .i64 wi, .int .u64 (pw : Int), .slice ao n cap, .int .i64 sa] 29)) := (Below.refl _ w).alloc (Nat.le_refl _) _
  clear g0 g1 g2 g3
  go_enter Tryz.func44, Tryz.ntmps44
  go_wp2_with fail
  go_ret
  exact ⟨rfl, hb0⟩
set_option maxRecDepth 20000 in
set_option maxHeartbeats 2000000 in
theorem rchk_mi2 (h : Hd (List UInt8)) (ao : Option Addr) (cap : Nat) (w : World) (hL : Rd encS w ao h.ps) (l n : Nat) (hl : l = h.tk.length) (hn : n = h.ps.length) (R : Bool) (hR : R = rs h.ps (n - 1)) (g0 : ¬ 5 < n) (g1 : ¬ h.ht < 1) (g2 : ¬ 1073741824 < h.ht) (g3 : ¬ h.mi < 0) (g4 : 64 ≤ h.mi) :
    Calls Tryz.prog 44 #[.agg (hcells h ao cap)] w fun r w' => r = .returned (.int .i64 1) ∧ Below w.heap.size w w' := by
  obtain ⟨ht, mi, tk, wi, pw, ps, sa⟩ := h
  simp only at *
  unfold hcells
  simp only
  rw [← hn]
  have hsz : (ByteArray.mk tk.toArray).size = l := hl.symm
  have Hris : Hid (∀ w', Below w.heap.size w w' → n ≤ 1000000 → Calls Tryz.prog 85 #[.slice ao n cap] w' fun r w'' => r = .returned (.bool R) ∧ Below w'.heap.size w' w'') := Lib.hid (fun w' hb h6 => by
    have := rise_any ao cap ps w' (hL.old hb) (by omega)
    rw [← hn, ← hR] at this; exact this)
  clear hl hL hn hR
  have f5 : (n : Int) ≤ 5 := by omega
  have f5' : n ≤ 5 := by omega
  have fht1 : 1 ≤ ht := by omega
  have fht2 : ht ≤ 1073741824 := by omega
  have fmi1 : 0 ≤ mi := by omega
  have e1 : 63 < mi := by omega
  have hb0 : Below w.heap.size w (w.alloc (.cells #[.int .i64 ht, .int .i64 mi, .string ⟨tk.toArray⟩, .int .i64 wi, .int .u64 (pw : Int), .slice ao n cap, .int .i64 sa] 29)) := (Below.refl _ w).alloc (Nat.le_refl _) _
  clear g0 g1 g2 g3 g4
  go_enter Tryz.func44, Tryz.ntmps44
  go_wp2_with fail
  go_ret
  exact ⟨rfl, hb0⟩
set_option maxRecDepth 20000 in
set_option maxHeartbeats 2000000 in
theorem rchk_tk1 (h : Hd (List UInt8)) (ao : Option Addr) (cap : Nat) (w : World) (hL : Rd encS w ao h.ps) (l n : Nat) (hl : l = h.tk.length) (hn : n = h.ps.length) (R : Bool) (hR : R = rs h.ps (n - 1)) (g0 : ¬ 5 < n) (g1 : ¬ h.ht < 1) (g2 : ¬ 1073741824 < h.ht) (g3 : ¬ h.mi < 0) (g4 : ¬ 64 ≤ h.mi) (g5 : l < 1) :
    Calls Tryz.prog 44 #[.agg (hcells h ao cap)] w fun r w' => r = .returned (.int .i64 1) ∧ Below w.heap.size w w' := by
  obtain ⟨ht, mi, tk, wi, pw, ps, sa⟩ := h
  simp only at *
  unfold hcells
  simp only
  rw [← hn]
  have hsz : (ByteArray.mk tk.toArray).size = l := hl.symm
  have Hris : Hid (∀ w', Below w.heap.size w w' → n ≤ 1000000 → Calls Tryz.prog 85 #[.slice ao n cap] w' fun r w'' => r = .returned (.bool R) ∧ Below w'.heap.size w' w'') := Lib.hid (fun w' hb h6 => by
    have := rise_any ao cap ps w' (hL.old hb) (by omega)
    rw [← hn, ← hR] at this; exact this)
  clear hl hL hn hR
  have f5 : (n : Int) ≤ 5 := by omega
  have f5' : n ≤ 5 := by omega
  have fht1 : 1 ≤ ht := by omega
  have fht2 : ht ≤ 1073741824 := by omega
  have fmi1 : 0 ≤ mi := by omega
  have fmi2 : mi ≤ 63 := by omega
  have e1 : (l : Int) < 1 := by omega
  have e2 : l = 0 := by omega
  have hb0 : Below w.heap.size w (w.alloc (.cells #[.int .i64 ht, .int .i64 mi, .string ⟨tk.toArray⟩, .int .i64 wi, .int .u64 (pw : Int), .slice ao n cap, .int .i64 sa] 29)) := (Below.refl _ w).alloc (Nat.le_refl _) _
  clear g0 g1 g2 g3 g4 g5
  go_enter Tryz.func44, Tryz.ntmps44
  go_wp2_with fail
  go_ret
  exact ⟨rfl, hb0⟩
set_option maxRecDepth 20000 in
set_option maxHeartbeats 2000000 in
theorem rchk_tk2 (h : Hd (List UInt8)) (ao : Option Addr) (cap : Nat) (w : World) (hL : Rd encS w ao h.ps) (l n : Nat) (hl : l = h.tk.length) (hn : n = h.ps.length) (R : Bool) (hR : R = rs h.ps (n - 1)) (g0 : ¬ 5 < n) (g1 : ¬ h.ht < 1) (g2 : ¬ 1073741824 < h.ht) (g3 : ¬ h.mi < 0) (g4 : ¬ 64 ≤ h.mi) (g5 : ¬ l < 1) (g6 : 8 < l) :
    Calls Tryz.prog 44 #[.agg (hcells h ao cap)] w fun r w' => r = .returned (.int .i64 1) ∧ Below w.heap.size w w' := by
  obtain ⟨ht, mi, tk, wi, pw, ps, sa⟩ := h
  simp only at *
  unfold hcells
  simp only
  rw [← hn]
  have hsz : (ByteArray.mk tk.toArray).size = l := hl.symm
  have Hris : Hid (∀ w', Below w.heap.size w w' → n ≤ 1000000 → Calls Tryz.prog 85 #[.slice ao n cap] w' fun r w'' => r = .returned (.bool R) ∧ Below w'.heap.size w' w'') := Lib.hid (fun w' hb h6 => by
    have := rise_any ao cap ps w' (hL.old hb) (by omega)
    rw [← hn, ← hR] at this; exact this)
  clear hl hL hn hR
  have f5 : (n : Int) ≤ 5 := by omega
  have f5' : n ≤ 5 := by omega
  have fht1 : 1 ≤ ht := by omega
  have fht2 : ht ≤ 1073741824 := by omega
  have fmi1 : 0 ≤ mi := by omega
  have fmi2 : mi ≤ 63 := by omega
  have ftk1 : 1 ≤ (l : Int) := by omega
  have ftk3 : 0 < l := by omega
  have ftk4 : l ≠ 0 := by omega
  have e1 : 8 < (l : Int) := by omega
  have e2 : 8 < l := by omega
  have hb0 : Below w.heap.size w (w.alloc (.cells #[.int .i64 ht, .int .i64 mi, .string ⟨tk.toArray⟩, .int .i64 wi, .int .u64 (pw : Int), .slice ao n cap, .int .i64 sa] 29)) := (Below.refl _ w).alloc (Nat.le_refl _) _
  clear g0 g1 g2 g3 g4 g5 g6
  go_enter Tryz.func44, Tryz.ntmps44
  go_wp2_with fail
  go_ret
  exact ⟨rfl, hb0⟩
set_option maxRecDepth 20000 in
set_option maxHeartbeats 2000000 in
theorem rchk_wi1 (h : Hd (List UInt8)) (ao : Option Addr) (cap : Nat) (w : World) (hL : Rd encS w ao h.ps) (l n : Nat) (hl : l = h.tk.length) (hn : n = h.ps.length) (R : Bool) (hR : R = rs h.ps (n - 1)) (g0 : ¬ 5 < n) (g1 : ¬ h.ht < 1) (g2 : ¬ 1073741824 < h.ht) (g3 : ¬ h.mi < 0) (g4 : ¬ 64 ≤ h.mi) (g5 : ¬ l < 1) (g6 : ¬ 8 < l) (g7 : h.wi < 1) :
    Calls Tryz.prog 44 #[.agg (hcells h ao cap)] w fun r w' => r = .returned (.int .i64 1) ∧ Below w.heap.size w w' := by
  obtain ⟨ht, mi, tk, wi, pw, ps, sa⟩ := h
  simp only at *
  unfold hcells
  simp only
  rw [← hn]
  have hsz : (ByteArray.mk tk.toArray).size = l := hl.symm
  have Hris : Hid (∀ w', Below w.heap.size w w' → n ≤ 1000000 → Calls Tryz.prog 85 #[.slice ao n cap] w' fun r w'' => r = .returned (.bool R) ∧ Below w'.heap.size w' w'') := Lib.hid (fun w' hb h6 => by
    have := rise_any ao cap ps w' (hL.old hb) (by omega)
    rw [← hn, ← hR] at this; exact this)
  clear hl hL hn hR
  have f5 : (n : Int) ≤ 5 := by omega
  have f5' : n ≤ 5 := by omega
  have fht1 : 1 ≤ ht := by omega
  have fht2 : ht ≤ 1073741824 := by omega
  have fmi1 : 0 ≤ mi := by omega
  have fmi2 : mi ≤ 63 := by omega
  have ftk1 : 1 ≤ (l : Int) := by omega
  have ftk3 : 0 < l := by omega
  have ftk4 : l ≠ 0 := by omega
  have ftk2 : (l : Int) ≤ 8 := by omega
  have ftk5 : l ≤ 8 := by omega
  have e1 : wi < 1 := by omega
  have hb0 : Below w.heap.size w (w.alloc (.cells #[.int .i64 ht, .int .i64 mi, .string ⟨tk.toArray⟩, .int .i64 wi, .int .u64 (pw : Int), .slice ao n cap, .int .i64 sa] 29)) := (Below.refl _ w).alloc (Nat.le_refl _) _
  clear g0 g1 g2 g3 g4 g5 g6 g7
  go_enter Tryz.func44, Tryz.ntmps44
  go_wp2_with fail
  go_ret
  exact ⟨rfl, hb0⟩
set_option maxRecDepth 20000 in
set_option maxHeartbeats 2000000 in
theorem rchk_wi2 (h : Hd (List UInt8)) (ao : Option Addr) (cap : Nat) (w : World) (hL : Rd encS w ao h.ps) (l n : Nat) (hl : l = h.tk.length) (hn : n = h.ps.length) (R : Bool) (hR : R = rs h.ps (n - 1)) (g0 : ¬ 5 < n) (g1 : ¬ h.ht < 1) (g2 : ¬ 1073741824 < h.ht) (g3 : ¬ h.mi < 0) (g4 : ¬ 64 ≤ h.mi) (g5 : ¬ l < 1) (g6 : ¬ 8 < l) (g7 : ¬ h.wi < 1) (g8 : 15 < h.wi) :
    Calls Tryz.prog 44 #[.agg (hcells h ao cap)] w fun r w' => r = .returned (.int .i64 1) ∧ Below w.heap.size w w' := by
  obtain ⟨ht, mi, tk, wi, pw, ps, sa⟩ := h
  simp only at *
  unfold hcells
  simp only
  rw [← hn]
  have hsz : (ByteArray.mk tk.toArray).size = l := hl.symm
  have Hris : Hid (∀ w', Below w.heap.size w w' → n ≤ 1000000 → Calls Tryz.prog 85 #[.slice ao n cap] w' fun r w'' => r = .returned (.bool R) ∧ Below w'.heap.size w' w'') := Lib.hid (fun w' hb h6 => by
    have := rise_any ao cap ps w' (hL.old hb) (by omega)
    rw [← hn, ← hR] at this; exact this)
  clear hl hL hn hR
  have f5 : (n : Int) ≤ 5 := by omega
  have f5' : n ≤ 5 := by omega
  have fht1 : 1 ≤ ht := by omega
  have fht2 : ht ≤ 1073741824 := by omega
  have fmi1 : 0 ≤ mi := by omega
  have fmi2 : mi ≤ 63 := by omega
  have ftk1 : 1 ≤ (l : Int) := by omega
  have ftk3 : 0 < l := by omega
  have ftk4 : l ≠ 0 := by omega
  have ftk2 : (l : Int) ≤ 8 := by omega
  have ftk5 : l ≤ 8 := by omega
  have fwi1 : 1 ≤ wi := by omega
  have e1 : 15 < wi := by omega
  have hb0 : Below w.heap.size w (w.alloc (.cells #[.int .i64 ht, .int .i64 mi, .string ⟨tk.toArray⟩, .int .i64 wi, .int .u64 (pw : Int), .slice ao n cap, .int .i64 sa] 29)) := (Below.refl _ w).alloc (Nat.le_refl _) _
  clear g0 g1 g2 g3 g4 g5 g6 g7 g8
  go_enter Tryz.func44, Tryz.ntmps44
  go_wp2_with fail
  go_ret
  exact ⟨rfl, hb0⟩
set_option maxRecDepth 20000 in
set_option maxHeartbeats 2000000 in
theorem rchk_sa1 (h : Hd (List UInt8)) (ao : Option Addr) (cap : Nat) (w : World) (hL : Rd encS w ao h.ps) (l n : Nat) (hl : l = h.tk.length) (hn : n = h.ps.length) (R : Bool) (hR : R = rs h.ps (n - 1)) (g0 : ¬ 5 < n) (g1 : ¬ h.ht < 1) (g2 : ¬ 1073741824 < h.ht) (g3 : ¬ h.mi < 0) (g4 : ¬ 64 ≤ h.mi) (g5 : ¬ l < 1) (g6 : ¬ 8 < l) (g7 : ¬ h.wi < 1) (g8 : ¬ 15 < h.wi) (g9 : h.sa < 0) :
    Calls Tryz.prog 44 #[.agg (hcells h ao cap)] w fun r w' => r = .returned (.int .i64 1) ∧ Below w.heap.size w w' := by
  obtain ⟨ht, mi, tk, wi, pw, ps, sa⟩ := h
  simp only at *
  unfold hcells
  simp only
  rw [← hn]
  have hsz : (ByteArray.mk tk.toArray).size = l := hl.symm
  have Hris : Hid (∀ w', Below w.heap.size w w' → n ≤ 1000000 → Calls Tryz.prog 85 #[.slice ao n cap] w' fun r w'' => r = .returned (.bool R) ∧ Below w'.heap.size w' w'') := Lib.hid (fun w' hb h6 => by
    have := rise_any ao cap ps w' (hL.old hb) (by omega)
    rw [← hn, ← hR] at this; exact this)
  clear hl hL hn hR
  have f5 : (n : Int) ≤ 5 := by omega
  have f5' : n ≤ 5 := by omega
  have fht1 : 1 ≤ ht := by omega
  have fht2 : ht ≤ 1073741824 := by omega
  have fmi1 : 0 ≤ mi := by omega
  have fmi2 : mi ≤ 63 := by omega
  have ftk1 : 1 ≤ (l : Int) := by omega
  have ftk3 : 0 < l := by omega
  have ftk4 : l ≠ 0 := by omega
  have ftk2 : (l : Int) ≤ 8 := by omega
  have ftk5 : l ≤ 8 := by omega
  have fwi1 : 1 ≤ wi := by omega
  have fwi2 : wi ≤ 15 := by omega
  have e1 : sa < 0 := by omega
  have hb0 : Below w.heap.size w (w.alloc (.cells #[.int .i64 ht, .int .i64 mi, .string ⟨tk.toArray⟩, .int .i64 wi, .int .u64 (pw : Int), .slice ao n cap, .int .i64 sa] 29)) := (Below.refl _ w).alloc (Nat.le_refl _) _
  clear g0 g1 g2 g3 g4 g5 g6 g7 g8 g9
  go_enter Tryz.func44, Tryz.ntmps44
  go_wp2_with fail
  go_ret
  exact ⟨rfl, hb0⟩
set_option maxRecDepth 20000 in
set_option maxHeartbeats 2000000 in
theorem rchk_sa2 (h : Hd (List UInt8)) (ao : Option Addr) (cap : Nat) (w : World) (hL : Rd encS w ao h.ps) (l n : Nat) (hl : l = h.tk.length) (hn : n = h.ps.length) (R : Bool) (hR : R = rs h.ps (n - 1)) (g0 : ¬ 5 < n) (g1 : ¬ h.ht < 1) (g2 : ¬ 1073741824 < h.ht) (g3 : ¬ h.mi < 0) (g4 : ¬ 64 ≤ h.mi) (g5 : ¬ l < 1) (g6 : ¬ 8 < l) (g7 : ¬ h.wi < 1) (g8 : ¬ 15 < h.wi) (g9 : ¬ h.sa < 0) (g10 : 1073741824 < h.sa) :
    Calls Tryz.prog 44 #[.agg (hcells h ao cap)] w fun r w' => r = .returned (.int .i64 1) ∧ Below w.heap.size w w' := by
  obtain ⟨ht, mi, tk, wi, pw, ps, sa⟩ := h
  simp only at *
  unfold hcells
  simp only
  rw [← hn]
  have hsz : (ByteArray.mk tk.toArray).size = l := hl.symm
  have Hris : Hid (∀ w', Below w.heap.size w w' → n ≤ 1000000 → Calls Tryz.prog 85 #[.slice ao n cap] w' fun r w'' => r = .returned (.bool R) ∧ Below w'.heap.size w' w'') := Lib.hid (fun w' hb h6 => by
    have := rise_any ao cap ps w' (hL.old hb) (by omega)
    rw [← hn, ← hR] at this; exact this)
  clear hl hL hn hR
  have f5 : (n : Int) ≤ 5 := by omega
  have f5' : n ≤ 5 := by omega
  have fht1 : 1 ≤ ht := by omega
  have fht2 : ht ≤ 1073741824 := by omega
  have fmi1 : 0 ≤ mi := by omega
  have fmi2 : mi ≤ 63 := by omega
  have ftk1 : 1 ≤ (l : Int) := by omega
  have ftk3 : 0 < l := by omega
  have ftk4 : l ≠ 0 := by omega
  have ftk2 : (l : Int) ≤ 8 := by omega
  have ftk5 : l ≤ 8 := by omega
  have fwi1 : 1 ≤ wi := by omega
  have fwi2 : wi ≤ 15 := by omega
  have fsa1 : 0 ≤ sa := by omega
  have e1 : 1073741824 < sa := by omega
  have hb0 : Below w.heap.size w (w.alloc (.cells #[.int .i64 ht, .int .i64 mi, .string ⟨tk.toArray⟩, .int .i64 wi, .int .u64 (pw : Int), .slice ao n cap, .int .i64 sa] 29)) := (Below.refl _ w).alloc (Nat.le_refl _) _
  clear g0 g1 g2 g3 g4 g5 g6 g7 g8 g9 g10
  go_enter Tryz.func44, Tryz.ntmps44
  go_wp2_with fail
  go_ret
  exact ⟨rfl, hb0⟩
set_option maxRecDepth 20000 in
set_option maxHeartbeats 2000000 in
theorem rchk_pw1 (h : Hd (List UInt8)) (ao : Option Addr) (cap : Nat) (w : World) (hL : Rd encS w ao h.ps) (l n : Nat) (hl : l = h.tk.length) (hn : n = h.ps.length) (R : Bool) (hR : R = rs h.ps (n - 1)) (g0 : ¬ 5 < n) (g1 : ¬ h.ht < 1) (g2 : ¬ 1073741824 < h.ht) (g3 : ¬ h.mi < 0) (g4 : ¬ 64 ≤ h.mi) (g5 : ¬ l < 1) (g6 : ¬ 8 < l) (g7 : ¬ h.wi < 1) (g8 : ¬ 15 < h.wi) (g9 : ¬ h.sa < 0) (g10 : ¬ 1073741824 < h.sa) (g11 : h.pw < 2) :
    Calls Tryz.prog 44 #[.agg (hcells h ao cap)] w fun r w' => r = .returned (.int .i64 1) ∧ Below w.heap.size w w' := by
  obtain ⟨ht, mi, tk, wi, pw, ps, sa⟩ := h
  simp only at *
  unfold hcells
  simp only
  rw [← hn]
  have hsz : (ByteArray.mk tk.toArray).size = l := hl.symm
  have Hris : Hid (∀ w', Below w.heap.size w w' → n ≤ 1000000 → Calls Tryz.prog 85 #[.slice ao n cap] w' fun r w'' => r = .returned (.bool R) ∧ Below w'.heap.size w' w'') := Lib.hid (fun w' hb h6 => by
    have := rise_any ao cap ps w' (hL.old hb) (by omega)
    rw [← hn, ← hR] at this; exact this)
  clear hl hL hn hR
  have f5 : (n : Int) ≤ 5 := by omega
  have f5' : n ≤ 5 := by omega
  have fht1 : 1 ≤ ht := by omega
  have fht2 : ht ≤ 1073741824 := by omega
  have fmi1 : 0 ≤ mi := by omega
  have fmi2 : mi ≤ 63 := by omega
  have ftk1 : 1 ≤ (l : Int) := by omega
  have ftk3 : 0 < l := by omega
  have ftk4 : l ≠ 0 := by omega
  have ftk2 : (l : Int) ≤ 8 := by omega
  have ftk5 : l ≤ 8 := by omega
  have fwi1 : 1 ≤ wi := by omega
  have fwi2 : wi ≤ 15 := by omega
  have fsa1 : 0 ≤ sa := by omega
  have fsa2 : sa ≤ 1073741824 := by omega
  have e1 : (pw : Int) < 2 := by omega
  have hb0 : Below w.heap.size w (w.alloc (.cells #[.int .i64 ht, .int .i64 mi, .string ⟨tk.toArray⟩, .int .i64 wi, .int .u64 (pw : Int), .slice ao n cap, .int .i64 sa] 29)) := (Below.refl _ w).alloc (Nat.le_refl _) _
  clear g0 g1 g2 g3 g4 g5 g6 g7 g8 g9 g10 g11
  go_enter Tryz.func44, Tryz.ntmps44
  go_wp2_with fail
  go_ret
  exact ⟨rfl, hb0⟩
set_option maxRecDepth 20000 in
set_option maxHeartbeats 2000000 in
theorem rchk_pw2 (h : Hd (List UInt8)) (ao : Option Addr) (cap : Nat) (w : World) (hL : Rd encS w ao h.ps) (l n : Nat) (hl : l = h.tk.length) (hn : n = h.ps.length) (R : Bool) (hR : R = rs h.ps (n - 1)) (g0 : ¬ 5 < n) (g1 : ¬ h.ht < 1) (g2 : ¬ 1073741824 < h.ht) (g3 : ¬ h.mi < 0) (g4 : ¬ 64 ≤ h.mi) (g5 : ¬ l < 1) (g6 : ¬ 8 < l) (g7 : ¬ h.wi < 1) (g8 : ¬ 15 < h.wi) (g9 : ¬ h.sa < 0) (g10 : ¬ 1073741824 < h.sa) (g11 : ¬ h.pw < 2) (g12 : 4611686018427387904 < h.pw) :
    Calls Tryz.prog 44 #[.agg (hcells h ao cap)] w fun r w' => r = .returned (.int .i64 1) ∧ Below w.heap.size w w' := by
  obtain ⟨ht, mi, tk, wi, pw, ps, sa⟩ := h
  simp only at *
  unfold hcells
  simp only
  rw [← hn]
  have hsz : (ByteArray.mk tk.toArray).size = l := hl.symm
  have Hris : Hid (∀ w', Below w.heap.size w w' → n ≤ 1000000 → Calls Tryz.prog 85 #[.slice ao n cap] w' fun r w'' => r = .returned (.bool R) ∧ Below w'.heap.size w' w'') := Lib.hid (fun w' hb h6 => by
    have := rise_any ao cap ps w' (hL.old hb) (by omega)
    rw [← hn, ← hR] at this; exact this)
  clear hl hL hn hR
  have f5 : (n : Int) ≤ 5 := by omega
  have f5' : n ≤ 5 := by omega
  have fht1 : 1 ≤ ht := by omega
  have fht2 : ht ≤ 1073741824 := by omega
  have fmi1 : 0 ≤ mi := by omega
  have fmi2 : mi ≤ 63 := by omega
  have ftk1 : 1 ≤ (l : Int) := by omega
  have ftk3 : 0 < l := by omega
  have ftk4 : l ≠ 0 := by omega
  have ftk2 : (l : Int) ≤ 8 := by omega
  have ftk5 : l ≤ 8 := by omega
  have fwi1 : 1 ≤ wi := by omega
  have fwi2 : wi ≤ 15 := by omega
  have fsa1 : 0 ≤ sa := by omega
  have fsa2 : sa ≤ 1073741824 := by omega
  have fpw1 : 2 ≤ (pw : Int) := by omega
  have e1 : 4611686018427387904 < (pw : Int) := by omega
  have hb0 : Below w.heap.size w (w.alloc (.cells #[.int .i64 ht, .int .i64 mi, .string ⟨tk.toArray⟩, .int .i64 wi, .int .u64 (pw : Int), .slice ao n cap, .int .i64 sa] 29)) := (Below.refl _ w).alloc (Nat.le_refl _) _
  clear g0 g1 g2 g3 g4 g5 g6 g7 g8 g9 g10 g11 g12
  go_enter Tryz.func44, Tryz.ntmps44
  go_wp2_with fail
  go_ret
  exact ⟨rfl, hb0⟩
set_option maxRecDepth 20000 in
set_option maxHeartbeats 2000000 in
theorem rchk_ps1 (h : Hd (List UInt8)) (ao : Option Addr) (cap : Nat) (w : World) (hL : Rd encS w ao h.ps) (l n : Nat) (hl : l = h.tk.length) (hn : n = h.ps.length) (R : Bool) (hR : R = rs h.ps (n - 1)) (g0 : ¬ 5 < n) (g1 : ¬ h.ht < 1) (g2 : ¬ 1073741824 < h.ht) (g3 : ¬ h.mi < 0) (g4 : ¬ 64 ≤ h.mi) (g5 : ¬ l < 1) (g6 : ¬ 8 < l) (g7 : ¬ h.wi < 1) (g8 : ¬ 15 < h.wi) (g9 : ¬ h.sa < 0) (g10 : ¬ 1073741824 < h.sa) (g11 : ¬ h.pw < 2) (g12 : ¬ 4611686018427387904 < h.pw) (g13 : n < 1) :
    Calls Tryz.prog 44 #[.agg (hcells h ao cap)] w fun r w' => r = .returned (.int .i64 1) ∧ Below w.heap.size w w' := by
  obtain ⟨ht, mi, tk, wi, pw, ps, sa⟩ := h
  simp only at *
  unfold hcells
  simp only
  rw [← hn]
  have hsz : (ByteArray.mk tk.toArray).size = l := hl.symm
  have Hris : Hid (∀ w', Below w.heap.size w w' → n ≤ 1000000 → Calls Tryz.prog 85 #[.slice ao n cap] w' fun r w'' => r = .returned (.bool R) ∧ Below w'.heap.size w' w'') := Lib.hid (fun w' hb h6 => by
    have := rise_any ao cap ps w' (hL.old hb) (by omega)
    rw [← hn, ← hR] at this; exact this)
  clear hl hL hn hR
  have f5 : (n : Int) ≤ 5 := by omega
  have f5' : n ≤ 5 := by omega
  have fht1 : 1 ≤ ht := by omega
  have fht2 : ht ≤ 1073741824 := by omega
  have fmi1 : 0 ≤ mi := by omega
  have fmi2 : mi ≤ 63 := by omega
  have ftk1 : 1 ≤ (l : Int) := by omega
  have ftk3 : 0 < l := by omega
  have ftk4 : l ≠ 0 := by omega
  have ftk2 : (l : Int) ≤ 8 := by omega
  have ftk5 : l ≤ 8 := by omega
  have fwi1 : 1 ≤ wi := by omega
  have fwi2 : wi ≤ 15 := by omega
  have fsa1 : 0 ≤ sa := by omega
  have fsa2 : sa ≤ 1073741824 := by omega
  have fpw1 : 2 ≤ (pw : Int) := by omega
  have fpw2 : (pw : Int) ≤ 4611686018427387904 := by omega
  have e1 : ((n : Int) == 0) = true := by rw [beq_iff_eq]; omega
  have hb0 : Below w.heap.size w (w.alloc (.cells #[.int .i64 ht, .int .i64 mi, .string ⟨tk.toArray⟩, .int .i64 wi, .int .u64 (pw : Int), .slice ao n cap, .int .i64 sa] 29)) := (Below.refl _ w).alloc (Nat.le_refl _) _
  clear g0 g1 g2 g3 g4 g5 g6 g7 g8 g9 g10 g11 g12 g13
  go_enter Tryz.func44, Tryz.ntmps44
  go_wp2_with fail
  go_ret
  exact ⟨rfl, hb0⟩
set_option maxRecDepth 20000 in
set_option maxHeartbeats 2000000 in
theorem rchk_ps2 (h : Hd (List UInt8)) (ao : Option Addr) (cap : Nat) (w : World) (hL : Rd encS w ao h.ps) (l n : Nat) (hl : l = h.tk.length) (hn : n = h.ps.length) (R : Bool) (hR : R = rs h.ps (n - 1)) (g0 : ¬ 5 < n) (g1 : ¬ h.ht < 1) (g2 : ¬ 1073741824 < h.ht) (g3 : ¬ h.mi < 0) (g4 : ¬ 64 ≤ h.mi) (g5 : ¬ l < 1) (g6 : ¬ 8 < l) (g7 : ¬ h.wi < 1) (g8 : ¬ 15 < h.wi) (g9 : ¬ h.sa < 0) (g10 : ¬ 1073741824 < h.sa) (g11 : ¬ h.pw < 2) (g12 : ¬ 4611686018427387904 < h.pw) (g13 : ¬ n < 1) (g14 : R = false) :
    Calls Tryz.prog 44 #[.agg (hcells h ao cap)] w fun r w' => r = .returned (.int .i64 1) ∧ Below w.heap.size w w' := by
  obtain ⟨ht, mi, tk, wi, pw, ps, sa⟩ := h
  simp only at *
  unfold hcells
  simp only
  rw [← hn]
  have hsz : (ByteArray.mk tk.toArray).size = l := hl.symm
  have Hris : Hid (∀ w', Below w.heap.size w w' → n ≤ 1000000 → Calls Tryz.prog 85 #[.slice ao n cap] w' fun r w'' => r = .returned (.bool R) ∧ Below w'.heap.size w' w'') := Lib.hid (fun w' hb h6 => by
    have := rise_any ao cap ps w' (hL.old hb) (by omega)
    rw [← hn, ← hR] at this; exact this)
  clear hl hL hn hR
  have f5 : (n : Int) ≤ 5 := by omega
  have f5' : n ≤ 5 := by omega
  have fht1 : 1 ≤ ht := by omega
  have fht2 : ht ≤ 1073741824 := by omega
  have fmi1 : 0 ≤ mi := by omega
  have fmi2 : mi ≤ 63 := by omega
  have ftk1 : 1 ≤ (l : Int) := by omega
  have ftk3 : 0 < l := by omega
  have ftk4 : l ≠ 0 := by omega
  have ftk2 : (l : Int) ≤ 8 := by omega
  have ftk5 : l ≤ 8 := by omega
  have fwi1 : 1 ≤ wi := by omega
  have fwi2 : wi ≤ 15 := by omega
  have fsa1 : 0 ≤ sa := by omega
  have fsa2 : sa ≤ 1073741824 := by omega
  have fpw1 : 2 ≤ (pw : Int) := by omega
  have fpw2 : (pw : Int) ≤ 4611686018427387904 := by omega
  have fps1 : ((n : Int) == 0) = false := by rw [beq_eq_false_iff_ne]; omega
  subst g14
  have hb0 : Below w.heap.size w (w.alloc (.cells #[.int .i64 ht, .int .i64 mi, .string ⟨tk.toArray⟩, .int .i64 wi, .int .u64 (pw : Int), .slice ao n cap, .int .i64 sa] 29)) := (Below.refl _ w).alloc (Nat.le_refl _) _
  clear g0 g1 g2 g3 g4 g5 g6 g7 g8 g9 g10 g11 g12 g13
  have Hr := Hris.out _ hb0 (by omega)
  have HB0 := Lib.hid hb0
  clear hb0
  go_enter Tryz.func44, Tryz.ntmps44
  go_wp2_with fail
  refine Hr.mono ?_
  rintro r w1 ⟨rfl, hb1⟩
  have hB1 := Lib.hid (HB0.out.trans (hb1.mono HB0.out.size))
  clear hb1 Hr
  go_wp2_with fail
  go_ret
  exact ⟨rfl, hB1.out⟩
set_option maxRecDepth 20000 in
set_option maxHeartbeats 2000000 in
theorem rchk_ok (h : Hd (List UInt8)) (ao : Option Addr) (cap : Nat) (w : World) (hL : Rd encS w ao h.ps) (l n : Nat) (hl : l = h.tk.length) (hn : n = h.ps.length) (R : Bool) (hR : R = rs h.ps (n - 1)) (g0 : ¬ 5 < n) (g1 : ¬ h.ht < 1) (g2 : ¬ 1073741824 < h.ht) (g3 : ¬ h.mi < 0) (g4 : ¬ 64 ≤ h.mi) (g5 : ¬ l < 1) (g6 : ¬ 8 < l) (g7 : ¬ h.wi < 1) (g8 : ¬ 15 < h.wi) (g9 : ¬ h.sa < 0) (g10 : ¬ 1073741824 < h.sa) (g11 : ¬ h.pw < 2) (g12 : ¬ 4611686018427387904 < h.pw) (g13 : ¬ n < 1) (g14 : R = true) :
    Calls Tryz.prog 44 #[.agg (hcells h ao cap)] w fun r w' => r = .returned (.int .i64 0) ∧ Below w.heap.size w w' := by
  obtain ⟨ht, mi, tk, wi, pw, ps, sa⟩ := h
  simp only at *
  unfold hcells
  simp only
  rw [← hn]
  have hsz : (ByteArray.mk tk.toArray).size = l := hl.symm
  have Hris : Hid (∀ w', Below w.heap.size w w' → n ≤ 1000000 → Calls Tryz.prog 85 #[.slice ao n cap] w' fun r w'' => r = .returned (.bool R) ∧ Below w'.heap.size w' w'') := Lib.hid (fun w' hb h6 => by
    have := rise_any ao cap ps w' (hL.old hb) (by omega)
    rw [← hn, ← hR] at this; exact this)
  clear hl hL hn hR
  have f5 : (n : Int) ≤ 5 := by omega
  have f5' : n ≤ 5 := by omega
  have fht1 : 1 ≤ ht := by omega
  have fht2 : ht ≤ 1073741824 := by omega
  have fmi1 : 0 ≤ mi := by omega
  have fmi2 : mi ≤ 63 := by omega
  have ftk1 : 1 ≤ (l : Int) := by omega
  have ftk3 : 0 < l := by omega
  have ftk4 : l ≠ 0 := by omega
  have ftk2 : (l : Int) ≤ 8 := by omega
  have ftk5 : l ≤ 8 := by omega
  have fwi1 : 1 ≤ wi := by omega
  have fwi2 : wi ≤ 15 := by omega
  have fsa1 : 0 ≤ sa := by omega
  have fsa2 : sa ≤ 1073741824 := by omega
  have fpw1 : 2 ≤ (pw : Int) := by omega
  have fpw2 : (pw : Int) ≤ 4611686018427387904 := by omega
  have fps1 : ((n : Int) == 0) = false := by rw [beq_eq_false_iff_ne]; omega
  subst g14
  have hb0 : Below w.heap.size w (w.alloc (.cells #[.int .i64 ht, .int .i64 mi, .string ⟨tk.toArray⟩, .int .i64 wi, .int .u64 (pw : Int), .slice ao n cap, .int .i64 sa] 29)) := (Below.refl _ w).alloc (Nat.le_refl _) _
  clear g0 g1 g2 g3 g4 g5 g6 g7 g8 g9 g10 g11 g12 g13
  have Hr := Hris.out _ hb0 (by omega)
  have HB0 := Lib.hid hb0
  clear hb0
  go_enter Tryz.func44, Tryz.ntmps44
  go_wp2_with fail
  refine Hr.mono ?_
  rintro r w1 ⟨rfl, hb1⟩
  have hB1 := Lib.hid (HB0.out.trans (hb1.mono HB0.out.size))
  clear hb1 Hr
  go_wp2_with fail
  go_ret
  exact ⟨rfl, hB1.out⟩
theorem rcheck_any (h : Hd (List UInt8)) (ao : Option Addr) (cap : Nat) (w : World) (hL : Rd encS w ao h.ps) :
    Calls Tryz.prog 44 #[.agg (hcells h ao cap)] w fun r w' => r = .returned (.int .i64 (chk h (rs h.ps (h.ps.length - 1)))) ∧ Below w.heap.size w w' := by
  obtain ⟨l, hl⟩ : ∃ l, l = h.tk.length := ⟨_, rfl⟩
  obtain ⟨n, hn⟩ : ∃ n, n = h.ps.length := ⟨_, rfl⟩
  obtain ⟨R, hR⟩ : ∃ R, R = rs h.ps (n - 1) := ⟨_, rfl⟩
  rw [← hn, ← hR]
  unfold chk
  rw [← hl, ← hn]
  by_cases g0 : 5 < n
  · rw [if_pos g0]; exact rchk_big h ao cap w hL l n hl hn R hR g0
  rw [if_neg g0]
  by_cases g1 : h.ht < 1
  · rw [if_pos (by simp [g1])]; exact rchk_ht1 h ao cap w hL l n hl hn R hR g0 g1
  by_cases g2 : 1073741824 < h.ht
  · rw [if_pos (by simp [g2])]; exact rchk_ht2 h ao cap w hL l n hl hn R hR g0 g1 g2
  by_cases g3 : h.mi < 0
  · rw [if_pos (by simp [g3])]; exact rchk_mi1 h ao cap w hL l n hl hn R hR g0 g1 g2 g3
  by_cases g4 : 64 ≤ h.mi
  · rw [if_pos (by simp [g4])]; exact rchk_mi2 h ao cap w hL l n hl hn R hR g0 g1 g2 g3 g4
  by_cases g5 : l < 1
  · rw [if_pos (by simp [g5])]; exact rchk_tk1 h ao cap w hL l n hl hn R hR g0 g1 g2 g3 g4 g5
  by_cases g6 : 8 < l
  · rw [if_pos (by simp [g6])]; exact rchk_tk2 h ao cap w hL l n hl hn R hR g0 g1 g2 g3 g4 g5 g6
  by_cases g7 : h.wi < 1
  · rw [if_pos (by simp [g7])]; exact rchk_wi1 h ao cap w hL l n hl hn R hR g0 g1 g2 g3 g4 g5 g6 g7
  by_cases g8 : 15 < h.wi
  · rw [if_pos (by simp [g8])]; exact rchk_wi2 h ao cap w hL l n hl hn R hR g0 g1 g2 g3 g4 g5 g6 g7 g8
  by_cases g9 : h.sa < 0
  · rw [if_pos (by simp [g9])]; exact rchk_sa1 h ao cap w hL l n hl hn R hR g0 g1 g2 g3 g4 g5 g6 g7 g8 g9
  by_cases g10 : 1073741824 < h.sa
  · rw [if_pos (by simp [g10])]; exact rchk_sa2 h ao cap w hL l n hl hn R hR g0 g1 g2 g3 g4 g5 g6 g7 g8 g9 g10
  by_cases g11 : h.pw < 2
  · rw [if_pos (by simp [g11])]; exact rchk_pw1 h ao cap w hL l n hl hn R hR g0 g1 g2 g3 g4 g5 g6 g7 g8 g9 g10 g11
  by_cases g12 : 4611686018427387904 < h.pw
  · rw [if_pos (by simp [g12])]; exact rchk_pw2 h ao cap w hL l n hl hn R hR g0 g1 g2 g3 g4 g5 g6 g7 g8 g9 g10 g11 g12
  by_cases g13 : n < 1
  · rw [if_pos (by simp [g13])]; exact rchk_ps1 h ao cap w hL l n hl hn R hR g0 g1 g2 g3 g4 g5 g6 g7 g8 g9 g10 g11 g12 g13
  by_cases g14 : R = false
  · rw [if_pos (by simp [g14])]; exact rchk_ps2 h ao cap w hL l n hl hn R hR g0 g1 g2 g3 g4 g5 g6 g7 g8 g9 g10 g11 g12 g13 g14
  rw [Bool.not_eq_false] at g14
  rw [if_neg (by rintro (x | x | x | x | x | x | x) <;> rcases x with x | x <;> first | exact absurd x (by assumption) | (have g := g14; rw [x] at g; cases g))]
  exact rchk_ok h ao cap w hL l n hl hn R hR g0 g1 g2 g3 g4 g5 g6 g7 g8 g9 g10 g11 g12 g13 g14
end Go.Proofs.YtemnebbdaljfbaaGreatDoor

namespace Go.Proofs.YtemnebbdaljfbaaGreatDoor
open Go.RowKit

def nmOf (s : List UInt8) : Nm := ⟨idL s, idL_len s⟩
def ownH (h : Hd (List UInt8)) : Hd Nm := ⟨h.ht, h.mi, h.tk, h.wi, h.pw, h.ps.map nmOf, h.sa⟩
/-- A header at g, a place for a result at r. -/
structure HvSt (W : World) (r g : Nat) (T : TypeId) (C : Array Value) (w : World) : Prop where
  box : w.heap[g]? = some (.cells C T (0, 0))
  m : Below W.heap.size W w
  lo : W.heap.size ≤ r
  lo2 : W.heap.size ≤ g
  ne : r ≠ g
  res : ∃ Z : Array Value, Z.size = 7 ∧ w.heap[r]? = some (.cells Z T (0, 0))
theorem HvSt.put {W w : World} {r g : Nat} {T : TypeId} {C : Array Value} (h : HvSt W r g T C w) (k : Nat) (v : Value) : HvSt W r g T (C.setIfInBounds k v) (w.setCell ⟨g, k, none⟩ v) := by
  have h1 := h.lo
  have h3 := h.lo2
  have h2 := h.ne
  obtain ⟨Z, hz, hZ⟩ := h.res
  refine ⟨heap_setCell_same w g k C T v h.box, ?_, h1, h3, h2, Z, hz, ?_⟩
  · exact h.m.trans (((Mod.refl (· = g) w).setCell (p := ⟨g, k, none⟩) (fun _ => rfl) v).to_below h.m.size (by intro i hi e; omega))
  · rw [Below.heap_setCell _ _ _ _ (by simp only; omega)]; exact hZ
theorem HvSt.cell {W w : World} {r g : Nat} {T : TypeId} {C : Array Value} (h : HvSt W r g T C w) (k : Nat) : w.cell? ⟨g, k, none⟩ = C[k]? := cell_of_row w g k C T (0, 0) h.box
theorem HvSt.froz {W w : World} {r g : Nat} {T : TypeId} {C : Array Value} (h : HvSt W r g T C w) (k : Nat) : w.frozen? ⟨g, k, none⟩ = false := frozen_of_row w g k C T h.box
theorem HvSt.lt {W w : World} {r g : Nat} {T : TypeId} {C : Array Value} (h : HvSt W r g T C w) : g < w.heap.size := (Array.getElem?_eq_some_iff.1 h.box).1
/-- Of what is old only rows above g turn. -/
theorem HvSt.kept {W w w' : World} {r g : Nat} {T : TypeId} {C : Array Value} {S : Nat → Prop} (h : HvSt W r g T C w) (hm : Mod S w w') (hS : ∀ i, S i → g < i ∧ r < i) : HvSt W r g T C w' := by
  obtain ⟨Z, hz, hZ⟩ := h.res
  have h1 := h.lo
  have h3 := h.lo2
  have h2 := h.ne
  exact ⟨(hm.block g h.lt (fun e => by have := hS g e; omega)).trans h.box, h.m.trans (hm.to_below h.m.size (fun i hi e => by have := hS i e; omega)), h1, h3, h2, Z, hz, (hm.block r (Array.getElem?_eq_some_iff.1 hZ).1 (fun e => by have := hS r e; omega)).trans hZ⟩
theorem HvSt.grow {W w w' : World} {r g : Nat} {T : TypeId} {C : Array Value} (h : HvSt W r g T C w) (hb : Below w.heap.size w w') : HvSt W r g T C w' := h.kept (Mod.of_below hb) (fun i hi => ⟨Nat.lt_of_lt_of_le h.lt hi, by obtain ⟨Z, _, hZ⟩ := h.res; exact Nat.lt_of_lt_of_le (Array.getElem?_eq_some_iff.1 hZ).1 hi⟩)

set_option maxRecDepth 20000 in
set_option maxHeartbeats 4000000 in
theorem own_any (h : Hd (List UInt8)) (ao : Option Addr) (cap : Nat) (w : World) (hL : Rd encS w ao h.ps) (hn : h.ps.length ≤ 1000000) :
    Calls Tryz.prog 13 #[.agg (hcells h ao cap)] w fun r w' => ∃ q c, r = .returned (.agg (hcells (ownH h) q c)) ∧ Rw encN 70 w' q c (ownH h).ps ∧ Below w.heap.size w w' ∧ ∀ a, q = some a → w.heap.size ≤ a.block := by
  obtain ⟨ht, mi, tk, wi, pw, ps, sa⟩ := h
  unfold ownH
  unfold hcells
  simp only at hL hn ⊢
  rw [List.length_map]
  obtain ⟨n, hnp⟩ : ∃ n, n = ps.length := ⟨_, rfl⟩
  rw [← hnp] at hn ⊢
  have HL := Lib.hid hL
  obtain ⟨W0, hW0⟩ : ∃ W0, W0 = (w.alloc (.cells #[.int .i64 ht, .int .i64 mi, .string ⟨tk.toArray⟩, .int .i64 wi, .int .u64 (pw : Int), .slice ao n cap, .int .i64 sa] 29)).alloc (.cells #[.int .i64 0, .int .i64 0, .string ⟨#[]⟩, .int .i64 0, .int .u64 0, .slice none 0 0, .int .i64 0] 41) := ⟨_, rfl⟩
  have s0 : W0.heap.size = w.heap.size + 2 := by rw [hW0]; simp
  have b0 : Below w.heap.size w W0 := by rw [hW0]; exact ((Below.refl _ w).alloc (Nat.le_refl _) _).alloc (by simp) _
  have bx0 : W0.heap[w.heap.size]? = some (.cells #[.int .i64 ht, .int .i64 mi, .string ⟨tk.toArray⟩, .int .i64 wi, .int .u64 (pw : Int), .slice ao n cap, .int .i64 sa] 29 (0, 0)) := by rw [hW0, Below.heap_alloc _ _ _ (by simp)]; exact heap_alloc_new w _
  have rs0 : W0.heap[w.heap.size + 1]? = some (.cells #[.int .i64 0, .int .i64 0, .string ⟨#[]⟩, .int .i64 0, .int .u64 0, .slice none 0 0, .int .i64 0] 41 (0, 0)) := by rw [hW0]; have := heap_alloc_new (w.alloc (.cells #[.int .i64 ht, .int .i64 mi, .string ⟨tk.toArray⟩, .int .i64 wi, .int .u64 (pw : Int), .slice ao n cap, .int .i64 sa] 29)) (.cells #[.int .i64 0, .int .i64 0, .string ⟨#[]⟩, .int .i64 0, .int .u64 0, .slice none 0 0, .int .i64 0] 41); simpa using this
  obtain ⟨W3, hW3⟩ : ∃ W3, W3 = W0.alloc (.cells #[.int .i64 ht, .int .i64 mi, .string ⟨tk.toArray⟩, .int .i64 wi, .int .u64 (pw : Int), .slice none 0 0, .int .i64 sa] 41) := ⟨_, rfl⟩
  have b3 : Below W0.heap.size W0 W3 := by rw [hW3]; exact (Below.refl _ _).alloc (Nat.le_refl _) _
  obtain ⟨g, hg⟩ : ∃ g, g = w.heap.size + 1 + 1 := ⟨_, rfl⟩
  have st : HvSt w (w.heap.size + 1) g 41 #[.int .i64 ht, .int .i64 mi, .string ⟨tk.toArray⟩, .int .i64 wi, .int .u64 (pw : Int), .slice none 0 0, .int .i64 sa] W3 := by
    refine ⟨?_, b0.trans (b3.mono b0.size), by omega, by omega, by omega, #[.int .i64 0, .int .i64 0, .string ⟨#[]⟩, .int .i64 0, .int .u64 0, .slice none 0 0, .int .i64 0], rfl, (b3.block _ (by omega)).trans rs0⟩
    rw [hg, hW3, show w.heap.size + 1 + 1 = W0.heap.size by omega]; exact heap_alloc_new W0 _
  rw [hW0] at hW3
  have ST := Lib.hid st
  have HW3 := Lib.hid hW3
  have Hg := Lib.hid hg
  have Hnp := Lib.hid hnp
  clear hL hnp hW0 s0 b0 bx0 rs0 hW3 b3 hg st
  go_enter Tryz.func13, Tryz.ntmps13
  go_wp2_with fail
  rw [← HW3.out, ← Hg.out]
  go_loopw [22] (fun s22 wr => ∃ k q c, k ≤ n ∧ s22 = .int .i64 (k : Int) ∧ Hid (HvSt w (w.heap.size + 1) g 41 #[.int .i64 ht, .int .i64 mi, .string ⟨tk.toArray⟩, .int .i64 wi, .int .u64 (pw : Int), .slice q k c, .int .i64 sa] wr ∧ Rw encN 70 wr q c ((ps.map nmOf).take k) ∧ ∀ a, q = some a → g < a.block)) (fun i _ => n - (intOf i).toNat)
  case atStart => exact ⟨0, none, 0, Nat.zero_le _, rfl, Lib.hid ⟨ST.out, Rw.empty _ _, fun a e => by cases e⟩⟩
  case round =>
    clear ST
    obtain ⟨k, q, c, hk, rfl, hst⟩ := hrel
    by_cases hlt : k < n
    · obtain ⟨st0, rw0, fr0⟩ := hst.out
      clear hst
      have hkp : k < ps.length := by rw [← Hnp.out]; exact hlt
      obtain ⟨bs, off, rfl, hbs, cx⟩ := (HL.out.old st0.m).str k hkp
      have hnx : (ps.map nmOf).take (k + 1) = (ps.map nmOf).take k ++ [nmOf ps[k]] := by rw [List.take_succ_eq_append_getElem (by simpa using hkp), List.getElem_map]
      have hDl : ((ps.map nmOf).take k).length = k := by rw [List.length_take, List.length_map]; omega
      obtain ⟨xx, hx⟩ : ∃ x, x = ps[k] := ⟨_, rfl⟩
      rw [← hx] at cx hnx
      obtain ⟨nm, hnm⟩ : ∃ nm : Nm, nm = nmOf xx := ⟨_, rfl⟩
      have hname : Hid (∀ w, Calls Tryz.prog 48 #[.string ⟨xx.toArray⟩] w fun r w' => r = .returned (.agg (vals nm.1).toArray) ∧ Below w.heap.size w w') := Lib.hid (fun w => by rw [hnm]; exact idof_any xx w)
      rw [← hnm] at hnx
      have Hnx := Lib.hid hnx
      clear hnm hnx hx
      generalize (ps.map nmOf).take k = D at rw0 hDl Hnx
      have HDl := Lib.hid hDl
      have Hst := Lib.hid st0
      have Hrw := Lib.hid rw0
      have Hfr := Lib.hid fr0
      have i0 : (0 : Int) ≤ k := by omega
      have i1 : (k : Int) < n := by omega
      clear hDl st0 rw0 fr0 hkp
      go_wp2_with fail
      clear cx
      have HG0 : Hid ((fun (j : Nat) (x : Value) (w1 : World) => (j ≤ 3 → HvSt w (w.heap.size + 1) g 41 #[.int .i64 ht, .int .i64 mi, .string ⟨tk.toArray⟩, .int .i64 wi, .int .u64 (pw : Int), .slice q k c, .int .i64 sa] w1) ∧ (j ≤ 2 → Rw encN 70 w1 q c D) ∧ (j = 2 → ∃ p, x = .slice (some ⟨p, 0, none⟩) 1 1 ∧ Rd encN w1 (some ⟨p, 0, none⟩) [nm]) ∧ (j = 3 → ∃ q' c', x = .slice q' (k + 1) c' ∧ Rw encN 70 w1 q' c' (D ++ [nm]) ∧ ∀ a, q' = some a → g < a.block) ∧ (j = 4 → ∃ q' c', HvSt w (w.heap.size + 1) g 41 #[.int .i64 ht, .int .i64 mi, .string ⟨tk.toArray⟩, .int .i64 wi, .int .u64 (pw : Int), .slice q' (k + 1) c', .int .i64 sa] w1 ∧ Rw encN 70 w1 q' c' (D ++ [nm]) ∧ ∀ a, q' = some a → g < a.block)) 0 undef wr.drew) := Lib.hid ⟨fun _ => Hst.out.grow ((Below.refl _ _).drew), fun _ => Hrw.out.old ((Below.refl _ _).drew), (fun h => absurd h (by omega)), (fun h => absurd h (by omega)), (fun h => absurd h (by omega))⟩
      clear Hst Hrw
      refine wp_region_chain (fun t v => match t with
        | 26 => v = .pointer (some ⟨g, 5, none⟩)
        | 27 => v = .slice q k c
        | 28 => v = .string ⟨xx.toArray⟩
        | 29 => v = .agg (vals nm.1).toArray
        | 32 => v = .pointer (some ⟨g, 5, none⟩)
        | _ => True) (fun (j : Nat) (x : Value) (w1 : World) => (j ≤ 3 → HvSt w (w.heap.size + 1) g 41 #[.int .i64 ht, .int .i64 mi, .string ⟨tk.toArray⟩, .int .i64 wi, .int .u64 (pw : Int), .slice q k c, .int .i64 sa] w1) ∧ (j ≤ 2 → Rw encN 70 w1 q c D) ∧ (j = 2 → ∃ p, x = .slice (some ⟨p, 0, none⟩) 1 1 ∧ Rd encN w1 (some ⟨p, 0, none⟩) [nm]) ∧ (j = 3 → ∃ q' c', x = .slice q' (k + 1) c' ∧ Rw encN 70 w1 q' c' (D ++ [nm]) ∧ ∀ a, q' = some a → g < a.block) ∧ (j = 4 → ∃ q' c', HvSt w (w.heap.size + 1) g 41 #[.int .i64 ht, .int .i64 mi, .string ⟨tk.toArray⟩, .int .i64 wi, .int .u64 (pw : Int), .slice q' (k + 1) c', .int .i64 sa] w1 ∧ Rw encN 70 w1 q' c' (D ++ [nm]) ∧ ∀ a, q' = some a → g < a.block)) [3, 4, 5, 7] 35 (by kernel_rfl) (by decide +kernel) rfl (by decide +kernel) (by decide) (by decide) HG0.out (by
        refine OweAllC.cons (owesC_val 2 (by decide +kernel) (by decide) rfl rfl fun k' a w1 x hk ha hG hV => ?_) ?_
        · skip
          have h3 := ha.outer 3 (by decide +kernel)
          simp only [Act.eval] at h3
          exact ⟨.pointer (some ⟨g, 5, none⟩), wanted_free rfl, by simp [execOp, go_sem, h3], rfl⟩
        refine OweAllC.cons (owesC_val 2 (by decide +kernel) (by decide) rfl rfl fun k' a w1 x hk ha hG hV => ?_) ?_
        · skip
          have h26 : a.tmps.getD 26 undef = .pointer (some ⟨g, 5, none⟩) := hV.get 26 (by decide +kernel)
          have cc : w1.cell? ⟨g, 5, none⟩ = some (.slice q k c) := (hG.1 (by omega)).cell 5
          exact ⟨.slice q k c, wanted_free rfl, by simp [execOp, go_sem, h26, cc], rfl⟩
        refine OweAllC.cons (owesC_val 0 (by decide +kernel) (by decide) rfl rfl fun k' a w1 x hk ha hG hV => ?_) ?_
        · skip
          have h5 := ha.outer 5 (by decide +kernel)
          simp only [Act.eval] at h5
          exact ⟨.string ⟨xx.toArray⟩, wanted_free rfl, by simp [execOp, go_sem, h5], rfl⟩
        refine OweAllC.cons (owesC_call 0 rfl rfl rfl 48 fun a w1 x ha hG hx hV => ?_) ?_
        · skip
          have h28 : a.tmps.getD 28 undef = .string ⟨xx.toArray⟩ := hV.get 28 (by decide +kernel)
          refine ⟨#[.string ⟨xx.toArray⟩], wanted_free rfl, by simp [execOp, resolve, invoke, go_sem, h28], ?_⟩
          have st1 := hG.1 (by omega)
          have r1 := hG.2.1 (by omega)
          refine (hname.out w1).mono ?_
          rintro r u2 ⟨rfl, hb⟩
          exact ⟨_, rfl, rfl, (fun _ => st1.grow hb), (fun _ => r1.old hb), (fun h => absurd h (by omega)), (fun h => absurd h (by omega)), (fun h => absurd h (by omega))⟩
        refine OweAllC.cons (owesC_mem 1 rfl rfl rfl fun a w1 x ha hG hx hV => ?_) ?_
        · skip
          have h29 : a.tmps.getD 29 undef = .agg (vals nm.1).toArray := hV.get 29 (by decide +kernel)
          have g29 : a.tmps[29]?.getD undef = .agg (vals nm.1).toArray := by simpa using h29
          have st1 := hG.1 (by omega)
          have r1 := hG.2.1 (by omega)
          have hb : Below w1.heap.size w1 (w1.alloc (.cells (vals nm.1).toArray 70)) := (Below.refl _ _).alloc (Nat.le_refl _) _
          have hr : Rd encN (w1.alloc (.cells (vals nm.1).toArray 70)) (some ⟨w1.heap.size, 0, none⟩) [nm] := by have := Rd.made encN w1 70 [nm] (by simp [maxLen]); rw [enc_one] at this; exact this
          exact ⟨_, _, wanted_free rfl, build_name (.tmp 29) rfl nm.1 nm.2 h29, trivial, (fun _ => st1.grow hb), (fun _ => r1.old hb), (fun _ => ⟨_, rfl, hr⟩), (fun h => absurd h (by omega)), (fun h => absurd h (by omega))⟩
        refine OweAllC.cons (owesC_law 2 rfl rfl fun a w1 x ha hG hx hV => ?_) ?_
        · skip
          have h27 : a.tmps.getD 27 undef = .slice q k c := hV.get 27 (by decide +kernel)
          have h30 := hx 1 4 _ 30 rfl rfl rfl rfl
          have st1 := hG.1 (by omega)
          have r1 := hG.2.1 (by omega)
          obtain ⟨p, rfl, hr⟩ := hG.2.2.1 rfl
          refine ⟨wanted_free rfl, fun K hK => ?_⟩
          refine wp_pushR1 encN (.tmp 27) (.tmp 30) 39 70 _ 32 rfl Tryz.underlying39 info_id (id_size (s := zid) rfl) (by decide) q c k D HDl.out h27 r1 (some ⟨p, 0, none⟩) 1 nm h30 hr (by omega) ?_
          rintro q' c' w' ⟨hR, hM, hor⟩
          have hfr : ∀ a, q' = some a → g < a.block := by intro a e; rcases hor a e with h | h; exact Hfr.out a h; have := st1.lt; omega
          have st2 := st1.kept hM (by rintro i ⟨a, e, rfl⟩; have := Hfr.out a e; have := Hg.out; omega)
          exact hK _ _ (fun t ht => by cases ht; trivial) ⟨(fun _ => st2), (fun h => absurd h (by omega)), (fun h => absurd h (by omega)), (fun _ => ⟨q', c', rfl, hR, hfr⟩), (fun h => absurd h (by omega))⟩
        refine OweAllC.cons (owesC_val 3 (by decide +kernel) (by decide) rfl rfl fun k' a w1 x hk ha hG hV => ?_) ?_
        · skip
          have h3 := ha.outer 3 (by decide +kernel)
          simp only [Act.eval] at h3
          exact ⟨.pointer (some ⟨g, 5, none⟩), wanted_free rfl, by simp [execOp, go_sem, h3], rfl⟩
        refine OweAllC.cons (owesC_store 3 rfl rfl rfl fun a w1 x ha hG hx hV => ?_) ?_
        · skip
          have h32 : a.tmps.getD 32 undef = .pointer (some ⟨g, 5, none⟩) := hV.get 32 (by decide +kernel)
          have h31 := hx 2 5 _ 31 rfl rfl rfl rfl
          simp only [Act.eval] at h31
          have st1 := hG.1 (by omega)
          obtain ⟨q', c', rfl, hR, hfr⟩ := hG.2.2.2.1 rfl
          have cc : w1.cell? ⟨g, 5, none⟩ = some (.slice q k c) := st1.cell 5
          have cf := st1.froz 5
          have hR2 : Rw encN 70 (w1.setCell ⟨g, 5, none⟩ (.slice q' (k + 1) c')) q' c' (D ++ [nm]) := hR.kept ((Mod.refl (· = g) w1).setCell (p := ⟨g, 5, none⟩) (fun _ => rfl) _) (fun a e h => by have := hfr a e; omega)
          exact ⟨w1.setCell ⟨g, 5, none⟩ (.slice q' (k + 1) c'), wanted_free rfl, by simp [execOp, go_sem, h32, h31, cc, cf], (fun h => absurd h (by omega)), (fun h => absurd h (by omega)), (fun h => absurd h (by omega)), (fun h => absurd h (by omega)), (fun _ => ⟨q', c', st1.put 5 _, hR2, hfr⟩)⟩
        exact OweAllC.nil
        ) ?_
      intro f wz xz hG hx hv
      first | (rename_i hK; refine hK _ _ ?_; clear hK) | (rename_i hK _; refine hK _ _ ?_; clear hK) | (rename_i hK _ _; refine hK _ _ ?_; clear hK) | (rename_i hK _ _ _; refine hK _ _ ?_; clear hK)
      clear hv hx
      simp only [dsts, puts, List.filterMap_cons, List.filterMap_nil, List.foldl_cons, List.foldl_nil, Act.put, List.setIfInBounds_toArray, List.set_cons_succ, List.set_cons_zero]
      obtain ⟨q', c', st5, rw5, fr5⟩ : ∃ q' c', HvSt w (w.heap.size + 1) g 41 #[.int .i64 ht, .int .i64 mi, .string ⟨tk.toArray⟩, .int .i64 wi, .int .u64 (pw : Int), .slice q' (k + 1) c', .int .i64 sa] wz ∧ Rw encN 70 wz q' c' (D ++ [nm]) ∧ ∀ a, q' = some a → g < a.block := hG.2.2.2.2 rfl
      clear hG HG0
      have S5 : Hid (HvSt w (w.heap.size + 1) g 41 #[.int .i64 ht, .int .i64 mi, .string ⟨tk.toArray⟩, .int .i64 wi, .int .u64 (pw : Int), .slice q' (k + 1) c', .int .i64 sa] wz ∧ Rw encN 70 wz q' c' (D ++ [nm]) ∧ ∀ a, q' = some a → g < a.block) := Lib.hid ⟨st5, rw5, fr5⟩
      clear st5 rw5 fr5
      go_wp2_with fail
      go_roundw
      case rel => exact ⟨k + 1, q', c', by omega, by go_num, Lib.hid (by rw [Hnx.out]; exact S5.out)⟩
      case measure => simp [intOf]; omega
    · obtain rfl : k = n := by omega
      obtain ⟨st0, rw0, fr0⟩ := hst.out
      clear hst
      rw [List.take_of_length_le (by rw [List.length_map, ← Hnp.out]; exact Nat.le_refl _)] at rw0
      have box := st0.box
      obtain ⟨Z, hZs, hZ⟩ := st0.res
      obtain ⟨Y, hY⟩ : ∃ Y : Array Value, Y = #[.int .i64 ht, .int .i64 mi, .string ⟨tk.toArray⟩, .int .i64 wi, .int .u64 (pw : Int), .slice q k c, .int .i64 sa] := ⟨_, rfl⟩
      rw [← hY] at box
      have hYs : Y.size = 7 := by rw [hY]; rfl
      have q3 : (Tryz.prog.info? 41).map (·.size) = some Y.size := by rw [hYs]; exact hinfo
      have q2 : Z.size = Y.size := by rw [hZs, hYs]
      have q4 : ∀ v ∈ Y.toList, v.oneCell' = true := by
        rw [hY]; intro v hv
        simp only [List.mem_cons, List.not_mem_nil, or_false] at hv
        rcases hv with rfl | rfl | rfl | rfl | rfl | rfl | rfl <;> rfl
      have L0 := Lib.hid (setRow_heap wr (w.heap.size + 1) Z Y 41 (0, 0) hZ)
      have hlo := st0.lo
      have hne := st0.ne
      have LM : Hid (Below w.heap.size w (wr.setRow (w.heap.size + 1) Y)) := Lib.hid (st0.m.trans (((Mod.refl (fun _ => False) wr).setRow (g := w.heap.size + 1) Y).to_below st0.m.size (by rintro i hi (h | h) <;> first | exact h | omega)))
      have LR : Hid (Rw encN 70 (wr.setRow (w.heap.size + 1) Y) q c (ps.map nmOf)) := Lib.hid (rw0.kept ((Mod.refl (fun _ => False) wr).setRow (g := w.heap.size + 1) Y) (fun a e h => by have := fr0 a e; have := Hg.out; rcases h with h | h; exact h; omega))
      have Hfr := Lib.hid (fun a (e : q = some a) => by have := fr0 a e; have := Hg.out; (show w.heap.size ≤ a.block); omega)
      have HY := Lib.hid hY
      clear st0 hY rw0 fr0
      go_wp2_with (first | (refine wpList_load_row rfl 41 (.tmp 3) rfl g rfl 41 Y (0, 0) _ box Tryz.underlying41 rfl q3 ?_) | (refine wpList_store_row rfl rfl 41 (.tmp 2) (.tmp 34) rfl (w.heap.size + 1) rfl 41 Z Y rfl hZ q2 q3 q4 ?_))
      exact bodyPost_ret (v := .agg Y) (results_cell_row Tryz.results13 _ _ (w.heap.size + 1) 41 Y (0, 0) _ rfl L0.out Tryz.underlying41 rfl q3) rfl ⟨q, c, by rw [HY.out], LR.out, LM.out, Hfr.out⟩
end Go.Proofs.YtemnebbdaljfbaaGreatDoor
