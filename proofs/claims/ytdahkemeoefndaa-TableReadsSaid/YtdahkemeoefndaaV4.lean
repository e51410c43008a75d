/- Texts 4: what the laws lean on. -/
import Derived.Test.YtdahkemeoefndaaV1
import Derived.Test.YtdahkemeoefndaaV2
import Derived.Test.YtdahkemeoefndaaV3
namespace Go.Proofs.Ytdahkemeoefndaa
open Go

/-- Each of the chain waits for the one ahead of it. -/
def chainOk (md : Region.Mode) (ops : Array Oper) (C : List Nat) : Bool :=
  (List.range C.length).all fun m => match C[m]?, C[m + 1]? with
    | some i, some j => (match ops[j]? with | some p => p.after.any (fun e => Region.binds md e && e.on == i) | none => false)
    | _, _ => true
/-- Operation j waits for i, by n edges at most. -/
def reach (md : Region.Mode) (ops : Array Oper) : Nat → Nat → Nat → Bool
  | 0, _, _ => false
  | n + 1, j, i => match ops[j]? with
    | some p => p.after.any (fun e => Region.binds md e && (e.on == i || reach md ops n e.on i))
    | none => false
/-- The chain's place b waits for operation i (or there is no such place). -/
def aheadOf (md : Region.Mode) (ops : Array Oper) (C : List Nat) (i b : Nat) : Bool :=
  b == C.length || (match C[b]? with
    | some j => reach md ops 16 j i
    | none => false)

/-- Only slots of the operations turn; that of a chain's operation that isn't done yet hasn't. -/
structure AgreeC (ops : Array Oper) (C : List Nat) (k : Nat) (a0 a : Act) : Prop extends Agree ops a0 a where
  kp : ∀ (m i : Nat) (o : Oper) (t : Tmp), k ≤ m → C[m]? = some i → ops[i]? = some o → o.dst = some t → a.eval (.tmp t) = a0.eval (.tmp t)

section
variable {P : Program} {ops : Array Oper} {Q : Exit → Act → World → Prop} {md : Region.Mode} {V : Tmp → Value → Prop} {G : Nat → Value → World → Prop} {C : List Nat} {a0 : Act}

/-- What one operation owes while k of the chain are done, k' behind it. -/
def OwesAt (P : Program) (md : Region.Mode) (ops : Array Oper) (Q : Exit → Act → World → Prop) (V : Tmp → Value → Prop) (G : Nat → Value → World → Prop) (C : List Nat) (a0 : Act) (i : Nat) (o : Oper) (k : Nat) : Prop :=
  ∀ a w x, AgreeC ops C k a0 a → G k x w → AllV (fun t v _ => V t v) a w (waits md ops o) →
    wpOp P ops Q i (fun a' w' => ∃ v, a' = a.put o.dst v ∧ (∀ t, o.dst = some t → V t v) ∧ G k x w') a w
/-- The slot of the chain's last one that is done holds x. -/
def Holds' (ops : Array Oper) (C : List Nat) (a : Act) (k : Nat) (x : Value) : Prop := ∀ (m i : Nat) (o : Oper) (t : Tmp), k = m + 1 → C[m]? = some i → ops[i]? = some o → o.dst = some t → a.eval (.tmp t) = x
/-- What the chain's operation m owes. -/
def OwesIn (P : Program) (md : Region.Mode) (ops : Array Oper) (Q : Exit → Act → World → Prop) (V : Tmp → Value → Prop) (G : Nat → Value → World → Prop) (C : List Nat) (a0 : Act) (i : Nat) (o : Oper) (m : Nat) : Prop :=
  ∀ a w x, AgreeC ops C m a0 a → G m x w → Holds' ops C a m x → AllV (fun t v _ => V t v) a w (waits md ops o) →
    wpOp P ops Q i (fun a' w' => ∃ v, a' = a.put o.dst v ∧ (∀ t, o.dst = some t → V t v) ∧ G (m + 1) v w') a w
def OwesC (P : Program) (md : Region.Mode) (ops : Array Oper) (Q : Exit → Act → World → Prop) (V : Tmp → Value → Prop) (G : Nat → Value → World → Prop) (C : List Nat) (a0 : Act) (i : Nat) (o : Oper) : Prop :=
  (∃ m, C[m]? = some i ∧ OwesIn P md ops Q V G C a0 i o m) ∨ (C.contains i = false ∧ ∃ b, aheadOf md ops C i b = true ∧ ∀ k, k ≤ b → OwesAt P md ops Q V G C a0 i o k)

theorem any_edge {md : Region.Mode} {p : Oper} {i : Nat} (h : p.after.any (fun e => Region.binds md e && e.on == i) = true) : ∃ e ∈ p.after, Region.binds md e = true ∧ e.on = i := by
  obtain ⟨j, hj, h1⟩ := Array.any_iff_exists.1 h
  obtain ⟨_, _, h2⟩ := h1
  rw [Bool.and_eq_true, beq_iff_eq] at h2
  exact ⟨_, Array.getElem_mem _, h2.1, h2.2⟩
theorem chain_edge {m i j : Nat} {p : Oper} (h : chainOk md ops C = true) (hi : C[m]? = some i) (hj : C[m + 1]? = some j) (hp : ops[j]? = some p) : ∃ e ∈ p.after, Region.binds md e = true ∧ e.on = i := by
  have := List.all_eq_true.1 h m (List.mem_range.2 (List.getElem?_eq_some_iff.1 hi).1)
  simp only [hi, hj, hp] at this
  exact any_edge this

theorem reach_done {L : Array Bool} (cl : ∀ (i : Nat) (o : Oper), ops[i]? = some o → L.getD i true = true → ∀ e ∈ o.after, Region.binds md e = true → L.getD e.on false = true) :
    ∀ (n j i : Nat), reach md ops n j i = true → L.getD j true = true → L.getD i false = true
  | 0, _, _, h, _ => by cases h
  | n + 1, j, i, h, hl => by
    unfold reach at h
    cases hp : ops[j]? with
    | none => rw [hp] at h; cases h
    | some p =>
      rw [hp] at h
      obtain ⟨q, _, h1⟩ := Array.any_iff_exists.1 h
      obtain ⟨_, _, h2⟩ := h1
      rw [Bool.and_eq_true, Bool.or_eq_true, beq_iff_eq] at h2
      have h3 := cl j p hp hl _ (Array.getElem_mem _) h2.1
      rcases h2.2 with e | hr
      · rw [← e]; exact h3
      · refine reach_done cl n _ i hr ?_
        have : p.after[q].on < L.size := by
          apply Nat.lt_of_not_le; intro hle
          simp [Array.getElem?_eq_none hle] at h3
        simp [this] at h3 ⊢
        exact h3
theorem getD_tf {L : Array Bool} {n i : Nat} (hL : L.size = n) (hi : i < n) : L.getD i true = L.getD i false := by
  simp [show i < L.size by omega]
theorem getD_set_at {L : Array Bool} {i : Nat} (hi : i < L.size) (d : Bool) : (L.setIfInBounds i true).getD i d = true := by simp [hi]
theorem getD_set_ne' {L : Array Bool} {i j : Nat} (h : j ≠ i) (d : Bool) : (L.setIfInBounds i true).getD j d = L.getD j d := by
  have := Ne.symm h
  simp [Array.getD_eq_getD_getElem?, Array.getElem?_setIfInBounds, this]

/-- What is known while the region goes. -/
structure ChainAt (md : Region.Mode) (ops : Array Oper) (V : Tmp → Value → Prop) (G : Nat → Value → World → Prop) (C : List Nat) (a0 : Act) (L : Array Bool) (a : Act) (w : World) (k : Nat) (x : Value) : Prop where
  g : G k x w
  ho : Holds' ops C a k x
  le : k ≤ C.length
  ch : ∀ (m i : Nat), C[m]? = some i → (L.getD i true = true ↔ m < k)
  cl : ∀ (i : Nat) (o : Oper), ops[i]? = some o → L.getD i true = true → ∀ e ∈ o.after, Region.binds md e = true → L.getD e.on false = true
  ag : Agree ops a0 a
  kp : ∀ (i : Nat) (o : Oper) (t : Tmp), ops[i]? = some o → L.getD i true = false → o.dst = some t → a.eval (.tmp t) = a0.eval (.tmp t)
  v : ∀ (i : Nat) (o : Oper) (t : Tmp), ops[i]? = some o → L.getD i true = true → o.dst = some t → V t (a.eval (.tmp t))

theorem ChainAt.agc {L : Array Bool} {a : Act} {w : World} {k : Nat} {x : Value} (h : ChainAt md ops V G C a0 L a w k x) : AgreeC ops C k a0 a :=
  ⟨h.ag, fun m i o t hm hi ho ht => h.kp i o t ho (by
    cases hl : L.getD i true with
    | false => rfl
    | true => exact absurd ((h.ch m i hi).1 hl) (by omega)) ht⟩
theorem wpAny_chain (hok : DrawOk ops a0.tmps.size) (hch : chainOk md ops C = true) (hnd : C.Nodup) (hCl : ∀ i ∈ C, i < ops.size) (step : ∀ (i : Nat) (o : Oper), ops[i]? = some o → OwesC P md ops Q V G C a0 i o)
    (fin : ∀ a w x, Agree ops a0 a → G C.length x w → Holds' ops C a C.length x → (∀ (i : Nat) (o : Oper) (t : Tmp), ops[i]? = some o → o.dst = some t → V t (a.eval (.tmp t))) → Q .normal a w) :
    ∀ (fuel : Nat) (L : Array Bool) (a : Act) (w : World) (k : Nat) (x : Value), unl L ops.size ≤ fuel → L.size = ops.size → ChainAt md ops V G C a0 L a w k x → wpAny P md ops Q fuel L a w := by
  have allL : ∀ L : Array Bool, L.size = ops.size → Region.ready md ops L = [] → ∀ (i : Nat) (o : Oper), ops[i]? = some o → L.getD i true = true := by
    intro L hL hr i o ho
    cases hc : L.getD i true with
    | true => rfl
    | false =>
      obtain ⟨j, hj⟩ := ready_some (md := md) hok hL i (Array.getElem?_eq_some_iff.1 ho).1 hc
      rw [hr] at hj; cases hj
  have done : ∀ (L : Array Bool) (a : Act) (w : World) (k : Nat) (x : Value), L.size = ops.size → ChainAt md ops V G C a0 L a w k x → Region.ready md ops L = [] → Q .normal a w := by
    intro L a w k x hL h hr
    have hk : k = C.length := by
      refine Nat.le_antisymm h.le (Nat.le_of_not_lt fun hlt => ?_)
      have hm : C[k]? = some C[k] := List.getElem?_eq_getElem hlt
      have hi := hCl _ (List.getElem_mem hlt)
      exact Nat.lt_irrefl _ ((h.ch k _ hm).1 (allL L hL hr _ _ (Array.getElem?_eq_getElem hi)))
    subst hk
    exact fin a w x h.ag h.g h.ho (fun i o t ho ht => h.v i o t ho (allL L hL hr i o ho) ht)
  intro fuel
  induction fuel with
  | zero =>
    intro L a w k x hu hL h
    have hr : Region.ready md ops L = [] := by
      apply List.eq_nil_iff_forall_not_mem.2
      intro j hj
      obtain ⟨hun, o, ho, _⟩ := mem_ready.1 hj
      have := unl_pos L ops.size j (Array.getElem?_eq_some_iff.1 ho).1 hun
      omega
    exact ⟨hr, done L a w k x hL h hr⟩
  | succ fuel ih =>
    intro L a w k x hu hL h
    refine ⟨fun hr => done L a w k x hL h hr, fun i hi => ?_⟩
    obtain ⟨hun, o, ho, hall⟩ := mem_ready.1 hi
    have hil : i < ops.size := (Array.getElem?_eq_some_iff.1 ho).1
    have hw : AllV (fun t v _ => V t v) a w (waits md ops o) := AllV.of (by
      intro t ht
      unfold waits at ht
      obtain ⟨e, he, hd⟩ := List.mem_filterMap.1 ht
      obtain ⟨he1, he2⟩ := List.mem_filter.1 he
      cases hj : ops[e.on]? with
      | none => rw [hj] at hd; cases hd
      | some p =>
        rw [hj] at hd
        have hl := hall e (by simpa using he1) he2
        exact h.v e.on p t hj (by rw [getD_tf hL (Array.getElem?_eq_some_iff.1 hj).1]; exact hl) hd)
    -- what follows, with k' of the chain done
    have next : ∀ (k' : Nat) (y : Value → Value), k' ≤ C.length → (∀ v, Holds' ops C (a.put o.dst v) k' (y v)) → (∀ (m j : Nat), C[m]? = some j → ((L.setIfInBounds i true).getD j true = true ↔ m < k')) →
        wpOp P ops Q i (fun a' w' => ∃ v, a' = a.put o.dst v ∧ (∀ t, o.dst = some t → V t v) ∧ G k' (y v) w') a w → wpOp P ops Q i (fun a' w' => wpAny P md ops Q fuel (L.setIfInBounds i true) a' w') a w := by
      intro k' y hk' hho hch' hop
      refine wpOp_mono (fun a' w' hh => ?_) hop
      obtain ⟨v, rfl, hvi, hG'⟩ := hh
      refine ih _ _ _ k' (y v) ?_ (by simpa using hL) ⟨hG', hho v, hk', hch', ?_, ?_, ?_, ?_⟩
      · have := unl_set L i hun ops.size
        rw [if_pos hil] at this; omega
      · intro j p hp hl e he hb
        by_cases hji : j = i
        · subst hji
          rw [ho] at hp; cases hp
          have := hall e he hb
          by_cases hei : e.on = j
          · rw [hei, getD_set_at (by omega)]
          · rw [getD_set_ne' hei]; exact this
        · rw [getD_set_ne' hji] at hl
          have := h.cl j p hp hl e he hb
          by_cases hei : e.on = i
          · rw [hei, getD_set_at (by omega)]
          · rw [getD_set_ne' hei]; exact this
      · refine ⟨by rw [size_put]; exact h.ag.size, by rw [defers_put]; exact h.ag.defers, fun t ht => ?_⟩
        rw [Act.eval_put (fun d hd e => ht i o ho (by cases e; exact hd))]
        exact h.ag.same t ht
      · intro j p t hp hl ht
        have e : j ≠ i := by
          rintro rfl
          rw [getD_set_at (by omega)] at hl; cases hl
        rw [Act.eval_put (fun d hd e2 => by cases e2; exact hok.apart i j o p t ho hp e hd ht)]
        rw [getD_set_ne' e] at hl
        exact h.kp j p t hp hl ht
      · intro j p t hp hl ht
        by_cases e : j = i
        · subst e
          rw [ho] at hp; cases hp
          rw [ht, eval_put_same (by rw [h.ag.size]; exact hok.room j o t ho ht)]
          exact hvi t ht
        · rw [Act.eval_put (fun d hd e2 => by cases e2; exact hok.apart i j o p t ho hp e hd ht)]
          rw [getD_set_ne' e] at hl
          exact h.v j p t hp hl ht
    rcases step i o ho with ⟨m, hm, hop⟩ | ⟨hni, b, hb, hop⟩
    · have hmk : m = k := by
        have h1 : ¬ m < k := fun hlt => by rw [(h.ch m i hm).2 hlt] at hun; cases hun
        have h2 : m ≤ k := by
          cases m with
          | zero => exact Nat.zero_le _
          | succ m =>
            have hlt : m < C.length := by have := (List.getElem?_eq_some_iff.1 hm).1; omega
            have hj : C[m]? = some C[m] := List.getElem?_eq_getElem hlt
            obtain ⟨e, he, hbd, hon⟩ := chain_edge hch hj hm ho
            have := hall e he hbd
            rw [hon] at this
            exact (h.ch m _ hj).1 (by rw [getD_tf hL (hCl _ (List.getElem_mem hlt))]; exact this)
        omega
      subst hmk
      have hmlt : m < C.length := (List.getElem?_eq_some_iff.1 hm).1
      refine next (m + 1) (fun v => v) hmlt ?_ ?_ (hop a w x h.agc h.g h.ho hw)
      · intro v m2 j p t hm2 hj hp ht
        obtain rfl : m2 = m := by omega
        rw [hm] at hj; cases hj
        rw [ho] at hp; cases hp
        rw [ht, eval_put_same (by rw [h.ag.size]; exact hok.room i o t ho ht)]
      intro m2 j hj
      by_cases hji : j = i
      · subst hji
        have : m2 = m := by
          obtain ⟨l2, e2⟩ := List.getElem?_eq_some_iff.1 hj
          obtain ⟨l1, e1⟩ := List.getElem?_eq_some_iff.1 hm
          exact (List.getElem_inj hnd).1 (e2.trans e1.symm)
        subst this
        rw [getD_set_at (by omega)]
        exact ⟨fun _ => Nat.lt_succ_self _, fun _ => rfl⟩
      · rw [getD_set_ne' hji, h.ch m2 j hj]
        have : m2 ≠ m := by
          rintro rfl
          rw [hm] at hj; cases hj; exact hji rfl
        omega
    · have hkb : k ≤ b := by
        unfold aheadOf at hb
        rw [Bool.or_eq_true, beq_iff_eq] at hb
        rcases hb with rfl | hb
        · exact h.le
        · cases hj : C[b]? with
          | none => rw [hj] at hb; cases hb
          | some j =>
            rw [hj] at hb
            simp only at hb
            refine Nat.le_of_not_lt fun hlt => ?_
            have := reach_done h.cl 16 j i hb ((h.ch b j hj).2 hlt)
            rw [← getD_tf hL hil, hun] at this
            cases this
      refine next k (fun _ => x) h.le ?_ ?_ (hop k hkb a w x h.agc h.g hw)
      · intro v m2 j p t hm2 hj hp ht
        have hji : j ≠ i := by
          rintro rfl
          have := List.mem_of_getElem? hj
          rw [List.contains_eq_mem, decide_eq_false_iff_not] at hni
          exact hni this
        rw [Act.eval_put (fun d hd e2 => by cases e2; exact hok.apart i j o p t ho hp hji hd ht)]
        exact h.ho m2 j p t hm2 hj hp ht
      intro m2 j hj
      have hji : j ≠ i := by
        rintro rfl
        have := List.mem_of_getElem? hj
        rw [List.contains_eq_mem, decide_eq_false_iff_not] at hni
        exact hni this
      rw [getD_set_ne' hji, h.ch m2 j hj]

/-- The obligations one after the other. -/
def OweAllC (P : Program) (md : Region.Mode) (ops : Array Oper) (Q : Exit → Act → World → Prop) (V : Tmp → Value → Prop) (G : Nat → Value → World → Prop) (C : List Nat) (a0 : Act) : Nat → List Oper → Prop
  | _, [] => True
  | k, o :: r => OwesC P md ops Q V G C a0 k o ∧ OweAllC P md ops Q V G C a0 (k + 1) r
theorem OweAllC.get : ∀ {l : List Oper} {k : Nat}, OweAllC P md ops Q V G C a0 k l → ∀ (i : Nat) (o : Oper), l[i]? = some o → OwesC P md ops Q V G C a0 (k + i) o
  | _ :: _, k, h, 0, o, hi => by cases hi; exact h.1
  | _ :: r, k, h, i + 1, o, hi => by
    have := OweAllC.get h.2 i o (by simpa using hi)
    rwa [show k + 1 + i = k + (i + 1) by omega] at this
  | [], _, _, i, o, hi => by simp at hi
theorem OweAllC.cons {k : Nat} {o : Oper} {r : List Oper} (h : OwesC P md ops Q V G C a0 k o) (h2 : OweAllC P md ops Q V G C a0 (k + 1) r) : OweAllC P md ops Q V G C a0 k (o :: r) := ⟨h, h2⟩
theorem OweAllC.nil {k : Nat} : OweAllC P md ops Q V G C a0 k [] := trivial

theorem wp_region_chain {id : Nat} {w : World} (V : Tmp → Value → Prop) (G : Nat → Value → World → Prop) (C : List Nat) (N : Nat) (hm : P.follows .mixedOrders = true) (hok : drawOk ops N = true) (hN : a0.tmps.size = N)
    (hch : chainOk .any ops C = true) (hnd : decide C.Nodup = true) (hCl : C.all (· < ops.size) = true) (hG : G 0 undef w.drew)
    (step : OweAllC P .any ops Q V G C a0 0 ops.toList)
    (fin : ∀ f w x, G C.length x w → (∀ (m i : Nat) (o : Oper) (t : Tmp), C.length = m + 1 → C[m]? = some i → ops[i]? = some o → o.dst = some t → f t = x) → (∀ (i : Nat) (o : Oper) (t : Tmp), ops[i]? = some o → o.dst = some t → V t (f t)) → Q .normal (puts f (dsts ops) a0) w) : (Code.region id ops true).wp P Q a0 w := by
  subst hN
  have hok := drawOk_spec hok
  have hCl' : ∀ i ∈ C, i < ops.size := fun i hi => by simpa using List.all_eq_true.1 hCl i hi
  have hL0 : ∀ i, i < ops.size → (Array.replicate ops.size false).getD i true = false := fun i hi => by simp [hi]
  refine wp_region_any hm (wpAny_chain (V := V) (G := G) (C := C) hok hch (of_decide_eq_true hnd) hCl' (fun i o ho => ?_) (fun a w x ha hg hh hv => ?_) ops.size _ a0 _ 0 undef (unl_le _ _) (by simp) ⟨hG, (fun m i o t h => by omega), Nat.zero_le _, ?_, ?_, ⟨rfl, rfl, fun _ _ => rfl⟩, (fun _ _ _ _ _ _ => rfl), ?_⟩)
  · have := step.get i o (by simpa using ho)
    rwa [Nat.zero_add] at this
  · rw [ha.puts hok]
    exact fin _ w x hg hh hv
  · intro m i hi
    have := hCl' i (List.mem_of_getElem? hi)
    rw [hL0 i this]
    simp
  · intro i o ho hl
    rw [hL0 i (Array.getElem?_eq_some_iff.1 ho).1] at hl; cases hl
  · intro i o t ho hl _
    rw [hL0 i (Array.getElem?_eq_some_iff.1 ho).1] at hl; cases hl

/-- An operation beside the chain that yields a value and turns nothing. -/
theorem owesC_val {i : Nat} {o : Oper} {t : Tmp} (b : Nat) (hb : aheadOf md ops C i b = true) (hni : C.contains i = false) (hi : ops[i]? = some o) (ht : o.dst = some t)
    (h : ∀ k a w x, k ≤ b → AgreeC ops C k a0 a → G k x w → AllV (fun t v _ => V t v) a w (waits md ops o) → ∃ v, Region.wanted o (yielded ops a.tmps) = true ∧ (execOp a.eval o).run P w = .ok (.value v) w ∧ V t v) : OwesC P md ops Q V G C a0 i o := by
  refine .inr ⟨hni, b, hb, fun k hk a w x ha hG hV => ?_⟩
  obtain ⟨v, hw, hr, hv⟩ := h k a w x hk ha hG hV
  unfold wpOp
  rw [hi]
  simp only [hw, if_true, Oper.wp, hr, Oper.upon]
  exact .inl ⟨v, rfl, fun u hu => by rw [ht] at hu; cases hu; exact hv, hG⟩
/-- A call beside the chain. -/
theorem owesC_side {i : Nat} {o : Oper} {t : Tmp} (b : Nat) (hb : aheadOf md ops C i b = true) (hni : C.contains i = false) (hi : ops[i]? = some o) (ht : o.dst = some t) (f : FuncId)
    (h : ∀ k a w x, k ≤ b → AgreeC ops C k a0 a → G k x w → AllV (fun t v _ => V t v) a w (waits md ops o) → ∃ args, Region.wanted o (yielded ops a.tmps) = true ∧ (execOp a.eval o).run P w = .ok (.enter f args) w ∧
      Calls P f args w fun e w' => ∃ v, e = .returned v ∧ V t v ∧ G k x w') : OwesC P md ops Q V G C a0 i o := by
  refine .inr ⟨hni, b, hb, fun k hk a w x ha hG hV => ?_⟩
  obtain ⟨args, hw, hr, hc⟩ := h k a w x hk ha hG hV
  unfold wpOp
  rw [hi]
  simp only [hw, if_true, Oper.wp, hr, Oper.upon]
  refine .inl (hc.mono ?_)
  rintro e w' ⟨v, rfl, h1, h2⟩
  exact ⟨v, rfl, fun u hu => by rw [ht] at hu; cases hu; exact h1, h2⟩
/-- A call of the chain. -/
theorem owesC_call {i : Nat} {o : Oper} {t : Tmp} (m : Nat) (hm : C[m]? = some i) (hi : ops[i]? = some o) (ht : o.dst = some t) (f : FuncId)
    (h : ∀ a w x, AgreeC ops C m a0 a → G m x w → Holds' ops C a m x → AllV (fun t v _ => V t v) a w (waits md ops o) → ∃ args, Region.wanted o (yielded ops a.tmps) = true ∧ (execOp a.eval o).run P w = .ok (.enter f args) w ∧
      Calls P f args w fun e w' => ∃ v, e = .returned v ∧ V t v ∧ G (m + 1) v w') : OwesC P md ops Q V G C a0 i o := by
  refine .inl ⟨m, hm, fun a w x ha hG hh hV => ?_⟩
  obtain ⟨args, hw, hr, hc⟩ := h a w x ha hG hh hV
  unfold wpOp
  rw [hi]
  simp only [hw, if_true, Oper.wp, hr, Oper.upon]
  refine .inl (hc.mono ?_)
  rintro e w' ⟨v, rfl, h1, h2⟩
  exact ⟨v, rfl, fun u hu => by rw [ht] at hu; cases hu; exact h1, h2⟩
/-- An operation of the chain that yields a value and turns memory. -/
theorem owesC_mem {i : Nat} {o : Oper} {t : Tmp} (m : Nat) (hm : C[m]? = some i) (hi : ops[i]? = some o) (ht : o.dst = some t)
    (h : ∀ a w x, AgreeC ops C m a0 a → G m x w → Holds' ops C a m x → AllV (fun t v _ => V t v) a w (waits md ops o) → ∃ v w', Region.wanted o (yielded ops a.tmps) = true ∧ (execOp a.eval o).run P w = .ok (.value v) w' ∧ V t v ∧ G (m + 1) v w') : OwesC P md ops Q V G C a0 i o := by
  refine .inl ⟨m, hm, fun a w x ha hG hh hV => ?_⟩
  obtain ⟨v, w', hw, hr, h1, h2⟩ := h a w x ha hG hh hV
  unfold wpOp
  rw [hi]
  simp only [hw, if_true, Oper.wp, hr, Oper.upon]
  exact .inl ⟨v, rfl, fun u hu => by rw [ht] at hu; cases hu; exact h1, h2⟩
/-- A store of the chain. -/
theorem owesC_store {i : Nat} {o : Oper} (m : Nat) (hm : C[m]? = some i) (hi : ops[i]? = some o) (ht : o.dst = none)
    (h : ∀ a w x, AgreeC ops C m a0 a → G m x w → Holds' ops C a m x → AllV (fun t v _ => V t v) a w (waits md ops o) → ∃ w', Region.wanted o (yielded ops a.tmps) = true ∧ (execOp a.eval o).run P w = .ok .skip w' ∧ G (m + 1) undef w') : OwesC P md ops Q V G C a0 i o := by
  refine .inl ⟨m, hm, fun a w x ha hG hh hV => ?_⟩
  obtain ⟨w', hw, hr, h2⟩ := h a w x ha hG hh hV
  unfold wpOp
  rw [hi]
  simp only [hw, if_true, Oper.wp, hr, Oper.upon]
  exact .inl ⟨undef, rfl, fun u hu => (by rw [ht] at hu; cases hu), h2⟩
/-- An operation of the chain by its own law (an append). -/
theorem owesC_law {i : Nat} {o : Oper} (m : Nat) (hm : C[m]? = some i) (hi : ops[i]? = some o)
    (h : ∀ a w x, AgreeC ops C m a0 a → G m x w → Holds' ops C a m x → AllV (fun t v _ => V t v) a w (waits md ops o) → Region.wanted o (yielded ops a.tmps) = true ∧
      ∀ K : Act → World → Prop, (∀ v w', (∀ t, o.dst = some t → V t v) → G (m + 1) v w' → K (a.put o.dst v) w') → o.wp P a w K Q) : OwesC P md ops Q V G C a0 i o := by
  refine .inl ⟨m, hm, fun a w x ha hG hh hV => ?_⟩
  obtain ⟨hw, hl⟩ := h a w x ha hG hh hV
  unfold wpOp
  rw [hi]
  simp only [hw, if_true]
  exact .inl (hl _ (fun v w' h1 h2 => ⟨v, rfl, h1, h2⟩))
end
end Go.Proofs.Ytdahkemeoefndaa
namespace Go.Proofs.Ytdahkemeoefndaa
open Go
/-- A slot is written, by an operation of no region. -/
def mv (t : Tmp) (v : Value) : Oper := { dst := some t, op := .move (.const v), type := 0, pos := "", after := #[], guard := none }
theorem moves_back {P : Program} {ops : Array Oper} {Q : Exit → Act → World → Prop} (f : Tmp → Value) : ∀ (l : List Tmp) (a : Act) (w : World), wpList P ops Q (l.map fun t => mv t (f t)) a w → Q .normal (puts f l a) w
  | [], _, _, h => h
  | t :: r, a, w, h => by
    refine moves_back (P := P) (ops := ops) f r (a.put (some t) (f t)) w ?_
    rw [List.map_cons, wpList] at h
    have hw : Region.wanted (mv t (f t)) (yielded ops a.tmps) = true := rfl
    rw [if_pos hw] at h
    rcases h with h | h
    · unfold Oper.wp at h
      have he : (execOp a.eval (mv t (f t))).run P w = .ok (.value (f t)) w := rfl
      rw [he] at h
      exact h
    · exfalso
      have he : ((execOp a.eval (mv t (f t))).runT P w #[]).2 = #[] := rfl
      have h1 := h.1.1
      rw [he] at h1
      simp at h1
end Go.Proofs.Ytdahkemeoefndaa

namespace Go.Proofs.Ytdahkemeoefndaa
open Go.RowKit

/-- What has turned of what was there is the writer's. -/
def Wr (w w' : World) : Prop := Mod (fun k => ∃ cs T fr, w.heap[k]? = some (.cells cs T fr) ∧ (T = 53 ∨ T = 5)) w w'
theorem Wr.row {w w' : World} (h : Wr w w') {g : Nat} {cs : Array Value} {T : TypeId} {fr : Nat × Nat} (hg : w.heap[g]? = some (.cells cs T fr)) (h1 : T ≠ 53) (h2 : T ≠ 5) (_ : True) : w'.heap[g]? = some (.cells cs T fr) := by
  refine (h.block g (Array.getElem?_eq_some_iff.1 hg).1 ?_).trans hg
  rintro ⟨cs', T', fr', e, ht⟩
  rw [hg] at e
  simp only [Option.some.injEq, Obj.cells.injEq] at e
  obtain ⟨_, rfl, _⟩ := e
  rcases ht with ht | ht
  · exact h1 ht
  · exact h2 ht
theorem pr_wr {w w' : World} {q : Option Addr} {c : Nat} {E : List (Nat × Nat)} (h : Pr 38 w q c E) (hw : Wr w w') : Pr 38 w' q c E := by
  refine h.kept hw ?_
  rintro a rfl ⟨cs, T, fr, e, ht⟩
  rcases h.shape with ⟨e', _⟩ | ⟨g, e', _, _, _, cur, hh, _⟩
  · cases e'
  · cases e'
    rw [hh] at e
    simp only [Option.some.injEq, Obj.cells.injEq] at e
    obtain ⟨_, rfl, _⟩ := e
    rcases ht with ht | ht <;> exact absurd ht (by decide)
theorem wr_of_num {w w' : World} {b : Nat} {v : Value} {bs bs' : List UInt8} {r : Ending} (hO : OutAt 53 5 w b v bs) (h : NumPost b v bs' w r w') : Wr w w' := by
  obtain ⟨_, v', _, hM, _⟩ := h
  refine hM.mono ?_
  rintro i hi (rfl | h)
  · exact ⟨_, _, _, hO.blk, .inl rfl⟩
  · rcases hO.own.2 with ⟨rfl, _⟩ | ⟨g, cap, cur, rfl, _, hh, _⟩
    · simp [Value.ownBlock] at h
    · simp [Value.ownBlock] at h
      subst h
      exact ⟨_, _, _, hh, .inr rfl⟩
theorem out_numW (W0 : World) (b : Nat) (bs : List UInt8) (x : Int) (w : World) (h : OutSt W0 b bs w) (hl : bs.length ≤ 1099511627776) (h0 : -9223372036854775808 ≤ x) (h1 : x ≤ 9223372036854775807) :
    Calls Try.prog 20 #[.pointer (some ⟨b, 0, none⟩), .int .i64 x] w fun r w' => r = .returned (.pointer (some ⟨b, 0, none⟩)) ∧ OutSt W0 b (bs ++ numL x) w' ∧ Wr w w' := by
  obtain ⟨v, hO, hv, hB⟩ := h
  exact (num_any x b v bs w h0 h1 hO hl).mono fun _ _ hp => ⟨(OutSt.of_post hO hv hB hp).1, (OutSt.of_post hO hv hB hp).2, wr_of_num hO hp⟩
theorem encE_len (E : List (Nat × Nat)) (h : ∀ x ∈ E, x.1 ≤ 1099511627776 ∧ x.2 ≤ 1099511627776) : (encE E).length ≤ 18 * E.length := by
  induction E with
  | nil => simp [encE]
  | cons e E ih =>
    have h0 := h e (by simp)
    have h1 := numL_len (e.1 : Int) (by omega)
    have h2 := numL_len (e.2 : Int) (by omega)
    have h3 := ih (fun x hx => h x (by simp [hx]))
    have e1 : encE (e :: E) = (numL (e.1 : Int) ++ numL (e.2 : Int)) ++ encE E := rfl
    rw [e1, List.length_append, List.length_append, List.length_cons]; omega
theorem encE_take (E : List (Nat × Nat)) (i : Nat) (hi : i < E.length) : encE (E.take (i + 1)) = encE (E.take i) ++ numL (E[i].1 : Int) ++ numL (E[i].2 : Int) := by
  rw [List.take_succ_eq_append_getElem hi, encE_snoc, List.append_assoc]

set_option maxRecDepth 20000 in
set_option maxHeartbeats 8000000 in
theorem tbytes_any (P : List Nat) (w : World) (hP : IsTab P) :
    Calls Try.prog 9 #[tval P] w fun r w' => r = .returned (.string ⟨(numL ((tents P 64).length : Int) ++ encE (tents P 64)).toArray⟩) ∧ Below w.heap.size w w' := by
  have hen := fun w => entries_any P w hP
  have hok := tents_ok hP
  obtain ⟨E, hE⟩ : ∃ E, E = tents P 64 := ⟨_, rfl⟩
  rw [← hE] at hok hen ⊢
  have hle : Hid (∀ x ∈ E, x.1 ≤ 1099511627776 ∧ x.2 ≤ 1099511627776) := Lib.hid (fun x hx => ⟨by have := hok.m x hx; omega, (hok.p x hx).2⟩)
  have hl := hok.len
  unfold tval at hen ⊢
  obtain ⟨A, hA⟩ : ∃ A, A = (nums .i64 P).toArray := ⟨_, rfl⟩
  have hAs := hP.row hA
  rw [← hA] at hen ⊢
  have Hen := Lib.hid hen
  obtain ⟨n, hn⟩ : ∃ n, n = E.length := ⟨_, rfl⟩
  rw [← hn] at hl ⊢
  have Hn := Lib.hid hn
  obtain ⟨F, hF⟩ : ∃ F, F = numL (n : Int) ++ encE E := ⟨_, rfl⟩
  rw [← hF]
  have HF := Lib.hid hF
  have hrow : (w.alloc (.cells A 26)).heap[w.heap.size]? = some (.cells A 26 (0, 0)) := heap_alloc_new _ _
  have hB : Below w.heap.size w (w.alloc (.cells A 26)) := (Below.refl _ _).alloc (Nat.le_refl _) _
  clear hF hn hA hE hok hen hP
  go_enter Try.func9, Try.ntmps9
  go_upto_region 2 with fail
  have hW0 : (w.alloc (.cells A 26)).heap.size = w.heap.size + 1 := World.size_alloc _ _
  generalize w.alloc (.cells A 26) = W0 at hrow hB hW0 ⊢
  have HO0 := OutSt.made W0
  rw [hW0] at HO0
  have HO := Lib.hid HO0
  clear HO0
  have hrow2 : (W0.alloc (.cells #[.slice none 0 0] 53)).heap[w.heap.size]? = some (.cells A 26 (0, 0)) := ((Below.refl W0.heap.size W0).alloc (Nat.le_refl _) _).block _ (Array.getElem?_eq_some_iff.1 hrow).1 |>.trans hrow
  have hb0 : Hid (∃ b, b = w.heap.size + 1) := Lib.hid ⟨_, rfl⟩
  obtain ⟨b, hb⟩ := hb0.out
  rw [← hb] at HO ⊢
  have hwb : Hid (w.heap.size ≤ b) := Lib.hid (by omega)
  generalize W0.alloc (.cells #[.slice none 0 0] 53) = W1 at HO hrow2 ⊢
  clear hb hb0 hrow hW0
  have HB := Lib.hid hB
  clear hB
  go_wp2_with (refine wpList_load_row rfl 26 (.tmp 1) rfl w.heap.size rfl 26 A (0, 0) _ hrow2 Try.underlying26 rfl ?s1 ?_)
  case s1 => rw [hAs]; kernel_rfl
  refine (Hen.out _).mono ?_
  rintro r w2 ⟨q, c, rfl, hPr, hb2⟩
  rw [← Hn.out]
  have HS := Lib.hid (And.intro (HO.out.old hb2) hPr)
  clear hb2 hPr HO hrow2 Hen hAs
  go_wp2_with fail
  refine (out_numW W0 b [] (n : Int) w2 HS.out.1 (by simp) (by omega) (by omega)).mono ?_
  rintro r w3 ⟨rfl, hO, hw⟩
  have HS2 : Hid (OutSt W0 b (numL (n : Int) ++ encE (E.take 0)) w3 ∧ Pr 38 w3 q c E) := Lib.hid ⟨by simpa [encE] using hO, pr_wr HS.out.2 hw⟩
  clear hO hw HS
  go_wp2_with fail
  go_loopw [14] (fun s14 wr => ∃ i : Nat, i ≤ n ∧ s14 = .int .i64 (i : Int) ∧ Hid (OutSt W0 b (numL (n : Int) ++ encE (E.take i)) wr ∧ Pr 38 wr q c E)) (fun i _ => n - (intOf i).toNat)
  case atStart => exact ⟨0, Nat.zero_le _, rfl, HS2⟩
  case round =>
    clear HS2
    obtain ⟨i, hi, rfl, HS⟩ := hrel
    by_cases hlt : i < n
    · have hil : i < E.length := by rw [← Hn.out]; exact hlt
      obtain ⟨bs, off, rfl, hbs, c1, c2⟩ := HS.out.2.ents i hil
      have hx := hle.out _ (List.getElem_mem hil)
      have ht := encE_take E i hil
      have hel := encE_len (E.take i) (fun x hx => hle.out x (List.mem_of_mem_take hx))
      have hnl := numL_len (n : Int) (by omega)
      rw [List.length_take] at hel
      obtain ⟨m, hm⟩ : ∃ m, m = E[i].1 := ⟨_, rfl⟩
      obtain ⟨p, hp⟩ : ∃ m, m = E[i].2 := ⟨_, rfl⟩
      rw [← hm] at hx c1 ht
      rw [← hp] at hx c2 ht
      obtain ⟨B0, hB0⟩ : ∃ B, B = numL (n : Int) ++ encE (E.take i) := ⟨_, rfl⟩
      have l0 : B0.length ≤ 2000 := by rw [hB0, List.length_append]; omega
      obtain ⟨B1, hB1⟩ : ∃ B, B = B0 ++ numL (m : Int) := ⟨_, rfl⟩
      have l1 : B1.length ≤ 2100 := by have := numL_len (m : Int) (by omega); rw [hB1, List.length_append]; omega
      obtain ⟨B2, hB2⟩ : ∃ B, B = B1 ++ numL (p : Int) := ⟨_, rfl⟩
      have hfin : Hid (numL (n : Int) ++ encE (E.take (i + 1)) = B2) := Lib.hid (by rw [hB2, hB1, hB0, ht]; simp [List.append_assoc])
      rw [← hB0] at HS
      have HB1 := Lib.hid hB1
      have HB2 := Lib.hid hB2
      have i0 : (0 : Int) ≤ i := by omega
      have i1 : (i : Int) < n := by omega
      clear hB0 hB1 hB2 ht hel hnl hm hp hbs
      go_upto_region 7 with fail
      obtain ⟨g, hg⟩ : ∃ g, g = wr.heap.size := ⟨_, rfl⟩
      have hrw : (wr.alloc (.cells #[.int .i64 (m : Int), .int .i64 (p : Int)] 38)).heap[g]? = some (.cells #[.int .i64 (m : Int), .int .i64 (p : Int)] 38 (0, 0)) := by rw [hg]; exact heap_alloc_new _ _
      rw [← hg]
      have HS3 := HS.out.1.old ((Below.refl wr.heap.size wr).alloc (Nat.le_refl _) (.cells #[.int .i64 (m : Int), .int .i64 (p : Int)] 38))
      have HS4 := HS.out.2.old ((Below.refl wr.heap.size wr).alloc (Nat.le_refl _) (.cells #[.int .i64 (m : Int), .int .i64 (p : Int)] 38))
      generalize wr.alloc (.cells #[.int .i64 (m : Int), .int .i64 (p : Int)] 38) = WA at hrw HS3 HS4 ⊢
      obtain ⟨q, hq⟩ : ∃ q, q = some (⟨bs, off, none⟩ : Addr) := ⟨_, rfl⟩
      rw [← hq] at HS4
      have HG0 : Hid ((fun (j : Nat) (_ : Value) (w' : World) => OutSt W0 b (match j with | 0 => B0 | 1 => B1 | _ => B2) w' ∧ w'.heap[g]? = some (.cells #[.int .i64 (m : Int), .int .i64 (p : Int)] 38 (0, 0)) ∧ Pr 38 w' q c E) 0 undef WA.drew) := Lib.hid ⟨HS3.old (Below.refl _ _).drew, ((Below.refl WA.heap.size WA).drew.block g (Array.getElem?_eq_some_iff.1 hrw).1).trans hrw, HS4.old (Below.refl _ _).drew⟩
      clear hrw HS3 HS4 HS hg
      refine wp_region_chain (fun t v => match t with
        | 18 => v = .pointer (some ⟨g, 0, none⟩)
        | 19 => v = .int .i64 (m : Int)
        | 20 => v = .pointer (some ⟨b, 0, none⟩)
        | 21 => v = .pointer (some ⟨g, 1, none⟩)
        | 22 => v = .int .i64 (p : Int)
        | 23 => v = .pointer (some ⟨b, 0, none⟩)
        | _ => True) (fun (j : Nat) (_ : Value) (w' : World) => OutSt W0 b (match j with | 0 => B0 | 1 => B1 | _ => B2) w' ∧ w'.heap[g]? = some (.cells #[.int .i64 (m : Int), .int .i64 (p : Int)] 38 (0, 0)) ∧ Pr 38 w' q c E) [2, 5] 26 (by kernel_rfl) (by decide +kernel) rfl (by decide +kernel) (by decide) (by decide) HG0.out (by
        refine OweAllC.cons (owesC_val 0 (by decide +kernel) (by decide) rfl rfl fun k' a w1 x hk ha hG hV => ?_) ?_
        · skip
          have h6 := ha.outer 6 (by decide +kernel)
          simp only [Act.eval] at h6
          exact ⟨.pointer (some ⟨g, 0, none⟩), wanted_free rfl, by simp [execOp, go_sem, h6], rfl⟩
        refine OweAllC.cons (owesC_val 0 (by decide +kernel) (by decide) rfl rfl fun k' a w1 x hk ha hG hV => ?_) ?_
        · skip
          have h18 : a.tmps.getD 18 undef = .pointer (some ⟨g, 0, none⟩) := hV.get 18 (by decide +kernel)
          have cc : w1.cell? ⟨g, 0, none⟩ = _ := cell_of_row w1 g 0 _ 38 (0, 0) hG.2.1
          exact ⟨.int .i64 (m : Int), wanted_free rfl, by simp [execOp, go_sem, h18, cc], rfl⟩
        refine OweAllC.cons (owesC_call 0 rfl rfl rfl 20 fun a w1 x ha hG hx hV => ?_) ?_
        · skip
          have h3 := ha.outer 3 (by decide +kernel)
          simp only [Act.eval] at h3
          have h19 : a.tmps.getD 19 undef = .int .i64 (m : Int) := hV.get 19 (by decide +kernel)
          refine ⟨#[.pointer (some ⟨b, 0, none⟩), .int .i64 (m : Int)], wanted_free rfl, by simp [execOp, resolve, invoke, go_sem, h3, h19], ?_⟩
          refine (out_numW W0 b B0 (m : Int) w1 hG.1 (by omega) (by omega) (by omega)).mono ?_
          rintro r u2 ⟨rfl, hO, hw⟩; exact ⟨_, rfl, rfl, by rw [← HB1.out] at hO; exact hO, hw.row hG.2.1 (by decide) (by decide) (by decide), pr_wr hG.2.2 hw⟩
        refine OweAllC.cons (owesC_val 1 (by decide +kernel) (by decide) rfl rfl fun k' a w1 x hk ha hG hV => ?_) ?_
        · skip
          have h6 := ha.outer 6 (by decide +kernel)
          simp only [Act.eval] at h6
          exact ⟨.pointer (some ⟨g, 1, none⟩), wanted_free rfl, by simp [execOp, go_sem, h6], rfl⟩
        refine OweAllC.cons (owesC_val 1 (by decide +kernel) (by decide) rfl rfl fun k' a w1 x hk ha hG hV => ?_) ?_
        · skip
          have h21 : a.tmps.getD 21 undef = .pointer (some ⟨g, 1, none⟩) := hV.get 21 (by decide +kernel)
          have cc : w1.cell? ⟨g, 1, none⟩ = _ := cell_of_row w1 g 1 _ 38 (0, 0) hG.2.1
          exact ⟨.int .i64 (p : Int), wanted_free rfl, by simp [execOp, go_sem, h21, cc], rfl⟩
        refine OweAllC.cons (owesC_call 1 rfl rfl rfl 20 fun a w1 x ha hG hx hV => ?_) ?_
        · skip
          have h20 : a.tmps.getD 20 undef = .pointer (some ⟨b, 0, none⟩) := hV.get 20 (by decide +kernel)
          have h22 : a.tmps.getD 22 undef = .int .i64 (p : Int) := hV.get 22 (by decide +kernel)
          refine ⟨#[.pointer (some ⟨b, 0, none⟩), .int .i64 (p : Int)], wanted_free rfl, by simp [execOp, resolve, invoke, go_sem, h20, h22], ?_⟩
          refine (out_numW W0 b B1 (p : Int) w1 hG.1 (by omega) (by omega) (by omega)).mono ?_
          rintro r u2 ⟨rfl, hO, hw⟩; exact ⟨_, rfl, rfl, by rw [← HB2.out] at hO; exact hO, hw.row hG.2.1 (by decide) (by decide) (by decide), pr_wr hG.2.2 hw⟩
        exact OweAllC.nil
        ) ?_
      intro f wz xz hG hx hv
      first | (rename_i hK; refine hK _ _ ?_; clear hK) | (rename_i hK _; refine hK _ _ ?_; clear hK) | (rename_i hK _ _; refine hK _ _ ?_; clear hK) | (rename_i hK _ _ _; refine hK _ _ ?_; clear hK)
      clear hv hx
      simp only [dsts, puts, List.filterMap_cons, List.filterMap_nil, List.foldl_cons, List.foldl_nil, Act.put, List.setIfInBounds_toArray, List.set_cons_succ, List.set_cons_zero]
      obtain ⟨hG1, -, hG3⟩ : OutSt W0 b B2 wz ∧ _ ∧ Pr 38 wz q c E := hG
      have HZ2 : Hid (OutSt W0 b (numL (n : Int) ++ encE (E.take (i + 1))) wz ∧ Pr 38 wz (some ⟨bs, off, none⟩) c E) := Lib.hid ⟨by rw [hfin.out]; exact hG1, by rw [← hq]; exact hG3⟩
      clear HG0 hG1 hG3 HB1 HB2 hfin l0 l1 hq
      go_wp2_with fail
      go_roundw
      case rel => exact ⟨i + 1, by omega, by go_num, HZ2⟩
      case measure => simp [intOf]; omega
    · have i1 : ¬ (i : Int) < n := by omega
      have e : i = n := by omega
      have HT : Hid (OutSt W0 b F wr) := Lib.hid (by
        have h := HS.out.1
        rw [e, Hn.out, List.take_length, ← Hn.out, ← HF.out] at h
        exact h)
      clear HS
      go_wp2_with fail
      refine (out_bytes W0 b F wr HT.out).mono ?_
      rintro r w' ⟨rfl, rfl⟩
      go_wp2_with fail
      go_ret
      exact ⟨rfl, HB.out.trans (HT.out.below.mono hwb.out)⟩
end Go.Proofs.Ytdahkemeoefndaa

namespace Go.Proofs.Ytdahkemeoefndaa
open Go.RowKit

theorem tsum_new {E : List (Nat × Nat)} (h : EntsOk E 1) : tsum (wth (List.replicate 64 0) E) = esum E := by
  have h0 := tsum_wth E (List.replicate 64 0) (fun e he => ⟨by rw [List.length_replicate]; exact h.m e he, by rw [List.getD_eq_getElem?_getD, List.getElem?_replicate]; split <;> rfl⟩) h.pair
  rw [h0, tsum_zero, Nat.zero_add]

set_option maxRecDepth 20000 in
set_option maxHeartbeats 8000000 in
theorem reads_walk (s0 : List UInt8) (w : World) (hl : (s0.length : Int) ≤ 9223372036854775807) :
    Calls Try.prog 3 #[.string ⟨s0.toArray⟩] w fun r w' => r = .returned (.bool true) ∧ Below w.heap.size w w' := by
  have haw := awake_any w
  obtain ⟨s, hs⟩ : ∃ s, s = s0.take 300 := ⟨_, rfl⟩
  have hsl : s.length ≤ 300 := by rw [hs, List.length_take]; omega
  have hcut := fun w' => cut_any s0 300 w' hl (by decide)
  rw [← hs] at hcut
  have Hcut := Lib.hid hcut
  have hpar := fun w' => tparse_any s w' (by omega)
  have href := fun w' => rparse_any s w' (by omega)
  unfold tval at hpar
  have hT := parT_tab s
  obtain ⟨AP, hAP⟩ : ∃ A, A = (nums .i64 (parT s)).toArray := ⟨_, rfl⟩
  have hQs : AP.size = 64 := hT.row hAP
  have h2 : Hid (∀ v ∈ AP.toList, v.oneCell' = true) := Lib.hid (by rw [hAP]; intro v hv; exact nums_one .i64 _ v (by simpa using hv))
  obtain ⟨R, hR⟩ : ∃ R, R = tabR s := ⟨_, rfl⟩
  rw [← hAP, ← hR] at hpar
  have Hpar := Lib.hid hpar
  have Href := Lib.hid href
  obtain ⟨Z, hZ⟩ : ∃ Z, Z = (nums .i64 (List.replicate 64 0)).toArray := ⟨_, rfl⟩
  have hz : ∀ w : World, (zeroValue 26).run Try.prog w = .ok (.agg Z) w := by rw [hZ]; exact fun _ => by kernel_rfl
  have hZs : Z.size = 64 := by rw [hZ]; simp [nums_len]
  have HAP := Lib.hid hAP
  have HR := Lib.hid hR
  clear hs hcut hpar href hAP hR hZ hl
  go_enter Try.func3, Try.ntmps3
  go_wp2_with fail
  refine haw.mono ?_
  rintro r w1 ⟨rfl, hb1⟩
  have HB1 := Lib.hid hb1
  clear haw hb1
  go_wp2_with fail
  refine (Hcut.out w1).mono ?_
  rintro r w' ⟨rfl, rfl⟩
  clear Hcut
  go_wp2_with fail
  refine (Hpar.out w1).mono ?_
  rintro r w2 ⟨rfl, hb2⟩
  have HB2 := Lib.hid (HB1.out.trans (hb2.mono HB1.out.size))
  clear hb2 HB1 Hpar
  have hrow : (w2.alloc (.cells Z 26)).heap[w2.heap.size]? = some (.cells Z 26 (0, 0)) := heap_alloc_new _ _
  go_wp2_with (refine wpList_store_row rfl rfl 26 (.tmp 3) (.tmp 14) rfl w2.heap.size rfl 26 Z AP rfl hrow ?s2 ?s3 ?s4 ?_)
  case s2 => rw [hZs, hQs]
  case s3 => rw [hQs]; kernel_rfl
  case s4 => exact h2.out
  have hg := setRow_heap (w2.alloc (.cells Z 26)) w2.heap.size Z AP 26 (0, 0) hrow
  have HB3 : Hid (Below w.heap.size w ((w2.alloc (.cells Z 26)).setRow w2.heap.size AP)) := Lib.hid (by
    have h := HB2.out.alloc HB2.out.size (.cells Z 26)
    have hlt := HB2.out.size
    exact ((Mod.of_below h).setRow AP).to_below (Nat.le_refl _) (by rintro k hk (h | h) <;> omega))
  generalize (w2.alloc (.cells Z 26)).setRow w2.heap.size AP = W at hg HB3 ⊢
  generalize w2.heap.size = g at hg ⊢
  clear hrow hz HB2
  go_wp2_with fail
  refine (Href.out W).mono ?_
  rintro r w3 ⟨⟨hyes, hno⟩, hb3⟩
  have hg3 := (hb3.block g (Array.getElem?_eq_some_iff.1 hg).1).trans hg
  have HB4 := Lib.hid (HB3.out.trans (hb3.mono HB3.out.size))
  clear hb3 hg HB3 Href
  have qi : (Try.prog.info? 26).map (·.size) = some AP.size := by rw [hQs]; kernel_rfl
  by_cases hR0 : R = 0
  · have hr0 : tabR s = 0 := by rw [← HR.out]; exact hR0
    obtain ⟨q, c, rfl, hE⟩ := hyes hr0
    obtain ⟨hs1, hok, hne⟩ := tabR_fwd s hr0
    have hP : parT s = wth (List.replicate 64 0) (tabE s) := parT_ok hr0
    have hte : tents (parT s) 64 = tabE s := by rw [hP]; exact tents_wth hok
    have his := fun w' h => is_any (parT s) q c (tabE s) w' hT h hte (by rw [hP]; exact tsum_new hok)
    have hby := fun w' => tbytes_any (parT s) w' hT
    rw [hte, ← hs1] at hby
    unfold tval at his hby
    rw [← HAP.out] at his hby
    obtain ⟨n, hn⟩ : ∃ n, n = (tabE s).length := ⟨_, rfl⟩
    rw [← hn] at his ⊢
    have His := Lib.hid (his w3 hE)
    have Hby := Lib.hid hby
    subst hR0
    clear hyes hno hr0 hE hs1 hok hne hP hte his hby hn hT
    go_wp2_with (refine wpList_load_rowG rfl 26 (.tmp 3) rfl g rfl 26 AP (0, 0) _ hg3 Try.underlying26 rfl qi ?_)
    refine His.out.mono ?_
    rintro r w4 ⟨rfl, hb4⟩
    have hg4 := (hb4.block g (Array.getElem?_eq_some_iff.1 hg3).1).trans hg3
    have HB5 := Lib.hid (HB4.out.trans (hb4.mono HB4.out.size))
    clear hb4 hg3 HB4 His
    go_wp2_with (refine wpList_load_rowG rfl 26 (.tmp 3) rfl g rfl 26 AP (0, 0) _ hg4 Try.underlying26 rfl qi ?_)
    refine (Hby.out w4).mono ?_
    rintro r w5 ⟨rfl, hb5⟩
    have HB6 := Lib.hid (HB5.out.trans (hb5.mono HB5.out.size))
    clear hb5 hg4 HB5 Hby
    go_wp2_with fail
    go_ret
    exact ⟨rfl, HB6.out⟩
  · have hr0 : tabR s ≠ 0 := by rw [← HR.out]; exact hR0
    obtain rfl := hno hr0
    have hP : parT s = List.replicate 64 0 := parT_no hr0
    have hte : tents (parT s) 64 = [] := by rw [hP]; exact tents_wth (EntsOk.nil 1)
    have his := is_any (parT s) none 0 [] w3 hT (fun j h => by simp at h) hte (by rw [hP, tsum_zero]; rfl)
    unfold tval at his
    rw [← HAP.out] at his
    rw [← HR.out]
    have His := Lib.hid his
    have z0 : (R == 0) = false := by rw [beq_eq_false_iff_ne]; exact hR0
    clear hyes hno hr0 hP hte his hT
    go_wp2_with (refine wpList_load_rowG rfl 26 (.tmp 3) rfl g rfl 26 AP (0, 0) _ hg3 Try.underlying26 rfl qi ?_)
    refine His.out.mono ?_
    rintro r w4 ⟨rfl, hb4⟩
    have HB5 := Lib.hid (HB4.out.trans (hb4.mono HB4.out.size))
    clear hb4 hg3 HB4 His
    go_wp2_with fail
    go_ret
    exact ⟨rfl, HB5.out⟩
/-- As the row asks it. -/
theorem reads_row (a0 : ByteArray) (w : World) (h : a0.size ≤ maxLen) : Calls Try.prog 3 #[.string a0] w fun r w' => r = .returned (.bool true) ∧ Below w.heap.size w w' := by
  have e : a0 = ⟨a0.data.toList.toArray⟩ := by cases a0; simp
  have hl : (a0.data.toList.length : Int) ≤ 9223372036854775807 := by
    have : a0.data.toList.length = a0.size := by cases a0; simp [ByteArray.size]
    rw [this]; unfold maxLen at h; omega
  rw [e]
  exact reads_walk a0.data.toList w hl
end Go.Proofs.Ytdahkemeoefndaa
