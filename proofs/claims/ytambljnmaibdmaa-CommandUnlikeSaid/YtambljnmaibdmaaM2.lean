/- Texts 2: what the laws lean on. -/
import Derived.Test.YtambljnmaibdmaaM1
import Derived.Great.BuildSlice
import Derived.OwnWalk
import Derived.BigQuiet
namespace Go.Proofs.Ytambljnmaibdmaa
open Go

/-- Each of the chain waits for the one ahead of it. -/
def chainOk (md : Region.Mode) (ops : Array Oper) (C : List Nat) : Bool :=
  (List.range C.length).all fun m => match C[m]?, C[m + 1]? with
    | some i, some j => (match ops[j]? with | some p => p.after.any (fun e => Region.binds md e && e.on == i) | none => false)
    | _, _ => true
/-- Operation j waits for i, by n edges at most. -/
def reach (md : Region.Mode) (ops : Array Oper) : Nat → Nat → Nat → Bool
  | 0, _, _ => false
  | n + 1, j, i => match ops[j]? with
    | some p => p.after.any (fun e => Region.binds md e && (e.on == i || reach md ops n e.on i))
    | none => false
/-- The chain's place b waits for operation i (or there is no such place). -/
def aheadOf (md : Region.Mode) (ops : Array Oper) (C : List Nat) (i b : Nat) : Bool :=
  b == C.length || (match C[b]? with
    | some j => reach md ops 16 j i
    | none => false)

/-- Only slots of the operations turn; that of a chain's operation that isn't done yet hasn't. -/
structure AgreeC (ops : Array Oper) (C : List Nat) (k : Nat) (a0 a : Act) : Prop extends Agree ops a0 a where
  kp : ∀ (m i : Nat) (o : Oper) (t : Tmp), k ≤ m → C[m]? = some i → ops[i]? = some o → o.dst = some t → a.eval (.tmp t) = a0.eval (.tmp t)

section
variable {P : Program} {ops : Array Oper} {Q : Exit → Act → World → Prop} {md : Region.Mode} {V : Tmp → Value → Prop} {G : Nat → Value → World → Prop} {C : List Nat} {a0 : Act}

/-- What one operation owes while k of the chain are done, k' behind it. -/
def OwesAt (P : Program) (md : Region.Mode) (ops : Array Oper) (Q : Exit → Act → World → Prop) (V : Tmp → Value → Prop) (G : Nat → Value → World → Prop) (C : List Nat) (a0 : Act) (i : Nat) (o : Oper) (k : Nat) : Prop :=
  ∀ a w x, AgreeC ops C k a0 a → G k x w → AllV (fun t v _ => V t v) a w (waits md ops o) →
    wpOp P ops Q i (fun a' w' => ∃ v, a' = a.put o.dst v ∧ (∀ t, o.dst = some t → V t v) ∧ G k x w') a w
/-- The slot of the chain's last one that is done holds x. -/
def Holds' (ops : Array Oper) (C : List Nat) (a : Act) (k : Nat) (x : Value) : Prop := ∀ (m i : Nat) (o : Oper) (t : Tmp), k = m + 1 → C[m]? = some i → ops[i]? = some o → o.dst = some t → a.eval (.tmp t) = x
/-- What the chain's operation m owes. -/
def OwesIn (P : Program) (md : Region.Mode) (ops : Array Oper) (Q : Exit → Act → World → Prop) (V : Tmp → Value → Prop) (G : Nat → Value → World → Prop) (C : List Nat) (a0 : Act) (i : Nat) (o : Oper) (m : Nat) : Prop :=
  ∀ a w x, AgreeC ops C m a0 a → G m x w → Holds' ops C a m x → AllV (fun t v _ => V t v) a w (waits md ops o) →
    wpOp P ops Q i (fun a' w' => ∃ v, a' = a.put o.dst v ∧ (∀ t, o.dst = some t → V t v) ∧ G (m + 1) v w') a w
def OwesC (P : Program) (md : Region.Mode) (ops : Array Oper) (Q : Exit → Act → World → Prop) (V : Tmp → Value → Prop) (G : Nat → Value → World → Prop) (C : List Nat) (a0 : Act) (i : Nat) (o : Oper) : Prop :=
  (∃ m, C[m]? = some i ∧ OwesIn P md ops Q V G C a0 i o m) ∨ (C.contains i = false ∧ ∃ b, aheadOf md ops C i b = true ∧ ∀ k, k ≤ b → OwesAt P md ops Q V G C a0 i o k)

theorem any_edge {md : Region.Mode} {p : Oper} {i : Nat} (h : p.after.any (fun e => Region.binds md e && e.on == i) = true) : ∃ e ∈ p.after, Region.binds md e = true ∧ e.on = i := by
  obtain ⟨j, hj, h1⟩ := Array.any_iff_exists.1 h
  obtain ⟨_, _, h2⟩ := h1
  rw [Bool.and_eq_true, beq_iff_eq] at h2
  exact ⟨_, Array.getElem_mem _, h2.1, h2.2⟩
theorem chain_edge {m i j : Nat} {p : Oper} (h : chainOk md ops C = true) (hi : C[m]? = some i) (hj : C[m + 1]? = some j) (hp : ops[j]? = some p) : ∃ e ∈ p.after, Region.binds md e = true ∧ e.on = i := by
  have := List.all_eq_true.1 h m (List.mem_range.2 (List.getElem?_eq_some_iff.1 hi).1)
  simp only [hi, hj, hp] at this
  exact any_edge this

theorem reach_done {L : Array Bool} (cl : ∀ (i : Nat) (o : Oper), ops[i]? = some o → L.getD i true = true → ∀ e ∈ o.after, Region.binds md e = true → L.getD e.on false = true) :
    ∀ (n j i : Nat), reach md ops n j i = true → L.getD j true = true → L.getD i false = true
  | 0, _, _, h, _ => by cases h
  | n + 1, j, i, h, hl => by
    unfold reach at h
    cases hp : ops[j]? with
    | none => rw [hp] at h; cases h
    | some p =>
      rw [hp] at h
      obtain ⟨q, _, h1⟩ := Array.any_iff_exists.1 h
      obtain ⟨_, _, h2⟩ := h1
      rw [Bool.and_eq_true, Bool.or_eq_true, beq_iff_eq] at h2
      have h3 := cl j p hp hl _ (Array.getElem_mem _) h2.1
      rcases h2.2 with e | hr
      · rw [← e]; exact h3
      · refine reach_done cl n _ i hr ?_
        have : p.after[q].on < L.size := by
          apply Nat.lt_of_not_le; intro hle
          simp [Array.getElem?_eq_none hle] at h3
        simp [this] at h3 ⊢
        exact h3
theorem getD_tf {L : Array Bool} {n i : Nat} (hL : L.size = n) (hi : i < n) : L.getD i true = L.getD i false := by
  simp [show i < L.size by omega]
theorem getD_set_at {L : Array Bool} {i : Nat} (hi : i < L.size) (d : Bool) : (L.setIfInBounds i true).getD i d = true := by simp [hi]
theorem getD_set_ne' {L : Array Bool} {i j : Nat} (h : j ≠ i) (d : Bool) : (L.setIfInBounds i true).getD j d = L.getD j d := by
  have := Ne.symm h
  simp [Array.getD_eq_getD_getElem?, this]

/-- What is known while the region goes. -/
structure ChainAt (md : Region.Mode) (ops : Array Oper) (V : Tmp → Value → Prop) (G : Nat → Value → World → Prop) (C : List Nat) (a0 : Act) (L : Array Bool) (a : Act) (w : World) (k : Nat) (x : Value) : Prop where
  g : G k x w
  ho : Holds' ops C a k x
  le : k ≤ C.length
  ch : ∀ (m i : Nat), C[m]? = some i → (L.getD i true = true ↔ m < k)
  cl : ∀ (i : Nat) (o : Oper), ops[i]? = some o → L.getD i true = true → ∀ e ∈ o.after, Region.binds md e = true → L.getD e.on false = true
  ag : Agree ops a0 a
  kp : ∀ (i : Nat) (o : Oper) (t : Tmp), ops[i]? = some o → L.getD i true = false → o.dst = some t → a.eval (.tmp t) = a0.eval (.tmp t)
  v : ∀ (i : Nat) (o : Oper) (t : Tmp), ops[i]? = some o → L.getD i true = true → o.dst = some t → V t (a.eval (.tmp t))

theorem ChainAt.agc {L : Array Bool} {a : Act} {w : World} {k : Nat} {x : Value} (h : ChainAt md ops V G C a0 L a w k x) : AgreeC ops C k a0 a :=
  ⟨h.ag, fun m i o t hm hi ho ht => h.kp i o t ho (by
    cases hl : L.getD i true with
    | false => rfl
    | true => exact absurd ((h.ch m i hi).1 hl) (by omega)) ht⟩
theorem wpAny_chain (hok : DrawOk ops a0.tmps.size) (hch : chainOk md ops C = true) (hnd : C.Nodup) (hCl : ∀ i ∈ C, i < ops.size) (step : ∀ (i : Nat) (o : Oper), ops[i]? = some o → OwesC P md ops Q V G C a0 i o)
    (fin : ∀ a w x, Agree ops a0 a → G C.length x w → Holds' ops C a C.length x → (∀ (i : Nat) (o : Oper) (t : Tmp), ops[i]? = some o → o.dst = some t → V t (a.eval (.tmp t))) → Q .normal a w) :
    ∀ (fuel : Nat) (L : Array Bool) (a : Act) (w : World) (k : Nat) (x : Value), unl L ops.size ≤ fuel → L.size = ops.size → ChainAt md ops V G C a0 L a w k x → wpAny P md ops Q fuel L a w := by
  have allL : ∀ L : Array Bool, L.size = ops.size → Region.ready md ops L = [] → ∀ (i : Nat) (o : Oper), ops[i]? = some o → L.getD i true = true := by
    intro L hL hr i o ho
    cases hc : L.getD i true with
    | true => rfl
    | false =>
      obtain ⟨j, hj⟩ := ready_some (md := md) hok hL i (Array.getElem?_eq_some_iff.1 ho).1 hc
      rw [hr] at hj; cases hj
  have done : ∀ (L : Array Bool) (a : Act) (w : World) (k : Nat) (x : Value), L.size = ops.size → ChainAt md ops V G C a0 L a w k x → Region.ready md ops L = [] → Q .normal a w := by
    intro L a w k x hL h hr
    have hk : k = C.length := by
      refine Nat.le_antisymm h.le (Nat.le_of_not_lt fun hlt => ?_)
      have hm : C[k]? = some C[k] := List.getElem?_eq_getElem hlt
      have hi := hCl _ (List.getElem_mem hlt)
      exact Nat.lt_irrefl _ ((h.ch k _ hm).1 (allL L hL hr _ _ (Array.getElem?_eq_getElem hi)))
    subst hk
    exact fin a w x h.ag h.g h.ho (fun i o t ho ht => h.v i o t ho (allL L hL hr i o ho) ht)
  intro fuel
  induction fuel with
  | zero =>
    intro L a w k x hu hL h
    have hr : Region.ready md ops L = [] := by
      apply List.eq_nil_iff_forall_not_mem.2
      intro j hj
      obtain ⟨hun, o, ho, _⟩ := mem_ready.1 hj
      have := unl_pos L ops.size j (Array.getElem?_eq_some_iff.1 ho).1 hun
      omega
    exact ⟨hr, done L a w k x hL h hr⟩
  | succ fuel ih =>
    intro L a w k x hu hL h
    refine ⟨fun hr => done L a w k x hL h hr, fun i hi => ?_⟩
    obtain ⟨hun, o, ho, hall⟩ := mem_ready.1 hi
    have hil : i < ops.size := (Array.getElem?_eq_some_iff.1 ho).1
    have hw : AllV (fun t v _ => V t v) a w (waits md ops o) := AllV.of (by
      intro t ht
      unfold waits at ht
      obtain ⟨e, he, hd⟩ := List.mem_filterMap.1 ht
      obtain ⟨he1, he2⟩ := List.mem_filter.1 he
      cases hj : ops[e.on]? with
      | none => rw [hj] at hd; cases hd
      | some p =>
        rw [hj] at hd
        have hl := hall e (by simpa using he1) he2
        exact h.v e.on p t hj (by rw [getD_tf hL (Array.getElem?_eq_some_iff.1 hj).1]; exact hl) hd)
    -- what follows, with k' of the chain done
    have next : ∀ (k' : Nat) (y : Value → Value), k' ≤ C.length → (∀ v, Holds' ops C (a.put o.dst v) k' (y v)) → (∀ (m j : Nat), C[m]? = some j → ((L.setIfInBounds i true).getD j true = true ↔ m < k')) →
        wpOp P ops Q i (fun a' w' => ∃ v, a' = a.put o.dst v ∧ (∀ t, o.dst = some t → V t v) ∧ G k' (y v) w') a w → wpOp P ops Q i (fun a' w' => wpAny P md ops Q fuel (L.setIfInBounds i true) a' w') a w := by
      intro k' y hk' hho hch' hop
      refine wpOp_mono (fun a' w' hh => ?_) hop
      obtain ⟨v, rfl, hvi, hG'⟩ := hh
      refine ih _ _ _ k' (y v) ?_ (by simpa using hL) ⟨hG', hho v, hk', hch', ?_, ?_, ?_, ?_⟩
      · have := unl_set L i hun ops.size
        rw [if_pos hil] at this; omega
      · intro j p hp hl e he hb
        by_cases hji : j = i
        · subst hji
          rw [ho] at hp; cases hp
          have := hall e he hb
          by_cases hei : e.on = j
          · rw [hei, getD_set_at (by omega)]
          · rw [getD_set_ne' hei]; exact this
        · rw [getD_set_ne' hji] at hl
          have := h.cl j p hp hl e he hb
          by_cases hei : e.on = i
          · rw [hei, getD_set_at (by omega)]
          · rw [getD_set_ne' hei]; exact this
      · refine ⟨by rw [size_put]; exact h.ag.size, by rw [defers_put]; exact h.ag.defers, fun t ht => ?_⟩
        rw [Act.eval_put (fun d hd e => ht i o ho (by cases e; exact hd))]
        exact h.ag.same t ht
      · intro j p t hp hl ht
        have e : j ≠ i := by
          rintro rfl
          rw [getD_set_at (by omega)] at hl; cases hl
        rw [Act.eval_put (fun d hd e2 => by cases e2; exact hok.apart i j o p t ho hp e hd ht)]
        rw [getD_set_ne' e] at hl
        exact h.kp j p t hp hl ht
      · intro j p t hp hl ht
        by_cases e : j = i
        · subst e
          rw [ho] at hp; cases hp
          rw [ht, eval_put_same (by rw [h.ag.size]; exact hok.room j o t ho ht)]
          exact hvi t ht
        · rw [Act.eval_put (fun d hd e2 => by cases e2; exact hok.apart i j o p t ho hp e hd ht)]
          rw [getD_set_ne' e] at hl
          exact h.v j p t hp hl ht
    rcases step i o ho with ⟨m, hm, hop⟩ | ⟨hni, b, hb, hop⟩
    · have hmk : m = k := by
        have h1 : ¬ m < k := fun hlt => by rw [(h.ch m i hm).2 hlt] at hun; cases hun
        have h2 : m ≤ k := by
          cases m with
          | zero => exact Nat.zero_le _
          | succ m =>
            have hlt : m < C.length := by have := (List.getElem?_eq_some_iff.1 hm).1; omega
            have hj : C[m]? = some C[m] := List.getElem?_eq_getElem hlt
            obtain ⟨e, he, hbd, hon⟩ := chain_edge hch hj hm ho
            have := hall e he hbd
            rw [hon] at this
            exact (h.ch m _ hj).1 (by rw [getD_tf hL (hCl _ (List.getElem_mem hlt))]; exact this)
        omega
      subst hmk
      have hmlt : m < C.length := (List.getElem?_eq_some_iff.1 hm).1
      refine next (m + 1) (fun v => v) hmlt ?_ ?_ (hop a w x h.agc h.g h.ho hw)
      · intro v m2 j p t hm2 hj hp ht
        obtain rfl : m2 = m := by omega
        rw [hm] at hj; cases hj
        rw [ho] at hp; cases hp
        rw [ht, eval_put_same (by rw [h.ag.size]; exact hok.room i o t ho ht)]
      intro m2 j hj
      by_cases hji : j = i
      · subst hji
        have : m2 = m := by
          obtain ⟨l2, e2⟩ := List.getElem?_eq_some_iff.1 hj
          obtain ⟨l1, e1⟩ := List.getElem?_eq_some_iff.1 hm
          exact (List.getElem_inj hnd).1 (e2.trans e1.symm)
        subst this
        rw [getD_set_at (by omega)]
        exact ⟨fun _ => Nat.lt_succ_self _, fun _ => rfl⟩
      · rw [getD_set_ne' hji, h.ch m2 j hj]
        have : m2 ≠ m := by
          rintro rfl
          rw [hm] at hj; cases hj; exact hji rfl
        omega
    · have hkb : k ≤ b := by
        unfold aheadOf at hb
        rw [Bool.or_eq_true, beq_iff_eq] at hb
        rcases hb with rfl | hb
        · exact h.le
        · cases hj : C[b]? with
          | none => rw [hj] at hb; cases hb
          | some j =>
            rw [hj] at hb
            simp only at hb
            refine Nat.le_of_not_lt fun hlt => ?_
            have := reach_done h.cl 16 j i hb ((h.ch b j hj).2 hlt)
            rw [← getD_tf hL hil, hun] at this
            cases this
      refine next k (fun _ => x) h.le ?_ ?_ (hop k hkb a w x h.agc h.g hw)
      · intro v m2 j p t hm2 hj hp ht
        have hji : j ≠ i := by
          rintro rfl
          have := List.mem_of_getElem? hj
          rw [List.contains_eq_mem, decide_eq_false_iff_not] at hni
          exact hni this
        rw [Act.eval_put (fun d hd e2 => by cases e2; exact hok.apart i j o p t ho hp hji hd ht)]
        exact h.ho m2 j p t hm2 hj hp ht
      intro m2 j hj
      have hji : j ≠ i := by
        rintro rfl
        have := List.mem_of_getElem? hj
        rw [List.contains_eq_mem, decide_eq_false_iff_not] at hni
        exact hni this
      rw [getD_set_ne' hji, h.ch m2 j hj]

/-- The obligations one after the other. -/
def OweAllC (P : Program) (md : Region.Mode) (ops : Array Oper) (Q : Exit → Act → World → Prop) (V : Tmp → Value → Prop) (G : Nat → Value → World → Prop) (C : List Nat) (a0 : Act) : Nat → List Oper → Prop
  | _, [] => True
  | k, o :: r => OwesC P md ops Q V G C a0 k o ∧ OweAllC P md ops Q V G C a0 (k + 1) r
theorem OweAllC.get : ∀ {l : List Oper} {k : Nat}, OweAllC P md ops Q V G C a0 k l → ∀ (i : Nat) (o : Oper), l[i]? = some o → OwesC P md ops Q V G C a0 (k + i) o
  | _ :: _, k, h, 0, o, hi => by cases hi; exact h.1
  | _ :: r, k, h, i + 1, o, hi => by
    have := OweAllC.get h.2 i o (by simpa using hi)
    rwa [show k + 1 + i = k + (i + 1) by omega] at this
  | [], _, _, i, o, hi => by simp at hi
theorem OweAllC.cons {k : Nat} {o : Oper} {r : List Oper} (h : OwesC P md ops Q V G C a0 k o) (h2 : OweAllC P md ops Q V G C a0 (k + 1) r) : OweAllC P md ops Q V G C a0 k (o :: r) := ⟨h, h2⟩
theorem OweAllC.nil {k : Nat} : OweAllC P md ops Q V G C a0 k [] := trivial

theorem wp_region_chain {id : Nat} {w : World} (V : Tmp → Value → Prop) (G : Nat → Value → World → Prop) (C : List Nat) (N : Nat) (hm : P.follows .mixedOrders = true) (hok : drawOk ops N = true) (hN : a0.tmps.size = N)
    (hch : chainOk .any ops C = true) (hnd : decide C.Nodup = true) (hCl : C.all (· < ops.size) = true) (hG : G 0 undef w.drew)
    (step : OweAllC P .any ops Q V G C a0 0 ops.toList)
    (fin : ∀ f w x, G C.length x w → (∀ (m i : Nat) (o : Oper) (t : Tmp), C.length = m + 1 → C[m]? = some i → ops[i]? = some o → o.dst = some t → f t = x) → (∀ (i : Nat) (o : Oper) (t : Tmp), ops[i]? = some o → o.dst = some t → V t (f t)) → Q .normal (puts f (dsts ops) a0) w) : (Code.region id ops true).wp P Q a0 w := by
  subst hN
  have hok := drawOk_spec hok
  have hCl' : ∀ i ∈ C, i < ops.size := fun i hi => by simpa using List.all_eq_true.1 hCl i hi
  have hL0 : ∀ i, i < ops.size → (Array.replicate ops.size false).getD i true = false := fun i hi => by simp [hi]
  refine wp_region_any hm (wpAny_chain (V := V) (G := G) (C := C) hok hch (of_decide_eq_true hnd) hCl' (fun i o ho => ?_) (fun a w x ha hg hh hv => ?_) ops.size _ a0 _ 0 undef (unl_le _ _) (by simp) ⟨hG, (fun m i o t h => by omega), Nat.zero_le _, ?_, ?_, ⟨rfl, rfl, fun _ _ => rfl⟩, (fun _ _ _ _ _ _ => rfl), ?_⟩)
  · have := step.get i o (by simpa using ho)
    rwa [Nat.zero_add] at this
  · rw [ha.puts hok]
    exact fin _ w x hg hh hv
  · intro m i hi
    have := hCl' i (List.mem_of_getElem? hi)
    rw [hL0 i this]
    simp
  · intro i o ho hl
    rw [hL0 i (Array.getElem?_eq_some_iff.1 ho).1] at hl; cases hl
  · intro i o t ho hl _
    rw [hL0 i (Array.getElem?_eq_some_iff.1 ho).1] at hl; cases hl

/-- An operation beside the chain that yields a value and turns nothing. -/
theorem owesC_val {i : Nat} {o : Oper} {t : Tmp} (b : Nat) (hb : aheadOf md ops C i b = true) (hni : C.contains i = false) (hi : ops[i]? = some o) (ht : o.dst = some t)
    (h : ∀ k a w x, k ≤ b → AgreeC ops C k a0 a → G k x w → AllV (fun t v _ => V t v) a w (waits md ops o) → ∃ v, Region.wanted o (yielded ops a.tmps) = true ∧ (execOp a.eval o).run P w = .ok (.value v) w ∧ V t v) : OwesC P md ops Q V G C a0 i o := by
  refine .inr ⟨hni, b, hb, fun k hk a w x ha hG hV => ?_⟩
  obtain ⟨v, hw, hr, hv⟩ := h k a w x hk ha hG hV
  unfold wpOp
  rw [hi]
  simp only [hw, if_true, Oper.wp, hr, Oper.upon]
  exact .inl ⟨v, rfl, fun u hu => by rw [ht] at hu; cases hu; exact hv, hG⟩
/-- A call beside the chain. -/
theorem owesC_side {i : Nat} {o : Oper} {t : Tmp} (b : Nat) (hb : aheadOf md ops C i b = true) (hni : C.contains i = false) (hi : ops[i]? = some o) (ht : o.dst = some t) (f : FuncId)
    (h : ∀ k a w x, k ≤ b → AgreeC ops C k a0 a → G k x w → AllV (fun t v _ => V t v) a w (waits md ops o) → ∃ args, Region.wanted o (yielded ops a.tmps) = true ∧ (execOp a.eval o).run P w = .ok (.enter f args) w ∧
      Calls P f args w fun e w' => ∃ v, e = .returned v ∧ V t v ∧ G k x w') : OwesC P md ops Q V G C a0 i o := by
  refine .inr ⟨hni, b, hb, fun k hk a w x ha hG hV => ?_⟩
  obtain ⟨args, hw, hr, hc⟩ := h k a w x hk ha hG hV
  unfold wpOp
  rw [hi]
  simp only [hw, if_true, Oper.wp, hr, Oper.upon]
  refine .inl (hc.mono ?_)
  rintro e w' ⟨v, rfl, h1, h2⟩
  exact ⟨v, rfl, fun u hu => by rw [ht] at hu; cases hu; exact h1, h2⟩
/-- A call of the chain. -/
theorem owesC_call {i : Nat} {o : Oper} {t : Tmp} (m : Nat) (hm : C[m]? = some i) (hi : ops[i]? = some o) (ht : o.dst = some t) (f : FuncId)
    (h : ∀ a w x, AgreeC ops C m a0 a → G m x w → Holds' ops C a m x → AllV (fun t v _ => V t v) a w (waits md ops o) → ∃ args, Region.wanted o (yielded ops a.tmps) = true ∧ (execOp a.eval o).run P w = .ok (.enter f args) w ∧
      Calls P f args w fun e w' => ∃ v, e = .returned v ∧ V t v ∧ G (m + 1) v w') : OwesC P md ops Q V G C a0 i o := by
  refine .inl ⟨m, hm, fun a w x ha hG hh hV => ?_⟩
  obtain ⟨args, hw, hr, hc⟩ := h a w x ha hG hh hV
  unfold wpOp
  rw [hi]
  simp only [hw, if_true, Oper.wp, hr, Oper.upon]
  refine .inl (hc.mono ?_)
  rintro e w' ⟨v, rfl, h1, h2⟩
  exact ⟨v, rfl, fun u hu => by rw [ht] at hu; cases hu; exact h1, h2⟩
/-- An operation of the chain that yields a value and turns memory. -/
theorem owesC_mem {i : Nat} {o : Oper} {t : Tmp} (m : Nat) (hm : C[m]? = some i) (hi : ops[i]? = some o) (ht : o.dst = some t)
    (h : ∀ a w x, AgreeC ops C m a0 a → G m x w → Holds' ops C a m x → AllV (fun t v _ => V t v) a w (waits md ops o) → ∃ v w', Region.wanted o (yielded ops a.tmps) = true ∧ (execOp a.eval o).run P w = .ok (.value v) w' ∧ V t v ∧ G (m + 1) v w') : OwesC P md ops Q V G C a0 i o := by
  refine .inl ⟨m, hm, fun a w x ha hG hh hV => ?_⟩
  obtain ⟨v, w', hw, hr, h1, h2⟩ := h a w x ha hG hh hV
  unfold wpOp
  rw [hi]
  simp only [hw, if_true, Oper.wp, hr, Oper.upon]
  exact .inl ⟨v, rfl, fun u hu => by rw [ht] at hu; cases hu; exact h1, h2⟩
/-- A store of the chain. -/
theorem owesC_store {i : Nat} {o : Oper} (m : Nat) (hm : C[m]? = some i) (hi : ops[i]? = some o) (ht : o.dst = none)
    (h : ∀ a w x, AgreeC ops C m a0 a → G m x w → Holds' ops C a m x → AllV (fun t v _ => V t v) a w (waits md ops o) → ∃ w', Region.wanted o (yielded ops a.tmps) = true ∧ (execOp a.eval o).run P w = .ok .skip w' ∧ G (m + 1) undef w') : OwesC P md ops Q V G C a0 i o := by
  refine .inl ⟨m, hm, fun a w x ha hG hh hV => ?_⟩
  obtain ⟨w', hw, hr, h2⟩ := h a w x ha hG hh hV
  unfold wpOp
  rw [hi]
  simp only [hw, if_true, Oper.wp, hr, Oper.upon]
  exact .inl ⟨undef, rfl, fun u hu => (by rw [ht] at hu; cases hu), h2⟩
/-- An operation of the chain by its own law (an append). -/
theorem owesC_law {i : Nat} {o : Oper} (m : Nat) (hm : C[m]? = some i) (hi : ops[i]? = some o)
    (h : ∀ a w x, AgreeC ops C m a0 a → G m x w → Holds' ops C a m x → AllV (fun t v _ => V t v) a w (waits md ops o) → Region.wanted o (yielded ops a.tmps) = true ∧
      ∀ K : Act → World → Prop, (∀ v w', (∀ t, o.dst = some t → V t v) → G (m + 1) v w' → K (a.put o.dst v) w') → o.wp P a w K Q) : OwesC P md ops Q V G C a0 i o := by
  refine .inl ⟨m, hm, fun a w x ha hG hh hV => ?_⟩
  obtain ⟨hw, hl⟩ := h a w x ha hG hh hV
  unfold wpOp
  rw [hi]
  simp only [hw, if_true]
  exact .inl (hl _ (fun v w' h1 h2 => ⟨v, rfl, h1, h2⟩))
end
end Go.Proofs.Ytambljnmaibdmaa
namespace Go.Proofs.Ytambljnmaibdmaa
open Go
/-- A slot is written, by an operation of no region. -/
def mv (t : Tmp) (v : Value) : Oper := { dst := some t, op := .move (.const v), type := 0, pos := "", after := #[], guard := none }
theorem moves_back {P : Program} {ops : Array Oper} {Q : Exit → Act → World → Prop} (f : Tmp → Value) : ∀ (l : List Tmp) (a : Act) (w : World), wpList P ops Q (l.map fun t => mv t (f t)) a w → Q .normal (puts f l a) w
  | [], _, _, h => h
  | t :: r, a, w, h => by
    refine moves_back (P := P) (ops := ops) f r (a.put (some t) (f t)) w ?_
    rw [List.map_cons, wpList] at h
    have hw : Region.wanted (mv t (f t)) (yielded ops a.tmps) = true := rfl
    rw [if_pos hw] at h
    rcases h with h | h
    · unfold Oper.wp at h
      have he : (execOp a.eval (mv t (f t))).run P w = .ok (.value (f t)) w := rfl
      rw [he] at h
      exact h
    · exfalso
      have he : ((execOp a.eval (mv t (f t))).runT P w #[]).2 = #[] := rfl
      have h1 := h.1.1
      rw [he] at h1
      simp at h1
end Go.Proofs.Ytambljnmaibdmaa

namespace Go.Proofs.Ytambljnmaibdmaa
open Go.RowKit

theorem rawS_len (s : List UInt8) (e n : Int) : (rawS s e n).2.1.length ≤ s.length := by
  unfold rawS; split
  · exact failS_len _ _ _
  · simp
theorem textS_len (s : List UInt8) (e n : Int) : (textS s e n).2.1.length ≤ s.length := by
  unfold textS; exact Nat.le_trans (rawS_len _ _ _) (numS_len _ _ _)
theorem numS_lo (s : List UInt8) (e m : Int) : 0 ≤ (numS s e m).1 := by
  unfold numS; split
  · exact Int.le_refl 0
  · split
    · exact Int.le_refl 0
    · simp
theorem numS_hi (s : List UInt8) (e m : Int) (h : 0 ≤ m) : (numS s e m).1 ≤ m := by
  unfold numS; split
  · exact h
  · split
    · exact h
    · simp only; omega
theorem wpList_load_rowG {P : Program} {ops : Array Oper} {rest : List Oper} {o : Oper} {a : Act} {w : World} {Q : Exit → Act → World → Prop} (hw : Region.wanted o (yielded ops a.tmps) = true) (ty : TypeId) (x : Operand) (ho : o.op = .load ty x)
    (g : Nat) (hx : a.eval x = .pointer (some ⟨g, 0, none⟩)) (t : TypeId) (cs : Array Value) (fr : Nat × Nat) (d : TypeDesc) (hg : w.heap[g]? = some (.cells cs t fr))
    (hu : P.underlying ty = some d) (hd : (match d with | .struct _ | .array _ _ => true | _ => false) = true) (hi : (P.info? ty).map (·.size) = some cs.size)
    (h : wpList P ops Q rest (a.put o.dst (.agg cs)) w) : wpList P ops Q (o :: rest) a w :=
  wpList_step fun _ hK => by rw [if_pos hw]; exact wp_load_row ty x ho g hx t cs fr d hg hu hd hi (hK _ _ h)
theorem exec_store_row {P : Program} {o : Oper} {a : Act} {w : World} (ty : TypeId) (x y : Operand) (ho : o.op = .store ty x y)
    (g : Nat) (hx : a.eval x = .pointer (some ⟨g, 0, none⟩)) (t : TypeId) (old cs : Array Value) (hy : a.eval y = .agg cs) (hg : w.heap[g]? = some (.cells old t (0, 0))) (hsz : old.size = cs.size)
    (hi : (P.info? ty).map (·.size) = some cs.size) (h1 : ∀ v ∈ cs.toList, v.oneCell' = true) : (execOp a.eval o).run P w = .ok .skip (w.setRow g cs) := by
  have hst := run_storeCells_at P g 0 t cs.toList 0 old w hg (by simp; omega) h1
  have e : (old.toList.take (0 + 0) ++ cs.toList ++ old.toList.drop (0 + 0 + cs.toList.length)).toArray = cs := by
    have : old.toList.drop (0 + 0 + cs.toList.length) = [] := List.drop_eq_nil_of_le (by simp; omega)
    rw [this]; simp
  rw [e] at hst
  cases hq : P.info? ty with
  | none => simp [hq] at hi
  | some i =>
    have hs : i.size = cs.size := by simpa [hq] using hi
    have hv : (storeVar ty ⟨g, 0, none⟩ (.agg cs)).run P w = .ok () (w.setRow g cs) := by
      simp [storeVar, sizeOf, typeInfo, hq, hs, Value.cells, hst]
    unfold execOp
    simp only [ho, hx, hy, Instr.storeAt, Instr.sureAddr, Sem.run_bind, Sem.run_pure, Result.andThen_ok, hv]
theorem less_cmp : ∀ a b : List UInt8, Op.bytesLess a b = decide (Lib.compareBytes a b < 0)
  | [], [] => rfl
  | [], _ :: _ => rfl
  | _ :: _, [] => rfl
  | a :: x, b :: y => by
    have ih := less_cmp x y
    unfold Op.bytesLess Lib.compareBytes
    by_cases h1 : a < b
    · simp [h1]
    · by_cases h2 : b < a
      · have : ¬ a = b := by rintro rfl; exact absurd h2 h1
        simp [h1, h2, this]
      · have e : a = b := by
          rw [UInt8.lt_iff_toNat_lt] at h1 h2
          exact UInt8.toNat_inj.1 (by omega)
        subst e
        simp [h1, ih]
theorem binOp_geq_str (t : TypeId) (a b : ByteArray) : binOp .geq t (.string a) (.string b) = pure (.bool !(Op.bytesLess a.toList b.toList)) := by simp [binOp, Op.stringOp]
theorem cat_bytes (a b : List UInt8) : (⟨a.toArray⟩ : ByteArray) ++ (⟨b.toArray⟩ : ByteArray) = ⟨(a ++ b).toArray⟩ := by
  apply ByteArray.ext; simp
theorem exec_add_str {P : Program} {o : Oper} {a : Act} {w : World} (ty ty' : TypeId) (x y : Operand) (ho : o.op = .binOp .add ty x y ty') (A B : List UInt8) (hx : a.eval x = .string ⟨A.toArray⟩) (hy : a.eval y = .string ⟨B.toArray⟩) (h : A.length + B.length ≤ 9223372036854775807) :
    (execOp a.eval o).run P w = .ok (.value (.string ⟨(A ++ B).toArray⟩)) w := by
  have hr := run_string_add_sum (P := P) (w := w) (⟨A.toArray⟩ : ByteArray) ⟨B.toArray⟩ (by simpa [ByteArray.size] using h)
  rw [cat_bytes] at hr
  simp [execOp, ho, hx, hy, eqGuard, binOp_string_add, hr]
theorem Rd.mod {α : Type} {E : Enc α} {w w' : World} {ao : Option Addr} {L : List α} {S : Nat → Prop} (h : Rd E w ao L) (hm : Mod S w w') (hS : ∀ a, ao = some a → ¬ S a.block) : Rd E w' ao L := by
  intro j hj
  obtain ⟨bs, off, e, hlt, hc⟩ := h j hj
  exact ⟨bs, off, e, Nat.lt_of_lt_of_le hlt hm.size, fun i u hu => (World.cell?_of_block (hm.block bs hlt (hS _ e))).trans (hc i u hu)⟩
theorem Rw.ao {α : Type} {E : Enc α} {T : TypeId} {w : World} {p : Option Addr} {cap : Nat} {L : List α} (h : Rw E T w p cap L) : p = none ∨ ∃ b off, p = some ⟨b, off, none⟩ := by
  rcases h.shape with ⟨e, _⟩ | ⟨g, e, _⟩
  · exact .inl e
  · exact .inr ⟨g, 0, e⟩
section
variable {α : Type} {E : Enc α}
theorem Rw.parts {T : TypeId} {w : World} {g cap : Nat} {M : List α} (h : Rw E T w (some ⟨g, 0, none⟩) cap M) :
    ∃ cur : Array Value, w.heap[g]? = some (.cells cur T (0, 0)) ∧ cur.size = cap * E.k ∧ M.length ≤ cap ∧ cap ≤ maxLen ∧ ∃ R, cur.toList = E.all M ++ R := by
  rcases h.shape with ⟨e, _⟩ | ⟨g', e, hl, h1, h2, cur, hh, h3, h4⟩
  · cases e
  · cases e
    exact ⟨cur, hh, h3, h1, h2, cur.toList.drop (M.length * E.k), by rw [← h4, List.take_append_drop]⟩
/-- One is set. -/
theorem Rw.setAt {T : TypeId} {w : World} {g cap : Nat} {M : List α} (h : Rw E T w (some ⟨g, 0, none⟩) cap M) (i : Nat) (hi : i < M.length) (x : α) :
    ∃ cur : Array Value, w.heap[g]? = some (.cells cur T (0, 0)) ∧ i * E.k + E.k ≤ cur.size ∧
      Rw E T (w.setRow g (cur.toList.take (i * E.k) ++ E.f x ++ cur.toList.drop (i * E.k + E.k)).toArray) (some ⟨g, 0, none⟩) cap (M.set i x) := by
  obtain ⟨cur, hh, h3, h1, h2, R, hR⟩ := h.parts
  have hik : i * E.k + E.k ≤ M.length * E.k := by have := Nat.mul_le_mul_right E.k (show i + 1 ≤ M.length from hi); rwa [Nat.add_mul, Nat.one_mul] at this
  have hlen : (E.all M ++ R).length = cap * E.k := by rw [← hR, Array.length_toList, h3]
  have hM : M = M.take i ++ M[i] :: M.drop (i + 1) := by rw [← List.drop_eq_getElem_cons hi, List.take_append_drop]
  have hA : (E.all (M.take i)).length = i * E.k := by rw [E.all_len, List.length_take, Nat.min_eq_left (by omega)]
  have hall : E.all M = E.all (M.take i) ++ (E.f M[i] ++ E.all (M.drop (i + 1))) := by
    conv => lhs; rw [hM]
    rw [E.all_app]; rfl
  have hset : E.all (M.set i x) = E.all (M.take i) ++ (E.f x ++ E.all (M.drop (i + 1))) := by
    rw [List.set_eq_take_append_cons_drop, if_pos hi, E.all_app]; rfl
  have hnew : cur.toList.take (i * E.k) ++ E.f x ++ cur.toList.drop (i * E.k + E.k) = E.all (M.set i x) ++ R := by
    rw [hR, hall, hset]
    rw [List.append_assoc (E.all (M.take i)), List.append_assoc (E.f M[i]), List.take_left' hA, ← List.drop_drop, List.drop_left' hA, List.drop_left' (E.len _)]
    simp
  refine ⟨cur, hh, by rw [h3]; have := Nat.mul_le_mul_right E.k h1; omega, ?_⟩
  rw [hnew]
  refine Rw.of_row (setRow_heap w g cur _ T (0, 0) hh) (by rw [List.length_set]; exact h1) h2 ?_ ?_
  · rw [List.size_toArray, ← hlen, List.length_append, List.length_append, E.all_len, E.all_len, List.length_set]
  · rw [List.toList_toArray, List.take_left' (by rw [E.all_len])]
/-- The end is overwritten. -/
theorem Rw.clearAt {T : TypeId} {w : World} {g cap : Nat} {M : List α} (h : Rw E T w (some ⟨g, 0, none⟩) cap M) (i : Nat) (hi : i ≤ M.length) (Z : List Value) (hZ : Z.length = (M.length - i) * E.k) :
    ∃ cur : Array Value, w.heap[g]? = some (.cells cur T (0, 0)) ∧ i * E.k + Z.length ≤ cur.size ∧
      Rw E T (w.setRow g (cur.toList.take (i * E.k) ++ Z ++ cur.toList.drop (i * E.k + Z.length)).toArray) (some ⟨g, 0, none⟩) cap (M.take i) := by
  obtain ⟨cur, hh, h3, h1, h2, R, hR⟩ := h.parts
  have hik : i * E.k + Z.length = M.length * E.k := by rw [hZ, ← Nat.add_mul]; congr 1; omega
  have hlen : (E.all M ++ R).length = cap * E.k := by rw [← hR, Array.length_toList, h3]
  have hA : (E.all (M.take i)).length = i * E.k := by rw [E.all_len, List.length_take, Nat.min_eq_left (by omega)]
  have hall : E.all M = E.all (M.take i) ++ E.all (M.drop i) := by rw [← E.all_app, List.take_append_drop]
  have hm := Nat.mul_le_mul_right E.k h1
  have htk : cur.toList.take (i * E.k) = E.all (M.take i) := by rw [hR, hall, List.append_assoc, List.take_left' hA]
  refine ⟨cur, hh, by rw [h3]; omega, ?_⟩
  refine Rw.of_row (setRow_heap w g cur _ T (0, 0) hh) (by rw [List.length_take]; omega) h2 ?_ ?_
  · rw [List.size_toArray, List.length_append, List.length_append, List.length_take, List.length_drop, Array.length_toList, h3]; omega
  · rw [List.toList_toArray, htk, List.append_assoc, List.take_left' (by rw [hA, List.length_take, Nat.min_eq_left hi])]
end
theorem exec_store_at {P : Program} {o : Oper} {a : Act} {w : World} (ty : TypeId) (x y : Operand) (ho : o.op = .store ty x y)
    (g off : Nat) (hx : a.eval x = .pointer (some ⟨g, off, none⟩)) (t : TypeId) (old : Array Value) (vs : List Value) (hy : a.eval y = .agg vs.toArray) (hg : w.heap[g]? = some (.cells old t (0, 0))) (hsz : off + vs.length ≤ old.size)
    (hi : (P.info? ty).map (·.size) = some vs.length) (h1 : ∀ v ∈ vs, v.oneCell' = true) : (execOp a.eval o).run P w = .ok .skip (w.setRow g (old.toList.take off ++ vs ++ old.toList.drop (off + vs.length)).toArray) := by
  have hst := run_storeCells_at P g off t vs 0 old w hg (by omega) h1
  rw [Nat.add_zero] at hst
  cases hq : P.info? ty with
  | none => simp [hq] at hi
  | some i =>
    have hs : i.size = vs.length := by simpa [hq] using hi
    have hv : (storeVar ty ⟨g, off, none⟩ (.agg vs.toArray)).run P w = .ok () (w.setRow g (old.toList.take off ++ vs ++ old.toList.drop (off + vs.length)).toArray) := by
      simp [storeVar, sizeOf, typeInfo, hq, hs, Value.cells, hst]
    unfold execOp
    simp only [ho, hx, hy, Instr.storeAt, Instr.sureAddr, Sem.run_bind, Sem.run_pure, Result.andThen_ok, hv]
theorem wpList_skip {P : Program} {ops : Array Oper} {rest : List Oper} {o : Oper} {a : Act} {w w' : World} {Q : Exit → Act → World → Prop} (hgd : o.guard = none) (hdst : o.dst = none) (hr : (execOp a.eval o).run P w = .ok .skip w') (h : wpList P ops Q rest a w') : wpList P ops Q (o :: rest) a w := by
  refine wpList_plain hgd fun K hK => ?_
  unfold Oper.wp
  rw [hr]
  exact hK _ _ (by rw [hdst]; exact h)
def nmOf (s : List UInt8) : Nm := ⟨idL s, idL_len s⟩
theorem results_row2 {P : Program} {fn : Func} {p u : Tmp} {ty : TypeId} (h : fn.results = #[.cell p ty, .tmp u]) (tmps : Array Value) (w : World) (g : Nat) (t : TypeId) (cs : Array Value) (fr : Nat × Nat) (d : TypeDesc) (v : Value)
    (hp : tmps.getD p undef = .pointer (some ⟨g, 0, none⟩)) (hv : tmps.getD u undef = v) (hg : w.heap[g]? = some (.cells cs t fr))
    (hu : P.underlying ty = some d) (hd : (match d with | .struct _ | .array _ _ => true | _ => false) = true) (hi : (P.info? ty).map (·.size) = some cs.size) :
    (results fn tmps).run P w = .ok (.tuple #[.agg cs, v]) w := by
  rw [results_cell_tmp h, hp, hv]
  simp [asAddr, run_loadVar_row w g t ty cs fr d hg hu hd hi, Result.andThen]
theorem info_u8k : (Try.prog.info? 5).map (fun i => (i.zero, i.size, i.bytes)) = some (some (.int .u8 0), 1, 1) := by kernel_rfl
end Go.Proofs.Ytambljnmaibdmaa

namespace Go.Proofs.Ytambljnmaibdmaa
open Go.RowKit

def zN : Nm := ⟨zid, rfl⟩
theorem info_name : (Try.prog.info? 97).map (fun i => (i.zero, i.size, i.bytes)) = some (some (.agg (vals zid).toArray), 32, 32) := by kernel_rfl
theorem all_rep (n : Nat) : (madeCells (vals zid).toArray (n * 32)).toList = encN.all (List.replicate n zN) := by
  have hzl : (vals zid).length = 32 := by rw [vals_len]; rfl
  apply List.ext_getElem?
  intro t
  by_cases ht : t < n * 32
  · have hd : t / 32 < n := by omega
    have hr : t % 32 < 32 := Nat.mod_lt _ (by decide)
    have he : t / 32 * 32 + t % 32 = t := by omega
    have h := encN.all_get (List.replicate n zN) (t / 32) (t % 32) (by simpa using hd) hr
    rw [show encN.k = 32 from rfl, he] at h
    rw [h, List.getElem_replicate, show encN.f zN = vals zid from rfl]
    generalize vals zid = V at hzl
    simp [madeCells, ht, hzl, hr]
  · have h2 : (encN.all (List.replicate n zN)).length = n * 32 := by rw [encN.all_len, List.length_replicate]; rfl
    rw [List.getElem?_eq_none (by simp [madeCells]; omega), List.getElem?_eq_none (by rw [h2]; omega)]
/-- 'make([]api.ID, n)'. -/
theorem wpList_makeN {ops : Array Oper} {rest : List Oper} {o : Oper} {a : Act} {Q : Exit → Act → World → Prop} {w : World} (hgd : o.guard = none) (l c : Operand) (hop : o.op = Op.makeSlice 88 l c)
    (n : Nat) (L C : Int) (hl : a.eval l = .int .i64 L) (hc : a.eval c = .int .i64 C) (hL : L = (n : Int)) (hC : C = (n : Int)) (hn : n ≤ 1000000)
    (hK : ∀ w', Rw encN 97 w' (some ⟨w.heap.size, 0, none⟩) n (List.replicate n zN) → Below w.heap.size w w' → w.heap.size < w'.heap.size → wpList Try.prog ops Q rest (a.put o.dst (.slice (some ⟨w.heap.size, 0, none⟩) n n)) w') :
    wpList Try.prog ops Q (o :: rest) a w := by
  obtain ⟨i, hi, hzz⟩ := Option.map_eq_some_iff.1 info_name
  simp only [Prod.mk.injEq] at hzz
  obtain ⟨hz, h1, h2⟩ := hzz
  refine wpList_make_full w hgd l c 88 hop 0 97 i (.agg (vals zid).toArray) 32 Try.underlying88 hi hz h1 .i64 .i64 L C n hl hc hL hC (by rw [h2]; omega) (by unfold maxLen; omega) (Nat.zero_le _) ?_
  intro w' hown hgrow
  rw [show (Value.agg (vals zid).toArray).cells = (vals zid).toArray from rfl, all_rep] at hown
  refine hK w' ?_ ((Below.refl _ _).grown hgrow (Nat.le_refl _) (by intro k h; cases h)) ?_
  · unfold Rw; rw [List.length_replicate]; exact hown
  · rcases hown.2 with ⟨h, _⟩ | ⟨g, cap, cur, h, _, hh, _⟩
    · cases h
    · simp only [Value.slice.injEq, Option.some.injEq, Addr.mk.injEq] at h
      obtain ⟨⟨rfl, _⟩, _⟩ := h
      exact (Array.getElem?_eq_some_iff.1 hh).1
theorem ext_bytes (K : List UInt8) (a b : Nat) : (⟨K.toArray⟩ : ByteArray).extract a b = ⟨((K.drop a).take (b - a)).toArray⟩ := by
  apply ByteArray.ext
  simp [List.extract_eq_take_drop]
/-- The i-th 32 bytes. -/
def pc (K : List UInt8) (i : Nat) : Nm := nmOf ((K.drop (i * 32)).take 32)
/-- The pieces of 32 bytes. -/
def pcs (K : List UInt8) : List Nm := (List.range (K.length / 32)).map (pc K)
/-- The first i are written. -/
def mid (K : List UInt8) (m i : Nat) : List Nm := (List.range i).map (pc K) ++ List.replicate (m - i) zN
theorem mid_l (K : List UInt8) (m i : Nat) (h : i ≤ m) : (mid K m i).length = m := by simp [mid]; omega
theorem mid_s (K : List UInt8) (m i : Nat) (h : i < m) : (mid K m i).set i (pc K i) = mid K m (i + 1) := by
  unfold mid
  rw [List.set_append_right _ _ (by simp), List.length_map, List.length_range, Nat.sub_self, show m - i = (m - (i + 1)) + 1 by omega, List.replicate_succ, List.set_cons_zero, List.range_succ, List.map_append, List.append_assoc]
  simp
/-- Are these one to five names, rising? -/
def nmsOk (K : List UInt8) : Bool := decide (K.length % 32 = 0 ∧ 1 ≤ K.length / 32 ∧ K.length / 32 ≤ 5) && rs ((pcs K).map (·.1)) (K.length / 32 - 1)
def NPost (K : List UInt8) (w : World) (r : Ending) (w' : World) : Prop :=
  ∃ q c L, r = .returned (.tuple #[.slice q L.length c, .bool (nmsOk K)]) ∧ L = (if nmsOk K then pcs K else []) ∧ Rw encN 97 w' q c L ∧ (∀ a, q = some a → w.heap.size ≤ a.block) ∧ Below w.heap.size w w'
theorem NPost.no {K : List UInt8} {w w' : World} (h : nmsOk K = false) (hb : Below w.heap.size w w') : NPost K w (.returned (.tuple #[.slice none 0 0, .bool false])) w' :=
  ⟨none, 0, [], by rw [h]; rfl, by rw [h]; rfl, Rw.empty _ _, (fun a e => by cases e), hb⟩
theorem NPost.of {K : List UInt8} {w w' : World} {r : Ending} (h : NPost K w r w') {P : Ending → World → Prop} (hP : P = NPost K w) : P r w' := by rw [hP]; exact h

set_option maxRecDepth 20000 in
set_option maxHeartbeats 4000000 in
theorem hnames_any (K : List UInt8) (w : World) (hK : K.length ≤ 1000000) : Calls Try.prog 48 #[.string ⟨K.toArray⟩] w (NPost K w) := by
  obtain ⟨F, hF⟩ : ∃ F, F = NPost K w := ⟨_, rfl⟩
  have HF := Lib.hid hF
  rw [← hF]
  clear hF
  by_cases h1 : K.length % 32 = 0
  · have e1 : (K.length : Int) % 32 = 0 := by omega
    by_cases h2 : 1 ≤ K.length / 32
    · have e2 : ¬ (K.length : Int) / 32 < 1 := by omega
      by_cases h3 : K.length / 32 ≤ 5
      · have e3 : ¬ 5 < (K.length : Int) / 32 := by omega
        obtain ⟨m, hm⟩ : ∃ m, m = K.length / 32 := ⟨_, rfl⟩
        have HM : Hid ((K.length : Int) / 32 = (m : Int)) := Lib.hid (by omega)
        have H5 : Hid (m ≤ 1000000) := Lib.hid (by omega)
        have h5 : m ≤ 5 := by omega
        have Hm := Lib.hid hm
        have Hk : Hid (m * 32 = K.length ∧ nmsOk K = rs ((pcs K).map (·.1)) (m - 1)) := Lib.hid ⟨by omega, by unfold nmsOk; rw [decide_eq_true ⟨h1, h2, h3⟩, Bool.true_and, ← hm]⟩
        clear h1 h2 h3 hm
        go_enter Try.func48, Try.ntmps48
        go_wp2_with (at_make; refine wpList_makeN rfl _ _ rfl m _ _ rfl rfl HM.out HM.out H5.out ?_; intro w1 hrw hb1 hlt1)
        obtain ⟨g, hg⟩ : ∃ g, g = w.heap.size := ⟨_, rfl⟩
        obtain ⟨o, ho⟩ : ∃ o, o = 0 := ⟨_, rfl⟩
        rw [← hg] at hrw hlt1 ⊢
        rw [show (some (⟨g, 0, none⟩ : Addr)) = some ⟨g, o, none⟩ by rw [ho]]
        have Hg := Lib.hid hg
        have Ho := Lib.hid ho
        have HR1 : Hid (Rw encN 97 w1 (some ⟨g, 0, none⟩) m (mid K m 0) ∧ Below w.heap.size w w1) := Lib.hid ⟨by simpa [mid] using hrw, hb1⟩
        clear hg ho hrw hb1 hlt1
        go_loopw [6, 26] (fun _ s26 wr => ∃ i : Nat, i ≤ m ∧ s26 = .int .i64 (i : Int) ∧ Hid (Rw encN 97 wr (some ⟨g, 0, none⟩) m (mid K m i) ∧ Below w.heap.size w wr)) (fun _ i _ => m - (intOf i).toNat)
        case atStart => exact ⟨0, Nat.zero_le _, rfl, HR1⟩
        case round =>
          clear HR1
          obtain ⟨i, hi, rfl, HB⟩ := hrel
          by_cases hlt : i < m
          · have i0 : (0 : Int) ≤ i := by omega
            have i1 : (i : Int) < m := by omega
            have hk5 : m * 32 = K.length := Hk.out.1
            have e5 : IntKind.i64.wrap ((i : Int) * 32) = (i : Int) * 32 := IntWalk.i64_in _ (by omega)
            have e6 : IntKind.i64.wrap ((i : Int) + 1) = (i : Int) + 1 := IntWalk.i64_in _ (by omega)
            have e7 : IntKind.i64.wrap (((i : Int) + 1) * 32) = ((i : Int) + 1) * 32 := IntWalk.i64_in _ (by omega)
            have e8 : ((i : Int) * 32).toNat = i * 32 := by omega
            have e9 : (((i : Int) + 1) * 32).toNat = (i + 1) * 32 := by omega
            have e10 : (0 : Int) ≤ (i : Int) * 32 := by omega
            have e11 : (i : Int) * 32 ≤ ((i : Int) + 1) * 32 := by omega
            have e12 : ((i : Int) + 1) * 32 ≤ (K.length : Int) := by omega
            have Hlt := Lib.hid hlt
            obtain ⟨x, hx⟩ : ∃ x, x = pc K i := ⟨_, rfl⟩
            have hname : Hid (∀ w, Calls Try.prog 51 #[.string ((⟨K.toArray⟩ : ByteArray).extract (i * 32) ((i + 1) * 32))] w fun r w' => r = .returned (.agg (vals x.1).toArray) ∧ Below w.heap.size w w') := Lib.hid (fun w => by
              rw [hx, ext_bytes, show (i + 1) * 32 - i * 32 = 32 by omega]; exact name_any _ w)
            have HST : Hid (∀ w3, Below wr.heap.size wr w3 → ∃ W4, (Rw encN 97 W4 (some ⟨g, 0, none⟩) m (mid K m (i + 1)) ∧ Below w.heap.size w W4) ∧
                ∀ (oo : Oper) (a : Act), oo.op = .store 97 (.tmp 39) (.tmp 38) → a.eval (.tmp 39) = .pointer (some ⟨g, o + i * 32, none⟩) → a.eval (.tmp 38) = .agg (vals x.1).toArray → (execOp a.eval oo).run Try.prog w3 = .ok .skip W4) := Lib.hid (fun w3 hb3 => by
              obtain ⟨cur, hh, hsz, hrw⟩ := (HB.out.1.old hb3).setAt i (by rw [mid_l K m i hi]; exact hlt) x
              rw [hx, mid_s K m i hlt] at hrw
              have hm : Below w.heap.size w w3 := HB.out.2.trans (hb3.mono HB.out.2.size)
              refine ⟨_, ⟨hrw, ((Mod.of_below hm).setRow _).to_below (Nat.le_refl _) (by rintro k hk (h | h) <;> (have := Hg.out; omega))⟩, fun oo a h1 h2 h3 => ?_⟩
              have hof : o + i * 32 = i * 32 := by rw [Ho.out, Nat.zero_add]
              rw [hof] at h2
              have h := exec_store_at (P := Try.prog) (w := w3) 97 (.tmp 39) (.tmp 38) h1 g (i * 32) h2 97 cur (vals x.1) h3 hh (by rw [vals_len, x.2]; exact hsz) (by rw [vals_len, x.2]; kernel_rfl) (vals_one x.1)
              rw [vals_len, x.2] at h
              rw [← hx]
              exact h)
            clear hk5 hlt hx HB
            go_wp2_with (first | (refine (hname.out _).mono ?_; rintro r w3 ⟨rfl, hb3⟩; obtain ⟨W4, hw4, hst⟩ := HST.out w3 hb3) | (refine wpList_skip rfl rfl (hst _ _ rfl rfl rfl) ?_))
            have HW4 := Lib.hid hw4
            have hlt := Hlt.out
            clear hst hw4 HST hb3
            go_roundw
            case rel => exact ⟨i + 1, by omega, by go_num, HW4⟩
            case measure => simp [intOf]; omega
          · have hend : mid K m i = pcs K := by
              have e : i = m := by omega
              rw [e]; unfold mid pcs; rw [Nat.sub_self, Hm.out]; simp
            have hpl : (pcs K).length = m := by unfold pcs; rw [List.length_map, List.length_range, Hm.out]
            have i1 : ¬ (i : Int) < m := by omega
            obtain ⟨R, hR⟩ : ∃ R, R = rs ((pcs K).map (·.1)) (m - 1) := ⟨_, rfl⟩
            have HW : Hid (Rw encN 97 wr (some ⟨g, 0, none⟩) m (pcs K) ∧ Below w.heap.size w wr) := Lib.hid ⟨by rw [← hend]; exact HB.out.1, HB.out.2⟩
            have hris : Hid (Calls Try.prog 52 #[.slice (some ⟨g, o, none⟩) m m] wr fun r w' => r = .returned (.bool R) ∧ Below wr.heap.size wr w') := Lib.hid (by
              have h := rising_any (some ⟨g, 0, none⟩) m (pcs K) wr HW.out.1.rd (by rw [hpl]; exact H5.out)
              rw [hpl, ← hR] at h
              rw [Ho.out]; exact h)
            have HR : Hid (nmsOk K = R) := Lib.hid (by rw [Hk.out.2, hR])
            have Hpl := Lib.hid hpl
            clear hend hpl hR HB
            cases R with
            | true =>
              go_wp2_with (refine hris.out.mono ?_; rintro r w3 ⟨rfl, hb3⟩)
              rw [HF.out]
              exact ⟨some ⟨g, 0, none⟩, m, pcs K, by rw [HR.out, Hpl.out, Ho.out]; rfl, by rw [HR.out]; rfl, HW.out.1.old hb3, (fun a e => by cases e; exact Nat.le_of_eq Hg.out.symm), HW.out.2.trans (hb3.mono HW.out.2.size)⟩
            | false =>
              go_wp2_with (refine hris.out.mono ?_; rintro r w3 ⟨rfl, hb3⟩)
              rw [HF.out]
              exact NPost.no HR.out (HW.out.2.trans (hb3.mono HW.out.2.size))
      · have hno : Hid (nmsOk K = false) := Lib.hid (by unfold nmsOk; rw [decide_eq_false (by omega)]; rfl)
        have e3 : 5 < (K.length : Int) / 32 := by omega
        clear h1 h2 h3
        go_enter Try.func48, Try.ntmps48
        go_wp2_with fail
        rw [HF.out]
        exact NPost.no hno.out (Below.refl _ _)
    · have hno : Hid (nmsOk K = false) := Lib.hid (by unfold nmsOk; rw [decide_eq_false (by omega)]; rfl)
      have e2 : (K.length : Int) / 32 < 1 := by omega
      clear h1 h2
      go_enter Try.func48, Try.ntmps48
      go_wp2_with fail
      rw [HF.out]
      exact NPost.no hno.out (Below.refl _ _)
  · have hno : Hid (nmsOk K = false) := Lib.hid (by unfold nmsOk; rw [decide_eq_false (by omega)]; rfl)
    have e1 : ((K.length : Int) % 32 == 0) = false := by simp; omega
    go_enter Try.func48, Try.ntmps48
    go_wp2_with fail
    rw [HF.out]
    exact NPost.no hno.out (Below.refl _ _)
end Go.Proofs.Ytambljnmaibdmaa

namespace Go.Proofs.Ytambljnmaibdmaa
open Go.RowKit

theorem pc_val (K : List UInt8) (i : Nat) (h : (i + 1) * 32 ≤ K.length) : (pc K i).1 = (K.drop (i * 32)).take 32 := by
  unfold pc nmOf
  exact idL_self _ (by rw [List.length_take, List.length_drop]; omega)
theorem pcs_getD (K : List UInt8) (i : Nat) (h : (i + 1) * 32 ≤ K.length) : ((pcs K).map (·.1)).getD i [] = (K.drop (i * 32)).take 32 := by
  have hlt : i < K.length / 32 := by omega
  rw [← pc_val K i h, List.getD_eq_getElem?_getD, List.getElem?_map]
  unfold pcs
  rw [List.getElem?_map, List.getElem?_range hlt]; rfl
theorem rs_pcs (K : List UInt8) (i : Nat) (h : (i + 2) * 32 ≤ K.length) : rs ((pcs K).map (·.1)) (i + 1) = (rs ((pcs K).map (·.1)) i && Op.bytesLess ((K.drop (i * 32)).take 32) ((K.drop ((i + 1) * 32)).take 32)) := by
  rw [rs_succ, pcs_getD K i (by omega), pcs_getD K (i + 1) (by omega), less_cmp]

theorem toList_mk (s : List UInt8) : (⟨s.toArray⟩ : ByteArray).toList = s := by simp

set_option maxRecDepth 20000 in
set_option maxHeartbeats 4000000 in
theorem rkey_any (K : List UInt8) (w : World) (hK : K.length ≤ 1000000) : Calls Try.prog 28 #[.string ⟨K.toArray⟩] w fun r w' => r = .returned (.bool (nmsOk K)) ∧ Below w.heap.size w w' := by
  obtain ⟨res, hres⟩ : ∃ r, r = nmsOk K := ⟨_, rfl⟩
  rw [← hres]
  by_cases h0 : K.length = 0
  · have hno : Hid (res = false) := Lib.hid (by rw [hres]; unfold nmsOk; rw [decide_eq_false (by omega)]; rfl)
    obtain rfl := hno.out
    have e0 : ((K.length : Int) == 0) = true := by simp [h0]
    clear h0 hres
    go_enter Try.func28, Try.ntmps28
    go_wp2_with fail
    go_ret
    exact ⟨rfl, Below.refl _ _⟩
  have e0 : ((K.length : Int) == 0) = false := by rw [beq_eq_false_iff_ne]; omega
  by_cases h1 : 160 < K.length
  · have hno : Hid (res = false) := Lib.hid (by rw [hres]; unfold nmsOk; rw [decide_eq_false (by omega)]; rfl)
    obtain rfl := hno.out
    have e1 : (160 : Int) < K.length := by omega
    clear h0 h1 hres
    go_enter Try.func28, Try.ntmps28
    go_wp2_with fail
    go_ret
    exact ⟨rfl, Below.refl _ _⟩
  have e1 : ¬ (160 : Int) < K.length := by omega
  by_cases h2 : K.length % 32 = 0
  case neg =>
    have hno : Hid (res = false) := Lib.hid (by rw [hres]; unfold nmsOk; rw [decide_eq_false (by omega)]; rfl)
    obtain rfl := hno.out
    have e2 : (0 : Int) < (K.length : Int) % 32 := by omega
    clear h0 h1 hres h2
    go_enter Try.func28, Try.ntmps28
    go_wp2_with fail
    go_ret
    exact ⟨rfl, Below.refl _ _⟩
  have e2 : ¬ (0 : Int) < (K.length : Int) % 32 := by omega
  obtain ⟨m, hm⟩ : ∃ m, K.length = (m + 1) * 32 := ⟨K.length / 32 - 1, by omega⟩
  have HR : Hid (res = rs ((pcs K).map (·.1)) m) := Lib.hid (by
    rw [hres]; unfold nmsOk
    rw [decide_eq_true (by omega), Bool.true_and, show K.length / 32 - 1 = m by omega])
  have Hm := Lib.hid hm
  have hm5 : m ≤ 4 := by omega
  clear h0 h1 h2 hres hm
  go_enter Try.func28, Try.ntmps28
  go_wp2_with fail
  go_loopw [3] (fun s3 wr => ∃ k b : Nat, k ≤ m ∧ s3 = .int .i64 (b : Int) ∧ Hid (b = (k + 1) * 32 ∧ rs ((pcs K).map (·.1)) k = true ∧ Below w.heap.size w wr)) (fun i _ => (m + 2) * 32 - (intOf i).toNat)
  case atStart => exact ⟨0, 32, Nat.zero_le _, rfl, Lib.hid ⟨rfl, rfl, Below.refl _ _⟩⟩
  case round =>
    obtain ⟨k, b, hk, rfl, hG⟩ := hrel
    have hml := Hm.out
    have hb := hG.out.1
    by_cases hlt : k < m
    · have b1 : (b : Int) < (K.length : Int) := by omega
      have HN := Lib.hid (rs_pcs K k (by omega))
      obtain ⟨L, hL⟩ : ∃ L, L = Op.bytesLess ((K.drop (k * 32)).take 32) ((K.drop ((k + 1) * 32)).take 32) := ⟨_, rfl⟩
      have HL : Hid (rs ((pcs K).map (·.1)) (k + 1) = L) := Lib.hid (by rw [HN.out, hG.out.2.1, Bool.true_and, hL])
      obtain ⟨A, hA⟩ : ∃ A : ByteArray, A = ⟨((K.drop (k * 32)).take 32).toArray⟩ := ⟨_, rfl⟩
      obtain ⟨B, hB⟩ : ∃ A : ByteArray, A = ⟨((K.drop ((k + 1) * 32)).take 32).toArray⟩ := ⟨_, rfl⟩
      have hcmp : Op.bytesLess A.toList B.toList = L := by
        rw [hL, hA, hB, toList_mk, toList_mk]
      have q1 : IntKind.i64.wrap ((b : Int) - 32) = ((k * 32 : Nat) : Int) := by rw [IntKind.wrap_i64]; omega
      have q2 : IntKind.i64.wrap ((b : Int) + 32) = (((k + 2) * 32 : Nat) : Int) := by rw [IntKind.wrap_i64]; omega
      have x1 : (ByteArray.mk K.toArray).extract (k * 32) b = A := by rw [ext_bytes, hA, show b - k * 32 = 32 by omega]
      have x2 : (ByteArray.mk K.toArray).extract b ((k + 2) * 32) = B := by rw [ext_bytes, hB, show (k + 2) * 32 - b = 32 by omega, hb]
      have HB := Lib.hid hG.out.2.2
      obtain ⟨a, ha⟩ : ∃ a : Nat, a = k * 32 := ⟨_, rfl⟩
      obtain ⟨c, hc⟩ : ∃ a : Nat, a = (k + 2) * 32 := ⟨_, rfl⟩
      rw [← ha] at x1 q1
      rw [← hc] at x2 q2
      have j0 : (0 : Int) ≤ a := by omega
      have j1 : (a : Int) ≤ b := by omega
      have j2 : (b : Int) ≤ K.length := by omega
      have j3 : (b : Int) ≤ c := by omega
      have j4 : (c : Int) ≤ K.length := by omega
      have j5 : (0 : Int) ≤ b := by omega
      have Hb := Lib.hid hb
      have Hc := Lib.hid hc
      have Hlt := Lib.hid hlt
      have Hk := Lib.hid hk
      clear hA hB hL HN hG hml ha hc hb hlt hk Hm
      go_wp2_with fail
      go_quiet (fail)
      cases L with
      | true =>
        go_wp2_with fail
        go_roundw
        case rel => exact ⟨k + 1, c, by have := Hlt.out; omega, by go_num, Lib.hid ⟨by rw [Hc.out], HL.out, below_drewN HB.out _⟩⟩
        case measure => have h1 := Hb.out; have h2 := Hc.out; have h3 := Hk.out; simp [intOf]; omega
      | false =>
        have HF : Hid (res = false) := Lib.hid (by
          obtain ⟨d, hd⟩ : ∃ d, m = k + 1 + d := ⟨m - (k + 1), by have := Hlt.out; omega⟩
          rw [HR.out]; exact rs_stop HL.out (by have := Hlt.out; omega))
        obtain rfl := HF.out
        go_wp2_with fail
        go_ret
        exact ⟨rfl, below_drewN HB.out _⟩
    · have HT : Hid (res = true) := Lib.hid (by rw [HR.out, show m = k by omega]; exact hG.out.2.1)
      have HB := Lib.hid hG.out.2.2
      have b1 : ¬ (b : Int) < (K.length : Int) := by omega
      obtain rfl := HT.out
      clear hG hml hb Hm
      go_wp2_with fail
      go_ret
      exact ⟨rfl, HB.out⟩
end Go.Proofs.Ytambljnmaibdmaa

namespace Go.Proofs.Ytambljnmaibdmaa
open Go.RowKit

theorem beVal_cons (d : UInt8) (l : List UInt8) : beVal (d :: l) = d.toNat * 256 ^ l.length + beVal l := by
  have key : ∀ (l : List UInt8) (a : Nat), l.foldl (fun a b => a * 256 + b.toNat) a = a * 256 ^ l.length + l.foldl (fun a b => a * 256 + b.toNat) 0 := by
    intro l
    induction l with
    | nil => intro a; simp
    | cons b l ih =>
      intro a
      simp only [List.foldl_cons, List.length_cons, Nat.zero_mul, Nat.zero_add]
      rw [ih (a * 256 + b.toNat), ih b.toNat, Nat.pow_succ, Nat.add_mul, Nat.mul_assoc, Nat.mul_comm 256 (256 ^ l.length), Nat.add_assoc]
  unfold beVal
  rw [List.foldl_cons, Nat.zero_mul, Nat.zero_add, key l d.toNat]
theorem beVal_lt (l : List UInt8) : beVal l < 256 ^ l.length := by
  have := beVal_take_lt l l.length (Nat.le_refl _)
  rwa [List.take_length] at this
theorem beVal_step (l : List UInt8) (k : Nat) (h : k < l.length) : beVal (l.take (k + 1)) = beVal (l.take k) * 256 + (l[k]).toNat := by
  rw [List.take_succ_eq_append_getElem h, beVal_snoc]
theorem beVal_mono (l : List UInt8) (k m : Nat) (hk : k ≤ m) (hm : m ≤ l.length) : beVal (l.take k) ≤ beVal (l.take m) := by
  obtain ⟨j, rfl⟩ : ∃ j, m = k + j := ⟨m - k, by omega⟩
  induction j with
  | zero => exact Nat.le_refl _
  | succ j ih =>
    refine Nat.le_trans (ih (by omega) (by omega)) ?_
    rw [← Nat.add_assoc, beVal_step l (k + j) (by omega)]; omega
theorem beVal_great (c d : UInt8) (r : List UInt8) (h8 : c.toNat ≤ 8) (h0 : c.toNat ≠ 0) (hl : c.toNat ≤ (d :: r).length) : 9223372036854775807 < beVal ((d :: r).take c.toNat) ↔ c.toNat = 8 ∧ 128 ≤ d.toNat := by
  obtain ⟨n, hn⟩ : ∃ n, n + 1 = c.toNat := ⟨c.toNat - 1, by omega⟩
  rw [← hn] at h8 hl ⊢
  rw [List.take_succ_cons, beVal_cons]
  have hln : (r.take n).length = n := by rw [List.length_take]; simp only [List.length_cons] at hl; omega
  have hb := beVal_lt (r.take n)
  rw [hln] at hb ⊢
  have hd := d.toNat_lt
  by_cases h7 : n = 7
  · subst h7
    have e : (256 : Nat) ^ 7 = 72057594037927936 := by decide
    rw [e] at hb ⊢
    omega
  · have e : (256 : Nat) ^ n ≤ 256 ^ 6 := Nat.pow_le_pow_right (by decide) (by omega)
    have e6 : (256 : Nat) ^ 6 = 281474976710656 := by decide
    rw [e6] at e
    have : d.toNat * 256 ^ n ≤ 256 * 281474976710656 := Nat.mul_le_mul (by omega) e
    omega

set_option maxRecDepth 20000 in
set_option maxHeartbeats 1000000 in
theorem rhead_any (s : List UInt8) (w : World) (hl : s.length ≤ 1099511627776) : Calls Try.prog 34 #[.string ⟨s.toArray⟩] w (Head3 (headL s) w) := by
  rcases s with _ | ⟨c, r⟩
  · go_enter Try.func34, Try.ntmps34
    go_wp2
    go_ret3
    exact ⟨rfl, rfl⟩
  have g0 : ({ data := (c :: r).toArray } : ByteArray)[0]'(by simp [ByteArray.size]) = c := rfl
  have hcb := c.toNat_lt
  have hll : r.length + 1 ≤ 1099511627776 := hl
  clear hl
  have z0 : ((r.length : Int) + 1 == 0) = false := by simp; omega
  by_cases h0 : c.toNat = 0
  · have hfin : headL (c :: r) = (0, 1, 0) := by simp [headL, h0]
    rw [hfin]
    have e0 : (c.toNat : Int) = 0 := by omega
    have z2 : ¬ ((r.length : Int) < 0) := by omega
    have z3 : ¬ ((r.length : Int) + 1 - 1 < 0) := by omega
    clear h0 hfin hcb
    go_enter Try.func34, Try.ntmps34
    go_wp2
    go_loop [6, 7] (fun x i => i = .int .i64 1 ∧ x = .int .i64 0) (fun _ _ => 0)
    case atStart => exact ⟨rfl, rfl⟩
    case round =>
      obtain ⟨rfl, rfl⟩ := hrel
      go_wp2
      go_ret3
      exact ⟨rfl, rfl⟩
  by_cases h1 : 8 < c.toNat
  · have hfin : headL (c :: r) = (0, 0, 3) := by simp [headL, h0, h1]
    rw [hfin]
    clear h0 hfin
    go_enter Try.func34, Try.ntmps34
    go_wp2
    go_ret3
    exact ⟨rfl, rfl⟩
  have p0 : (0 : Int) < c.toNat := by omega
  have p8 : ¬ (8 < (c.toNat : Int)) := by omega
  rcases r with _ | ⟨d, r⟩
  · have hfin : headL [c] = (0, 0, 2) := by simp [headL, h0, h1]
    rw [hfin]
    clear h0 hfin
    go_enter Try.func34, Try.ntmps34
    go_wp2
    go_ret3
    exact ⟨rfl, rfl⟩
  have g1 : ({ data := (c :: d :: r).toArray } : ByteArray)[1]'(by simp [ByteArray.size]) = d := rfl
  simp only [List.length_cons] at hll z0
  have z1 : (1 : Int) < (r.length : Int) + 1 + 1 := by omega
  by_cases h2 : d.toNat = 0
  · have hfin : headL (c :: d :: r) = (0, 0, 3) := by simp [headL, h0, h1, h2]
    rw [hfin]
    have t1 : ((d.toNat : Int) == 0) = true := by simp [h2]
    clear h0 h2 hfin
    go_enter Try.func34, Try.ntmps34
    go_wp2
    go_ret3
    exact ⟨rfl, rfl⟩
  have t1 : ((d.toNat : Int) == 0) = false := by simp [h2]
  by_cases h3 : (d :: r).length < c.toNat
  · have hfin : headL (c :: d :: r) = (0, 0, 2) := by simp only [headL, if_neg h0, if_neg h1, if_neg h2, if_pos h3]
    rw [hfin]
    simp only [List.length_cons] at h3
    have z2 : (r.length : Int) + 1 < c.toNat := by omega
    clear h0 h2 hfin h3
    go_enter Try.func34, Try.ntmps34
    go_wp2
    go_ret3
    exact ⟨rfl, rfl⟩
  have hgr := beVal_great c d r (by omega) h0 (by omega)
  have z2 : ¬ (r.length : Int) + 1 < c.toNat := by simp only [List.length_cons] at h3; omega
  have hdb := d.toNat_lt
  by_cases h5 : 9223372036854775807 < beVal ((d :: r).take c.toNat)
  · have hfin : headL (c :: d :: r) = (0, 0, 3) := by simp only [headL, if_neg h0, if_neg h1, if_neg h2, if_neg h3, if_pos h5]
    rw [hfin]
    obtain ⟨e8, e128⟩ := hgr.1 h5
    have t8 : ((c.toNat : Int) == 8) = true := by simp [e8]
    have t9 : (128 : Int) ≤ d.toNat := by omega
    clear h0 h2 h3 h5 hfin hgr e8 e128
    go_enter Try.func34, Try.ntmps34
    go_wp2
    go_ret3
    exact ⟨rfl, rfl⟩
  have hfin : headL (c :: d :: r) = (beVal ((d :: r).take c.toNat), c.toNat + 1, 0) := by simp only [headL, if_neg h0, if_neg h1, if_neg h2, if_neg h3, if_neg h5]
  have Hfin := Lib.hid hfin
  have H5 := Lib.hid h5
  have H3 := Lib.hid h3
  have H0 := Lib.hid h0
  have Hgr := Lib.hid hgr
  have hc8 : c.toNat ≤ 8 := by omega
  clear h0 h2 h3 h5 hfin hgr
  have body : ∀ (b : Bool), ((c.toNat : Int) == 8) = b → (b = true → ¬ (128 : Int) ≤ d.toNat) → Calls Try.prog 34 #[.string ⟨(c :: d :: r).toArray⟩] w (Head3 (headL (c :: d :: r)) w) := by
    intro b t8 t9
    cases b
    all_goals
      first | (have t10 := t9 rfl) | skip
      clear t9
      go_enter Try.func34, Try.ntmps34
      go_wp2
      go_loop [6, 7] (fun x i => ∃ k : Nat, k ≤ c.toNat ∧ i = .int .i64 ((k : Int) + 1) ∧ x = .int .i64 (beVal ((d :: r).take k))) (fun _ i => c.toNat + 1 - (intOf i).toNat)
      case atStart => exact ⟨0, by omega, rfl, rfl⟩
      case round =>
        obtain ⟨k, hk, rfl, rfl⟩ := hrel
        by_cases hlt : k < c.toNat
        · have hkl : k < (d :: r).length := by have := H3.out; omega
          have hkl' : k < r.length + 1 := by simpa using hkl
          have hst := beVal_step (d :: r) k hkl
          have hmo := beVal_mono (d :: r) (k + 1) c.toNat (by omega) (by have := H3.out; omega)
          have h5 := H5.out
          obtain ⟨V, hV⟩ : ∃ V, V = beVal ((d :: r).take k) := ⟨_, rfl⟩
          have hb : (d :: r)[k].toNat < 256 := UInt8.toNat_lt _
          rw [hst] at hmo
          rw [← hV] at hst hmo ⊢
          have hv8 : V ≤ 36028797018963967 := by omega
          have HV := Lib.hid hst
          have gk : ∀ h : k + 1 < (ByteArray.mk (c :: d :: r).toArray).size, (ByteArray.mk (c :: d :: r).toArray)[k + 1]'h = (d :: r)[k] := fun _ => rfl
          have e1 : ((k : Int) + 1).toNat = k + 1 := by omega
          obtain ⟨y, hy⟩ : ∃ y, y = (d :: r)[k] := ⟨_, rfl⟩
          rw [← hy] at hb HV gk
          clear hV hst hmo h5 hy
          go_wp2
          go_round
          case rel => exact ⟨k + 1, by omega, by go_num, by rw [HV.out]; exact val_int (by omega)⟩
          case measure => simp [intOf]; omega
        · obtain rfl : k = c.toNat := by omega
          go_wp2
          go_ret3
          exact ⟨by rw [Hfin.out]; exact ret3 rfl (show (c.toNat : Int) + 1 = ((c.toNat + 1 : Nat) : Int) by omega) rfl, rfl⟩
  by_cases e8 : c.toNat = 8
  · exact body true (by simp [e8]) (fun _ h => by have := Hgr.out.2 ⟨e8, by omega⟩; exact H5.out this)
  · exact body false (by rw [beq_eq_false_iff_ne]; omega) (fun h => by cases h)
end Go.Proofs.Ytambljnmaibdmaa

namespace Go.Proofs.Ytambljnmaibdmaa
open Go.RowKit

theorem numS_err (e most : Int) (h : e ≠ 0) : numS [] e most = (0, [], e) := by
  unfold numS headL failS; simp [h]
theorem rawS_err (e n : Int) (h : e ≠ 0) : rawS [] e n = ([], [], e) := by
  unfold rawS failS; simp [h]
theorem numS_no (s : List UInt8) (most : Int) (h : (headL s).2.2 ≠ 0) : numS s 0 most = (0, [], (headL s).2.2) := by
  unfold numS failS; simp [h]
theorem numS_big (s : List UInt8) (most : Int) (h : (headL s).2.2 = 0) (hm : most < (headL s).1) : numS s 0 most = (0, [], 4) := by
  unfold numS failS; simp [h, hm]
theorem numS_yes (s : List UInt8) (most : Int) (h : (headL s).2.2 = 0) (hm : ¬ most < (headL s).1) : numS s 0 most = (((headL s).1 : Int), s.drop (headL s).2.1, (0 : Int)) := by
  unfold numS; simp [h, hm]
theorem numS_back (x most : Int) (h0 : 0 ≤ x) (hx : x ≤ most) (hm : most ≤ 9223372036854775807) (r : List UInt8) : numS (numL x ++ r) 0 most = (x, r, 0) := by
  obtain ⟨n, rfl⟩ : ∃ n : Nat, x = n := ⟨x.toNat, by omega⟩
  have h := headL_num n (by omega) r
  unfold numS
  rw [h]
  simp only [ne_eq, not_true_eq_false, if_false, List.drop_left]
  rw [if_neg (by omega)]
theorem textS_back (s r : List UInt8) (most : Int) (hm : most ≤ 9223372036854775807) (h : (s.length : Int) ≤ most) : textS (numL s.length ++ (s ++ r)) 0 most = (s, r, 0) := by
  unfold textS
  rw [numS_back _ _ (by omega) (by omega) (by omega)]
  simp only [rawS]
  rw [if_neg (by simp; omega)]
  simp
theorem numS_inv (s : List UInt8) (e m : Int) (h : e ≠ 0 → s = []) : (numS s e m).2.2 ≠ 0 → (numS s e m).2.1 = [] := by
  by_cases he : e = 0
  · subst he
    by_cases hh : (headL s).2.2 = 0
    · by_cases hm : m < (headL s).1
      · rw [numS_big s m hh hm]; intro _; rfl
      · rw [numS_yes s m hh hm]; intro h; exact absurd rfl h
    · rw [numS_no s m hh]; intro _; rfl
  · rw [h he, numS_err e m he]; intro _; rfl
theorem rawS_inv (s : List UInt8) (e n : Int) (h : e ≠ 0 → s = []) : (rawS s e n).2.2 ≠ 0 → (rawS s e n).2.1 = [] := by
  by_cases he : e = 0
  · subst he
    unfold rawS failS
    split
    · simp
    · intro h; exact absurd rfl h
  · rw [h he, rawS_err e n he]; intro _; rfl
theorem beBytes_val : ∀ (l : List UInt8), (∀ d r, l = d :: r → d.toNat ≠ 0) → beBytes (beVal l) = l := by
  intro l
  induction hn : l.length using Nat.strongRecOn generalizing l with
  | _ n ih =>
    intro h
    rcases List.eq_nil_or_concat l with rfl | ⟨L, b, rfl⟩
    · exact beBytes_zero
    · rw [List.concat_eq_append] at hn h ⊢
      rw [beVal_snoc]
      have hb := b.toNat_lt
      have hL : ∀ d r, L = d :: r → d.toNat ≠ 0 := fun d r e => h d (r ++ [b]) (by rw [e]; rfl)
      have hpos : 0 < beVal L * 256 + b.toNat := by
        cases L with
        | nil => have := h b [] rfl; simp only [beVal, List.foldl_nil]; omega
        | cons d r =>
          have hd := hL d r rfl
          rw [beVal_cons]
          have : 0 < d.toNat * 256 ^ r.length := Nat.mul_pos (by omega) (Nat.pow_pos (by decide))
          omega
      rw [beBytes_pos _ hpos, show (beVal L * 256 + b.toNat) / 256 = beVal L by omega, show (beVal L * 256 + b.toNat) % 256 = b.toNat by omega]
      rw [ih L.length (by rw [← hn]; simp) L rfl hL]
      simp
theorem headL_fwd (s : List UInt8) (h : (headL s).2.2 = 0) : s = numL (headL s).1 ++ s.drop (headL s).2.1 := by
  rcases s with _ | ⟨c, r⟩
  · exact absurd h (by unfold headL; decide)
  by_cases h0 : c.toNat = 0
  · have hc : c = 0 := UInt8.toNat_inj.1 h0
    subst hc
    have e : headL (0 :: r) = (0, 1, 0) := by simp [headL]
    rw [e]
    have : numL ((0 : Nat) : Int) = [0] := by unfold numL; rw [Int.toNat_natCast, beBytes_zero]; rfl
    rw [this]; rfl
  by_cases h1 : 8 < c.toNat
  · have e : headL (c :: r) = (0, 0, 3) := by simp [headL, h0, h1]
    rw [e] at h; exact absurd h (by decide)
  rcases r with _ | ⟨d, r⟩
  · have e : headL [c] = (0, 0, 2) := by simp [headL, h0, h1]
    rw [e] at h; exact absurd h (by decide)
  by_cases h2 : d.toNat = 0
  · have e : headL (c :: d :: r) = (0, 0, 3) := by simp [headL, h0, h1, h2]
    rw [e] at h; exact absurd h (by decide)
  by_cases h3 : (d :: r).length < c.toNat
  · have e : headL (c :: d :: r) = (0, 0, 2) := by simp only [headL, if_neg h0, if_neg h1, if_neg h2, if_pos h3]
    rw [e] at h; exact absurd h (by decide)
  by_cases h5 : 9223372036854775807 < beVal ((d :: r).take c.toNat)
  · have e : headL (c :: d :: r) = (0, 0, 3) := by simp only [headL, if_neg h0, if_neg h1, if_neg h2, if_neg h3, if_pos h5]
    rw [e] at h; exact absurd h (by decide)
  have e : headL (c :: d :: r) = (beVal ((d :: r).take c.toNat), c.toNat + 1, 0) := by simp only [headL, if_neg h0, if_neg h1, if_neg h2, if_neg h3, if_neg h5]
  rw [e]
  have hb : beBytes (beVal ((d :: r).take c.toNat)) = (d :: r).take c.toNat := beBytes_val _ (fun d' r' e' => by
    obtain ⟨n, hn⟩ : ∃ n, c.toNat = n + 1 := ⟨c.toNat - 1, by omega⟩
    rw [hn, List.take_succ_cons] at e'
    cases e'; exact h2)
  have hl : ((d :: r).take c.toNat).length = c.toNat := by rw [List.length_take]; omega
  unfold numL
  simp only [Int.toNat_natCast, hb, hl]
  have hc : UInt8.ofNat c.toNat = c := by simp
  rw [hc, List.cons_append, List.drop_succ_cons, List.take_append_drop]
theorem numS_fwd (s : List UInt8) (e m : Int) (h : (numS s e m).2.2 = 0) : e = 0 ∧ s = numL (numS s e m).1 ++ (numS s e m).2.1 := by
  by_cases he : e = 0
  · subst he
    refine ⟨rfl, ?_⟩
    by_cases hh : (headL s).2.2 = 0
    · by_cases hm : m < (headL s).1
      · rw [numS_big s m hh hm] at h; exact absurd h (by decide)
      · rw [numS_yes s m hh hm]; exact headL_fwd s hh
    · rw [numS_no s m hh] at h; exact absurd h hh
  · exfalso
    unfold numS failS at h
    split at h
    · simp only at h; split at h
      · exact he h
      · rename_i h2; simp [he] at h2
    · split at h
      · simp only at h; split at h
        · exact he h
        · rename_i h2; simp [he] at h2
      · exact he h
theorem rawS_fwd (s : List UInt8) (e n : Int) (hn : 0 ≤ n) (h : (rawS s e n).2.2 = 0) : e = 0 ∧ s = (rawS s e n).1 ++ (rawS s e n).2.1 ∧ ((rawS s e n).1.length : Int) = n := by
  unfold rawS failS at h ⊢
  split at h
  · simp only at h
    split at h
    · rename_i h2
      rcases h2 with h2 | h2
      · exact absurd h2 (by decide)
      · exact absurd h h2
    · exact absurd h (by decide)
  · rename_i hc
    rw [if_neg hc]
    refine ⟨h, by simp, ?_⟩
    simp only [List.length_take]
    omega
theorem textS_fwd (s : List UInt8) (e m : Int) (h : (textS s e m).2.2 = 0) : e = 0 ∧ s = numL (textS s e m).1.length ++ ((textS s e m).1 ++ (textS s e m).2.1) := by
  unfold textS at h ⊢
  obtain ⟨h1, h2, h3⟩ := rawS_fwd _ _ _ (numS_lo _ _ _) h
  obtain ⟨h4, h5⟩ := numS_fwd _ _ _ h1
  refine ⟨h4, ?_⟩
  rw [← h2, h3]; exact h5
theorem textS_inv (s : List UInt8) (e m : Int) (h : e ≠ 0 → s = []) : (textS s e m).2.2 ≠ 0 → (textS s e m).2.1 = [] := by
  unfold textS; exact rawS_inv _ _ _ (numS_inv _ _ _ h)


/-- A command, or what is none. -/
inductive Cm
  | none
  | other
  | block (s : List UInt8) (r : Bool)
  | cert (s : List UInt8) (r : Bool)
  | clock (n : Int)
  | mark (k : List UInt8)
  | unmark
/-- Its value. -/
def cmV : Cm → Value
  | .none => .nilIface
  | .other => .iface 61 (.agg #[])
  | .block s r => .iface 55 (.agg #[.string ⟨s.toArray⟩, .bool r])
  | .cert s r => .iface 56 (.agg #[.string ⟨s.toArray⟩, .bool r])
  | .clock n => .iface 45 (.agg #[.int .i64 n])
  | .mark k => .iface 58 (.agg #[.string ⟨k.toArray⟩])
  | .unmark => .iface 60 (.agg #[])
def tooBig (s : List UInt8) : Bool := decide (4096 < s.length)
/-- What Check answers. -/
def cmCk : Cm → Int
  | .none => 18
  | .other => 18
  | .block s _ => if tooBig s then 4 else 0
  | .cert s _ => if tooBig s then 4 else 0
  | .clock n => if n < 0 ∨ 1073741824 < n then 1 else 0
  | .mark k => if tooBig k then 4 else if nmsOk k then 0 else 1
  | .unmark => 0
def bitI (r : Bool) : Int := if r then 1 else 0
/-- Its bytes. -/
def cmB : Cm → List UInt8
  | .none => []
  | .other => []
  | .block s r => numL 1 ++ (numL (bitI r) ++ (numL s.length ++ s))
  | .cert s r => numL 2 ++ (numL (bitI r) ++ (numL s.length ++ s))
  | .clock n => numL 3 ++ numL n
  | .mark k => numL 4 ++ (numL k.length ++ k)
  | .unmark => numL 5
/-- A verdict and a text. -/
def vdS (s : List UInt8) (e : Int) : Bool × List UInt8 × List UInt8 × Int :=
  ((numS s e 1).1 == 1, (textS (numS s e 1).2.1 (numS s e 1).2.2 4096))
/-- The rest of a command of kind k. -/
def bodyS (k : Int) (s : List UInt8) (e : Int) : Cm × List UInt8 × Int :=
  if k = 1 then (.block (vdS s e).2.1 (vdS s e).1, (vdS s e).2.2)
  else if k = 2 then (.cert (vdS s e).2.1 (vdS s e).1, (vdS s e).2.2)
  else if k = 3 then (.clock (numS s e 4611686018427387904).1, (numS s e 4611686018427387904).2)
  else if k = 4 then (.mark (textS s e 4096).1, (textS s e 4096).2)
  else if k = 5 then (.unmark, (s, e))
  else (.none, failS s e 18)
/-- A command that is taken, what is left, the error. -/
def takeM (s : List UInt8) : Cm × List UInt8 × Int := bodyS (numS s 0 255).1 (numS s 0 255).2.1 (numS s 0 255).2.2
def cmE (s : List UInt8) : Int := if (takeM s).2.2 = 0 then (if (takeM s).2.1 = [] then cmCk (takeM s).1 else 3) else (takeM s).2.2
def cmC (s : List UInt8) : Cm := if cmE s = 0 then (takeM s).1 else .none
theorem failS_inv (s : List UInt8) (e x : Int) (h : e ≠ 0 → s = []) : (failS s e x).2 ≠ 0 → (failS s e x).1 = [] := by
  unfold failS
  split
  · exact h
  · intro _; rfl
theorem vdS_inv (s : List UInt8) (e : Int) (h : e ≠ 0 → s = []) : (vdS s e).2.2.2 ≠ 0 → (vdS s e).2.2.1 = [] :=
  textS_inv _ _ _ (numS_inv _ _ _ h)
theorem bodyS_inv (k : Int) (s : List UInt8) (e : Int) (h : e ≠ 0 → s = []) : (bodyS k s e).2.2 ≠ 0 → (bodyS k s e).2.1 = [] := by
  unfold bodyS
  split
  · exact vdS_inv _ _ h
  split
  · exact vdS_inv _ _ h
  split
  · exact numS_inv _ _ _ h
  split
  · exact textS_inv _ _ _ h
  split
  · exact h
  · exact failS_inv _ _ _ h
theorem takeM_inv (s : List UInt8) : (takeM s).2.2 ≠ 0 → (takeM s).2.1 = [] :=
  bodyS_inv _ _ _ (numS_inv _ _ _ (fun h => absurd rfl h))
theorem bit_back (x : Int) (h0 : 0 ≤ x) (h1 : x ≤ 1) : bitI (x == 1) = x := by
  have : x = 0 ∨ x = 1 := by omega
  rcases this with rfl | rfl <;> rfl
theorem vdS_fwd (s : List UInt8) (e : Int) (h : (vdS s e).2.2.2 = 0) : e = 0 ∧ s = numL (bitI (vdS s e).1) ++ (numL (vdS s e).2.1.length ++ ((vdS s e).2.1 ++ (vdS s e).2.2.1)) := by
  unfold vdS at h ⊢
  simp only at h ⊢
  obtain ⟨h1, h2⟩ := textS_fwd _ _ _ h
  obtain ⟨h3, h4⟩ := numS_fwd _ _ _ h1
  rw [bit_back _ (numS_lo _ _ _) (numS_hi _ _ _ (by decide)), ← h2, ← h4]
  exact ⟨h3, rfl⟩
theorem takeM_fwd (s : List UInt8) (he : (takeM s).2.2 = 0) (hr : (takeM s).2.1 = []) : cmB (takeM s).1 = s := by
  have key : ∀ k t e, (bodyS k t e).2.2 = 0 → (bodyS k t e).2.1 = [] → e = 0 ∧ cmB (bodyS k t e).1 = numL k ++ t := by
    intro k t e h1 h2
    unfold bodyS at h1 h2 ⊢
    split at h1
    · rename_i hk
      subst hk
      rw [if_pos rfl] at h2
      rw [if_pos rfl]
      obtain ⟨h3, h4⟩ := vdS_fwd _ _ h1
      simp only at h2
      rw [h2, List.append_nil] at h4
      exact ⟨h3, by simp only [cmB]; rw [← h4]⟩
    split at h1
    · rename_i _ hk
      subst hk
      simp only [show ¬ ((2 : Int) = 1) by decide, if_false, if_true] at h2 ⊢
      obtain ⟨h3, h4⟩ := vdS_fwd _ _ h1
      rw [h2, List.append_nil] at h4
      exact ⟨h3, by simp only [cmB]; rw [← h4]⟩
    split at h1
    · rename_i _ _ hk
      subst hk
      simp only [show ¬ ((3 : Int) = 1) by decide, show ¬ ((3 : Int) = 2) by decide, if_false, if_true] at h2 ⊢
      obtain ⟨h3, h4⟩ := numS_fwd _ _ _ h1
      rw [h2, List.append_nil] at h4
      exact ⟨h3, by simp only [cmB]; rw [← h4]⟩
    split at h1
    · rename_i _ _ _ hk
      subst hk
      simp only [show ¬ ((4 : Int) = 1) by decide, show ¬ ((4 : Int) = 2) by decide, show ¬ ((4 : Int) = 3) by decide, if_false, if_true] at h2 ⊢
      obtain ⟨h3, h4⟩ := textS_fwd _ _ _ h1
      rw [h2, List.append_nil] at h4
      exact ⟨h3, by simp only [cmB]; rw [← h4]⟩
    split at h1
    · rename_i _ _ _ _ hk
      subst hk
      simp only [show ¬ ((5 : Int) = 1) by decide, show ¬ ((5 : Int) = 2) by decide, show ¬ ((5 : Int) = 3) by decide, show ¬ ((5 : Int) = 4) by decide, if_false, if_true] at h2 ⊢
      simp only at h1 h2
      subst h2
      exact ⟨h1, by simp [cmB]⟩
    · exfalso
      unfold failS at h1
      split at h1
      · rename_i h3
        rcases h3 with h3 | h3
        · exact absurd h3 (by decide)
        · exact h3 h1
      · exact absurd h1 (by decide)
  obtain ⟨h1, h2⟩ := key _ _ _ he hr
  obtain ⟨_, h3⟩ := numS_fwd _ _ _ h1
  unfold takeM
  rw [h2]; exact h3.symm
theorem takeM_back {c : Cm} (h : cmCk c = 0) : takeM (cmB c) = (c, [], 0) := by
  have vb : ∀ (s : List UInt8) (r : Bool), ¬ tooBig s → vdS (numL (bitI r) ++ (numL s.length ++ s)) 0 = (r, s, [], 0) := by
    intro s r hs
    have h1 : (s.length : Int) ≤ 4096 := by simp [tooBig] at hs; omega
    have h2 := textS_back s [] 4096 (by decide) h1
    rw [List.append_nil] at h2
    unfold vdS
    rw [numS_back (bitI r) 1 (by cases r <;> decide) (by cases r <;> decide) (by decide)]
    simp only
    rw [h2]
    cases r <;> rfl
  unfold takeM
  cases c with
  | none => exact absurd h (by decide)
  | other => exact absurd h (by decide)
  | block s r =>
    have hb : ¬ tooBig s := fun hb => by simp [cmCk, hb] at h
    unfold cmB
    rw [numS_back 1 255 (by decide) (by decide) (by decide)]
    simp only [bodyS, if_true]
    rw [vb s r hb]
  | cert s r =>
    have hb : ¬ tooBig s := fun hb => by simp [cmCk, hb] at h
    unfold cmB
    rw [numS_back 2 255 (by decide) (by decide) (by decide)]
    simp only [bodyS, if_true, show ¬ ((2 : Int) = 1) by decide, if_false]
    rw [vb s r hb]
  | clock n =>
    have hb : 0 ≤ n ∧ n ≤ 1073741824 := by
      simp only [cmCk] at h
      split at h
      · exact absurd h (by decide)
      · omega
    unfold cmB
    have h2 := numS_back n 4611686018427387904 hb.1 (by omega) (by decide) []
    rw [List.append_nil] at h2
    rw [numS_back 3 255 (by decide) (by decide) (by decide)]
    simp only [bodyS, if_true, show ¬ ((3 : Int) = 1) by decide, show ¬ ((3 : Int) = 2) by decide, if_false]
    rw [h2]
  | mark k =>
    have hb : ¬ tooBig k := fun hb => by simp [cmCk, hb] at h
    have h1 : (k.length : Int) ≤ 4096 := by simp [tooBig] at hb; omega
    have h2 := textS_back k [] 4096 (by decide) h1
    rw [List.append_nil] at h2
    unfold cmB
    rw [numS_back 4 255 (by decide) (by decide) (by decide)]
    simp only [bodyS, if_true, show ¬ ((4 : Int) = 1) by decide, show ¬ ((4 : Int) = 2) by decide, show ¬ ((4 : Int) = 3) by decide, if_false]
    rw [h2]
  | unmark =>
    unfold cmB
    have h2 := numS_back 5 255 (by decide) (by decide) (by decide) []
    rw [List.append_nil] at h2
    rw [h2]
    rfl
theorem cmE_ok {s : List UInt8} (h : cmE s = 0) : cmCk (takeM s).1 = 0 ∧ cmB (takeM s).1 = s ∧ cmC s = (takeM s).1 := by
  have hc : cmC s = (takeM s).1 := by unfold cmC; rw [if_pos h]
  unfold cmE at h
  split at h
  · rename_i he
    split at h
    · rename_i hr
      exact ⟨h, takeM_fwd s he hr, hc⟩
    · exact absurd h (by decide)
  · rename_i he; exact absurd h he
theorem cmB_inj {c d : Cm} (hc : cmCk c = 0) (hd : cmCk d = 0) (h : cmB c = cmB d) : c = d := by
  have h1 := takeM_back hc
  rw [h, takeM_back hd] at h1
  exact (congrArg (·.1) h1).symm
theorem textS_lim (s : List UInt8) (e m : Int) : (textS s e m).1.length ≤ s.length := by
  have h : ∀ (s : List UInt8) (e n : Int), (rawS s e n).1.length ≤ s.length := by
    intro s e n; unfold rawS; split
    · simp
    · simp only [List.length_take]; omega
  unfold textS
  exact Nat.le_trans (h _ _ _) (numS_len _ _ _)
/-- The command of four fields. -/
def cmOf (k : Int) (s : List UInt8) (r : Bool) (n : Int) : Cm :=
  if k = 0 then .none else if k = 1 then .block s r else if k = 2 then .cert s r else if k = 3 then .clock n else if k = 4 then .mark s else if k = 5 then .unmark else .other
/-- Its fields, as the reference has them. -/
def rcm (k : Int) (s : List UInt8) (r : Bool) (n : Int) : Array Value := #[.int .i64 k, .string ⟨s.toArray⟩, .bool r, .int .i64 n]
def Cm.flds : Cm → Int × List UInt8 × Bool × Int
  | .none => (0, [], false, 0)
  | .other => (6, [], false, 0)
  | .block s r => (1, s, r, 0)
  | .cert s r => (2, s, r, 0)
  | .clock n => (3, [], false, n)
  | .mark k => (4, k, false, 0)
  | .unmark => (5, [], false, 0)
def rcmC (c : Cm) : Array Value := rcm c.flds.1 c.flds.2.1 c.flds.2.2.1 c.flds.2.2.2
theorem cmOf_flds (c : Cm) : cmOf c.flds.1 c.flds.2.1 c.flds.2.2.1 c.flds.2.2.2 = c := by cases c <;> rfl
end Go.Proofs.Ytambljnmaibdmaa

namespace Go.Proofs.Ytambljnmaibdmaa
open Go.RowKit

theorem taBlockBlock (v : Value) (w : World) : (Instr.typeAssert (.iface 55 v) 25 55 true).run Try.prog w = .ok (.tuple #[v, .bool true]) w := by kernel_rfl
theorem taBlockCert (v : Value) (w : World) : (Instr.typeAssert (.iface 55 v) 25 56 true).run Try.prog w = .ok (.tuple #[.agg #[.string ⟨#[]⟩, .bool false], .bool false]) w := by kernel_rfl
theorem taBlockClock (v : Value) (w : World) : (Instr.typeAssert (.iface 55 v) 25 45 true).run Try.prog w = .ok (.tuple #[.agg #[.int .i64 0], .bool false]) w := by kernel_rfl
theorem taBlockMark (v : Value) (w : World) : (Instr.typeAssert (.iface 55 v) 25 58 true).run Try.prog w = .ok (.tuple #[.agg #[.string ⟨#[]⟩], .bool false]) w := by kernel_rfl
theorem taBlockUnmark (v : Value) (w : World) : (Instr.typeAssert (.iface 55 v) 25 60 true).run Try.prog w = .ok (.tuple #[.agg #[], .bool false]) w := by kernel_rfl
theorem taCertBlock (v : Value) (w : World) : (Instr.typeAssert (.iface 56 v) 25 55 true).run Try.prog w = .ok (.tuple #[.agg #[.string ⟨#[]⟩, .bool false], .bool false]) w := by kernel_rfl
theorem taCertCert (v : Value) (w : World) : (Instr.typeAssert (.iface 56 v) 25 56 true).run Try.prog w = .ok (.tuple #[v, .bool true]) w := by kernel_rfl
theorem taCertClock (v : Value) (w : World) : (Instr.typeAssert (.iface 56 v) 25 45 true).run Try.prog w = .ok (.tuple #[.agg #[.int .i64 0], .bool false]) w := by kernel_rfl
theorem taCertMark (v : Value) (w : World) : (Instr.typeAssert (.iface 56 v) 25 58 true).run Try.prog w = .ok (.tuple #[.agg #[.string ⟨#[]⟩], .bool false]) w := by kernel_rfl
theorem taCertUnmark (v : Value) (w : World) : (Instr.typeAssert (.iface 56 v) 25 60 true).run Try.prog w = .ok (.tuple #[.agg #[], .bool false]) w := by kernel_rfl
theorem taClockBlock (v : Value) (w : World) : (Instr.typeAssert (.iface 45 v) 25 55 true).run Try.prog w = .ok (.tuple #[.agg #[.string ⟨#[]⟩, .bool false], .bool false]) w := by kernel_rfl
theorem taClockCert (v : Value) (w : World) : (Instr.typeAssert (.iface 45 v) 25 56 true).run Try.prog w = .ok (.tuple #[.agg #[.string ⟨#[]⟩, .bool false], .bool false]) w := by kernel_rfl
theorem taClockClock (v : Value) (w : World) : (Instr.typeAssert (.iface 45 v) 25 45 true).run Try.prog w = .ok (.tuple #[v, .bool true]) w := by kernel_rfl
theorem taClockMark (v : Value) (w : World) : (Instr.typeAssert (.iface 45 v) 25 58 true).run Try.prog w = .ok (.tuple #[.agg #[.string ⟨#[]⟩], .bool false]) w := by kernel_rfl
theorem taClockUnmark (v : Value) (w : World) : (Instr.typeAssert (.iface 45 v) 25 60 true).run Try.prog w = .ok (.tuple #[.agg #[], .bool false]) w := by kernel_rfl
theorem taMarkBlock (v : Value) (w : World) : (Instr.typeAssert (.iface 58 v) 25 55 true).run Try.prog w = .ok (.tuple #[.agg #[.string ⟨#[]⟩, .bool false], .bool false]) w := by kernel_rfl
theorem taMarkCert (v : Value) (w : World) : (Instr.typeAssert (.iface 58 v) 25 56 true).run Try.prog w = .ok (.tuple #[.agg #[.string ⟨#[]⟩, .bool false], .bool false]) w := by kernel_rfl
theorem taMarkClock (v : Value) (w : World) : (Instr.typeAssert (.iface 58 v) 25 45 true).run Try.prog w = .ok (.tuple #[.agg #[.int .i64 0], .bool false]) w := by kernel_rfl
theorem taMarkMark (v : Value) (w : World) : (Instr.typeAssert (.iface 58 v) 25 58 true).run Try.prog w = .ok (.tuple #[v, .bool true]) w := by kernel_rfl
theorem taMarkUnmark (v : Value) (w : World) : (Instr.typeAssert (.iface 58 v) 25 60 true).run Try.prog w = .ok (.tuple #[.agg #[], .bool false]) w := by kernel_rfl
theorem taUnmarkBlock (v : Value) (w : World) : (Instr.typeAssert (.iface 60 v) 25 55 true).run Try.prog w = .ok (.tuple #[.agg #[.string ⟨#[]⟩, .bool false], .bool false]) w := by kernel_rfl
theorem taUnmarkCert (v : Value) (w : World) : (Instr.typeAssert (.iface 60 v) 25 56 true).run Try.prog w = .ok (.tuple #[.agg #[.string ⟨#[]⟩, .bool false], .bool false]) w := by kernel_rfl
theorem taUnmarkClock (v : Value) (w : World) : (Instr.typeAssert (.iface 60 v) 25 45 true).run Try.prog w = .ok (.tuple #[.agg #[.int .i64 0], .bool false]) w := by kernel_rfl
theorem taUnmarkMark (v : Value) (w : World) : (Instr.typeAssert (.iface 60 v) 25 58 true).run Try.prog w = .ok (.tuple #[.agg #[.string ⟨#[]⟩], .bool false]) w := by kernel_rfl
theorem taUnmarkUnmark (v : Value) (w : World) : (Instr.typeAssert (.iface 60 v) 25 60 true).run Try.prog w = .ok (.tuple #[v, .bool true]) w := by kernel_rfl
theorem taOtherBlock (v : Value) (w : World) : (Instr.typeAssert (.iface 61 v) 25 55 true).run Try.prog w = .ok (.tuple #[.agg #[.string ⟨#[]⟩, .bool false], .bool false]) w := by kernel_rfl
theorem taOtherCert (v : Value) (w : World) : (Instr.typeAssert (.iface 61 v) 25 56 true).run Try.prog w = .ok (.tuple #[.agg #[.string ⟨#[]⟩, .bool false], .bool false]) w := by kernel_rfl
theorem taOtherClock (v : Value) (w : World) : (Instr.typeAssert (.iface 61 v) 25 45 true).run Try.prog w = .ok (.tuple #[.agg #[.int .i64 0], .bool false]) w := by kernel_rfl
theorem taOtherMark (v : Value) (w : World) : (Instr.typeAssert (.iface 61 v) 25 58 true).run Try.prog w = .ok (.tuple #[.agg #[.string ⟨#[]⟩], .bool false]) w := by kernel_rfl
theorem taOtherUnmark (v : Value) (w : World) : (Instr.typeAssert (.iface 61 v) 25 60 true).run Try.prog w = .ok (.tuple #[.agg #[], .bool false]) w := by kernel_rfl
theorem taNilBlock (w : World) : (Instr.typeAssert .nilIface 25 55 true).run Try.prog w = .ok (.tuple #[.agg #[.string ⟨#[]⟩, .bool false], .bool false]) w := by kernel_rfl
theorem taNilCert (w : World) : (Instr.typeAssert .nilIface 25 56 true).run Try.prog w = .ok (.tuple #[.agg #[.string ⟨#[]⟩, .bool false], .bool false]) w := by kernel_rfl
theorem taNilClock (w : World) : (Instr.typeAssert .nilIface 25 45 true).run Try.prog w = .ok (.tuple #[.agg #[.int .i64 0], .bool false]) w := by kernel_rfl
theorem taNilMark (w : World) : (Instr.typeAssert .nilIface 25 58 true).run Try.prog w = .ok (.tuple #[.agg #[.string ⟨#[]⟩], .bool false]) w := by kernel_rfl
theorem taNilUnmark (w : World) : (Instr.typeAssert .nilIface 25 60 true).run Try.prog w = .ok (.tuple #[.agg #[], .bool false]) w := by kernel_rfl

theorem cmtext_any (s : List UInt8) (w : World) : Calls Try.prog 39 #[.string ⟨s.toArray⟩] w fun r w' => r = .returned (.int .i64 (if tooBig s then 4 else 0)) ∧ w = w' := by
  cases h : tooBig s
  · have h1 : ¬ (4096 : Int) < s.length := by simp [tooBig] at h; omega
    clear h
    go_enter Try.func39, Try.ntmps39
    go_wp2_with fail
    go_ret
    exact ⟨rfl, rfl⟩
  · have h1 : (4096 : Int) < s.length := by simp [tooBig] at h; omega
    clear h
    go_enter Try.func39, Try.ntmps39
    go_wp2_with fail
    go_ret
    exact ⟨rfl, rfl⟩
theorem cmepoch_any (n : Int) (w : World) : Calls Try.prog 40 #[.int .i64 n] w fun r w' => r = .returned (.int .i64 (if n < 0 ∨ 1073741824 < n then 1 else 0)) ∧ w = w' := by
  by_cases h0 : n < 0
  · rw [if_pos (.inl h0)]
    go_enter Try.func40, Try.ntmps40
    go_wp2_with fail
    go_ret
    exact ⟨rfl, rfl⟩
  by_cases h1 : 1073741824 < n
  · rw [if_pos (.inr h1)]
    go_enter Try.func40, Try.ntmps40
    go_wp2_with fail
    go_ret
    exact ⟨rfl, rfl⟩
  rw [if_neg (by omega)]
  go_enter Try.func40, Try.ntmps40
  go_wp2_with fail
  go_ret
  exact ⟨rfl, rfl⟩
theorem cmkey_any (k : List UInt8) (w : World) (hl : k.length ≤ 1000000000000) : Calls Try.prog 41 #[.string ⟨k.toArray⟩] w fun r w' => r = .returned (.int .i64 (if tooBig k then 4 else if nmsOk k then 0 else 1)) ∧ Below w.heap.size w w' := by
  have ht := Lib.hid (cmtext_any k w)
  cases h : tooBig k
  · rw [h] at ht
    have hk : k.length ≤ 1000000 := by simp [tooBig] at h; omega
    have hn := hnames_any k w hk
    obtain ⟨b, hb⟩ : ∃ b, b = nmsOk k := ⟨_, rfl⟩
    have hn : Hid (Calls Try.prog 48 #[.string ⟨k.toArray⟩] w fun r w' => ∃ q c n, r = .returned (.tuple #[.slice q n c, .bool b]) ∧ Below w.heap.size w w') := Lib.hid (hn.mono (by rintro r w1 ⟨q, c, L, rfl, -, -, -, hb'⟩; exact ⟨q, c, L.length, by rw [hb], hb'⟩))
    rw [← hb]
    clear h hk hl hb
    go_enter Try.func41, Try.ntmps41
    go_wp2_with fail
    refine ht.out.mono ?_
    rintro r w1 ⟨rfl, rfl⟩
    clear ht
    go_wp2_with fail
    refine hn.out.mono ?_
    rintro r w1 ⟨q, c, n, rfl, hb⟩
    have HB := Lib.hid hb
    clear hb hn
    cases b
    · go_wp2_with fail
      go_ret
      exact ⟨rfl, HB.out⟩
    · go_wp2_with fail
      go_ret
      exact ⟨rfl, HB.out⟩
  · rw [h] at ht
    clear h hl
    go_enter Try.func41, Try.ntmps41
    go_wp2_with fail
    refine ht.out.mono ?_
    rintro r w1 ⟨rfl, rfl⟩
    clear ht
    go_wp2_with fail
    go_ret
    exact ⟨rfl, Below.refl _ _⟩
/-- Its text isn't too long for a machine. -/
def cmFit : Cm → Prop
  | .block s _ => s.length ≤ 1000000000000
  | .cert s _ => s.length ≤ 1000000000000
  | .mark s => s.length ≤ 1000000000000
  | _ => True

set_option maxRecDepth 20000 in
set_option maxHeartbeats 2000000 in
theorem cmcheck1_any (c : Cm) (w : World) (hf : cmFit c) : Calls Try.prog 24 #[cmV c] w fun r w' => r = .returned (.int .i64 (cmCk c)) ∧ Below w.heap.size w w' := by
  cases c with
  | none =>
    simp only [cmV, cmCk]
    have a0 := taNilBlock
    have a1 := taNilCert
    have a2 := taNilClock
    have a3 := taNilMark
    have a4 := taNilUnmark
    go_enter Try.func24, Try.ntmps24
    go_wp2_with fail
    go_ret
    exact ⟨rfl, Below.refl _ _⟩
  | other =>
    simp only [cmV, cmCk]
    have a0 := taOtherBlock
    have a1 := taOtherCert
    have a2 := taOtherClock
    have a3 := taOtherMark
    have a4 := taOtherUnmark
    go_enter Try.func24, Try.ntmps24
    go_wp2_with fail
    go_ret
    exact ⟨rfl, Below.refl _ _⟩
  | block s r =>
    have hc := Lib.hid (fun w => cmtext_any s w)
    simp only [cmV, cmCk]
    obtain ⟨z, hz⟩ : ∃ z, z = (if tooBig s then 4 else 0 : Int) := ⟨_, rfl⟩
    rw [← hz] at hc ⊢
    clear hz hf
    have a0 := taBlockBlock
    have a1 := taBlockCert
    have a2 := taBlockClock
    have a3 := taBlockMark
    have a4 := taBlockUnmark
    go_enter Try.func24, Try.ntmps24
    go_wp2_with fail
    refine (hc.out _).mono ?_
    rintro r w1 ⟨rfl, rfl⟩
    go_wp2_with fail
    go_ret
    exact ⟨rfl, (Below.refl _ _).alloc (Nat.le_refl _) _⟩
  | cert s r =>
    have hc := Lib.hid (fun w => cmtext_any s w)
    simp only [cmV, cmCk]
    obtain ⟨z, hz⟩ : ∃ z, z = (if tooBig s then 4 else 0 : Int) := ⟨_, rfl⟩
    rw [← hz] at hc ⊢
    clear hz hf
    have a0 := taCertBlock
    have a1 := taCertCert
    have a2 := taCertClock
    have a3 := taCertMark
    have a4 := taCertUnmark
    go_enter Try.func24, Try.ntmps24
    go_wp2_with fail
    refine (hc.out _).mono ?_
    rintro r w1 ⟨rfl, rfl⟩
    go_wp2_with fail
    go_ret
    exact ⟨rfl, (Below.refl _ _).alloc (Nat.le_refl _) _⟩
  | clock n =>
    have hc := Lib.hid (fun w => cmepoch_any n w)
    simp only [cmV, cmCk]
    obtain ⟨z, hz⟩ : ∃ z, z = (if n < 0 ∨ 1073741824 < n then 1 else 0 : Int) := ⟨_, rfl⟩
    rw [← hz] at hc ⊢
    clear hz hf
    have a0 := taClockBlock
    have a1 := taClockCert
    have a2 := taClockClock
    have a3 := taClockMark
    have a4 := taClockUnmark
    go_enter Try.func24, Try.ntmps24
    go_wp2_with fail
    refine (hc.out _).mono ?_
    rintro r w1 ⟨rfl, rfl⟩
    go_wp2_with fail
    go_ret
    exact ⟨rfl, (Below.refl _ _).alloc (Nat.le_refl _) _⟩
  | mark k =>
    have hc := Lib.hid (fun w => cmkey_any k w hf)
    simp only [cmV, cmCk]
    obtain ⟨z, hz⟩ : ∃ z, z = (if tooBig k then 4 else if nmsOk k then 0 else 1 : Int) := ⟨_, rfl⟩
    rw [← hz] at hc ⊢
    clear hz hf
    have a0 := taMarkBlock
    have a1 := taMarkCert
    have a2 := taMarkClock
    have a3 := taMarkMark
    have a4 := taMarkUnmark
    go_enter Try.func24, Try.ntmps24
    go_wp2_with fail
    refine (hc.out _).mono ?_
    rintro r w1 ⟨rfl, hb⟩
    have HB := Lib.hid hb
    clear hb
    go_wp2_with fail
    go_ret
    have b0 : Below w.heap.size w (w.alloc (.cells #[.string ⟨k.toArray⟩] 58)) := (Below.refl _ _).alloc (Nat.le_refl _) _
    exact ⟨rfl, b0.trans (HB.out.mono b0.size)⟩
  | unmark =>
    simp only [cmV, cmCk]
    have a0 := taUnmarkBlock
    have a1 := taUnmarkCert
    have a2 := taUnmarkClock
    have a3 := taUnmarkMark
    have a4 := taUnmarkUnmark
    go_enter Try.func24, Try.ntmps24
    go_wp2_with fail
    go_ret
    exact ⟨rfl, (Below.refl _ _).alloc (Nat.le_refl _) _⟩
theorem cmcheck_any (c : Cm) (w : World) (hf : cmFit c) : Calls Try.prog 13 #[cmV c] w fun r w' => r = .returned (.int .i64 (cmCk c)) ∧ Below w.heap.size w w' := by
  have H := Lib.hid (cmcheck1_any c w hf)
  generalize cmV c = V at H ⊢
  generalize cmCk c = e at H ⊢
  clear hf
  go_enter Try.func13, Try.ntmps13
  go_wp2_with fail
  refine H.out.mono ?_
  rintro r w1 ⟨rfl, hb⟩
  have HB := Lib.hid hb
  clear hb H
  go_wp2_with fail
  go_ret
  exact ⟨rfl, HB.out⟩
end Go.Proofs.Ytambljnmaibdmaa

namespace Go.Proofs.Ytambljnmaibdmaa
open Go.RowKit

/-- What has turned of what was there is the writer's. -/
def Wr (w w' : World) : Prop := Mod (fun k => ∃ cs T fr, w.heap[k]? = some (.cells cs T fr) ∧ (T = 75 ∨ T = 5)) w w'
theorem Wr.row {w w' : World} (h : Wr w w') {g : Nat} {cs : Array Value} {T : TypeId} {fr : Nat × Nat} (hg : w.heap[g]? = some (.cells cs T fr)) (h1 : T ≠ 75) (h2 : T ≠ 5) (_ : True) : w'.heap[g]? = some (.cells cs T fr) := by
  refine (h.block g (Array.getElem?_eq_some_iff.1 hg).1 ?_).trans hg
  rintro ⟨cs', T', fr', e, ht⟩
  rw [hg] at e
  simp only [Option.some.injEq, Obj.cells.injEq] at e
  obtain ⟨_, rfl, _⟩ := e
  rcases ht with ht | ht
  · exact h1 ht
  · exact h2 ht
theorem wr_of_num {w w' : World} {b : Nat} {v : Value} {bs bs' : List UInt8} {r : Ending} (hO : OutAt 75 5 w b v bs) (h : NumPost b v bs' w r w') : Wr w w' := by
  obtain ⟨_, v', _, hM, _⟩ := h
  refine hM.mono ?_
  rintro i hi (rfl | h)
  · exact ⟨_, _, _, hO.blk, .inl rfl⟩
  · rcases hO.own.2 with ⟨rfl, _⟩ | ⟨g, cap, cur, rfl, _, hh, _⟩
    · simp [Value.ownBlock] at h
    · simp [Value.ownBlock] at h
      subst h
      exact ⟨_, _, _, hh, .inr rfl⟩
theorem out_numW (W0 : World) (b : Nat) (bs : List UInt8) (x : Int) (w : World) (h : OutSt W0 b bs w) (hl : bs.length ≤ 1099511627776) (h0 : -9223372036854775808 ≤ x) (h1 : x ≤ 9223372036854775807) :
    Calls Try.prog 35 #[.pointer (some ⟨b, 0, none⟩), .int .i64 x] w fun r w' => r = .returned (.pointer (some ⟨b, 0, none⟩)) ∧ OutSt W0 b (bs ++ numL x) w' ∧ Wr w w' := by
  obtain ⟨v, hO, hv, hB⟩ := h
  exact (num_any x b v bs w h0 h1 hO hl).mono fun _ _ hp => ⟨(OutSt.of_post hO hv hB hp).1, (OutSt.of_post hO hv hB hp).2, wr_of_num hO hp⟩
theorem out_textW (W0 : World) (b : Nat) (bs s : List UInt8) (w : World) (h : OutSt W0 b bs w) (hl : bs.length ≤ 549755813888) (hs : s.length ≤ 549755813888) :
    Calls Try.prog 37 #[.pointer (some ⟨b, 0, none⟩), .string ⟨s.toArray⟩] w fun r w' => r = .returned (.pointer (some ⟨b, 0, none⟩)) ∧ OutSt W0 b (bs ++ (numL s.length ++ s)) w' ∧ Wr w w' := by
  obtain ⟨v, hO, hv, hB⟩ := h
  exact (text_any b v bs s w hO (by omega) hs).mono fun _ _ hp => ⟨(OutSt.of_post hO hv hB hp).1, (OutSt.of_post hO hv hB hp).2, wr_of_num hO hp⟩
theorem cmbit_any (r : Bool) (w : World) : Calls Try.prog 36 #[.bool r] w fun e w' => e = .returned (.int .i64 (bitI r)) ∧ w = w' := by
  cases r
  · go_enter Try.func36, Try.ntmps36
    go_wp2_with fail
    go_ret
    exact ⟨rfl, rfl⟩
  · go_enter Try.func36, Try.ntmps36
    go_wp2_with fail
    go_ret
    exact ⟨rfl, rfl⟩
theorem cmkBlock_any (x y : Value) (w : World) : Calls Try.prog 73 #[.agg #[x, y]] w fun e w' => e = .returned (.int .i64 1) ∧ Below w.heap.size w w' := by
  go_enter Try.func73, Try.ntmps73
  go_wp2_with fail
  go_ret
  exact ⟨rfl, (Below.refl _ _).alloc (Nat.le_refl _) _⟩
theorem cmkCert_any (x y : Value) (w : World) : Calls Try.prog 74 #[.agg #[x, y]] w fun e w' => e = .returned (.int .i64 2) ∧ Below w.heap.size w w' := by
  go_enter Try.func74, Try.ntmps74
  go_wp2_with fail
  go_ret
  exact ⟨rfl, (Below.refl _ _).alloc (Nat.le_refl _) _⟩
theorem cmkClock_any (x : Value) (w : World) : Calls Try.prog 18 #[.agg #[x]] w fun e w' => e = .returned (.int .i64 3) ∧ Below w.heap.size w w' := by
  go_enter Try.func18, Try.ntmps18
  go_wp2_with fail
  go_ret
  exact ⟨rfl, (Below.refl _ _).alloc (Nat.le_refl _) _⟩
theorem cmkMark_any (x : Value) (w : World) : Calls Try.prog 75 #[.agg #[x]] w fun e w' => e = .returned (.int .i64 4) ∧ Below w.heap.size w w' := by
  go_enter Try.func75, Try.ntmps75
  go_wp2_with fail
  go_ret
  exact ⟨rfl, (Below.refl _ _).alloc (Nat.le_refl _) _⟩
theorem cmkUnmark_any (w : World) : Calls Try.prog 76 #[.agg #[]] w fun e w' => e = .returned (.int .i64 5) ∧ Below w.heap.size w w' := by
  go_enter Try.func76, Try.ntmps76
  go_wp2_with fail
  go_ret
  exact ⟨rfl, (Below.refl _ _).alloc (Nat.le_refl _) _⟩
theorem hmBlock (v : Value) (w : World) : (method 216 55 v "Kind").run Try.prog w = .ok (73, v) w := by kernel_rfl
theorem hmCert (v : Value) (w : World) : (method 216 56 v "Kind").run Try.prog w = .ok (74, v) w := by kernel_rfl
theorem hmClock (v : Value) (w : World) : (method 216 45 v "Kind").run Try.prog w = .ok (18, v) w := by kernel_rfl
theorem hmMark (v : Value) (w : World) : (method 216 58 v "Kind").run Try.prog w = .ok (75, v) w := by kernel_rfl
theorem hmUnmark (v : Value) (w : World) : (method 216 60 v "Kind").run Try.prog w = .ok (76, v) w := by kernel_rfl
set_option maxRecDepth 20000 in
set_option maxHeartbeats 4000000 in
theorem cmwrite_any (c : Cm) (w : World) (hk : cmCk c = 0) : Calls Try.prog 23 #[cmV c] w fun r w' => r = .returned (.string ⟨(cmB c).toArray⟩) ∧ Below w.heap.size w w' := by
  cases c with
  | none => exact absurd hk (by decide)
  | other => exact absurd hk (by decide)
  | block s r =>
    have hb4 : ¬ tooBig s := fun hb => by simp [cmCk, hb] at hk
    have hl : s.length ≤ 4096 := by simpa [tooBig] using hb4
    clear hk hb4
    simp only [cmV, cmB]
    have hbit := Lib.hid (fun w => cmbit_any r w)
    obtain ⟨z, hz⟩ : ∃ z, z = bitI r := ⟨_, rfl⟩
    have z0 : 0 ≤ z := by rw [hz]; cases r <;> decide
    have z1 : z ≤ 1 := by rw [hz]; cases r <;> decide
    rw [← hz] at hbit ⊢
    clear hz
    have a0 := taBlockBlock
    have a1 := taBlockCert
    have a2 := taBlockClock
    have a3 := taBlockMark
    have a4 := taBlockUnmark
    have hm := hmBlock
    have l1 := numL_len 1 (by decide)
    have l2 := numL_len z (by omega)
    obtain ⟨B0, hB0⟩ : ∃ B, B = numL 1 := ⟨_, rfl⟩
    obtain ⟨B1, hB1⟩ : ∃ B, B = B0 ++ numL z := ⟨_, rfl⟩
    obtain ⟨B2, hB2⟩ : ∃ B, B = B1 ++ (numL s.length ++ s) := ⟨_, rfl⟩
    have hB : numL 1 ++ (numL z ++ (numL s.length ++ s)) = B2 := by rw [hB2, hB1, hB0]; simp
    have l3 : B1.length ≤ 18 := by rw [hB1, List.length_append, hB0]; omega
    have l0 : B0.length ≤ 9 := by rw [hB0]; omega
    have HB1 := Lib.hid hB1
    have HB2 := Lib.hid hB2
    have HB0 := Lib.hid hB0
    rw [hB]
    clear l1 l2 hB0 hB1 hB2 hB
    obtain ⟨W1, hW1⟩ : ∃ W, W = w.alloc (.cells #[.slice none 0 0] 75) := ⟨_, rfl⟩
    obtain ⟨b, hb⟩ : ∃ b, b = w.heap.size := ⟨_, rfl⟩
    have HO0 : Hid (OutSt w b [] W1) := Lib.hid (by rw [hW1, hb]; exact OutSt.made w)
    have HBL : Hid (∀ w', Below b w w' → Below w.heap.size w w') := Lib.hid (fun w' h => by rw [← hb]; exact h)
    have HW1 := Lib.hid hW1
    have Hb := Lib.hid hb
    clear hW1 hb
    go_enter Try.func23, Try.ntmps23
    go_wp2_with fail
    rw [← HW1.out, ← Hb.out]
    refine (cmkBlock_any (.string ⟨s.toArray⟩) (.bool r) W1).mono ?_
    rintro e w1 ⟨rfl, hb1⟩
    have HO1 := Lib.hid (HO0.out.old hb1)
    clear HO0 hb1 HW1 hm
    go_wp2_with fail
    refine (out_num w b [] 1 w1 HO1.out (by simp) (by omega) (by omega)).mono ?_
    rintro e w2 ⟨rfl, hO⟩
    have HO2 : Hid (OutSt w b (numL 1) w2) := Lib.hid (by simpa using hO)
    clear HO1 hO
    rw [← HB0.out] at HO2
    obtain ⟨W3, hW3⟩ : ∃ W, W = w2.alloc (.cells #[.string ⟨s.toArray⟩, .bool r] 55) := ⟨_, rfl⟩
    obtain ⟨g, hg⟩ : ∃ g, g = w2.heap.size := ⟨_, rfl⟩
    have HG0 : Hid ((fun (j : Nat) (_ : Value) (w' : World) => OutSt w b (match j with | 0 => B0 | 1 => B1 | _ => B2) w' ∧ w'.heap[g]? = some (.cells #[.string ⟨s.toArray⟩, .bool r] 55 (0, 0))) 0 undef W3.drew) := Lib.hid ⟨by rw [hW3]; exact (HO2.out.old ((Below.refl _ _).alloc (Nat.le_refl _) _)).old (Below.refl _ _).drew, by rw [hW3, hg]; exact heap_alloc_new _ _⟩
    have HW3 := Lib.hid hW3
    have Hg := Lib.hid hg
    clear hW3 hg HO2
    go_upto_region 6 with fail
    rw [← HW3.out, ← Hg.out]
    clear HW3 Hg
    refine wp_region_chain (fun t v => match t with
      | 15 => v = .pointer (some ⟨g, 1, none⟩)
      | 16 => v = .bool r
      | 17 => v = .int .i64 z
      | 18 => v = .pointer (some ⟨b, 0, none⟩)
      | 19 => v = .pointer (some ⟨g, 0, none⟩)
      | 20 => v = .string ⟨s.toArray⟩
      | 21 => v = .pointer (some ⟨b, 0, none⟩)
      | _ => True) (fun (j : Nat) (_ : Value) (w' : World) => OutSt w b (match j with | 0 => B0 | 1 => B1 | _ => B2) w' ∧ w'.heap[g]? = some (.cells #[.string ⟨s.toArray⟩, .bool r] 55 (0, 0))) [3, 6] 45 (by kernel_rfl) (by decide +kernel) rfl (by decide +kernel) (by decide) (by decide) HG0.out (by
      refine OweAllC.cons (owesC_val 0 (by decide +kernel) (by decide) rfl rfl fun k' a w1 x hk ha hG hV => ?_) ?_
      · skip
        have h4 := ha.outer 4 (by decide +kernel)
        simp only [Act.eval] at h4
        exact ⟨.pointer (some ⟨g, 1, none⟩), wanted_free rfl, by simp [execOp, go_sem, h4], rfl⟩
      refine OweAllC.cons (owesC_val 0 (by decide +kernel) (by decide) rfl rfl fun k' a w1 x hk ha hG hV => ?_) ?_
      · skip
        have h15 : a.tmps.getD 15 undef = .pointer (some ⟨g, 1, none⟩) := hV.get 15 (by decide +kernel)
        have cc : w1.cell? ⟨g, 1, none⟩ = _ := cell_of_row w1 g 1 _ 55 (0, 0) hG.2
        exact ⟨.bool r, wanted_free rfl, by simp [execOp, go_sem, h15, cc], rfl⟩
      refine OweAllC.cons (owesC_side 0 (by decide +kernel) (by decide) rfl rfl 36 fun k' a w1 x hk ha hG hV => ?_) ?_
      · skip
        have h16 : a.tmps.getD 16 undef = .bool r := hV.get 16 (by decide +kernel)
        refine ⟨#[.bool r], wanted_free rfl, by simp [execOp, resolve, invoke, go_sem, h16], ?_⟩
        refine (hbit.out w1).mono ?_
        rintro r' u2 ⟨rfl, rfl⟩; exact ⟨_, rfl, rfl, hG⟩
      refine OweAllC.cons (owesC_call 0 rfl rfl rfl 35 fun a w1 x ha hG hx hV => ?_) ?_
      · skip
        have h3 := ha.outer 3 (by decide +kernel)
        simp only [Act.eval] at h3
        have h17 : a.tmps.getD 17 undef = .int .i64 z := hV.get 17 (by decide +kernel)
        refine ⟨#[.pointer (some ⟨b, 0, none⟩), .int .i64 z], wanted_free rfl, by simp [execOp, resolve, invoke, go_sem, h3, h17], ?_⟩
        refine (out_numW w b B0 z w1 hG.1 (by omega) (by omega) (by omega)).mono ?_
        rintro r' u2 ⟨rfl, hO, hw⟩; exact ⟨_, rfl, rfl, by rw [HB1.out]; exact hO, hw.row hG.2 (by decide) (by decide) trivial⟩
      refine OweAllC.cons (owesC_val 1 (by decide +kernel) (by decide) rfl rfl fun k' a w1 x hk ha hG hV => ?_) ?_
      · skip
        have h4 := ha.outer 4 (by decide +kernel)
        simp only [Act.eval] at h4
        exact ⟨.pointer (some ⟨g, 0, none⟩), wanted_free rfl, by simp [execOp, go_sem, h4], rfl⟩
      refine OweAllC.cons (owesC_val 1 (by decide +kernel) (by decide) rfl rfl fun k' a w1 x hk ha hG hV => ?_) ?_
      · skip
        have h19 : a.tmps.getD 19 undef = .pointer (some ⟨g, 0, none⟩) := hV.get 19 (by decide +kernel)
        have cc : w1.cell? ⟨g, 0, none⟩ = _ := cell_of_row w1 g 0 _ 55 (0, 0) hG.2
        exact ⟨.string ⟨s.toArray⟩, wanted_free rfl, by simp [execOp, go_sem, h19, cc], rfl⟩
      refine OweAllC.cons (owesC_call 1 rfl rfl rfl 37 fun a w1 x ha hG hx hV => ?_) ?_
      · skip
        have h18 : a.tmps.getD 18 undef = .pointer (some ⟨b, 0, none⟩) := hV.get 18 (by decide +kernel)
        have h20 : a.tmps.getD 20 undef = .string ⟨s.toArray⟩ := hV.get 20 (by decide +kernel)
        refine ⟨#[.pointer (some ⟨b, 0, none⟩), .string ⟨s.toArray⟩], wanted_free rfl, by simp [execOp, resolve, invoke, go_sem, h18, h20], ?_⟩
        refine (out_textW w b B1 s w1 hG.1 (by omega) (by omega)).mono ?_
        rintro r' u2 ⟨rfl, hO, hw⟩; exact ⟨_, rfl, rfl, by rw [HB2.out]; exact hO, hw.row hG.2 (by decide) (by decide) trivial⟩
      exact OweAllC.nil
      ) ?_
    intro f wz xz hG hx hv
    first | (rename_i hK; refine hK _ _ ?_; clear hK) | (rename_i hK _; refine hK _ _ ?_; clear hK) | (rename_i hK _ _; refine hK _ _ ?_; clear hK) | (rename_i hK _ _ _; refine hK _ _ ?_; clear hK)
    clear hv hx
    simp only [dsts, puts, List.filterMap_cons, List.filterMap_nil, List.foldl_cons, List.foldl_nil, Act.put, List.setIfInBounds_toArray, List.set_cons_succ, List.set_cons_zero]
    have HO4 : Hid (OutSt w b B2 wz) := Lib.hid hG.1
    clear HG0 hG
    go_wp2_with fail
    refine (out_bytes w b _ _ HO4.out).mono ?_
    rintro e w4 ⟨rfl, rfl⟩
    go_wp2_with fail
    go_ret
    exact ⟨rfl, HBL.out _ HO4.out.below⟩
  | cert s r =>
    have hb4 : ¬ tooBig s := fun hb => by simp [cmCk, hb] at hk
    have hl : s.length ≤ 4096 := by simpa [tooBig] using hb4
    clear hk hb4
    simp only [cmV, cmB]
    have hbit := Lib.hid (fun w => cmbit_any r w)
    obtain ⟨z, hz⟩ : ∃ z, z = bitI r := ⟨_, rfl⟩
    have z0 : 0 ≤ z := by rw [hz]; cases r <;> decide
    have z1 : z ≤ 1 := by rw [hz]; cases r <;> decide
    rw [← hz] at hbit ⊢
    clear hz
    have a0 := taCertBlock
    have a1 := taCertCert
    have a2 := taCertClock
    have a3 := taCertMark
    have a4 := taCertUnmark
    have hm := hmCert
    have l1 := numL_len 2 (by decide)
    have l2 := numL_len z (by omega)
    obtain ⟨B0, hB0⟩ : ∃ B, B = numL 2 := ⟨_, rfl⟩
    obtain ⟨B1, hB1⟩ : ∃ B, B = B0 ++ numL z := ⟨_, rfl⟩
    obtain ⟨B2, hB2⟩ : ∃ B, B = B1 ++ (numL s.length ++ s) := ⟨_, rfl⟩
    have hB : numL 2 ++ (numL z ++ (numL s.length ++ s)) = B2 := by rw [hB2, hB1, hB0]; simp
    have l3 : B1.length ≤ 18 := by rw [hB1, List.length_append, hB0]; omega
    have l0 : B0.length ≤ 9 := by rw [hB0]; omega
    have HB1 := Lib.hid hB1
    have HB2 := Lib.hid hB2
    have HB0 := Lib.hid hB0
    rw [hB]
    clear l1 l2 hB0 hB1 hB2 hB
    obtain ⟨W1, hW1⟩ : ∃ W, W = w.alloc (.cells #[.slice none 0 0] 75) := ⟨_, rfl⟩
    obtain ⟨b, hb⟩ : ∃ b, b = w.heap.size := ⟨_, rfl⟩
    have HO0 : Hid (OutSt w b [] W1) := Lib.hid (by rw [hW1, hb]; exact OutSt.made w)
    have HBL : Hid (∀ w', Below b w w' → Below w.heap.size w w') := Lib.hid (fun w' h => by rw [← hb]; exact h)
    have HW1 := Lib.hid hW1
    have Hb := Lib.hid hb
    clear hW1 hb
    go_enter Try.func23, Try.ntmps23
    go_wp2_with fail
    rw [← HW1.out, ← Hb.out]
    refine (cmkCert_any (.string ⟨s.toArray⟩) (.bool r) W1).mono ?_
    rintro e w1 ⟨rfl, hb1⟩
    have HO1 := Lib.hid (HO0.out.old hb1)
    clear HO0 hb1 HW1 hm
    go_wp2_with fail
    refine (out_num w b [] 2 w1 HO1.out (by simp) (by omega) (by omega)).mono ?_
    rintro e w2 ⟨rfl, hO⟩
    have HO2 : Hid (OutSt w b (numL 2) w2) := Lib.hid (by simpa using hO)
    clear HO1 hO
    rw [← HB0.out] at HO2
    obtain ⟨W3, hW3⟩ : ∃ W, W = w2.alloc (.cells #[.string ⟨s.toArray⟩, .bool r] 56) := ⟨_, rfl⟩
    obtain ⟨g, hg⟩ : ∃ g, g = w2.heap.size := ⟨_, rfl⟩
    have HG0 : Hid ((fun (j : Nat) (_ : Value) (w' : World) => OutSt w b (match j with | 0 => B0 | 1 => B1 | _ => B2) w' ∧ w'.heap[g]? = some (.cells #[.string ⟨s.toArray⟩, .bool r] 56 (0, 0))) 0 undef W3.drew) := Lib.hid ⟨by rw [hW3]; exact (HO2.out.old ((Below.refl _ _).alloc (Nat.le_refl _) _)).old (Below.refl _ _).drew, by rw [hW3, hg]; exact heap_alloc_new _ _⟩
    have HW3 := Lib.hid hW3
    have Hg := Lib.hid hg
    clear hW3 hg HO2
    go_upto_region 9 with fail
    rw [← HW3.out, ← Hg.out]
    clear HW3 Hg
    refine wp_region_chain (fun t v => match t with
      | 25 => v = .pointer (some ⟨g, 1, none⟩)
      | 26 => v = .bool r
      | 27 => v = .int .i64 z
      | 28 => v = .pointer (some ⟨b, 0, none⟩)
      | 29 => v = .pointer (some ⟨g, 0, none⟩)
      | 30 => v = .string ⟨s.toArray⟩
      | 31 => v = .pointer (some ⟨b, 0, none⟩)
      | _ => True) (fun (j : Nat) (_ : Value) (w' : World) => OutSt w b (match j with | 0 => B0 | 1 => B1 | _ => B2) w' ∧ w'.heap[g]? = some (.cells #[.string ⟨s.toArray⟩, .bool r] 56 (0, 0))) [3, 6] 45 (by kernel_rfl) (by decide +kernel) rfl (by decide +kernel) (by decide) (by decide) HG0.out (by
      refine OweAllC.cons (owesC_val 0 (by decide +kernel) (by decide) rfl rfl fun k' a w1 x hk ha hG hV => ?_) ?_
      · skip
        have h5 := ha.outer 5 (by decide +kernel)
        simp only [Act.eval] at h5
        exact ⟨.pointer (some ⟨g, 1, none⟩), wanted_free rfl, by simp [execOp, go_sem, h5], rfl⟩
      refine OweAllC.cons (owesC_val 0 (by decide +kernel) (by decide) rfl rfl fun k' a w1 x hk ha hG hV => ?_) ?_
      · skip
        have h25 : a.tmps.getD 25 undef = .pointer (some ⟨g, 1, none⟩) := hV.get 25 (by decide +kernel)
        have cc : w1.cell? ⟨g, 1, none⟩ = _ := cell_of_row w1 g 1 _ 56 (0, 0) hG.2
        exact ⟨.bool r, wanted_free rfl, by simp [execOp, go_sem, h25, cc], rfl⟩
      refine OweAllC.cons (owesC_side 0 (by decide +kernel) (by decide) rfl rfl 36 fun k' a w1 x hk ha hG hV => ?_) ?_
      · skip
        have h26 : a.tmps.getD 26 undef = .bool r := hV.get 26 (by decide +kernel)
        refine ⟨#[.bool r], wanted_free rfl, by simp [execOp, resolve, invoke, go_sem, h26], ?_⟩
        refine (hbit.out w1).mono ?_
        rintro r' u2 ⟨rfl, rfl⟩; exact ⟨_, rfl, rfl, hG⟩
      refine OweAllC.cons (owesC_call 0 rfl rfl rfl 35 fun a w1 x ha hG hx hV => ?_) ?_
      · skip
        have h3 := ha.outer 3 (by decide +kernel)
        simp only [Act.eval] at h3
        have h27 : a.tmps.getD 27 undef = .int .i64 z := hV.get 27 (by decide +kernel)
        refine ⟨#[.pointer (some ⟨b, 0, none⟩), .int .i64 z], wanted_free rfl, by simp [execOp, resolve, invoke, go_sem, h3, h27], ?_⟩
        refine (out_numW w b B0 z w1 hG.1 (by omega) (by omega) (by omega)).mono ?_
        rintro r' u2 ⟨rfl, hO, hw⟩; exact ⟨_, rfl, rfl, by rw [HB1.out]; exact hO, hw.row hG.2 (by decide) (by decide) trivial⟩
      refine OweAllC.cons (owesC_val 1 (by decide +kernel) (by decide) rfl rfl fun k' a w1 x hk ha hG hV => ?_) ?_
      · skip
        have h5 := ha.outer 5 (by decide +kernel)
        simp only [Act.eval] at h5
        exact ⟨.pointer (some ⟨g, 0, none⟩), wanted_free rfl, by simp [execOp, go_sem, h5], rfl⟩
      refine OweAllC.cons (owesC_val 1 (by decide +kernel) (by decide) rfl rfl fun k' a w1 x hk ha hG hV => ?_) ?_
      · skip
        have h29 : a.tmps.getD 29 undef = .pointer (some ⟨g, 0, none⟩) := hV.get 29 (by decide +kernel)
        have cc : w1.cell? ⟨g, 0, none⟩ = _ := cell_of_row w1 g 0 _ 56 (0, 0) hG.2
        exact ⟨.string ⟨s.toArray⟩, wanted_free rfl, by simp [execOp, go_sem, h29, cc], rfl⟩
      refine OweAllC.cons (owesC_call 1 rfl rfl rfl 37 fun a w1 x ha hG hx hV => ?_) ?_
      · skip
        have h28 : a.tmps.getD 28 undef = .pointer (some ⟨b, 0, none⟩) := hV.get 28 (by decide +kernel)
        have h30 : a.tmps.getD 30 undef = .string ⟨s.toArray⟩ := hV.get 30 (by decide +kernel)
        refine ⟨#[.pointer (some ⟨b, 0, none⟩), .string ⟨s.toArray⟩], wanted_free rfl, by simp [execOp, resolve, invoke, go_sem, h28, h30], ?_⟩
        refine (out_textW w b B1 s w1 hG.1 (by omega) (by omega)).mono ?_
        rintro r' u2 ⟨rfl, hO, hw⟩; exact ⟨_, rfl, rfl, by rw [HB2.out]; exact hO, hw.row hG.2 (by decide) (by decide) trivial⟩
      exact OweAllC.nil
      ) ?_
    intro f wz xz hG hx hv
    first | (rename_i hK; refine hK _ _ ?_; clear hK) | (rename_i hK _; refine hK _ _ ?_; clear hK) | (rename_i hK _ _; refine hK _ _ ?_; clear hK) | (rename_i hK _ _ _; refine hK _ _ ?_; clear hK)
    clear hv hx
    simp only [dsts, puts, List.filterMap_cons, List.filterMap_nil, List.foldl_cons, List.foldl_nil, Act.put, List.setIfInBounds_toArray, List.set_cons_succ, List.set_cons_zero]
    have HO4 : Hid (OutSt w b B2 wz) := Lib.hid hG.1
    clear HG0 hG
    go_wp2_with fail
    refine (out_bytes w b _ _ HO4.out).mono ?_
    rintro e w4 ⟨rfl, rfl⟩
    go_wp2_with fail
    go_ret
    exact ⟨rfl, HBL.out _ HO4.out.below⟩
  | clock n =>
    have hn : 0 ≤ n ∧ n ≤ 1073741824 := by
      simp only [cmCk] at hk
      split at hk
      · exact absurd hk (by decide)
      · omega
    obtain ⟨n0, n1⟩ := hn
    clear hk
    simp only [cmV, cmB]
    have a0 := taClockBlock
    have a1 := taClockCert
    have a2 := taClockClock
    have a3 := taClockMark
    have a4 := taClockUnmark
    have hm := hmClock
    obtain ⟨W1, hW1⟩ : ∃ W, W = w.alloc (.cells #[.slice none 0 0] 75) := ⟨_, rfl⟩
    obtain ⟨b, hb⟩ : ∃ b, b = w.heap.size := ⟨_, rfl⟩
    have HO0 : Hid (OutSt w b [] W1) := Lib.hid (by rw [hW1, hb]; exact OutSt.made w)
    have HBL : Hid (∀ w', Below b w w' → Below w.heap.size w w') := Lib.hid (fun w' h => by rw [← hb]; exact h)
    have HW1 := Lib.hid hW1
    have Hb := Lib.hid hb
    clear hW1 hb
    go_enter Try.func23, Try.ntmps23
    go_wp2_with fail
    rw [← HW1.out, ← Hb.out]
    refine (cmkClock_any (.int .i64 n) W1).mono ?_
    rintro e w1 ⟨rfl, hb1⟩
    have HO1 := Lib.hid (HO0.out.old hb1)
    clear HO0 hb1 HW1 hm
    go_wp2_with fail
    refine (out_num w b [] 3 w1 HO1.out (by simp) (by omega) (by omega)).mono ?_
    rintro e w2 ⟨rfl, hO⟩
    have HO2 : Hid (OutSt w b (numL 3) w2) := Lib.hid (by simpa using hO)
    clear HO1 hO
    have l1 := numL_len 3 (by decide)
    go_wp2_with fail
    refine (out_num w b (numL 3) n _ (HO2.out.old ((Below.refl _ _).alloc (Nat.le_refl _) _)) (by omega) (by omega) (by omega)).mono ?_
    rintro e w3 ⟨rfl, hO⟩
    have HO4 := Lib.hid hO
    clear HO2 hO
    go_wp2_with fail
    refine (out_bytes w b _ _ HO4.out).mono ?_
    rintro e w4 ⟨rfl, rfl⟩
    go_wp2_with fail
    go_ret
    exact ⟨rfl, HBL.out _ HO4.out.below⟩
  | mark k =>
    have hb4 : ¬ tooBig k := fun hb => by simp [cmCk, hb] at hk
    have hl : k.length ≤ 4096 := by simpa [tooBig] using hb4
    clear hk hb4
    simp only [cmV, cmB]
    have a0 := taMarkBlock
    have a1 := taMarkCert
    have a2 := taMarkClock
    have a3 := taMarkMark
    have a4 := taMarkUnmark
    have hm := hmMark
    obtain ⟨W1, hW1⟩ : ∃ W, W = w.alloc (.cells #[.slice none 0 0] 75) := ⟨_, rfl⟩
    obtain ⟨b, hb⟩ : ∃ b, b = w.heap.size := ⟨_, rfl⟩
    have HO0 : Hid (OutSt w b [] W1) := Lib.hid (by rw [hW1, hb]; exact OutSt.made w)
    have HBL : Hid (∀ w', Below b w w' → Below w.heap.size w w') := Lib.hid (fun w' h => by rw [← hb]; exact h)
    have HW1 := Lib.hid hW1
    have Hb := Lib.hid hb
    clear hW1 hb
    go_enter Try.func23, Try.ntmps23
    go_wp2_with fail
    rw [← HW1.out, ← Hb.out]
    refine (cmkMark_any (.string ⟨k.toArray⟩) W1).mono ?_
    rintro e w1 ⟨rfl, hb1⟩
    have HO1 := Lib.hid (HO0.out.old hb1)
    clear HO0 hb1 HW1 hm
    go_wp2_with fail
    refine (out_num w b [] 4 w1 HO1.out (by simp) (by omega) (by omega)).mono ?_
    rintro e w2 ⟨rfl, hO⟩
    have HO2 : Hid (OutSt w b (numL 4) w2) := Lib.hid (by simpa using hO)
    clear HO1 hO
    have l1 := numL_len 4 (by decide)
    go_wp2_with fail
    refine (out_text w b (numL 4) k _ (HO2.out.old ((Below.refl _ _).alloc (Nat.le_refl _) _)) (by omega) (by omega)).mono ?_
    rintro e w3 ⟨rfl, hO⟩
    have HO4 := Lib.hid hO
    clear HO2 hO
    go_wp2_with fail
    refine (out_bytes w b _ _ HO4.out).mono ?_
    rintro e w4 ⟨rfl, rfl⟩
    go_wp2_with fail
    go_ret
    exact ⟨rfl, HBL.out _ HO4.out.below⟩
  | unmark =>
    clear hk
    simp only [cmV, cmB]
    have a0 := taUnmarkBlock
    have a1 := taUnmarkCert
    have a2 := taUnmarkClock
    have a3 := taUnmarkMark
    have hm := hmUnmark
    obtain ⟨W1, hW1⟩ : ∃ W, W = w.alloc (.cells #[.slice none 0 0] 75) := ⟨_, rfl⟩
    obtain ⟨b, hb⟩ : ∃ b, b = w.heap.size := ⟨_, rfl⟩
    have HO0 : Hid (OutSt w b [] W1) := Lib.hid (by rw [hW1, hb]; exact OutSt.made w)
    have HBL : Hid (∀ w', Below b w w' → Below w.heap.size w w') := Lib.hid (fun w' h => by rw [← hb]; exact h)
    have HW1 := Lib.hid hW1
    have Hb := Lib.hid hb
    clear hW1 hb
    go_enter Try.func23, Try.ntmps23
    go_wp2_with fail
    rw [← HW1.out, ← Hb.out]
    refine (cmkUnmark_any W1).mono ?_
    rintro e w1 ⟨rfl, hb1⟩
    have HO1 := Lib.hid (HO0.out.old hb1)
    clear HO0 hb1 HW1 hm
    go_wp2_with fail
    refine (out_num w b [] 5 w1 HO1.out (by simp) (by omega) (by omega)).mono ?_
    rintro e w2 ⟨rfl, hO⟩
    have HO2 : Hid (OutSt w b (numL 5) w2) := Lib.hid (by simpa using hO)
    clear HO1 hO
    have HO4 := HO2
    go_wp2_with fail
    refine (out_bytes w b _ _ HO4.out).mono ?_
    rintro e w4 ⟨rfl, rfl⟩
    go_wp2_with fail
    go_ret
    exact ⟨rfl, HBL.out _ HO4.out.below⟩
theorem cmbytes_any (c : Cm) (w : World) (hf : cmFit c) : Calls Try.prog 12 #[cmV c] w fun r w' => r = .returned (.string ⟨(if cmCk c = 0 then cmB c else []).toArray⟩) ∧ Below w.heap.size w w' := by
  have H := Lib.hid (cmcheck_any c w hf)
  by_cases h0 : cmCk c = 0
  · rw [if_pos h0]
    have H2 := Lib.hid (fun w => cmwrite_any c w h0)
    rw [h0] at H
    generalize cmV c = V at H H2 ⊢
    generalize cmB c = B at H2 ⊢
    clear hf h0
    go_enter Try.func12, Try.ntmps12
    go_wp2_with fail
    refine H.out.mono ?_
    rintro r w1 ⟨rfl, hb⟩
    have HB := Lib.hid hb
    clear hb H
    go_wp2_with fail
    refine (H2.out _).mono ?_
    rintro r w2 ⟨rfl, hb⟩
    have HB := Lib.hid (HB.out.trans (hb.mono HB.out.size))
    clear hb H2
    go_wp2_with fail
    go_ret
    exact ⟨rfl, HB.out⟩
  · rw [if_neg h0]
    have t1 : (cmCk c != 0) = true := by rw [bne_iff_ne]; exact h0
    have t2 : (cmCk c == 0) = false := by rw [beq_eq_false_iff_ne]; exact h0
    generalize cmCk c = e at H t1 t2
    generalize cmV c = V at H ⊢
    clear hf h0
    go_enter Try.func12, Try.ntmps12
    go_wp2_with fail
    refine H.out.mono ?_
    rintro r w1 ⟨rfl, hb⟩
    have HB := Lib.hid hb
    clear hb H
    go_wp2_with fail
    go_ret
    exact ⟨rfl, HB.out⟩
end Go.Proofs.Ytambljnmaibdmaa

namespace Go.Proofs.Ytambljnmaibdmaa
open Go.RowKit

set_option maxRecDepth 20000 in
set_option maxHeartbeats 2000000 in
theorem cmverdict_any (b : Nat) (s : List UInt8) (e : Int) (w : World) (h : InAt 65 w b s e) (hl : s.length ≤ 1000000000) :
    Calls Try.prog 31 #[.pointer (some ⟨b, 0, none⟩)] w fun r w' => r = .returned (.tuple #[.bool (vdS s e).1, .string ⟨(vdS s e).2.1.toArray⟩]) ∧ InAt 65 w' b (vdS s e).2.2.1 (vdS s e).2.2.2 ∧ Mod (· = b) w w' := by
  have H1 := Lib.hid (innum_any b s e 1 w h (by omega))
  have hs := numS_len s e 1
  unfold vdS
  obtain ⟨⟨x, t, f⟩, hp⟩ : ∃ p, p = numS s e 1 := ⟨_, rfl⟩
  rw [← hp] at H1 hs ⊢
  simp only at H1 hs ⊢
  have H2 := Lib.hid (fun w1 h1 => intext_any b t f 4096 w1 h1 (by omega))
  obtain ⟨⟨y, u, g⟩, hq⟩ : ∃ p, p = textS t f 4096 := ⟨_, rfl⟩
  rw [← hq] at H2 ⊢
  simp only at H2 ⊢
  obtain ⟨z, hz⟩ : ∃ z, (x == 1) = z := ⟨_, rfl⟩
  rw [hz]
  clear hp hq hs h hl
  go_enter Try.func31, Try.ntmps31
  go_wp2_with fail
  refine H1.out.mono ?_
  rintro r w1 ⟨rfl, h1, hm1⟩
  have HM1 := Lib.hid hm1
  have HI1 := Lib.hid h1
  clear h1 hm1 H1
  go_wp2_with fail
  refine (H2.out w1 HI1.out).mono ?_
  rintro r w2 ⟨rfl, h2, hm2⟩
  have HM2 := Lib.hid (HM1.out.trans hm2 (fun i _ h => h))
  have HI2 := Lib.hid h2
  clear h2 hm2 H2 HM1 HI1
  go_wp2_with fail
  go_ret2
  exact ⟨rfl, HI2.out, HM2.out⟩
/-- What take answers. -/
def TkP (b : Nat) (p : Cm × List UInt8 × Int) (w : World) (r : Ending) (w' : World) : Prop := r = .returned (cmV p.1) ∧ InAt 65 w' b p.2.1 p.2.2 ∧ Mod (· = b) w w'
theorem TkP.of {b : Nat} {p : Cm × List UInt8 × Int} {w w' : World} {r : Ending} (h : TkP b p w r w') {P : Ending → World → Prop} (hP : P = TkP b p w) : P r w' := by rw [hP]; exact h
set_option maxRecDepth 20000 in
set_option maxHeartbeats 4000000 in
theorem cmtake_any (b : Nat) (s : List UInt8) (w : World) (h : InAt 65 w b s 0) (hl : s.length ≤ 1000000000) :
    Calls Try.prog 20 #[.pointer (some ⟨b, 0, none⟩)] w (TkP b (takeM s) w) := by
  have H1 := Lib.hid (innum_any b s 0 255 w h (by omega))
  have hs := numS_len s 0 255
  unfold takeM
  obtain ⟨⟨x, t, f⟩, hp⟩ : ∃ p, p = numS s 0 255 := ⟨_, rfl⟩
  rw [← hp] at H1 hs ⊢
  simp only at H1 hs ⊢
  have ht : t.length ≤ 1000000000 := by omega
  clear hp hs h hl
  have KP : ∀ (p : Cm × List UInt8 × Int), bodyS x t f = p → ∃ P, P = TkP b (bodyS x t f) w ∧ P = TkP b p w := fun p hp => ⟨_, rfl, by rw [hp]⟩
  by_cases k1 : x = 1
  · subst k1
    obtain ⟨P, hP, hQ⟩ := KP (.block (vdS t f).2.1 (vdS t f).1, (vdS t f).2.2) (by simp [bodyS])
    have H2 := Lib.hid (fun w1 h1 => cmverdict_any b t f w1 h1 ht)
    generalize vdS t f = q at H2 hQ
    obtain ⟨z, y, u, g⟩ := q
    simp only at H2 hQ
    rw [← hP]
    have HQ := Lib.hid hQ
    clear KP hP hQ ht
    go_enter Try.func20, Try.ntmps20
    go_wp2_with fail
    refine H1.out.mono ?_
    rintro r w1 ⟨rfl, h1, hm1⟩
    have HM1 := Lib.hid hm1
    have HI1 := Lib.hid h1
    clear h1 hm1 H1
    go_wp2_with fail
    refine (H2.out w1 HI1.out).mono ?_
    rintro r w2 ⟨rfl, h2, hm2⟩
    have HM2 := Lib.hid (HM1.out.trans hm2 (fun i _ h => h))
    have HI2 := Lib.hid h2
    clear h2 hm2 H2 HM1 HI1
    go_wp2_with fail
    exact TkP.of ⟨rfl, HI2.out, HM2.out⟩ HQ.out
  by_cases k2 : x = 2
  · subst k2
    obtain ⟨P, hP, hQ⟩ := KP (.cert (vdS t f).2.1 (vdS t f).1, (vdS t f).2.2) (by simp [bodyS])
    have H2 := Lib.hid (fun w1 h1 => cmverdict_any b t f w1 h1 ht)
    generalize vdS t f = q at H2 hQ
    obtain ⟨z, y, u, g⟩ := q
    simp only at H2 hQ
    rw [← hP]
    have HQ := Lib.hid hQ
    clear KP hP hQ ht
    go_enter Try.func20, Try.ntmps20
    go_wp2_with fail
    refine H1.out.mono ?_
    rintro r w1 ⟨rfl, h1, hm1⟩
    have HM1 := Lib.hid hm1
    have HI1 := Lib.hid h1
    clear h1 hm1 H1
    go_wp2_with fail
    refine (H2.out w1 HI1.out).mono ?_
    rintro r w2 ⟨rfl, h2, hm2⟩
    have HM2 := Lib.hid (HM1.out.trans hm2 (fun i _ h => h))
    have HI2 := Lib.hid h2
    clear h2 hm2 H2 HM1 HI1
    go_wp2_with fail
    exact TkP.of ⟨rfl, HI2.out, HM2.out⟩ HQ.out
  by_cases k3 : x = 3
  · subst k3
    obtain ⟨P, hP, hQ⟩ := KP (.clock (numS t f 4611686018427387904).1, (numS t f 4611686018427387904).2) (by simp [bodyS])
    have H2 := Lib.hid (fun w1 h1 => innum_any b t f 4611686018427387904 w1 h1 (by omega))
    generalize numS t f 4611686018427387904 = q at H2 hQ
    obtain ⟨y, u, g⟩ := q
    simp only at H2 hQ
    rw [← hP]
    have HQ := Lib.hid hQ
    clear KP hP hQ ht
    go_enter Try.func20, Try.ntmps20
    go_wp2_with fail
    refine H1.out.mono ?_
    rintro r w1 ⟨rfl, h1, hm1⟩
    have HM1 := Lib.hid hm1
    have HI1 := Lib.hid h1
    clear h1 hm1 H1
    go_wp2_with fail
    refine (H2.out w1 HI1.out).mono ?_
    rintro r w2 ⟨rfl, h2, hm2⟩
    have HM2 := Lib.hid (HM1.out.trans hm2 (fun i _ h => h))
    have HI2 := Lib.hid h2
    clear h2 hm2 H2 HM1 HI1
    go_wp2_with fail
    exact TkP.of ⟨rfl, HI2.out, HM2.out⟩ HQ.out
  by_cases k4 : x = 4
  · subst k4
    obtain ⟨P, hP, hQ⟩ := KP (.mark (textS t f 4096).1, (textS t f 4096).2) (by simp [bodyS])
    have H2 := Lib.hid (fun w1 h1 => intext_any b t f 4096 w1 h1 (by omega))
    generalize textS t f 4096 = q at H2 hQ
    obtain ⟨y, u, g⟩ := q
    simp only at H2 hQ
    rw [← hP]
    have HQ := Lib.hid hQ
    clear KP hP hQ ht
    go_enter Try.func20, Try.ntmps20
    go_wp2_with fail
    refine H1.out.mono ?_
    rintro r w1 ⟨rfl, h1, hm1⟩
    have HM1 := Lib.hid hm1
    have HI1 := Lib.hid h1
    clear h1 hm1 H1
    go_wp2_with fail
    refine (H2.out w1 HI1.out).mono ?_
    rintro r w2 ⟨rfl, h2, hm2⟩
    have HM2 := Lib.hid (HM1.out.trans hm2 (fun i _ h => h))
    have HI2 := Lib.hid h2
    clear h2 hm2 H2 HM1 HI1
    go_wp2_with fail
    exact TkP.of ⟨rfl, HI2.out, HM2.out⟩ HQ.out
  by_cases k5 : x = 5
  · subst k5
    obtain ⟨P, hP, hQ⟩ := KP (.unmark, (t, f)) (by simp [bodyS])
    rw [← hP]
    have HQ := Lib.hid hQ
    clear KP hP hQ ht
    go_enter Try.func20, Try.ntmps20
    go_wp2_with fail
    refine H1.out.mono ?_
    rintro r w1 ⟨rfl, h1, hm1⟩
    have HM1 := Lib.hid hm1
    have HI1 := Lib.hid h1
    clear h1 hm1 H1
    go_wp2_with fail
    exact TkP.of ⟨rfl, HI1.out, HM1.out⟩ HQ.out
  obtain ⟨P, hP, hQ⟩ := KP (.none, failS t f 18) (by simp [bodyS, k1, k2, k3, k4, k5])
  have t1 : (x == 1) = false := beq_eq_false_iff_ne.2 k1
  have t2 : (x == 2) = false := beq_eq_false_iff_ne.2 k2
  have t3 : (x == 3) = false := beq_eq_false_iff_ne.2 k3
  have t4 : (x == 4) = false := beq_eq_false_iff_ne.2 k4
  have t5 : (x == 5) = false := beq_eq_false_iff_ne.2 k5
  have H2 := Lib.hid (fun w1 h1 => fail_any b t f 18 w1 h1)
  generalize failS t f 18 = q at H2 hQ
  obtain ⟨u, g⟩ := q
  rw [← hP]
  have HQ := Lib.hid hQ
  clear KP hP hQ ht k1 k2 k3 k4 k5
  go_enter Try.func20, Try.ntmps20
  go_wp2_with fail
  refine H1.out.mono ?_
  rintro r w1 ⟨rfl, h1, hm1⟩
  have HM1 := Lib.hid hm1
  have HI1 := Lib.hid h1
  clear h1 hm1 H1
  go_wp2_with fail
  refine (H2.out w1 HI1.out).mono ?_
  rintro r w2 ⟨rfl, h2, hm2⟩
  have HM2 := Lib.hid (HM1.out.trans hm2 (fun i _ h => h))
  have HI2 := Lib.hid h2
  clear h2 hm2 H2 HM1 HI1
  go_wp2_with fail
  exact TkP.of ⟨rfl, HI2.out, HM2.out⟩ HQ.out
/-- What Parse answers. -/
def CmP (c : Cm) (e : Int) (w : World) (r : Ending) (w' : World) : Prop := r = .returned (.tuple #[cmV c, .int .i64 e]) ∧ Below w.heap.size w w'
theorem textS_sz (s : List UInt8) (e m : Int) (h : s.length ≤ 1000000) : (textS s e m).1.length ≤ 1000000 := Nat.le_trans (textS_lim s e m) h
theorem takeM_fit (s : List UInt8) (h : s.length ≤ 1000000) : cmFit (takeM s).1 := by
  have h1 := Nat.le_trans (numS_len s 0 255) h
  unfold takeM
  generalize numS s 0 255 = p at h1 ⊢
  obtain ⟨x, t, f⟩ := p
  simp only at h1 ⊢
  have h2 := Nat.le_trans (numS_len t f 1) h1
  have v1 : (vdS t f).2.1.length ≤ 1000000000000 := Nat.le_trans (textS_sz _ _ _ h2) (by decide)
  have v2 : (textS t f 4096).1.length ≤ 1000000000000 := Nat.le_trans (textS_sz _ _ _ h1) (by decide)
  unfold bodyS
  split
  · exact v1
  split
  · exact v1
  split
  · trivial
  split
  · exact v2
  split <;> trivial
theorem cm_end (s : List UInt8) : cmE s = if (if (takeM s).2.1 = [] then (takeM s).2.2 else 3) = 0 then cmCk (takeM s).1 else (if (takeM s).2.1 = [] then (takeM s).2.2 else 3) := by
  unfold cmE
  by_cases he : (takeM s).2.2 = 0
  · by_cases hR : (takeM s).2.1 = [] <;> simp [he, hR]
  · have hR := takeM_inv s he
    simp [he, hR]
set_option maxRecDepth 20000 in
set_option maxHeartbeats 2000000 in
theorem cmparse_any (s : List UInt8) (w : World) (hl : s.length ≤ 1000000) : Calls Try.prog 9 #[.string ⟨s.toArray⟩] w fun r w' => r = .returned (.tuple #[cmV (cmC s), .int .i64 (cmE s)]) ∧ Below w.heap.size w w' := by
  have hen := cm_end s
  have hfit := takeM_fit s hl
  have htk0 := fun b w h => cmtake_any b s w h (by omega)
  obtain ⟨E, hE⟩ : ∃ E, E = cmE s := ⟨_, rfl⟩
  have hC : cmC s = if E = 0 then (takeM s).1 else .none := by rw [hE]; rfl
  rw [hC]
  rw [← hE] at hen ⊢
  unfold TkP at htk0
  obtain ⟨⟨H, R, e⟩, hT⟩ : ∃ p, p = takeM s := ⟨_, rfl⟩
  rw [← hT] at hen htk0 hfit ⊢
  simp only at hen htk0 hfit ⊢
  obtain ⟨E0, hE0⟩ : ∃ E0 : Int, E0 = if R = [] then e else 3 := ⟨_, rfl⟩
  rw [← hE0] at hen
  have hend : Hid (∀ b w, InAt 65 w b R e → Calls Try.prog 21 #[.pointer (some ⟨b, 0, none⟩)] w fun r w' => r = .returned (.int .i64 E0) ∧ w = w') := Lib.hid (fun b w h => by rw [hE0]; exact end_any b R e w h)
  have hck := Lib.hid (fun w => cmcheck_any H w hfit)
  have hnn : cmV Cm.none = .nilIface := rfl
  have hof := Lib.hid (of_any s w (by omega))
  have htk := Lib.hid htk0
  clear hT hE0 hE hC htk0 hfit hl
  by_cases hz : E0 = 0
  · subst hz
    rw [if_pos rfl] at hen
    obtain rfl := hen
    by_cases h1 : cmCk H = 0
    · rw [if_pos h1]
      rw [h1] at hck ⊢
      generalize cmV H = V at hck htk ⊢
      clear h1 hnn
      go_enter Try.func9, Try.ntmps9
      go_wp2_with fail
      refine hof.out.mono ?_
      rintro r w1 ⟨b, rfl, hb, hI, hB1⟩
      have HB1 := Lib.hid hB1
      have HTK := Lib.hid (htk.out b w1 hI)
      have Hb := Lib.hid hb
      clear hB1 hI htk hof hb
      go_wp2_with fail
      refine HTK.out.mono ?_
      rintro r w2 ⟨rfl, hI2, hM⟩
      have HE := Lib.hid (hend.out b w2 hI2)
      have HB2 : Hid (Below w.heap.size w w2) := Lib.hid (HB1.out.trans (hM.to_below HB1.out.size (fun k hk e => by have := Hb.out; omega)))
      clear hI2 hM hend HTK HB1
      go_wp2_with fail
      refine HE.out.mono ?_
      rintro r w3 ⟨rfl, rfl⟩
      clear HE
      go_wp2_with fail
      refine (hck.out _).mono ?_
      rintro r w4 ⟨rfl, hb4⟩
      have HB4 := Lib.hid (HB2.out.trans (hb4.mono HB2.out.size))
      clear hb4 hck HB2
      go_wp2_with fail
      go_ret2
      exact ⟨rfl, HB4.out⟩
    · rw [if_neg h1]
      have t1 : (cmCk H == 0) = false := beq_eq_false_iff_ne.2 h1
      have t2 : (cmCk H != 0) = true := by rw [bne_iff_ne]; exact h1
      rw [hnn]
      generalize cmCk H = e1 at hck t1 t2 ⊢
      generalize cmV H = V at hck htk
      clear h1 hnn
      go_enter Try.func9, Try.ntmps9
      go_wp2_with fail
      refine hof.out.mono ?_
      rintro r w1 ⟨b, rfl, hb, hI, hB1⟩
      have HB1 := Lib.hid hB1
      have HTK := Lib.hid (htk.out b w1 hI)
      have Hb := Lib.hid hb
      clear hB1 hI htk hof hb
      go_wp2_with fail
      refine HTK.out.mono ?_
      rintro r w2 ⟨rfl, hI2, hM⟩
      have HE := Lib.hid (hend.out b w2 hI2)
      have HB2 : Hid (Below w.heap.size w w2) := Lib.hid (HB1.out.trans (hM.to_below HB1.out.size (fun k hk e => by have := Hb.out; omega)))
      clear hI2 hM hend HTK HB1
      go_wp2_with fail
      refine HE.out.mono ?_
      rintro r w3 ⟨rfl, rfl⟩
      clear HE
      go_wp2_with fail
      refine (hck.out _).mono ?_
      rintro r w4 ⟨rfl, hb4⟩
      have HB4 := Lib.hid (HB2.out.trans (hb4.mono HB2.out.size))
      clear hb4 hck HB2
      go_wp2_with fail
      go_ret2
      exact ⟨rfl, HB4.out⟩
  · rw [if_neg hz] at hen
    obtain rfl := hen
    rw [if_neg hz, hnn]
    have t1 : (E == 0) = false := beq_eq_false_iff_ne.2 hz
    have t2 : (E != 0) = true := by rw [bne_iff_ne]; exact hz
    generalize cmV H = V at hck htk
    clear hz hnn hck
    go_enter Try.func9, Try.ntmps9
    go_wp2_with fail
    refine hof.out.mono ?_
    rintro r w1 ⟨b, rfl, hb, hI, hB1⟩
    have HB1 := Lib.hid hB1
    have HTK := Lib.hid (htk.out b w1 hI)
    have Hb := Lib.hid hb
    clear hB1 hI htk hof hb
    go_wp2_with fail
    refine HTK.out.mono ?_
    rintro r w2 ⟨rfl, hI2, hM⟩
    have HE := Lib.hid (hend.out b w2 hI2)
    have HB2 : Hid (Below w.heap.size w w2) := Lib.hid (HB1.out.trans (hM.to_below HB1.out.size (fun k hk e => by have := Hb.out; omega)))
    clear hI2 hM hend HTK HB1
    go_wp2_with fail
    refine HE.out.mono ?_
    rintro r w3 ⟨rfl, rfl⟩
    clear HE
    go_wp2_with fail
    go_ret2
    exact ⟨rfl, HB2.out⟩
end Go.Proofs.Ytambljnmaibdmaa

namespace Go.Proofs.Ytambljnmaibdmaa
open Go.RowKit

theorem drop_bytesW (s : List UInt8) (k n : Nat) (hn : n = s.length) : (ByteArray.mk s.toArray).extract k n = ⟨(s.drop k).toArray⟩ := by
  subst hn
  apply ByteArray.ext
  apply Array.ext'
  simp
  exact List.take_of_length_le (by simp)
theorem r20num_any (s : List UInt8) (most : Int) (w : World) (hl : s.length ≤ 1099511627776) :
    Calls Try.prog 22 #[.string ⟨s.toArray⟩, .int .i64 most] w fun r w' => r = .returned (.tuple #[.int .i64 (numS s 0 most).1, .string ⟨(numS s 0 most).2.1.toArray⟩, .int .i64 (numS s 0 most).2.2]) ∧ Below w.heap.size w w' := by
  have hk := headL_ok s
  have hhd : Hid (∀ w, Calls Try.prog 34 #[.string ⟨s.toArray⟩] w fun r w' => r = .returned (.tuple #[.int .i64 (headL s).1, .int .i64 (headL s).2.1, .int .i64 (headL s).2.2]) ∧ w = w') := Lib.hid (fun w => rhead_any s w hl)
  have hno := numS_no s most
  have hbig := numS_big s most
  have hyes := numS_yes s most
  generalize headL s = p at hk hhd hno hbig hyes
  obtain ⟨x, k, er⟩ := p
  simp only at hk hhd hno hbig hyes
  obtain ⟨l, hlen⟩ : ∃ l, l = s.length := ⟨_, rfl⟩
  have hsz : (ByteArray.mk s.toArray).size = l := by rw [hlen]; rfl
  rw [← hlen] at hl hk
  by_cases z : er = 0
  case neg =>
    rw [hno z]
    have t1 : (er == 0) = false := by simp [z]
    have t2 : (er != 0) = true := by simp [z]
    clear hk hno hbig hyes z
    go_enter Try.func22, Try.ntmps22
    go_wp2_with fail
    refine (hhd.out w).mono ?_
    rintro r w1 ⟨rfl, rfl⟩
    go_wp2_with fail
    go_ret3
    exact ⟨rfl, Below.refl _ _⟩
  subst z
  by_cases g : most < (x : Int)
  · rw [hbig rfl g]
    clear hk hno hbig hyes
    go_enter Try.func22, Try.ntmps22
    go_wp2_with fail
    refine (hhd.out w).mono ?_
    rintro r w1 ⟨rfl, rfl⟩
    go_wp2_with fail
    go_ret3
    exact ⟨rfl, Below.refl _ _⟩
  rw [hyes rfl g]
  have hkl := hk rfl
  have hdb := drop_bytesW s k l hlen
  obtain ⟨t, ht⟩ : ∃ t, t = s.drop k := ⟨_, rfl⟩
  rw [← ht] at hdb ⊢
  have i0 : (0 : Int) ≤ k := by omega
  have i1 : (k : Int) ≤ l := by omega
  clear hk hno hbig hyes hlen ht
  go_enter Try.func22, Try.ntmps22
  go_wp2_with fail
  refine (hhd.out w).mono ?_
  rintro r w1 ⟨rfl, rfl⟩
  go_wp2_with fail
  go_quiet (fail)
  go_wp2_with fail
  go_ret3
  exact ⟨rfl, below_drewN (Below.refl _ _) _⟩
end Go.Proofs.Ytambljnmaibdmaa
