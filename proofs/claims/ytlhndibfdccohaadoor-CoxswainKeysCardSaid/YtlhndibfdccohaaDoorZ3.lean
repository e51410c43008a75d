/- Texts 3: what the laws lean on. -/
import Derived.Test.YtlhndibfdccohaaDoorZ2
import Derived.Great.BuildSlice
import Derived.Laws.ResultCell
namespace Go.Proofs.YtlhndibfdccohaaDoor
open Go

/-- Each of the chain waits for the one ahead of it. -/
def chainOk (md : Region.Mode) (ops : Array Oper) (C : List Nat) : Bool :=
  (List.range C.length).all fun m => match C[m]?, C[m + 1]? with
    | some i, some j => (match ops[j]? with | some p => p.after.any (fun e => Region.binds md e && e.on == i) | none => false)
    | _, _ => true
/-- Operation j waits for i, by n edges at most. -/
def reach (md : Region.Mode) (ops : Array Oper) : Nat → Nat → Nat → Bool
  | 0, _, _ => false
  | n + 1, j, i => match ops[j]? with
    | some p => p.after.any (fun e => Region.binds md e && (e.on == i || reach md ops n e.on i))
    | none => false
/-- The chain's place b waits for operation i (or there is no such place). -/
def aheadOf (md : Region.Mode) (ops : Array Oper) (C : List Nat) (i b : Nat) : Bool :=
  b == C.length || (match C[b]? with
    | some j => reach md ops 16 j i
    | none => false)

/-- Only slots of the operations turn; that of a chain's operation that isn't done yet hasn't. -/
structure AgreeC (ops : Array Oper) (C : List Nat) (k : Nat) (a0 a : Act) : Prop extends Agree ops a0 a where
  kp : ∀ (m i : Nat) (o : Oper) (t : Tmp), k ≤ m → C[m]? = some i → ops[i]? = some o → o.dst = some t → a.eval (.tmp t) = a0.eval (.tmp t)

section
variable {P : Program} {ops : Array Oper} {Q : Exit → Act → World → Prop} {md : Region.Mode} {V : Tmp → Value → Prop} {G : Nat → Value → World → Prop} {C : List Nat} {a0 : Act}

/-- What one operation owes while k of the chain are done, k' behind it. -/
def OwesAt (P : Program) (md : Region.Mode) (ops : Array Oper) (Q : Exit → Act → World → Prop) (V : Tmp → Value → Prop) (G : Nat → Value → World → Prop) (C : List Nat) (a0 : Act) (i : Nat) (o : Oper) (k : Nat) : Prop :=
  ∀ a w x, AgreeC ops C k a0 a → G k x w → AllV (fun t v _ => V t v) a w (waits md ops o) →
    wpOp P ops Q i (fun a' w' => ∃ v, a' = a.put o.dst v ∧ (∀ t, o.dst = some t → V t v) ∧ G k x w') a w
/-- The slot of the chain's last one that is done holds x. -/
def Holds' (ops : Array Oper) (C : List Nat) (a : Act) (k : Nat) (x : Value) : Prop := ∀ (m i : Nat) (o : Oper) (t : Tmp), k = m + 1 → C[m]? = some i → ops[i]? = some o → o.dst = some t → a.eval (.tmp t) = x
/-- What the chain's operation m owes. -/
def OwesIn (P : Program) (md : Region.Mode) (ops : Array Oper) (Q : Exit → Act → World → Prop) (V : Tmp → Value → Prop) (G : Nat → Value → World → Prop) (C : List Nat) (a0 : Act) (i : Nat) (o : Oper) (m : Nat) : Prop :=
  ∀ a w x, AgreeC ops C m a0 a → G m x w → Holds' ops C a m x → AllV (fun t v _ => V t v) a w (waits md ops o) →
    wpOp P ops Q i (fun a' w' => ∃ v, a' = a.put o.dst v ∧ (∀ t, o.dst = some t → V t v) ∧ G (m + 1) v w') a w
def OwesC (P : Program) (md : Region.Mode) (ops : Array Oper) (Q : Exit → Act → World → Prop) (V : Tmp → Value → Prop) (G : Nat → Value → World → Prop) (C : List Nat) (a0 : Act) (i : Nat) (o : Oper) : Prop :=
  (∃ m, C[m]? = some i ∧ OwesIn P md ops Q V G C a0 i o m) ∨ (C.contains i = false ∧ ∃ b, aheadOf md ops C i b = true ∧ ∀ k, k ≤ b → OwesAt P md ops Q V G C a0 i o k)

theorem any_edge {md : Region.Mode} {p : Oper} {i : Nat} (h : p.after.any (fun e => Region.binds md e && e.on == i) = true) : ∃ e ∈ p.after, Region.binds md e = true ∧ e.on = i := by
  obtain ⟨j, hj, h1⟩ := Array.any_iff_exists.1 h
  obtain ⟨_, _, h2⟩ := h1
  rw [Bool.and_eq_true, beq_iff_eq] at h2
  exact ⟨_, Array.getElem_mem _, h2.1, h2.2⟩
theorem chain_edge {m i j : Nat} {p : Oper} (h : chainOk md ops C = true) (hi : C[m]? = some i) (hj : C[m + 1]? = some j) (hp : ops[j]? = some p) : ∃ e ∈ p.after, Region.binds md e = true ∧ e.on = i := by
  have := List.all_eq_true.1 h m (List.mem_range.2 (List.getElem?_eq_some_iff.1 hi).1)
  simp only [hi, hj, hp] at this
  exact any_edge this

theorem reach_done {L : Array Bool} (cl : ∀ (i : Nat) (o : Oper), ops[i]? = some o → L.getD i true = true → ∀ e ∈ o.after, Region.binds md e = true → L.getD e.on false = true) :
    ∀ (n j i : Nat), reach md ops n j i = true → L.getD j true = true → L.getD i false = true
  | 0, _, _, h, _ => by cases h
  | n + 1, j, i, h, hl => by
    unfold reach at h
    cases hp : ops[j]? with
    | none => rw [hp] at h; cases h
    | some p =>
      rw [hp] at h
      obtain ⟨q, _, h1⟩ := Array.any_iff_exists.1 h
      obtain ⟨_, _, h2⟩ := h1
      rw [Bool.and_eq_true, Bool.or_eq_true, beq_iff_eq] at h2
      have h3 := cl j p hp hl _ (Array.getElem_mem _) h2.1
      rcases h2.2 with e | hr
      · rw [← e]; exact h3
      · refine reach_done cl n _ i hr ?_
        have : p.after[q].on < L.size := by
          apply Nat.lt_of_not_le; intro hle
          simp [Array.getElem?_eq_none hle] at h3
        simp [this] at h3 ⊢
        exact h3
theorem getD_tf {L : Array Bool} {n i : Nat} (hL : L.size = n) (hi : i < n) : L.getD i true = L.getD i false := by
  simp [show i < L.size by omega]
theorem getD_set_at {L : Array Bool} {i : Nat} (hi : i < L.size) (d : Bool) : (L.setIfInBounds i true).getD i d = true := by simp [hi]
theorem getD_set_ne' {L : Array Bool} {i j : Nat} (h : j ≠ i) (d : Bool) : (L.setIfInBounds i true).getD j d = L.getD j d := by
  have := Ne.symm h
  simp [Array.getD_eq_getD_getElem?, this]

/-- What is known while the region goes. -/
structure ChainAt (md : Region.Mode) (ops : Array Oper) (V : Tmp → Value → Prop) (G : Nat → Value → World → Prop) (C : List Nat) (a0 : Act) (L : Array Bool) (a : Act) (w : World) (k : Nat) (x : Value) : Prop where
  g : G k x w
  ho : Holds' ops C a k x
  le : k ≤ C.length
  ch : ∀ (m i : Nat), C[m]? = some i → (L.getD i true = true ↔ m < k)
  cl : ∀ (i : Nat) (o : Oper), ops[i]? = some o → L.getD i true = true → ∀ e ∈ o.after, Region.binds md e = true → L.getD e.on false = true
  ag : Agree ops a0 a
  kp : ∀ (i : Nat) (o : Oper) (t : Tmp), ops[i]? = some o → L.getD i true = false → o.dst = some t → a.eval (.tmp t) = a0.eval (.tmp t)
  v : ∀ (i : Nat) (o : Oper) (t : Tmp), ops[i]? = some o → L.getD i true = true → o.dst = some t → V t (a.eval (.tmp t))

theorem ChainAt.agc {L : Array Bool} {a : Act} {w : World} {k : Nat} {x : Value} (h : ChainAt md ops V G C a0 L a w k x) : AgreeC ops C k a0 a :=
  ⟨h.ag, fun m i o t hm hi ho ht => h.kp i o t ho (by
    cases hl : L.getD i true with
    | false => rfl
    | true => exact absurd ((h.ch m i hi).1 hl) (by omega)) ht⟩
theorem wpAny_chain (hok : DrawOk ops a0.tmps.size) (hch : chainOk md ops C = true) (hnd : C.Nodup) (hCl : ∀ i ∈ C, i < ops.size) (step : ∀ (i : Nat) (o : Oper), ops[i]? = some o → OwesC P md ops Q V G C a0 i o)
    (fin : ∀ a w x, Agree ops a0 a → G C.length x w → Holds' ops C a C.length x → (∀ (i : Nat) (o : Oper) (t : Tmp), ops[i]? = some o → o.dst = some t → V t (a.eval (.tmp t))) → Q .normal a w) :
    ∀ (fuel : Nat) (L : Array Bool) (a : Act) (w : World) (k : Nat) (x : Value), unl L ops.size ≤ fuel → L.size = ops.size → ChainAt md ops V G C a0 L a w k x → wpAny P md ops Q fuel L a w := by
  have allL : ∀ L : Array Bool, L.size = ops.size → Region.ready md ops L = [] → ∀ (i : Nat) (o : Oper), ops[i]? = some o → L.getD i true = true := by
    intro L hL hr i o ho
    cases hc : L.getD i true with
    | true => rfl
    | false =>
      obtain ⟨j, hj⟩ := ready_some (md := md) hok hL i (Array.getElem?_eq_some_iff.1 ho).1 hc
      rw [hr] at hj; cases hj
  have done : ∀ (L : Array Bool) (a : Act) (w : World) (k : Nat) (x : Value), L.size = ops.size → ChainAt md ops V G C a0 L a w k x → Region.ready md ops L = [] → Q .normal a w := by
    intro L a w k x hL h hr
    have hk : k = C.length := by
      refine Nat.le_antisymm h.le (Nat.le_of_not_lt fun hlt => ?_)
      have hm : C[k]? = some C[k] := List.getElem?_eq_getElem hlt
      have hi := hCl _ (List.getElem_mem hlt)
      exact Nat.lt_irrefl _ ((h.ch k _ hm).1 (allL L hL hr _ _ (Array.getElem?_eq_getElem hi)))
    subst hk
    exact fin a w x h.ag h.g h.ho (fun i o t ho ht => h.v i o t ho (allL L hL hr i o ho) ht)
  intro fuel
  induction fuel with
  | zero =>
    intro L a w k x hu hL h
    have hr : Region.ready md ops L = [] := by
      apply List.eq_nil_iff_forall_not_mem.2
      intro j hj
      obtain ⟨hun, o, ho, _⟩ := mem_ready.1 hj
      have := unl_pos L ops.size j (Array.getElem?_eq_some_iff.1 ho).1 hun
      omega
    exact ⟨hr, done L a w k x hL h hr⟩
  | succ fuel ih =>
    intro L a w k x hu hL h
    refine ⟨fun hr => done L a w k x hL h hr, fun i hi => ?_⟩
    obtain ⟨hun, o, ho, hall⟩ := mem_ready.1 hi
    have hil : i < ops.size := (Array.getElem?_eq_some_iff.1 ho).1
    have hw : AllV (fun t v _ => V t v) a w (waits md ops o) := AllV.of (by
      intro t ht
      unfold waits at ht
      obtain ⟨e, he, hd⟩ := List.mem_filterMap.1 ht
      obtain ⟨he1, he2⟩ := List.mem_filter.1 he
      cases hj : ops[e.on]? with
      | none => rw [hj] at hd; cases hd
      | some p =>
        rw [hj] at hd
        have hl := hall e (by simpa using he1) he2
        exact h.v e.on p t hj (by rw [getD_tf hL (Array.getElem?_eq_some_iff.1 hj).1]; exact hl) hd)
    -- what follows, with k' of the chain done
    have next : ∀ (k' : Nat) (y : Value → Value), k' ≤ C.length → (∀ v, Holds' ops C (a.put o.dst v) k' (y v)) → (∀ (m j : Nat), C[m]? = some j → ((L.setIfInBounds i true).getD j true = true ↔ m < k')) →
        wpOp P ops Q i (fun a' w' => ∃ v, a' = a.put o.dst v ∧ (∀ t, o.dst = some t → V t v) ∧ G k' (y v) w') a w → wpOp P ops Q i (fun a' w' => wpAny P md ops Q fuel (L.setIfInBounds i true) a' w') a w := by
      intro k' y hk' hho hch' hop
      refine wpOp_mono (fun a' w' hh => ?_) hop
      obtain ⟨v, rfl, hvi, hG'⟩ := hh
      refine ih _ _ _ k' (y v) ?_ (by simpa using hL) ⟨hG', hho v, hk', hch', ?_, ?_, ?_, ?_⟩
      · have := unl_set L i hun ops.size
        rw [if_pos hil] at this; omega
      · intro j p hp hl e he hb
        by_cases hji : j = i
        · subst hji
          rw [ho] at hp; cases hp
          have := hall e he hb
          by_cases hei : e.on = j
          · rw [hei, getD_set_at (by omega)]
          · rw [getD_set_ne' hei]; exact this
        · rw [getD_set_ne' hji] at hl
          have := h.cl j p hp hl e he hb
          by_cases hei : e.on = i
          · rw [hei, getD_set_at (by omega)]
          · rw [getD_set_ne' hei]; exact this
      · refine ⟨by rw [size_put]; exact h.ag.size, by rw [defers_put]; exact h.ag.defers, fun t ht => ?_⟩
        rw [Act.eval_put (fun d hd e => ht i o ho (by cases e; exact hd))]
        exact h.ag.same t ht
      · intro j p t hp hl ht
        have e : j ≠ i := by
          rintro rfl
          rw [getD_set_at (by omega)] at hl; cases hl
        rw [Act.eval_put (fun d hd e2 => by cases e2; exact hok.apart i j o p t ho hp e hd ht)]
        rw [getD_set_ne' e] at hl
        exact h.kp j p t hp hl ht
      · intro j p t hp hl ht
        by_cases e : j = i
        · subst e
          rw [ho] at hp; cases hp
          rw [ht, eval_put_same (by rw [h.ag.size]; exact hok.room j o t ho ht)]
          exact hvi t ht
        · rw [Act.eval_put (fun d hd e2 => by cases e2; exact hok.apart i j o p t ho hp e hd ht)]
          rw [getD_set_ne' e] at hl
          exact h.v j p t hp hl ht
    rcases step i o ho with ⟨m, hm, hop⟩ | ⟨hni, b, hb, hop⟩
    · have hmk : m = k := by
        have h1 : ¬ m < k := fun hlt => by rw [(h.ch m i hm).2 hlt] at hun; cases hun
        have h2 : m ≤ k := by
          cases m with
          | zero => exact Nat.zero_le _
          | succ m =>
            have hlt : m < C.length := by have := (List.getElem?_eq_some_iff.1 hm).1; omega
            have hj : C[m]? = some C[m] := List.getElem?_eq_getElem hlt
            obtain ⟨e, he, hbd, hon⟩ := chain_edge hch hj hm ho
            have := hall e he hbd
            rw [hon] at this
            exact (h.ch m _ hj).1 (by rw [getD_tf hL (hCl _ (List.getElem_mem hlt))]; exact this)
        omega
      subst hmk
      have hmlt : m < C.length := (List.getElem?_eq_some_iff.1 hm).1
      refine next (m + 1) (fun v => v) hmlt ?_ ?_ (hop a w x h.agc h.g h.ho hw)
      · intro v m2 j p t hm2 hj hp ht
        obtain rfl : m2 = m := by omega
        rw [hm] at hj; cases hj
        rw [ho] at hp; cases hp
        rw [ht, eval_put_same (by rw [h.ag.size]; exact hok.room i o t ho ht)]
      intro m2 j hj
      by_cases hji : j = i
      · subst hji
        have : m2 = m := by
          obtain ⟨l2, e2⟩ := List.getElem?_eq_some_iff.1 hj
          obtain ⟨l1, e1⟩ := List.getElem?_eq_some_iff.1 hm
          exact (List.getElem_inj hnd).1 (e2.trans e1.symm)
        subst this
        rw [getD_set_at (by omega)]
        exact ⟨fun _ => Nat.lt_succ_self _, fun _ => rfl⟩
      · rw [getD_set_ne' hji, h.ch m2 j hj]
        have : m2 ≠ m := by
          rintro rfl
          rw [hm] at hj; cases hj; exact hji rfl
        omega
    · have hkb : k ≤ b := by
        unfold aheadOf at hb
        rw [Bool.or_eq_true, beq_iff_eq] at hb
        rcases hb with rfl | hb
        · exact h.le
        · cases hj : C[b]? with
          | none => rw [hj] at hb; cases hb
          | some j =>
            rw [hj] at hb
            simp only at hb
            refine Nat.le_of_not_lt fun hlt => ?_
            have := reach_done h.cl 16 j i hb ((h.ch b j hj).2 hlt)
            rw [← getD_tf hL hil, hun] at this
            cases this
      refine next k (fun _ => x) h.le ?_ ?_ (hop k hkb a w x h.agc h.g hw)
      · intro v m2 j p t hm2 hj hp ht
        have hji : j ≠ i := by
          rintro rfl
          have := List.mem_of_getElem? hj
          rw [List.contains_eq_mem, decide_eq_false_iff_not] at hni
          exact hni this
        rw [Act.eval_put (fun d hd e2 => by cases e2; exact hok.apart i j o p t ho hp hji hd ht)]
        exact h.ho m2 j p t hm2 hj hp ht
      intro m2 j hj
      have hji : j ≠ i := by
        rintro rfl
        have := List.mem_of_getElem? hj
        rw [List.contains_eq_mem, decide_eq_false_iff_not] at hni
        exact hni this
      rw [getD_set_ne' hji, h.ch m2 j hj]

/-- The obligations one after the other. -/
def OweAllC (P : Program) (md : Region.Mode) (ops : Array Oper) (Q : Exit → Act → World → Prop) (V : Tmp → Value → Prop) (G : Nat → Value → World → Prop) (C : List Nat) (a0 : Act) : Nat → List Oper → Prop
  | _, [] => True
  | k, o :: r => OwesC P md ops Q V G C a0 k o ∧ OweAllC P md ops Q V G C a0 (k + 1) r
theorem OweAllC.get : ∀ {l : List Oper} {k : Nat}, OweAllC P md ops Q V G C a0 k l → ∀ (i : Nat) (o : Oper), l[i]? = some o → OwesC P md ops Q V G C a0 (k + i) o
  | _ :: _, k, h, 0, o, hi => by cases hi; exact h.1
  | _ :: r, k, h, i + 1, o, hi => by
    have := OweAllC.get h.2 i o (by simpa using hi)
    rwa [show k + 1 + i = k + (i + 1) by omega] at this
  | [], _, _, i, o, hi => by simp at hi
theorem OweAllC.cons {k : Nat} {o : Oper} {r : List Oper} (h : OwesC P md ops Q V G C a0 k o) (h2 : OweAllC P md ops Q V G C a0 (k + 1) r) : OweAllC P md ops Q V G C a0 k (o :: r) := ⟨h, h2⟩
theorem OweAllC.nil {k : Nat} : OweAllC P md ops Q V G C a0 k [] := trivial

theorem wp_region_chain {id : Nat} {w : World} (V : Tmp → Value → Prop) (G : Nat → Value → World → Prop) (C : List Nat) (N : Nat) (hm : P.follows .mixedOrders = true) (hok : drawOk ops N = true) (hN : a0.tmps.size = N)
    (hch : chainOk .any ops C = true) (hnd : decide C.Nodup = true) (hCl : C.all (· < ops.size) = true) (hG : G 0 undef w.drew)
    (step : OweAllC P .any ops Q V G C a0 0 ops.toList)
    (fin : ∀ f w x, G C.length x w → (∀ (m i : Nat) (o : Oper) (t : Tmp), C.length = m + 1 → C[m]? = some i → ops[i]? = some o → o.dst = some t → f t = x) → (∀ (i : Nat) (o : Oper) (t : Tmp), ops[i]? = some o → o.dst = some t → V t (f t)) → Q .normal (puts f (dsts ops) a0) w) : (Code.region id ops true).wp P Q a0 w := by
  subst hN
  have hok := drawOk_spec hok
  have hCl' : ∀ i ∈ C, i < ops.size := fun i hi => by simpa using List.all_eq_true.1 hCl i hi
  have hL0 : ∀ i, i < ops.size → (Array.replicate ops.size false).getD i true = false := fun i hi => by simp [hi]
  refine wp_region_any hm (wpAny_chain (V := V) (G := G) (C := C) hok hch (of_decide_eq_true hnd) hCl' (fun i o ho => ?_) (fun a w x ha hg hh hv => ?_) ops.size _ a0 _ 0 undef (unl_le _ _) (by simp) ⟨hG, (fun m i o t h => by omega), Nat.zero_le _, ?_, ?_, ⟨rfl, rfl, fun _ _ => rfl⟩, (fun _ _ _ _ _ _ => rfl), ?_⟩)
  · have := step.get i o (by simpa using ho)
    rwa [Nat.zero_add] at this
  · rw [ha.puts hok]
    exact fin _ w x hg hh hv
  · intro m i hi
    have := hCl' i (List.mem_of_getElem? hi)
    rw [hL0 i this]
    simp
  · intro i o ho hl
    rw [hL0 i (Array.getElem?_eq_some_iff.1 ho).1] at hl; cases hl
  · intro i o t ho hl _
    rw [hL0 i (Array.getElem?_eq_some_iff.1 ho).1] at hl; cases hl

/-- An operation beside the chain that yields a value and turns nothing. -/
theorem owesC_val {i : Nat} {o : Oper} {t : Tmp} (b : Nat) (hb : aheadOf md ops C i b = true) (hni : C.contains i = false) (hi : ops[i]? = some o) (ht : o.dst = some t)
    (h : ∀ k a w x, k ≤ b → AgreeC ops C k a0 a → G k x w → AllV (fun t v _ => V t v) a w (waits md ops o) → ∃ v, Region.wanted o (yielded ops a.tmps) = true ∧ (execOp a.eval o).run P w = .ok (.value v) w ∧ V t v) : OwesC P md ops Q V G C a0 i o := by
  refine .inr ⟨hni, b, hb, fun k hk a w x ha hG hV => ?_⟩
  obtain ⟨v, hw, hr, hv⟩ := h k a w x hk ha hG hV
  unfold wpOp
  rw [hi]
  simp only [hw, if_true, Oper.wp, hr, Oper.upon]
  exact .inl ⟨v, rfl, fun u hu => by rw [ht] at hu; cases hu; exact hv, hG⟩
/-- A call beside the chain. -/
theorem owesC_side {i : Nat} {o : Oper} {t : Tmp} (b : Nat) (hb : aheadOf md ops C i b = true) (hni : C.contains i = false) (hi : ops[i]? = some o) (ht : o.dst = some t) (f : FuncId)
    (h : ∀ k a w x, k ≤ b → AgreeC ops C k a0 a → G k x w → AllV (fun t v _ => V t v) a w (waits md ops o) → ∃ args, Region.wanted o (yielded ops a.tmps) = true ∧ (execOp a.eval o).run P w = .ok (.enter f args) w ∧
      Calls P f args w fun e w' => ∃ v, e = .returned v ∧ V t v ∧ G k x w') : OwesC P md ops Q V G C a0 i o := by
  refine .inr ⟨hni, b, hb, fun k hk a w x ha hG hV => ?_⟩
  obtain ⟨args, hw, hr, hc⟩ := h k a w x hk ha hG hV
  unfold wpOp
  rw [hi]
  simp only [hw, if_true, Oper.wp, hr, Oper.upon]
  refine .inl (hc.mono ?_)
  rintro e w' ⟨v, rfl, h1, h2⟩
  exact ⟨v, rfl, fun u hu => by rw [ht] at hu; cases hu; exact h1, h2⟩
/-- A call of the chain. -/
theorem owesC_call {i : Nat} {o : Oper} {t : Tmp} (m : Nat) (hm : C[m]? = some i) (hi : ops[i]? = some o) (ht : o.dst = some t) (f : FuncId)
    (h : ∀ a w x, AgreeC ops C m a0 a → G m x w → Holds' ops C a m x → AllV (fun t v _ => V t v) a w (waits md ops o) → ∃ args, Region.wanted o (yielded ops a.tmps) = true ∧ (execOp a.eval o).run P w = .ok (.enter f args) w ∧
      Calls P f args w fun e w' => ∃ v, e = .returned v ∧ V t v ∧ G (m + 1) v w') : OwesC P md ops Q V G C a0 i o := by
  refine .inl ⟨m, hm, fun a w x ha hG hh hV => ?_⟩
  obtain ⟨args, hw, hr, hc⟩ := h a w x ha hG hh hV
  unfold wpOp
  rw [hi]
  simp only [hw, if_true, Oper.wp, hr, Oper.upon]
  refine .inl (hc.mono ?_)
  rintro e w' ⟨v, rfl, h1, h2⟩
  exact ⟨v, rfl, fun u hu => by rw [ht] at hu; cases hu; exact h1, h2⟩
/-- An operation of the chain that yields a value and turns memory. -/
theorem owesC_mem {i : Nat} {o : Oper} {t : Tmp} (m : Nat) (hm : C[m]? = some i) (hi : ops[i]? = some o) (ht : o.dst = some t)
    (h : ∀ a w x, AgreeC ops C m a0 a → G m x w → Holds' ops C a m x → AllV (fun t v _ => V t v) a w (waits md ops o) → ∃ v w', Region.wanted o (yielded ops a.tmps) = true ∧ (execOp a.eval o).run P w = .ok (.value v) w' ∧ V t v ∧ G (m + 1) v w') : OwesC P md ops Q V G C a0 i o := by
  refine .inl ⟨m, hm, fun a w x ha hG hh hV => ?_⟩
  obtain ⟨v, w', hw, hr, h1, h2⟩ := h a w x ha hG hh hV
  unfold wpOp
  rw [hi]
  simp only [hw, if_true, Oper.wp, hr, Oper.upon]
  exact .inl ⟨v, rfl, fun u hu => by rw [ht] at hu; cases hu; exact h1, h2⟩
/-- A store of the chain. -/
theorem owesC_store {i : Nat} {o : Oper} (m : Nat) (hm : C[m]? = some i) (hi : ops[i]? = some o) (ht : o.dst = none)
    (h : ∀ a w x, AgreeC ops C m a0 a → G m x w → Holds' ops C a m x → AllV (fun t v _ => V t v) a w (waits md ops o) → ∃ w', Region.wanted o (yielded ops a.tmps) = true ∧ (execOp a.eval o).run P w = .ok .skip w' ∧ G (m + 1) undef w') : OwesC P md ops Q V G C a0 i o := by
  refine .inl ⟨m, hm, fun a w x ha hG hh hV => ?_⟩
  obtain ⟨w', hw, hr, h2⟩ := h a w x ha hG hh hV
  unfold wpOp
  rw [hi]
  simp only [hw, if_true, Oper.wp, hr, Oper.upon]
  exact .inl ⟨undef, rfl, fun u hu => (by rw [ht] at hu; cases hu), h2⟩
/-- An operation of the chain by its own law (an append). -/
theorem owesC_law {i : Nat} {o : Oper} (m : Nat) (hm : C[m]? = some i) (hi : ops[i]? = some o)
    (h : ∀ a w x, AgreeC ops C m a0 a → G m x w → Holds' ops C a m x → AllV (fun t v _ => V t v) a w (waits md ops o) → Region.wanted o (yielded ops a.tmps) = true ∧
      ∀ K : Act → World → Prop, (∀ v w', (∀ t, o.dst = some t → V t v) → G (m + 1) v w' → K (a.put o.dst v) w') → o.wp P a w K Q) : OwesC P md ops Q V G C a0 i o := by
  refine .inl ⟨m, hm, fun a w x ha hG hh hV => ?_⟩
  obtain ⟨hw, hl⟩ := h a w x ha hG hh hV
  unfold wpOp
  rw [hi]
  simp only [hw, if_true]
  exact .inl (hl _ (fun v w' h1 h2 => ⟨v, rfl, h1, h2⟩))
end
end Go.Proofs.YtlhndibfdccohaaDoor
namespace Go.Proofs.YtlhndibfdccohaaDoor
open Go
/-- A slot is written, by an operation of no region. -/
def mv (t : Tmp) (v : Value) : Oper := { dst := some t, op := .move (.const v), type := 0, pos := "", after := #[], guard := none }
theorem moves_back {P : Program} {ops : Array Oper} {Q : Exit → Act → World → Prop} (f : Tmp → Value) : ∀ (l : List Tmp) (a : Act) (w : World), wpList P ops Q (l.map fun t => mv t (f t)) a w → Q .normal (puts f l a) w
  | [], _, _, h => h
  | t :: r, a, w, h => by
    refine moves_back (P := P) (ops := ops) f r (a.put (some t) (f t)) w ?_
    rw [List.map_cons, wpList] at h
    have hw : Region.wanted (mv t (f t)) (yielded ops a.tmps) = true := rfl
    rw [if_pos hw] at h
    rcases h with h | h
    · unfold Oper.wp at h
      have he : (execOp a.eval (mv t (f t))).run P w = .ok (.value (f t)) w := rfl
      rw [he] at h
      exact h
    · exfalso
      have he : ((execOp a.eval (mv t (f t))).runT P w #[]).2 = #[] := rfl
      have h1 := h.1.1
      rw [he] at h1
      simp at h1
end Go.Proofs.YtlhndibfdccohaaDoor

namespace Go.Proofs.YtlhndibfdccohaaDoor
open Go.RowKit

theorem wpList_load_mid {ops : Array Oper} {rest : List Oper} {o : Oper} {a : Act} {w : World} {Q : Exit → Act → World → Prop} (hgd : o.guard = none) (x : Operand) (ho : o.op = .load 43 x) (b off : Nat) (hx : a.eval x = .pointer (some ⟨b, off, none⟩)) (s : Nm)
    (hc : ∀ i u, (encN.f s)[i]? = some u → w.cell? ⟨b, off + i, none⟩ = some u) (h : wpList Tryd.prog ops Q rest (a.put o.dst (.agg (vals s.1).toArray)) w) : wpList Tryd.prog ops Q (o :: rest) a w := by
  refine wpList_plain hgd fun K hK => ?_
  have he := exec_load_mid x ho b off hx s hc
  unfold Oper.wp
  rw [he]
  exact hK _ _ h
theorem flat_succ (L : List Nm) (k : Nat) (h : k < L.length) : ((L.take (k + 1)).map (·.1)).flatten = ((L.take k).map (·.1)).flatten ++ L[k].1 := by
  rw [List.take_succ_eq_append_getElem h, List.map_append, List.flatten_append]
  simp only [List.map_cons, List.map_nil, List.flatten_cons, List.flatten_nil, List.append_nil]
theorem flat_len (L : List Nm) : ((L.map (·.1)).flatten).length = 32 * L.length := by
  induction L with
  | nil => rfl
  | cons x l ih => rw [List.map_cons, List.flatten_cons, List.length_append, ih, x.2, List.length_cons]; omega
/-- A power as a number that has bytes. -/
def pwN (p : Nat) : Int := if 9223372036854775807 < p then 0 else p
theorem pwN_bd (p : Nat) : 0 ≤ pwN p ∧ pwN p ≤ 9223372036854775807 := by unfold pwN; split <;> omega
set_option maxRecDepth 20000 in
set_option maxHeartbeats 1000000 in
theorem hnumber_any (p : Nat) (w : World) (hp : p < 18446744073709551616) :
    Calls Tryd.prog 52 #[.int .u64 (p : Int)] w fun r w' => r = .returned (.int .i64 (pwN p)) ∧ w = w' := by
  by_cases h : 9223372036854775807 < p
  · have hfin : pwN p = 0 := by unfold pwN; rw [if_pos h]
    rw [hfin]
    have h1 : (9223372036854775807 : Int) < p := by omega
    clear hfin
    go_enter Tryd.func52, Tryd.ntmps52
    go_wp2_with fail
    go_ret
    exact ⟨rfl, rfl⟩
  · have hfin : pwN p = p := by unfold pwN; rw [if_neg h]
    rw [hfin]
    have h1 : ¬ (9223372036854775807 : Int) < p := by omega
    have h2 : (p : Int) ≤ 9223372036854775807 := by omega
    have h3 : IntKind.i64.wrap (p : Int) = (p : Int) := IntWalk.i64_in _ (by omega)
    clear hfin
    go_enter Tryd.func52, Tryd.ntmps52
    go_wp2_with fail
    go_ret
    exact ⟨rfl, rfl⟩
/-- The bytes ahead of the parents. -/
def hhead {α : Type} (h : Hd α) : List UInt8 := numL h.ht ++ numL h.mi ++ (numL h.tk.length ++ h.tk) ++ numL h.wi ++ numL (pwN h.pw)
def hbytes {α : Type} (f : α → List UInt8) (h : Hd α) : List UInt8 := hhead h ++ numL h.ps.length ++ (h.ps.map f).flatten ++ numL h.sa

set_option maxRecDepth 20000 in
set_option maxHeartbeats 8000000 in
theorem hbytes_any (h : Hd Nm) (ao : Option Addr) (cap : Nat) (w : World) (hL : Rd encN w ao h.ps) (hn : h.ps.length ≤ 1000000) (hk : h.tk.length ≤ 1000000) (hpw : h.pw < 18446744073709551616)
    (b1 : -9223372036854775808 ≤ h.ht ∧ h.ht ≤ 9223372036854775807) (b2 : -9223372036854775808 ≤ h.mi ∧ h.mi ≤ 9223372036854775807) (b3 : -9223372036854775808 ≤ h.wi ∧ h.wi ≤ 9223372036854775807) (b4 : -9223372036854775808 ≤ h.sa ∧ h.sa ≤ 9223372036854775807) :
    Calls Tryd.prog 22 #[.agg (hcells h ao cap)] w fun r w' => r = .returned (.string ⟨(hbytes (·.1) h).toArray⟩) ∧ Below w.heap.size w w' := by
  obtain ⟨ht, mi, tk, wi, pw, ps, sa⟩ := h
  simp only at hL hn hk hpw b1 b2 b3 b4
  have n1 := numL_len ht (by have := b1.2; omega)
  have n2 := numL_len mi (by have := b2.2; omega)
  have n3 := numL_len (tk.length : Int) (by omega)
  have n4 := numL_len wi (by have := b3.2; omega)
  have n6 := numL_len (ps.length : Int) (by omega)
  have n7 := numL_len sa (by have := b4.2; omega)
  have hp5 := pwN_bd pw
  have n5 := numL_len (pwN pw) (by omega)
  have hnum := Lib.hid (fun w => hnumber_any pw w hpw)
  obtain ⟨n, hnp⟩ : ∃ n, n = ps.length := ⟨_, rfl⟩
  obtain ⟨B1, hB1⟩ : ∃ B, B = numL ht := ⟨_, rfl⟩
  obtain ⟨B2, hB2⟩ : ∃ B, B = B1 ++ numL mi := ⟨_, rfl⟩
  obtain ⟨B3, hB3⟩ : ∃ B, B = B2 ++ (numL tk.length ++ tk) := ⟨_, rfl⟩
  obtain ⟨B4, hB4⟩ : ∃ B, B = B3 ++ numL wi := ⟨_, rfl⟩
  obtain ⟨B5, hB5⟩ : ∃ B, B = B4 ++ numL (pwN pw) := ⟨_, rfl⟩
  obtain ⟨B6, hB6⟩ : ∃ B, B = B5 ++ numL ps.length := ⟨_, rfl⟩
  have l1 : B1.length ≤ 9 := by rw [hB1]; exact n1
  have l2 : B2.length ≤ 18 := by rw [hB2, List.length_append]; omega
  have l3 : B3.length ≤ 1000027 := by rw [hB3, List.length_append, List.length_append]; omega
  have l4 : B4.length ≤ 1000036 := by rw [hB4, List.length_append]; omega
  have l5 : B5.length ≤ 1000045 := by rw [hB5, List.length_append]; omega
  have l6 : B6.length ≤ 1000054 := by rw [hB6, List.length_append]; omega
  obtain ⟨F, hF⟩ : ∃ F, F = B6 ++ (ps.map (·.1)).flatten ++ numL sa := ⟨_, rfl⟩
  have hfin : hbytes (·.1) (⟨ht, mi, tk, wi, pw, ps, sa⟩ : Hd Nm) = F := by rw [hF, hB6, hB5, hB4, hB3, hB2, hB1]; rfl
  rw [hfin]
  unfold hcells
  simp only
  rw [← hnp]
  obtain ⟨W0, hW0⟩ : ∃ W0, W0 = w.alloc (.cells #[.int .i64 ht, .int .i64 mi, .string ⟨tk.toArray⟩, .int .i64 wi, .int .u64 (pw : Int), .slice ao n cap, .int .i64 sa] 46) := ⟨_, rfl⟩
  have hbox : W0.heap[w.heap.size]? = some (.cells #[.int .i64 ht, .int .i64 mi, .string ⟨tk.toArray⟩, .int .i64 wi, .int .u64 (pw : Int), .slice ao n cap, .int .i64 sa] 46 (0, 0)) := by rw [hW0]; exact heap_alloc_new _ _
  have hbw : Below w.heap.size w W0 := by rw [hW0]; exact (Below.refl _ _).alloc (Nat.le_refl _) _
  obtain ⟨b, hb⟩ : ∃ b, b = W0.heap.size := ⟨_, rfl⟩
  have hgb : w.heap.size < b := by rw [hb]; exact (Array.getElem?_eq_some_iff.1 hbox).1
  have hmade := OutSt.made W0
  rw [← hb] at hmade
  -- what the box's cells are, whatever is written
  have hread : Hid (∀ (bs : List UInt8) (w1 : World), OutSt W0 b bs w1 → w1.cell? ⟨w.heap.size, 0, none⟩ = some (.int .i64 ht) ∧ w1.cell? ⟨w.heap.size, 1, none⟩ = some (.int .i64 mi) ∧ w1.cell? ⟨w.heap.size, 2, none⟩ = some (.string ⟨tk.toArray⟩) ∧ w1.cell? ⟨w.heap.size, 3, none⟩ = some (.int .i64 wi) ∧ w1.cell? ⟨w.heap.size, 4, none⟩ = some (.int .u64 (pw : Int)) ∧ w1.cell? ⟨w.heap.size, 5, none⟩ = some (.slice ao n cap) ∧ w1.cell? ⟨w.heap.size, 6, none⟩ = some (.int .i64 sa)) := Lib.hid (by
    intro bs w1 h1
    have hh := (h1.below.block _ hgb).trans hbox
    have hc := fun i => cell_of_row w1 w.heap.size i _ 46 (0, 0) hh
    exact ⟨hc 0, hc 1, hc 2, hc 3, hc 4, hc 5, hc 6⟩)
  have hrd : Hid (∀ (bs : List UInt8) (w1 : World), OutSt W0 b bs w1 → Rd encN w1 ao ps ∧ Below w.heap.size w w1) := Lib.hid (by
    intro bs w1 h1
    have h2 : Below w.heap.size w w1 := hbw.trans (h1.below.mono (Nat.le_of_lt hgb))
    exact ⟨hL.old h2, h2⟩)
  have HB1 := Lib.hid hB1
  have HB2 := Lib.hid hB2
  have HB3 := Lib.hid hB3
  have HB4 := Lib.hid hB4
  have HB5 := Lib.hid hB5
  have HB6 := Lib.hid hB6
  have HF := Lib.hid hF
  have Hnp := Lib.hid hnp
  have HW0 := Lib.hid hW0
  have Hb2 : Hid (w.heap.size + 1 = b) := Lib.hid (by rw [hb, hW0, World.size_alloc])
  clear hB1 hB2 hB3 hB4 hB5 hB6 hF hnp hfin hbox hbw hW0 hb hL n1 n2 n3 n4 n5 n6
  go_enter Tryd.func22, Tryd.ntmps22
  go_wp2_with fail
  rw [← HW0.out, Hb2.out]
  have HG0 : Hid ((fun (j : Nat) (_ : Value) (w1 : World) => OutSt W0 b (match j with | 0 => [] | 1 => B1 | 2 => B2 | 3 => B3 | 4 => B4 | _ => B5) w1) 0 undef (W0.alloc (.cells #[.slice none 0 0] 81)).drew) := Lib.hid (by
    obtain ⟨v, h1, h2, h3⟩ := hmade
    exact ⟨v, h1.kept (Mod.drew (Mod.refl (fun _ => False) _)) (fun h => h) (fun _ _ h => h), h2, h3.drew⟩)
  clear hmade
  generalize W0.alloc (.cells #[.slice none 0 0] 81) = W1 at HG0 ⊢
  generalize hgg : w.heap.size = g at hread hrd hgb ⊢
  have HGG : Hid (g = w.heap.size) := Lib.hid hgg.symm
  clear hgg
  refine wp_region_chain (fun t v => match t with
    | 6 => v = .pointer (some ⟨g, 0, none⟩)
    | 7 => v = .int .i64 ht
    | 8 => v = .pointer (some ⟨b, 0, none⟩)
    | 9 => v = .pointer (some ⟨g, 1, none⟩)
    | 10 => v = .int .i64 mi
    | 11 => v = .pointer (some ⟨b, 0, none⟩)
    | 12 => v = .pointer (some ⟨g, 2, none⟩)
    | 13 => v = .string ⟨tk.toArray⟩
    | 14 => v = .pointer (some ⟨b, 0, none⟩)
    | 15 => v = .pointer (some ⟨g, 3, none⟩)
    | 16 => v = .int .i64 wi
    | 17 => v = .pointer (some ⟨b, 0, none⟩)
    | 18 => v = .pointer (some ⟨g, 4, none⟩)
    | 19 => v = .int .u64 (pw : Int)
    | 20 => v = .int .i64 (pwN pw)
    | 21 => v = .pointer (some ⟨b, 0, none⟩)
    | _ => True) (fun (j : Nat) (_ : Value) (w1 : World) => OutSt W0 b (match j with | 0 => [] | 1 => B1 | 2 => B2 | 3 => B3 | 4 => B4 | _ => B5) w1) [2, 5, 8, 11, 15] 41 (by kernel_rfl) (by decide +kernel) rfl (by decide +kernel) (by decide) (by decide) HG0.out (by
    refine OweAllC.cons (owesC_val 0 (by decide +kernel) (by decide) rfl rfl fun k' a w1 x hk ha hG hV => ?_) ?_
    · skip
      have h1 := ha.outer 1 (by decide +kernel)
      simp only [Act.eval] at h1
      exact ⟨.pointer (some ⟨g, 0, none⟩), wanted_free rfl, by simp [execOp, go_sem, h1], rfl⟩
    refine OweAllC.cons (owesC_val 0 (by decide +kernel) (by decide) rfl rfl fun k' a w1 x hk ha hG hV => ?_) ?_
    · skip
      have h6 : a.tmps.getD 6 undef = .pointer (some ⟨g, 0, none⟩) := hV.get 6 (by decide +kernel)
      have cc := hread.out _ w1 hG
      exact ⟨.int .i64 ht, wanted_free rfl, by simp [execOp, go_sem, h6, cc.1], rfl⟩
    refine OweAllC.cons (owesC_call 0 rfl rfl rfl 50 fun a w1 x ha hG hx hV => ?_) ?_
    · skip
      have h3 := ha.outer 3 (by decide +kernel)
      simp only [Act.eval] at h3
      have h7 : a.tmps.getD 7 undef = .int .i64 ht := hV.get 7 (by decide +kernel)
      refine ⟨#[.pointer (some ⟨b, 0, none⟩), .int .i64 ht], wanted_free rfl, by simp [execOp, resolve, invoke, go_sem, h3, h7], ?_⟩
      refine (out_num W0 b [] ht w1 hG (by simp) b1.1 b1.2).mono ?_
      rintro r u2 ⟨rfl, hO⟩; exact ⟨_, rfl, rfl, by rw [List.nil_append, ← HB1.out] at hO; exact hO⟩
    refine OweAllC.cons (owesC_val 1 (by decide +kernel) (by decide) rfl rfl fun k' a w1 x hk ha hG hV => ?_) ?_
    · skip
      have h1 := ha.outer 1 (by decide +kernel)
      simp only [Act.eval] at h1
      exact ⟨.pointer (some ⟨g, 1, none⟩), wanted_free rfl, by simp [execOp, go_sem, h1], rfl⟩
    refine OweAllC.cons (owesC_val 1 (by decide +kernel) (by decide) rfl rfl fun k' a w1 x hk ha hG hV => ?_) ?_
    · skip
      have h9 : a.tmps.getD 9 undef = .pointer (some ⟨g, 1, none⟩) := hV.get 9 (by decide +kernel)
      have cc := hread.out _ w1 hG
      exact ⟨.int .i64 mi, wanted_free rfl, by simp [execOp, go_sem, h9, cc.2.1], rfl⟩
    refine OweAllC.cons (owesC_call 1 rfl rfl rfl 50 fun a w1 x ha hG hx hV => ?_) ?_
    · skip
      have h8 : a.tmps.getD 8 undef = .pointer (some ⟨b, 0, none⟩) := hV.get 8 (by decide +kernel)
      have h10 : a.tmps.getD 10 undef = .int .i64 mi := hV.get 10 (by decide +kernel)
      refine ⟨#[.pointer (some ⟨b, 0, none⟩), .int .i64 mi], wanted_free rfl, by simp [execOp, resolve, invoke, go_sem, h8, h10], ?_⟩
      refine (out_num W0 b B1 mi w1 hG (by omega) b2.1 b2.2).mono ?_
      rintro r u2 ⟨rfl, hO⟩; exact ⟨_, rfl, rfl, by rw [← HB2.out] at hO; exact hO⟩
    refine OweAllC.cons (owesC_val 2 (by decide +kernel) (by decide) rfl rfl fun k' a w1 x hk ha hG hV => ?_) ?_
    · skip
      have h1 := ha.outer 1 (by decide +kernel)
      simp only [Act.eval] at h1
      exact ⟨.pointer (some ⟨g, 2, none⟩), wanted_free rfl, by simp [execOp, go_sem, h1], rfl⟩
    refine OweAllC.cons (owesC_val 2 (by decide +kernel) (by decide) rfl rfl fun k' a w1 x hk ha hG hV => ?_) ?_
    · skip
      have h12 : a.tmps.getD 12 undef = .pointer (some ⟨g, 2, none⟩) := hV.get 12 (by decide +kernel)
      have cc := hread.out _ w1 hG
      exact ⟨.string ⟨tk.toArray⟩, wanted_free rfl, by simp [execOp, go_sem, h12, cc.2.2.1], rfl⟩
    refine OweAllC.cons (owesC_call 2 rfl rfl rfl 51 fun a w1 x ha hG hx hV => ?_) ?_
    · skip
      have h11 : a.tmps.getD 11 undef = .pointer (some ⟨b, 0, none⟩) := hV.get 11 (by decide +kernel)
      have h13 : a.tmps.getD 13 undef = .string ⟨tk.toArray⟩ := hV.get 13 (by decide +kernel)
      refine ⟨#[.pointer (some ⟨b, 0, none⟩), .string ⟨tk.toArray⟩], wanted_free rfl, by simp [execOp, resolve, invoke, go_sem, h11, h13], ?_⟩
      refine (out_text W0 b B2 tk w1 hG (by omega) (by omega)).mono ?_
      rintro r u2 ⟨rfl, hO⟩; exact ⟨_, rfl, rfl, by rw [← HB3.out] at hO; exact hO⟩
    refine OweAllC.cons (owesC_val 3 (by decide +kernel) (by decide) rfl rfl fun k' a w1 x hk ha hG hV => ?_) ?_
    · skip
      have h1 := ha.outer 1 (by decide +kernel)
      simp only [Act.eval] at h1
      exact ⟨.pointer (some ⟨g, 3, none⟩), wanted_free rfl, by simp [execOp, go_sem, h1], rfl⟩
    refine OweAllC.cons (owesC_val 3 (by decide +kernel) (by decide) rfl rfl fun k' a w1 x hk ha hG hV => ?_) ?_
    · skip
      have h15 : a.tmps.getD 15 undef = .pointer (some ⟨g, 3, none⟩) := hV.get 15 (by decide +kernel)
      have cc := hread.out _ w1 hG
      exact ⟨.int .i64 wi, wanted_free rfl, by simp [execOp, go_sem, h15, cc.2.2.2.1], rfl⟩
    refine OweAllC.cons (owesC_call 3 rfl rfl rfl 50 fun a w1 x ha hG hx hV => ?_) ?_
    · skip
      have h14 : a.tmps.getD 14 undef = .pointer (some ⟨b, 0, none⟩) := hV.get 14 (by decide +kernel)
      have h16 : a.tmps.getD 16 undef = .int .i64 wi := hV.get 16 (by decide +kernel)
      refine ⟨#[.pointer (some ⟨b, 0, none⟩), .int .i64 wi], wanted_free rfl, by simp [execOp, resolve, invoke, go_sem, h14, h16], ?_⟩
      refine (out_num W0 b B3 wi w1 hG (by omega) b3.1 b3.2).mono ?_
      rintro r u2 ⟨rfl, hO⟩; exact ⟨_, rfl, rfl, by rw [← HB4.out] at hO; exact hO⟩
    refine OweAllC.cons (owesC_val 4 (by decide +kernel) (by decide) rfl rfl fun k' a w1 x hk ha hG hV => ?_) ?_
    · skip
      have h1 := ha.outer 1 (by decide +kernel)
      simp only [Act.eval] at h1
      exact ⟨.pointer (some ⟨g, 4, none⟩), wanted_free rfl, by simp [execOp, go_sem, h1], rfl⟩
    refine OweAllC.cons (owesC_val 4 (by decide +kernel) (by decide) rfl rfl fun k' a w1 x hk ha hG hV => ?_) ?_
    · skip
      have h18 : a.tmps.getD 18 undef = .pointer (some ⟨g, 4, none⟩) := hV.get 18 (by decide +kernel)
      have cc := hread.out _ w1 hG
      exact ⟨.int .u64 (pw : Int), wanted_free rfl, by simp [execOp, go_sem, h18, cc.2.2.2.2.1], rfl⟩
    refine OweAllC.cons (owesC_side 4 (by decide +kernel) (by decide) rfl rfl 52 fun k' a w1 x hk ha hG hV => ?_) ?_
    · skip
      have h19 : a.tmps.getD 19 undef = .int .u64 (pw : Int) := hV.get 19 (by decide +kernel)
      refine ⟨#[.int .u64 (pw : Int)], wanted_free rfl, by simp [execOp, resolve, invoke, go_sem, h19], ?_⟩
      refine (hnum.out w1).mono ?_
      rintro r u2 ⟨rfl, rfl⟩; exact ⟨_, rfl, rfl, hG⟩
    refine OweAllC.cons (owesC_call 4 rfl rfl rfl 50 fun a w1 x ha hG hx hV => ?_) ?_
    · skip
      have h17 : a.tmps.getD 17 undef = .pointer (some ⟨b, 0, none⟩) := hV.get 17 (by decide +kernel)
      have h20 : a.tmps.getD 20 undef = .int .i64 (pwN pw) := hV.get 20 (by decide +kernel)
      refine ⟨#[.pointer (some ⟨b, 0, none⟩), .int .i64 (pwN pw)], wanted_free rfl, by simp [execOp, resolve, invoke, go_sem, h17, h20], ?_⟩
      refine (out_num W0 b B4 (pwN pw) w1 hG (by omega) (by omega) (by omega)).mono ?_
      rintro r u2 ⟨rfl, hO⟩; exact ⟨_, rfl, rfl, by rw [← HB5.out] at hO; exact hO⟩
    exact OweAllC.nil
    ) ?_
  intro f wz xz hG hx hv
  have e21 : f 21 = .pointer (some ⟨b, 0, none⟩) := hv 15 _ 21 rfl rfl
  first | (rename_i hK; refine hK _ _ ?_; clear hK) | (rename_i hK _; refine hK _ _ ?_; clear hK) | (rename_i hK _ _; refine hK _ _ ?_; clear hK) | (rename_i hK _ _ _; refine hK _ _ ?_; clear hK)
  clear hv hx
  simp only [dsts, puts, List.filterMap_cons, List.filterMap_nil, List.foldl_cons, List.foldl_nil, Act.put, List.setIfInBounds_toArray, List.set_cons_succ, List.set_cons_zero, e21]
  clear e21
  have hG5 : OutSt W0 b B5 wz := hG
  have c5 := (hread.out _ wz hG5).2.2.2.2.2.1
  clear hG HG0
  go_wp2_with fail
  refine (out_num W0 b B5 (n : Int) wz hG5 (by omega) (by omega) (by have := Hnp.out; omega)).mono ?_
  rintro r w3 ⟨rfl, hG6⟩
  rw [Hnp.out, ← HB6.out] at hG6
  have c6 := (hread.out _ w3 hG6).2.2.2.2.2.1
  clear hG5 c5
  have HG6 := Lib.hid hG6
  clear hG6
  go_wp2_with fail
  go_loopw [29] (fun s29 wr => ∃ (k : Nat) (bs : List UInt8), k ≤ n ∧ s29 = .int .i64 (k : Int) ∧ Hid (bs = B6 ++ ((ps.take k).map (·.1)).flatten) ∧ OutSt W0 b bs wr) (fun i _ => n - (intOf i).toNat)
  case atStart => exact ⟨0, B6, by omega, rfl, Lib.hid (by simp), HG6.out⟩
  case round =>
    clear HG6 c6
    obtain ⟨k, bs, hk, rfl, hbs, hO⟩ := hrel
    have hbl : bs.length ≤ 33000054 := by
      have e := hbs.out
      have := flat_len (ps.take k)
      rw [e, List.length_append, this, List.length_take]; omega
    by_cases hkn : k < n
    · have hkl : k < ps.length := by rw [← Hnp.out]; exact hkn
      obtain ⟨bb, off, rfl, hlt, c1⟩ := (hrd.out _ wr hO).1 k hkl
      obtain ⟨x, hx⟩ : ∃ x, x = ps[k] := ⟨_, rfl⟩
      have hnx : Hid (bs ++ x.1 = B6 ++ ((ps.take (k + 1)).map (·.1)).flatten) := Lib.hid (by rw [hbs.out, flat_succ ps k hkl, hx, List.append_assoc])
      rw [← hx] at c1
      have c1' : ∀ i u, (encN.f x)[i]? = some u → wr.cell? ⟨bb, off + k * 32 + i, none⟩ = some u := c1
      have C1 := Lib.hid c1'
      have k1 : (k : Int) < n := by omega
      have k0 : (0 : Int) ≤ k := by omega
      have hz := zid_run
      have q2 := zid_len.trans (id_size x.2).symm
      have q3 := id_info x.2
      have q4 := id_one x.1
      have hI := IdAt.stored (w := wr) (A := (vals zid).toArray) x.2
      have hBz := stored_below (w := wr) (A := (vals zid).toArray) (C := (vals x.1).toArray) (T := 43)
      have htx := Lib.hid hI.text
      have HO := Lib.hid (hO.old hBz)
      have hxl : x.1.length = 32 := x.2
      have Hxl := Lib.hid hxl
      clear hx c1 c1' hI hBz hxl hbs hO
      generalize (vals zid).toArray = ZA at hz q2 htx HO
      go_upto_region 7 with (first | (refine wpList_load_mid rfl (.tmp 31) rfl bb (off + k * 32) rfl x C1.out ?_) | (refine wpList_store_row rfl rfl 43 (.tmp 5) (.tmp 32) rfl wr.heap.size rfl 43 ZA (vals x.1).toArray rfl (heap_alloc_new _ _) q2 q3 q4 ?_))
      have ht := htx.out
      generalize (wr.alloc (.cells ZA 43)).setRow wr.heap.size (vals x.1).toArray = W2 at ht HO ⊢
      clear htx C1 hz q2 q3 q4
      go_wp2_with fail
      refine (out_raw W0 b bs x.1 _ HO.out (by have := Hxl.out; omega)).mono ?_
      rintro r w4 ⟨rfl, hO4⟩
      clear ht HO
      go_wp2_with fail
      go_roundw
      case rel => exact ⟨k + 1, bs ++ x.1, by omega, by go_num, hnx, hO4⟩
      case measure => simp [intOf]; omega
    · obtain rfl : k = n := by omega
      have c6 := (hread.out _ wr hO).2.2.2.2.2.2
      have hbF : Hid (bs ++ numL sa = F) := Lib.hid (by rw [hbs.out, HF.out, Hnp.out, List.take_of_length_le (Nat.le_refl _)])
      clear hbs
      go_wp2_with fail
      refine (out_num W0 b bs sa wr hO (by omega) b4.1 b4.2).mono ?_
      rintro r w5 ⟨rfl, hO5⟩
      rw [hbF.out] at hO5
      have hB5 := Lib.hid (hrd.out _ w5 hO5).2
      clear hO c6
      go_wp2_with fail
      refine (out_bytes W0 b F w5 hO5).mono ?_
      rintro r w6 ⟨rfl, rfl⟩
      clear hO5
      go_wp2_with fail
      go_ret
      exact ⟨rfl, HGG.out ▸ hB5.out⟩
end Go.Proofs.YtlhndibfdccohaaDoor

namespace Go.Proofs.YtlhndibfdccohaaDoor
open Go.RowKit

/-- A header whose numbers are ints, and which isn't great. -/
structure HOk {α : Type} (h : Hd α) : Prop where
  n : h.ps.length ≤ 1000000
  k : h.tk.length ≤ 1000000
  pw : h.pw < 18446744073709551616
  b1 : -9223372036854775808 ≤ h.ht ∧ h.ht ≤ 9223372036854775807
  b2 : -9223372036854775808 ≤ h.mi ∧ h.mi ≤ 9223372036854775807
  b3 : -9223372036854775808 ≤ h.wi ∧ h.wi ≤ 9223372036854775807
  b4 : -9223372036854775808 ≤ h.sa ∧ h.sa ≤ 9223372036854775807
theorem hbytes_len (h : Hd Nm) (ok : HOk h) : (hbytes (·.1) h).length ≤ 33000063 := by
  have n1 := numL_len h.ht (by have := ok.b1.2; omega)
  have n2 := numL_len h.mi (by have := ok.b2.2; omega)
  have n3 := numL_len (h.tk.length : Int) (by have := ok.k; omega)
  have n4 := numL_len h.wi (by have := ok.b3.2; omega)
  have n5 := numL_len (pwN h.pw) (by have := pwN_bd h.pw; omega)
  have n6 := numL_len (h.ps.length : Int) (by have := ok.n; omega)
  have n7 := numL_len h.sa (by have := ok.b4.2; omega)
  have n8 := flat_len h.ps
  have hn := ok.n
  have hk := ok.k
  simp only [hbytes, hhead, List.length_append]
  rw [n8]
  omega

set_option maxRecDepth 20000 in
set_option maxHeartbeats 4000000 in
theorem hid_any (h : Hd Nm) (ao : Option Addr) (cap : Nat) (w : World) (hL : Rd encN w ao h.ps) (ok : HOk h) (hT : TabAt w) :
    Calls Tryd.prog 27 #[.agg (hcells h ao cap)] w fun r w' => r = .returned (.agg (vals (shaB (hbytes (·.1) h))).toArray) ∧ Below w.heap.size w w' := by
  have hlen := hbytes_len h ok
  have hby := Lib.hid (fun w' (hb : Below w.heap.size w w') => hbytes_any h ao cap w' (hL.old hb) ok.n ok.k ok.pw ok.b1 ok.b2 ok.b3 ok.b4)
  obtain ⟨C, hC⟩ : ∃ C, C = hcells h ao cap := ⟨_, rfl⟩
  have hCs : C.size = 7 := by rw [hC]; rfl
  rw [← hC] at hby ⊢
  obtain ⟨S, hS⟩ : ∃ S, S = hbytes (·.1) h := ⟨_, rfl⟩
  rw [← hS] at hby hlen ⊢
  have hof := Lib.hid (fun (w : World) hT => dofB (.slice (some ⟨w.heap.size, 0, none⟩) 1 1) [S] (w.alloc (.cells #[.string ⟨S.toArray⟩] 9)) (StrsAt.made w 9 [S]) (by simp; omega) (by simp) hT)
  rw [show ([S] : List (List UInt8)).flatten = S from by simp] at hof
  have hZl := shaB_len S
  generalize shaB S = Z at hof hZl ⊢
  have hci : (Tryd.prog.info? 46).map (·.size) = some C.size := by rw [hCs]; kernel_rfl
  have hz := zid_run
  have q2 := zid_len.trans (id_size hZl).symm
  have q3 := id_info hZl
  have q4 := id_one Z
  generalize (vals zid).toArray = ZA at hz q2
  obtain ⟨Y, hY⟩ : ∃ Y, Y = (vals Z).toArray := ⟨_, rfl⟩
  rw [← hY] at q2 q3 q4 hof ⊢
  obtain ⟨W0, hW0⟩ : ∃ W0, W0 = (w.alloc (.cells C 46)).alloc (.cells ZA 43) := ⟨_, rfl⟩
  have hb0 : Below w.heap.size w W0 := by rw [hW0]; exact ((Below.refl _ w).alloc (Nat.le_refl _) _).alloc (by simp) _
  have hbox : W0.heap[w.heap.size]? = some (.cells C 46 (0, 0)) := by rw [hW0, Below.heap_alloc _ _ _ (by simp)]; exact heap_alloc_new w _
  have hres : W0.heap[w.heap.size + 1]? = some (.cells ZA 43 (0, 0)) := by rw [hW0]; have := heap_alloc_new (w.alloc (.cells C 46)) (.cells ZA 43); simpa using this
  have HW0 := Lib.hid hW0
  have Hres := Lib.hid hres
  have Hb0 := Lib.hid hb0
  have HT := Lib.hid hT
  clear hY hZl hS hC hCs hlen hW0 hres hb0 hT hL
  go_enter Tryd.func27, Tryd.ntmps27
  go_wp2_with (first | (rw [← HW0.out]; refine wpList_load_row rfl 46 (.tmp 1) rfl w.heap.size rfl 46 C (0, 0) _ hbox Tryd.underlying46 rfl hci ?_) | fail)
  refine (hby.out W0 Hb0.out).mono ?_
  rintro r w1 ⟨rfl, hb1⟩
  have HB1 := Lib.hid (Hb0.out.trans (hb1.mono Hb0.out.size))
  have Hres1 := Lib.hid ((hb1.block _ (Array.getElem?_eq_some_iff.1 Hres.out).1).trans Hres.out)
  have hT1 := Lib.hid (HT.out.old (HB1.out.trans (((Below.refl _ w1).alloc (Nat.le_refl _) (.cells #[.string ⟨S.toArray⟩] 9)).mono HB1.out.size)))
  clear hb1 hbox
  go_wp2_with fail
  refine (hof.out w1 hT1.out).mono ?_
  rintro r w2 ⟨rfl, hb2⟩
  have hb2' : Below w1.heap.size w1 w2 := ((Below.refl _ w1).alloc (Nat.le_refl _) (.cells #[.string ⟨S.toArray⟩] 9)).trans (hb2.mono (by simp))
  have hres2 : w2.heap[w.heap.size + 1]? = some (.cells ZA 43 (0, 0)) := (hb2'.block _ (Array.getElem?_eq_some_iff.1 Hres1.out).1).trans Hres1.out
  have hB2 := HB1.out.trans (hb2'.mono HB1.out.size)
  have L0 := Lib.hid (setRow_heap w2 (w.heap.size + 1) ZA Y 43 (0, 0) hres2)
  have LB := Lib.hid (hB2.trans (((Mod.refl (fun _ => False) w2).setRow (g := w.heap.size + 1) Y).to_below (by have := hB2.size; exact this) (by rintro k hk (h | h) <;> first | exact h | omega)))
  clear hb2 hb2' hB2
  go_wp2_with (refine wpList_store_row rfl rfl 43 (.tmp 2) (.tmp 6) rfl (w.heap.size + 1) rfl 43 ZA Y rfl hres2 q2 q3 q4 ?_)
  exact bodyPost_ret (v := .agg Y) (results_cell_row Tryd.results27 _ _ (w.heap.size + 1) 43 Y (0, 0) _ rfl L0.out Tryd.underlying43 rfl q3) rfl ⟨rfl, LB.out⟩
end Go.Proofs.YtlhndibfdccohaaDoor

namespace Go.Proofs.YtlhndibfdccohaaDoor
open Go.RowKit

theorem rawS_len (s : List UInt8) (e n : Int) : (rawS s e n).2.1.length ≤ s.length := by
  unfold rawS; split
  · exact failS_len _ _ _
  · simp
theorem textS_len (s : List UInt8) (e n : Int) : (textS s e n).2.1.length ≤ s.length := by
  unfold textS; exact Nat.le_trans (rawS_len _ _ _) (numS_len _ _ _)
theorem numS_lo (s : List UInt8) (e m : Int) : 0 ≤ (numS s e m).1 := by
  unfold numS; split
  · exact Int.le_refl 0
  · split
    · exact Int.le_refl 0
    · simp
theorem numS_hi (s : List UInt8) (e m : Int) (h : 0 ≤ m) : (numS s e m).1 ≤ m := by
  unfold numS; split
  · exact h
  · split
    · exact h
    · simp only; omega
/-- Names that are taken. -/
def parS : Nat → List UInt8 → Int → List Nm × List UInt8 × Int
  | 0, s, e => ([], s, e)
  | k + 1, s, e => ((parS k s e).1 ++ [⟨idL (rawS (parS k s e).2.1 (parS k s e).2.2 32).1, idL_len _⟩], (rawS (parS k s e).2.1 (parS k s e).2.2 32).2)
theorem parS_len (k : Nat) (s : List UInt8) (e : Int) : (parS k s e).1.length = k := by
  induction k with
  | zero => rfl
  | succ k ih => simp [parS, ih]
theorem parS_short (k : Nat) (s : List UInt8) (e : Int) : (parS k s e).2.1.length ≤ s.length := by
  induction k with
  | zero => exact Nat.le_refl _
  | succ k ih => exact Nat.le_trans (rawS_len _ _ _) ih
/-- A header that is taken, and what is left. -/
def takeS (s : List UInt8) : Hd Nm × List UInt8 × Int :=
  let a := numS s 0 4611686018427387904
  let b := numS a.2.1 a.2.2 4611686018427387904
  let c := textS b.2.1 b.2.2 8
  let d := numS c.2.1 c.2.2 4611686018427387904
  let e := numS d.2.1 d.2.2 4611686018427387904
  let f := numS e.2.1 e.2.2 5
  let p := parS f.1.toNat f.2.1 f.2.2
  let g := numS p.2.1 p.2.2 4611686018427387904
  (⟨a.1, b.1, c.1, d.1, e.1.toNat, p.1, g.1⟩, g.2)

/-- While fields are taken: In at b, the header at g. -/
structure TkSt (W : World) (b g : Nat) (C : Array Value) (s : List UInt8) (e : Int) (w : World) : Prop where
  box : w.heap[g]? = some (.cells C 46 (0, 0))
  inp : InAt 105 w b s e
  m : Mod (· = b) W w
  lo : b < W.heap.size
  hi : W.heap.size < g
  res : ∃ Z : Array Value, Z.size = 7 ∧ w.heap[W.heap.size]? = some (.cells Z 46 (0, 0))
theorem TkSt.call {W w w' : World} {b g : Nat} {C : Array Value} {s : List UInt8} {e : Int} {v : Value} {p : List UInt8 × Int} {r : Ending} (h : TkSt W b g C s e w) (hp : InPost 105 b v p w r w') : r = .returned v ∧ TkSt W b g C p.1 p.2 w' := by
  obtain ⟨hr, hi, hm⟩ := hp
  have h1 := h.lo
  have h2 := h.hi
  obtain ⟨Z, hz, hZ⟩ := h.res
  exact ⟨hr, (hm.block g (Array.getElem?_eq_some_iff.1 h.box).1 (by omega)).trans h.box, hi, h.m.trans hm (fun _ _ h => h), h.lo, h.hi, Z, hz, (hm.block _ (Array.getElem?_eq_some_iff.1 hZ).1 (by omega)).trans hZ⟩
theorem TkSt.put {W w : World} {b g : Nat} {C : Array Value} {s : List UInt8} {e : Int} (h : TkSt W b g C s e w) (k : Nat) (v : Value) : TkSt W b g (C.setIfInBounds k v) s e (w.setCell ⟨g, k, none⟩ v) := by
  have h1 := h.lo
  have h2 := h.hi
  obtain ⟨Z, hz, hZ⟩ := h.res
  refine ⟨heap_setCell_same w g k C 46 v h.box, ?_, ?_, h.lo, h.hi, Z, hz, ?_⟩
  · unfold InAt; rw [Below.heap_setCell _ _ _ _ (by simp only; omega)]; exact h.inp
  · exact h.m.setCell (fun hlt => by simp only at hlt; omega) v
  · rw [Below.heap_setCell _ _ _ _ (by simp only; omega)]; exact hZ
theorem TkSt.cell {W w : World} {b g : Nat} {C : Array Value} {s : List UInt8} {e : Int} (h : TkSt W b g C s e w) (k : Nat) : w.cell? ⟨g, k, none⟩ = C[k]? := cell_of_row w g k C 46 (0, 0) h.box
theorem TkSt.froz {W w : World} {b g : Nat} {C : Array Value} {s : List UInt8} {e : Int} (h : TkSt W b g C s e w) (k : Nat) : w.frozen? ⟨g, k, none⟩ = false := frozen_of_row w g k C 46 h.box
theorem TkSt.grow {W w w' : World} {b g : Nat} {C : Array Value} {s : List UInt8} {e : Int} (h : TkSt W b g C s e w) (hb : Below w.heap.size w w') : TkSt W b g C s e w' := by
  obtain ⟨Z, hz, hZ⟩ := h.res
  exact ⟨(hb.block g (Array.getElem?_eq_some_iff.1 h.box).1).trans h.box, (hb.block b h.inp.lt).trans h.inp, h.m.trans (Mod.of_below hb) (fun i hi hs => absurd hs (by have := h.m.size; omega)), h.lo, h.hi, Z, hz, (hb.block _ (Array.getElem?_eq_some_iff.1 hZ).1).trans hZ⟩
theorem TkSt.drew {W w : World} {b g : Nat} {C : Array Value} {s : List UInt8} {e : Int} (h : TkSt W b g C s e w) : TkSt W b g C s e w.drew := h.grow ((Below.refl _ _).drew)

theorem info_id : (Tryd.prog.info? 43).map (fun i => (i.zero, i.size, i.bytes)) = some (some (.agg (vals zid).toArray), 32, 32) := by kernel_rfl
/-- A name alone, laid. -/
theorem build_name {o : Oper} {a : Act} {w : World} (x : Operand) (ho : o.op = .buildSlice 44 1 #[(0, x)]) (s : List UInt8) (hs : s.length = 32) (hx : a.eval x = .agg (vals s).toArray) :
    (execOp a.eval o).run Tryd.prog w = .ok (.value (.slice (some ⟨w.heap.size, 0, none⟩) 1 1)) (w.alloc (.cells (vals s).toArray 43)) := by
  obtain ⟨i, hi, hz, h1, _⟩ : ∃ i, Tryd.prog.info? 43 = some i ∧ i.zero = some (.agg (vals zid).toArray) ∧ i.size = 32 ∧ i.bytes = 32 := by
    have h := info_id
    cases hq : Tryd.prog.info? 43 with
    | none => rw [hq] at h; cases h
    | some i => rw [hq] at h; simp only [Option.map_some, Option.some.injEq, Prod.mk.injEq] at h; exact ⟨i, rfl, h.1, h.2.1, h.2.2⟩
  have hf := Great.fill_whole (s := 32) (by decide) [.agg (vals s).toArray] ((Array.range (1 * 32)).map ((Value.agg (vals zid).toArray).cells[· % (Value.agg (vals zid).toArray).cells.size]!)) (by
    intro v hv; rw [List.mem_singleton.1 hv]; exact id_size hs) (by simp)
  have hb := run_buildSlice (P := Tryd.prog) w 44 43 1 #[(0, .agg (vals s).toArray)] (vals s).toArray i _ Tryd.underlying44 hi hz (by rw [h1]; decide) (by rw [h1]; decide) (by
    rw [h1]
    refine hf.trans ?_
    simp [Value.cells])
  unfold execOp
  simp only [ho, List.map_toArray, List.map_cons, List.map_nil, hx, Sem.run_bind, hb, Result.andThen_ok, Sem.run_pure]
/-- One element more. -/
theorem wp_pushR1 {α : Type} {P : Program} {o : Oper} {a : Act} {K : Act → World → Prop} {Q : Exit → Act → World → Prop} {w : World} (E : Enc α) (s x : Operand) (Ts T : TypeId) (z : Value) (by_ : Nat)
    (ho : o.op = .call { callee := .builtin .append, args := #[s, x], argTypes := #[Ts, Ts] }) (hT : P.underlying Ts = some (.slice T)) (hi : (P.info? T).map (fun i => (i.zero, i.size, i.bytes)) = some (some z, E.k, by_)) (hzs : z.cells.size = E.k) (hby : by_ ≤ 1024)
    (p : Option Addr) (cap n : Nat) (L : List α) (hn : L.length = n) (hs : a.eval s = .slice p n cap) (hS : Rw E T w p cap L) (ao : Option Addr) (cx : Nat) (y : α) (hx : a.eval x = .slice ao 1 cx) (hY : Rd E w ao [y]) (hl : n ≤ 1000000000)
    (h : ∀ q c w', PushR E T w p (L ++ [y]) q c w' → K (a.put o.dst (.slice q (n + 1) c)) w') : o.wp P a w K Q := by
  cases hq : P.info? T with
  | none => rw [hq] at hi; cases hi
  | some i =>
    rw [hq] at hi
    simp only [Option.map_some, Option.some.injEq, Prod.mk.injEq] at hi
    obtain ⟨hz, h1, h2⟩ := hi
    subst hn
    have hmul : (L.length + 1) * by_ ≤ 140737488355328 := Nat.le_trans (Nat.mul_le_mul (show L.length + 1 ≤ 1000000001 by omega) hby) (by decide)
    obtain ⟨bs, off, rfl, hbs, hc⟩ := hY 0 (by simp)
    refine wp_append_lies w s x Ts ho 0 T i z E.k by_ hT hq hz h1 h2 hzs E.pos _ L.length (E.all L) hs hS ⟨bs, off, none⟩ 1 cx (E.f y) hx (by rw [E.len]; omega) ?_ (E.one _) (by decide) (by unfold maxLen; omega) hmul (Nat.zero_le _) _ rfl ?_
    · intro j u hj
      have := hc j u hj
      have hadd : (⟨bs, off, none⟩ : Addr).add j = ⟨bs, off + j, none⟩ := by unfold Addr.add; split <;> simp_all
      rw [hadd]
      simpa using this
    · intro g c w' hown hgrow hat _
      refine h (some ⟨g, 0, none⟩) c w' ⟨?_, ?_, ?_⟩
      · have e : E.all (L ++ [y]) = E.all L ++ E.f y := by rw [E.all_app]; simp [Enc.all]
        unfold Rw; rw [List.length_append, e]; exact hown
      · refine (Mod.refl _ w).grown hgrow ?_
        intro j hj _
        cases p with
        | none => simp [Value.ownBlock] at hj
        | some a => simp [Value.ownBlock] at hj; exact ⟨a, rfl, hj.symm⟩
      · rintro a' e; cases e
        rcases hat with hat | hat
        · left
          rcases hS.shape with ⟨rfl, _⟩ | ⟨g', rfl, _⟩
          · simp [Value.ownBlock] at hat
          · simp [Value.ownBlock] at hat; subst hat; rfl
        · right; rw [hat]; exact Nat.le_refl _
end Go.Proofs.YtlhndibfdccohaaDoor

namespace Go.Proofs.YtlhndibfdccohaaDoor
open Go.RowKit

set_option maxRecDepth 20000 in
set_option maxHeartbeats 4000000 in
theorem take_any (b : Nat) (s : List UInt8) (w : World) (h : InAt 105 w b s 0) (hl : s.length ≤ 1000000000) :
    Calls Tryd.prog 46 #[.pointer (some ⟨b, 0, none⟩)] w fun r w' => ∃ q c, r = .returned (.agg (hcells (takeS s).1 q c)) ∧ Rw encN 43 w' q c (takeS s).1.ps ∧ InAt 105 w' b (takeS s).2.1 (takeS s).2.2 ∧ Mod (· = b) w w' ∧ ∀ a, q = some a → w.heap.size ≤ a.block := by
  obtain ⟨⟨x1, s1, e1⟩, h1⟩ : ∃ p, p = numS s 0 4611686018427387904 := ⟨_, rfl⟩
  have l1 : s1.length ≤ s.length := by have := numS_len s 0 4611686018427387904; rw [← h1] at this; exact this
  obtain ⟨⟨x2, s2, e2⟩, h2⟩ : ∃ p, p = numS s1 e1 4611686018427387904 := ⟨_, rfl⟩
  have l2 : s2.length ≤ s1.length := by have := numS_len s1 e1 4611686018427387904; rw [← h2] at this; exact this
  obtain ⟨⟨x3, s3, e3⟩, h3⟩ : ∃ p, p = textS s2 e2 8 := ⟨_, rfl⟩
  have l3 : s3.length ≤ s2.length := by have := textS_len s2 e2 8; rw [← h3] at this; exact this
  obtain ⟨⟨x4, s4, e4⟩, h4⟩ : ∃ p, p = numS s3 e3 4611686018427387904 := ⟨_, rfl⟩
  have l4 : s4.length ≤ s3.length := by have := numS_len s3 e3 4611686018427387904; rw [← h4] at this; exact this
  obtain ⟨⟨x5, s5, e5⟩, h5⟩ : ∃ p, p = numS s4 e4 4611686018427387904 := ⟨_, rfl⟩
  have l5 : s5.length ≤ s4.length := by have := numS_len s4 e4 4611686018427387904; rw [← h5] at this; exact this
  obtain ⟨⟨x6, s6, e6⟩, h6⟩ : ∃ p, p = numS s5 e5 5 := ⟨_, rfl⟩
  have l6 : s6.length ≤ s5.length := by have := numS_len s5 e5 5; rw [← h6] at this; exact this
  have N1 : Hid (∀ w, InAt 105 w b s 0 → Calls Tryd.prog 77 #[.pointer (some ⟨b, 0, none⟩), .int .i64 4611686018427387904] w (InPost 105 b (.int .i64 x1) (s1, e1) w)) := Lib.hid (fun w hi => by have := innum_any b s 0 4611686018427387904 w hi (by omega); rw [← h1] at this; exact this)
  have N2 : Hid (∀ w, InAt 105 w b s1 e1 → Calls Tryd.prog 77 #[.pointer (some ⟨b, 0, none⟩), .int .i64 4611686018427387904] w (InPost 105 b (.int .i64 x2) (s2, e2) w)) := Lib.hid (fun w hi => by have := innum_any b s1 e1 4611686018427387904 w hi (by omega); rw [← h2] at this; exact this)
  have N3 : Hid (∀ w, InAt 105 w b s2 e2 → Calls Tryd.prog 78 #[.pointer (some ⟨b, 0, none⟩), .int .i64 8] w (InPost 105 b (.string ⟨x3.toArray⟩) (s3, e3) w)) := Lib.hid (fun w hi => by have := intext_any b s2 e2 8 w hi (by omega); rw [← h3] at this; exact this)
  have N4 : Hid (∀ w, InAt 105 w b s3 e3 → Calls Tryd.prog 77 #[.pointer (some ⟨b, 0, none⟩), .int .i64 4611686018427387904] w (InPost 105 b (.int .i64 x4) (s4, e4) w)) := Lib.hid (fun w hi => by have := innum_any b s3 e3 4611686018427387904 w hi (by omega); rw [← h4] at this; exact this)
  have N5 : Hid (∀ w, InAt 105 w b s4 e4 → Calls Tryd.prog 77 #[.pointer (some ⟨b, 0, none⟩), .int .i64 4611686018427387904] w (InPost 105 b (.int .i64 x5) (s5, e5) w)) := Lib.hid (fun w hi => by have := innum_any b s4 e4 4611686018427387904 w hi (by omega); rw [← h5] at this; exact this)
  have N6 : Hid (∀ w, InAt 105 w b s5 e5 → Calls Tryd.prog 77 #[.pointer (some ⟨b, 0, none⟩), .int .i64 5] w (InPost 105 b (.int .i64 x6) (s6, e6) w)) := Lib.hid (fun w hi => by have := innum_any b s5 e5 5 w hi (by omega); rw [← h6] at this; exact this)
  have lo5 := numS_lo s4 e4 4611686018427387904
  have hi5 := numS_hi s4 e4 4611686018427387904 (by omega)
  rw [← h5] at lo5 hi5
  obtain ⟨p5, rfl⟩ : ∃ n : Nat, x5 = n := ⟨x5.toNat, by simp only at lo5; omega⟩
  have c5 : IntKind.u64.wrap (p5 : Int) = (p5 : Int) := by rw [IntKind.wrap_u64]; simp only at hi5; omega
  have lo6 := numS_lo s5 e5 5
  have hi6 := numS_hi s5 e5 5 (by decide)
  rw [← h6] at lo6 hi6
  obtain ⟨n, rfl⟩ : ∃ n : Nat, x6 = n := ⟨x6.toNat, by simp only at lo6; omega⟩
  have hn5 : n ≤ 5 := by simp only at hi6; omega
  obtain ⟨⟨x8, s8, e8⟩, h8⟩ : ∃ p, p = numS (parS n s6 e6).2.1 (parS n s6 e6).2.2 4611686018427387904 := ⟨_, rfl⟩
  have l7 := parS_short n s6 e6
  have N8 : Hid (∀ w, InAt 105 w b (parS n s6 e6).2.1 (parS n s6 e6).2.2 → Calls Tryd.prog 77 #[.pointer (some ⟨b, 0, none⟩), .int .i64 4611686018427387904] w (InPost 105 b (.int .i64 x8) (s8, e8) w)) := Lib.hid (fun w hi => by have := innum_any b _ _ 4611686018427387904 w hi (by omega); rw [← h8] at this; exact this)
  have hfin : takeS s = (⟨x1, x2, x3, x4, p5, (parS n s6 e6).1, x8⟩, s8, e8) := by
    simp only [takeS, ← h1, ← h2, ← h3, ← h4, ← h5, ← h6, Int.toNat_natCast, ← h8]
  rw [hfin]
  have L6 : Hid (s6.length ≤ 1000000000) := Lib.hid (by omega)
  obtain ⟨W0, hW0⟩ : ∃ W0, W0 = (w.alloc (.cells #[.int .i64 0, .int .i64 0, .string ⟨#[]⟩, .int .i64 0, .int .u64 0, .slice none 0 0, .int .i64 0] 46)).alloc (.cells #[.int .i64 0, .int .i64 0, .string ⟨#[]⟩, .int .i64 0, .int .u64 0, .slice none 0 0, .int .i64 0] 46) := ⟨_, rfl⟩
  obtain ⟨g, hg⟩ : ∃ g, g = w.heap.size + 1 := ⟨_, rfl⟩
  have st : TkSt w b g #[.int .i64 0, .int .i64 0, .string ⟨#[]⟩, .int .i64 0, .int .u64 0, .slice none 0 0, .int .i64 0] s 0 W0 := by
    have hlt := h.lt
    refine ⟨?_, ?_, ?_, hlt, by omega, #[.int .i64 0, .int .i64 0, .string ⟨#[]⟩, .int .i64 0, .int .u64 0, .slice none 0 0, .int .i64 0], rfl, ?_⟩
    · rw [hW0, hg]; have := heap_alloc_new (w.alloc (.cells #[.int .i64 0, .int .i64 0, .string ⟨#[]⟩, .int .i64 0, .int .u64 0, .slice none 0 0, .int .i64 0] 46)) (.cells #[.int .i64 0, .int .i64 0, .string ⟨#[]⟩, .int .i64 0, .int .u64 0, .slice none 0 0, .int .i64 0] 46); simpa using this
    · rw [hW0]; unfold InAt; rw [Below.heap_alloc _ _ _ (by simp; omega), Below.heap_alloc _ _ _ hlt]; exact h
    · rw [hW0]; exact ((Mod.refl _ w).alloc _).alloc _
    · rw [hW0, Below.heap_alloc _ _ _ (by simp)]; exact heap_alloc_new w _
  have HW0 := Lib.hid hW0
  have Hg := Lib.hid hg
  clear h1 h2 h3 h4 h5 h6 h8 hfin l1 l2 l3 l4 l5 l6 l7 lo5 hi5 lo6 hi6 hl hW0 hg h
  go_enter Tryd.func46, Tryd.ntmps46
  go_wp2_with fail
  rw [← HW0.out, ← Hg.out]
  refine (N1.out _ st.inp).mono ?_
  rintro r w1 hp
  obtain ⟨rfl, sa⟩ := st.call hp
  clear hp st N1
  have c0 : w1.cell? ⟨g, 0, none⟩ = some (.int .i64 0) := sa.cell 0
  have f0 := sa.froz 0
  go_wp2_with fail
  have sb : TkSt w b g #[.int .i64 x1, .int .i64 0, .string ⟨#[]⟩, .int .i64 0, .int .u64 0, .slice none 0 0, .int .i64 0] s1 e1 (w1.setCell ⟨g, 0, none⟩ (.int .i64 x1)) := sa.put 0 _
  generalize w1.setCell ⟨g, 0, none⟩ (.int .i64 x1) = v1 at sb ⊢
  clear c0 f0 sa
  refine (N2.out _ sb.inp).mono ?_
  rintro r w1 hp
  obtain ⟨rfl, sa⟩ := sb.call hp
  clear hp sb N2
  have c0 : w1.cell? ⟨g, 1, none⟩ = some (.int .i64 0) := sa.cell 1
  have f0 := sa.froz 1
  go_wp2_with fail
  have sb : TkSt w b g #[.int .i64 x1, .int .i64 x2, .string ⟨#[]⟩, .int .i64 0, .int .u64 0, .slice none 0 0, .int .i64 0] s2 e2 (w1.setCell ⟨g, 1, none⟩ (.int .i64 x2)) := sa.put 1 _
  generalize w1.setCell ⟨g, 1, none⟩ (.int .i64 x2) = v2 at sb ⊢
  clear c0 f0 sa
  refine (N3.out _ sb.inp).mono ?_
  rintro r w1 hp
  obtain ⟨rfl, sa⟩ := sb.call hp
  clear hp sb N3
  have c0 : w1.cell? ⟨g, 2, none⟩ = some (.string ⟨#[]⟩) := sa.cell 2
  have f0 := sa.froz 2
  go_wp2_with fail
  have sb : TkSt w b g #[.int .i64 x1, .int .i64 x2, .string ⟨x3.toArray⟩, .int .i64 0, .int .u64 0, .slice none 0 0, .int .i64 0] s3 e3 (w1.setCell ⟨g, 2, none⟩ (.string ⟨x3.toArray⟩)) := sa.put 2 _
  generalize w1.setCell ⟨g, 2, none⟩ (.string ⟨x3.toArray⟩) = v3 at sb ⊢
  clear c0 f0 sa
  refine (N4.out _ sb.inp).mono ?_
  rintro r w1 hp
  obtain ⟨rfl, sa⟩ := sb.call hp
  clear hp sb N4
  have c0 : w1.cell? ⟨g, 3, none⟩ = some (.int .i64 0) := sa.cell 3
  have f0 := sa.froz 3
  go_wp2_with fail
  have sb : TkSt w b g #[.int .i64 x1, .int .i64 x2, .string ⟨x3.toArray⟩, .int .i64 x4, .int .u64 0, .slice none 0 0, .int .i64 0] s4 e4 (w1.setCell ⟨g, 3, none⟩ (.int .i64 x4)) := sa.put 3 _
  generalize w1.setCell ⟨g, 3, none⟩ (.int .i64 x4) = v4 at sb ⊢
  clear c0 f0 sa
  refine (N5.out _ sb.inp).mono ?_
  rintro r w1 hp
  obtain ⟨rfl, sa⟩ := sb.call hp
  clear hp sb N5
  have c0 : w1.cell? ⟨g, 4, none⟩ = some (.int .u64 0) := sa.cell 4
  have f0 := sa.froz 4
  go_wp2_with fail
  have sb : TkSt w b g #[.int .i64 x1, .int .i64 x2, .string ⟨x3.toArray⟩, .int .i64 x4, .int .u64 (p5 : Int), .slice none 0 0, .int .i64 0] s5 e5 (w1.setCell ⟨g, 4, none⟩ (.int .u64 (p5 : Int))) := sa.put 4 _
  generalize w1.setCell ⟨g, 4, none⟩ (.int .u64 (p5 : Int)) = v5 at sb ⊢
  clear c0 f0 sa
  clear c5
  refine (N6.out _ sb.inp).mono ?_
  rintro r w1 hp
  obtain ⟨rfl, sa⟩ := sb.call hp
  clear hp sb N6
  go_wp2_with fail
  have sb : Hid (TkSt w b g #[.int .i64 x1, .int .i64 x2, .string ⟨x3.toArray⟩, .int .i64 x4, .int .u64 (p5 : Int), .slice none 0 0, .int .i64 0] s6 e6 w1) := Lib.hid sa
  clear sa
  go_loopw [22] (fun s22 wr => ∃ k q c, k ≤ n ∧ s22 = .int .i64 (k : Int) ∧ Hid (TkSt w b g #[.int .i64 x1, .int .i64 x2, .string ⟨x3.toArray⟩, .int .i64 x4, .int .u64 (p5 : Int), .slice q k c, .int .i64 0] (parS k s6 e6).2.1 (parS k s6 e6).2.2 wr ∧ Rw encN 43 wr q c (parS k s6 e6).1 ∧ ∀ a, q = some a → g < a.block)) (fun i _ => n - (intOf i).toNat)
  case atStart => exact ⟨0, none, 0, Nat.zero_le _, rfl, Lib.hid ⟨sb.out, Rw.empty _ _, fun a e => by cases e⟩⟩
  case round =>
    clear sb
    obtain ⟨k, q, c, hk, rfl, hst⟩ := hrel
    by_cases hlt : k < n
    · obtain ⟨st0, rw0, fr0⟩ := hst.out
      clear hst
      have hps := parS_short k s6 e6
      have hsk : (parS k s6 e6).2.1.length ≤ 1000000000 := Nat.le_trans hps L6.out
      have hDl := parS_len k s6 e6
      have hnx : parS (k + 1) s6 e6 = ((parS k s6 e6).1 ++ [⟨idL (rawS (parS k s6 e6).2.1 (parS k s6 e6).2.2 32).1, idL_len _⟩], (rawS (parS k s6 e6).2.1 (parS k s6 e6).2.2 32).2) := rfl
      have Hnx := Lib.hid hnx
      clear hnx hps
      generalize parS k s6 e6 = P at st0 rw0 hsk hDl Hnx
      obtain ⟨D, sk, ek⟩ := P
      simp only at st0 rw0 hsk hDl
      have hraw : Hid (∀ w, InAt 105 w b sk ek → Calls Tryd.prog 79 #[.pointer (some ⟨b, 0, none⟩), .int .i64 32] w (InPost 105 b (.string ⟨(rawS sk ek 32).1.toArray⟩) (rawS sk ek 32).2 w)) := Lib.hid (fun w hi => inraw_any b sk ek 32 w hi (by omega))
      obtain ⟨⟨rt, sk', ek'⟩, hrk⟩ : ∃ p, p = rawS sk ek 32 := ⟨_, rfl⟩
      rw [← hrk] at hraw
      have Hnx2 : Hid (parS (k + 1) s6 e6 = (D ++ [⟨idL rt, idL_len rt⟩], sk', ek')) := Lib.hid (by rw [Hnx.out]; simp only [← hrk])
      clear Hnx hrk
      obtain ⟨nm, hnm⟩ : ∃ nm : Nm, nm = ⟨idL rt, idL_len rt⟩ := ⟨_, rfl⟩
      have hname : Hid (∀ w, Calls Tryd.prog 57 #[.string ⟨rt.toArray⟩] w fun r w' => r = .returned (.agg (vals nm.1).toArray) ∧ Below w.heap.size w w') := Lib.hid (fun w => by rw [hnm]; exact name_any rt w)
      rw [← hnm] at Hnx2
      clear hnm
      have HDl := Lib.hid hDl
      have Hst := Lib.hid st0
      have Hrw := Lib.hid rw0
      have Hfr := Lib.hid fr0
      clear hDl st0 rw0 fr0 hsk
      go_wp2_with fail
      have HG0 : Hid ((fun (j : Nat) (x : Value) (w1 : World) => (j = 0 → TkSt w b g #[.int .i64 x1, .int .i64 x2, .string ⟨x3.toArray⟩, .int .i64 x4, .int .u64 (p5 : Int), .slice q k c, .int .i64 0] sk ek w1) ∧ (1 ≤ j → j ≤ 4 → TkSt w b g #[.int .i64 x1, .int .i64 x2, .string ⟨x3.toArray⟩, .int .i64 x4, .int .u64 (p5 : Int), .slice q k c, .int .i64 0] sk' ek' w1) ∧ (j ≤ 3 → Rw encN 43 w1 q c D) ∧ (j = 3 → ∃ p, x = .slice (some ⟨p, 0, none⟩) 1 1 ∧ Rd encN w1 (some ⟨p, 0, none⟩) [nm]) ∧ (j = 4 → ∃ q' c', x = .slice q' (k + 1) c' ∧ Rw encN 43 w1 q' c' (D ++ [nm]) ∧ ∀ a, q' = some a → g < a.block) ∧ (j = 5 → ∃ q' c', TkSt w b g #[.int .i64 x1, .int .i64 x2, .string ⟨x3.toArray⟩, .int .i64 x4, .int .u64 (p5 : Int), .slice q' (k + 1) c', .int .i64 0] sk' ek' w1 ∧ Rw encN 43 w1 q' c' (D ++ [nm]) ∧ ∀ a, q' = some a → g < a.block)) 0 undef wr.drew) := Lib.hid ⟨fun _ => Hst.out.drew, fun h => absurd h (by omega), fun _ => Hrw.out.old ((Below.refl _ _).drew), fun h => absurd h (by omega), fun h => absurd h (by omega), fun h => absurd h (by omega)⟩
      clear Hst Hrw
      refine wp_region_chain (fun t v => match t with
        | 24 => v = .pointer (some ⟨g, 5, none⟩)
        | 25 => v = .slice q k c
        | 26 => v = .pointer (some ⟨b, 0, none⟩)
        | 27 => v = .string ⟨rt.toArray⟩
        | 28 => v = .agg (vals nm.1).toArray
        | 31 => v = .pointer (some ⟨g, 5, none⟩)
        | _ => True) (fun (j : Nat) (x : Value) (w1 : World) => (j = 0 → TkSt w b g #[.int .i64 x1, .int .i64 x2, .string ⟨x3.toArray⟩, .int .i64 x4, .int .u64 (p5 : Int), .slice q k c, .int .i64 0] sk ek w1) ∧ (1 ≤ j → j ≤ 4 → TkSt w b g #[.int .i64 x1, .int .i64 x2, .string ⟨x3.toArray⟩, .int .i64 x4, .int .u64 (p5 : Int), .slice q k c, .int .i64 0] sk' ek' w1) ∧ (j ≤ 3 → Rw encN 43 w1 q c D) ∧ (j = 3 → ∃ p, x = .slice (some ⟨p, 0, none⟩) 1 1 ∧ Rd encN w1 (some ⟨p, 0, none⟩) [nm]) ∧ (j = 4 → ∃ q' c', x = .slice q' (k + 1) c' ∧ Rw encN 43 w1 q' c' (D ++ [nm]) ∧ ∀ a, q' = some a → g < a.block) ∧ (j = 5 → ∃ q' c', TkSt w b g #[.int .i64 x1, .int .i64 x2, .string ⟨x3.toArray⟩, .int .i64 x4, .int .u64 (p5 : Int), .slice q' (k + 1) c', .int .i64 0] sk' ek' w1 ∧ Rw encN 43 w1 q' c' (D ++ [nm]) ∧ ∀ a, q' = some a → g < a.block)) [3, 4, 5, 6, 8] 37 (by kernel_rfl) (by decide +kernel) rfl (by decide +kernel) (by decide) (by decide) HG0.out (by
        refine OweAllC.cons (owesC_val 3 (by decide +kernel) (by decide) rfl rfl fun k' a w1 x hk ha hG hV => ?_) ?_
        · skip
          have h3 := ha.outer 3 (by decide +kernel)
          simp only [Act.eval] at h3
          exact ⟨.pointer (some ⟨g, 5, none⟩), wanted_free rfl, by simp [execOp, go_sem, h3], rfl⟩
        refine OweAllC.cons (owesC_val 3 (by decide +kernel) (by decide) rfl rfl fun k' a w1 x hk ha hG hV => ?_) ?_
        · skip
          have h24 : a.tmps.getD 24 undef = .pointer (some ⟨g, 5, none⟩) := hV.get 24 (by decide +kernel)
          have cc : w1.cell? ⟨g, 5, none⟩ = some (.slice q k c) := by by_cases h0 : k' = 0; exact (hG.1 h0).cell 5; exact (hG.2.1 (by omega) (by omega)).cell 5
          exact ⟨.slice q k c, wanted_free rfl, by simp [execOp, go_sem, h24, cc], rfl⟩
        refine OweAllC.cons (owesC_val 0 (by decide +kernel) (by decide) rfl rfl fun k' a w1 x hk ha hG hV => ?_) ?_
        · skip
          have h0 := ha.outer 0 (by decide +kernel)
          simp only [Act.eval] at h0
          exact ⟨.pointer (some ⟨b, 0, none⟩), wanted_free rfl, by simp [execOp, go_sem, h0], rfl⟩
        refine OweAllC.cons (owesC_call 0 rfl rfl rfl 79 fun a w1 x ha hG hx hV => ?_) ?_
        · skip
          have h26 : a.tmps.getD 26 undef = .pointer (some ⟨b, 0, none⟩) := hV.get 26 (by decide +kernel)
          refine ⟨#[.pointer (some ⟨b, 0, none⟩), .int .i64 32], wanted_free rfl, by simp [execOp, resolve, invoke, go_sem, h26], ?_⟩
          have st1 := hG.1 rfl
          have r1 := hG.2.2.1 (by omega)
          refine (hraw.out w1 st1.inp).mono ?_
          rintro r u2 hp
          have hm := hp.2.2
          obtain ⟨rfl, st2⟩ := st1.call hp
          exact ⟨_, rfl, rfl, (fun h => absurd h (by omega)), (fun _ _ => st2), (fun _ => r1.kept hm (fun a e h => by have := Hfr.out a e; have := st1.lo; have := st1.hi; omega)), (fun h => absurd h (by omega)), (fun h => absurd h (by omega)), (fun h => absurd h (by omega))⟩
        refine OweAllC.cons (owesC_call 1 rfl rfl rfl 57 fun a w1 x ha hG hx hV => ?_) ?_
        · skip
          have h27 : a.tmps.getD 27 undef = .string ⟨rt.toArray⟩ := hV.get 27 (by decide +kernel)
          refine ⟨#[.string ⟨rt.toArray⟩], wanted_free rfl, by simp [execOp, resolve, invoke, go_sem, h27], ?_⟩
          have st1 := hG.2.1 (by omega) (by omega)
          have r1 := hG.2.2.1 (by omega)
          refine (hname.out w1).mono ?_
          rintro r u2 ⟨rfl, hb⟩
          exact ⟨_, rfl, rfl, (fun h => absurd h (by omega)), (fun _ _ => st1.grow hb), (fun _ => r1.old hb), (fun h => absurd h (by omega)), (fun h => absurd h (by omega)), (fun h => absurd h (by omega))⟩
        refine OweAllC.cons (owesC_mem 2 rfl rfl rfl fun a w1 x ha hG hx hV => ?_) ?_
        · skip
          have h28 : a.tmps.getD 28 undef = .agg (vals nm.1).toArray := hV.get 28 (by decide +kernel)
          have g28 : a.tmps[28]?.getD undef = .agg (vals nm.1).toArray := by simpa using h28
          have st1 := hG.2.1 (by omega) (by omega)
          have r1 := hG.2.2.1 (by omega)
          have hb : Below w1.heap.size w1 (w1.alloc (.cells (vals nm.1).toArray 43)) := (Below.refl _ _).alloc (Nat.le_refl _) _
          have hr : Rd encN (w1.alloc (.cells (vals nm.1).toArray 43)) (some ⟨w1.heap.size, 0, none⟩) [nm] := by have := Rd.made encN w1 43 [nm] (by simp [maxLen]); simpa [Enc.all, encN] using this
          exact ⟨_, _, wanted_free rfl, build_name (.tmp 28) rfl nm.1 nm.2 h28, trivial, (fun h => absurd h (by omega)), (fun _ _ => st1.grow hb), (fun _ => r1.old hb), (fun _ => ⟨_, rfl, hr⟩), (fun h => absurd h (by omega)), (fun h => absurd h (by omega))⟩
        refine OweAllC.cons (owesC_law 3 rfl rfl fun a w1 x ha hG hx hV => ?_) ?_
        · skip
          have h25 : a.tmps.getD 25 undef = .slice q k c := hV.get 25 (by decide +kernel)
          have h29 := hx 2 5 _ 29 rfl rfl rfl rfl
          have st1 := hG.2.1 (by omega) (by omega)
          have r1 := hG.2.2.1 (by omega)
          obtain ⟨p, rfl, hr⟩ := hG.2.2.2.1 rfl
          refine ⟨wanted_free rfl, fun K hK => ?_⟩
          refine wp_pushR1 encN (.tmp 25) (.tmp 29) 44 43 _ 32 rfl Tryd.underlying44 info_id (id_size (s := zid) rfl) (by decide) q c k D HDl.out h25 r1 (some ⟨p, 0, none⟩) 1 nm h29 hr (by omega) ?_
          rintro q' c' w' ⟨hR, hM, hor⟩
          have hfr : ∀ a, q' = some a → g < a.block := by intro a e; rcases hor a e with h | h; exact Hfr.out a h; have := (Array.getElem?_eq_some_iff.1 st1.box).1; omega
          have st2 : TkSt w b g #[.int .i64 x1, .int .i64 x2, .string ⟨x3.toArray⟩, .int .i64 x4, .int .u64 (p5 : Int), .slice q k c, .int .i64 0] sk' ek' w' := by
            obtain ⟨Z, hz, hZ⟩ := st1.res
            have e1 := st1.lo
            have e2 := st1.hi
            exact ⟨(hM.block g (Array.getElem?_eq_some_iff.1 st1.box).1 (by rintro ⟨a, e, rfl⟩; have := Hfr.out a e; omega)).trans st1.box, (hM.block b st1.inp.lt (by rintro ⟨a, e, rfl⟩; have := Hfr.out a e; omega)).trans st1.inp, st1.m.trans hM (by rintro i hi ⟨a, e, rfl⟩; have := Hfr.out a e; omega), e1, e2, Z, hz, (hM.block _ (Array.getElem?_eq_some_iff.1 hZ).1 (by rintro ⟨a, e, e'⟩; have := Hfr.out a e; omega)).trans hZ⟩
          exact hK _ _ (fun t ht => by cases ht; trivial) ⟨(fun h => absurd h (by omega)), (fun _ _ => st2), (fun h => absurd h (by omega)), (fun h => absurd h (by omega)), (fun _ => ⟨q', c', rfl, hR, hfr⟩), (fun h => absurd h (by omega))⟩
        refine OweAllC.cons (owesC_val 4 (by decide +kernel) (by decide) rfl rfl fun k' a w1 x hk ha hG hV => ?_) ?_
        · skip
          have h3 := ha.outer 3 (by decide +kernel)
          simp only [Act.eval] at h3
          exact ⟨.pointer (some ⟨g, 5, none⟩), wanted_free rfl, by simp [execOp, go_sem, h3], rfl⟩
        refine OweAllC.cons (owesC_store 4 rfl rfl rfl fun a w1 x ha hG hx hV => ?_) ?_
        · skip
          have h31 : a.tmps.getD 31 undef = .pointer (some ⟨g, 5, none⟩) := hV.get 31 (by decide +kernel)
          have h30 := hx 3 6 _ 30 rfl rfl rfl rfl
          simp only [Act.eval] at h30
          have st1 := hG.2.1 (by omega) (by omega)
          obtain ⟨q', c', rfl, hR, hfr⟩ := hG.2.2.2.2.1 rfl
          have cc : w1.cell? ⟨g, 5, none⟩ = some (.slice q k c) := st1.cell 5
          have cf := st1.froz 5
          have hR2 : Rw encN 43 (w1.setCell ⟨g, 5, none⟩ (.slice q' (k + 1) c')) q' c' (D ++ [nm]) := hR.kept ((Mod.refl (· = g) w1).setCell (p := ⟨g, 5, none⟩) (fun _ => rfl) _) (fun a e h => by have := hfr a e; omega)
          exact ⟨w1.setCell ⟨g, 5, none⟩ (.slice q' (k + 1) c'), wanted_free rfl, by simp [execOp, go_sem, h31, h30, cc, cf], (fun h => absurd h (by omega)), (fun _ h => absurd h (by omega)), (fun h => absurd h (by omega)), (fun h => absurd h (by omega)), (fun h => absurd h (by omega)), (fun _ => ⟨q', c', st1.put 5 _, hR2, hfr⟩)⟩
        exact OweAllC.nil
        ) ?_
      intro f wz xz hG hx hv
      first | (rename_i hK; refine hK _ _ ?_; clear hK) | (rename_i hK _; refine hK _ _ ?_; clear hK) | (rename_i hK _ _; refine hK _ _ ?_; clear hK) | (rename_i hK _ _ _; refine hK _ _ ?_; clear hK)
      clear hv hx
      simp only [dsts, puts, List.filterMap_cons, List.filterMap_nil, List.foldl_cons, List.foldl_nil, Act.put, List.setIfInBounds_toArray, List.set_cons_succ, List.set_cons_zero]
      have hG5 : ∃ q' c', TkSt w b g #[.int .i64 x1, .int .i64 x2, .string ⟨x3.toArray⟩, .int .i64 x4, .int .u64 (p5 : Int), .slice q' (k + 1) c', .int .i64 0] sk' ek' wz ∧ Rw encN 43 wz q' c' (D ++ [nm]) ∧ ∀ a, q' = some a → g < a.block := hG.2.2.2.2.2 rfl
      obtain ⟨q', c', st5, rw5, fr5⟩ := hG5
      clear hG HG0
      have S5 : Hid (TkSt w b g #[.int .i64 x1, .int .i64 x2, .string ⟨x3.toArray⟩, .int .i64 x4, .int .u64 (p5 : Int), .slice q' (k + 1) c', .int .i64 0] sk' ek' wz ∧ Rw encN 43 wz q' c' (D ++ [nm]) ∧ ∀ a, q' = some a → g < a.block) := Lib.hid ⟨st5, rw5, fr5⟩
      clear st5 rw5 fr5
      go_wp2_with fail
      go_roundw
      case rel => exact ⟨k + 1, q', c', by omega, by go_num, Lib.hid (by rw [Hnx2.out]; exact S5.out)⟩
      case measure => simp [intOf]; omega
    · obtain rfl : k = n := by omega
      obtain ⟨st0, rw0, fr0⟩ := hst.out
      clear hst
      have hDl := parS_len k s6 e6
      obtain ⟨P, hP⟩ : ∃ P, P = parS k s6 e6 := ⟨_, rfl⟩
      rw [← hP] at st0 rw0 hDl N8
      obtain ⟨D, sk, ek⟩ := P
      simp only at st0 rw0 hDl
      have HP := Lib.hid hP
      clear hP
      go_wp2_with fail
      refine (N8.out _ st0.inp).mono ?_
      rintro r w1' hp
      have hm := hp.2.2
      have rw1 : Rw encN 43 w1' q c D := rw0.kept hm (fun a e h => by have := fr0 a e; have := st0.lo; have := st0.hi; omega)
      obtain ⟨rfl, sa⟩ := st0.call hp
      have HR := Lib.hid rw1
      clear hp hm rw0 rw1 st0
      have c0 : w1'.cell? ⟨g, 6, none⟩ = some (.int .i64 0) := sa.cell 6
      have f0 := sa.froz 6
      have sb : TkSt w b g #[.int .i64 x1, .int .i64 x2, .string ⟨x3.toArray⟩, .int .i64 x4, .int .u64 (p5 : Int), .slice q k c, .int .i64 x8] s8 e8 (w1'.setCell ⟨g, 6, none⟩ (.int .i64 x8)) := sa.put 6 _
      have HR2 : Hid (Rw encN 43 (w1'.setCell ⟨g, 6, none⟩ (.int .i64 x8)) q c D) := Lib.hid (HR.out.kept ((Mod.refl (· = g) w1').setCell (p := ⟨g, 6, none⟩) (fun _ => rfl) _) (fun a e h => by have := fr0 a e; omega))
      obtain ⟨v8, hv8⟩ : ∃ v, v = w1'.setCell ⟨g, 6, none⟩ (.int .i64 x8) := ⟨_, rfl⟩
      rw [← hv8] at sb HR2
      have box := sb.box
      obtain ⟨Z, hZs, hZ⟩ := sb.res
      obtain ⟨Y, hY⟩ : ∃ Y : Array Value, Y = #[.int .i64 x1, .int .i64 x2, .string ⟨x3.toArray⟩, .int .i64 x4, .int .u64 (p5 : Int), .slice q k c, .int .i64 x8] := ⟨_, rfl⟩
      rw [← hY] at box
      have hYs : Y.size = 7 := by rw [hY]; rfl
      have q3 : (Tryd.prog.info? 46).map (·.size) = some Y.size := by rw [hYs]; kernel_rfl
      have q2 : Z.size = Y.size := by rw [hZs, hYs]
      have q4 : ∀ v ∈ Y.toList, v.oneCell' = true := by
        rw [hY]; intro v hv
        simp only [List.mem_cons, List.not_mem_nil, or_false] at hv
        rcases hv with rfl | rfl | rfl | rfl | rfl | rfl | rfl <;> rfl
      have L0 := Lib.hid (setRow_heap v8 w.heap.size Z Y 46 (0, 0) hZ)
      have hlo := sb.lo
      have hhi := sb.hi
      have LI : Hid (InAt 105 (v8.setRow w.heap.size Y) b s8 e8) := Lib.hid ((setRow_other v8 _ _ Y (by omega)).trans sb.inp)
      have LM : Hid (Mod (· = b) w (v8.setRow w.heap.size Y)) := Lib.hid ((sb.m.setRow (g := w.heap.size) Y).drop_new (Nat.le_refl _))
      have LR : Hid (Rw encN 43 (v8.setRow w.heap.size Y) q c D) := Lib.hid (HR2.out.kept ((Mod.refl (fun _ => False) v8).setRow (g := w.heap.size) Y) (fun a e h => by have := fr0 a e; rcases h with h | h; exact h; omega))
      have HY := Lib.hid hY
      have Hv8 := Lib.hid hv8
      clear sa sb hY hv8
      go_wp2_with (first | (rw [← Hv8.out]; refine wpList_load_row rfl 46 (.tmp 3) rfl g rfl 46 Y (0, 0) _ box Tryd.underlying46 rfl q3 ?_) | (refine wpList_store_row rfl rfl 46 (.tmp 2) (.tmp 36) rfl w.heap.size rfl 46 Z Y rfl hZ q2 q3 q4 ?_))
      exact bodyPost_ret (v := .agg Y) (results_cell_row Tryd.results46 _ _ w.heap.size 46 Y (0, 0) _ rfl L0.out Tryd.underlying46 rfl q3) rfl ⟨q, c, by rw [HY.out]; unfold hcells; simp only [← HP.out, hDl], by simp only [← HP.out]; exact LR.out, LI.out, LM.out, fun a e => by have := fr0 a e; omega⟩
end Go.Proofs.YtlhndibfdccohaaDoor

namespace Go.Proofs.YtlhndibfdccohaaDoor
open Go.RowKit

theorem results_row2 {P : Program} {fn : Func} {p u : Tmp} {ty : TypeId} (h : fn.results = #[.cell p ty, .tmp u]) (tmps : Array Value) (w : World) (g : Nat) (t : TypeId) (cs : Array Value) (fr : Nat × Nat) (d : TypeDesc) (v : Value)
    (hp : tmps.getD p undef = .pointer (some ⟨g, 0, none⟩)) (hv : tmps.getD u undef = v) (hg : w.heap[g]? = some (.cells cs t fr))
    (hu : P.underlying ty = some d) (hd : (match d with | .struct _ | .array _ _ => true | _ => false) = true) (hi : (P.info? ty).map (·.size) = some cs.size) :
    (results fn tmps).run P w = .ok (.tuple #[.agg cs, v]) w := by
  rw [results_cell_tmp h, hp, hv]
  simp [asAddr, run_loadVar_row w g t ty cs fr d hg hu hd hi, Result.andThen]

def zhd : Hd Nm := ⟨0, 0, [], 0, 0, [], 0⟩
def zhc : Array Value := #[.int .i64 0, .int .i64 0, .string ⟨#[]⟩, .int .i64 0, .int .u64 0, .slice none 0 0, .int .i64 0]
theorem zhc_cells : hcells zhd none 0 = zhc := rfl
/-- Do a header's parents rise? -/
def hrs (h : Hd Nm) : Bool := rs (h.ps.map (·.1)) (h.ps.length - 1)
/-- 0, or what is wrong with bytes. -/
def hparE (s : List UInt8) : Int :=
  if (takeS s).2.1 = [] then (if (takeS s).2.2 = 0 then chk (takeS s).1 (hrs (takeS s).1) else (takeS s).2.2) else 3
def HPost (h : Hd Nm) (e : Int) (w : World) (r : Ending) (w' : World) : Prop := ∃ q c, r = .returned (.tuple #[.agg (hcells h q c), .int .i64 e]) ∧ Rw encN 43 w' q c h.ps ∧ Below w.heap.size w w' ∧ ∀ a, q = some a → w.heap.size ≤ a.block
theorem hinfo : (Tryd.prog.info? 46).map (·.size) = some 7 := by kernel_rfl
theorem hcells_one (h : Hd Nm) (q : Option Addr) (c : Nat) : ∀ v ∈ (hcells h q c).toList, v.oneCell' = true := by
  unfold hcells; intro v hv
  simp only [List.mem_cons, List.not_mem_nil, or_false] at hv
  rcases hv with rfl | rfl | rfl | rfl | rfl | rfl | rfl <;> rfl

set_option maxRecDepth 20000 in
set_option maxHeartbeats 4000000 in
theorem hparse_any (s : List UInt8) (w : World) (hl : s.length ≤ 1000000000) :
    Calls Tryd.prog 20 #[.string ⟨s.toArray⟩] w (HPost (if hparE s = 0 then (takeS s).1 else zhd) (hparE s) w) := by
  obtain ⟨⟨H, R, e⟩, hT⟩ : ∃ p, p = takeS s := ⟨_, rfl⟩
  obtain ⟨E0, hE0⟩ : ∃ E0 : Int, E0 = if R = [] then e else 3 := ⟨_, rfl⟩
  obtain ⟨E1, hE1⟩ : ∃ E1 : Int, E1 = chk H (hrs H) := ⟨_, rfl⟩
  have hE : hparE s = if E0 = 0 then E1 else E0 := by
    unfold hparE; rw [← hT, hE0, hE1]
    by_cases hR : R = []
    · by_cases he : e = 0 <;> simp [hR, he]
    · simp [hR]
  obtain ⟨EE, hEE⟩ : ∃ EE, EE = hparE s := ⟨_, rfl⟩
  obtain ⟨HH, hHH⟩ : ∃ HH, HH = if EE = 0 then H else zhd := ⟨_, rfl⟩
  rw [show (takeS s).1 = H by rw [← hT], ← hEE, ← hHH]
  rw [hE] at hEE
  have HEE := Lib.hid hEE
  have HHH := Lib.hid hHH
  clear hEE hHH
  have htk : Hid (∀ b w, InAt 105 w b s 0 → Calls Tryd.prog 46 #[.pointer (some ⟨b, 0, none⟩)] w fun r w' => ∃ q c, r = .returned (.agg (hcells H q c)) ∧ Rw encN 43 w' q c H.ps ∧ InAt 105 w' b R e ∧ Mod (· = b) w w' ∧ ∀ a, q = some a → w.heap.size ≤ a.block) :=
    Lib.hid (fun b w h => by have := take_any b s w h hl; rw [← hT] at this; exact this)
  have hend : Hid (∀ b w, InAt 105 w b R e → Calls Tryd.prog 47 #[.pointer (some ⟨b, 0, none⟩)] w fun r w' => r = .returned (.int .i64 E0) ∧ w = w') := Lib.hid (fun b w h => by rw [hE0]; exact end_any b R e w h)
  have hck : Hid (∀ q c w, Rd encN w q H.ps → Calls Tryd.prog 48 #[.agg (hcells H q c)] w fun r w' => r = .returned (.int .i64 E1) ∧ Below w.heap.size w w') := Lib.hid (fun q c w h => by rw [hE1]; exact hcheck_any H q c w h)
  obtain ⟨W0, hW0⟩ : ∃ W0, W0 = w.alloc (.cells #[.int .i64 0, .int .i64 0, .string ⟨#[]⟩, .int .i64 0, .int .u64 0, .slice none 0 0, .int .i64 0] 46) := ⟨_, rfl⟩
  have res0 : W0.heap[w.heap.size]? = some (.cells zhc 46 (0, 0)) := by rw [hW0]; exact heap_alloc_new w _
  have B0 : Below w.heap.size w W0 := by rw [hW0]; exact (Below.refl _ _).alloc (Nat.le_refl _) _
  have s0 : W0.heap.size = w.heap.size + 1 := by rw [hW0]; simp
  have HW0 := Lib.hid hW0
  have Hs0 := Lib.hid s0
  have Hres := Lib.hid res0
  have HB0 := Lib.hid B0
  clear hT hE hE0 hE1 hW0 s0 res0 B0
  go_enter Tryd.func20, Tryd.ntmps20
  go_wp2_with fail
  rw [← HW0.out]
  refine (of_any s W0 (by omega)).mono ?_
  rintro r w1 ⟨b, rfl, hb, hI, hB1⟩
  go_wp2_with fail
  refine (htk.out b w1 hI).mono ?_
  rintro r w2 ⟨q, c, rfl, hR, hI2, hM, hfr⟩
  have hY1 := Lib.hid (hcells_one H q c)
  have hbz := Hs0.out
  have hB1s := hB1.size
  have res2 : Hid (w2.heap[w.heap.size]? = some (.cells zhc 46 (0, 0))) := Lib.hid ((hM.block _ (by omega) (by omega)).trans ((hB1.block _ (by omega)).trans Hres.out))
  have B2 : Hid (Below w.heap.size w w2) := Lib.hid (HB0.out.trans ((hB1.mono HB0.out.size).trans (hM.to_below (by omega) (by intro k hk e; omega))))
  have hck1 : Hid (∀ w, Rd encN w q H.ps → Calls Tryd.prog 48 #[.agg (hcells H q c)] w fun r w' => r = .returned (.int .i64 E1) ∧ Below w.heap.size w w') := Lib.hid (fun w => hck.out q c w)
  obtain ⟨Y, hY⟩ : ∃ Y, Y = hcells H q c := ⟨_, rfl⟩
  rw [← hY] at hY1 hck1 ⊢
  have hYs : Y.size = 7 := by rw [hY]; rfl
  obtain ⟨W3, hW3⟩ : ∃ W3, W3 = (w2.alloc (.cells #[.int .i64 0, .int .i64 0, .string ⟨#[]⟩, .int .i64 0, .int .u64 0, .slice none 0 0, .int .i64 0] 46)).setRow w2.heap.size Y := ⟨_, rfl⟩
  have hb3 : Below w2.heap.size w2 W3 := by rw [hW3]; exact stored_below
  have box3 : Hid (W3.heap[w2.heap.size]? = some (.cells Y 46 (0, 0))) := Lib.hid (by rw [hW3]; exact setRow_heap _ _ _ _ _ _ (heap_alloc_new w2 _))
  have I3 : InAt 105 W3 b R e := (hb3.block b hI2.lt).trans hI2
  have res3 : Hid (W3.heap[w.heap.size]? = some (.cells zhc 46 (0, 0))) := Lib.hid ((hb3.block _ (Array.getElem?_eq_some_iff.1 res2.out).1).trans res2.out)
  have B3 : Hid (Below w.heap.size w W3) := Lib.hid (B2.out.trans (hb3.mono B2.out.size))
  have R3 : Hid (Rw encN 43 W3 q c H.ps) := Lib.hid (hR.old hb3)
  have F3 : Hid (∀ a, q = some a → w.heap.size < a.block) := Lib.hid (fun a e => by have := hfr a e; omega)
  have g3 : w.heap.size < w2.heap.size := (Array.getElem?_eq_some_iff.1 res2.out).1
  have HW3 := Lib.hid hW3
  have HY := Lib.hid hY
  have Hlt := Lib.hid g3
  have hg5 := heap_alloc_new w2 (.cells #[.int .i64 0, .int .i64 0, .string ⟨#[]⟩, .int .i64 0, .int .u64 0, .slice none 0 0, .int .i64 0] 46)
  have qs : (#[.int .i64 0, .int .i64 0, .string ⟨#[]⟩, .int .i64 0, .int .u64 0, .slice none 0 0, .int .i64 0] : Array Value).size = Y.size := by rw [hYs]; rfl
  have q3 : (Tryd.prog.info? 46).map (·.size) = some Y.size := by rw [hYs]; exact hinfo
  have q4 := hY1.out
  have Hq := Lib.hid hYs
  clear hb hI hB1 hR hI2 hM hfr hB1s hbz hW3 hY hb3 g3 hYs res2 B2 HW0 hck htk hl
  go_wp2_with (refine wpList_store_row rfl rfl 46 (.tmp 5) (.tmp 10) rfl w2.heap.size rfl 46 _ Y rfl hg5 qs q3 q4 ?_)
  rw [← HW3.out]
  refine (hend.out b W3 I3).mono ?_
  rintro r w4 ⟨rfl, rfl⟩
  clear I3 hg5 qs q4
  have z7 : zhc.size = 7 := rfl
  by_cases hz : E0 = 0
  · have zE0 := Lib.hid hz
    have t14 : (E0 == 0) = true := by simp [hz]
    subst hz
    clear t14
    have lbox := box3.out
    go_wp2_with (first | (refine wpList_load_row rfl 46 (.tmp 5) rfl w2.heap.size rfl 46 Y (0, 0) _ lbox Tryd.underlying46 rfl q3 ?_) | fail)
    refine (hck1.out W3 R3.out.rd).mono ?_
    rintro r w5 ⟨rfl, hb5⟩
    have res5 := (hb5.block _ (Array.getElem?_eq_some_iff.1 res3.out).1).trans res3.out
    have box5 := (hb5.block _ (Array.getElem?_eq_some_iff.1 box3.out).1).trans box3.out
    have B5 := Lib.hid (B3.out.trans (hb5.mono B3.out.size))
    have R5 := Lib.hid (R3.out.old hb5)
    have q4 := hY1.out
    have q2 : zhc.size = Y.size := by rw [Hq.out]; rfl
    clear hb5 lbox
    by_cases hz1 : E1 = 0
    · have zz := Lib.hid hz1
      subst hz1
      have L0 := Lib.hid (setRow_heap w5 w.heap.size zhc Y 46 (0, 0) res5)
      have LB := Lib.hid (B5.out.trans (((Mod.refl (fun _ => False) w5).setRow (g := w.heap.size) Y).to_below (B5.out.size) (by rintro k hk (h | h) <;> first | exact h | omega)))
      have LR := Lib.hid (R5.out.kept ((Mod.refl (fun _ => False) w5).setRow (g := w.heap.size) Y) (fun a e h => by
        have := F3.out a e
        rcases h with h | h
        · exact h
        · omega))
      go_wp2_with (first | (refine wpList_load_row rfl 46 (.tmp 5) rfl w2.heap.size rfl 46 Y (0, 0) _ box5 Tryd.underlying46 rfl q3 ?_) | (refine wpList_store_row rfl rfl 46 (.tmp 2) (.tmp 21) rfl w.heap.size rfl 46 zhc Y rfl res5 q2 q3 q4 ?_))
      have e1 : EE = 0 := by rw [HEE.out]; simp
      have e2 : HH = H := by rw [HHH.out, if_pos e1]
      exact bodyPost_ret (v := .tuple #[.agg Y, .int .i64 0]) (results_row2 Tryd.results20 _ _ w.heap.size 46 Y (0, 0) _ _ rfl rfl L0.out Tryd.underlying46 rfl q3) rfl ⟨q, c, by rw [e2, e1, HY.out], by rw [e2]; exact LR.out, LB.out, fun a e => Nat.le_of_lt (F3.out a e)⟩
    · have t18 : (E1 == 0) = false := by simp [hz1]
      have t19 : (E1 != 0) = true := by simp [hz1]
      have L0 := Lib.hid (setRow_heap w5 w.heap.size zhc #[.int .i64 0, .int .i64 0, .string ⟨#[]⟩, .int .i64 0, .int .u64 0, .slice none 0 0, .int .i64 0] 46 (0, 0) res5)
      have LB := Lib.hid (B5.out.trans (((Mod.refl (fun _ => False) w5).setRow (g := w.heap.size) #[.int .i64 0, .int .i64 0, .string ⟨#[]⟩, .int .i64 0, .int .u64 0, .slice none 0 0, .int .i64 0]).to_below (B5.out.size) (by rintro k hk (h | h) <;> first | exact h | omega)))
      have Hz := Lib.hid hz1
      clear hz1 q4
      go_wp2_with (first | (refine wpList_store_row rfl rfl 46 (.tmp 2) (.tmp 19) rfl w.heap.size rfl 46 zhc #[.int .i64 0, .int .i64 0, .string ⟨#[]⟩, .int .i64 0, .int .u64 0, .slice none 0 0, .int .i64 0] rfl res5 rfl hinfo (hcells_one zhd none 0) ?_) | fail)
      have e1 : EE = E1 := by rw [HEE.out]; simp
      have e2 : HH = zhd := by rw [HHH.out, if_neg (by rw [e1]; exact Hz.out)]
      exact bodyPost_ret (v := .tuple #[.agg zhc, .int .i64 E1]) (results_row2 Tryd.results20 _ _ w.heap.size 46 _ (0, 0) _ _ rfl rfl L0.out Tryd.underlying46 rfl hinfo) rfl ⟨none, 0, by rw [e2, e1, zhc_cells], by rw [e2]; exact Rw.empty _ _, LB.out, fun a e => by cases e⟩
  · have t14 : (E0 == 0) = false := by simp [hz]
    have t19 : (E0 != 0) = true := by simp [hz]
    have res5 := res3.out
    have L0 := Lib.hid (setRow_heap W3 w.heap.size zhc #[.int .i64 0, .int .i64 0, .string ⟨#[]⟩, .int .i64 0, .int .u64 0, .slice none 0 0, .int .i64 0] 46 (0, 0) res5)
    have LB := Lib.hid (B3.out.trans (((Mod.refl (fun _ => False) W3).setRow (g := w.heap.size) #[.int .i64 0, .int .i64 0, .string ⟨#[]⟩, .int .i64 0, .int .u64 0, .slice none 0 0, .int .i64 0]).to_below (B3.out.size) (by rintro k hk (h | h) <;> first | exact h | omega)))
    have Hz := Lib.hid hz
    clear hz
    go_wp2_with (first | (refine wpList_store_row rfl rfl 46 (.tmp 2) (.tmp 19) rfl w.heap.size rfl 46 zhc #[.int .i64 0, .int .i64 0, .string ⟨#[]⟩, .int .i64 0, .int .u64 0, .slice none 0 0, .int .i64 0] rfl res5 rfl hinfo (hcells_one zhd none 0) ?_) | fail)
    have e1 : EE = E0 := by rw [HEE.out, if_neg Hz.out]
    have e2 : HH = zhd := by rw [HHH.out, if_neg (by rw [e1]; exact Hz.out)]
    exact bodyPost_ret (v := .tuple #[.agg zhc, .int .i64 E0]) (results_row2 Tryd.results20 _ _ w.heap.size 46 _ (0, 0) _ _ rfl rfl L0.out Tryd.underlying46 rfl hinfo) rfl ⟨none, 0, by rw [e2, e1, zhc_cells], by rw [e2]; exact Rw.empty _ _, LB.out, fun a e => by cases e⟩
end Go.Proofs.YtlhndibfdccohaaDoor

namespace Go.Proofs.YtlhndibfdccohaaDoor
open Go.RowKit

theorem numS_back (x most : Int) (h0 : 0 ≤ x) (hx : x ≤ most) (hm : most ≤ 9223372036854775807) (r : List UInt8) : numS (numL x ++ r) 0 most = (x, r, 0) := by
  obtain ⟨n, rfl⟩ : ∃ n : Nat, x = n := ⟨x.toNat, by omega⟩
  have h := headL_num n (by omega) r
  unfold numS
  rw [h]
  simp only [ne_eq, not_true_eq_false, if_false, List.drop_left]
  rw [if_neg (by omega)]
theorem textS_back (s r : List UInt8) (most : Int) (hm : most ≤ 9223372036854775807) (h : (s.length : Int) ≤ most) : textS (numL s.length ++ (s ++ r)) 0 most = (s, r, 0) := by
  unfold textS
  rw [numS_back _ _ (by omega) (by omega) (by omega)]
  simp only [rawS]
  rw [if_neg (by simp; omega)]
  simp
theorem rawS_back (s r : List UInt8) (n : Int) (h : (s.length : Int) = n) : rawS (s ++ r) 0 n = (s, r, 0) := by
  unfold rawS
  rw [if_neg (by simp; omega), ← h]
  simp
theorem parS_back (L : List Nm) (r : List UInt8) : ∀ k, k ≤ L.length → parS k ((L.map (·.1)).flatten ++ r) 0 = (L.take k, ((L.drop k).map (·.1)).flatten ++ r, 0)
  | 0, _ => by simp [parS]
  | k + 1, h => by
    have ih := parS_back L r k (by omega)
    have hk : k < L.length := by omega
    have e : ((L.drop k).map (·.1)).flatten ++ r = L[k].1 ++ (((L.drop (k + 1)).map (·.1)).flatten ++ r) := by
      rw [List.drop_eq_getElem_cons hk, List.map_cons, List.flatten_cons, List.append_assoc]
    have hr : rawS (((L.drop k).map (·.1)).flatten ++ r) 0 32 = (L[k].1, ((L.drop (k + 1)).map (·.1)).flatten ++ r, 0) := by rw [e, rawS_back _ _ 32 (by rw [L[k].2]; rfl)]
    simp only [parS, ih]
    have e1 : (⟨idL (rawS (((L.drop k).map (·.1)).flatten ++ r) 0 32).1, idL_len _⟩ : Nm) = L[k] := Subtype.ext (by
      show idL (rawS (((L.drop k).map (·.1)).flatten ++ r) 0 32).1 = L[k].1
      rw [hr]; exact idL_self _ L[k].2)
    rw [e1, hr, List.take_succ_eq_append_getElem hk]
/-- A header that may be. -/
def HOkay {α : Type} (h : Hd α) : Prop := (1 ≤ h.ht ∧ h.ht ≤ 1073741824) ∧ (0 ≤ h.mi ∧ h.mi < 64) ∧ (1 ≤ h.tk.length ∧ h.tk.length ≤ 8) ∧ (1 ≤ h.wi ∧ h.wi ≤ 15) ∧ (2 ≤ h.pw ∧ h.pw ≤ 4611686018427387904) ∧ (1 ≤ h.ps.length ∧ h.ps.length ≤ 5) ∧ (0 ≤ h.sa ∧ h.sa ≤ 1073741824)
theorem chk_zero {α : Type} (h : Hd α) (R : Bool) : chk h R = 0 ↔ HOkay h ∧ R = true := by
  unfold chk HOkay
  by_cases h5 : 5 < h.ps.length
  · rw [if_pos h5]
    constructor
    · intro h; cases h
    · rintro ⟨⟨_, _, _, _, _, h6, _⟩, _⟩; omega
  · rw [if_neg h5]
    split
    · rename_i hc
      constructor
      · intro h; cases h
      · rintro ⟨⟨h1, h2, h3, h4, h5, h6, h7⟩, rfl⟩
        rcases hc with hc | hc | hc | hc | hc | hc | hc
        · omega
        · omega
        · omega
        · omega
        · omega
        · rcases hc with hc | hc
          · omega
          · cases hc
        · omega
    · rename_i hc
      constructor
      · intro _
        simp only [not_or] at hc
        obtain ⟨h1, h2, h3, h4, h5, h6, h7⟩ := hc
        refine ⟨⟨by omega, by omega, by omega, by omega, by omega, by omega, by omega⟩, ?_⟩
        cases R with
        | true => rfl
        | false => exact absurd rfl h6.2
      · intro _; rfl
theorem takeS_back (h : Hd Nm) (ok : HOkay h) : takeS (hbytes (·.1) h) = (h, [], 0) := by
  obtain ⟨ht, mi, tk, wi, pw, ps, sa⟩ := h
  obtain ⟨h1, h2, h3, h4, h5, h6, h7⟩ := ok
  simp only at h1 h2 h3 h4 h5 h6 h7
  have hp : pwN pw = (pw : Int) := by unfold pwN; rw [if_neg (by omega)]
  unfold hbytes hhead
  simp only [hp, List.append_assoc]
  unfold takeS
  rw [numS_back ht _ (by omega) (by omega) (by omega)]
  simp only
  rw [numS_back mi _ (by omega) (by omega) (by omega)]
  simp only
  rw [textS_back tk _ 8 (by omega) (by omega)]
  simp only
  rw [numS_back wi _ (by omega) (by omega) (by omega)]
  simp only
  rw [numS_back (pw : Int) _ (by omega) (by omega) (by omega)]
  simp only
  rw [numS_back (ps.length : Int) 5 (by omega) (by omega) (by omega)]
  simp only [Int.toNat_natCast]
  rw [parS_back ps _ ps.length (Nat.le_refl _)]
  simp only [List.take_length, List.drop_length, List.map_nil, List.flatten_nil, List.nil_append]
  have := numS_back sa 4611686018427387904 (by omega) (by omega) (by omega) []
  rw [List.append_nil] at this
  rw [this]
theorem hpar_back (h : Hd Nm) (ok : HOkay h) (hr : hrs h = true) : (takeS (hbytes (·.1) h)).1 = h ∧ hparE (hbytes (·.1) h) = 0 := by
  unfold hparE
  rw [takeS_back h ok]
  exact ⟨rfl, (chk_zero h _).2 ⟨ok, hr⟩⟩
theorem HOk.of {h : Hd Nm} (ok : HOkay h) : HOk h := by
  obtain ⟨h1, h2, h3, h4, h5, h6, h7⟩ := ok
  exact ⟨by omega, by omega, by omega, by omega, by omega, by omega, by omega⟩

/-- The first header. -/
def ghd : Hd Nm := ⟨0, 0, [], 0, 2, [], 0⟩
theorem ghd_ok : HOk ghd := ⟨by decide, by decide, by decide, by decide, by decide, by decide, by decide⟩
set_option maxRecDepth 20000 in
set_option maxHeartbeats 1000000 in
theorem genesis_any (w : World) : Calls Tryd.prog 56 #[] w fun r w' => r = .returned (.agg (hcells ghd none 0)) ∧ Below w.heap.size w w' := by
  have hg := heap_alloc_new w (.cells #[.int .i64 0, .int .i64 0, .string ⟨#[]⟩, .int .i64 0, .int .u64 0, .slice none 0 0, .int .i64 0] 46)
  have L0 := Lib.hid (setRow_heap _ w.heap.size _ #[.int .i64 0, .int .i64 0, .string ⟨#[]⟩, .int .i64 0, .int .u64 2, .slice none 0 0, .int .i64 0] 46 (0, 0) hg)
  go_enter Tryd.func56, Tryd.ntmps56
  go_wp2_with (refine wpList_store_row rfl rfl 46 (.tmp 0) (.tmp 1) rfl w.heap.size rfl 46 _ #[.int .i64 0, .int .i64 0, .string ⟨#[]⟩, .int .i64 0, .int .u64 2, .slice none 0 0, .int .i64 0] rfl hg rfl hinfo (hcells_one ghd none 0) ?_)
  exact bodyPost_ret (v := .agg (hcells ghd none 0)) (results_cell_row Tryd.results56 _ _ w.heap.size 46 _ (0, 0) _ rfl L0.out Tryd.underlying46 rfl hinfo) rfl ⟨rfl, stored_below⟩

/-- The first header's name. -/
def rootB : List UInt8 := shaB (hbytes (·.1) ghd)
theorem rootB_len : rootB.length = 32 := shaB_len _
set_option maxRecDepth 20000 in
set_option maxHeartbeats 1000000 in
theorem root_any (w : World) (hT : TabAt w) : Calls Tryd.prog 30 #[] w fun r w' => r = .returned (.agg (vals rootB).toArray) ∧ Below w.heap.size w w' := by
  have hz := zid_run
  have hZl := rootB_len
  have q2 := zid_len.trans (id_size hZl).symm
  have q3 := id_info hZl
  have q4 := id_one rootB
  have hid := Lib.hid (fun w (hT : TabAt w) => hid_any ghd none 0 w (Rd.nil _ _) ghd_ok hT)
  have hgen := Lib.hid genesis_any
  unfold ghd at hid hgen
  unfold hcells at hid hgen
  rw [show shaB (hbytes (·.1) (⟨0, 0, [], 0, 2, [], 0⟩ : Hd Nm)) = rootB from rfl] at hid
  generalize (vals zid).toArray = ZA at hz q2
  obtain ⟨Y, hY⟩ : ∃ Y, Y = (vals rootB).toArray := ⟨_, rfl⟩
  rw [← hY] at q2 q3 q4 hid ⊢
  clear hY hZl
  obtain ⟨W0, hW0⟩ : ∃ W0, W0 = w.alloc (.cells ZA 43) := ⟨_, rfl⟩
  have hb0 : Hid (Below w.heap.size w W0) := Lib.hid (by rw [hW0]; exact (Below.refl _ w).alloc (Nat.le_refl _) _)
  have hres : Hid (W0.heap[w.heap.size]? = some (.cells ZA 43 (0, 0))) := Lib.hid (by rw [hW0]; exact heap_alloc_new w _)
  have HT := Lib.hid hT
  have HW0 := Lib.hid hW0
  clear hW0 hT
  go_enter Tryd.func30, Tryd.ntmps30
  go_wp2_with fail
  rw [← HW0.out]
  refine (hgen.out W0).mono ?_
  rintro r w1 ⟨rfl, hb1⟩
  have B1 := Lib.hid (hb0.out.trans (hb1.mono hb0.out.size))
  have res1 := Lib.hid ((hb1.block _ (Array.getElem?_eq_some_iff.1 hres.out).1).trans hres.out)
  clear hb1
  go_wp2_with fail
  refine (hid.out w1 (HT.out.old B1.out)).mono ?_
  rintro r w2 ⟨rfl, hb2⟩
  have res2 := (hb2.block _ (Array.getElem?_eq_some_iff.1 res1.out).1).trans res1.out
  have B2 := B1.out.trans (hb2.mono B1.out.size)
  have L0 := Lib.hid (setRow_heap w2 w.heap.size ZA Y 43 (0, 0) res2)
  have LB := Lib.hid (B2.trans (((Mod.refl (fun _ => False) w2).setRow (g := w.heap.size) Y).to_below B2.size (by rintro k hk (h | h) <;> first | exact h | omega)))
  clear hb2 B2
  go_wp2_with (refine wpList_store_row rfl rfl 43 (.tmp 0) (.tmp 2) rfl w.heap.size rfl 43 ZA Y rfl res2 q2 q3 q4 ?_)
  exact bodyPost_ret (v := .agg Y) (results_cell_row Tryd.results30 _ _ w.heap.size 43 Y (0, 0) _ rfl L0.out Tryd.underlying43 rfl q3) rfl ⟨rfl, LB.out⟩
end Go.Proofs.YtlhndibfdccohaaDoor

namespace Go.Proofs.YtlhndibfdccohaaDoor
open Go.RowKit

theorem exec_load_row {P : Program} {o : Oper} {a : Act} {w : World} (ty : TypeId) (x : Operand) (ho : o.op = .load ty x) (g : Nat) (hx : a.eval x = .pointer (some ⟨g, 0, none⟩)) (t : TypeId) (cs : Array Value) (fr : Nat × Nat) (d : TypeDesc) (hg : w.heap[g]? = some (.cells cs t fr))
    (hu : P.underlying ty = some d) (hd : (match d with | .struct _ | .array _ _ => true | _ => false) = true) (hi : (P.info? ty).map (·.size) = some cs.size) : (execOp a.eval o).run P w = .ok (.value (.agg cs)) w := by
  unfold execOp
  simp only [ho, hx, Instr.loadAt, Instr.sureAddr, Sem.run_bind, Sem.run_pure, Result.andThen_ok, run_loadVar_row w g t ty cs fr d hg hu hd hi]
theorem wpList_exec {P : Program} {ops : Array Oper} {rest : List Oper} {o : Oper} {a : Act} {w w' : World} {Q : Exit → Act → World → Prop} {v : Value} (hgd : o.guard = none) (hr : (execOp a.eval o).run P w = .ok (.value v) w') (h : wpList P ops Q rest (a.put o.dst v) w') : wpList P ops Q (o :: rest) a w := by
  refine wpList_plain hgd fun K hK => ?_
  unfold Oper.wp
  rw [hr]
  exact hK _ _ h
def oneHd : Hd Nm := ⟨1, 0, [116], 1, 2, [⟨rootB, rootB_len⟩], 0⟩
theorem oneHd_ok : HOkay oneHd := ⟨by decide, by decide, by decide, by decide, ⟨Nat.le_refl 2, Nat.le_of_ble_eq_true rfl⟩, by decide, by decide⟩
theorem oneHd_rs : hrs oneHd = true := rfl
theorem ghd_chk : chk ghd (rs (ghd.ps.map (·.1)) (ghd.ps.length - 1)) = 1 := by
  unfold chk ghd; simp
theorem oneHd_chk : chk oneHd (rs (oneHd.ps.map (·.1)) (oneHd.ps.length - 1)) = 0 := (chk_zero _ _).2 ⟨oneHd_ok, oneHd_rs⟩
theorem enc_one (s : Nm) : encN.all [s] = vals s.1 := by simp [Enc.all, encN]

end Go.Proofs.YtlhndibfdccohaaDoor

namespace Go.Proofs.YtlhndibfdccohaaDoor
open Go.RowKit

theorem less_cmp : ∀ a b : List UInt8, Op.bytesLess a b = decide (Lib.compareBytes a b < 0)
  | [], [] => rfl
  | [], _ :: _ => rfl
  | _ :: _, [] => rfl
  | a :: x, b :: y => by
    have ih := less_cmp x y
    unfold Op.bytesLess Lib.compareBytes
    by_cases h1 : a < b
    · simp [h1]
    · by_cases h2 : b < a
      · have : ¬ a = b := by rintro rfl; exact absurd h2 h1
        simp [h1, h2, this]
      · have e : a = b := by
          rw [UInt8.lt_iff_toNat_lt] at h1 h2
          exact UInt8.toNat_inj.1 (by omega)
        subst e
        simp [h1, ih]
theorem binOp_geq_str (t : TypeId) (a b : ByteArray) : binOp .geq t (.string a) (.string b) = pure (.bool !(Op.bytesLess a.toList b.toList)) := by simp [binOp, Op.stringOp]

end Go.Proofs.YtlhndibfdccohaaDoor

namespace Go.Proofs.YtlhndibfdccohaaDoor
open Go.RowKit

end Go.Proofs.YtlhndibfdccohaaDoor

namespace Go.Proofs.YtlhndibfdccohaaDoor
open Go.RowKit

def nmOf (s : List UInt8) : Nm := ⟨idL s, idL_len s⟩
def ownH (h : Hd (List UInt8)) : Hd Nm := ⟨h.ht, h.mi, h.tk, h.wi, h.pw, h.ps.map nmOf, h.sa⟩
/-- A header at g, a place for a result at r. -/
structure HvSt (W : World) (r g : Nat) (T : TypeId) (C : Array Value) (w : World) : Prop where
  box : w.heap[g]? = some (.cells C T (0, 0))
  m : Below W.heap.size W w
  lo : W.heap.size ≤ r
  lo2 : W.heap.size ≤ g
  ne : r ≠ g
  res : ∃ Z : Array Value, Z.size = 7 ∧ w.heap[r]? = some (.cells Z T (0, 0))
theorem HvSt.put {W w : World} {r g : Nat} {T : TypeId} {C : Array Value} (h : HvSt W r g T C w) (k : Nat) (v : Value) : HvSt W r g T (C.setIfInBounds k v) (w.setCell ⟨g, k, none⟩ v) := by
  have h1 := h.lo
  have h3 := h.lo2
  have h2 := h.ne
  obtain ⟨Z, hz, hZ⟩ := h.res
  refine ⟨heap_setCell_same w g k C T v h.box, ?_, h1, h3, h2, Z, hz, ?_⟩
  · exact h.m.trans (((Mod.refl (· = g) w).setCell (p := ⟨g, k, none⟩) (fun _ => rfl) v).to_below h.m.size (by intro i hi e; omega))
  · rw [Below.heap_setCell _ _ _ _ (by simp only; omega)]; exact hZ
theorem HvSt.cell {W w : World} {r g : Nat} {T : TypeId} {C : Array Value} (h : HvSt W r g T C w) (k : Nat) : w.cell? ⟨g, k, none⟩ = C[k]? := cell_of_row w g k C T (0, 0) h.box
theorem HvSt.froz {W w : World} {r g : Nat} {T : TypeId} {C : Array Value} (h : HvSt W r g T C w) (k : Nat) : w.frozen? ⟨g, k, none⟩ = false := frozen_of_row w g k C T h.box
theorem HvSt.lt {W w : World} {r g : Nat} {T : TypeId} {C : Array Value} (h : HvSt W r g T C w) : g < w.heap.size := (Array.getElem?_eq_some_iff.1 h.box).1
/-- Of what is old only rows above g turn. -/
theorem HvSt.kept {W w w' : World} {r g : Nat} {T : TypeId} {C : Array Value} {S : Nat → Prop} (h : HvSt W r g T C w) (hm : Mod S w w') (hS : ∀ i, S i → g < i ∧ r < i) : HvSt W r g T C w' := by
  obtain ⟨Z, hz, hZ⟩ := h.res
  have h1 := h.lo
  have h3 := h.lo2
  have h2 := h.ne
  exact ⟨(hm.block g h.lt (fun e => by have := hS g e; omega)).trans h.box, h.m.trans (hm.to_below h.m.size (fun i hi e => by have := hS i e; omega)), h1, h3, h2, Z, hz, (hm.block r (Array.getElem?_eq_some_iff.1 hZ).1 (fun e => by have := hS r e; omega)).trans hZ⟩
theorem HvSt.grow {W w w' : World} {r g : Nat} {T : TypeId} {C : Array Value} (h : HvSt W r g T C w) (hb : Below w.heap.size w w') : HvSt W r g T C w' := h.kept (Mod.of_below hb) (fun i hi => ⟨Nat.lt_of_lt_of_le h.lt hi, by obtain ⟨Z, _, hZ⟩ := h.res; exact Nat.lt_of_lt_of_le (Array.getElem?_eq_some_iff.1 hZ).1 hi⟩)

set_option maxRecDepth 20000 in
set_option maxHeartbeats 4000000 in
theorem own_any (h : Hd (List UInt8)) (ao : Option Addr) (cap : Nat) (w : World) (hL : Rd encS w ao h.ps) (hn : h.ps.length ≤ 1000000) :
    Calls Tryd.prog 21 #[.agg (hcells h ao cap)] w fun r w' => ∃ q c, r = .returned (.agg (hcells (ownH h) q c)) ∧ Rw encN 43 w' q c (ownH h).ps ∧ Below w.heap.size w w' ∧ ∀ a, q = some a → w.heap.size ≤ a.block := by
  obtain ⟨ht, mi, tk, wi, pw, ps, sa⟩ := h
  unfold ownH
  unfold hcells
  simp only at hL hn ⊢
  rw [List.length_map]
  obtain ⟨n, hnp⟩ : ∃ n, n = ps.length := ⟨_, rfl⟩
  rw [← hnp] at hn ⊢
  have HL := Lib.hid hL
  obtain ⟨W0, hW0⟩ : ∃ W0, W0 = (w.alloc (.cells #[.int .i64 ht, .int .i64 mi, .string ⟨tk.toArray⟩, .int .i64 wi, .int .u64 (pw : Int), .slice ao n cap, .int .i64 sa] 34)).alloc (.cells #[.int .i64 0, .int .i64 0, .string ⟨#[]⟩, .int .i64 0, .int .u64 0, .slice none 0 0, .int .i64 0] 46) := ⟨_, rfl⟩
  have s0 : W0.heap.size = w.heap.size + 2 := by rw [hW0]; simp
  have b0 : Below w.heap.size w W0 := by rw [hW0]; exact ((Below.refl _ w).alloc (Nat.le_refl _) _).alloc (by simp) _
  have bx0 : W0.heap[w.heap.size]? = some (.cells #[.int .i64 ht, .int .i64 mi, .string ⟨tk.toArray⟩, .int .i64 wi, .int .u64 (pw : Int), .slice ao n cap, .int .i64 sa] 34 (0, 0)) := by rw [hW0, Below.heap_alloc _ _ _ (by simp)]; exact heap_alloc_new w _
  have rs0 : W0.heap[w.heap.size + 1]? = some (.cells #[.int .i64 0, .int .i64 0, .string ⟨#[]⟩, .int .i64 0, .int .u64 0, .slice none 0 0, .int .i64 0] 46 (0, 0)) := by rw [hW0]; have := heap_alloc_new (w.alloc (.cells #[.int .i64 ht, .int .i64 mi, .string ⟨tk.toArray⟩, .int .i64 wi, .int .u64 (pw : Int), .slice ao n cap, .int .i64 sa] 34)) (.cells #[.int .i64 0, .int .i64 0, .string ⟨#[]⟩, .int .i64 0, .int .u64 0, .slice none 0 0, .int .i64 0] 46); simpa using this
  obtain ⟨W3, hW3⟩ : ∃ W3, W3 = W0.alloc (.cells #[.int .i64 ht, .int .i64 mi, .string ⟨tk.toArray⟩, .int .i64 wi, .int .u64 (pw : Int), .slice none 0 0, .int .i64 sa] 46) := ⟨_, rfl⟩
  have b3 : Below W0.heap.size W0 W3 := by rw [hW3]; exact (Below.refl _ _).alloc (Nat.le_refl _) _
  obtain ⟨g, hg⟩ : ∃ g, g = w.heap.size + 1 + 1 := ⟨_, rfl⟩
  have st : HvSt w (w.heap.size + 1) g 46 #[.int .i64 ht, .int .i64 mi, .string ⟨tk.toArray⟩, .int .i64 wi, .int .u64 (pw : Int), .slice none 0 0, .int .i64 sa] W3 := by
    refine ⟨?_, b0.trans (b3.mono b0.size), by omega, by omega, by omega, #[.int .i64 0, .int .i64 0, .string ⟨#[]⟩, .int .i64 0, .int .u64 0, .slice none 0 0, .int .i64 0], rfl, (b3.block _ (by omega)).trans rs0⟩
    rw [hg, hW3, show w.heap.size + 1 + 1 = W0.heap.size by omega]; exact heap_alloc_new W0 _
  rw [hW0] at hW3
  have ST := Lib.hid st
  have HW3 := Lib.hid hW3
  have Hg := Lib.hid hg
  have Hnp := Lib.hid hnp
  clear hL hnp hW0 s0 b0 bx0 rs0 hW3 b3 hg st
  go_enter Tryd.func21, Tryd.ntmps21
  go_wp2_with fail
  rw [← HW3.out, ← Hg.out]
  go_loopw [22] (fun s22 wr => ∃ k q c, k ≤ n ∧ s22 = .int .i64 (k : Int) ∧ Hid (HvSt w (w.heap.size + 1) g 46 #[.int .i64 ht, .int .i64 mi, .string ⟨tk.toArray⟩, .int .i64 wi, .int .u64 (pw : Int), .slice q k c, .int .i64 sa] wr ∧ Rw encN 43 wr q c ((ps.map nmOf).take k) ∧ ∀ a, q = some a → g < a.block)) (fun i _ => n - (intOf i).toNat)
  case atStart => exact ⟨0, none, 0, Nat.zero_le _, rfl, Lib.hid ⟨ST.out, Rw.empty _ _, fun a e => by cases e⟩⟩
  case round =>
    clear ST
    obtain ⟨k, q, c, hk, rfl, hst⟩ := hrel
    by_cases hlt : k < n
    · obtain ⟨st0, rw0, fr0⟩ := hst.out
      clear hst
      have hkp : k < ps.length := by rw [← Hnp.out]; exact hlt
      obtain ⟨bs, off, rfl, hbs, cx⟩ := (HL.out.old st0.m).str k hkp
      have hnx : (ps.map nmOf).take (k + 1) = (ps.map nmOf).take k ++ [nmOf ps[k]] := by rw [List.take_succ_eq_append_getElem (by simpa using hkp), List.getElem_map]
      have hDl : ((ps.map nmOf).take k).length = k := by rw [List.length_take, List.length_map]; omega
      obtain ⟨xx, hx⟩ : ∃ x, x = ps[k] := ⟨_, rfl⟩
      rw [← hx] at cx hnx
      obtain ⟨nm, hnm⟩ : ∃ nm : Nm, nm = nmOf xx := ⟨_, rfl⟩
      have hname : Hid (∀ w, Calls Tryd.prog 49 #[.string ⟨xx.toArray⟩] w fun r w' => r = .returned (.agg (vals nm.1).toArray) ∧ Below w.heap.size w w') := Lib.hid (fun w => by rw [hnm]; exact idof_any xx w)
      rw [← hnm] at hnx
      have Hnx := Lib.hid hnx
      clear hnm hnx hx
      generalize (ps.map nmOf).take k = D at rw0 hDl Hnx
      have HDl := Lib.hid hDl
      have Hst := Lib.hid st0
      have Hrw := Lib.hid rw0
      have Hfr := Lib.hid fr0
      have i0 : (0 : Int) ≤ k := by omega
      have i1 : (k : Int) < n := by omega
      clear hDl st0 rw0 fr0 hkp
      go_wp2_with fail
      clear cx
      have HG0 : Hid ((fun (j : Nat) (x : Value) (w1 : World) => (j ≤ 3 → HvSt w (w.heap.size + 1) g 46 #[.int .i64 ht, .int .i64 mi, .string ⟨tk.toArray⟩, .int .i64 wi, .int .u64 (pw : Int), .slice q k c, .int .i64 sa] w1) ∧ (j ≤ 2 → Rw encN 43 w1 q c D) ∧ (j = 2 → ∃ p, x = .slice (some ⟨p, 0, none⟩) 1 1 ∧ Rd encN w1 (some ⟨p, 0, none⟩) [nm]) ∧ (j = 3 → ∃ q' c', x = .slice q' (k + 1) c' ∧ Rw encN 43 w1 q' c' (D ++ [nm]) ∧ ∀ a, q' = some a → g < a.block) ∧ (j = 4 → ∃ q' c', HvSt w (w.heap.size + 1) g 46 #[.int .i64 ht, .int .i64 mi, .string ⟨tk.toArray⟩, .int .i64 wi, .int .u64 (pw : Int), .slice q' (k + 1) c', .int .i64 sa] w1 ∧ Rw encN 43 w1 q' c' (D ++ [nm]) ∧ ∀ a, q' = some a → g < a.block)) 0 undef wr.drew) := Lib.hid ⟨fun _ => Hst.out.grow ((Below.refl _ _).drew), fun _ => Hrw.out.old ((Below.refl _ _).drew), (fun h => absurd h (by omega)), (fun h => absurd h (by omega)), (fun h => absurd h (by omega))⟩
      clear Hst Hrw
      refine wp_region_chain (fun t v => match t with
        | 26 => v = .pointer (some ⟨g, 5, none⟩)
        | 27 => v = .slice q k c
        | 28 => v = .string ⟨xx.toArray⟩
        | 29 => v = .agg (vals nm.1).toArray
        | 32 => v = .pointer (some ⟨g, 5, none⟩)
        | _ => True) (fun (j : Nat) (x : Value) (w1 : World) => (j ≤ 3 → HvSt w (w.heap.size + 1) g 46 #[.int .i64 ht, .int .i64 mi, .string ⟨tk.toArray⟩, .int .i64 wi, .int .u64 (pw : Int), .slice q k c, .int .i64 sa] w1) ∧ (j ≤ 2 → Rw encN 43 w1 q c D) ∧ (j = 2 → ∃ p, x = .slice (some ⟨p, 0, none⟩) 1 1 ∧ Rd encN w1 (some ⟨p, 0, none⟩) [nm]) ∧ (j = 3 → ∃ q' c', x = .slice q' (k + 1) c' ∧ Rw encN 43 w1 q' c' (D ++ [nm]) ∧ ∀ a, q' = some a → g < a.block) ∧ (j = 4 → ∃ q' c', HvSt w (w.heap.size + 1) g 46 #[.int .i64 ht, .int .i64 mi, .string ⟨tk.toArray⟩, .int .i64 wi, .int .u64 (pw : Int), .slice q' (k + 1) c', .int .i64 sa] w1 ∧ Rw encN 43 w1 q' c' (D ++ [nm]) ∧ ∀ a, q' = some a → g < a.block)) [3, 4, 5, 7] 35 (by kernel_rfl) (by decide +kernel) rfl (by decide +kernel) (by decide) (by decide) HG0.out (by
        refine OweAllC.cons (owesC_val 2 (by decide +kernel) (by decide) rfl rfl fun k' a w1 x hk ha hG hV => ?_) ?_
        · skip
          have h3 := ha.outer 3 (by decide +kernel)
          simp only [Act.eval] at h3
          exact ⟨.pointer (some ⟨g, 5, none⟩), wanted_free rfl, by simp [execOp, go_sem, h3], rfl⟩
        refine OweAllC.cons (owesC_val 2 (by decide +kernel) (by decide) rfl rfl fun k' a w1 x hk ha hG hV => ?_) ?_
        · skip
          have h26 : a.tmps.getD 26 undef = .pointer (some ⟨g, 5, none⟩) := hV.get 26 (by decide +kernel)
          have cc : w1.cell? ⟨g, 5, none⟩ = some (.slice q k c) := (hG.1 (by omega)).cell 5
          exact ⟨.slice q k c, wanted_free rfl, by simp [execOp, go_sem, h26, cc], rfl⟩
        refine OweAllC.cons (owesC_val 0 (by decide +kernel) (by decide) rfl rfl fun k' a w1 x hk ha hG hV => ?_) ?_
        · skip
          have h5 := ha.outer 5 (by decide +kernel)
          simp only [Act.eval] at h5
          exact ⟨.string ⟨xx.toArray⟩, wanted_free rfl, by simp [execOp, go_sem, h5], rfl⟩
        refine OweAllC.cons (owesC_call 0 rfl rfl rfl 49 fun a w1 x ha hG hx hV => ?_) ?_
        · skip
          have h28 : a.tmps.getD 28 undef = .string ⟨xx.toArray⟩ := hV.get 28 (by decide +kernel)
          refine ⟨#[.string ⟨xx.toArray⟩], wanted_free rfl, by simp [execOp, resolve, invoke, go_sem, h28], ?_⟩
          have st1 := hG.1 (by omega)
          have r1 := hG.2.1 (by omega)
          refine (hname.out w1).mono ?_
          rintro r u2 ⟨rfl, hb⟩
          exact ⟨_, rfl, rfl, (fun _ => st1.grow hb), (fun _ => r1.old hb), (fun h => absurd h (by omega)), (fun h => absurd h (by omega)), (fun h => absurd h (by omega))⟩
        refine OweAllC.cons (owesC_mem 1 rfl rfl rfl fun a w1 x ha hG hx hV => ?_) ?_
        · skip
          have h29 : a.tmps.getD 29 undef = .agg (vals nm.1).toArray := hV.get 29 (by decide +kernel)
          have g29 : a.tmps[29]?.getD undef = .agg (vals nm.1).toArray := by simpa using h29
          have st1 := hG.1 (by omega)
          have r1 := hG.2.1 (by omega)
          have hb : Below w1.heap.size w1 (w1.alloc (.cells (vals nm.1).toArray 43)) := (Below.refl _ _).alloc (Nat.le_refl _) _
          have hr : Rd encN (w1.alloc (.cells (vals nm.1).toArray 43)) (some ⟨w1.heap.size, 0, none⟩) [nm] := by have := Rd.made encN w1 43 [nm] (by simp [maxLen]); rw [enc_one] at this; exact this
          exact ⟨_, _, wanted_free rfl, build_name (.tmp 29) rfl nm.1 nm.2 h29, trivial, (fun _ => st1.grow hb), (fun _ => r1.old hb), (fun _ => ⟨_, rfl, hr⟩), (fun h => absurd h (by omega)), (fun h => absurd h (by omega))⟩
        refine OweAllC.cons (owesC_law 2 rfl rfl fun a w1 x ha hG hx hV => ?_) ?_
        · skip
          have h27 : a.tmps.getD 27 undef = .slice q k c := hV.get 27 (by decide +kernel)
          have h30 := hx 1 4 _ 30 rfl rfl rfl rfl
          have st1 := hG.1 (by omega)
          have r1 := hG.2.1 (by omega)
          obtain ⟨p, rfl, hr⟩ := hG.2.2.1 rfl
          refine ⟨wanted_free rfl, fun K hK => ?_⟩
          refine wp_pushR1 encN (.tmp 27) (.tmp 30) 44 43 _ 32 rfl Tryd.underlying44 info_id (id_size (s := zid) rfl) (by decide) q c k D HDl.out h27 r1 (some ⟨p, 0, none⟩) 1 nm h30 hr (by omega) ?_
          rintro q' c' w' ⟨hR, hM, hor⟩
          have hfr : ∀ a, q' = some a → g < a.block := by intro a e; rcases hor a e with h | h; exact Hfr.out a h; have := st1.lt; omega
          have st2 := st1.kept hM (by rintro i ⟨a, e, rfl⟩; have := Hfr.out a e; have := Hg.out; omega)
          exact hK _ _ (fun t ht => by cases ht; trivial) ⟨(fun _ => st2), (fun h => absurd h (by omega)), (fun h => absurd h (by omega)), (fun _ => ⟨q', c', rfl, hR, hfr⟩), (fun h => absurd h (by omega))⟩
        refine OweAllC.cons (owesC_val 3 (by decide +kernel) (by decide) rfl rfl fun k' a w1 x hk ha hG hV => ?_) ?_
        · skip
          have h3 := ha.outer 3 (by decide +kernel)
          simp only [Act.eval] at h3
          exact ⟨.pointer (some ⟨g, 5, none⟩), wanted_free rfl, by simp [execOp, go_sem, h3], rfl⟩
        refine OweAllC.cons (owesC_store 3 rfl rfl rfl fun a w1 x ha hG hx hV => ?_) ?_
        · skip
          have h32 : a.tmps.getD 32 undef = .pointer (some ⟨g, 5, none⟩) := hV.get 32 (by decide +kernel)
          have h31 := hx 2 5 _ 31 rfl rfl rfl rfl
          simp only [Act.eval] at h31
          have st1 := hG.1 (by omega)
          obtain ⟨q', c', rfl, hR, hfr⟩ := hG.2.2.2.1 rfl
          have cc : w1.cell? ⟨g, 5, none⟩ = some (.slice q k c) := st1.cell 5
          have cf := st1.froz 5
          have hR2 : Rw encN 43 (w1.setCell ⟨g, 5, none⟩ (.slice q' (k + 1) c')) q' c' (D ++ [nm]) := hR.kept ((Mod.refl (· = g) w1).setCell (p := ⟨g, 5, none⟩) (fun _ => rfl) _) (fun a e h => by have := hfr a e; omega)
          exact ⟨w1.setCell ⟨g, 5, none⟩ (.slice q' (k + 1) c'), wanted_free rfl, by simp [execOp, go_sem, h32, h31, cc, cf], (fun h => absurd h (by omega)), (fun h => absurd h (by omega)), (fun h => absurd h (by omega)), (fun h => absurd h (by omega)), (fun _ => ⟨q', c', st1.put 5 _, hR2, hfr⟩)⟩
        exact OweAllC.nil
        ) ?_
      intro f wz xz hG hx hv
      first | (rename_i hK; refine hK _ _ ?_; clear hK) | (rename_i hK _; refine hK _ _ ?_; clear hK) | (rename_i hK _ _; refine hK _ _ ?_; clear hK) | (rename_i hK _ _ _; refine hK _ _ ?_; clear hK)
      clear hv hx
      simp only [dsts, puts, List.filterMap_cons, List.filterMap_nil, List.foldl_cons, List.foldl_nil, Act.put, List.setIfInBounds_toArray, List.set_cons_succ, List.set_cons_zero]
      obtain ⟨q', c', st5, rw5, fr5⟩ : ∃ q' c', HvSt w (w.heap.size + 1) g 46 #[.int .i64 ht, .int .i64 mi, .string ⟨tk.toArray⟩, .int .i64 wi, .int .u64 (pw : Int), .slice q' (k + 1) c', .int .i64 sa] wz ∧ Rw encN 43 wz q' c' (D ++ [nm]) ∧ ∀ a, q' = some a → g < a.block := hG.2.2.2.2 rfl
      clear hG HG0
      have S5 : Hid (HvSt w (w.heap.size + 1) g 46 #[.int .i64 ht, .int .i64 mi, .string ⟨tk.toArray⟩, .int .i64 wi, .int .u64 (pw : Int), .slice q' (k + 1) c', .int .i64 sa] wz ∧ Rw encN 43 wz q' c' (D ++ [nm]) ∧ ∀ a, q' = some a → g < a.block) := Lib.hid ⟨st5, rw5, fr5⟩
      clear st5 rw5 fr5
      go_wp2_with fail
      go_roundw
      case rel => exact ⟨k + 1, q', c', by omega, by go_num, Lib.hid (by rw [Hnx.out]; exact S5.out)⟩
      case measure => simp [intOf]; omega
    · obtain rfl : k = n := by omega
      obtain ⟨st0, rw0, fr0⟩ := hst.out
      clear hst
      rw [List.take_of_length_le (by rw [List.length_map, ← Hnp.out]; exact Nat.le_refl _)] at rw0
      have box := st0.box
      obtain ⟨Z, hZs, hZ⟩ := st0.res
      obtain ⟨Y, hY⟩ : ∃ Y : Array Value, Y = #[.int .i64 ht, .int .i64 mi, .string ⟨tk.toArray⟩, .int .i64 wi, .int .u64 (pw : Int), .slice q k c, .int .i64 sa] := ⟨_, rfl⟩
      rw [← hY] at box
      have hYs : Y.size = 7 := by rw [hY]; rfl
      have q3 : (Tryd.prog.info? 46).map (·.size) = some Y.size := by rw [hYs]; exact hinfo
      have q2 : Z.size = Y.size := by rw [hZs, hYs]
      have q4 : ∀ v ∈ Y.toList, v.oneCell' = true := by
        rw [hY]; intro v hv
        simp only [List.mem_cons, List.not_mem_nil, or_false] at hv
        rcases hv with rfl | rfl | rfl | rfl | rfl | rfl | rfl <;> rfl
      have L0 := Lib.hid (setRow_heap wr (w.heap.size + 1) Z Y 46 (0, 0) hZ)
      have hlo := st0.lo
      have hne := st0.ne
      have LM : Hid (Below w.heap.size w (wr.setRow (w.heap.size + 1) Y)) := Lib.hid (st0.m.trans (((Mod.refl (fun _ => False) wr).setRow (g := w.heap.size + 1) Y).to_below st0.m.size (by rintro i hi (h | h) <;> first | exact h | omega)))
      have LR : Hid (Rw encN 43 (wr.setRow (w.heap.size + 1) Y) q c (ps.map nmOf)) := Lib.hid (rw0.kept ((Mod.refl (fun _ => False) wr).setRow (g := w.heap.size + 1) Y) (fun a e h => by have := fr0 a e; have := Hg.out; rcases h with h | h; exact h; omega))
      have Hfr := Lib.hid (fun a (e : q = some a) => by have := fr0 a e; have := Hg.out; (show w.heap.size ≤ a.block); omega)
      have HY := Lib.hid hY
      clear st0 hY rw0 fr0
      go_wp2_with (first | (refine wpList_load_row rfl 46 (.tmp 3) rfl g rfl 46 Y (0, 0) _ box Tryd.underlying46 rfl q3 ?_) | (refine wpList_store_row rfl rfl 46 (.tmp 2) (.tmp 34) rfl (w.heap.size + 1) rfl 46 Z Y rfl hZ q2 q3 q4 ?_))
      exact bodyPost_ret (v := .agg Y) (results_cell_row Tryd.results21 _ _ (w.heap.size + 1) 46 Y (0, 0) _ rfl L0.out Tryd.underlying46 rfl q3) rfl ⟨q, c, by rw [HY.out], LR.out, LM.out, Hfr.out⟩
end Go.Proofs.YtlhndibfdccohaaDoor

namespace Go.Proofs.YtlhndibfdccohaaDoor
open Go.RowKit

theorem rhinfo : (Tryd.prog.info? 34).map (·.size) = some 7 := by kernel_rfl
theorem info_strH : (Tryd.prog.info? 9).map (fun i => (i.zero, i.size, i.bytes)) = some (some (.string ⟨#[]⟩), 1, 16) := by kernel_rfl
def fewH (h : Hd (List UInt8)) : Hd (List UInt8) := ⟨h.ht, h.mi, h.tk.take 10, h.wi, h.pw, (h.ps.take 7).map idL, h.sa⟩

set_option maxRecDepth 20000 in
set_option maxHeartbeats 4000000 in
theorem few_any (h : Hd (List UInt8)) (ao : Option Addr) (cap : Nat) (w : World) (hL : Rd encS w ao h.ps) (hk : (h.tk.length : Int) ≤ 9223372036854775807) :
    Calls Tryd.prog 64 #[.agg (hcells h ao cap)] w fun r w' => ∃ q c, r = .returned (.agg (hcells (fewH h) q c)) ∧ Rw encS 9 w' q c (fewH h).ps ∧ Below w.heap.size w w' ∧ ∀ a, q = some a → w.heap.size ≤ a.block := by
  obtain ⟨ht, mi, tk, wi, pw, ps, sa⟩ := h
  unfold fewH
  unfold hcells
  simp only at hL hk ⊢
  obtain ⟨n, hnp⟩ : ∃ n, n = ps.length := ⟨_, rfl⟩
  rw [← hnp]
  have HL := Lib.hid hL
  obtain ⟨W0, hW0⟩ : ∃ W0, W0 = (w.alloc (.cells #[.int .i64 ht, .int .i64 mi, .string ⟨tk.toArray⟩, .int .i64 wi, .int .u64 (pw : Int), .slice ao n cap, .int .i64 sa] 34)).alloc (.cells #[.int .i64 0, .int .i64 0, .string ⟨#[]⟩, .int .i64 0, .int .u64 0, .slice none 0 0, .int .i64 0] 34) := ⟨_, rfl⟩
  have b0 : Below w.heap.size w W0 := by rw [hW0]; exact ((Below.refl _ w).alloc (Nat.le_refl _) _).alloc (by simp) _
  have bx0 : W0.heap[w.heap.size]? = some (.cells #[.int .i64 ht, .int .i64 mi, .string ⟨tk.toArray⟩, .int .i64 wi, .int .u64 (pw : Int), .slice ao n cap, .int .i64 sa] 34 (0, 0)) := by rw [hW0, Below.heap_alloc _ _ _ (by simp)]; exact heap_alloc_new w _
  have rs0 : W0.heap[w.heap.size + 1]? = some (.cells #[.int .i64 0, .int .i64 0, .string ⟨#[]⟩, .int .i64 0, .int .u64 0, .slice none 0 0, .int .i64 0] 34 (0, 0)) := by rw [hW0]; have := heap_alloc_new (w.alloc (.cells #[.int .i64 ht, .int .i64 mi, .string ⟨tk.toArray⟩, .int .i64 wi, .int .u64 (pw : Int), .slice ao n cap, .int .i64 sa] 34)) (.cells #[.int .i64 0, .int .i64 0, .string ⟨#[]⟩, .int .i64 0, .int .u64 0, .slice none 0 0, .int .i64 0] 34); simpa using this
  have st : HvSt w (w.heap.size + 1) w.heap.size 34 #[.int .i64 ht, .int .i64 mi, .string ⟨tk.toArray⟩, .int .i64 wi, .int .u64 (pw : Int), .slice ao n cap, .int .i64 sa] W0 := ⟨bx0, b0, by omega, by omega, by omega, #[.int .i64 0, .int .i64 0, .string ⟨#[]⟩, .int .i64 0, .int .u64 0, .slice none 0 0, .int .i64 0], rfl, rs0⟩
  have hcut : Hid (∀ w, Calls Tryd.prog 84 #[.string ⟨tk.toArray⟩, .int .i64 10] w fun r w' => r = .returned (.string ⟨(tk.take 10).toArray⟩) ∧ w = w') := Lib.hid (fun w => cut_any tk 10 w hk (by omega))
  obtain ⟨tk2, htk⟩ : ∃ t, t = tk.take 10 := ⟨_, rfl⟩
  obtain ⟨P7, hP7⟩ : ∃ P, P = (ps.take 7).map idL := ⟨_, rfl⟩
  rw [← htk] at hcut ⊢
  rw [← hP7]
  have HP7 := Lib.hid hP7
  clear hP7
  have HW0 := Lib.hid hW0
  have Hnp := Lib.hid hnp
  clear hL hnp hW0 b0 bx0 rs0 htk hk
  go_enter Tryd.func64, Tryd.ntmps64
  go_wp2_with fail
  rw [← HW0.out]
  refine (hcut.out W0).mono ?_
  rintro r w1 ⟨rfl, rfl⟩
  have c2 : W0.cell? ⟨w.heap.size, 2, none⟩ = some (.string ⟨tk.toArray⟩) := st.cell 2
  have f2 := st.froz 2
  have st2 : HvSt w (w.heap.size + 1) w.heap.size 34 #[.int .i64 ht, .int .i64 mi, .string ⟨tk2.toArray⟩, .int .i64 wi, .int .u64 (pw : Int), .slice ao n cap, .int .i64 sa] (W0.setCell ⟨w.heap.size, 2, none⟩ (.string ⟨tk2.toArray⟩)) := st.put 2 _
  have ST := Lib.hid st2
  clear st st2 hcut
  go_wp2_with fail
  clear c2 f2
  go_loopw [3, 4] (fun s3 s4 wr => ∃ k q c, k ≤ n ∧ k ≤ 7 ∧ s3 = .slice q k c ∧ s4 = .int .i64 (k : Int) ∧ Hid (HvSt w (w.heap.size + 1) w.heap.size 34 #[.int .i64 ht, .int .i64 mi, .string ⟨tk2.toArray⟩, .int .i64 wi, .int .u64 (pw : Int), .slice ao n cap, .int .i64 sa] wr ∧ Rw encS 9 wr q c ((ps.map idL).take k) ∧ ∀ a, q = some a → w.heap.size + 1 < a.block)) (fun _ i _ => 7 - (intOf i).toNat)
  case atStart => exact ⟨0, none, 0, Nat.zero_le _, by omega, rfl, rfl, Lib.hid ⟨ST.out, Rw.empty _ _, fun a e => by cases e⟩⟩
  case round =>
    clear ST
    obtain ⟨k, q, c, hk, hk7, rfl, rfl, hst⟩ := hrel
    by_cases hlt : k < n
    · by_cases hl7 : k < 7
      · obtain ⟨st0, rw0, fr0⟩ := hst.out
        clear hst
        have hkp : k < ps.length := by rw [← Hnp.out]; exact hlt
        obtain ⟨bs, off, rfl, hbs, cx⟩ := (HL.out.old st0.m).str k hkp
        have c5 : wr.cell? ⟨w.heap.size, 5, none⟩ = some (.slice (some ⟨bs, off, none⟩) n cap) := st0.cell 5
        have hnx : (ps.map idL).take (k + 1) = (ps.map idL).take k ++ [idL ps[k]] := by rw [List.take_succ_eq_append_getElem (by simpa using hkp), List.getElem_map]
        have hDl : ((ps.map idL).take k).length = k := by rw [List.length_take, List.length_map]; omega
        obtain ⟨xx, hx⟩ : ∃ x, x = ps[k] := ⟨_, rfl⟩
        rw [← hx] at cx hnx
        have hyl := idL_len xx
        have hidof : Hid (∀ w, Calls Tryd.prog 49 #[.string ⟨xx.toArray⟩] w fun r w' => r = .returned (.agg (vals (idL xx)).toArray) ∧ Below w.heap.size w w') := Lib.hid (fun w => idof_any xx w)
        generalize idL xx = y at hnx hyl hidof
        generalize (ps.map idL).take k = D at rw0 hDl hnx
        have Hnx := Lib.hid hnx
        have HDl := Lib.hid hDl
        have Hst := Lib.hid st0
        have Hrw := Lib.hid rw0
        have Hfr := Lib.hid fr0
        have Hyl := Lib.hid hyl
        have i0 : (0 : Int) ≤ k := by omega
        have i1 : (k : Int) < n := by omega
        have i7 : (k : Int) < 7 := by omega
        clear hnx hDl st0 rw0 fr0 hkp hx hyl
        go_wp2_with fail
        refine (hidof.out wr).mono ?_
        rintro r w2 ⟨rfl, hb2⟩
        clear cx c5 hidof
        have hz := zid_run
        have q2 := zid_len.trans (id_size Hyl.out).symm
        have q3 := id_info Hyl.out
        have q4 := id_one y
        have hI := IdAt.stored (w := w2) (A := (vals zid).toArray) Hyl.out
        have hBz := stored_below (w := w2) (A := (vals zid).toArray) (C := (vals y).toArray) (T := 43)
        have htx := Lib.hid hI.text
        have HB := Lib.hid (hb2.trans (hBz.mono hb2.size))
        clear hI hBz hb2
        generalize (vals zid).toArray = ZA at hz q2 htx HB
        go_upto_region 7 with (refine wpList_store_row rfl rfl 43 (.tmp 5) (.tmp 26) rfl w2.heap.size rfl 43 ZA (vals y).toArray rfl (heap_alloc_new _ _) q2 q3 q4 ?_)
        have htc := htx.out
        generalize (w2.alloc (.cells ZA 43)).setRow w2.heap.size (vals y).toArray = W3 at htc HB ⊢
        clear htx hz q2 q3 q4
        have hY : Rd encS (W3.alloc (.cells #[.string ⟨y.toArray⟩] 9)) (some ⟨W3.heap.size, 0, none⟩) [y] := Rd.made encS W3 9 [y] (by simp [maxLen])
        have hb3 := HB.out.trans (((Below.refl _ W3).alloc (Nat.le_refl _) (.cells #[.string ⟨y.toArray⟩] 9)).mono HB.out.size)
        have st4 := Lib.hid (Hst.out.grow hb3)
        have rw4 := Hrw.out.old hb3
        clear hb3 Hst Hrw
        go_wp2_with (at_builtin; refine wpList_pushR encS rfl _ _ 32 9 (.string ⟨#[]⟩) 16 rfl Tryd.underlying32 info_strH rfl (by decide) q c k D HDl.out rfl rw4 (some ⟨W3.heap.size, 0, none⟩) 1 1 [y] rfl rfl hY (by omega) ?_; intro q' c' W5 hP)
        have S5 : Hid (HvSt w (w.heap.size + 1) w.heap.size 34 #[.int .i64 ht, .int .i64 mi, .string ⟨tk2.toArray⟩, .int .i64 wi, .int .u64 (pw : Int), .slice (some ⟨bs, off, none⟩) n cap, .int .i64 sa] W5 ∧ Rw encS 9 W5 q' c' (D ++ [y]) ∧ ∀ a, q' = some a → w.heap.size + 1 < a.block) := Lib.hid (by
          obtain ⟨hR, hM, hor⟩ := hP
          refine ⟨st4.out.kept hM (by rintro i ⟨a, e, rfl⟩; have := Hfr.out a e; omega), hR, ?_⟩
          intro a e
          rcases hor a e with h | h
          · exact Hfr.out a h
          · obtain ⟨Z, _, hZ⟩ := st4.out.res
            exact Nat.lt_of_lt_of_le (Array.getElem?_eq_some_iff.1 hZ).1 h)
        clear hP hY rw4 st4 htc
        go_wp2_with fail
        go_roundw
        case rel => exact ⟨k + 1, q', c', by omega, by omega, rfl, by go_num, Lib.hid (by rw [Hnx.out]; exact S5.out)⟩
        case measure => simp [intOf]; omega
      · have i1 : (k : Int) < n := by omega
        have i7 : ¬ (k : Int) < 7 := by omega
        obtain ⟨st0, rw0, fr0⟩ := hst.out
        clear hst
        have c5 : wr.cell? ⟨w.heap.size, 5, none⟩ = some (.slice ao n cap) := st0.cell 5
        have f5 := st0.froz 5
        have st3 : HvSt w (w.heap.size + 1) w.heap.size 34 #[.int .i64 ht, .int .i64 mi, .string ⟨tk2.toArray⟩, .int .i64 wi, .int .u64 (pw : Int), .slice q k c, .int .i64 sa] (wr.setCell ⟨w.heap.size, 5, none⟩ (.slice q k c)) := st0.put 5 _
        have rw3 : Rw encS 9 (wr.setCell ⟨w.heap.size, 5, none⟩ (.slice q k c)) q c ((ps.map idL).take k) := rw0.kept ((Mod.refl (· = w.heap.size) wr).setCell (p := ⟨w.heap.size, 5, none⟩) (fun _ => rfl) _) (fun a e h => by have := fr0 a e; omega)
        obtain ⟨W9, hW9⟩ : ∃ W, W = wr.setCell ⟨w.heap.size, 5, none⟩ (.slice q k c) := ⟨_, rfl⟩
        rw [← hW9] at st3 rw3
        have box := st3.box
        obtain ⟨Z, hZs, hZ⟩ := st3.res
        obtain ⟨Y, hY⟩ : ∃ Y : Array Value, Y = #[.int .i64 ht, .int .i64 mi, .string ⟨tk2.toArray⟩, .int .i64 wi, .int .u64 (pw : Int), .slice q k c, .int .i64 sa] := ⟨_, rfl⟩
        rw [← hY] at box
        have hYs : Y.size = 7 := by rw [hY]; rfl
        have q3 : (Tryd.prog.info? 34).map (·.size) = some Y.size := by rw [hYs]; exact rhinfo
        have q2 : Z.size = Y.size := by rw [hZs, hYs]
        have q4 : ∀ v ∈ Y.toList, v.oneCell' = true := by
          rw [hY]; intro v hv
          simp only [List.mem_cons, List.not_mem_nil, or_false] at hv
          rcases hv with rfl | rfl | rfl | rfl | rfl | rfl | rfl <;> rfl
        have L0 := Lib.hid (setRow_heap W9 (w.heap.size + 1) Z Y 34 (0, 0) hZ)
        have LM : Hid (Below w.heap.size w (W9.setRow (w.heap.size + 1) Y)) := Lib.hid (st3.m.trans (((Mod.refl (fun _ => False) W9).setRow (g := w.heap.size + 1) Y).to_below st3.m.size (by rintro i hi (h | h) <;> first | exact h | omega)))
        have LR : Hid (Rw encS 9 (W9.setRow (w.heap.size + 1) Y) q c ((ps.map idL).take k)) := Lib.hid (rw3.kept ((Mod.refl (fun _ => False) W9).setRow (g := w.heap.size + 1) Y) (fun a e h => by have := fr0 a e; rcases h with h | h; exact h; omega))
        have Hfr := Lib.hid (fun a (e : q = some a) => by have := fr0 a e; (show w.heap.size ≤ a.block); omega)
        have HY := Lib.hid hY
        have hke : Hid ((ps.map idL).take k = P7 ∧ k = P7.length) := Lib.hid (by rw [HP7.out, List.length_map, List.map_take]; have e := Hnp.out; refine ⟨?_, by rw [List.length_take]; omega⟩; by_cases h7 : k = 7; rw [h7]; rw [List.take_of_length_le (by rw [List.length_map]; omega), List.take_of_length_le (by rw [List.length_map]; omega)])
        have HW9 := Lib.hid hW9
        clear st0 st3 hY rw0 rw3 fr0 hW9
        go_wp2_with (first | (rw [← HW9.out]; refine wpList_load_row rfl 34 (.tmp 1) rfl w.heap.size rfl 34 Y (0, 0) _ box Tryd.underlying34 rfl q3 ?_) | (refine wpList_store_row rfl rfl 34 (.tmp 2) (.tmp 34) rfl (w.heap.size + 1) rfl 34 Z Y rfl hZ q2 q3 q4 ?_))
        exact bodyPost_ret (v := .agg Y) (results_cell_row Tryd.results64 _ _ (w.heap.size + 1) 34 Y (0, 0) _ rfl L0.out Tryd.underlying34 rfl q3) rfl ⟨q, c, by rw [HY.out, ← hke.out.2], by rw [← hke.out.1]; exact LR.out, LM.out, Hfr.out⟩
    · have i1 : ¬ (k : Int) < n := by omega
      obtain ⟨st0, rw0, fr0⟩ := hst.out
      clear hst
      have c5 : wr.cell? ⟨w.heap.size, 5, none⟩ = some (.slice ao n cap) := st0.cell 5
      have f5 := st0.froz 5
      have st3 : HvSt w (w.heap.size + 1) w.heap.size 34 #[.int .i64 ht, .int .i64 mi, .string ⟨tk2.toArray⟩, .int .i64 wi, .int .u64 (pw : Int), .slice q k c, .int .i64 sa] (wr.setCell ⟨w.heap.size, 5, none⟩ (.slice q k c)) := st0.put 5 _
      have rw3 : Rw encS 9 (wr.setCell ⟨w.heap.size, 5, none⟩ (.slice q k c)) q c ((ps.map idL).take k) := rw0.kept ((Mod.refl (· = w.heap.size) wr).setCell (p := ⟨w.heap.size, 5, none⟩) (fun _ => rfl) _) (fun a e h => by have := fr0 a e; omega)
      obtain ⟨W9, hW9⟩ : ∃ W, W = wr.setCell ⟨w.heap.size, 5, none⟩ (.slice q k c) := ⟨_, rfl⟩
      rw [← hW9] at st3 rw3
      have box := st3.box
      obtain ⟨Z, hZs, hZ⟩ := st3.res
      obtain ⟨Y, hY⟩ : ∃ Y : Array Value, Y = #[.int .i64 ht, .int .i64 mi, .string ⟨tk2.toArray⟩, .int .i64 wi, .int .u64 (pw : Int), .slice q k c, .int .i64 sa] := ⟨_, rfl⟩
      rw [← hY] at box
      have hYs : Y.size = 7 := by rw [hY]; rfl
      have q3 : (Tryd.prog.info? 34).map (·.size) = some Y.size := by rw [hYs]; exact rhinfo
      have q2 : Z.size = Y.size := by rw [hZs, hYs]
      have q4 : ∀ v ∈ Y.toList, v.oneCell' = true := by
        rw [hY]; intro v hv
        simp only [List.mem_cons, List.not_mem_nil, or_false] at hv
        rcases hv with rfl | rfl | rfl | rfl | rfl | rfl | rfl <;> rfl
      have L0 := Lib.hid (setRow_heap W9 (w.heap.size + 1) Z Y 34 (0, 0) hZ)
      have LM : Hid (Below w.heap.size w (W9.setRow (w.heap.size + 1) Y)) := Lib.hid (st3.m.trans (((Mod.refl (fun _ => False) W9).setRow (g := w.heap.size + 1) Y).to_below st3.m.size (by rintro i hi (h | h) <;> first | exact h | omega)))
      have LR : Hid (Rw encS 9 (W9.setRow (w.heap.size + 1) Y) q c ((ps.map idL).take k)) := Lib.hid (rw3.kept ((Mod.refl (fun _ => False) W9).setRow (g := w.heap.size + 1) Y) (fun a e h => by have := fr0 a e; rcases h with h | h; exact h; omega))
      have Hfr := Lib.hid (fun a (e : q = some a) => by have := fr0 a e; (show w.heap.size ≤ a.block); omega)
      have HY := Lib.hid hY
      have hke : Hid ((ps.map idL).take k = P7 ∧ k = P7.length) := Lib.hid (by rw [HP7.out, List.length_map, List.map_take]; have e := Hnp.out; refine ⟨?_, by rw [List.length_take]; omega⟩; by_cases h7 : k = 7; rw [h7]; rw [List.take_of_length_le (by rw [List.length_map]; omega), List.take_of_length_le (by rw [List.length_map]; omega)])
      have HW9 := Lib.hid hW9
      clear st0 st3 hY rw0 rw3 fr0 hW9
      go_wp2_with (first | (rw [← HW9.out]; refine wpList_load_row rfl 34 (.tmp 1) rfl w.heap.size rfl 34 Y (0, 0) _ box Tryd.underlying34 rfl q3 ?_) | (refine wpList_store_row rfl rfl 34 (.tmp 2) (.tmp 34) rfl (w.heap.size + 1) rfl 34 Z Y rfl hZ q2 q3 q4 ?_))
      exact bodyPost_ret (v := .agg Y) (results_cell_row Tryd.results64 _ _ (w.heap.size + 1) 34 Y (0, 0) _ rfl L0.out Tryd.underlying34 rfl q3) rfl ⟨q, c, by rw [HY.out, ← hke.out.2], by rw [← hke.out.1]; exact LR.out, LM.out, Hfr.out⟩
end Go.Proofs.YtlhndibfdccohaaDoor
