/- Texts 3: what the laws lean on. -/
import Derived.Test.YtmodikcghlbigaaDoorB2
import Derived.Deep.AppendLies
import Derived.Test.YtmodikcghlbigaaDoorB1
import Derived.Great.BuildSlice
import Derived.OwnWalk
import Derived.BigQuiet
namespace Go.Proofs.YtmodikcghlbigaaDoor
open Go.RowKit

/-- Entries as cells. -/
def flat (E : List (Nat × Nat)) : List Value := E.flatMap fun e => [.int .i64 (e.1 : Int), .int .i64 (e.2 : Int)]
theorem flat_len (E : List (Nat × Nat)) : (flat E).length = E.length * 2 := by
  induction E with
  | nil => rfl
  | cons e E ih => simp [flat] at ih ⊢; omega
theorem flat_app (a b : List (Nat × Nat)) : flat (a ++ b) = flat a ++ flat b := by simp [flat]
theorem flat_get (E : List (Nat × Nat)) (j : Nat) (h : j < E.length) : (flat E)[j * 2]? = some (.int .i64 (E[j].1 : Int)) ∧ (flat E)[j * 2 + 1]? = some (.int .i64 (E[j].2 : Int)) := by
  induction E generalizing j with
  | nil => simp at h
  | cons e E ih =>
    have e0 : flat (e :: E) = .int .i64 (e.1 : Int) :: .int .i64 (e.2 : Int) :: flat E := rfl
    cases j with
    | zero => rw [e0]; exact ⟨rfl, rfl⟩
    | succ j =>
      have := ih j (by simpa using h)
      rw [e0, show (j + 1) * 2 = j * 2 + 2 by omega]
      exact this
theorem flat_one (E : List (Nat × Nat)) : ∀ v ∈ flat E, v.oneCell' = true := by
  intro v hv
  simp only [flat, List.mem_flatMap, List.mem_cons, List.not_mem_nil, or_false] at hv
  obtain ⟨e, _, rfl | rfl⟩ := hv <;> rfl
/-- The slice at p holds the entries E, from its block's head on; nil holds none. -/
def Pr (T : TypeId) (w : World) (p : Option Addr) (cap : Nat) (E : List (Nat × Nat)) : Prop := w.ownsRow 0 T 2 (.slice p E.length cap) E.length (flat E)
theorem Pr.shape {T : TypeId} {w : World} {p : Option Addr} {cap : Nat} {E : List (Nat × Nat)} (h : Pr T w p cap E) :
    (p = none ∧ E = [] ∧ cap = 0) ∨ ∃ g, p = some ⟨g, 0, none⟩ ∧ g < w.heap.size ∧ E.length ≤ cap ∧ cap ≤ maxLen ∧ ∃ cur : Array Value, w.heap[g]? = some (.cells cur T (0, 0)) ∧ cur.size = cap * 2 ∧ cur.toList.take (E.length * 2) = flat E := by
  rcases h.2 with ⟨e, h0⟩ | ⟨g, cap', cur, e, _, hh, h1, h2, h3, h4⟩
  · simp only [Value.slice.injEq] at e
    exact .inl ⟨e.1, List.eq_nil_of_length_eq_zero h0, e.2.2⟩
  · simp only [Value.slice.injEq] at e
    obtain ⟨rfl, _, rfl⟩ := e
    exact .inr ⟨g, rfl, (Array.getElem?_eq_some_iff.1 hh).1, h1, h2, cur, hh, h3, h4⟩
theorem Pr.of_row {T : TypeId} {w : World} {g cap : Nat} {E : List (Nat × Nat)} {cur : Array Value} (hh : w.heap[g]? = some (.cells cur T (0, 0))) (h1 : E.length ≤ cap) (h2 : cap ≤ maxLen) (h3 : cur.size = cap * 2) (h4 : cur.toList.take (E.length * 2) = flat E) :
    Pr T w (some ⟨g, 0, none⟩) cap E := ⟨flat_len E, .inr ⟨g, cap, cur, rfl, Nat.zero_le _, hh, h1, h2, h3, h4⟩⟩
theorem Pr.empty (T : TypeId) (w : World) : Pr T w none 0 [] := World.ownsRow_nil _ _ _ _
theorem Pr.kept {T : TypeId} {w w' : World} {p : Option Addr} {cap : Nat} {E : List (Nat × Nat)} {S : Nat → Prop} (h : Pr T w p cap E) (hm : Mod S w w') (hp : ∀ a, p = some a → ¬ S a.block) : Pr T w' p cap E := by
  rcases h.shape with ⟨rfl, rfl, rfl⟩ | ⟨g, rfl, hl, h1, h2, cur, hh, h3, h4⟩
  · exact Pr.empty _ _
  · exact Pr.of_row ((hm.block g hl (hp _ rfl)).trans hh) h1 h2 h3 h4
theorem Pr.old {T : TypeId} {w w' : World} {p : Option Addr} {cap : Nat} {E : List (Nat × Nat)} (h : Pr T w p cap E) (hb : Below w.heap.size w w') : Pr T w' p cap E :=
  h.kept (Mod.of_below hb) (fun a e hs => by
    subst e
    rcases h.shape with ⟨e, _⟩ | ⟨g, e, hl, _⟩
    · cases e
    · cases e; exact Nat.lt_irrefl _ (Nat.lt_of_lt_of_le hl hs))
theorem Pr.ents {T : TypeId} {w : World} {p : Option Addr} {cap : Nat} {E : List (Nat × Nat)} (h : Pr T w p cap E) : EntsAt w p E := by
  intro j hj
  rcases h.shape with ⟨rfl, rfl, rfl⟩ | ⟨g, rfl, hl, h1, h2, cur, hh, h3, h4⟩
  · simp at hj
  · obtain ⟨e1, e2⟩ := flat_get E j hj
    refine ⟨g, 0, rfl, hl, ?_, ?_⟩
    · rw [cell_of_row w g (0 + j * 2) _ T (0, 0) hh, Nat.zero_add]
      rw [← h4, List.getElem?_take_of_lt (by omega)] at e1
      simpa using e1
    · rw [cell_of_row w g (0 + j * 2 + 1) _ T (0, 0) hh, Nat.zero_add]
      rw [← h4, List.getElem?_take_of_lt (by omega)] at e2
      simpa using e2
/-- Behind an append: the slice holds one entry more, in its own block or in a new one. -/
def PushedP (T : TypeId) (w : World) (p : Option Addr) (B : List (Nat × Nat)) (q : Option Addr) (cap : Nat) (w' : World) : Prop :=
  Pr T w' q cap B ∧ Mod (fun i => ∃ a, p = some a ∧ i = a.block) w w' ∧ ∃ g, q = some ⟨g, 0, none⟩ ∧ (p = some ⟨g, 0, none⟩ ∨ w.heap.size ≤ g)
theorem wpList_pushP {P : Program} {ops : Array Oper} {rest : List Oper} {o : Oper} {a : Act} {Q : Exit → Act → World → Prop} {w : World} (hgd : o.guard = none) (s x : Operand) (Ts T : TypeId) (z : Value)
    (ho : o.op = .call { callee := .builtin .append, args := #[s, x], argTypes := #[Ts, Ts] }) (hT : P.underlying Ts = some (.slice T)) (hi : (P.info? T).map (fun i => (i.zero, i.size, i.bytes)) = some (some z, 2, 16)) (hzs : z.cells.size = 2)
    (p : Option Addr) (cap n : Nat) (E : List (Nat × Nat)) (e : Nat × Nat) (hn : E.length = n) (hs : a.eval s = .slice p n cap) (hS : Pr T w p cap E) {B : Nat} (hx : a.eval x = .slice (some ⟨B, 0, none⟩) 1 1) (hB : w.heap.size = B) (hl : n + 1 ≤ 1000000000000)
    (h : ∀ q c w', PushedP T w p (E ++ [e]) q c w' → wpList P ops Q rest (a.put o.dst (.slice q (n + 1) c)) w') :
    wpList P ops Q (o :: rest) a (w.alloc (.cells #[.int .i64 (e.1 : Int), .int .i64 (e.2 : Int)] T)) := by
  cases hq : P.info? T with
  | none => rw [hq] at hi; cases hi
  | some i =>
    rw [hq] at hi
    simp only [Option.map_some, Option.some.injEq, Prod.mk.injEq] at hi
    obtain ⟨hz, h1, h2⟩ := hi
    subst hn
    subst hB
    have hSo : (w.alloc (.cells #[.int .i64 (e.1 : Int), .int .i64 (e.2 : Int)] T)).ownsRow 0 T 2 (.slice p E.length cap) E.length (flat E) := hS.old ((Below.refl _ _).alloc (Nat.le_refl _) _)
    refine wpList_append_lies _ hgd s x Ts ho 0 T i z 2 16 hT hq hz h1 h2 hzs (by decide) _ E.length (flat E) hs hSo ⟨w.heap.size, 0, none⟩ 1 1 (flat [e]) hx rfl ?_ (flat_one _) (by decide) (by unfold maxLen; omega) ?_ (Nat.zero_le _) _ rfl ?_
    · intro j u hj
      have hadd : (⟨w.heap.size, 0, none⟩ : Addr).add j = ⟨w.heap.size, j, none⟩ := by unfold Addr.add; split <;> simp_all
      rw [hadd, cell_of_row _ w.heap.size j _ T (0, 0) (heap_alloc_new _ _)]
      simpa [flat] using hj
    · omega
    · intro g c w' hown hgrow hat _
      refine h (some ⟨g, 0, none⟩) c w' ⟨?_, ?_, g, rfl, ?_⟩
      · unfold Pr; rw [List.length_append, flat_app]; exact hown
      · refine ((Mod.refl _ w).alloc _).grown hgrow ?_
        intro j hj _
        cases p with
        | none => simp [Value.ownBlock] at hj
        | some a => simp [Value.ownBlock] at hj; exact ⟨a, rfl, hj.symm⟩
      · rcases hat with hat | hat
        · left
          rcases hS.shape with ⟨rfl, _⟩ | ⟨g', rfl, _⟩
          · simp [Value.ownBlock] at hat
          · simp [Value.ownBlock] at hat; subst hat; rfl
        · right; rw [hat]; simp
end Go.Proofs.YtmodikcghlbigaaDoor

namespace Go.Proofs.YtmodikcghlbigaaDoor
open Go.RowKit

theorem info_entry : (Tryd.prog.info? 57).map (fun i => (i.zero, i.size, i.bytes)) = some (some (.agg #[.int .i64 0, .int .i64 0]), 2, 16) := by kernel_rfl
theorem info_rentry : (Tryd.prog.info? 75).map (fun i => (i.zero, i.size, i.bytes)) = some (some (.agg #[.int .i64 0, .int .i64 0]), 2, 16) := by kernel_rfl

/-- Entries are gathered in a row of its own. -/
structure AccP (T : TypeId) (w : World) (i : Nat) (D : List (Nat × Nat)) (q : Option Addr) (c : Nat) (wr : World) : Prop where
  s : Pr T wr q c D
  len : D.length = i
  new : ∀ a, q = some a → w.heap.size ≤ a.block
  m : Below w.heap.size w wr
theorem AccP.push {T : TypeId} {w : World} {i : Nat} {D : List (Nat × Nat)} {q : Option Addr} {c : Nat} {wr w' : World} (h : AccP T w i D q c wr) {d : Nat × Nat} {q' : Option Addr} {c' : Nat} (hP : PushedP T wr q (D ++ [d]) q' c' w') : AccP T w (i + 1) (D ++ [d]) q' c' w' := by
  obtain ⟨hS, hm, g, rfl, hor⟩ := hP
  refine ⟨hS, by rw [List.length_append, h.len]; rfl, ?_, h.m.trans (hm.to_below h.m.size (by rintro j hj ⟨a, e, rfl⟩; have := h.new a e; omega))⟩
  rintro a e; cases e
  rcases hor with h1 | h1
  · exact h.new _ h1
  · exact Nat.le_trans h.m.size h1
theorem AccP.below {T : TypeId} {w : World} {i : Nat} {D : List (Nat × Nat)} {q : Option Addr} {c : Nat} {wr w' : World} (h : AccP T w i D q c wr) (hb : Below wr.heap.size wr w') : AccP T w i D q c w' :=
  ⟨h.s.old hb, h.len, h.new, h.m.trans (hb.mono h.m.size)⟩

set_option maxRecDepth 20000 in
set_option maxHeartbeats 4000000 in
theorem own_any (ao : Option Addr) (cap : Nat) (E : List (Nat × Nat)) (w : World) (hS : EntsAt w ao E) (hl : E.length ≤ 64) :
    Calls Tryd.prog 23 #[.slice ao E.length cap] w fun r w' => ∃ q c, r = .returned (.slice q E.length c) ∧ Pr 57 w' q c E ∧ Below w.heap.size w w' := by
  obtain ⟨n, hn⟩ : ∃ n, E.length = n := ⟨_, rfl⟩
  rw [hn] at hl ⊢
  have Hn := Lib.hid hn
  have HS := Lib.hid hS
  have hK : AccP 57 w 0 [] none 0 w := ⟨Pr.empty _ _, rfl, (fun a e => by cases e), Below.refl _ _⟩
  clear hn hS
  go_enter Tryd.func23, Tryd.ntmps23
  go_wp2_with fail
  go_loopw [3, 8] (fun s3 s8 wr => ∃ (i : Nat) (D : List (Nat × Nat)) (q : Option Addr) (c : Nat), i ≤ n ∧ s3 = .slice q i c ∧ s8 = .int .i64 (i : Int) ∧ Hid (D = E.take i) ∧ AccP 57 w i D q c wr) (fun _ i _ => n - (intOf i).toNat)
  case atStart => exact ⟨0, [], none, 0, by omega, rfl, rfl, Lib.hid rfl, hK⟩
  case round =>
    clear hK
    obtain ⟨i, D, q, c, hi, rfl, rfl, hD, hR⟩ := hrel
    by_cases hin : i < n
    · have hil : i < E.length := by rw [Hn.out]; exact hin
      obtain ⟨bs, off, rfl, hbs, c1, c2⟩ := (HS.out.old hR.m) i hil
      have hD2 : Hid (D ++ [E[i]] = E.take (i + 1)) := Lib.hid (by rw [hD.out]; exact List.take_append_getElem hil)
      obtain ⟨e, he⟩ : ∃ e, e = E[i] := ⟨_, rfl⟩
      rw [← he] at c1 c2 hD2
      obtain ⟨m, p⟩ := e
      have i1 : (i : Int) < n := by omega
      have i0 : (0 : Int) ≤ i := by omega
      have hb1 : Below wr.heap.size wr (wr.alloc (.cells #[.int .i64 (m : Int), .int .i64 (p : Int)] 75)) := (Below.refl _ _).alloc (Nat.le_refl _) _
      have hR1 := hR.below hb1
      have hRl := Lib.hid hR1.len
      have hRs := hR1.s
      clear he hR hb1
      go_wp2_with (at_builtin; refine wpList_pushP rfl _ _ 28 57 _ rfl Tryd.underlying28 info_entry rfl q c i D (m, p) hRl.out rfl hRs rfl (by simp) (by omega) ?_; intro pq2 cq2 W5 hP)
      have hR5 := hR1.push hP
      clear hP hR1 hRs
      go_wp2_with fail
      go_roundw
      case rel => exact ⟨i + 1, D ++ [(m, p)], pq2, cq2, by omega, rfl, by go_num, hD2, hR5⟩
      case measure => simp [intOf]; omega
    · obtain rfl : i = n := by omega
      have e : D = E := by rw [hD.out, List.take_of_length_le (by rw [Hn.out]; exact Nat.le_refl _)]
      subst e
      clear hD
      go_wp2_with fail
      go_ret
      exact ⟨q, c, rfl, hR.s, hR.m⟩
end Go.Proofs.YtmodikcghlbigaaDoor

namespace Go.Proofs.YtmodikcghlbigaaDoor
open Go

/-- Each of the chain waits for the one ahead of it. -/
def chainOk (md : Region.Mode) (ops : Array Oper) (C : List Nat) : Bool :=
  (List.range C.length).all fun m => match C[m]?, C[m + 1]? with
    | some i, some j => (match ops[j]? with | some p => p.after.any (fun e => Region.binds md e && e.on == i) | none => false)
    | _, _ => true
/-- Operation j waits for i, by n edges at most. -/
def reach (md : Region.Mode) (ops : Array Oper) : Nat → Nat → Nat → Bool
  | 0, _, _ => false
  | n + 1, j, i => match ops[j]? with
    | some p => p.after.any (fun e => Region.binds md e && (e.on == i || reach md ops n e.on i))
    | none => false
/-- The chain's place b waits for operation i (or there is no such place). -/
def aheadOf (md : Region.Mode) (ops : Array Oper) (C : List Nat) (i b : Nat) : Bool :=
  b == C.length || (match C[b]? with
    | some j => reach md ops 16 j i
    | none => false)

/-- Only slots of the operations turn; that of a chain's operation that isn't done yet hasn't. -/
structure AgreeC (ops : Array Oper) (C : List Nat) (k : Nat) (a0 a : Act) : Prop extends Agree ops a0 a where
  kp : ∀ (m i : Nat) (o : Oper) (t : Tmp), k ≤ m → C[m]? = some i → ops[i]? = some o → o.dst = some t → a.eval (.tmp t) = a0.eval (.tmp t)

section
variable {P : Program} {ops : Array Oper} {Q : Exit → Act → World → Prop} {md : Region.Mode} {V : Tmp → Value → Prop} {G : Nat → Value → World → Prop} {C : List Nat} {a0 : Act}

/-- What one operation owes while k of the chain are done, k' behind it. -/
def OwesAt (P : Program) (md : Region.Mode) (ops : Array Oper) (Q : Exit → Act → World → Prop) (V : Tmp → Value → Prop) (G : Nat → Value → World → Prop) (C : List Nat) (a0 : Act) (i : Nat) (o : Oper) (k : Nat) : Prop :=
  ∀ a w x, AgreeC ops C k a0 a → G k x w → AllV (fun t v _ => V t v) a w (waits md ops o) →
    wpOp P ops Q i (fun a' w' => ∃ v, a' = a.put o.dst v ∧ (∀ t, o.dst = some t → V t v) ∧ G k x w') a w
/-- The slot of the chain's last one that is done holds x. -/
def Holds' (ops : Array Oper) (C : List Nat) (a : Act) (k : Nat) (x : Value) : Prop := ∀ (m i : Nat) (o : Oper) (t : Tmp), k = m + 1 → C[m]? = some i → ops[i]? = some o → o.dst = some t → a.eval (.tmp t) = x
/-- What the chain's operation m owes. -/
def OwesIn (P : Program) (md : Region.Mode) (ops : Array Oper) (Q : Exit → Act → World → Prop) (V : Tmp → Value → Prop) (G : Nat → Value → World → Prop) (C : List Nat) (a0 : Act) (i : Nat) (o : Oper) (m : Nat) : Prop :=
  ∀ a w x, AgreeC ops C m a0 a → G m x w → Holds' ops C a m x → AllV (fun t v _ => V t v) a w (waits md ops o) →
    wpOp P ops Q i (fun a' w' => ∃ v, a' = a.put o.dst v ∧ (∀ t, o.dst = some t → V t v) ∧ G (m + 1) v w') a w
def OwesC (P : Program) (md : Region.Mode) (ops : Array Oper) (Q : Exit → Act → World → Prop) (V : Tmp → Value → Prop) (G : Nat → Value → World → Prop) (C : List Nat) (a0 : Act) (i : Nat) (o : Oper) : Prop :=
  (∃ m, C[m]? = some i ∧ OwesIn P md ops Q V G C a0 i o m) ∨ (C.contains i = false ∧ ∃ b, aheadOf md ops C i b = true ∧ ∀ k, k ≤ b → OwesAt P md ops Q V G C a0 i o k)

theorem any_edge {md : Region.Mode} {p : Oper} {i : Nat} (h : p.after.any (fun e => Region.binds md e && e.on == i) = true) : ∃ e ∈ p.after, Region.binds md e = true ∧ e.on = i := by
  obtain ⟨j, hj, h1⟩ := Array.any_iff_exists.1 h
  obtain ⟨_, _, h2⟩ := h1
  rw [Bool.and_eq_true, beq_iff_eq] at h2
  exact ⟨_, Array.getElem_mem _, h2.1, h2.2⟩
theorem chain_edge {m i j : Nat} {p : Oper} (h : chainOk md ops C = true) (hi : C[m]? = some i) (hj : C[m + 1]? = some j) (hp : ops[j]? = some p) : ∃ e ∈ p.after, Region.binds md e = true ∧ e.on = i := by
  have := List.all_eq_true.1 h m (List.mem_range.2 (List.getElem?_eq_some_iff.1 hi).1)
  simp only [hi, hj, hp] at this
  exact any_edge this

theorem reach_done {L : Array Bool} (cl : ∀ (i : Nat) (o : Oper), ops[i]? = some o → L.getD i true = true → ∀ e ∈ o.after, Region.binds md e = true → L.getD e.on false = true) :
    ∀ (n j i : Nat), reach md ops n j i = true → L.getD j true = true → L.getD i false = true
  | 0, _, _, h, _ => by cases h
  | n + 1, j, i, h, hl => by
    unfold reach at h
    cases hp : ops[j]? with
    | none => rw [hp] at h; cases h
    | some p =>
      rw [hp] at h
      obtain ⟨q, _, h1⟩ := Array.any_iff_exists.1 h
      obtain ⟨_, _, h2⟩ := h1
      rw [Bool.and_eq_true, Bool.or_eq_true, beq_iff_eq] at h2
      have h3 := cl j p hp hl _ (Array.getElem_mem _) h2.1
      rcases h2.2 with e | hr
      · rw [← e]; exact h3
      · refine reach_done cl n _ i hr ?_
        have : p.after[q].on < L.size := by
          apply Nat.lt_of_not_le; intro hle
          simp [Array.getElem?_eq_none hle] at h3
        simp [this] at h3 ⊢
        exact h3
theorem getD_tf {L : Array Bool} {n i : Nat} (hL : L.size = n) (hi : i < n) : L.getD i true = L.getD i false := by
  simp [show i < L.size by omega]
theorem getD_set_at {L : Array Bool} {i : Nat} (hi : i < L.size) (d : Bool) : (L.setIfInBounds i true).getD i d = true := by simp [hi]
theorem getD_set_ne' {L : Array Bool} {i j : Nat} (h : j ≠ i) (d : Bool) : (L.setIfInBounds i true).getD j d = L.getD j d := by
  have := Ne.symm h
  simp [Array.getD_eq_getD_getElem?, this]

/-- What is known while the region goes. -/
structure ChainAt (md : Region.Mode) (ops : Array Oper) (V : Tmp → Value → Prop) (G : Nat → Value → World → Prop) (C : List Nat) (a0 : Act) (L : Array Bool) (a : Act) (w : World) (k : Nat) (x : Value) : Prop where
  g : G k x w
  ho : Holds' ops C a k x
  le : k ≤ C.length
  ch : ∀ (m i : Nat), C[m]? = some i → (L.getD i true = true ↔ m < k)
  cl : ∀ (i : Nat) (o : Oper), ops[i]? = some o → L.getD i true = true → ∀ e ∈ o.after, Region.binds md e = true → L.getD e.on false = true
  ag : Agree ops a0 a
  kp : ∀ (i : Nat) (o : Oper) (t : Tmp), ops[i]? = some o → L.getD i true = false → o.dst = some t → a.eval (.tmp t) = a0.eval (.tmp t)
  v : ∀ (i : Nat) (o : Oper) (t : Tmp), ops[i]? = some o → L.getD i true = true → o.dst = some t → V t (a.eval (.tmp t))

theorem ChainAt.agc {L : Array Bool} {a : Act} {w : World} {k : Nat} {x : Value} (h : ChainAt md ops V G C a0 L a w k x) : AgreeC ops C k a0 a :=
  ⟨h.ag, fun m i o t hm hi ho ht => h.kp i o t ho (by
    cases hl : L.getD i true with
    | false => rfl
    | true => exact absurd ((h.ch m i hi).1 hl) (by omega)) ht⟩
theorem wpAny_chain (hok : DrawOk ops a0.tmps.size) (hch : chainOk md ops C = true) (hnd : C.Nodup) (hCl : ∀ i ∈ C, i < ops.size) (step : ∀ (i : Nat) (o : Oper), ops[i]? = some o → OwesC P md ops Q V G C a0 i o)
    (fin : ∀ a w x, Agree ops a0 a → G C.length x w → Holds' ops C a C.length x → (∀ (i : Nat) (o : Oper) (t : Tmp), ops[i]? = some o → o.dst = some t → V t (a.eval (.tmp t))) → Q .normal a w) :
    ∀ (fuel : Nat) (L : Array Bool) (a : Act) (w : World) (k : Nat) (x : Value), unl L ops.size ≤ fuel → L.size = ops.size → ChainAt md ops V G C a0 L a w k x → wpAny P md ops Q fuel L a w := by
  have allL : ∀ L : Array Bool, L.size = ops.size → Region.ready md ops L = [] → ∀ (i : Nat) (o : Oper), ops[i]? = some o → L.getD i true = true := by
    intro L hL hr i o ho
    cases hc : L.getD i true with
    | true => rfl
    | false =>
      obtain ⟨j, hj⟩ := ready_some (md := md) hok hL i (Array.getElem?_eq_some_iff.1 ho).1 hc
      rw [hr] at hj; cases hj
  have done : ∀ (L : Array Bool) (a : Act) (w : World) (k : Nat) (x : Value), L.size = ops.size → ChainAt md ops V G C a0 L a w k x → Region.ready md ops L = [] → Q .normal a w := by
    intro L a w k x hL h hr
    have hk : k = C.length := by
      refine Nat.le_antisymm h.le (Nat.le_of_not_lt fun hlt => ?_)
      have hm : C[k]? = some C[k] := List.getElem?_eq_getElem hlt
      have hi := hCl _ (List.getElem_mem hlt)
      exact Nat.lt_irrefl _ ((h.ch k _ hm).1 (allL L hL hr _ _ (Array.getElem?_eq_getElem hi)))
    subst hk
    exact fin a w x h.ag h.g h.ho (fun i o t ho ht => h.v i o t ho (allL L hL hr i o ho) ht)
  intro fuel
  induction fuel with
  | zero =>
    intro L a w k x hu hL h
    have hr : Region.ready md ops L = [] := by
      apply List.eq_nil_iff_forall_not_mem.2
      intro j hj
      obtain ⟨hun, o, ho, _⟩ := mem_ready.1 hj
      have := unl_pos L ops.size j (Array.getElem?_eq_some_iff.1 ho).1 hun
      omega
    exact ⟨hr, done L a w k x hL h hr⟩
  | succ fuel ih =>
    intro L a w k x hu hL h
    refine ⟨fun hr => done L a w k x hL h hr, fun i hi => ?_⟩
    obtain ⟨hun, o, ho, hall⟩ := mem_ready.1 hi
    have hil : i < ops.size := (Array.getElem?_eq_some_iff.1 ho).1
    have hw : AllV (fun t v _ => V t v) a w (waits md ops o) := AllV.of (by
      intro t ht
      unfold waits at ht
      obtain ⟨e, he, hd⟩ := List.mem_filterMap.1 ht
      obtain ⟨he1, he2⟩ := List.mem_filter.1 he
      cases hj : ops[e.on]? with
      | none => rw [hj] at hd; cases hd
      | some p =>
        rw [hj] at hd
        have hl := hall e (by simpa using he1) he2
        exact h.v e.on p t hj (by rw [getD_tf hL (Array.getElem?_eq_some_iff.1 hj).1]; exact hl) hd)
    -- what follows, with k' of the chain done
    have next : ∀ (k' : Nat) (y : Value → Value), k' ≤ C.length → (∀ v, Holds' ops C (a.put o.dst v) k' (y v)) → (∀ (m j : Nat), C[m]? = some j → ((L.setIfInBounds i true).getD j true = true ↔ m < k')) →
        wpOp P ops Q i (fun a' w' => ∃ v, a' = a.put o.dst v ∧ (∀ t, o.dst = some t → V t v) ∧ G k' (y v) w') a w → wpOp P ops Q i (fun a' w' => wpAny P md ops Q fuel (L.setIfInBounds i true) a' w') a w := by
      intro k' y hk' hho hch' hop
      refine wpOp_mono (fun a' w' hh => ?_) hop
      obtain ⟨v, rfl, hvi, hG'⟩ := hh
      refine ih _ _ _ k' (y v) ?_ (by simpa using hL) ⟨hG', hho v, hk', hch', ?_, ?_, ?_, ?_⟩
      · have := unl_set L i hun ops.size
        rw [if_pos hil] at this; omega
      · intro j p hp hl e he hb
        by_cases hji : j = i
        · subst hji
          rw [ho] at hp; cases hp
          have := hall e he hb
          by_cases hei : e.on = j
          · rw [hei, getD_set_at (by omega)]
          · rw [getD_set_ne' hei]; exact this
        · rw [getD_set_ne' hji] at hl
          have := h.cl j p hp hl e he hb
          by_cases hei : e.on = i
          · rw [hei, getD_set_at (by omega)]
          · rw [getD_set_ne' hei]; exact this
      · refine ⟨by rw [size_put]; exact h.ag.size, by rw [defers_put]; exact h.ag.defers, fun t ht => ?_⟩
        rw [Act.eval_put (fun d hd e => ht i o ho (by cases e; exact hd))]
        exact h.ag.same t ht
      · intro j p t hp hl ht
        have e : j ≠ i := by
          rintro rfl
          rw [getD_set_at (by omega)] at hl; cases hl
        rw [Act.eval_put (fun d hd e2 => by cases e2; exact hok.apart i j o p t ho hp e hd ht)]
        rw [getD_set_ne' e] at hl
        exact h.kp j p t hp hl ht
      · intro j p t hp hl ht
        by_cases e : j = i
        · subst e
          rw [ho] at hp; cases hp
          rw [ht, eval_put_same (by rw [h.ag.size]; exact hok.room j o t ho ht)]
          exact hvi t ht
        · rw [Act.eval_put (fun d hd e2 => by cases e2; exact hok.apart i j o p t ho hp e hd ht)]
          rw [getD_set_ne' e] at hl
          exact h.v j p t hp hl ht
    rcases step i o ho with ⟨m, hm, hop⟩ | ⟨hni, b, hb, hop⟩
    · have hmk : m = k := by
        have h1 : ¬ m < k := fun hlt => by rw [(h.ch m i hm).2 hlt] at hun; cases hun
        have h2 : m ≤ k := by
          cases m with
          | zero => exact Nat.zero_le _
          | succ m =>
            have hlt : m < C.length := by have := (List.getElem?_eq_some_iff.1 hm).1; omega
            have hj : C[m]? = some C[m] := List.getElem?_eq_getElem hlt
            obtain ⟨e, he, hbd, hon⟩ := chain_edge hch hj hm ho
            have := hall e he hbd
            rw [hon] at this
            exact (h.ch m _ hj).1 (by rw [getD_tf hL (hCl _ (List.getElem_mem hlt))]; exact this)
        omega
      subst hmk
      have hmlt : m < C.length := (List.getElem?_eq_some_iff.1 hm).1
      refine next (m + 1) (fun v => v) hmlt ?_ ?_ (hop a w x h.agc h.g h.ho hw)
      · intro v m2 j p t hm2 hj hp ht
        obtain rfl : m2 = m := by omega
        rw [hm] at hj; cases hj
        rw [ho] at hp; cases hp
        rw [ht, eval_put_same (by rw [h.ag.size]; exact hok.room i o t ho ht)]
      intro m2 j hj
      by_cases hji : j = i
      · subst hji
        have : m2 = m := by
          obtain ⟨l2, e2⟩ := List.getElem?_eq_some_iff.1 hj
          obtain ⟨l1, e1⟩ := List.getElem?_eq_some_iff.1 hm
          exact (List.getElem_inj hnd).1 (e2.trans e1.symm)
        subst this
        rw [getD_set_at (by omega)]
        exact ⟨fun _ => Nat.lt_succ_self _, fun _ => rfl⟩
      · rw [getD_set_ne' hji, h.ch m2 j hj]
        have : m2 ≠ m := by
          rintro rfl
          rw [hm] at hj; cases hj; exact hji rfl
        omega
    · have hkb : k ≤ b := by
        unfold aheadOf at hb
        rw [Bool.or_eq_true, beq_iff_eq] at hb
        rcases hb with rfl | hb
        · exact h.le
        · cases hj : C[b]? with
          | none => rw [hj] at hb; cases hb
          | some j =>
            rw [hj] at hb
            simp only at hb
            refine Nat.le_of_not_lt fun hlt => ?_
            have := reach_done h.cl 16 j i hb ((h.ch b j hj).2 hlt)
            rw [← getD_tf hL hil, hun] at this
            cases this
      refine next k (fun _ => x) h.le ?_ ?_ (hop k hkb a w x h.agc h.g hw)
      · intro v m2 j p t hm2 hj hp ht
        have hji : j ≠ i := by
          rintro rfl
          have := List.mem_of_getElem? hj
          rw [List.contains_eq_mem, decide_eq_false_iff_not] at hni
          exact hni this
        rw [Act.eval_put (fun d hd e2 => by cases e2; exact hok.apart i j o p t ho hp hji hd ht)]
        exact h.ho m2 j p t hm2 hj hp ht
      intro m2 j hj
      have hji : j ≠ i := by
        rintro rfl
        have := List.mem_of_getElem? hj
        rw [List.contains_eq_mem, decide_eq_false_iff_not] at hni
        exact hni this
      rw [getD_set_ne' hji, h.ch m2 j hj]

/-- The obligations one after the other. -/
def OweAllC (P : Program) (md : Region.Mode) (ops : Array Oper) (Q : Exit → Act → World → Prop) (V : Tmp → Value → Prop) (G : Nat → Value → World → Prop) (C : List Nat) (a0 : Act) : Nat → List Oper → Prop
  | _, [] => True
  | k, o :: r => OwesC P md ops Q V G C a0 k o ∧ OweAllC P md ops Q V G C a0 (k + 1) r
theorem OweAllC.get : ∀ {l : List Oper} {k : Nat}, OweAllC P md ops Q V G C a0 k l → ∀ (i : Nat) (o : Oper), l[i]? = some o → OwesC P md ops Q V G C a0 (k + i) o
  | _ :: _, k, h, 0, o, hi => by cases hi; exact h.1
  | _ :: r, k, h, i + 1, o, hi => by
    have := OweAllC.get h.2 i o (by simpa using hi)
    rwa [show k + 1 + i = k + (i + 1) by omega] at this
  | [], _, _, i, o, hi => by simp at hi
theorem OweAllC.cons {k : Nat} {o : Oper} {r : List Oper} (h : OwesC P md ops Q V G C a0 k o) (h2 : OweAllC P md ops Q V G C a0 (k + 1) r) : OweAllC P md ops Q V G C a0 k (o :: r) := ⟨h, h2⟩
theorem OweAllC.nil {k : Nat} : OweAllC P md ops Q V G C a0 k [] := trivial

theorem wp_region_chain {id : Nat} {w : World} (V : Tmp → Value → Prop) (G : Nat → Value → World → Prop) (C : List Nat) (N : Nat) (hm : P.follows .mixedOrders = true) (hok : drawOk ops N = true) (hN : a0.tmps.size = N)
    (hch : chainOk .any ops C = true) (hnd : decide C.Nodup = true) (hCl : C.all (· < ops.size) = true) (hG : G 0 undef w.drew)
    (step : OweAllC P .any ops Q V G C a0 0 ops.toList)
    (fin : ∀ f w x, G C.length x w → (∀ (m i : Nat) (o : Oper) (t : Tmp), C.length = m + 1 → C[m]? = some i → ops[i]? = some o → o.dst = some t → f t = x) → (∀ (i : Nat) (o : Oper) (t : Tmp), ops[i]? = some o → o.dst = some t → V t (f t)) → Q .normal (puts f (dsts ops) a0) w) : (Code.region id ops true).wp P Q a0 w := by
  subst hN
  have hok := drawOk_spec hok
  have hCl' : ∀ i ∈ C, i < ops.size := fun i hi => by simpa using List.all_eq_true.1 hCl i hi
  have hL0 : ∀ i, i < ops.size → (Array.replicate ops.size false).getD i true = false := fun i hi => by simp [hi]
  refine wp_region_any hm (wpAny_chain (V := V) (G := G) (C := C) hok hch (of_decide_eq_true hnd) hCl' (fun i o ho => ?_) (fun a w x ha hg hh hv => ?_) ops.size _ a0 _ 0 undef (unl_le _ _) (by simp) ⟨hG, (fun m i o t h => by omega), Nat.zero_le _, ?_, ?_, ⟨rfl, rfl, fun _ _ => rfl⟩, (fun _ _ _ _ _ _ => rfl), ?_⟩)
  · have := step.get i o (by simpa using ho)
    rwa [Nat.zero_add] at this
  · rw [ha.puts hok]
    exact fin _ w x hg hh hv
  · intro m i hi
    have := hCl' i (List.mem_of_getElem? hi)
    rw [hL0 i this]
    simp
  · intro i o ho hl
    rw [hL0 i (Array.getElem?_eq_some_iff.1 ho).1] at hl; cases hl
  · intro i o t ho hl _
    rw [hL0 i (Array.getElem?_eq_some_iff.1 ho).1] at hl; cases hl

/-- An operation beside the chain that yields a value and turns nothing. -/
theorem owesC_val {i : Nat} {o : Oper} {t : Tmp} (b : Nat) (hb : aheadOf md ops C i b = true) (hni : C.contains i = false) (hi : ops[i]? = some o) (ht : o.dst = some t)
    (h : ∀ k a w x, k ≤ b → AgreeC ops C k a0 a → G k x w → AllV (fun t v _ => V t v) a w (waits md ops o) → ∃ v, Region.wanted o (yielded ops a.tmps) = true ∧ (execOp a.eval o).run P w = .ok (.value v) w ∧ V t v) : OwesC P md ops Q V G C a0 i o := by
  refine .inr ⟨hni, b, hb, fun k hk a w x ha hG hV => ?_⟩
  obtain ⟨v, hw, hr, hv⟩ := h k a w x hk ha hG hV
  unfold wpOp
  rw [hi]
  simp only [hw, if_true, Oper.wp, hr, Oper.upon]
  exact .inl ⟨v, rfl, fun u hu => by rw [ht] at hu; cases hu; exact hv, hG⟩
/-- A call beside the chain. -/
theorem owesC_side {i : Nat} {o : Oper} {t : Tmp} (b : Nat) (hb : aheadOf md ops C i b = true) (hni : C.contains i = false) (hi : ops[i]? = some o) (ht : o.dst = some t) (f : FuncId)
    (h : ∀ k a w x, k ≤ b → AgreeC ops C k a0 a → G k x w → AllV (fun t v _ => V t v) a w (waits md ops o) → ∃ args, Region.wanted o (yielded ops a.tmps) = true ∧ (execOp a.eval o).run P w = .ok (.enter f args) w ∧
      Calls P f args w fun e w' => ∃ v, e = .returned v ∧ V t v ∧ G k x w') : OwesC P md ops Q V G C a0 i o := by
  refine .inr ⟨hni, b, hb, fun k hk a w x ha hG hV => ?_⟩
  obtain ⟨args, hw, hr, hc⟩ := h k a w x hk ha hG hV
  unfold wpOp
  rw [hi]
  simp only [hw, if_true, Oper.wp, hr, Oper.upon]
  refine .inl (hc.mono ?_)
  rintro e w' ⟨v, rfl, h1, h2⟩
  exact ⟨v, rfl, fun u hu => by rw [ht] at hu; cases hu; exact h1, h2⟩
/-- A call of the chain. -/
theorem owesC_call {i : Nat} {o : Oper} {t : Tmp} (m : Nat) (hm : C[m]? = some i) (hi : ops[i]? = some o) (ht : o.dst = some t) (f : FuncId)
    (h : ∀ a w x, AgreeC ops C m a0 a → G m x w → Holds' ops C a m x → AllV (fun t v _ => V t v) a w (waits md ops o) → ∃ args, Region.wanted o (yielded ops a.tmps) = true ∧ (execOp a.eval o).run P w = .ok (.enter f args) w ∧
      Calls P f args w fun e w' => ∃ v, e = .returned v ∧ V t v ∧ G (m + 1) v w') : OwesC P md ops Q V G C a0 i o := by
  refine .inl ⟨m, hm, fun a w x ha hG hh hV => ?_⟩
  obtain ⟨args, hw, hr, hc⟩ := h a w x ha hG hh hV
  unfold wpOp
  rw [hi]
  simp only [hw, if_true, Oper.wp, hr, Oper.upon]
  refine .inl (hc.mono ?_)
  rintro e w' ⟨v, rfl, h1, h2⟩
  exact ⟨v, rfl, fun u hu => by rw [ht] at hu; cases hu; exact h1, h2⟩
/-- An operation of the chain that yields a value and turns memory. -/
theorem owesC_mem {i : Nat} {o : Oper} {t : Tmp} (m : Nat) (hm : C[m]? = some i) (hi : ops[i]? = some o) (ht : o.dst = some t)
    (h : ∀ a w x, AgreeC ops C m a0 a → G m x w → Holds' ops C a m x → AllV (fun t v _ => V t v) a w (waits md ops o) → ∃ v w', Region.wanted o (yielded ops a.tmps) = true ∧ (execOp a.eval o).run P w = .ok (.value v) w' ∧ V t v ∧ G (m + 1) v w') : OwesC P md ops Q V G C a0 i o := by
  refine .inl ⟨m, hm, fun a w x ha hG hh hV => ?_⟩
  obtain ⟨v, w', hw, hr, h1, h2⟩ := h a w x ha hG hh hV
  unfold wpOp
  rw [hi]
  simp only [hw, if_true, Oper.wp, hr, Oper.upon]
  exact .inl ⟨v, rfl, fun u hu => by rw [ht] at hu; cases hu; exact h1, h2⟩
/-- A store of the chain. -/
theorem owesC_store {i : Nat} {o : Oper} (m : Nat) (hm : C[m]? = some i) (hi : ops[i]? = some o) (ht : o.dst = none)
    (h : ∀ a w x, AgreeC ops C m a0 a → G m x w → Holds' ops C a m x → AllV (fun t v _ => V t v) a w (waits md ops o) → ∃ w', Region.wanted o (yielded ops a.tmps) = true ∧ (execOp a.eval o).run P w = .ok .skip w' ∧ G (m + 1) undef w') : OwesC P md ops Q V G C a0 i o := by
  refine .inl ⟨m, hm, fun a w x ha hG hh hV => ?_⟩
  obtain ⟨w', hw, hr, h2⟩ := h a w x ha hG hh hV
  unfold wpOp
  rw [hi]
  simp only [hw, if_true, Oper.wp, hr, Oper.upon]
  exact .inl ⟨undef, rfl, fun u hu => (by rw [ht] at hu; cases hu), h2⟩
/-- An operation of the chain by its own law (an append). -/
theorem owesC_law {i : Nat} {o : Oper} (m : Nat) (hm : C[m]? = some i) (hi : ops[i]? = some o)
    (h : ∀ a w x, AgreeC ops C m a0 a → G m x w → Holds' ops C a m x → AllV (fun t v _ => V t v) a w (waits md ops o) → Region.wanted o (yielded ops a.tmps) = true ∧
      ∀ K : Act → World → Prop, (∀ v w', (∀ t, o.dst = some t → V t v) → G (m + 1) v w' → K (a.put o.dst v) w') → o.wp P a w K Q) : OwesC P md ops Q V G C a0 i o := by
  refine .inl ⟨m, hm, fun a w x ha hG hh hV => ?_⟩
  obtain ⟨hw, hl⟩ := h a w x ha hG hh hV
  unfold wpOp
  rw [hi]
  simp only [hw, if_true]
  exact .inl (hl _ (fun v w' h1 h2 => ⟨v, rfl, h1, h2⟩))
end
end Go.Proofs.YtmodikcghlbigaaDoor
namespace Go.Proofs.YtmodikcghlbigaaDoor
open Go
/-- A slot is written, by an operation of no region. -/
def mv (t : Tmp) (v : Value) : Oper := { dst := some t, op := .move (.const v), type := 0, pos := "", after := #[], guard := none }
theorem moves_back {P : Program} {ops : Array Oper} {Q : Exit → Act → World → Prop} (f : Tmp → Value) : ∀ (l : List Tmp) (a : Act) (w : World), wpList P ops Q (l.map fun t => mv t (f t)) a w → Q .normal (puts f l a) w
  | [], _, _, h => h
  | t :: r, a, w, h => by
    refine moves_back (P := P) (ops := ops) f r (a.put (some t) (f t)) w ?_
    rw [List.map_cons, wpList] at h
    have hw : Region.wanted (mv t (f t)) (yielded ops a.tmps) = true := rfl
    rw [if_pos hw] at h
    rcases h with h | h
    · unfold Oper.wp at h
      have he : (execOp a.eval (mv t (f t))).run P w = .ok (.value (f t)) w := rfl
      rw [he] at h
      exact h
    · exfalso
      have he : ((execOp a.eval (mv t (f t))).runT P w #[]).2 = #[] := rfl
      have h1 := h.1.1
      rw [he] at h1
      simp at h1
end Go.Proofs.YtmodikcghlbigaaDoor

namespace Go.Proofs.YtmodikcghlbigaaDoor
open Go.RowKit

theorem rawS_len (s : List UInt8) (e n : Int) : (rawS s e n).2.1.length ≤ s.length := by
  unfold rawS; split
  · exact failS_len _ _ _
  · simp
theorem textS_len (s : List UInt8) (e n : Int) : (textS s e n).2.1.length ≤ s.length := by
  unfold textS; exact Nat.le_trans (rawS_len _ _ _) (numS_len _ _ _)
theorem numS_lo (s : List UInt8) (e m : Int) : 0 ≤ (numS s e m).1 := by
  unfold numS; split
  · exact Int.le_refl 0
  · split
    · exact Int.le_refl 0
    · simp
theorem numS_hi (s : List UInt8) (e m : Int) (h : 0 ≤ m) : (numS s e m).1 ≤ m := by
  unfold numS; split
  · exact h
  · split
    · exact h
    · simp only; omega
theorem wpList_load_rowG {P : Program} {ops : Array Oper} {rest : List Oper} {o : Oper} {a : Act} {w : World} {Q : Exit → Act → World → Prop} (hw : Region.wanted o (yielded ops a.tmps) = true) (ty : TypeId) (x : Operand) (ho : o.op = .load ty x)
    (g : Nat) (hx : a.eval x = .pointer (some ⟨g, 0, none⟩)) (t : TypeId) (cs : Array Value) (fr : Nat × Nat) (d : TypeDesc) (hg : w.heap[g]? = some (.cells cs t fr))
    (hu : P.underlying ty = some d) (hd : (match d with | .struct _ | .array _ _ => true | _ => false) = true) (hi : (P.info? ty).map (·.size) = some cs.size)
    (h : wpList P ops Q rest (a.put o.dst (.agg cs)) w) : wpList P ops Q (o :: rest) a w :=
  wpList_step fun _ hK => by rw [if_pos hw]; exact wp_load_row ty x ho g hx t cs fr d hg hu hd hi (hK _ _ h)
theorem exec_store_row {P : Program} {o : Oper} {a : Act} {w : World} (ty : TypeId) (x y : Operand) (ho : o.op = .store ty x y)
    (g : Nat) (hx : a.eval x = .pointer (some ⟨g, 0, none⟩)) (t : TypeId) (old cs : Array Value) (hy : a.eval y = .agg cs) (hg : w.heap[g]? = some (.cells old t (0, 0))) (hsz : old.size = cs.size)
    (hi : (P.info? ty).map (·.size) = some cs.size) (h1 : ∀ v ∈ cs.toList, v.oneCell' = true) : (execOp a.eval o).run P w = .ok .skip (w.setRow g cs) := by
  have hst := run_storeCells_at P g 0 t cs.toList 0 old w hg (by simp; omega) h1
  have e : (old.toList.take (0 + 0) ++ cs.toList ++ old.toList.drop (0 + 0 + cs.toList.length)).toArray = cs := by
    have : old.toList.drop (0 + 0 + cs.toList.length) = [] := List.drop_eq_nil_of_le (by simp; omega)
    rw [this]; simp
  rw [e] at hst
  cases hq : P.info? ty with
  | none => simp [hq] at hi
  | some i =>
    have hs : i.size = cs.size := by simpa [hq] using hi
    have hv : (storeVar ty ⟨g, 0, none⟩ (.agg cs)).run P w = .ok () (w.setRow g cs) := by
      simp [storeVar, sizeOf, typeInfo, hq, hs, Value.cells, hst]
    unfold execOp
    simp only [ho, hx, hy, Instr.storeAt, Instr.sureAddr, Sem.run_bind, Sem.run_pure, Result.andThen_ok, hv]
theorem less_cmp : ∀ a b : List UInt8, Op.bytesLess a b = decide (Lib.compareBytes a b < 0)
  | [], [] => rfl
  | [], _ :: _ => rfl
  | _ :: _, [] => rfl
  | a :: x, b :: y => by
    have ih := less_cmp x y
    unfold Op.bytesLess Lib.compareBytes
    by_cases h1 : a < b
    · simp [h1]
    · by_cases h2 : b < a
      · have : ¬ a = b := by rintro rfl; exact absurd h2 h1
        simp [h1, h2, this]
      · have e : a = b := by
          rw [UInt8.lt_iff_toNat_lt] at h1 h2
          exact UInt8.toNat_inj.1 (by omega)
        subst e
        simp [h1, ih]
theorem binOp_geq_str (t : TypeId) (a b : ByteArray) : binOp .geq t (.string a) (.string b) = pure (.bool !(Op.bytesLess a.toList b.toList)) := by simp [binOp, Op.stringOp]
theorem cat_bytes (a b : List UInt8) : (⟨a.toArray⟩ : ByteArray) ++ (⟨b.toArray⟩ : ByteArray) = ⟨(a ++ b).toArray⟩ := by
  apply ByteArray.ext; simp
theorem exec_add_str {P : Program} {o : Oper} {a : Act} {w : World} (ty ty' : TypeId) (x y : Operand) (ho : o.op = .binOp .add ty x y ty') (A B : List UInt8) (hx : a.eval x = .string ⟨A.toArray⟩) (hy : a.eval y = .string ⟨B.toArray⟩) (h : A.length + B.length ≤ 9223372036854775807) :
    (execOp a.eval o).run P w = .ok (.value (.string ⟨(A ++ B).toArray⟩)) w := by
  have hr := run_string_add_sum (P := P) (w := w) (⟨A.toArray⟩ : ByteArray) ⟨B.toArray⟩ (by simpa [ByteArray.size] using h)
  rw [cat_bytes] at hr
  simp [execOp, ho, hx, hy, eqGuard, binOp_string_add, hr]
theorem Rd.mod {α : Type} {E : Enc α} {w w' : World} {ao : Option Addr} {L : List α} {S : Nat → Prop} (h : Rd E w ao L) (hm : Mod S w w') (hS : ∀ a, ao = some a → ¬ S a.block) : Rd E w' ao L := by
  intro j hj
  obtain ⟨bs, off, e, hlt, hc⟩ := h j hj
  exact ⟨bs, off, e, Nat.lt_of_lt_of_le hlt hm.size, fun i u hu => (World.cell?_of_block (hm.block bs hlt (hS _ e))).trans (hc i u hu)⟩
theorem Rw.ao {α : Type} {E : Enc α} {T : TypeId} {w : World} {p : Option Addr} {cap : Nat} {L : List α} (h : Rw E T w p cap L) : p = none ∨ ∃ b off, p = some ⟨b, off, none⟩ := by
  rcases h.shape with ⟨e, _⟩ | ⟨g, e, _⟩
  · exact .inl e
  · exact .inr ⟨g, 0, e⟩
section
variable {α : Type} {E : Enc α}
theorem Rw.parts {T : TypeId} {w : World} {g cap : Nat} {M : List α} (h : Rw E T w (some ⟨g, 0, none⟩) cap M) :
    ∃ cur : Array Value, w.heap[g]? = some (.cells cur T (0, 0)) ∧ cur.size = cap * E.k ∧ M.length ≤ cap ∧ cap ≤ maxLen ∧ ∃ R, cur.toList = E.all M ++ R := by
  rcases h.shape with ⟨e, _⟩ | ⟨g', e, hl, h1, h2, cur, hh, h3, h4⟩
  · cases e
  · cases e
    exact ⟨cur, hh, h3, h1, h2, cur.toList.drop (M.length * E.k), by rw [← h4, List.take_append_drop]⟩
/-- One is set. -/
theorem Rw.setAt {T : TypeId} {w : World} {g cap : Nat} {M : List α} (h : Rw E T w (some ⟨g, 0, none⟩) cap M) (i : Nat) (hi : i < M.length) (x : α) :
    ∃ cur : Array Value, w.heap[g]? = some (.cells cur T (0, 0)) ∧ i * E.k + E.k ≤ cur.size ∧
      Rw E T (w.setRow g (cur.toList.take (i * E.k) ++ E.f x ++ cur.toList.drop (i * E.k + E.k)).toArray) (some ⟨g, 0, none⟩) cap (M.set i x) := by
  obtain ⟨cur, hh, h3, h1, h2, R, hR⟩ := h.parts
  have hik : i * E.k + E.k ≤ M.length * E.k := by have := Nat.mul_le_mul_right E.k (show i + 1 ≤ M.length from hi); rwa [Nat.add_mul, Nat.one_mul] at this
  have hlen : (E.all M ++ R).length = cap * E.k := by rw [← hR, Array.length_toList, h3]
  have hM : M = M.take i ++ M[i] :: M.drop (i + 1) := by rw [← List.drop_eq_getElem_cons hi, List.take_append_drop]
  have hA : (E.all (M.take i)).length = i * E.k := by rw [E.all_len, List.length_take, Nat.min_eq_left (by omega)]
  have hall : E.all M = E.all (M.take i) ++ (E.f M[i] ++ E.all (M.drop (i + 1))) := by
    conv => lhs; rw [hM]
    rw [E.all_app]; rfl
  have hset : E.all (M.set i x) = E.all (M.take i) ++ (E.f x ++ E.all (M.drop (i + 1))) := by
    rw [List.set_eq_take_append_cons_drop, if_pos hi, E.all_app]; rfl
  have hnew : cur.toList.take (i * E.k) ++ E.f x ++ cur.toList.drop (i * E.k + E.k) = E.all (M.set i x) ++ R := by
    rw [hR, hall, hset]
    rw [List.append_assoc (E.all (M.take i)), List.append_assoc (E.f M[i]), List.take_left' hA, ← List.drop_drop, List.drop_left' hA, List.drop_left' (E.len _)]
    simp
  refine ⟨cur, hh, by rw [h3]; have := Nat.mul_le_mul_right E.k h1; omega, ?_⟩
  rw [hnew]
  refine Rw.of_row (setRow_heap w g cur _ T (0, 0) hh) (by rw [List.length_set]; exact h1) h2 ?_ ?_
  · rw [List.size_toArray, ← hlen, List.length_append, List.length_append, E.all_len, E.all_len, List.length_set]
  · rw [List.toList_toArray, List.take_left' (by rw [E.all_len])]
/-- The end is overwritten. -/
theorem Rw.clearAt {T : TypeId} {w : World} {g cap : Nat} {M : List α} (h : Rw E T w (some ⟨g, 0, none⟩) cap M) (i : Nat) (hi : i ≤ M.length) (Z : List Value) (hZ : Z.length = (M.length - i) * E.k) :
    ∃ cur : Array Value, w.heap[g]? = some (.cells cur T (0, 0)) ∧ i * E.k + Z.length ≤ cur.size ∧
      Rw E T (w.setRow g (cur.toList.take (i * E.k) ++ Z ++ cur.toList.drop (i * E.k + Z.length)).toArray) (some ⟨g, 0, none⟩) cap (M.take i) := by
  obtain ⟨cur, hh, h3, h1, h2, R, hR⟩ := h.parts
  have hik : i * E.k + Z.length = M.length * E.k := by rw [hZ, ← Nat.add_mul]; congr 1; omega
  have hlen : (E.all M ++ R).length = cap * E.k := by rw [← hR, Array.length_toList, h3]
  have hA : (E.all (M.take i)).length = i * E.k := by rw [E.all_len, List.length_take, Nat.min_eq_left (by omega)]
  have hall : E.all M = E.all (M.take i) ++ E.all (M.drop i) := by rw [← E.all_app, List.take_append_drop]
  have hm := Nat.mul_le_mul_right E.k h1
  have htk : cur.toList.take (i * E.k) = E.all (M.take i) := by rw [hR, hall, List.append_assoc, List.take_left' hA]
  refine ⟨cur, hh, by rw [h3]; omega, ?_⟩
  refine Rw.of_row (setRow_heap w g cur _ T (0, 0) hh) (by rw [List.length_take]; omega) h2 ?_ ?_
  · rw [List.size_toArray, List.length_append, List.length_append, List.length_take, List.length_drop, Array.length_toList, h3]; omega
  · rw [List.toList_toArray, htk, List.append_assoc, List.take_left' (by rw [hA, List.length_take, Nat.min_eq_left hi])]
end
theorem exec_store_at {P : Program} {o : Oper} {a : Act} {w : World} (ty : TypeId) (x y : Operand) (ho : o.op = .store ty x y)
    (g off : Nat) (hx : a.eval x = .pointer (some ⟨g, off, none⟩)) (t : TypeId) (old : Array Value) (vs : List Value) (hy : a.eval y = .agg vs.toArray) (hg : w.heap[g]? = some (.cells old t (0, 0))) (hsz : off + vs.length ≤ old.size)
    (hi : (P.info? ty).map (·.size) = some vs.length) (h1 : ∀ v ∈ vs, v.oneCell' = true) : (execOp a.eval o).run P w = .ok .skip (w.setRow g (old.toList.take off ++ vs ++ old.toList.drop (off + vs.length)).toArray) := by
  have hst := run_storeCells_at P g off t vs 0 old w hg (by omega) h1
  rw [Nat.add_zero] at hst
  cases hq : P.info? ty with
  | none => simp [hq] at hi
  | some i =>
    have hs : i.size = vs.length := by simpa [hq] using hi
    have hv : (storeVar ty ⟨g, off, none⟩ (.agg vs.toArray)).run P w = .ok () (w.setRow g (old.toList.take off ++ vs ++ old.toList.drop (off + vs.length)).toArray) := by
      simp [storeVar, sizeOf, typeInfo, hq, hs, Value.cells, hst]
    unfold execOp
    simp only [ho, hx, hy, Instr.storeAt, Instr.sureAddr, Sem.run_bind, Sem.run_pure, Result.andThen_ok, hv]
theorem wpList_skip {P : Program} {ops : Array Oper} {rest : List Oper} {o : Oper} {a : Act} {w w' : World} {Q : Exit → Act → World → Prop} (hgd : o.guard = none) (hdst : o.dst = none) (hr : (execOp a.eval o).run P w = .ok .skip w') (h : wpList P ops Q rest a w') : wpList P ops Q (o :: rest) a w := by
  refine wpList_plain hgd fun K hK => ?_
  unfold Oper.wp
  rw [hr]
  exact hK _ _ (by rw [hdst]; exact h)
def nmOf (s : List UInt8) : Nm := ⟨idL s, idL_len s⟩
theorem results_row2 {P : Program} {fn : Func} {p u : Tmp} {ty : TypeId} (h : fn.results = #[.cell p ty, .tmp u]) (tmps : Array Value) (w : World) (g : Nat) (t : TypeId) (cs : Array Value) (fr : Nat × Nat) (d : TypeDesc) (v : Value)
    (hp : tmps.getD p undef = .pointer (some ⟨g, 0, none⟩)) (hv : tmps.getD u undef = v) (hg : w.heap[g]? = some (.cells cs t fr))
    (hu : P.underlying ty = some d) (hd : (match d with | .struct _ | .array _ _ => true | _ => false) = true) (hi : (P.info? ty).map (·.size) = some cs.size) :
    (results fn tmps).run P w = .ok (.tuple #[.agg cs, v]) w := by
  rw [results_cell_tmp h, hp, hv]
  simp [asAddr, run_loadVar_row w g t ty cs fr d hg hu hd hi, Result.andThen]
theorem info_u8k : (Tryd.prog.info? 5).map (fun i => (i.zero, i.size, i.bytes)) = some (some (.int .u8 0), 1, 1) := by kernel_rfl
end Go.Proofs.YtmodikcghlbigaaDoor

namespace Go.Proofs.YtmodikcghlbigaaDoor
open Go.RowKit

def zN : Nm := ⟨zid, rfl⟩
theorem info_name : (Tryd.prog.info? 39).map (fun i => (i.zero, i.size, i.bytes)) = some (some (.agg (vals zid).toArray), 32, 32) := by kernel_rfl
theorem all_rep (n : Nat) : (madeCells (vals zid).toArray (n * 32)).toList = encN.all (List.replicate n zN) := by
  have hzl : (vals zid).length = 32 := by rw [vals_len]; rfl
  apply List.ext_getElem?
  intro t
  by_cases ht : t < n * 32
  · have hd : t / 32 < n := by omega
    have hr : t % 32 < 32 := Nat.mod_lt _ (by decide)
    have he : t / 32 * 32 + t % 32 = t := by omega
    have h := encN.all_get (List.replicate n zN) (t / 32) (t % 32) (by simpa using hd) hr
    rw [show encN.k = 32 from rfl, he] at h
    rw [h, List.getElem_replicate, show encN.f zN = vals zid from rfl]
    generalize vals zid = V at hzl
    simp [madeCells, ht, hzl, hr]
  · have h2 : (encN.all (List.replicate n zN)).length = n * 32 := by rw [encN.all_len, List.length_replicate]; rfl
    rw [List.getElem?_eq_none (by simp [madeCells]; omega), List.getElem?_eq_none (by rw [h2]; omega)]
/-- 'make([]api.ID, n)'. -/
theorem wpList_makeN {ops : Array Oper} {rest : List Oper} {o : Oper} {a : Act} {Q : Exit → Act → World → Prop} {w : World} (hgd : o.guard = none) (l c : Operand) (hop : o.op = Op.makeSlice 85 l c)
    (n : Nat) (L C : Int) (hl : a.eval l = .int .i64 L) (hc : a.eval c = .int .i64 C) (hL : L = (n : Int)) (hC : C = (n : Int)) (hn : n ≤ 1000000)
    (hK : ∀ w', Rw encN 39 w' (some ⟨w.heap.size, 0, none⟩) n (List.replicate n zN) → Below w.heap.size w w' → w.heap.size < w'.heap.size → wpList Tryd.prog ops Q rest (a.put o.dst (.slice (some ⟨w.heap.size, 0, none⟩) n n)) w') :
    wpList Tryd.prog ops Q (o :: rest) a w := by
  obtain ⟨i, hi, hzz⟩ := Option.map_eq_some_iff.1 info_name
  simp only [Prod.mk.injEq] at hzz
  obtain ⟨hz, h1, h2⟩ := hzz
  refine wpList_make_full w hgd l c 85 hop 0 39 i (.agg (vals zid).toArray) 32 Tryd.underlying85 hi hz h1 .i64 .i64 L C n hl hc hL hC (by rw [h2]; omega) (by unfold maxLen; omega) (Nat.zero_le _) ?_
  intro w' hown hgrow
  rw [show (Value.agg (vals zid).toArray).cells = (vals zid).toArray from rfl, all_rep] at hown
  refine hK w' ?_ ((Below.refl _ _).grown hgrow (Nat.le_refl _) (by intro k h; cases h)) ?_
  · unfold Rw; rw [List.length_replicate]; exact hown
  · rcases hown.2 with ⟨h, _⟩ | ⟨g, cap, cur, h, _, hh, _⟩
    · cases h
    · simp only [Value.slice.injEq, Option.some.injEq, Addr.mk.injEq] at h
      obtain ⟨⟨rfl, _⟩, _⟩ := h
      exact (Array.getElem?_eq_some_iff.1 hh).1
theorem ext_bytes (K : List UInt8) (a b : Nat) : (⟨K.toArray⟩ : ByteArray).extract a b = ⟨((K.drop a).take (b - a)).toArray⟩ := by
  apply ByteArray.ext
  simp [List.extract_eq_take_drop]
/-- The i-th 32 bytes. -/
def pc (K : List UInt8) (i : Nat) : Nm := nmOf ((K.drop (i * 32)).take 32)
/-- The pieces of 32 bytes. -/
def pcs (K : List UInt8) : List Nm := (List.range (K.length / 32)).map (pc K)
/-- The first i are written. -/
def mid (K : List UInt8) (m i : Nat) : List Nm := (List.range i).map (pc K) ++ List.replicate (m - i) zN
theorem mid_l (K : List UInt8) (m i : Nat) (h : i ≤ m) : (mid K m i).length = m := by simp [mid]; omega
theorem mid_s (K : List UInt8) (m i : Nat) (h : i < m) : (mid K m i).set i (pc K i) = mid K m (i + 1) := by
  unfold mid
  rw [List.set_append_right _ _ (by simp), List.length_map, List.length_range, Nat.sub_self, show m - i = (m - (i + 1)) + 1 by omega, List.replicate_succ, List.set_cons_zero, List.range_succ, List.map_append, List.append_assoc]
  simp
/-- Are these one to five names, rising? -/
def nmsOk (K : List UInt8) : Bool := decide (K.length % 32 = 0 ∧ 1 ≤ K.length / 32 ∧ K.length / 32 ≤ 5) && rs ((pcs K).map (·.1)) (K.length / 32 - 1)
def NPost (K : List UInt8) (w : World) (r : Ending) (w' : World) : Prop :=
  ∃ q c L, r = .returned (.tuple #[.slice q L.length c, .bool (nmsOk K)]) ∧ L = (if nmsOk K then pcs K else []) ∧ Rw encN 39 w' q c L ∧ (∀ a, q = some a → w.heap.size ≤ a.block) ∧ Below w.heap.size w w'
theorem NPost.no {K : List UInt8} {w w' : World} (h : nmsOk K = false) (hb : Below w.heap.size w w') : NPost K w (.returned (.tuple #[.slice none 0 0, .bool false])) w' :=
  ⟨none, 0, [], by rw [h]; rfl, by rw [h]; rfl, Rw.empty _ _, (fun a e => by cases e), hb⟩
theorem NPost.of {K : List UInt8} {w w' : World} {r : Ending} (h : NPost K w r w') {P : Ending → World → Prop} (hP : P = NPost K w) : P r w' := by rw [hP]; exact h

set_option maxRecDepth 20000 in
set_option maxHeartbeats 4000000 in
theorem hnames_any (K : List UInt8) (w : World) (hK : K.length ≤ 1000000) : Calls Tryd.prog 45 #[.string ⟨K.toArray⟩] w (NPost K w) := by
  obtain ⟨F, hF⟩ : ∃ F, F = NPost K w := ⟨_, rfl⟩
  have HF := Lib.hid hF
  rw [← hF]
  clear hF
  by_cases h1 : K.length % 32 = 0
  · have e1 : (K.length : Int) % 32 = 0 := by omega
    by_cases h2 : 1 ≤ K.length / 32
    · have e2 : ¬ (K.length : Int) / 32 < 1 := by omega
      by_cases h3 : K.length / 32 ≤ 5
      · have e3 : ¬ 5 < (K.length : Int) / 32 := by omega
        obtain ⟨m, hm⟩ : ∃ m, m = K.length / 32 := ⟨_, rfl⟩
        have HM : Hid ((K.length : Int) / 32 = (m : Int)) := Lib.hid (by omega)
        have H5 : Hid (m ≤ 1000000) := Lib.hid (by omega)
        have h5 : m ≤ 5 := by omega
        have Hm := Lib.hid hm
        have Hk : Hid (m * 32 = K.length ∧ nmsOk K = rs ((pcs K).map (·.1)) (m - 1)) := Lib.hid ⟨by omega, by unfold nmsOk; rw [decide_eq_true ⟨h1, h2, h3⟩, Bool.true_and, ← hm]⟩
        clear h1 h2 h3 hm
        go_enter Tryd.func45, Tryd.ntmps45
        go_wp2_with (at_make; refine wpList_makeN rfl _ _ rfl m _ _ rfl rfl HM.out HM.out H5.out ?_; intro w1 hrw hb1 hlt1)
        obtain ⟨g, hg⟩ : ∃ g, g = w.heap.size := ⟨_, rfl⟩
        obtain ⟨o, ho⟩ : ∃ o, o = 0 := ⟨_, rfl⟩
        rw [← hg] at hrw hlt1 ⊢
        rw [show (some (⟨g, 0, none⟩ : Addr)) = some ⟨g, o, none⟩ by rw [ho]]
        have Hg := Lib.hid hg
        have Ho := Lib.hid ho
        have HR1 : Hid (Rw encN 39 w1 (some ⟨g, 0, none⟩) m (mid K m 0) ∧ Below w.heap.size w w1) := Lib.hid ⟨by simpa [mid] using hrw, hb1⟩
        clear hg ho hrw hb1 hlt1
        go_loopw [6, 26] (fun _ s26 wr => ∃ i : Nat, i ≤ m ∧ s26 = .int .i64 (i : Int) ∧ Hid (Rw encN 39 wr (some ⟨g, 0, none⟩) m (mid K m i) ∧ Below w.heap.size w wr)) (fun _ i _ => m - (intOf i).toNat)
        case atStart => exact ⟨0, Nat.zero_le _, rfl, HR1⟩
        case round =>
          clear HR1
          obtain ⟨i, hi, rfl, HB⟩ := hrel
          by_cases hlt : i < m
          · have i0 : (0 : Int) ≤ i := by omega
            have i1 : (i : Int) < m := by omega
            have hk5 : m * 32 = K.length := Hk.out.1
            have e5 : IntKind.i64.wrap ((i : Int) * 32) = (i : Int) * 32 := IntWalk.i64_in _ (by omega)
            have e6 : IntKind.i64.wrap ((i : Int) + 1) = (i : Int) + 1 := IntWalk.i64_in _ (by omega)
            have e7 : IntKind.i64.wrap (((i : Int) + 1) * 32) = ((i : Int) + 1) * 32 := IntWalk.i64_in _ (by omega)
            have e8 : ((i : Int) * 32).toNat = i * 32 := by omega
            have e9 : (((i : Int) + 1) * 32).toNat = (i + 1) * 32 := by omega
            have e10 : (0 : Int) ≤ (i : Int) * 32 := by omega
            have e11 : (i : Int) * 32 ≤ ((i : Int) + 1) * 32 := by omega
            have e12 : ((i : Int) + 1) * 32 ≤ (K.length : Int) := by omega
            have Hlt := Lib.hid hlt
            obtain ⟨x, hx⟩ : ∃ x, x = pc K i := ⟨_, rfl⟩
            have hname : Hid (∀ w, Calls Tryd.prog 59 #[.string ((⟨K.toArray⟩ : ByteArray).extract (i * 32) ((i + 1) * 32))] w fun r w' => r = .returned (.agg (vals x.1).toArray) ∧ Below w.heap.size w w') := Lib.hid (fun w => by
              rw [hx, ext_bytes, show (i + 1) * 32 - i * 32 = 32 by omega]; exact name_any _ w)
            have HST : Hid (∀ w3, Below wr.heap.size wr w3 → ∃ W4, (Rw encN 39 W4 (some ⟨g, 0, none⟩) m (mid K m (i + 1)) ∧ Below w.heap.size w W4) ∧
                ∀ (oo : Oper) (a : Act), oo.op = .store 39 (.tmp 39) (.tmp 38) → a.eval (.tmp 39) = .pointer (some ⟨g, o + i * 32, none⟩) → a.eval (.tmp 38) = .agg (vals x.1).toArray → (execOp a.eval oo).run Tryd.prog w3 = .ok .skip W4) := Lib.hid (fun w3 hb3 => by
              obtain ⟨cur, hh, hsz, hrw⟩ := (HB.out.1.old hb3).setAt i (by rw [mid_l K m i hi]; exact hlt) x
              rw [hx, mid_s K m i hlt] at hrw
              have hm : Below w.heap.size w w3 := HB.out.2.trans (hb3.mono HB.out.2.size)
              refine ⟨_, ⟨hrw, ((Mod.of_below hm).setRow _).to_below (Nat.le_refl _) (by rintro k hk (h | h) <;> (have := Hg.out; omega))⟩, fun oo a h1 h2 h3 => ?_⟩
              have hof : o + i * 32 = i * 32 := by rw [Ho.out, Nat.zero_add]
              rw [hof] at h2
              have h := exec_store_at (P := Tryd.prog) (w := w3) 39 (.tmp 39) (.tmp 38) h1 g (i * 32) h2 39 cur (vals x.1) h3 hh (by rw [vals_len, x.2]; exact hsz) (by rw [vals_len, x.2]; kernel_rfl) (vals_one x.1)
              rw [vals_len, x.2] at h
              rw [← hx]
              exact h)
            clear hk5 hlt hx HB
            go_wp2_with (first | (refine (hname.out _).mono ?_; rintro r w3 ⟨rfl, hb3⟩; obtain ⟨W4, hw4, hst⟩ := HST.out w3 hb3) | (refine wpList_skip rfl rfl (hst _ _ rfl rfl rfl) ?_))
            have HW4 := Lib.hid hw4
            have hlt := Hlt.out
            clear hst hw4 HST hb3
            go_roundw
            case rel => exact ⟨i + 1, by omega, by go_num, HW4⟩
            case measure => simp [intOf]; omega
          · have hend : mid K m i = pcs K := by
              have e : i = m := by omega
              rw [e]; unfold mid pcs; rw [Nat.sub_self, Hm.out]; simp
            have hpl : (pcs K).length = m := by unfold pcs; rw [List.length_map, List.length_range, Hm.out]
            have i1 : ¬ (i : Int) < m := by omega
            obtain ⟨R, hR⟩ : ∃ R, R = rs ((pcs K).map (·.1)) (m - 1) := ⟨_, rfl⟩
            have HW : Hid (Rw encN 39 wr (some ⟨g, 0, none⟩) m (pcs K) ∧ Below w.heap.size w wr) := Lib.hid ⟨by rw [← hend]; exact HB.out.1, HB.out.2⟩
            have hris : Hid (Calls Tryd.prog 60 #[.slice (some ⟨g, o, none⟩) m m] wr fun r w' => r = .returned (.bool R) ∧ Below wr.heap.size wr w') := Lib.hid (by
              have h := rising_any (some ⟨g, 0, none⟩) m (pcs K) wr HW.out.1.rd (by rw [hpl]; exact H5.out)
              rw [hpl, ← hR] at h
              rw [Ho.out]; exact h)
            have HR : Hid (nmsOk K = R) := Lib.hid (by rw [Hk.out.2, hR])
            have Hpl := Lib.hid hpl
            clear hend hpl hR HB
            cases R with
            | true =>
              go_wp2_with (refine hris.out.mono ?_; rintro r w3 ⟨rfl, hb3⟩)
              rw [HF.out]
              exact ⟨some ⟨g, 0, none⟩, m, pcs K, by rw [HR.out, Hpl.out, Ho.out]; rfl, by rw [HR.out]; rfl, HW.out.1.old hb3, (fun a e => by cases e; exact Nat.le_of_eq Hg.out.symm), HW.out.2.trans (hb3.mono HW.out.2.size)⟩
            | false =>
              go_wp2_with (refine hris.out.mono ?_; rintro r w3 ⟨rfl, hb3⟩)
              rw [HF.out]
              exact NPost.no HR.out (HW.out.2.trans (hb3.mono HW.out.2.size))
      · have hno : Hid (nmsOk K = false) := Lib.hid (by unfold nmsOk; rw [decide_eq_false (by omega)]; rfl)
        have e3 : 5 < (K.length : Int) / 32 := by omega
        clear h1 h2 h3
        go_enter Tryd.func45, Tryd.ntmps45
        go_wp2_with fail
        rw [HF.out]
        exact NPost.no hno.out (Below.refl _ _)
    · have hno : Hid (nmsOk K = false) := Lib.hid (by unfold nmsOk; rw [decide_eq_false (by omega)]; rfl)
      have e2 : (K.length : Int) / 32 < 1 := by omega
      clear h1 h2
      go_enter Tryd.func45, Tryd.ntmps45
      go_wp2_with fail
      rw [HF.out]
      exact NPost.no hno.out (Below.refl _ _)
  · have hno : Hid (nmsOk K = false) := Lib.hid (by unfold nmsOk; rw [decide_eq_false (by omega)]; rfl)
    have e1 : ((K.length : Int) % 32 == 0) = false := by simp; omega
    go_enter Tryd.func45, Tryd.ntmps45
    go_wp2_with fail
    rw [HF.out]
    exact NPost.no hno.out (Below.refl _ _)
end Go.Proofs.YtmodikcghlbigaaDoor

namespace Go.Proofs.YtmodikcghlbigaaDoor
open Go.RowKit

theorem beVal_cons (d : UInt8) (l : List UInt8) : beVal (d :: l) = d.toNat * 256 ^ l.length + beVal l := by
  have key : ∀ (l : List UInt8) (a : Nat), l.foldl (fun a b => a * 256 + b.toNat) a = a * 256 ^ l.length + l.foldl (fun a b => a * 256 + b.toNat) 0 := by
    intro l
    induction l with
    | nil => intro a; simp
    | cons b l ih =>
      intro a
      simp only [List.foldl_cons, List.length_cons, Nat.zero_mul, Nat.zero_add]
      rw [ih (a * 256 + b.toNat), ih b.toNat, Nat.pow_succ, Nat.add_mul, Nat.mul_assoc, Nat.mul_comm 256 (256 ^ l.length), Nat.add_assoc]
  unfold beVal
  rw [List.foldl_cons, Nat.zero_mul, Nat.zero_add, key l d.toNat]
theorem beVal_lt (l : List UInt8) : beVal l < 256 ^ l.length := by
  have := beVal_take_lt l l.length (Nat.le_refl _)
  rwa [List.take_length] at this
theorem beVal_step (l : List UInt8) (k : Nat) (h : k < l.length) : beVal (l.take (k + 1)) = beVal (l.take k) * 256 + (l[k]).toNat := by
  rw [List.take_succ_eq_append_getElem h, beVal_snoc]
theorem beVal_mono (l : List UInt8) (k m : Nat) (hk : k ≤ m) (hm : m ≤ l.length) : beVal (l.take k) ≤ beVal (l.take m) := by
  obtain ⟨j, rfl⟩ : ∃ j, m = k + j := ⟨m - k, by omega⟩
  induction j with
  | zero => exact Nat.le_refl _
  | succ j ih =>
    refine Nat.le_trans (ih (by omega) (by omega)) ?_
    rw [← Nat.add_assoc, beVal_step l (k + j) (by omega)]; omega
theorem beVal_great (c d : UInt8) (r : List UInt8) (h8 : c.toNat ≤ 8) (h0 : c.toNat ≠ 0) (hl : c.toNat ≤ (d :: r).length) : 9223372036854775807 < beVal ((d :: r).take c.toNat) ↔ c.toNat = 8 ∧ 128 ≤ d.toNat := by
  obtain ⟨n, hn⟩ : ∃ n, n + 1 = c.toNat := ⟨c.toNat - 1, by omega⟩
  rw [← hn] at h8 hl ⊢
  rw [List.take_succ_cons, beVal_cons]
  have hln : (r.take n).length = n := by rw [List.length_take]; simp only [List.length_cons] at hl; omega
  have hb := beVal_lt (r.take n)
  rw [hln] at hb ⊢
  have hd := d.toNat_lt
  by_cases h7 : n = 7
  · subst h7
    have e : (256 : Nat) ^ 7 = 72057594037927936 := by decide
    rw [e] at hb ⊢
    omega
  · have e : (256 : Nat) ^ n ≤ 256 ^ 6 := Nat.pow_le_pow_right (by decide) (by omega)
    have e6 : (256 : Nat) ^ 6 = 281474976710656 := by decide
    rw [e6] at e
    have : d.toNat * 256 ^ n ≤ 256 * 281474976710656 := Nat.mul_le_mul (by omega) e
    omega

set_option maxRecDepth 20000 in
set_option maxHeartbeats 1000000 in
theorem rhead_any (s : List UInt8) (w : World) (hl : s.length ≤ 1099511627776) : Calls Tryd.prog 57 #[.string ⟨s.toArray⟩] w (Head3 (headL s) w) := by
  rcases s with _ | ⟨c, r⟩
  · go_enter Tryd.func57, Tryd.ntmps57
    go_wp2
    go_ret3
    exact ⟨rfl, rfl⟩
  have g0 : ({ data := (c :: r).toArray } : ByteArray)[0]'(by simp [ByteArray.size]) = c := rfl
  have hcb := c.toNat_lt
  have hll : r.length + 1 ≤ 1099511627776 := hl
  clear hl
  have z0 : ((r.length : Int) + 1 == 0) = false := by simp; omega
  by_cases h0 : c.toNat = 0
  · have hfin : headL (c :: r) = (0, 1, 0) := by simp [headL, h0]
    rw [hfin]
    have e0 : (c.toNat : Int) = 0 := by omega
    have z2 : ¬ ((r.length : Int) < 0) := by omega
    have z3 : ¬ ((r.length : Int) + 1 - 1 < 0) := by omega
    clear h0 hfin hcb
    go_enter Tryd.func57, Tryd.ntmps57
    go_wp2
    go_loop [6, 7] (fun x i => i = .int .i64 1 ∧ x = .int .i64 0) (fun _ _ => 0)
    case atStart => exact ⟨rfl, rfl⟩
    case round =>
      obtain ⟨rfl, rfl⟩ := hrel
      go_wp2
      go_ret3
      exact ⟨rfl, rfl⟩
  by_cases h1 : 8 < c.toNat
  · have hfin : headL (c :: r) = (0, 0, 3) := by simp [headL, h0, h1]
    rw [hfin]
    clear h0 hfin
    go_enter Tryd.func57, Tryd.ntmps57
    go_wp2
    go_ret3
    exact ⟨rfl, rfl⟩
  have p0 : (0 : Int) < c.toNat := by omega
  have p8 : ¬ (8 < (c.toNat : Int)) := by omega
  rcases r with _ | ⟨d, r⟩
  · have hfin : headL [c] = (0, 0, 2) := by simp [headL, h0, h1]
    rw [hfin]
    clear h0 hfin
    go_enter Tryd.func57, Tryd.ntmps57
    go_wp2
    go_ret3
    exact ⟨rfl, rfl⟩
  have g1 : ({ data := (c :: d :: r).toArray } : ByteArray)[1]'(by simp [ByteArray.size]) = d := rfl
  simp only [List.length_cons] at hll z0
  have z1 : (1 : Int) < (r.length : Int) + 1 + 1 := by omega
  by_cases h2 : d.toNat = 0
  · have hfin : headL (c :: d :: r) = (0, 0, 3) := by simp [headL, h0, h1, h2]
    rw [hfin]
    have t1 : ((d.toNat : Int) == 0) = true := by simp [h2]
    clear h0 h2 hfin
    go_enter Tryd.func57, Tryd.ntmps57
    go_wp2
    go_ret3
    exact ⟨rfl, rfl⟩
  have t1 : ((d.toNat : Int) == 0) = false := by simp [h2]
  by_cases h3 : (d :: r).length < c.toNat
  · have hfin : headL (c :: d :: r) = (0, 0, 2) := by simp only [headL, if_neg h0, if_neg h1, if_neg h2, if_pos h3]
    rw [hfin]
    simp only [List.length_cons] at h3
    have z2 : (r.length : Int) + 1 < c.toNat := by omega
    clear h0 h2 hfin h3
    go_enter Tryd.func57, Tryd.ntmps57
    go_wp2
    go_ret3
    exact ⟨rfl, rfl⟩
  have hgr := beVal_great c d r (by omega) h0 (by omega)
  have z2 : ¬ (r.length : Int) + 1 < c.toNat := by simp only [List.length_cons] at h3; omega
  have hdb := d.toNat_lt
  by_cases h5 : 9223372036854775807 < beVal ((d :: r).take c.toNat)
  · have hfin : headL (c :: d :: r) = (0, 0, 3) := by simp only [headL, if_neg h0, if_neg h1, if_neg h2, if_neg h3, if_pos h5]
    rw [hfin]
    obtain ⟨e8, e128⟩ := hgr.1 h5
    have t8 : ((c.toNat : Int) == 8) = true := by simp [e8]
    have t9 : (128 : Int) ≤ d.toNat := by omega
    clear h0 h2 h3 h5 hfin hgr e8 e128
    go_enter Tryd.func57, Tryd.ntmps57
    go_wp2
    go_ret3
    exact ⟨rfl, rfl⟩
  have hfin : headL (c :: d :: r) = (beVal ((d :: r).take c.toNat), c.toNat + 1, 0) := by simp only [headL, if_neg h0, if_neg h1, if_neg h2, if_neg h3, if_neg h5]
  have Hfin := Lib.hid hfin
  have H5 := Lib.hid h5
  have H3 := Lib.hid h3
  have H0 := Lib.hid h0
  have Hgr := Lib.hid hgr
  have hc8 : c.toNat ≤ 8 := by omega
  clear h0 h2 h3 h5 hfin hgr
  have body : ∀ (b : Bool), ((c.toNat : Int) == 8) = b → (b = true → ¬ (128 : Int) ≤ d.toNat) → Calls Tryd.prog 57 #[.string ⟨(c :: d :: r).toArray⟩] w (Head3 (headL (c :: d :: r)) w) := by
    intro b t8 t9
    cases b
    all_goals
      first | (have t10 := t9 rfl) | skip
      clear t9
      go_enter Tryd.func57, Tryd.ntmps57
      go_wp2
      go_loop [6, 7] (fun x i => ∃ k : Nat, k ≤ c.toNat ∧ i = .int .i64 ((k : Int) + 1) ∧ x = .int .i64 (beVal ((d :: r).take k))) (fun _ i => c.toNat + 1 - (intOf i).toNat)
      case atStart => exact ⟨0, by omega, rfl, rfl⟩
      case round =>
        obtain ⟨k, hk, rfl, rfl⟩ := hrel
        by_cases hlt : k < c.toNat
        · have hkl : k < (d :: r).length := by have := H3.out; omega
          have hkl' : k < r.length + 1 := by simpa using hkl
          have hst := beVal_step (d :: r) k hkl
          have hmo := beVal_mono (d :: r) (k + 1) c.toNat (by omega) (by have := H3.out; omega)
          have h5 := H5.out
          obtain ⟨V, hV⟩ : ∃ V, V = beVal ((d :: r).take k) := ⟨_, rfl⟩
          have hb : (d :: r)[k].toNat < 256 := UInt8.toNat_lt _
          rw [hst] at hmo
          rw [← hV] at hst hmo ⊢
          have hv8 : V ≤ 36028797018963967 := by omega
          have HV := Lib.hid hst
          have gk : ∀ h : k + 1 < (ByteArray.mk (c :: d :: r).toArray).size, (ByteArray.mk (c :: d :: r).toArray)[k + 1]'h = (d :: r)[k] := fun _ => rfl
          have e1 : ((k : Int) + 1).toNat = k + 1 := by omega
          obtain ⟨y, hy⟩ : ∃ y, y = (d :: r)[k] := ⟨_, rfl⟩
          rw [← hy] at hb HV gk
          clear hV hst hmo h5 hy
          go_wp2
          go_round
          case rel => exact ⟨k + 1, by omega, by go_num, by rw [HV.out]; exact val_int (by omega)⟩
          case measure => simp [intOf]; omega
        · obtain rfl : k = c.toNat := by omega
          go_wp2
          go_ret3
          exact ⟨by rw [Hfin.out]; exact ret3 rfl (show (c.toNat : Int) + 1 = ((c.toNat + 1 : Nat) : Int) by omega) rfl, rfl⟩
  by_cases e8 : c.toNat = 8
  · exact body true (by simp [e8]) (fun _ h => by have := Hgr.out.2 ⟨e8, by omega⟩; exact H5.out this)
  · exact body false (by rw [beq_eq_false_iff_ne]; omega) (fun h => by cases h)
end Go.Proofs.YtmodikcghlbigaaDoor

namespace Go.Proofs.YtmodikcghlbigaaDoor
open Go.RowKit

theorem tkinfo : (Tryd.prog.info? 77).map (·.size) = some 2 := by kernel_rfl
def tkc (s : List UInt8) (e : Int) : Array Value := #[.string ⟨s.toArray⟩, .int .i64 e]
theorem tkc_one (s : List UInt8) (e : Int) : ∀ v ∈ (tkc s e).toList, v.oneCell' = true := by
  unfold tkc; intro v hv
  simp only [List.mem_cons, List.not_mem_nil, or_false] at hv
  rcases hv with rfl | rfl <;> rfl
theorem numS_err (e most : Int) (h : e ≠ 0) : numS [] e most = (0, [], e) := by
  unfold numS headL failS; simp [h]
theorem rawS_err (e n : Int) (h : e ≠ 0) : rawS [] e n = ([], [], e) := by
  unfold rawS failS; simp [h]
theorem numS_no (s : List UInt8) (most : Int) (h : (headL s).2.2 ≠ 0) : numS s 0 most = (0, [], (headL s).2.2) := by
  unfold numS failS; simp [h]
theorem numS_big (s : List UInt8) (most : Int) (h : (headL s).2.2 = 0) (hm : most < (headL s).1) : numS s 0 most = (0, [], 4) := by
  unfold numS failS; simp [h, hm]
theorem numS_yes (s : List UInt8) (most : Int) (h : (headL s).2.2 = 0) (hm : ¬ most < (headL s).1) : numS s 0 most = (((headL s).1 : Int), s.drop (headL s).2.1, (0 : Int)) := by
  unfold numS; simp [h, hm]
theorem drop_bytes (s : List UInt8) (k n : Nat) (hn : n = s.length) : (ByteArray.mk s.toArray).extract k n = ⟨(s.drop k).toArray⟩ := by
  subst hn
  apply ByteArray.ext
  apply Array.ext'
  simp
  exact List.take_of_length_le (by simp)
theorem take_bytes (s : List UInt8) (k : Nat) : (ByteArray.mk s.toArray).extract 0 k = ⟨(s.take k).toArray⟩ := by
  apply ByteArray.ext
  apply Array.ext'
  simp

set_option maxRecDepth 20000 in
set_option maxHeartbeats 4000000 in
theorem rtn_any (s : List UInt8) (e most : Int) (w : World) (hl : s.length ≤ 1099511627776) (hinv : e ≠ 0 → s = []) :
    Calls Tryd.prog 39 #[.agg #[.string ⟨s.toArray⟩, .int .i64 e], .int .i64 most] w fun r w' => r = .returned (.tuple #[.agg (tkc (numS s e most).2.1 (numS s e most).2.2), .int .i64 (numS s e most).1]) ∧ Below w.heap.size w w' := by
  obtain ⟨W0, hW0⟩ : ∃ W0, W0 = (w.alloc (.cells #[.string ⟨s.toArray⟩, .int .i64 e] 77)).alloc (.cells #[.string ⟨#[]⟩, .int .i64 0] 77) := ⟨_, rfl⟩
  have b0 : Below w.heap.size w W0 := by rw [hW0]; exact ((Below.refl _ w).alloc (Nat.le_refl _) _).alloc (by simp) _
  have hbx : W0.heap[w.heap.size]? = some (.cells #[.string ⟨s.toArray⟩, .int .i64 e] 77 (0, 0)) := by rw [hW0, Below.heap_alloc _ _ _ (by simp)]; exact heap_alloc_new w _
  have hrs : W0.heap[w.heap.size + 1]? = some (.cells #[.string ⟨#[]⟩, .int .i64 0] 77 (0, 0)) := by rw [hW0]; have := heap_alloc_new (w.alloc (.cells #[.string ⟨s.toArray⟩, .int .i64 e] 77)) (.cells #[.string ⟨#[]⟩, .int .i64 0] 77); simpa using this
  have hfinB : ∀ Y : Array Value, Below w.heap.size w (W0.setRow (w.heap.size + 1) Y) := fun Y => b0.trans (((Mod.refl (fun _ => False) W0).setRow (g := w.heap.size + 1) Y).to_below b0.size (by rintro k hk (h | h) <;> first | exact h | omega))
  have HF := Lib.hid hfinB
  have HW0 := Lib.hid hW0
  clear hW0 b0 hfinB
  have ztk := tkc_one
  by_cases he : e = 0
  case neg =>
    obtain rfl := hinv he
    rw [numS_err e most he]
    have t1 : (e == 0) = false := by simp [he]
    have t2 : (e != 0) = true := by simp [he]
    have L0 := Lib.hid (setRow_heap W0 (w.heap.size + 1) _ (tkc [] e) 77 (0, 0) hrs)
    have q4 := tkc_one [] e
    unfold tkc at L0 q4
    clear he hinv ztk
    go_enter Tryd.func39, Tryd.ntmps39
    go_wp2_with (first | (rw [← HW0.out]; refine wpList_load_row rfl 77 (.tmp 2) rfl w.heap.size rfl 77 _ (0, 0) _ hbx Tryd.underlying77 rfl tkinfo ?_) | (refine wpList_store_row rfl rfl 77 (.tmp 4) (.tmp 12) rfl (w.heap.size + 1) rfl 77 _ _ rfl hrs rfl tkinfo q4 ?_))
    exact bodyPost_ret (v := .tuple #[.agg _, .int .i64 0]) (results_row2 Tryd.results39 _ _ (w.heap.size + 1) 77 _ (0, 0) _ _ rfl rfl L0.out Tryd.underlying77 rfl tkinfo) rfl ⟨rfl, HF.out _⟩
  subst he
  have hk := headL_ok s
  have hhd : Hid (∀ w, Calls Tryd.prog 57 #[.string ⟨s.toArray⟩] w fun r w' => r = .returned (.tuple #[.int .i64 (headL s).1, .int .i64 (headL s).2.1, .int .i64 (headL s).2.2]) ∧ w = w') := Lib.hid (fun w => rhead_any s w hl)
  have hno := numS_no s most
  have hbig := numS_big s most
  have hyes := numS_yes s most
  generalize headL s = p at hk hhd hno hbig hyes
  obtain ⟨x, k, er⟩ := p
  simp only at hk hhd hno hbig hyes
  obtain ⟨l, hlen⟩ : ∃ l, l = s.length := ⟨_, rfl⟩
  have hsz : (ByteArray.mk s.toArray).size = l := by rw [hlen]; rfl
  rw [← hlen] at hl hk
  by_cases z : er = 0
  case neg =>
    rw [hno z]
    have t1 : (er == 0) = false := by simp [z]
    have t2 : (er != 0) = true := by simp [z]
    have L0 := Lib.hid (setRow_heap W0 (w.heap.size + 1) _ (tkc [] er) 77 (0, 0) hrs)
    have q4 := tkc_one [] er
    unfold tkc at L0 q4
    clear hk hno hbig hyes hinv ztk z
    go_enter Tryd.func39, Tryd.ntmps39
    go_wp2_with fail
    rw [← HW0.out]
    refine (hhd.out W0).mono ?_
    rintro r w1 ⟨rfl, rfl⟩
    go_wp2_with (refine wpList_store_row rfl rfl 77 (.tmp 4) (.tmp 30) rfl (w.heap.size + 1) rfl 77 _ _ rfl hrs rfl tkinfo q4 ?_)
    exact bodyPost_ret (v := .tuple #[.agg _, .int .i64 0]) (results_row2 Tryd.results39 _ _ (w.heap.size + 1) 77 _ (0, 0) _ _ rfl rfl L0.out Tryd.underlying77 rfl tkinfo) rfl ⟨rfl, HF.out _⟩
  subst z
  by_cases g : most < (x : Int)
  · rw [hbig rfl g]
    have L0 := Lib.hid (setRow_heap W0 (w.heap.size + 1) _ (tkc [] 4) 77 (0, 0) hrs)
    have q4 := tkc_one [] 4
    unfold tkc at L0 q4
    clear hk hno hbig hyes hinv ztk
    go_enter Tryd.func39, Tryd.ntmps39
    go_wp2_with fail
    rw [← HW0.out]
    refine (hhd.out W0).mono ?_
    rintro r w1 ⟨rfl, rfl⟩
    go_wp2_with (refine wpList_store_row rfl rfl 77 (.tmp 4) (.tmp 30) rfl (w.heap.size + 1) rfl 77 _ _ rfl hrs rfl tkinfo q4 ?_)
    exact bodyPost_ret (v := .tuple #[.agg _, .int .i64 0]) (results_row2 Tryd.results39 _ _ (w.heap.size + 1) 77 _ (0, 0) _ _ rfl rfl L0.out Tryd.underlying77 rfl tkinfo) rfl ⟨rfl, HF.out _⟩
  rw [hyes rfl g]
  have hkl := hk rfl
  have hdb := drop_bytes s k l hlen
  obtain ⟨t, ht⟩ : ∃ t, t = s.drop k := ⟨_, rfl⟩
  rw [← ht] at hdb ⊢
  have L0 := Lib.hid (setRow_heap W0 (w.heap.size + 1) _ (tkc t 0) 77 (0, 0) hrs)
  have q4 := tkc_one t 0
  unfold tkc at L0 q4
  have i0 : (0 : Int) ≤ k := by omega
  have i1 : (k : Int) ≤ l := by omega
  have cbx : W0.cell? ⟨w.heap.size, 0, none⟩ = some (.string ⟨s.toArray⟩) := cell_of_row W0 w.heap.size 0 _ 77 (0, 0) hbx
  have Hlen := Lib.hid hlen
  have Ht := Lib.hid ht
  clear hk hno hbig hyes hinv ztk hlen ht
  go_enter Tryd.func39, Tryd.ntmps39
  go_wp2_with fail
  rw [← HW0.out]
  refine (hhd.out W0).mono ?_
  rintro r w1 ⟨rfl, rfl⟩
  go_wp2_with (refine wpList_store_row rfl rfl 77 (.tmp 4) (.tmp 35) rfl (w.heap.size + 1) rfl 77 _ #[.string ⟨t.toArray⟩, .int .i64 0] (by rw [← hdb]; rfl) hrs rfl tkinfo q4 ?_)
  exact bodyPost_ret (v := .tuple #[.agg _, .int .i64 x]) (results_row2 Tryd.results39 _ _ (w.heap.size + 1) 77 _ (0, 0) _ _ rfl rfl L0.out Tryd.underlying77 rfl tkinfo) rfl ⟨rfl, HF.out _⟩
end Go.Proofs.YtmodikcghlbigaaDoor

namespace Go.Proofs.YtmodikcghlbigaaDoor
open Go.RowKit

set_option maxRecDepth 20000 in
set_option maxHeartbeats 4000000 in
theorem rtr_any (s : List UInt8) (e : Int) (n : Nat) (w : World) (hl : s.length ≤ 1099511627776) (hinv : e ≠ 0 → s = []) :
    Calls Tryd.prog 40 #[.agg #[.string ⟨s.toArray⟩, .int .i64 e], .int .i64 (n : Int)] w fun r w' => r = .returned (.tuple #[.agg (tkc (rawS s e n).2.1 (rawS s e n).2.2), .string ⟨(rawS s e n).1.toArray⟩]) ∧ Below w.heap.size w w' := by
  obtain ⟨W0, hW0⟩ : ∃ W0, W0 = (w.alloc (.cells #[.string ⟨s.toArray⟩, .int .i64 e] 77)).alloc (.cells #[.string ⟨#[]⟩, .int .i64 0] 77) := ⟨_, rfl⟩
  have b0 : Below w.heap.size w W0 := by rw [hW0]; exact ((Below.refl _ w).alloc (Nat.le_refl _) _).alloc (by simp) _
  have hbx : W0.heap[w.heap.size]? = some (.cells #[.string ⟨s.toArray⟩, .int .i64 e] 77 (0, 0)) := by rw [hW0, Below.heap_alloc _ _ _ (by simp)]; exact heap_alloc_new w _
  have hrs : W0.heap[w.heap.size + 1]? = some (.cells #[.string ⟨#[]⟩, .int .i64 0] 77 (0, 0)) := by rw [hW0]; have := heap_alloc_new (w.alloc (.cells #[.string ⟨s.toArray⟩, .int .i64 e] 77)) (.cells #[.string ⟨#[]⟩, .int .i64 0] 77); simpa using this
  have hfinB : ∀ Y : Array Value, Below w.heap.size w (W0.setRow (w.heap.size + 1) Y) := fun Y => b0.trans (((Mod.refl (fun _ => False) W0).setRow (g := w.heap.size + 1) Y).to_below b0.size (by rintro k hk (h | h) <;> first | exact h | omega))
  have hfinB2 : ∀ X Y : Array Value, Below w.heap.size w ((W0.setRow w.heap.size X).setRow (w.heap.size + 1) Y) := fun X Y => b0.trans ((((Mod.refl (fun _ => False) W0).setRow (g := w.heap.size) X).setRow (g := w.heap.size + 1) Y).to_below b0.size (by rintro k hk ((h | h) | h) <;> first | exact h | omega))
  have HF := Lib.hid hfinB
  have HF2 := Lib.hid hfinB2
  have HW0 := Lib.hid hW0
  obtain ⟨l, hlen⟩ : ∃ l, l = s.length := ⟨_, rfl⟩
  have hsz : (ByteArray.mk s.toArray).size = l := by rw [hlen]; rfl
  rw [← hlen] at hl
  clear hW0 b0 hfinB hfinB2
  by_cases he : e = 0
  case neg =>
    obtain rfl := hinv he
    rw [rawS_err e n he]
    have t1 : (e == 0) = false := by simp [he]
    have t2 : (e != 0) = true := by simp [he]
    have L0 := Lib.hid (setRow_heap W0 (w.heap.size + 1) _ (tkc [] e) 77 (0, 0) hrs)
    have q4 := tkc_one [] e
    unfold tkc at L0 q4
    clear he hinv hlen hsz hl
    go_enter Tryd.func40, Tryd.ntmps40
    go_wp2_with (first | (rw [← HW0.out]; refine wpList_load_row rfl 77 (.tmp 2) rfl w.heap.size rfl 77 _ (0, 0) _ hbx Tryd.underlying77 rfl tkinfo ?_) | (refine wpList_store_row rfl rfl 77 (.tmp 4) (.tmp 20) rfl (w.heap.size + 1) rfl 77 _ _ rfl hrs rfl tkinfo q4 ?_))
    exact bodyPost_ret (v := .tuple #[.agg _, .string ⟨#[]⟩]) (results_row2 Tryd.results40 _ _ (w.heap.size + 1) 77 _ (0, 0) _ _ rfl rfl L0.out Tryd.underlying77 rfl tkinfo) rfl ⟨rfl, HF.out _⟩
  subst he
  by_cases hn : l < n
  · have hfin : rawS s 0 n = ([], [], 2) := by unfold rawS failS; rw [if_pos (by omega)]; simp
    rw [hfin]
    have n1 : (l : Int) < n := by omega
    have hbx2 : (W0.setRow w.heap.size (tkc [] 2)).heap[w.heap.size]? = some (.cells (tkc [] 2) 77 (0, 0)) := setRow_heap _ _ _ _ _ _ hbx
    have hrs2 : (W0.setRow w.heap.size (tkc [] 2)).heap[w.heap.size + 1]? = some (.cells #[.string ⟨#[]⟩, .int .i64 0] 77 (0, 0)) := (setRow_other W0 _ _ _ (by omega)).trans hrs
    have L0 := Lib.hid (setRow_heap (W0.setRow w.heap.size (tkc [] 2)) (w.heap.size + 1) _ (tkc [] 2) 77 (0, 0) hrs2)
    have HFF := Lib.hid (HF2.out (tkc [] 2) (tkc [] 2))
    have q4 := tkc_one [] 2
    obtain ⟨W1, hW1⟩ : ∃ W, W = W0.setRow w.heap.size (tkc [] 2) := ⟨_, rfl⟩
    rw [← hW1] at hbx2 hrs2 L0 HFF
    have HW1 := Lib.hid hW1
    have c1 : W1.cell? ⟨w.heap.size, 1, none⟩ = some (.int .i64 2) := cell_of_row W1 w.heap.size 1 _ 77 (0, 0) hbx2
    unfold tkc at L0 q4 hbx2 HFF HW1
    clear hinv hlen hfin hW1
    go_enter Tryd.func40, Tryd.ntmps40
    go_wp2_with (first | (rw [← HW0.out]; refine wpList_store_row rfl rfl 77 (.tmp 2) (.tmp 16) rfl w.heap.size rfl 77 _ _ rfl hbx rfl tkinfo q4 ?_; rw [← HW1.out]) | (refine wpList_load_row rfl 77 (.tmp 2) rfl w.heap.size rfl 77 _ (0, 0) _ hbx2 Tryd.underlying77 rfl tkinfo ?_) | (refine wpList_store_row rfl rfl 77 (.tmp 4) (.tmp 20) rfl (w.heap.size + 1) rfl 77 _ _ rfl hrs2 rfl tkinfo q4 ?_))
    exact bodyPost_ret (v := .tuple #[.agg _, .string ⟨#[]⟩]) (results_row2 Tryd.results40 _ _ (w.heap.size + 1) 77 _ (0, 0) _ _ rfl rfl L0.out Tryd.underlying77 rfl tkinfo) rfl ⟨rfl, HFF.out⟩
  have hfin : rawS s 0 n = (s.take n, s.drop n, 0) := by unfold rawS; rw [if_neg (by omega)]; simp
  rw [hfin]
  have hdb := drop_bytes s n l hlen
  have htb := take_bytes s n
  obtain ⟨tt, ht⟩ : ∃ t, t = s.drop n := ⟨_, rfl⟩
  obtain ⟨u, hu⟩ : ∃ t, t = s.take n := ⟨_, rfl⟩
  rw [← ht] at hdb ⊢
  rw [← hu] at htb ⊢
  have L0 := Lib.hid (setRow_heap W0 (w.heap.size + 1) _ (tkc tt 0) 77 (0, 0) hrs)
  have q4 := tkc_one tt 0
  have HFF := Lib.hid (HF.out (tkc tt 0))
  have HFD : Hid (Below w.heap.size w (W0.drew.setRow (w.heap.size + 1) (tkc tt 0))) := Lib.hid ⟨HFF.out.os, HFF.out.tape, HFF.out.output, HFF.out.size, HFF.out.block⟩
  unfold tkc at L0 q4 HFF HFD
  have i0 : (0 : Int) ≤ n := by omega
  have i1 : (n : Int) ≤ l := by omega
  have i2 : ¬ (l : Int) < n := by omega
  have i3 : n ≤ l := by omega
  have i4 : 0 ≤ n := Nat.zero_le _
  have cbx : W0.cell? ⟨w.heap.size, 0, none⟩ = some (.string ⟨s.toArray⟩) := cell_of_row W0 w.heap.size 0 _ 77 (0, 0) hbx
  have CBX := Lib.hid cbx
  have HRS := Lib.hid hrs
  clear hinv hlen ht hu hfin cbx HF HF2
  go_enter Tryd.func40, Tryd.ntmps40
  go_wp2_with fail
  rw [← HW0.out]
  obtain ⟨g, hg⟩ : ∃ g, g = w.heap.size := ⟨_, rfl⟩
  rw [← hg] at CBX HRS L0 HFD ⊢
  clear HFF
  have Hg := Lib.hid hg
  clear hg
  have HG0 : Hid ((fun (j : Nat) (_ : Value) (w1 : World) => (j = 0 ∧ w1 = W0.drew) ∨ (j = 1 ∧ w1 = W0.drew.setRow (g + 1) #[.string ⟨tt.toArray⟩, .int .i64 0])) 0 undef W0.drew) := Lib.hid (.inl ⟨rfl, rfl⟩)
  refine wp_region_chain (fun t v => match t with
    | 21 => v = .pointer (some ⟨g, 0, none⟩)
    | 22 => v = .string ⟨s.toArray⟩
    | 23 => v = .int .i64 (n : Int)
    | 24 => v = .string ⟨tt.toArray⟩
    | 25 => v = .agg #[.string ⟨tt.toArray⟩, .int .i64 0]
    | 26 => v = .pointer (some ⟨g, 0, none⟩)
    | 27 => v = .string ⟨s.toArray⟩
    | 28 => v = .int .i64 (n : Int)
    | 29 => v = .string ⟨u.toArray⟩
    | 5 => v = .string ⟨u.toArray⟩
    | _ => True) (fun (j : Nat) (_ : Value) (w1 : World) => (j = 0 ∧ w1 = W0.drew) ∨ (j = 1 ∧ w1 = W0.drew.setRow (g + 1) #[.string ⟨tt.toArray⟩, .int .i64 0])) [9] 30 (by kernel_rfl) (by decide +kernel) rfl (by decide +kernel) (by decide) (by decide) HG0.out (by
    refine OweAllC.cons (owesC_val 0 (by decide +kernel) (by decide) rfl rfl fun k' a w1 x hk ha hG hV => ?_) ?_
    · skip
      have h2 := ha.outer 2 (by decide +kernel)
      simp only [Act.eval] at h2
      exact ⟨.pointer (some ⟨g, 0, none⟩), wanted_free rfl, by simp [execOp, go_sem, h2], rfl⟩
    refine OweAllC.cons (owesC_val 0 (by decide +kernel) (by decide) rfl rfl fun k' a w1 x hk ha hG hV => ?_) ?_
    · skip
      have h21 : a.tmps.getD 21 undef = .pointer (some ⟨g, 0, none⟩) := hV.get 21 (by decide +kernel)
      obtain rfl : w1 = W0.drew := by rcases hG with hG | hG; exact hG.2; exact absurd hG.1 (by omega)
      have cc : W0.drew.cell? ⟨g, 0, none⟩ = some (.string ⟨s.toArray⟩) := CBX.out
      exact ⟨.string ⟨s.toArray⟩, wanted_free rfl, by simp [execOp, go_sem, h21, cc], rfl⟩
    refine OweAllC.cons (owesC_val 0 (by decide +kernel) (by decide) rfl rfl fun k' a w1 x hk ha hG hV => ?_) ?_
    · skip
      have h1 := ha.outer 1 (by decide +kernel)
      simp only [Act.eval] at h1
      exact ⟨.int .i64 (n : Int), wanted_free rfl, by simp [execOp, go_sem, h1], rfl⟩
    refine OweAllC.cons (owesC_val 0 (by decide +kernel) (by decide) rfl rfl fun k' a w1 x hk ha hG hV => ?_) ?_
    · skip
      have h22 : a.tmps.getD 22 undef = .string ⟨s.toArray⟩ := hV.get 22 (by decide +kernel)
      have h23 : a.tmps.getD 23 undef = .int .i64 (n : Int) := hV.get 23 (by decide +kernel)
      exact ⟨.string ⟨tt.toArray⟩, wanted_free rfl, by simp [execOp, go_sem, h22, h23, hsz, i1, hdb], rfl⟩
    refine OweAllC.cons (owesC_val 0 (by decide +kernel) (by decide) rfl rfl fun k' a w1 x hk ha hG hV => ?_) ?_
    · skip
      have h24 : a.tmps.getD 24 undef = .string ⟨tt.toArray⟩ := hV.get 24 (by decide +kernel)
      have g24 : a.tmps[24]?.getD undef = .string ⟨tt.toArray⟩ := by simpa using h24
      exact ⟨.agg #[.string ⟨tt.toArray⟩, .int .i64 0], wanted_free rfl, by simp [execOp, go_sem, h24, g24], rfl⟩
    refine OweAllC.cons (owesC_val 1 (by decide +kernel) (by decide) rfl rfl fun k' a w1 x hk ha hG hV => ?_) ?_
    · skip
      have h2 := ha.outer 2 (by decide +kernel)
      simp only [Act.eval] at h2
      exact ⟨.pointer (some ⟨g, 0, none⟩), wanted_free rfl, by simp [execOp, go_sem, h2], rfl⟩
    refine OweAllC.cons (owesC_val 1 (by decide +kernel) (by decide) rfl rfl fun k' a w1 x hk ha hG hV => ?_) ?_
    · skip
      have h26 : a.tmps.getD 26 undef = .pointer (some ⟨g, 0, none⟩) := hV.get 26 (by decide +kernel)
      have cc : w1.cell? ⟨g, 0, none⟩ = some (.string ⟨s.toArray⟩) := by
        rcases hG with ⟨_, rfl⟩ | ⟨_, rfl⟩
        · exact CBX.out
        · exact (World.cell?_of_block (setRow_other W0.drew (g + 1) g _ (by omega))).trans CBX.out
      exact ⟨.string ⟨s.toArray⟩, wanted_free rfl, by simp [execOp, go_sem, h26, cc], rfl⟩
    refine OweAllC.cons (owesC_val 1 (by decide +kernel) (by decide) rfl rfl fun k' a w1 x hk ha hG hV => ?_) ?_
    · skip
      have h1 := ha.outer 1 (by decide +kernel)
      simp only [Act.eval] at h1
      exact ⟨.int .i64 (n : Int), wanted_free rfl, by simp [execOp, go_sem, h1], rfl⟩
    refine OweAllC.cons (owesC_val 1 (by decide +kernel) (by decide) rfl rfl fun k' a w1 x hk ha hG hV => ?_) ?_
    · skip
      have h27 : a.tmps.getD 27 undef = .string ⟨s.toArray⟩ := hV.get 27 (by decide +kernel)
      have h28 : a.tmps.getD 28 undef = .int .i64 (n : Int) := hV.get 28 (by decide +kernel)
      exact ⟨.string ⟨u.toArray⟩, wanted_free rfl, by simp [execOp, go_sem, h27, h28, hsz, i1, htb], rfl⟩
    refine OweAllC.cons (owesC_store 0 rfl rfl rfl fun a w1 x ha hG hx hV => ?_) ?_
    · skip
      have h4 := ha.outer 4 (by decide +kernel)
      simp only [Act.eval] at h4
      have h25 : a.tmps.getD 25 undef = .agg #[.string ⟨tt.toArray⟩, .int .i64 0] := hV.get 25 (by decide +kernel)
      obtain rfl : w1 = W0.drew := by rcases hG with hG | hG; exact hG.2; exact absurd hG.1 (by omega)
      exact ⟨W0.drew.setRow (g + 1) #[.string ⟨tt.toArray⟩, .int .i64 0], wanted_free rfl, exec_store_row 77 (.tmp 4) (.tmp 25) rfl (g + 1) h4 77 _ _ h25 (show W0.drew.heap[g + 1]? = _ from HRS.out) rfl tkinfo q4, .inr ⟨rfl, rfl⟩⟩
    refine OweAllC.cons (owesC_val 1 (by decide +kernel) (by decide) rfl rfl fun k' a w1 x hk ha hG hV => ?_) ?_
    · skip
      have h29 : a.tmps.getD 29 undef = .string ⟨u.toArray⟩ := hV.get 29 (by decide +kernel)
      exact ⟨.string ⟨u.toArray⟩, wanted_free rfl, by simp [execOp, go_sem, h29], rfl⟩
    exact OweAllC.nil
    ) ?_
  intro f wz xz hG hx hv
  have e5 : f 5 = .string ⟨u.toArray⟩ := hv 10 _ 5 rfl rfl
  first | (rename_i hK; refine hK _ _ ?_; clear hK) | (rename_i hK _; refine hK _ _ ?_; clear hK) | (rename_i hK _ _; refine hK _ _ ?_; clear hK) | (rename_i hK _ _ _; refine hK _ _ ?_; clear hK)
  clear hv hx
  simp only [dsts, puts, List.filterMap_cons, List.filterMap_nil, List.foldl_cons, List.foldl_nil, Act.put, List.setIfInBounds_toArray, List.set_cons_succ, List.set_cons_zero, e5]
  clear e5
  obtain ⟨_, rfl⟩ : 1 = 1 ∧ wz = _ := by rcases hG with hG | hG; exact absurd hG.1 (by decide); exact hG
  clear hG HG0
  go_wp2_with fail
  exact bodyPost_ret (v := .tuple #[.agg _, .string ⟨u.toArray⟩]) (results_row2 Tryd.results40 _ _ (g + 1) 77 _ (0, 0) _ _ rfl rfl L0.out Tryd.underlying77 rfl tkinfo) rfl ⟨rfl, by rw [← Hg.out]; exact HFD.out⟩
end Go.Proofs.YtmodikcghlbigaaDoor

namespace Go.Proofs.YtmodikcghlbigaaDoor
open Go.RowKit

theorem numS_back (x most : Int) (h0 : 0 ≤ x) (hx : x ≤ most) (hm : most ≤ 9223372036854775807) (r : List UInt8) : numS (numL x ++ r) 0 most = (x, r, 0) := by
  obtain ⟨n, rfl⟩ : ∃ n : Nat, x = n := ⟨x.toNat, by omega⟩
  have h := headL_num n (by omega) r
  unfold numS
  rw [h]
  simp only [ne_eq, not_true_eq_false, if_false, List.drop_left]
  rw [if_neg (by omega)]
theorem textS_back (s r : List UInt8) (most : Int) (hm : most ≤ 9223372036854775807) (h : (s.length : Int) ≤ most) : textS (numL s.length ++ (s ++ r)) 0 most = (s, r, 0) := by
  unfold textS
  rw [numS_back _ _ (by omega) (by omega) (by omega)]
  simp only [rawS]
  rw [if_neg (by simp; omega)]
  simp
theorem numS_inv (s : List UInt8) (e m : Int) (h : e ≠ 0 → s = []) : (numS s e m).2.2 ≠ 0 → (numS s e m).2.1 = [] := by
  by_cases he : e = 0
  · subst he
    by_cases hh : (headL s).2.2 = 0
    · by_cases hm : m < (headL s).1
      · rw [numS_big s m hh hm]; intro _; rfl
      · rw [numS_yes s m hh hm]; intro h; exact absurd rfl h
    · rw [numS_no s m hh]; intro _; rfl
  · rw [h he, numS_err e m he]; intro _; rfl
theorem rawS_inv (s : List UInt8) (e n : Int) (h : e ≠ 0 → s = []) : (rawS s e n).2.2 ≠ 0 → (rawS s e n).2.1 = [] := by
  by_cases he : e = 0
  · subst he
    unfold rawS failS
    split
    · simp
    · intro h; exact absurd rfl h
  · rw [h he, rawS_err e n he]; intro _; rfl
theorem beBytes_val : ∀ (l : List UInt8), (∀ d r, l = d :: r → d.toNat ≠ 0) → beBytes (beVal l) = l := by
  intro l
  induction hn : l.length using Nat.strongRecOn generalizing l with
  | _ n ih =>
    intro h
    rcases List.eq_nil_or_concat l with rfl | ⟨L, b, rfl⟩
    · exact beBytes_zero
    · rw [List.concat_eq_append] at hn h ⊢
      rw [beVal_snoc]
      have hb := b.toNat_lt
      have hL : ∀ d r, L = d :: r → d.toNat ≠ 0 := fun d r e => h d (r ++ [b]) (by rw [e]; rfl)
      have hpos : 0 < beVal L * 256 + b.toNat := by
        cases L with
        | nil => have := h b [] rfl; simp only [beVal, List.foldl_nil]; omega
        | cons d r =>
          have hd := hL d r rfl
          rw [beVal_cons]
          have : 0 < d.toNat * 256 ^ r.length := Nat.mul_pos (by omega) (Nat.pow_pos (by decide))
          omega
      rw [beBytes_pos _ hpos, show (beVal L * 256 + b.toNat) / 256 = beVal L by omega, show (beVal L * 256 + b.toNat) % 256 = b.toNat by omega]
      rw [ih L.length (by rw [← hn]; simp) L rfl hL]
      simp
theorem headL_fwd (s : List UInt8) (h : (headL s).2.2 = 0) : s = numL (headL s).1 ++ s.drop (headL s).2.1 := by
  rcases s with _ | ⟨c, r⟩
  · exact absurd h (by unfold headL; decide)
  by_cases h0 : c.toNat = 0
  · have hc : c = 0 := UInt8.toNat_inj.1 h0
    subst hc
    have e : headL (0 :: r) = (0, 1, 0) := by simp [headL]
    rw [e]
    have : numL ((0 : Nat) : Int) = [0] := by unfold numL; rw [Int.toNat_natCast, beBytes_zero]; rfl
    rw [this]; rfl
  by_cases h1 : 8 < c.toNat
  · have e : headL (c :: r) = (0, 0, 3) := by simp [headL, h0, h1]
    rw [e] at h; exact absurd h (by decide)
  rcases r with _ | ⟨d, r⟩
  · have e : headL [c] = (0, 0, 2) := by simp [headL, h0, h1]
    rw [e] at h; exact absurd h (by decide)
  by_cases h2 : d.toNat = 0
  · have e : headL (c :: d :: r) = (0, 0, 3) := by simp [headL, h0, h1, h2]
    rw [e] at h; exact absurd h (by decide)
  by_cases h3 : (d :: r).length < c.toNat
  · have e : headL (c :: d :: r) = (0, 0, 2) := by simp only [headL, if_neg h0, if_neg h1, if_neg h2, if_pos h3]
    rw [e] at h; exact absurd h (by decide)
  by_cases h5 : 9223372036854775807 < beVal ((d :: r).take c.toNat)
  · have e : headL (c :: d :: r) = (0, 0, 3) := by simp only [headL, if_neg h0, if_neg h1, if_neg h2, if_neg h3, if_pos h5]
    rw [e] at h; exact absurd h (by decide)
  have e : headL (c :: d :: r) = (beVal ((d :: r).take c.toNat), c.toNat + 1, 0) := by simp only [headL, if_neg h0, if_neg h1, if_neg h2, if_neg h3, if_neg h5]
  rw [e]
  have hb : beBytes (beVal ((d :: r).take c.toNat)) = (d :: r).take c.toNat := beBytes_val _ (fun d' r' e' => by
    obtain ⟨n, hn⟩ : ∃ n, c.toNat = n + 1 := ⟨c.toNat - 1, by omega⟩
    rw [hn, List.take_succ_cons] at e'
    cases e'; exact h2)
  have hl : ((d :: r).take c.toNat).length = c.toNat := by rw [List.length_take]; omega
  unfold numL
  simp only [Int.toNat_natCast, hb, hl]
  have hc : UInt8.ofNat c.toNat = c := by simp
  rw [hc, List.cons_append, List.drop_succ_cons, List.take_append_drop]
theorem numS_fwd (s : List UInt8) (e m : Int) (h : (numS s e m).2.2 = 0) : e = 0 ∧ s = numL (numS s e m).1 ++ (numS s e m).2.1 := by
  by_cases he : e = 0
  · subst he
    refine ⟨rfl, ?_⟩
    by_cases hh : (headL s).2.2 = 0
    · by_cases hm : m < (headL s).1
      · rw [numS_big s m hh hm] at h; exact absurd h (by decide)
      · rw [numS_yes s m hh hm]; exact headL_fwd s hh
    · rw [numS_no s m hh] at h; exact absurd h hh
  · exfalso
    unfold numS failS at h
    split at h
    · simp only at h; split at h
      · exact he h
      · rename_i h2; simp [he] at h2
    · split at h
      · simp only at h; split at h
        · exact he h
        · rename_i h2; simp [he] at h2
      · exact he h
theorem rawS_fwd (s : List UInt8) (e n : Int) (hn : 0 ≤ n) (h : (rawS s e n).2.2 = 0) : e = 0 ∧ s = (rawS s e n).1 ++ (rawS s e n).2.1 ∧ ((rawS s e n).1.length : Int) = n := by
  unfold rawS failS at h ⊢
  split at h
  · simp only at h
    split at h
    · rename_i h2
      rcases h2 with h2 | h2
      · exact absurd h2 (by decide)
      · exact absurd h h2
    · exact absurd h (by decide)
  · rename_i hc
    rw [if_neg hc]
    refine ⟨h, by simp, ?_⟩
    simp only [List.length_take]
    omega
theorem textS_fwd (s : List UInt8) (e m : Int) (h : (textS s e m).2.2 = 0) : e = 0 ∧ s = numL (textS s e m).1.length ++ ((textS s e m).1 ++ (textS s e m).2.1) := by
  unfold textS at h ⊢
  obtain ⟨h1, h2, h3⟩ := rawS_fwd _ _ _ (numS_lo _ _ _) h
  obtain ⟨h4, h5⟩ := numS_fwd _ _ _ h1
  refine ⟨h4, ?_⟩
  rw [← h2, h3]; exact h5
theorem textS_inv (s : List UInt8) (e m : Int) (h : e ≠ 0 → s = []) : (textS s e m).2.2 ≠ 0 → (textS s e m).2.1 = [] := by
  unfold textS; exact rawS_inv _ _ _ (numS_inv _ _ _ h)

/-- Pairs of ints: entries. -/
def encP : Enc (Int × Int) := ⟨fun e => [.int .i64 e.1, .int .i64 e.2], 2, fun _ => rfl, (fun _ v hv => by simp only [List.mem_cons, List.not_mem_nil, or_false] at hv; rcases hv with rfl | rfl <;> rfl), by decide⟩
theorem Rd.pair {w : World} {ao : Option Addr} {L : List (Int × Int)} (h : Rd encP w ao L) (j : Nat) (hj : j < L.length) : ∃ bs off, ao = some ⟨bs, off, none⟩ ∧ bs < w.heap.size ∧ w.cell? ⟨bs, off + j * 2, none⟩ = some (.int .i64 L[j].1) ∧ w.cell? ⟨bs, off + j * 2 + 1, none⟩ = some (.int .i64 L[j].2) := by
  obtain ⟨bs, off, e, hlt, hc⟩ := h j hj
  exact ⟨bs, off, e, hlt, hc 0 _ rfl, hc 1 _ rfl⟩
theorem Rd.int {w : World} {ao : Option Addr} {L : List Int} (h : Rd encI w ao L) (j : Nat) (hj : j < L.length) : ∃ bs off, ao = some ⟨bs, off, none⟩ ∧ bs < w.heap.size ∧ w.cell? ⟨bs, off + j, none⟩ = some (.int .i64 L[j]) := by
  obtain ⟨bs, off, e, hlt, hc⟩ := h j hj
  exact ⟨bs, off, e, hlt, by have := hc 0 _ rfl; simpa [encI] using this⟩
/-- What an int may be. -/
def I64 (x : Int) : Prop := -9223372036854775808 ≤ x ∧ x ≤ 9223372036854775807

/-- A certificate. -/
structure Ct where
  inst : Int
  base : List UInt8
  fin : List UInt8
  sg : List Int
  ch : List (Int × Int)
/-- Its cells. -/
def ctc (c : Ct) (p q : Option Addr) (cp cq : Nat) : Array Value := #[.int .i64 c.inst, .string ⟨c.base.toArray⟩, .string ⟨c.fin.toArray⟩, .slice p c.sg.length cp, .slice q c.ch.length cq]
theorem ctc_one (c : Ct) (p q : Option Addr) (cp cq : Nat) : ∀ v ∈ (ctc c p q cp cq).toList, v.oneCell' = true := by
  unfold ctc; intro v hv
  simp only [List.mem_cons, List.not_mem_nil, or_false] at hv
  rcases hv with rfl | rfl | rfl | rfl | rfl <;> rfl
/-- Its lists lie there. -/
def CtAt (w : World) (c : Ct) (p q : Option Addr) : Prop := Rd encI w p c.sg ∧ Rd encP w q c.ch
theorem CtAt.old {w w' : World} {c : Ct} {p q : Option Addr} (h : CtAt w c p q) (hb : Below w.heap.size w w') : CtAt w' c p q := ⟨h.1.old hb, h.2.old hb⟩

/-- Do entries rise behind p, with miners and powers that may be? -/
def good (least : Int) : Int → List (Int × Int) → Bool
  | _, [] => true
  | p, e :: r => decide (p < e.1 ∧ e.1 < 64 ∧ least ≤ e.2 ∧ e.2 ≤ 1099511627776) && good least e.1 r
/-- The miner ahead of the i-th. -/
def bef (E : List (Int × Int)) (i : Nat) : Int := if i = 0 then -1 else (E.getD (i - 1) (0, 0)).1
def goodI (least : Int) (E : List (Int × Int)) (i : Nat) : Bool := decide (bef E i < (E.getD i (0, 0)).1 ∧ (E.getD i (0, 0)).1 < 64 ∧ least ≤ (E.getD i (0, 0)).2 ∧ (E.getD i (0, 0)).2 ≤ 1099511627776)
theorem good_drop (least : Int) (E : List (Int × Int)) : ∀ (k i : Nat), E.length - i = k → i ≤ E.length → good least (bef E i) (E.drop i) = (List.range' i (E.length - i)).all (goodI least E) := by
  intro k
  induction k with
  | zero =>
    intro i hk hi
    have e : i = E.length := by omega
    rw [e, List.drop_length, Nat.sub_self]; rfl
  | succ k ih =>
    intro i hk hi
    have hlt : i < E.length := by omega
    rw [List.drop_eq_getElem_cons hlt, show E.length - i = (E.length - (i + 1)) + 1 by omega, List.range'_succ, List.all_cons, ← ih (i + 1) (by omega) (by omega)]
    have hg : E.getD i (0, 0) = E[i] := by rw [List.getD_eq_getElem?_getD, List.getElem?_eq_getElem hlt]; rfl
    show (decide (bef E i < E[i].1 ∧ _) && good least E[i].1 _) = _
    unfold goodI
    rw [hg, show bef E (i + 1) = E[i].1 by unfold bef; rw [if_neg (by omega), Nat.add_sub_cancel, hg]]
theorem good_at {least : Int} {E : List (Int × Int)} : good least (-1) E = true ↔ ∀ i, i < E.length → goodI least E i = true := by
  have h := good_drop least E _ 0 rfl (Nat.zero_le _)
  rw [List.drop_zero, show bef E 0 = -1 from rfl] at h
  rw [h, List.all_eq_true]
  simp only [List.mem_range'_1]
  exact ⟨fun h i hi => h i ⟨Nat.zero_le _, by omega⟩, fun h i hi => h i (by omega)⟩
theorem good_no {least : Int} {E : List (Int × Int)} {i : Nat} (hi : i < E.length) (h : goodI least E i = false) : good least (-1) E = false := by
  cases hg : good least (-1) E with
  | false => rfl
  | true => rw [good_at.1 hg i hi] at h; cases h
theorem good_yes {least : Int} {E : List (Int × Int)} (h : ∀ i, i < E.length → goodI least E i = true) : good least (-1) E = true := good_at.2 h
/-- Do signers rise behind p, as miners? -/
def rise : Int → List Int → Bool
  | _, [] => true
  | p, m :: r => decide (p < m ∧ m < 64) && rise m r
def befS (S : List Int) (i : Nat) : Int := if i = 0 then -1 else S.getD (i - 1) 0
def riseI (S : List Int) (i : Nat) : Bool := decide (befS S i < S.getD i 0 ∧ S.getD i 0 < 64)
theorem rise_drop (E : List Int) : ∀ (k i : Nat), E.length - i = k → i ≤ E.length → rise (befS E i) (E.drop i) = (List.range' i (E.length - i)).all (riseI E) := by
  intro k
  induction k with
  | zero =>
    intro i hk hi
    have e : i = E.length := by omega
    rw [e, List.drop_length, Nat.sub_self]; rfl
  | succ k ih =>
    intro i hk hi
    have hlt : i < E.length := by omega
    rw [List.drop_eq_getElem_cons hlt, show E.length - i = (E.length - (i + 1)) + 1 by omega, List.range'_succ, List.all_cons, ← ih (i + 1) (by omega) (by omega)]
    have hg : E.getD i 0 = E[i] := by rw [List.getD_eq_getElem?_getD, List.getElem?_eq_getElem hlt]; rfl
    show (decide (befS E i < E[i] ∧ _) && rise E[i] _) = _
    unfold riseI
    rw [hg, show befS E (i + 1) = E[i] by unfold befS; rw [if_neg (by omega), Nat.add_sub_cancel, hg]]
theorem rise_at {E : List Int} : rise (-1) E = true ↔ ∀ i, i < E.length → riseI E i = true := by
  have h := rise_drop E _ 0 rfl (Nat.zero_le _)
  rw [List.drop_zero, show befS E 0 = -1 from rfl] at h
  rw [h, List.all_eq_true]
  simp only [List.mem_range'_1]
  exact ⟨fun h i hi => h i ⟨Nat.zero_le _, by omega⟩, fun h i hi => h i (by omega)⟩
theorem rise_no {E : List Int} {i : Nat} (hi : i < E.length) (h : riseI E i = false) : rise (-1) E = false := by
  cases hg : rise (-1) E with
  | false => rfl
  | true => rw [rise_at.1 hg i hi] at h; cases h
theorem rise_yes {E : List Int} (h : ∀ i, i < E.length → riseI E i = true) : rise (-1) E = true := rise_at.2 h
/-- May the certificate be? -/
def ck (c : Ct) : Int := if 64 < c.sg.length ∨ 64 < c.ch.length then 4 else if c.inst < 0 ∨ 1073741824 < c.inst ∨ nmsOk c.base = false ∨ nmsOk c.fin = false ∨ good 0 (-1) c.ch = false ∨ rise (-1) c.sg = false then 1 else 0
/-- One that may be. -/
structure CtOk (c : Ct) : Prop where
  ns : c.sg.length ≤ 64
  nc : c.ch.length ≤ 64
  i0 : 0 ≤ c.inst
  i1 : c.inst ≤ 1073741824
  kb : nmsOk c.base = true
  kf : nmsOk c.fin = true
  g : good 0 (-1) c.ch = true
  r : rise (-1) c.sg = true
theorem ck_ok {c : Ct} : ck c = 0 ↔ CtOk c := by
  unfold ck
  constructor
  · intro h
    by_cases h1 : 64 < c.sg.length ∨ 64 < c.ch.length
    · rw [if_pos h1] at h; cases h
    · rw [if_neg h1] at h
      by_cases h2 : c.inst < 0 ∨ 1073741824 < c.inst ∨ nmsOk c.base = false ∨ nmsOk c.fin = false ∨ good 0 (-1) c.ch = false ∨ rise (-1) c.sg = false
      · rw [if_pos h2] at h; cases h
      · simp only [not_or, Bool.not_eq_false] at h1 h2
        exact ⟨by omega, by omega, by omega, by omega, h2.2.2.1, h2.2.2.2.1, h2.2.2.2.2.1, h2.2.2.2.2.2⟩
  · rintro ⟨a, b, c0, d, e, f, g, h⟩
    rw [if_neg (by omega), if_neg (by rw [e, f, g, h]; simp; omega)]
theorem CtOk.key {K : List UInt8} (h : nmsOk K = true) : K.length ≤ 160 := by
  unfold nmsOk at h
  rw [Bool.and_eq_true, decide_eq_true_eq] at h
  omega
theorem good_mem {least p : Int} : ∀ {E : List (Int × Int)}, good least p E = true → -1 ≤ p → ∀ e ∈ E, 0 ≤ e.1 ∧ e.1 < 64 ∧ least ≤ e.2 ∧ e.2 ≤ 1099511627776 := by
  intro E
  induction E generalizing p with
  | nil => intro _ _ e he; simp at he
  | cons x r ih =>
    intro h hp e he
    unfold good at h
    rw [Bool.and_eq_true, decide_eq_true_eq] at h
    rcases List.mem_cons.1 he with rfl | he
    · omega
    · exact ih h.2 (by omega) e he
theorem rise_mem {p : Int} : ∀ {S : List Int}, rise p S = true → -1 ≤ p → ∀ m ∈ S, 0 ≤ m ∧ m < 64 := by
  intro E
  induction E generalizing p with
  | nil => intro _ _ e he; simp at he
  | cons x r ih =>
    intro h hp e he
    unfold rise at h
    rw [Bool.and_eq_true, decide_eq_true_eq] at h
    rcases List.mem_cons.1 he with rfl | he
    · omega
    · exact ih h.2 (by omega) e he
/-- The bytes of numbers, of entries, of a certificate. -/
def sB (S : List Int) : List UInt8 := S.flatMap numL
def eB (E : List (Int × Int)) : List UInt8 := E.flatMap fun e => numL e.1 ++ numL e.2
def ctB (c : Ct) : List UInt8 := numL c.inst ++ (numL c.base.length ++ c.base) ++ (numL c.fin.length ++ c.fin) ++ numL c.sg.length ++ sB c.sg ++ numL c.ch.length ++ eB c.ch
theorem sB_take (S : List Int) (i : Nat) (h : i < S.length) : sB (S.take (i + 1)) = sB (S.take i) ++ numL S[i] := by
  unfold sB; rw [List.take_succ_eq_append_getElem h, List.flatMap_append]; simp
theorem eB_take (S : List (Int × Int)) (i : Nat) (h : i < S.length) : eB (S.take (i + 1)) = eB (S.take i) ++ (numL S[i].1 ++ numL S[i].2) := by
  unfold eB; rw [List.take_succ_eq_append_getElem h, List.flatMap_append]; simp
theorem sB_len (S : List Int) (h : ∀ x ∈ S, x ≤ 18446744073709551615) : (sB S).length ≤ 9 * S.length := by
  induction S with
  | nil => simp [sB]
  | cons x l ih =>
    have h1 := numL_len x (h x (by simp))
    have h2 := ih (fun y hy => h y (by simp [hy]))
    rw [show sB (x :: l) = numL x ++ sB l by simp [sB], List.length_append, List.length_cons]; omega
theorem eB_len (S : List (Int × Int)) (h : ∀ x ∈ S, x.1 ≤ 18446744073709551615 ∧ x.2 ≤ 18446744073709551615) : (eB S).length ≤ 18 * S.length := by
  induction S with
  | nil => simp [eB]
  | cons x l ih =>
    have h1 := numL_len x.1 (h x (by simp)).1
    have h1' := numL_len x.2 (h x (by simp)).2
    have h2 := ih (fun y hy => h y (by simp [hy]))
    rw [show eB (x :: l) = numL x.1 ++ numL x.2 ++ eB l by simp [eB], List.length_append, List.length_append, List.length_cons]; omega
theorem ctB_len {c : Ct} (h : CtOk c) : (ctB c).length ≤ 4000 := by
  have h1 := numL_len c.inst (by have := h.i1; omega)
  have kb := CtOk.key h.kb
  have kf := CtOk.key h.kf
  have h2 := numL_len (c.base.length : Int) (by omega)
  have h3 := numL_len (c.fin.length : Int) (by omega)
  have ns := h.ns
  have nc := h.nc
  have h4 := numL_len (c.sg.length : Int) (by omega)
  have h5 := numL_len (c.ch.length : Int) (by omega)
  have h6 := sB_len c.sg (fun x hx => by have := rise_mem h.r (by decide) x hx; omega)
  have h7 := eB_len c.ch (fun x hx => by have := good_mem h.g (by decide) x hx; omega)
  unfold ctB
  simp only [List.length_append]
  omega

/-- Numbers that are taken. -/
def intS : Nat → List UInt8 → Int → List Int × List UInt8 × Int
  | 0, s, e => ([], s, e)
  | k + 1, s, e => ((intS k s e).1 ++ [(numS (intS k s e).2.1 (intS k s e).2.2 4611686018427387904).1], (numS (intS k s e).2.1 (intS k s e).2.2 4611686018427387904).2)
theorem intS_len (k : Nat) (s : List UInt8) (e : Int) : (intS k s e).1.length = k := by
  induction k with
  | zero => rfl
  | succ k ih => simp [intS, ih]
theorem intS_short (k : Nat) (s : List UInt8) (e : Int) : (intS k s e).2.1.length ≤ s.length := by
  induction k with
  | zero => exact Nat.le_refl _
  | succ k ih => exact Nat.le_trans (numS_len _ _ _) ih
theorem intS_inv (k : Nat) (s : List UInt8) (e : Int) (h : e ≠ 0 → s = []) : (intS k s e).2.2 ≠ 0 → (intS k s e).2.1 = [] := by
  induction k with
  | zero => exact h
  | succ k ih => exact numS_inv _ _ _ ih
theorem sB_snoc (S : List Int) (x : Int) : sB (S ++ [x]) = sB S ++ numL x := by simp [sB]
theorem eB_snoc (S : List (Int × Int)) (x : Int × Int) : eB (S ++ [x]) = eB S ++ (numL x.1 ++ numL x.2) := by simp [eB]
theorem intS_fwd (k : Nat) (s : List UInt8) (e : Int) (h : (intS k s e).2.2 = 0) : e = 0 ∧ s = sB (intS k s e).1 ++ (intS k s e).2.1 := by
  induction k with
  | zero => exact ⟨h, rfl⟩
  | succ k ih =>
    obtain ⟨h1, h2⟩ := numS_fwd _ _ _ h
    obtain ⟨h3, h4⟩ := ih h1
    refine ⟨h3, ?_⟩
    show s = sB ((intS k s e).1 ++ [_]) ++ _
    rw [sB_snoc, List.append_assoc]
    refine h4.trans ?_
    congr 1
theorem sB_drop (S : List Int) (k : Nat) (h : k < S.length) : sB (S.drop k) = numL S[k] ++ sB (S.drop (k + 1)) := by
  rw [List.drop_eq_getElem_cons h]; unfold sB; rw [List.flatMap_cons]
theorem eB_drop (S : List (Int × Int)) (k : Nat) (h : k < S.length) : eB (S.drop k) = (numL S[k].1 ++ numL S[k].2) ++ eB (S.drop (k + 1)) := by
  rw [List.drop_eq_getElem_cons h]; unfold eB; rw [List.flatMap_cons]
theorem intS_back (S : List Int) (r : List UInt8) (h : ∀ x ∈ S, 0 ≤ x ∧ x ≤ 4611686018427387904) : ∀ k, k ≤ S.length → intS k (sB S ++ r) 0 = (S.take k, sB (S.drop k) ++ r, 0) := by
  intro k
  induction k with
  | zero => intro _; rfl
  | succ k ih =>
    intro hk
    have hx := h S[k] (List.getElem_mem (by omega))
    have e := ih (by omega)
    unfold intS
    rw [e]
    simp only
    rw [sB_drop S k (by omega), List.append_assoc, numS_back _ _ hx.1 hx.2 (by omega), List.take_succ_eq_append_getElem (by omega : k < S.length)]
/-- Entries that are taken. -/
def prS : Nat → List UInt8 → Int → List (Int × Int) × List UInt8 × Int
  | 0, s, e => ([], s, e)
  | k + 1, s, e =>
    let a := numS (prS k s e).2.1 (prS k s e).2.2 4611686018427387904
    let b := numS a.2.1 a.2.2 4611686018427387904
    ((prS k s e).1 ++ [(a.1, b.1)], b.2)
theorem prS_len (k : Nat) (s : List UInt8) (e : Int) : (prS k s e).1.length = k := by
  induction k with
  | zero => rfl
  | succ k ih => simp [prS, ih]
theorem prS_short (k : Nat) (s : List UInt8) (e : Int) : (prS k s e).2.1.length ≤ s.length := by
  induction k with
  | zero => exact Nat.le_refl _
  | succ k ih => exact Nat.le_trans (numS_len _ _ _) (Nat.le_trans (numS_len _ _ _) ih)
theorem prS_inv (k : Nat) (s : List UInt8) (e : Int) (h : e ≠ 0 → s = []) : (prS k s e).2.2 ≠ 0 → (prS k s e).2.1 = [] := by
  induction k with
  | zero => exact h
  | succ k ih => exact numS_inv _ _ _ (numS_inv _ _ _ ih)
theorem prS_fwd (k : Nat) (s : List UInt8) (e : Int) (h : (prS k s e).2.2 = 0) : e = 0 ∧ s = eB (prS k s e).1 ++ (prS k s e).2.1 := by
  induction k with
  | zero => exact ⟨h, rfl⟩
  | succ k ih =>
    obtain ⟨h1, h2⟩ := numS_fwd _ _ _ h
    obtain ⟨h3, h4⟩ := numS_fwd _ _ _ h1
    obtain ⟨h5, h6⟩ := ih h3
    refine ⟨h5, ?_⟩
    show s = eB ((prS k s e).1 ++ [_]) ++ _
    rw [eB_snoc, List.append_assoc]
    refine h6.trans ?_
    rw [List.append_assoc]
    congr 1
    refine h4.trans ?_
    congr 1
theorem prS_back (S : List (Int × Int)) (r : List UInt8) (h : ∀ x ∈ S, (0 ≤ x.1 ∧ x.1 ≤ 4611686018427387904) ∧ 0 ≤ x.2 ∧ x.2 ≤ 4611686018427387904) : ∀ k, k ≤ S.length → prS k (eB S ++ r) 0 = (S.take k, eB (S.drop k) ++ r, 0) := by
  intro k
  induction k with
  | zero => intro _; rfl
  | succ k ih =>
    intro hk
    have hx := h S[k] (List.getElem_mem (by omega))
    have e := ih (by omega)
    unfold prS
    rw [e]
    simp only
    rw [eB_drop S k (by omega), List.append_assoc, List.append_assoc, numS_back _ _ hx.1.1 hx.1.2 (by omega)]
    simp only
    rw [numS_back _ _ hx.2.1 hx.2.2 (by omega), List.take_succ_eq_append_getElem (by omega : k < S.length)]
/-- A certificate that is taken, and what is left. -/
def takeC (s : List UInt8) : Ct × List UInt8 × Int :=
  let a := numS s 0 4611686018427387904
  let b := textS a.2.1 a.2.2 160
  let c := textS b.2.1 b.2.2 160
  let n := numS c.2.1 c.2.2 64
  let S := intS n.1.toNat n.2.1 n.2.2
  let m := numS S.2.1 S.2.2 64
  let E := prS m.1.toNat m.2.1 m.2.2
  (⟨a.1, b.1, c.1, S.1, E.1⟩, E.2)
theorem takeC_inv (s : List UInt8) : (takeC s).2.2 ≠ 0 → (takeC s).2.1 = [] :=
  prS_inv _ _ _ (numS_inv _ _ _ (intS_inv _ _ _ (numS_inv _ _ _ (textS_inv _ _ _ (textS_inv _ _ _ (numS_inv _ _ _ (fun h => absurd rfl h)))))))
theorem takeC_few (s : List UInt8) : (takeC s).1.sg.length ≤ 64 ∧ (takeC s).1.ch.length ≤ 64 := by
  have h1 : ∀ (s : List UInt8) (e : Int), (numS s e 64).1.toNat ≤ 64 := fun s e => by have := numS_hi s e 64 (by decide); omega
  constructor
  · show (intS _ _ _).1.length ≤ 64
    rw [intS_len]; exact h1 _ _
  · show (prS _ _ _).1.length ≤ 64
    rw [prS_len]; exact h1 _ _
theorem rawS_fit (s : List UInt8) (e n : Int) : (rawS s e n).1.length ≤ s.length := by
  unfold rawS; split
  · simp
  · simp only [List.length_take]; omega
theorem takeC_lens (s : List UInt8) (h : s.length ≤ 1000000) : (takeC s).1.base.length ≤ 1000000 ∧ (takeC s).1.fin.length ≤ 1000000 := by
  constructor
  · show (textS _ _ _).1.length ≤ 1000000
    exact Nat.le_trans (rawS_fit _ _ _) (Nat.le_trans (numS_len _ _ _) (Nat.le_trans (numS_len _ _ _) h))
  · show (textS _ _ _).1.length ≤ 1000000
    exact Nat.le_trans (rawS_fit _ _ _) (Nat.le_trans (numS_len _ _ _) (Nat.le_trans (textS_len _ _ _) (Nat.le_trans (numS_len _ _ _) h)))
theorem takeC_fwd (s : List UInt8) (he : (takeC s).2.2 = 0) (hr : (takeC s).2.1 = []) : ctB (takeC s).1 = s := by
  obtain ⟨a, ha⟩ : ∃ a, a = numS s 0 4611686018427387904 := ⟨_, rfl⟩
  obtain ⟨b, hb⟩ : ∃ b, b = textS a.2.1 a.2.2 160 := ⟨_, rfl⟩
  obtain ⟨c, hc⟩ : ∃ c, c = textS b.2.1 b.2.2 160 := ⟨_, rfl⟩
  obtain ⟨n, hn⟩ : ∃ n, n = numS c.2.1 c.2.2 64 := ⟨_, rfl⟩
  obtain ⟨S, hS⟩ : ∃ S, S = intS n.1.toNat n.2.1 n.2.2 := ⟨_, rfl⟩
  obtain ⟨m, hm⟩ : ∃ m, m = numS S.2.1 S.2.2 64 := ⟨_, rfl⟩
  obtain ⟨E, hE⟩ : ∃ E, E = prS m.1.toNat m.2.1 m.2.2 := ⟨_, rfl⟩
  have ht : takeC s = (⟨a.1, b.1, c.1, S.1, E.1⟩, E.2) := by rw [hE, hm, hS, hn, hc, hb, ha]; rfl
  rw [ht] at he hr ⊢
  simp only at he hr ⊢
  obtain ⟨e6, f6⟩ := prS_fwd m.1.toNat m.2.1 m.2.2 (by rw [← hE]; exact he)
  obtain ⟨e5, f5⟩ := numS_fwd S.2.1 S.2.2 64 (by rw [← hm]; exact e6)
  obtain ⟨e4, f4⟩ := intS_fwd n.1.toNat n.2.1 n.2.2 (by rw [← hS]; exact e5)
  obtain ⟨e3, f3⟩ := numS_fwd c.2.1 c.2.2 64 (by rw [← hn]; exact e4)
  obtain ⟨e2, f2⟩ := textS_fwd b.2.1 b.2.2 160 (by rw [← hc]; exact e3)
  obtain ⟨e1, f1⟩ := textS_fwd a.2.1 a.2.2 160 (by rw [← hb]; exact e2)
  obtain ⟨-, f0⟩ := numS_fwd s 0 4611686018427387904 (by rw [← ha]; exact e1)
  rw [← ha] at f0; rw [← hb] at f1; rw [← hc] at f2; rw [← hn] at f3; rw [← hS] at f4; rw [← hm] at f5; rw [← hE] at f6
  have ln : (S.1.length : Int) = n.1 := by
    have h0 := numS_lo c.2.1 c.2.2 64
    rw [← hn] at h0
    rw [hS, intS_len]; omega
  have lm : (E.1.length : Int) = m.1 := by
    have h0 := numS_lo S.2.1 S.2.2 64
    rw [← hm] at h0
    rw [hE, prS_len]; omega
  unfold ctB
  simp only
  rw [ln, lm, f0, f1, f2, f3, f4, f5, f6, hr]
  simp [List.append_assoc]
theorem takeC_back {c : Ct} (h : CtOk c) : takeC (ctB c) = (c, [], 0) := by
  obtain ⟨inst, base, fin, sg, ch⟩ := c
  obtain ⟨ns, nc, i0, i1, kb, kf, hg, hr⟩ := h
  simp only at *
  have kb := CtOk.key kb
  have kf := CtOk.key kf
  have e0 : ctB ⟨inst, base, fin, sg, ch⟩ = numL inst ++ (numL base.length ++ (base ++ (numL fin.length ++ (fin ++ (numL sg.length ++ (sB sg ++ (numL ch.length ++ (eB ch ++ [])))))))) := by
    simp [ctB, List.append_assoc]
  have a1 := numS_back inst 4611686018427387904 i0 (by omega) (by omega) (numL base.length ++ (base ++ (numL fin.length ++ (fin ++ (numL sg.length ++ (sB sg ++ (numL ch.length ++ (eB ch ++ []))))))))
  have a2 := textS_back base (numL fin.length ++ (fin ++ (numL sg.length ++ (sB sg ++ (numL ch.length ++ (eB ch ++ [])))))) 160 (by omega) (by omega)
  have a3 := textS_back fin (numL sg.length ++ (sB sg ++ (numL ch.length ++ (eB ch ++ [])))) 160 (by omega) (by omega)
  have a4 := numS_back (sg.length : Int) 64 (by omega) (by omega) (by omega) (sB sg ++ (numL ch.length ++ (eB ch ++ [])))
  have a5 := intS_back sg (numL ch.length ++ (eB ch ++ [])) (fun x hx => by have := rise_mem hr (by decide) x hx; omega) sg.length (Nat.le_refl _)
  have a6 := numS_back (ch.length : Int) 64 (by omega) (by omega) (by omega) (eB ch ++ [])
  have a7 := prS_back ch [] (fun x hx => by have := good_mem hg (by decide) x hx; omega) ch.length (Nat.le_refl _)
  rw [List.take_length, List.drop_length] at a5 a7
  unfold takeC
  rw [e0]
  simp only [a1, a2, a3, a4, Int.toNat_natCast, a5, show sB [] = [] from rfl, List.nil_append, a6, a7, show eB [] = [] from rfl]
/-- What Parse answers: the error, the certificate. -/
def parE (s : List UInt8) : Int := if (takeC s).2.2 = 0 then (if (takeC s).2.1 = [] then ck (takeC s).1 else 3) else (takeC s).2.2
def zct : Ct := ⟨0, [], [], [], []⟩
def parC (s : List UInt8) : Ct := if parE s = 0 then (takeC s).1 else zct
theorem parE_ok {s : List UInt8} (h : parE s = 0) : CtOk (takeC s).1 ∧ ctB (takeC s).1 = s := by
  unfold parE at h
  by_cases h1 : (takeC s).2.2 = 0
  · rw [if_pos h1] at h
    by_cases h2 : (takeC s).2.1 = []
    · rw [if_pos h2] at h; exact ⟨ck_ok.1 h, takeC_fwd s h1 h2⟩
    · rw [if_neg h2] at h; cases h
  · rw [if_neg h1] at h; exact absurd h h1
theorem par_back {c : Ct} (h : CtOk c) : parE (ctB c) = 0 ∧ parC (ctB c) = c := by
  have e : parE (ctB c) = 0 := by
    unfold parE; rw [takeC_back h]; simp only [if_true]; exact ck_ok.2 h
  refine ⟨e, ?_⟩
  unfold parC; rw [if_pos e, takeC_back h]
theorem ctB_inj {c d : Ct} (hc : CtOk c) (hd : CtOk d) (h : ctB c = ctB d) : c = d := by
  have h1 := (par_back hc).2
  rw [h, (par_back hd).2] at h1
  exact h1.symm
end Go.Proofs.YtmodikcghlbigaaDoor

namespace Go.Proofs.YtmodikcghlbigaaDoor
open Go.RowKit

theorem goodI_iff {least : Int} {E : List (Int × Int)} {i : Nat} (hi : i < E.length) : goodI least E i = true ↔ bef E i < E[i].1 ∧ E[i].1 < 64 ∧ least ≤ E[i].2 ∧ E[i].2 ≤ 1099511627776 := by
  unfold goodI
  rw [show E.getD i (0, 0) = E[i] by rw [List.getD_eq_getElem?_getD, List.getElem?_eq_getElem hi]; rfl, decide_eq_true_iff]
theorem bef_succ {E : List (Int × Int)} {i : Nat} (hi : i < E.length) : bef E (i + 1) = E[i].1 := by
  unfold bef; rw [if_neg (by omega), Nat.add_sub_cancel, show E.getD i (0, 0) = E[i] by rw [List.getD_eq_getElem?_getD, List.getElem?_eq_getElem hi]; rfl]
theorem riseI_iff {E : List Int} {i : Nat} (hi : i < E.length) : riseI E i = true ↔ befS E i < E[i] ∧ E[i] < 64 := by
  unfold riseI
  rw [show E.getD i 0 = E[i] by rw [List.getD_eq_getElem?_getD, List.getElem?_eq_getElem hi]; rfl, decide_eq_true_iff]
theorem befS_succ {E : List Int} {i : Nat} (hi : i < E.length) : befS E (i + 1) = E[i] := by
  unfold befS; rw [if_neg (by omega), Nat.add_sub_cancel, show E.getD i 0 = E[i] by rw [List.getD_eq_getElem?_getD, List.getElem?_eq_getElem hi]; rfl]
/-- The first i are good. -/
def Gi (least : Int) (E : List (Int × Int)) (i : Nat) : Prop := ∀ j, j < i → goodI least E j = true
theorem Gi.next {least : Int} {E : List (Int × Int)} {i : Nat} (h : Gi least E i) (h2 : goodI least E i = true) : Gi least E (i + 1) := fun j hj => by
  rcases Nat.lt_or_ge j i with h3 | h3
  · exact h j h3
  · have : j = i := by omega
    rw [this]; exact h2
def Gs (E : List Int) (i : Nat) : Prop := ∀ j, j < i → riseI E j = true
theorem Gs.next {E : List Int} {i : Nat} (h : Gs E i) (h2 : riseI E i = true) : Gs E (i + 1) := fun j hj => by
  rcases Nat.lt_or_ge j i with h3 | h3
  · exact h j h3
  · have : j = i := by omega
    rw [this]; exact h2

set_option maxRecDepth 20000 in
set_option maxHeartbeats 4000000 in
theorem pmay_any (ao : Option Addr) (cap : Nat) (least : Int) (E : List (Int × Int)) (w : World) (hS : Rd encP w ao E) (hl : E.length ≤ 1000000) :
    Calls Tryd.prog 41 #[.slice ao E.length cap, .int .i64 least] w fun r w' => r = .returned (.bool (good least (-1) E)) ∧ Below w.heap.size w w' := by
  obtain ⟨res, hres⟩ : ∃ r, r = good least (-1) E := ⟨_, rfl⟩
  obtain ⟨n, hn⟩ : ∃ n, E.length = n := ⟨_, rfl⟩
  rw [hn] at hl ⊢
  rw [← hres]
  have HR := Lib.hid hres
  have Hn := Lib.hid hn
  have HS := Lib.hid hS
  clear hn hS hres
  go_enter Tryd.func41, Tryd.ntmps41
  go_wp2_with fail
  go_loopw [5, 10] (fun s5 s10 wr => ∃ i : Nat, i ≤ n ∧ s5 = .int .i64 (bef E i) ∧ s10 = .int .i64 (i : Int) ∧ Hid (Gi least E i ∧ Below w.heap.size w wr)) (fun _ i _ => n - (intOf i).toNat)
  case atStart => exact ⟨0, by omega, rfl, rfl, Lib.hid ⟨(fun j hj => by omega), Below.refl _ _⟩⟩
  case round =>
    obtain ⟨i, hi, rfl, rfl, hG⟩ := hrel
    by_cases hin : i < n
    · have hil : i < E.length := by rw [Hn.out]; exact hin
      obtain ⟨bs, off, rfl, hbs, c1, c2⟩ := (HS.out.old hG.out.2).pair i hil
      have hif := goodI_iff (least := least) hil
      have hno := Lib.hid (fun h => good_no (least := least) hil h)
      have hbs2 := bef_succ hil
      obtain ⟨m, hm0⟩ : ∃ m, m = E[i].1 := ⟨_, rfl⟩
      obtain ⟨p, hp0⟩ : ∃ m, m = E[i].2 := ⟨_, rfl⟩
      obtain ⟨z, hz⟩ : ∃ z, z = bef E i := ⟨_, rfl⟩
      rw [← hm0] at c1 hbs2
      rw [← hp0] at c2
      rw [← hm0, ← hp0, ← hz] at hif
      rw [← hz]
      have HB := Lib.hid hbs2
      have HI := Lib.hid hif
      have HF : Hid (¬ (z < m ∧ m < 64 ∧ least ≤ p ∧ p ≤ 1099511627776) → res = false) := Lib.hid (fun h => by
        rw [HR.out]
        refine hno.out ?_
        cases hg : goodI least E i with
        | false => rfl
        | true => exact absurd (hif.1 hg) h)
      have i1 : (i : Int) < n := by omega
      have i0 : (0 : Int) ≤ i := by omega
      have HB2 : Hid (Below w.heap.size w (wr.alloc (.cells #[.int .i64 m, .int .i64 p] 57))) := Lib.hid (hG.out.2.alloc hG.out.2.size _)
      have HG := Lib.hid hG.out.1
      clear hbs2 hm0 hp0 hz hG hif hno
      by_cases b1 : m ≤ z
      · obtain rfl := HF.out (by omega)
        go_wp2_with fail
        go_ret
        exact ⟨rfl, HB2.out⟩
      · by_cases b2 : (64 : Int) ≤ m
        · obtain rfl := HF.out (by omega)
          go_wp2_with fail
          go_ret
          exact ⟨rfl, HB2.out⟩
        · by_cases b3 : p < least
          · obtain rfl := HF.out (by omega)
            go_wp2_with fail
            go_ret
            exact ⟨rfl, HB2.out⟩
          · by_cases b4 : (1099511627776 : Int) < p
            · obtain rfl := HF.out (by omega)
              go_wp2_with fail
              go_ret
              exact ⟨rfl, HB2.out⟩
            · have hgn : Hid (Gi least E (i + 1)) := Lib.hid (HG.out.next (HI.out.2 ⟨by omega, by omega, by omega, by omega⟩))
              clear HI
              have b2' : m < 64 := by omega
              go_wp2_with fail
              go_roundw
              case rel => exact ⟨i + 1, by omega, by rw [HB.out], by go_num, Lib.hid ⟨hgn.out, HB2.out⟩⟩
              case measure => simp [intOf]; omega
    · have e : i = n := by omega
      have i1 : ¬ (i : Int) < n := by omega
      have HT : Hid (res = true) := Lib.hid (by rw [HR.out]; exact good_yes (by rw [Hn.out, ← e]; exact hG.out.1))
      have HB := Lib.hid hG.out.2
      obtain rfl := HT.out
      clear hG
      go_wp2_with fail
      go_ret
      exact ⟨rfl, HB.out⟩

set_option maxRecDepth 20000 in
set_option maxHeartbeats 4000000 in
theorem krising_any (ao : Option Addr) (cap : Nat) (E : List Int) (w : World) (hS : Rd encI w ao E) (hl : E.length ≤ 1000000) :
    Calls Tryd.prog 25 #[.slice ao E.length cap] w fun r w' => r = .returned (.bool (rise (-1) E)) ∧ Below w.heap.size w w' := by
  obtain ⟨res, hres⟩ : ∃ r, r = rise (-1) E := ⟨_, rfl⟩
  obtain ⟨n, hn⟩ : ∃ n, E.length = n := ⟨_, rfl⟩
  rw [hn] at hl ⊢
  rw [← hres]
  have HR := Lib.hid hres
  have Hn := Lib.hid hn
  have HS := Lib.hid hS
  clear hn hS hres
  go_enter Tryd.func25, Tryd.ntmps25
  go_wp2_with fail
  go_loopw [3, 8] (fun s5 s10 wr => ∃ i : Nat, i ≤ n ∧ s5 = .int .i64 (befS E i) ∧ s10 = .int .i64 (i : Int) ∧ Hid (Gs E i ∧ Below w.heap.size w wr)) (fun _ i _ => n - (intOf i).toNat)
  case atStart => exact ⟨0, by omega, rfl, rfl, Lib.hid ⟨(fun j hj => by omega), Below.refl _ _⟩⟩
  case round =>
    obtain ⟨i, hi, rfl, rfl, hG⟩ := hrel
    by_cases hin : i < n
    · have hil : i < E.length := by rw [Hn.out]; exact hin
      obtain ⟨bs, off, rfl, hbs, c1⟩ := (HS.out.old hG.out.2).int i hil
      have hif := riseI_iff hil
      have hno := Lib.hid (fun h => rise_no hil h)
      have hbs2 := befS_succ hil
      obtain ⟨m, hm0⟩ : ∃ m, m = E[i] := ⟨_, rfl⟩
      obtain ⟨z, hz⟩ : ∃ z, z = befS E i := ⟨_, rfl⟩
      rw [← hm0] at c1 hbs2
      rw [← hm0, ← hz] at hif
      rw [← hz]
      have HB := Lib.hid hbs2
      have HI := Lib.hid hif
      have HF : Hid (¬ (z < m ∧ m < 64) → res = false) := Lib.hid (fun h => by
        rw [HR.out]
        refine hno.out ?_
        cases hg : riseI E i with
        | false => rfl
        | true => exact absurd (hif.1 hg) h)
      have i1 : (i : Int) < n := by omega
      have i0 : (0 : Int) ≤ i := by omega
      have HB2 : Hid (Below w.heap.size w wr) := Lib.hid hG.out.2
      have HG := Lib.hid hG.out.1
      clear hbs2 hm0 hz hG hif hno
      by_cases b1 : m ≤ z
      · obtain rfl := HF.out (by omega)
        go_wp2_with fail
        go_ret
        exact ⟨rfl, HB2.out⟩
      · by_cases b2 : (64 : Int) ≤ m
        · obtain rfl := HF.out (by omega)
          go_wp2_with fail
          go_ret
          exact ⟨rfl, HB2.out⟩
        · have hgn : Hid (Gs E (i + 1)) := Lib.hid (HG.out.next (HI.out.2 ⟨by omega, by omega⟩))
          clear HI
          have b2' : m < 64 := by omega
          go_wp2_with fail
          go_roundw
          case rel => exact ⟨i + 1, by omega, by rw [HB.out], by go_num, Lib.hid ⟨hgn.out, HB2.out⟩⟩
          case measure => simp [intOf]; omega
    · have e : i = n := by omega
      have i1 : ¬ (i : Int) < n := by omega
      have HT : Hid (res = true) := Lib.hid (by rw [HR.out]; exact rise_yes (by rw [Hn.out, ← e]; exact hG.out.1))
      have HB := Lib.hid hG.out.2
      obtain rfl := HT.out
      clear hG
      go_wp2_with fail
      go_ret
      exact ⟨rfl, HB.out⟩
end Go.Proofs.YtmodikcghlbigaaDoor

namespace Go.Proofs.YtmodikcghlbigaaDoor
open Go.RowKit

theorem pc_val (K : List UInt8) (i : Nat) (h : (i + 1) * 32 ≤ K.length) : (pc K i).1 = (K.drop (i * 32)).take 32 := by
  unfold pc nmOf
  exact idL_self _ (by rw [List.length_take, List.length_drop]; omega)
theorem pcs_getD (K : List UInt8) (i : Nat) (h : (i + 1) * 32 ≤ K.length) : ((pcs K).map (·.1)).getD i [] = (K.drop (i * 32)).take 32 := by
  have hlt : i < K.length / 32 := by omega
  rw [← pc_val K i h, List.getD_eq_getElem?_getD, List.getElem?_map]
  unfold pcs
  rw [List.getElem?_map, List.getElem?_range hlt]; rfl
theorem rs_pcs (K : List UInt8) (i : Nat) (h : (i + 2) * 32 ≤ K.length) : rs ((pcs K).map (·.1)) (i + 1) = (rs ((pcs K).map (·.1)) i && Op.bytesLess ((K.drop (i * 32)).take 32) ((K.drop ((i + 1) * 32)).take 32)) := by
  rw [rs_succ, pcs_getD K i (by omega), pcs_getD K (i + 1) (by omega), less_cmp]

theorem toList_mk (s : List UInt8) : (⟨s.toArray⟩ : ByteArray).toList = s := by simp

set_option maxRecDepth 20000 in
set_option maxHeartbeats 4000000 in
theorem rkey_any (K : List UInt8) (w : World) (hK : K.length ≤ 1000000) : Calls Tryd.prog 27 #[.string ⟨K.toArray⟩] w fun r w' => r = .returned (.bool (nmsOk K)) ∧ Below w.heap.size w w' := by
  obtain ⟨res, hres⟩ : ∃ r, r = nmsOk K := ⟨_, rfl⟩
  rw [← hres]
  by_cases h0 : K.length = 0
  · have hno : Hid (res = false) := Lib.hid (by rw [hres]; unfold nmsOk; rw [decide_eq_false (by omega)]; rfl)
    obtain rfl := hno.out
    have e0 : ((K.length : Int) == 0) = true := by simp [h0]
    clear h0 hres
    go_enter Tryd.func27, Tryd.ntmps27
    go_wp2_with fail
    go_ret
    exact ⟨rfl, Below.refl _ _⟩
  have e0 : ((K.length : Int) == 0) = false := by rw [beq_eq_false_iff_ne]; omega
  by_cases h1 : 160 < K.length
  · have hno : Hid (res = false) := Lib.hid (by rw [hres]; unfold nmsOk; rw [decide_eq_false (by omega)]; rfl)
    obtain rfl := hno.out
    have e1 : (160 : Int) < K.length := by omega
    clear h0 h1 hres
    go_enter Tryd.func27, Tryd.ntmps27
    go_wp2_with fail
    go_ret
    exact ⟨rfl, Below.refl _ _⟩
  have e1 : ¬ (160 : Int) < K.length := by omega
  by_cases h2 : K.length % 32 = 0
  case neg =>
    have hno : Hid (res = false) := Lib.hid (by rw [hres]; unfold nmsOk; rw [decide_eq_false (by omega)]; rfl)
    obtain rfl := hno.out
    have e2 : (0 : Int) < (K.length : Int) % 32 := by omega
    clear h0 h1 hres h2
    go_enter Tryd.func27, Tryd.ntmps27
    go_wp2_with fail
    go_ret
    exact ⟨rfl, Below.refl _ _⟩
  have e2 : ¬ (0 : Int) < (K.length : Int) % 32 := by omega
  obtain ⟨m, hm⟩ : ∃ m, K.length = (m + 1) * 32 := ⟨K.length / 32 - 1, by omega⟩
  have HR : Hid (res = rs ((pcs K).map (·.1)) m) := Lib.hid (by
    rw [hres]; unfold nmsOk
    rw [decide_eq_true (by omega), Bool.true_and, show K.length / 32 - 1 = m by omega])
  have Hm := Lib.hid hm
  have hm5 : m ≤ 4 := by omega
  clear h0 h1 h2 hres hm
  go_enter Tryd.func27, Tryd.ntmps27
  go_wp2_with fail
  go_loopw [3] (fun s3 wr => ∃ k b : Nat, k ≤ m ∧ s3 = .int .i64 (b : Int) ∧ Hid (b = (k + 1) * 32 ∧ rs ((pcs K).map (·.1)) k = true ∧ Below w.heap.size w wr)) (fun i _ => (m + 2) * 32 - (intOf i).toNat)
  case atStart => exact ⟨0, 32, Nat.zero_le _, rfl, Lib.hid ⟨rfl, rfl, Below.refl _ _⟩⟩
  case round =>
    obtain ⟨k, b, hk, rfl, hG⟩ := hrel
    have hml := Hm.out
    have hb := hG.out.1
    by_cases hlt : k < m
    · have b1 : (b : Int) < (K.length : Int) := by omega
      have HN := Lib.hid (rs_pcs K k (by omega))
      obtain ⟨L, hL⟩ : ∃ L, L = Op.bytesLess ((K.drop (k * 32)).take 32) ((K.drop ((k + 1) * 32)).take 32) := ⟨_, rfl⟩
      have HL : Hid (rs ((pcs K).map (·.1)) (k + 1) = L) := Lib.hid (by rw [HN.out, hG.out.2.1, Bool.true_and, hL])
      obtain ⟨A, hA⟩ : ∃ A : ByteArray, A = ⟨((K.drop (k * 32)).take 32).toArray⟩ := ⟨_, rfl⟩
      obtain ⟨B, hB⟩ : ∃ A : ByteArray, A = ⟨((K.drop ((k + 1) * 32)).take 32).toArray⟩ := ⟨_, rfl⟩
      have hcmp : Op.bytesLess A.toList B.toList = L := by
        rw [hL, hA, hB, toList_mk, toList_mk]
      have q1 : IntKind.i64.wrap ((b : Int) - 32) = ((k * 32 : Nat) : Int) := by rw [IntKind.wrap_i64]; omega
      have q2 : IntKind.i64.wrap ((b : Int) + 32) = (((k + 2) * 32 : Nat) : Int) := by rw [IntKind.wrap_i64]; omega
      have x1 : (ByteArray.mk K.toArray).extract (k * 32) b = A := by rw [ext_bytes, hA, show b - k * 32 = 32 by omega]
      have x2 : (ByteArray.mk K.toArray).extract b ((k + 2) * 32) = B := by rw [ext_bytes, hB, show (k + 2) * 32 - b = 32 by omega, hb]
      have HB := Lib.hid hG.out.2.2
      obtain ⟨a, ha⟩ : ∃ a : Nat, a = k * 32 := ⟨_, rfl⟩
      obtain ⟨c, hc⟩ : ∃ a : Nat, a = (k + 2) * 32 := ⟨_, rfl⟩
      rw [← ha] at x1 q1
      rw [← hc] at x2 q2
      have j0 : (0 : Int) ≤ a := by omega
      have j1 : (a : Int) ≤ b := by omega
      have j2 : (b : Int) ≤ K.length := by omega
      have j3 : (b : Int) ≤ c := by omega
      have j4 : (c : Int) ≤ K.length := by omega
      have j5 : (0 : Int) ≤ b := by omega
      have Hb := Lib.hid hb
      have Hc := Lib.hid hc
      have Hlt := Lib.hid hlt
      have Hk := Lib.hid hk
      clear hA hB hL HN hG hml ha hc hb hlt hk Hm
      go_wp2_with fail
      go_quiet (fail)
      cases L with
      | true =>
        go_wp2_with fail
        go_roundw
        case rel => exact ⟨k + 1, c, by have := Hlt.out; omega, by go_num, Lib.hid ⟨by rw [Hc.out], HL.out, below_drewN HB.out _⟩⟩
        case measure => have h1 := Hb.out; have h2 := Hc.out; have h3 := Hk.out; simp [intOf]; omega
      | false =>
        have HF : Hid (res = false) := Lib.hid (by
          obtain ⟨d, hd⟩ : ∃ d, m = k + 1 + d := ⟨m - (k + 1), by have := Hlt.out; omega⟩
          rw [HR.out]; exact rs_stop HL.out (by have := Hlt.out; omega))
        obtain rfl := HF.out
        go_wp2_with fail
        go_ret
        exact ⟨rfl, below_drewN HB.out _⟩
    · have HT : Hid (res = true) := Lib.hid (by rw [HR.out, show m = k by omega]; exact hG.out.2.1)
      have HB := Lib.hid hG.out.2.2
      have b1 : ¬ (b : Int) < (K.length : Int) := by omega
      obtain rfl := HT.out
      clear hG hml hb Hm
      go_wp2_with fail
      go_ret
      exact ⟨rfl, HB.out⟩
theorem Gi.lo {least : Int} {E : List (Int × Int)} : ∀ i, i ≤ E.length → Gi least E i → -1 ≤ bef E i := by
  intro i
  induction i with
  | zero => intro _ _; exact Int.le_refl _
  | succ i ih =>
    intro hi h
    have h1 := ih (by omega) (fun j hj => h j (by omega))
    have h2 := (goodI_iff (by omega : i < E.length)).1 (h i (by omega))
    rw [bef_succ (by omega : i < E.length)]; omega

set_option maxRecDepth 20000 in
set_option maxHeartbeats 8000000 in
theorem pchk_any (ao : Option Addr) (cap : Nat) (least : Int) (E : List (Int × Int)) (w : World) (hS : Rd encP w ao E) (hl : E.length ≤ 1000000) :
    Calls Tryd.prog 28 #[.slice ao E.length cap, .int .i64 least] w fun r w' => r = .returned (.int .i64 (if 64 < E.length then 4 else if good least (-1) E then 0 else 1)) ∧ Below w.heap.size w w' := by
  obtain ⟨res, hres⟩ : ∃ r : Int, r = if 64 < E.length then 4 else if good least (-1) E then 0 else 1 := ⟨_, rfl⟩
  rw [← hres]
  obtain ⟨n, hn⟩ : ∃ n, E.length = n := ⟨_, rfl⟩
  rw [hn] at hl hres ⊢
  by_cases h64 : 64 < n
  · have HT : Hid (res = 4) := Lib.hid (by rw [hres, if_pos h64])
    obtain rfl := HT.out
    have b1 : (64 : Int) < n := by omega
    clear h64 hres hn hS
    go_enter Tryd.func28, Tryd.ntmps28
    go_wp2_with fail
    go_ret
    exact ⟨rfl, Below.refl _ _⟩
  have HR : Hid (res = if good least (-1) E then 0 else 1) := Lib.hid (by rw [hres, if_neg h64])
  have Hn := Lib.hid hn
  have HS := Lib.hid hS
  have hl2 : ¬ (64 : Int) < n := by omega
  clear hn hS hres h64
  go_enter Tryd.func28, Tryd.ntmps28
  go_wp2_with fail
  go_loopw [5, 12] (fun _ s12 wr => ∃ i : Nat, i ≤ n ∧ s12 = .int .i64 (i : Int) ∧ Hid (Gi least E i ∧ Below w.heap.size w wr)) (fun _ i _ => n - (intOf i).toNat)
  case atStart => exact ⟨0, by omega, rfl, Lib.hid ⟨(fun j hj => by omega), Below.refl _ _⟩⟩
  case round =>
    obtain ⟨i, hi, rfl, hG⟩ := hrel
    by_cases hin : i < n
    · have hil : i < E.length := by rw [Hn.out]; exact hin
      obtain ⟨bs, off, rfl, hbs, c1, c2⟩ := (HS.out.old hG.out.2).pair i hil
      have hif := goodI_iff (least := least) hil
      have hno := Lib.hid (fun h => good_no (least := least) hil h)
      have hprev : Hid (∀ (j : Nat) (e : i = j + 1), ∃ m' : Int, bef E i = m' ∧ wr.cell? ⟨bs, off + j * 2, none⟩ = some (.int .i64 m')) := Lib.hid (fun j e => by
        obtain ⟨bs', off', e', _, d1, _⟩ := (HS.out.old hG.out.2).pair j (by omega)
        cases e'
        exact ⟨E[j].1, by subst e; exact bef_succ (by omega), d1⟩)
      have hb0 : Hid (i = 0 → bef E i = -1) := Lib.hid (fun e => by unfold bef; rw [if_pos e])
      obtain ⟨m, hm0⟩ : ∃ m, m = E[i].1 := ⟨_, rfl⟩
      obtain ⟨p, hp0⟩ : ∃ m, m = E[i].2 := ⟨_, rfl⟩
      obtain ⟨z, hz⟩ : ∃ z, z = bef E i := ⟨_, rfl⟩
      rw [← hm0] at c1
      rw [← hp0] at c2
      rw [← hm0, ← hp0, ← hz] at hif
      rw [← hz] at hprev hb0
      have HI := Lib.hid hif
      have HF : Hid (¬ (z < m ∧ m < 64 ∧ least ≤ p ∧ p ≤ 1099511627776) → res = 1) := Lib.hid (fun h => by
        have hf : good least (-1) E = false := by
          refine hno.out ?_
          cases hg : goodI least E i with
          | false => rfl
          | true => exact absurd (hif.1 hg) h
        rw [HR.out, hf]; rfl)
      have i1 : (i : Int) < n := by omega
      have i0 : (0 : Int) ≤ i := by omega
      have HB2 : Hid (Below w.heap.size w (wr.alloc (.cells #[.int .i64 m, .int .i64 p] 75))) := Lib.hid (hG.out.2.alloc hG.out.2.size _)
      have HBW : Hid (Below wr.heap.size wr (wr.alloc (.cells #[.int .i64 m, .int .i64 p] 75))) := Lib.hid ((Below.refl _ _).alloc (Nat.le_refl _) _)
      have HG := Lib.hid hG.out.1
      have HZL : Hid (-1 ≤ z) := Lib.hid (by rw [hz]; exact Gi.lo i (by omega) hG.out.1)
      clear hm0 hp0 hz hG hif hno
      go_upto_region 6 with fail
      have hrow : (wr.alloc (.cells #[.int .i64 m, .int .i64 p] 75)).heap[wr.heap.size]? = some (.cells #[.int .i64 m, .int .i64 p] 75 (0, 0)) := heap_alloc_new _ _
      have hprev2 : Hid (∀ (j : Nat) (e : i = j + 1), ∃ m' : Int, z = m' ∧ (wr.alloc (.cells #[.int .i64 m, .int .i64 p] 75)).cell? ⟨bs, off + j * 2, none⟩ = some (.int .i64 m')) := Lib.hid (fun j e => by
        obtain ⟨m', h1, h2⟩ := hprev.out j e
        exact ⟨m', h1, (HBW.out.cell (p := ⟨bs, off + j * 2, none⟩) hbs).trans h2⟩)
      clear HBW hprev
      generalize wr.alloc (.cells #[.int .i64 m, .int .i64 p] 75) = W at *
      generalize wr.heap.size = g at *
      have cS0 : W.cell? ⟨g, 0, none⟩ = some (.int .i64 m) := by rw [cell_of_row W g 0 _ 75 (0, 0) hrow]; rfl
      have cS1 : W.cell? ⟨g, 1, none⟩ = some (.int .i64 p) := by rw [cell_of_row W g 1 _ 75 (0, 0) hrow]; rfl
      clear hrow
      by_cases f1 : m < 0
      · have hzl := HZL.out
        obtain rfl := HF.out (by omega)
        clear hprev2 hb0
        go_quiet (fail)
        go_wp2_with fail
        go_ret
        exact ⟨rfl, below_drewN HB2.out _⟩
      · by_cases f2 : (63 : Int) < m
        · obtain rfl := HF.out (by omega)
          clear hprev2 hb0
          go_quiet (fail)
          go_wp2_with fail
          go_ret
          exact ⟨rfl, below_drewN HB2.out _⟩
        · by_cases f3 : p < least
          · obtain rfl := HF.out (by omega)
            clear hprev2 hb0
            go_quiet (fail)
            go_wp2_with fail
            go_ret
            exact ⟨rfl, below_drewN HB2.out _⟩
          · by_cases f4 : (1099511627776 : Int) < p
            · obtain rfl := HF.out (by omega)
              clear hprev2 hb0
              go_quiet (fail)
              go_wp2_with fail
              go_ret
              exact ⟨rfl, below_drewN HB2.out _⟩
            · by_cases hi0 : i = 0
              · have hz0 := hb0.out hi0
                have hgn : Hid (Gi least E (i + 1)) := Lib.hid (HG.out.next (HI.out.2 ⟨by omega, by omega, by omega, by omega⟩))
                have d0 : decide ((0 : Int) < (i : Int)) = false := by simp; omega
                clear hprev2 hb0 HI
                go_quiet (fail)
                go_wp2_with fail
                go_roundw
                case rel => exact ⟨i + 1, by omega, by go_num, Lib.hid ⟨hgn.out, below_drewN HB2.out _⟩⟩
                case measure => simp [intOf]; omega
              · obtain ⟨j, hj⟩ : ∃ j, i = j + 1 := ⟨i - 1, by omega⟩
                obtain ⟨m', hbe, cP⟩ := hprev2.out j hj
                have f5 : (0 : Int) < i := by omega
                have f6 : IntKind.i64.wrap ((i : Int) - 1) = (j : Int) := by rw [IntKind.wrap_i64]; omega
                have j0 : (0 : Int) ≤ j := by omega
                have j1 : (j : Int) < n := by omega
                by_cases f7 : m ≤ m'
                · obtain rfl := HF.out (by omega)
                  clear hprev2 hb0
                  go_quiet (fail)
                  go_wp2_with fail
                  go_ret
                  exact ⟨rfl, below_drewN HB2.out _⟩
                · have hgn : Hid (Gi least E (i + 1)) := Lib.hid (HG.out.next (HI.out.2 ⟨by omega, by omega, by omega, by omega⟩))
                  clear hprev2 hb0 HI
                  go_quiet (fail)
                  go_wp2_with fail
                  go_roundw
                  case rel => exact ⟨i + 1, by omega, by go_num, Lib.hid ⟨hgn.out, below_drewN HB2.out _⟩⟩
                  case measure => simp [intOf]; omega
    · have e : i = n := by omega
      have HT : Hid (res = 0) := Lib.hid (by rw [HR.out, if_pos (good_yes (by rw [Hn.out, ← e]; exact hG.out.1))])
      have HB := Lib.hid hG.out.2
      have i1 : ¬ (i : Int) < n := by omega
      obtain rfl := HT.out
      clear hG
      go_wp2_with fail
      go_ret
      exact ⟨rfl, HB.out⟩
end Go.Proofs.YtmodikcghlbigaaDoor
