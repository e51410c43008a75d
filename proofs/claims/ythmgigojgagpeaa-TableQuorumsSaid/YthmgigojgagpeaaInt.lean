/- Rows of ints that own their cells: append. -/
import Derived.Test.YthmgigojgagpeaaT7
namespace Go.Proofs.Ythmgigojgagpeaa
open Go.RowKit

/-- Ints as cells. -/
def cellsI (S : List Int) : List Value := S.map (Value.int .i64)
theorem cellsI_len (S : List Int) : (cellsI S).length = S.length := by simp [cellsI]
theorem cellsI_one (S : List Int) : ∀ v ∈ cellsI S, v.oneCell' = true := by
  intro v hv
  obtain ⟨x, _, rfl⟩ := List.mem_map.1 hv
  rfl
/-- The slice at p holds the ints S, from its block's head on; nil holds none. -/
def Ri (T : TypeId) (w : World) (p : Option Addr) (cap : Nat) (S : List Int) : Prop := w.ownsRow 0 T 1 (.slice p S.length cap) S.length (cellsI S)
theorem Ri.shape {T : TypeId} {w : World} {p : Option Addr} {cap : Nat} {S : List Int} (h : Ri T w p cap S) :
    (p = none ∧ S = [] ∧ cap = 0) ∨ ∃ g, p = some ⟨g, 0, none⟩ ∧ g < w.heap.size ∧ S.length ≤ cap ∧ cap ≤ maxLen ∧ ∃ cur : Array Value, w.heap[g]? = some (.cells cur T (0, 0)) ∧ cur.size = cap * 1 ∧ cur.toList.take (S.length * 1) = cellsI S := by
  rcases h.2 with ⟨e, h0⟩ | ⟨g, cap', cur, e, _, hh, h1, h2, h3, h4⟩
  · simp only [Value.slice.injEq] at e
    exact .inl ⟨e.1, List.eq_nil_of_length_eq_zero h0, e.2.2⟩
  · simp only [Value.slice.injEq] at e
    obtain ⟨rfl, _, rfl⟩ := e
    exact .inr ⟨g, rfl, (Array.getElem?_eq_some_iff.1 hh).1, h1, h2, cur, hh, h3, h4⟩
theorem Ri.of_row {T : TypeId} {w : World} {g cap : Nat} {S : List Int} {cur : Array Value} (hh : w.heap[g]? = some (.cells cur T (0, 0))) (h1 : S.length ≤ cap) (h2 : cap ≤ maxLen) (h3 : cur.size = cap * 1) (h4 : cur.toList.take (S.length * 1) = cellsI S) :
    Ri T w (some ⟨g, 0, none⟩) cap S := ⟨by rw [cellsI_len, Nat.mul_one], .inr ⟨g, cap, cur, rfl, Nat.zero_le _, hh, h1, h2, h3, h4⟩⟩
theorem Ri.empty (T : TypeId) (w : World) : Ri T w none 0 [] := World.ownsRow_nil _ _ _ _
theorem Ri.kept {T : TypeId} {w w' : World} {p : Option Addr} {cap : Nat} {E : List Int} {S : Nat → Prop} (h : Ri T w p cap E) (hm : Mod S w w') (hp : ∀ a, p = some a → ¬ S a.block) : Ri T w' p cap E := by
  rcases h.shape with ⟨rfl, rfl, rfl⟩ | ⟨g, rfl, hl, h1, h2, cur, hh, h3, h4⟩
  · exact Ri.empty _ _
  · exact Ri.of_row ((hm.block g hl (hp _ rfl)).trans hh) h1 h2 h3 h4
theorem Ri.old {T : TypeId} {w w' : World} {p : Option Addr} {cap : Nat} {E : List Int} (h : Ri T w p cap E) (hb : Below w.heap.size w w') : Ri T w' p cap E :=
  h.kept (Mod.of_below hb) (fun a e hs => by
    subst e
    rcases h.shape with ⟨e, _⟩ | ⟨g, e, hl, _⟩
    · cases e
    · cases e; exact Nat.lt_irrefl _ (Nat.lt_of_lt_of_le hl hs))
theorem Ri.ints {T : TypeId} {w : World} {p : Option Addr} {cap : Nat} {E : List Int} (h : Ri T w p cap E) : IntsAt w p E := by
  intro j hj
  rcases h.shape with ⟨rfl, rfl, rfl⟩ | ⟨g, rfl, hl, h1, h2, cur, hh, h3, h4⟩
  · simp at hj
  · refine ⟨g, 0, rfl, hl, ?_⟩
    have e : (cellsI E)[j]? = some (.int .i64 E[j]) := by simp [cellsI, hj]
    rw [cell_of_row w g (0 + j) _ T (0, 0) hh, Nat.zero_add]
    rw [← h4, List.getElem?_take_of_lt (by omega)] at e
    simpa using e
/-- Behind an append: the slice holds more ints, in its own block or in a new one. -/
def PushedI (T : TypeId) (w : World) (p : Option Addr) (B : List Int) (q : Option Addr) (cap : Nat) (w' : World) : Prop :=
  Ri T w' q cap B ∧ Mod (fun i => ∃ a, p = some a ∧ i = a.block) w w' ∧ ∀ a, q = some a → p = some a ∨ w.heap.size ≤ a.block
theorem run_append_none {P : Program} {w : World} (t ty e : TypeId) (i : TypeInfo) (ht : P.underlying t = some (.slice e)) (hi : P.info? e = some i)
    (p : Option Addr) (n cap : Nat) (hle : n ≤ cap) (hn : p = none → n = 0 ∧ cap = 0) (q : Option Addr) (c : Nat) :
    (Builtin.append_ #[t, t] ty #[.slice p n cap, .slice q 0 c]).run P w = .ok (.slice p n cap) w := by
  cases p with
  | some a => cases q <;> simp [Builtin.append_, run_underlying ht, sizeOf, typeInfo, hi, Builtin.lenOf, Builtin.firstCells, hle, storeCells, loadCells, loadCellsFrom]
  | none =>
    obtain ⟨rfl, rfl⟩ := hn rfl
    cases q <;> simp [Builtin.append_, run_underlying ht, sizeOf, typeInfo, hi, Builtin.lenOf, Builtin.firstCells, loadCells, loadCellsFrom]
theorem wpList_pushI {P : Program} {ops : Array Oper} {rest : List Oper} {o : Oper} {a : Act} {Q : Exit → Act → World → Prop} {w : World} (hgd : o.guard = none) (s x : Operand) (Ts T : TypeId) (z : Value)
    (ho : o.op = .call { callee := .builtin .append, args := #[s, x], argTypes := #[Ts, Ts] }) (hT : P.underlying Ts = some (.slice T)) (hi : (P.info? T).map (fun i => (i.zero, i.size, i.bytes)) = some (some z, 1, 8)) (hzs : z.cells.size = 1)
    (p : Option Addr) (cap n : Nat) (E : List Int) (hn : E.length = n) (hs : a.eval s = .slice p n cap) (hS : Ri T w p cap E) (ao : Option Addr) (m cx : Nat) (Y : List Int) (hm : Y.length = m) (hx : a.eval x = .slice ao m cx) (hY : IntsAt w ao Y) (hl : n + m ≤ 1000000000000)
    (h : ∀ q c w', PushedI T w p (E ++ Y) q c w' → wpList P ops Q rest (a.put o.dst (.slice q (n + m) c)) w') :
    wpList P ops Q (o :: rest) a w := by
  cases hq : P.info? T with
  | none => rw [hq] at hi; cases hi
  | some i =>
    rw [hq] at hi
    simp only [Option.map_some, Option.some.injEq, Prod.mk.injEq] at hi
    obtain ⟨hz, h1, h2⟩ := hi
    subst hn
    subst hm
    by_cases h0 : 0 < Y.length
    · obtain ⟨bs, off, rfl, hbs, _⟩ := hY 0 h0
      refine wpList_append_lies _ hgd s x Ts ho 0 T i z 1 8 hT hq hz h1 h2 hzs (by decide) _ E.length (cellsI E) hs hS ⟨bs, off, none⟩ Y.length cx (cellsI Y) hx (by rw [cellsI_len, Nat.mul_one]) ?_ (cellsI_one _) h0 (by unfold maxLen; omega) ?_ (Nat.zero_le _) _ rfl ?_
      · intro j u hj
        have hjl : j < Y.length := by
          have := (List.getElem?_eq_some_iff.1 hj).1
          simpa [cellsI_len] using this
        obtain ⟨bs', off', e, _, c1⟩ := hY j hjl
        cases e
        have hadd : (⟨bs, off, none⟩ : Addr).add j = ⟨bs, off + j, none⟩ := by unfold Addr.add; split <;> simp_all
        have e2 : (cellsI Y)[j]? = some (.int .i64 Y[j]) := by simp [cellsI, hjl]
        rw [hadd, c1, ← hj, e2]
      · omega
      · intro g c w' hown hgrow hat _
        refine h (some ⟨g, 0, none⟩) c w' ⟨?_, ?_, ?_⟩
        · unfold Ri; rw [List.length_append, show cellsI (E ++ Y) = cellsI E ++ cellsI Y by simp [cellsI]]; exact hown
        · refine (Mod.refl _ w).grown hgrow ?_
          intro j hj _
          cases p with
          | none => simp [Value.ownBlock] at hj
          | some a => simp [Value.ownBlock] at hj; exact ⟨a, rfl, hj.symm⟩
        · rintro a' e; cases e
          rcases hat with hat | hat
          · left
            rcases hS.shape with ⟨rfl, _⟩ | ⟨g', rfl, _⟩
            · simp [Value.ownBlock] at hat
            · simp [Value.ownBlock] at hat; subst hat; rfl
          · right; rw [hat]; exact Nat.le_refl _
    · obtain rfl : Y = [] := List.eq_nil_of_length_eq_zero (by omega)
      refine wpList_plain hgd fun K hK => ?_
      have hfin := h p cap w ⟨by rw [List.append_nil]; exact hS, Mod.refl _ w, fun a e => .inl e⟩
      have hle : E.length ≤ cap := by
        rcases hS.shape with ⟨_, rfl, _⟩ | ⟨g', _, _, hc, _⟩
        · exact Nat.zero_le _
        · exact hc
      have hno : p = none → E.length = 0 ∧ cap = 0 := by
        intro e
        rcases hS.shape with ⟨_, rfl, hc⟩ | ⟨g', e', _⟩
        · exact ⟨rfl, hc⟩
        · rw [e] at e'; cases e'
      have hrun := run_append_none (P := P) (w := w) Ts o.type T i hT hq p E.length cap hle hno ao cx
      unfold Oper.wp
      simp only [List.length_nil] at hx
      simp [execOp, ho, resolve, invoke, builtin, hs, hx, hrun, Result.andThen]
      simp at hfin
      exact hK _ _ hfin
theorem info_int : (Try.prog.info? 3).map (fun i => (i.zero, i.size, i.bytes)) = some (some (.int .i64 0), 1, 8) := by kernel_rfl
/-- Ints are gathered in a row of its own. -/
structure AccI (T : TypeId) (w : World) (i : Nat) (D : List Int) (q : Option Addr) (c : Nat) (wr : World) : Prop where
  s : Ri T wr q c D
  len : D.length = i
  new : ∀ a, q = some a → w.heap.size ≤ a.block
  m : Below w.heap.size w wr
theorem AccI.push {T : TypeId} {w : World} {i : Nat} {D : List Int} {q : Option Addr} {c : Nat} {wr w' : World} (h : AccI T w i D q c wr) {Y : List Int} {q' : Option Addr} {c' : Nat} (hP : PushedI T wr q (D ++ Y) q' c' w') : AccI T w (i + Y.length) (D ++ Y) q' c' w' := by
  obtain ⟨hS, hm, hor⟩ := hP
  refine ⟨hS, by rw [List.length_append, h.len], ?_, h.m.trans (hm.to_below h.m.size (by rintro j hj ⟨a, e, rfl⟩; have := h.new a e; omega))⟩
  intro a e
  rcases hor a e with h1 | h1
  · exact h.new _ h1
  · exact Nat.le_trans h.m.size h1
theorem AccI.below {T : TypeId} {w : World} {i : Nat} {D : List Int} {q : Option Addr} {c : Nat} {wr w' : World} (h : AccI T w i D q c wr) (hb : Below wr.heap.size wr w') : AccI T w i D q c w' :=
  ⟨h.s.old hb, h.len, h.new, h.m.trans (hb.mono h.m.size)⟩
theorem ints1 (w : World) (T : TypeId) (a : Int) : IntsAt (w.alloc (.cells #[.int .i64 a] T)) (some ⟨w.heap.size, 0, none⟩) [a] := by
  intro j hj
  refine ⟨w.heap.size, 0, rfl, by simp, ?_⟩
  rw [cell_of_row _ w.heap.size _ _ T (0, 0) (heap_alloc_new _ _)]
  match j, hj with
  | 0, _ => rfl
end Go.Proofs.Ythmgigojgagpeaa
