/- Texts 2: what the laws lean on. -/
import Derived.Test.YtdahkemeoefndaaV1
import Derived.BigQuiet
namespace Go.Proofs.Ytdahkemeoefndaa
open Go.RowKit

theorem wpList_load_rowG {P : Program} {ops : Array Oper} {rest : List Oper} {o : Oper} {a : Act} {w : World} {Q : Exit → Act → World → Prop} (hw : Region.wanted o (yielded ops a.tmps) = true) (ty : TypeId) (x : Operand) (ho : o.op = .load ty x)
    (g : Nat) (hx : a.eval x = .pointer (some ⟨g, 0, none⟩)) (t : TypeId) (cs : Array Value) (fr : Nat × Nat) (d : TypeDesc) (hg : w.heap[g]? = some (.cells cs t fr))
    (hu : P.underlying ty = some d) (hd : (match d with | .struct _ | .array _ _ => true | _ => false) = true) (hi : (P.info? ty).map (·.size) = some cs.size)
    (h : wpList P ops Q rest (a.put o.dst (.agg cs)) w) : wpList P ops Q (o :: rest) a w :=
  wpList_step fun _ hK => by rw [if_pos hw]; exact wp_load_row ty x ho g hx t cs fr d hg hu hd hi (hK _ _ h)
theorem trip_ok : EntsOk [(0, 1), (1, 1), (2, 1)] 1 := by
  refine ⟨by decide, by decide, ?_⟩
  intro j hj
  match j, hj with
  | 0, _ => exact Nat.zero_lt_one
  | 1, _ => exact Nat.lt_succ_self 1
theorem trip_tab : IsTab (wth (List.replicate 64 0) [(0, 1), (1, 1), (2, 1)]) := isTab_zero.wth trip_ok
theorem ints3 (w : World) (T : TypeId) (a b c : Int) : IntsAt (w.alloc (.cells #[.int .i64 a, .int .i64 b, .int .i64 c] T)) (some ⟨w.heap.size, 0, none⟩) [a, b, c] := by
  intro j hj
  refine ⟨w.heap.size, 0, rfl, by simp, ?_⟩
  rw [cell_of_row _ w.heap.size _ _ T (0, 0) (heap_alloc_new _ _)]
  match j, hj with
  | 0, _ => rfl
  | 1, _ => rfl
  | 2, _ => rfl
theorem trip_ents (w : World) (T : TypeId) : EntsAt (w.alloc (.cells #[.int .i64 0, .int .i64 1, .int .i64 1, .int .i64 1, .int .i64 2, .int .i64 1] T)) (some ⟨w.heap.size, 0, none⟩) [(0, 1), (1, 1), (2, 1)] := by
  intro j hj
  refine ⟨w.heap.size, 0, rfl, by simp, ?_, ?_⟩ <;> rw [cell_of_row _ w.heap.size _ _ T (0, 0) (heap_alloc_new _ _)] <;>
  · match j, hj with
    | 0, _ => rfl
    | 1, _ => rfl
    | 2, _ => rfl

set_option maxRecDepth 20000 in
set_option maxHeartbeats 4000000 in
theorem awake_any (w : World) : Calls Try.prog 4 #[] w fun r w' => r = .returned (.bool true) ∧ Below w.heap.size w w' := by
  have hnew := fun (w : World) h => new_any (some ⟨w.heap.size, 0, none⟩) 3 [(0, 1), (1, 1), (2, 1)] (w.alloc (.cells #[.int .i64 0, .int .i64 1, .int .i64 1, .int .i64 1, .int .i64 2, .int .i64 1] 38)) h trip_ok (by decide) (by simp)
  have hq1  := fun w : World => quorum_any (wth (List.replicate 64 0) [(0, 1), (1, 1), (2, 1)]) (some ⟨w.heap.size, 0, none⟩) 3 [2, 1, 0] (w.alloc (.cells #[.int .i64 2, .int .i64 1, .int .i64 0] 3)) trip_tab (ints3 _ _ _ _ _) (by decide)
  have hq2  := fun w : World => quorum_any (wth (List.replicate 64 0) [(0, 1), (1, 1), (2, 1)]) (some ⟨w.heap.size, 0, none⟩) 3 [0, 1, 1] (w.alloc (.cells #[.int .i64 0, .int .i64 1, .int .i64 1] 3)) trip_tab (ints3 _ _ _ _ _) (by decide)
  have ht  := fun w : World => total_any (wth (List.replicate 64 0) [(0, 1), (1, 1), (2, 1)]) w trip_tab
  rw [show tsum (wth (List.replicate 64 0) [(0, 1), (1, 1), (2, 1)]) = 3 by decide +kernel] at ht
  simp only [show decide (2 * tsum (wth (List.replicate 64 0) [(0, 1), (1, 1), (2, 1)]) < 3 * tsum (sig (wth (List.replicate 64 0) [(0, 1), (1, 1), (2, 1)]) [2, 1, 0])) = true by decide +kernel] at hq1
  simp only [show decide (2 * tsum (wth (List.replicate 64 0) [(0, 1), (1, 1), (2, 1)]) < 3 * tsum (sig (wth (List.replicate 64 0) [(0, 1), (1, 1), (2, 1)]) [0, 1, 1])) = false by decide +kernel] at hq2
  unfold tval at hnew hq1 hq2 ht
  obtain ⟨A, hA⟩ : ∃ A, A = (nums .i64 (wth (List.replicate 64 0) [(0, 1), (1, 1), (2, 1)])).toArray := ⟨_, rfl⟩
  have hAs : A.size = 64 := trip_tab.row hA
  have h1A : Hid (∀ v ∈ A.toList, v.oneCell' = true) := Lib.hid (by rw [hA]; intro v hv; exact nums_one .i64 _ v (by simpa using hv))
  rw [← hA] at hnew hq1 hq2 ht
  obtain ⟨Z, hZ⟩ : ∃ Z, Z = (nums .i64 (List.replicate 64 0)).toArray := ⟨_, rfl⟩
  have hz : ∀ w : World, (zeroValue 26).run Try.prog w = .ok (.agg Z) w := by rw [hZ]; exact fun _ => by kernel_rfl
  have hZs : Z.size = 64 := by rw [hZ]; simp [nums_len]
  have Hnew := Lib.hid (fun w => hnew w (trip_ents _ _))
  have Hq1 := Lib.hid hq1
  have Hq2 := Lib.hid hq2
  have Ht := Lib.hid ht
  clear hnew hq1 hq2 ht hA hZ
  go_enter Try.func4, Try.ntmps4
  go_wp2_with fail
  refine (Hnew.out _).mono ?_
  rintro r w1 ⟨rfl, hb1⟩
  have hr1 : (w1.alloc (.cells Z 26)).heap[w1.heap.size]? = some (.cells Z 26 (0, 0)) := heap_alloc_new _ _
  have hg := setRow_heap (w1.alloc (.cells Z 26)) w1.heap.size Z A 26 (0, 0) hr1
  have hB : Below w.heap.size w ((w1.alloc (.cells Z 26)).setRow w1.heap.size A) := ((Mod.of_below ((((Below.refl _ w).alloc (Nat.le_refl _) _).trans (hb1.mono (by simp))).alloc (Nat.le_trans (by simp) hb1.size) (.cells Z 26))).setRow A).to_below (Nat.le_refl _) (by have := hb1.size; rintro k hk (h | h) <;> simp at this <;> omega)
  go_upto_region 2 with (refine wpList_store_row rfl rfl 26 (.tmp 1) (.tmp 9) rfl w1.heap.size rfl 26 Z A rfl hr1 ?s2 ?s3 ?s4 ?_)
  case s2 => rw [hZs, hAs]
  case s3 => rw [hAs]; kernel_rfl
  case s4 => exact h1A.out
  generalize (w1.alloc (.cells Z 26)).setRow w1.heap.size A = W at hg hB ⊢
  generalize w1.heap.size = g at hg ⊢
  clear hr1 hb1
  go_wp2_with (refine wpList_load_rowG rfl 26 (.tmp 1) rfl g rfl 26 A (0, 0) _ hg Try.underlying26 rfl ?s1 ?_)
  case s1 => rw [hAs]; kernel_rfl
  refine (Hq1.out _).mono ?_
  rintro r w2 ⟨rfl, hb2⟩
  have hg2 : w2.heap[g]? = some (.cells A 26 (0, 0)) := (hb2.block _ (by simp; exact Nat.lt_succ_of_lt (Array.getElem?_eq_some_iff.1 hg).1)).trans ((Below.heap_alloc _ _ _ (Array.getElem?_eq_some_iff.1 hg).1).trans hg)
  have hB2 := (hB.alloc hB.size (.cells #[.int .i64 2, .int .i64 1, .int .i64 0] 3)).trans (hb2.mono (by simp; exact Nat.le_succ_of_le hB.size))
  clear hb2 hg hB
  go_wp2_with (refine wpList_load_rowG rfl 26 (.tmp 1) rfl g rfl 26 A (0, 0) _ hg2 Try.underlying26 rfl ?s1 ?_)
  case s1 => rw [hAs]; kernel_rfl
  refine (Hq2.out _).mono ?_
  rintro r w3 ⟨rfl, hb3⟩
  have hg3 : w3.heap[g]? = some (.cells A 26 (0, 0)) := (hb3.block _ (by simp; exact Nat.lt_succ_of_lt (Array.getElem?_eq_some_iff.1 hg2).1)).trans ((Below.heap_alloc _ _ _ (Array.getElem?_eq_some_iff.1 hg2).1).trans hg2)
  have hB3 := (hB2.alloc hB2.size (.cells #[.int .i64 0, .int .i64 1, .int .i64 1] 3)).trans (hb3.mono (by simp; exact Nat.le_succ_of_le hB2.size))
  clear hb3 hg2 hB2
  go_wp2_with (refine wpList_load_rowG rfl 26 (.tmp 1) rfl g rfl 26 A (0, 0) _ hg3 Try.underlying26 rfl ?s1 ?_)
  case s1 => rw [hAs]; kernel_rfl
  refine (Ht.out w3).mono ?_
  rintro r w4 ⟨rfl, hb4⟩
  have hB4 := hB3.trans (hb4.mono hB3.size)
  go_wp2_with fail
  go_ret
  exact ⟨rfl, hB4⟩
end Go.Proofs.Ytdahkemeoefndaa

namespace Go.Proofs.Ytdahkemeoefndaa
open Go.RowKit

/-- Ints as cells. -/
def cellsI (S : List Int) : List Value := S.map (Value.int .i64)
theorem cellsI_len (S : List Int) : (cellsI S).length = S.length := by simp [cellsI]
theorem cellsI_one (S : List Int) : ∀ v ∈ cellsI S, v.oneCell' = true := by
  intro v hv
  obtain ⟨x, _, rfl⟩ := List.mem_map.1 hv
  rfl
/-- The slice at p holds the ints S, from its block's head on; nil holds none. -/
def Ri (T : TypeId) (w : World) (p : Option Addr) (cap : Nat) (S : List Int) : Prop := w.ownsRow 0 T 1 (.slice p S.length cap) S.length (cellsI S)
theorem Ri.shape {T : TypeId} {w : World} {p : Option Addr} {cap : Nat} {S : List Int} (h : Ri T w p cap S) :
    (p = none ∧ S = [] ∧ cap = 0) ∨ ∃ g, p = some ⟨g, 0, none⟩ ∧ g < w.heap.size ∧ S.length ≤ cap ∧ cap ≤ maxLen ∧ ∃ cur : Array Value, w.heap[g]? = some (.cells cur T (0, 0)) ∧ cur.size = cap * 1 ∧ cur.toList.take (S.length * 1) = cellsI S := by
  rcases h.2 with ⟨e, h0⟩ | ⟨g, cap', cur, e, _, hh, h1, h2, h3, h4⟩
  · simp only [Value.slice.injEq] at e
    exact .inl ⟨e.1, List.eq_nil_of_length_eq_zero h0, e.2.2⟩
  · simp only [Value.slice.injEq] at e
    obtain ⟨rfl, _, rfl⟩ := e
    exact .inr ⟨g, rfl, (Array.getElem?_eq_some_iff.1 hh).1, h1, h2, cur, hh, h3, h4⟩
theorem Ri.of_row {T : TypeId} {w : World} {g cap : Nat} {S : List Int} {cur : Array Value} (hh : w.heap[g]? = some (.cells cur T (0, 0))) (h1 : S.length ≤ cap) (h2 : cap ≤ maxLen) (h3 : cur.size = cap * 1) (h4 : cur.toList.take (S.length * 1) = cellsI S) :
    Ri T w (some ⟨g, 0, none⟩) cap S := ⟨by rw [cellsI_len, Nat.mul_one], .inr ⟨g, cap, cur, rfl, Nat.zero_le _, hh, h1, h2, h3, h4⟩⟩
theorem Ri.empty (T : TypeId) (w : World) : Ri T w none 0 [] := World.ownsRow_nil _ _ _ _
theorem Ri.kept {T : TypeId} {w w' : World} {p : Option Addr} {cap : Nat} {E : List Int} {S : Nat → Prop} (h : Ri T w p cap E) (hm : Mod S w w') (hp : ∀ a, p = some a → ¬ S a.block) : Ri T w' p cap E := by
  rcases h.shape with ⟨rfl, rfl, rfl⟩ | ⟨g, rfl, hl, h1, h2, cur, hh, h3, h4⟩
  · exact Ri.empty _ _
  · exact Ri.of_row ((hm.block g hl (hp _ rfl)).trans hh) h1 h2 h3 h4
theorem Ri.old {T : TypeId} {w w' : World} {p : Option Addr} {cap : Nat} {E : List Int} (h : Ri T w p cap E) (hb : Below w.heap.size w w') : Ri T w' p cap E :=
  h.kept (Mod.of_below hb) (fun a e hs => by
    subst e
    rcases h.shape with ⟨e, _⟩ | ⟨g, e, hl, _⟩
    · cases e
    · cases e; exact Nat.lt_irrefl _ (Nat.lt_of_lt_of_le hl hs))
theorem Ri.ints {T : TypeId} {w : World} {p : Option Addr} {cap : Nat} {E : List Int} (h : Ri T w p cap E) : IntsAt w p E := by
  intro j hj
  rcases h.shape with ⟨rfl, rfl, rfl⟩ | ⟨g, rfl, hl, h1, h2, cur, hh, h3, h4⟩
  · simp at hj
  · refine ⟨g, 0, rfl, hl, ?_⟩
    have e : (cellsI E)[j]? = some (.int .i64 E[j]) := by simp [cellsI, hj]
    rw [cell_of_row w g (0 + j) _ T (0, 0) hh, Nat.zero_add]
    rw [← h4, List.getElem?_take_of_lt (by omega)] at e
    simpa using e
/-- Behind an append: the slice holds more ints, in its own block or in a new one. -/
def PushedI (T : TypeId) (w : World) (p : Option Addr) (B : List Int) (q : Option Addr) (cap : Nat) (w' : World) : Prop :=
  Ri T w' q cap B ∧ Mod (fun i => ∃ a, p = some a ∧ i = a.block) w w' ∧ ∀ a, q = some a → p = some a ∨ w.heap.size ≤ a.block
theorem run_append_none {P : Program} {w : World} (t ty e : TypeId) (i : TypeInfo) (ht : P.underlying t = some (.slice e)) (hi : P.info? e = some i)
    (p : Option Addr) (n cap : Nat) (hle : n ≤ cap) (hn : p = none → n = 0 ∧ cap = 0) (q : Option Addr) (c : Nat) :
    (Builtin.append_ #[t, t] ty #[.slice p n cap, .slice q 0 c]).run P w = .ok (.slice p n cap) w := by
  cases p with
  | some a => cases q <;> simp [Builtin.append_, run_underlying ht, sizeOf, typeInfo, hi, Builtin.lenOf, Builtin.firstCells, hle, storeCells, loadCells, loadCellsFrom]
  | none =>
    obtain ⟨rfl, rfl⟩ := hn rfl
    cases q <;> simp [Builtin.append_, run_underlying ht, sizeOf, typeInfo, hi, Builtin.lenOf, Builtin.firstCells, loadCells, loadCellsFrom]
theorem wpList_pushI {P : Program} {ops : Array Oper} {rest : List Oper} {o : Oper} {a : Act} {Q : Exit → Act → World → Prop} {w : World} (hgd : o.guard = none) (s x : Operand) (Ts T : TypeId) (z : Value)
    (ho : o.op = .call { callee := .builtin .append, args := #[s, x], argTypes := #[Ts, Ts] }) (hT : P.underlying Ts = some (.slice T)) (hi : (P.info? T).map (fun i => (i.zero, i.size, i.bytes)) = some (some z, 1, 8)) (hzs : z.cells.size = 1)
    (p : Option Addr) (cap n : Nat) (E : List Int) (hn : E.length = n) (hs : a.eval s = .slice p n cap) (hS : Ri T w p cap E) (ao : Option Addr) (m cx : Nat) (Y : List Int) (hm : Y.length = m) (hx : a.eval x = .slice ao m cx) (hY : IntsAt w ao Y) (hl : n + m ≤ 1000000000000)
    (h : ∀ q c w', PushedI T w p (E ++ Y) q c w' → wpList P ops Q rest (a.put o.dst (.slice q (n + m) c)) w') :
    wpList P ops Q (o :: rest) a w := by
  cases hq : P.info? T with
  | none => rw [hq] at hi; cases hi
  | some i =>
    rw [hq] at hi
    simp only [Option.map_some, Option.some.injEq, Prod.mk.injEq] at hi
    obtain ⟨hz, h1, h2⟩ := hi
    subst hn
    subst hm
    by_cases h0 : 0 < Y.length
    · obtain ⟨bs, off, rfl, hbs, _⟩ := hY 0 h0
      refine wpList_append_lies _ hgd s x Ts ho 0 T i z 1 8 hT hq hz h1 h2 hzs (by decide) _ E.length (cellsI E) hs hS ⟨bs, off, none⟩ Y.length cx (cellsI Y) hx (by rw [cellsI_len, Nat.mul_one]) ?_ (cellsI_one _) h0 (by unfold maxLen; omega) ?_ (Nat.zero_le _) _ rfl ?_
      · intro j u hj
        have hjl : j < Y.length := by
          have := (List.getElem?_eq_some_iff.1 hj).1
          simpa [cellsI_len] using this
        obtain ⟨bs', off', e, _, c1⟩ := hY j hjl
        cases e
        have hadd : (⟨bs, off, none⟩ : Addr).add j = ⟨bs, off + j, none⟩ := by unfold Addr.add; split <;> simp_all
        have e2 : (cellsI Y)[j]? = some (.int .i64 Y[j]) := by simp [cellsI, hjl]
        rw [hadd, c1, ← hj, e2]
      · omega
      · intro g c w' hown hgrow hat _
        refine h (some ⟨g, 0, none⟩) c w' ⟨?_, ?_, ?_⟩
        · unfold Ri; rw [List.length_append, show cellsI (E ++ Y) = cellsI E ++ cellsI Y by simp [cellsI]]; exact hown
        · refine (Mod.refl _ w).grown hgrow ?_
          intro j hj _
          cases p with
          | none => simp [Value.ownBlock] at hj
          | some a => simp [Value.ownBlock] at hj; exact ⟨a, rfl, hj.symm⟩
        · rintro a' e; cases e
          rcases hat with hat | hat
          · left
            rcases hS.shape with ⟨rfl, _⟩ | ⟨g', rfl, _⟩
            · simp [Value.ownBlock] at hat
            · simp [Value.ownBlock] at hat; subst hat; rfl
          · right; rw [hat]; exact Nat.le_refl _
    · obtain rfl : Y = [] := List.eq_nil_of_length_eq_zero (by omega)
      refine wpList_plain hgd fun K hK => ?_
      have hfin := h p cap w ⟨by rw [List.append_nil]; exact hS, Mod.refl _ w, fun a e => .inl e⟩
      have hle : E.length ≤ cap := by
        rcases hS.shape with ⟨_, rfl, _⟩ | ⟨g', _, _, hc, _⟩
        · exact Nat.zero_le _
        · exact hc
      have hno : p = none → E.length = 0 ∧ cap = 0 := by
        intro e
        rcases hS.shape with ⟨_, rfl, hc⟩ | ⟨g', e', _⟩
        · exact ⟨rfl, hc⟩
        · rw [e] at e'; cases e'
      have hrun := run_append_none (P := P) (w := w) Ts o.type T i hT hq p E.length cap hle hno ao cx
      unfold Oper.wp
      simp only [List.length_nil] at hx
      simp [execOp, ho, resolve, invoke, builtin, hs, hx, hrun, Result.andThen]
      simp at hfin
      exact hK _ _ hfin
theorem info_int : (Try.prog.info? 3).map (fun i => (i.zero, i.size, i.bytes)) = some (some (.int .i64 0), 1, 8) := by kernel_rfl
/-- Ints are gathered in a row of its own. -/
structure AccI (T : TypeId) (w : World) (i : Nat) (D : List Int) (q : Option Addr) (c : Nat) (wr : World) : Prop where
  s : Ri T wr q c D
  len : D.length = i
  new : ∀ a, q = some a → w.heap.size ≤ a.block
  m : Below w.heap.size w wr
theorem AccI.push {T : TypeId} {w : World} {i : Nat} {D : List Int} {q : Option Addr} {c : Nat} {wr w' : World} (h : AccI T w i D q c wr) {Y : List Int} {q' : Option Addr} {c' : Nat} (hP : PushedI T wr q (D ++ Y) q' c' w') : AccI T w (i + Y.length) (D ++ Y) q' c' w' := by
  obtain ⟨hS, hm, hor⟩ := hP
  refine ⟨hS, by rw [List.length_append, h.len], ?_, h.m.trans (hm.to_below h.m.size (by rintro j hj ⟨a, e, rfl⟩; have := h.new a e; omega))⟩
  intro a e
  rcases hor a e with h1 | h1
  · exact h.new _ h1
  · exact Nat.le_trans h.m.size h1
theorem AccI.below {T : TypeId} {w : World} {i : Nat} {D : List Int} {q : Option Addr} {c : Nat} {wr w' : World} (h : AccI T w i D q c wr) (hb : Below wr.heap.size wr w') : AccI T w i D q c w' :=
  ⟨h.s.old hb, h.len, h.new, h.m.trans (hb.mono h.m.size)⟩
theorem ints1 (w : World) (T : TypeId) (a : Int) : IntsAt (w.alloc (.cells #[.int .i64 a] T)) (some ⟨w.heap.size, 0, none⟩) [a] := by
  intro j hj
  refine ⟨w.heap.size, 0, rfl, by simp, ?_⟩
  rw [cell_of_row _ w.heap.size _ _ T (0, 0) (heap_alloc_new _ _)]
  match j, hj with
  | 0, _ => rfl
end Go.Proofs.Ytdahkemeoefndaa

namespace Go.Proofs.Ytdahkemeoefndaa

theorem tsum_cons (p : Nat) (P : List Nat) : tsum (p :: P) = p + tsum P := by
  show (p :: P).foldl (· + ·) 0 = _
  rw [List.foldl_cons, tsum_from]; omega
theorem tsum_two (A B C : List Nat) (h1 : A.length = C.length) (h2 : B.length = C.length) (h : ∀ j, A.getD j 0 + B.getD j 0 ≤ C.getD j 0) : tsum A + tsum B ≤ tsum C := by
  induction C generalizing A B with
  | nil =>
    rw [List.eq_nil_of_length_eq_zero h1, List.eq_nil_of_length_eq_zero h2]; exact Nat.le_refl _
  | cons c C ih =>
    cases A with
    | nil => cases h1
    | cons a A =>
      cases B with
      | nil => cases h2
      | cons b B =>
        have h0 := h 0
        have hr := ih A B (by simpa using h1) (by simpa using h2) (fun j => by have := h (j + 1); simpa using this)
        simp at h0
        rw [tsum_cons, tsum_cons, tsum_cons]; omega
theorem tsum_zero (n : Nat) : tsum (List.replicate n 0) = 0 := by
  induction n with
  | zero => rfl
  | succ n ih => rw [List.replicate_succ, tsum_cons, ih]
theorem tsum_pt {A C : List Nat} (h1 : A.length = C.length) (h : ∀ j, A.getD j 0 ≤ C.getD j 0) : tsum A ≤ tsum C := by
  have := tsum_two A (List.replicate C.length 0) C h1 (by simp) (fun j => by
    have e : (List.replicate C.length 0).getD j 0 = 0 := by rw [List.getD_eq_getElem?_getD, List.getElem?_replicate]; split <;> rfl
    rw [e]; exact h j)
  rw [tsum_zero] at this; exact this
theorem tsum_ge (A : List Nat) (j : Nat) : A.getD j 0 ≤ tsum A := by
  induction A generalizing j with
  | nil => simp
  | cons a A ih =>
    rw [tsum_cons]
    cases j with
    | zero => simp
    | succ j => have := ih j; simp at this ⊢; omega
theorem getD_set (Q : List Nat) (i x j : Nat) (hi : i < Q.length) : (Q.set i x).getD j 0 = if i = j then x else Q.getD j 0 := by
  rw [List.getD_eq_getElem?_getD, List.getElem?_set, List.getD_eq_getElem?_getD]
  by_cases h : i = j
  · subst h; rw [if_pos rfl, if_pos rfl, if_pos hi]; rfl
  · rw [if_neg h, if_neg h]
theorem sg_len (P Q : List Nat) (m : Int) : (sg P Q m).length = Q.length := by
  unfold sg; split <;> simp
theorem sig_from (P : List Nat) (hP : P.length = 64) (S T : List Int) (Q : List Nat) (hQ : Q.length = 64) (h : ∀ j, Q.getD j 0 = if (j : Int) ∈ T then P.getD j 0 else 0) :
    (S.foldl (sg P) Q).length = 64 ∧ ∀ j, (S.foldl (sg P) Q).getD j 0 = if (j : Int) ∈ T ++ S then P.getD j 0 else 0 := by
  induction S generalizing T Q with
  | nil => rw [List.append_nil]; exact ⟨hQ, h⟩
  | cons m S ih =>
    rw [List.foldl_cons, show T ++ m :: S = (T ++ [m]) ++ S by simp]
    refine ih (T ++ [m]) (sg P Q m) (by rw [sg_len]; exact hQ) ?_
    intro j
    have hj := h j
    simp only [List.mem_append, List.mem_singleton]
    unfold sg
    by_cases hm : 0 ≤ m ∧ m < 64
    · obtain ⟨k, rfl⟩ : ∃ k : Nat, m = (k : Int) := ⟨m.toNat, by omega⟩
      have e : pw P (k : Int) = P.getD k 0 := by unfold pw; rw [if_pos hm, Int.toNat_natCast]
      rw [e, Int.toNat_natCast]
      by_cases hp : 0 < P.getD k 0
      · rw [if_pos hp, getD_set _ _ _ _ (by omega), hj]
        by_cases hk : k = j
        · subst hk; simp
        · have hk2 : ¬ (j : Int) = (k : Int) := by omega
          rw [if_neg hk]
          simp only [hk2, or_false]
      · rw [if_neg hp, hj]
        by_cases hk : j = k
        · subst hk
          have h0 : P.getD j 0 = 0 := by omega
          rw [h0]; simp
        · have hk2 : ¬ (j : Int) = (k : Int) := by omega
          simp only [hk2, or_false]
    · have e : pw P m = 0 := by unfold pw; rw [if_neg hm]
      rw [e, if_neg (by decide), hj]
      by_cases hk : (j : Int) = m
      · have h0 : P.getD j 0 = 0 := by
          rw [List.getD_eq_getElem?_getD, List.getElem?_eq_none (by omega)]; rfl
        rw [h0]; simp
      · simp only [hk, or_false]
theorem sig_get {P : List Nat} (hP : P.length = 64) (S : List Int) : (sig P S).length = 64 ∧ ∀ j, (sig P S).getD j 0 = if (j : Int) ∈ S then P.getD j 0 else 0 := by
  have := sig_from P hP S [] (List.replicate 64 0) (by simp) (fun j => by
    rw [if_neg (by simp), List.getD_eq_getElem?_getD, List.getElem?_replicate]; split <;> rfl)
  rwa [List.nil_append] at this
/-- More signers are no less. -/
theorem sig_mono {P : List Nat} (hP : P.length = 64) (S : List Int) (m : Int) : tsum (sig P S) ≤ tsum (sig P (S ++ [m])) := by
  obtain ⟨l1, g1⟩ := sig_get hP S
  obtain ⟨l2, g2⟩ := sig_get hP (S ++ [m])
  refine tsum_pt (by rw [l1, l2]) fun j => ?_
  rw [g1, g2]
  by_cases h : (j : Int) ∈ S
  · rw [if_pos h, if_pos (List.mem_append_left _ h)]; exact Nat.le_refl _
  · rw [if_neg h]; exact Nat.zero_le _
/-- Two quorums have a signer with power in common. -/
theorem sig_meet {P : List Nat} (hP : P.length = 64) (S T : List Int) (h : ∀ m ∈ S, m ∈ T → pw P m = 0) : tsum (sig P S) + tsum (sig P T) ≤ tsum P := by
  obtain ⟨l1, g1⟩ := sig_get hP S
  obtain ⟨l2, g2⟩ := sig_get hP T
  refine tsum_two _ _ _ (by rw [l1, hP]) (by rw [l2, hP]) fun j => ?_
  rw [g1, g2]
  by_cases h1 : (j : Int) ∈ S
  · rw [if_pos h1]
    by_cases h2 : (j : Int) ∈ T
    · have h0 := h _ h1 h2
      have : P.getD j 0 = 0 := by
        by_cases hj : j < 64
        · unfold pw at h0; rw [if_pos (by omega), Int.toNat_natCast] at h0; exact h0
        · rw [List.getD_eq_getElem?_getD, List.getElem?_eq_none (by omega)]; rfl
      rw [this, if_pos h2]; exact Nat.le_refl _
    · rw [if_neg h2]; exact Nat.le_refl _
  · rw [if_neg h1, Nat.zero_add]
    by_cases h2 : (j : Int) ∈ T
    · rw [if_pos h2]; exact Nat.le_refl _
    · rw [if_neg h2]; exact Nat.zero_le _
theorem sig_none (P : List Nat) : tsum (sig P []) = 0 := tsum_zero 64
theorem wth_keeps (E : List (Nat × Nat)) : ∀ (Q : List Nat) (j : Nat), (∀ e ∈ E, e.1 < Q.length) → (∀ e ∈ E, e.1 ≠ j) → (wth Q E).getD j 0 = Q.getD j 0 := by
  induction E with
  | nil => intro Q j _ _; rfl
  | cons e E ih =>
    intro Q j hl hj
    show (wth (Q.set e.1 e.2) E).getD j 0 = _
    rw [ih (Q.set e.1 e.2) j (fun f hf => by rw [List.length_set]; exact hl f (by simp [hf])) (fun f hf => hj f (by simp [hf])), getD_set _ _ _ _ (hl e (by simp)), if_neg (hj e (by simp))]
theorem wth_pos (E : List (Nat × Nat)) : ∀ (Q : List Nat) (j : Nat), (∀ e ∈ E, e.1 < Q.length ∧ 1 ≤ e.2) → 1 ≤ Q.getD j 0 ∨ (∃ e ∈ E, e.1 = j) → 1 ≤ (wth Q E).getD j 0 := by
  induction E with
  | nil => intro Q j _ h; rcases h with h | ⟨e, he, _⟩; exact h; cases he
  | cons e E ih =>
    intro Q j hl h
    show 1 ≤ (wth (Q.set e.1 e.2) E).getD j 0
    have he := hl e (by simp)
    refine ih (Q.set e.1 e.2) j (fun f hf => by rw [List.length_set]; exact hl f (by simp [hf])) ?_
    rcases h with h | ⟨f, hf, hfj⟩
    · left; rw [getD_set _ _ _ _ he.1]; split <;> omega
    · rcases List.mem_cons.1 hf with h1 | h1
      · subst h1; left; rw [getD_set _ _ _ _ he.1, if_pos hfj]; exact he.2
      · exact .inr ⟨f, h1, hfj⟩
/-- All miners are a quorum. -/
theorem sig_all {E : List (Nat × Nat)} (h : EntsOk E 1) (h0 : E ≠ []) : 2 * tsum (wth (List.replicate 64 0) E) < 3 * tsum (sig (wth (List.replicate 64 0) E) (E.map fun e => (e.1 : Int))) := by
  have hz : (List.replicate 64 0 : List Nat).length = 64 := by simp
  have hP : (wth (List.replicate 64 0) E).length = 64 := by rw [wth_len]; exact hz
  obtain ⟨l1, g1⟩ := sig_get hP (E.map fun e => (e.1 : Int))
  have hm : tsum (wth (List.replicate 64 0) E) ≤ tsum (sig (wth (List.replicate 64 0) E) (E.map fun e => (e.1 : Int))) := by
    refine tsum_pt (by rw [l1, hP]) fun j => ?_
    rw [g1]
    by_cases hj : (j : Int) ∈ E.map fun e => (e.1 : Int)
    · rw [if_pos hj]; exact Nat.le_refl _
    · rw [if_neg hj, wth_keeps E _ j (fun e he => by rw [hz]; exact h.m e he) (fun e he hje => hj (List.mem_map.2 ⟨e, he, by rw [hje]⟩)), List.getD_eq_getElem?_getD, List.getElem?_replicate]
      split <;> exact Nat.le_refl _
  obtain ⟨e, he⟩ := List.exists_mem_of_ne_nil E h0
  have hp := wth_pos E (List.replicate 64 0) e.1 (fun f hf => ⟨by rw [hz]; exact h.m f hf, (h.p f hf).1⟩) (.inr ⟨e, he, rfl⟩)
  have hg := tsum_ge (wth (List.replicate 64 0) E) e.1
  omega
end Go.Proofs.Ytdahkemeoefndaa

namespace Go.Proofs.Ytdahkemeoefndaa
open Go.RowKit

/-- All powers of entries. -/
def esum (E : List (Nat × Nat)) : Nat := E.foldl (fun t e => t + e.2) 0
theorem esum_from (E : List (Nat × Nat)) (a : Nat) : E.foldl (fun t e => t + e.2) a = a + esum E := by
  unfold esum
  induction E generalizing a with
  | nil => rfl
  | cons e E ih => rw [List.foldl_cons, List.foldl_cons, ih, ih (0 + e.2)]; omega
theorem esum_app (A B : List (Nat × Nat)) : esum (A ++ B) = esum A + esum B := by
  have h := esum_from B (esum A)
  unfold esum at h ⊢
  rw [List.foldl_append]; exact h
theorem esum_one (e : Nat × Nat) : esum [e] = e.2 := Nat.zero_add _
theorem esum_cons (e : Nat × Nat) (E : List (Nat × Nat)) : esum (e :: E) = e.2 + esum E := by
  rw [show e :: E = [e] ++ E from rfl, esum_app, esum_one]
theorem tsum_set (Q : List Nat) (i x : Nat) (hi : i < Q.length) : tsum (Q.set i x) + Q.getD i 0 = tsum Q + x := by
  induction Q generalizing i with
  | nil => cases hi
  | cons q Q ih =>
    cases i with
    | zero => rw [List.set_cons_zero, tsum_cons, tsum_cons]; simp; omega
    | succ i =>
      have := ih i (by simpa using hi)
      rw [List.set_cons_succ, tsum_cons, tsum_cons]
      simp at this ⊢; omega
theorem tsum_wth (E : List (Nat × Nat)) : ∀ (Q : List Nat), (∀ e ∈ E, e.1 < Q.length ∧ Q.getD e.1 0 = 0) → E.Pairwise (fun e f => e.1 ≠ f.1) → tsum (wth Q E) = tsum Q + esum E := by
  induction E with
  | nil => intro Q _ _; rfl
  | cons e E ih =>
    intro Q h hp
    obtain ⟨hp1, hp2⟩ := List.pairwise_cons.1 hp
    have he := h e (by simp)
    have hs := tsum_set Q e.1 e.2 he.1
    show tsum (wth (Q.set e.1 e.2) E) = _
    rw [ih (Q.set e.1 e.2) (fun f hf => ⟨by rw [List.length_set]; exact (h f (by simp [hf])).1, by rw [getD_set _ _ _ _ he.1, if_neg (hp1 f hf)]; exact (h f (by simp [hf])).2⟩) hp2, esum_cons]
    omega
theorem EntsOk.pair {E : List (Nat × Nat)} {least : Nat} (h : EntsOk E least) : E.Pairwise (fun e f => e.1 ≠ f.1) := by
  rw [List.pairwise_iff_getElem]
  intro i j hi hj hij
  have : ∀ d (hd : i + d + 1 < E.length), E[i].1 < E[i + d + 1].1 := by
    intro d
    induction d with
    | zero => intro hd; exact h.up i hd
    | succ d ih => intro hd; exact Nat.lt_trans (ih (by omega)) (h.up (i + d + 1) hd)
  have h2 := this (j - i - 1) (by omega)
  have e : i + (j - i - 1) + 1 = j := by omega
  simp only [e] at h2
  omega
/-- The entries of those who signed. -/
def ein (S : List Int) (E : List (Nat × Nat)) : List (Nat × Nat) := E.filter fun e => decide ((e.1 : Int) ∈ S)
theorem wth_ein (S : List Int) (E : List (Nat × Nat)) : ∀ (Q R : List Nat), Q.length = R.length → (∀ e ∈ E, e.1 < R.length) → (∀ j, Q.getD j 0 = if (j : Int) ∈ S then R.getD j 0 else 0) → ∀ j, (wth Q (ein S E)).getD j 0 = if (j : Int) ∈ S then (wth R E).getD j 0 else 0 := by
  induction E with
  | nil => intro Q R _ _ h; exact h
  | cons e E ih =>
    intro Q R hl he h
    have he0 := he e (by simp)
    show ∀ (j : Nat), _ = if (j : Int) ∈ S then (wth (R.set e.1 e.2) E).getD j 0 else 0
    by_cases hs : (e.1 : Int) ∈ S
    · have e1 : ein S (e :: E) = e :: ein S E := by unfold ein; rw [List.filter_cons, if_pos (by simpa using hs)]
      rw [e1]
      show ∀ j, (wth (Q.set e.1 e.2) (ein S E)).getD j 0 = _
      refine ih _ _ (by rw [List.length_set, List.length_set, hl]) (fun f hf => by rw [List.length_set]; exact he f (by simp [hf])) fun j => ?_
      rw [getD_set _ _ _ _ (by omega), getD_set _ _ _ _ he0, h j]
      by_cases hj : e.1 = j
      · rw [if_pos hj, if_pos hj, if_pos (hj ▸ hs)]
      · rw [if_neg hj, if_neg hj]
    · have e1 : ein S (e :: E) = ein S E := by unfold ein; rw [List.filter_cons, if_neg (by simpa using hs)]
      rw [e1]
      refine ih _ _ (by rw [List.length_set, hl]) (fun f hf => by rw [List.length_set]; exact he f (by simp [hf])) fun j => ?_
      rw [getD_set _ _ _ _ he0, h j]
      by_cases hj : e.1 = j
      · subst hj; rw [if_neg hs, if_neg hs]
      · rw [if_neg hj]
theorem zget (j : Nat) : (List.replicate 64 0 : List Nat).getD j 0 = 0 := by
  rw [List.getD_eq_getElem?_getD, List.getElem?_replicate]; split <;> rfl
theorem tot_eq {E : List (Nat × Nat)} {least : Nat} (h : EntsOk E least) : tsum (wth (List.replicate 64 0) E) = esum E := by
  rw [tsum_wth E _ (fun e he => ⟨by rw [List.length_replicate]; exact h.m e he, zget _⟩) h.pair, tsum_zero, Nat.zero_add]
theorem sig_eq {E : List (Nat × Nat)} {least : Nat} (h : EntsOk E least) (S : List Int) : tsum (sig (wth (List.replicate 64 0) E) S) = esum (ein S E) := by
  have hP : (wth (List.replicate 64 0) E).length = 64 := by rw [wth_len]; simp
  obtain ⟨l1, g1⟩ := sig_get hP S
  have hw := wth_ein S E (List.replicate 64 0) (List.replicate 64 0) rfl (fun e he => by rw [List.length_replicate]; exact h.m e he) (fun j => by rw [zget]; split <;> rfl)
  have hlen : (wth (List.replicate 64 0) (ein S E)).length = 64 := by rw [wth_len]; simp
  have e : tsum (sig (wth (List.replicate 64 0) E) S) = tsum (wth (List.replicate 64 0) (ein S E)) :=
    Nat.le_antisymm (tsum_pt (by rw [l1, hlen]) fun j => by rw [g1, hw]; exact Nat.le_refl _) (tsum_pt (by rw [l1, hlen]) fun j => by rw [g1, hw]; exact Nat.le_refl _)
  rw [e, tsum_wth (ein S E) _ (fun e he => ⟨by rw [List.length_replicate]; exact h.m e ((List.mem_filter.1 he).1), zget _⟩) (h.pair.filter _), tsum_zero, Nat.zero_add]

set_option maxRecDepth 20000 in
set_option maxHeartbeats 4000000 in
theorem rtotal_any (ao : Option Addr) (cap : Nat) (E : List (Nat × Nat)) (w : World) (hS : EntsAt w ao E) (hok : EntsOk E 1) (hl : E.length ≤ 64) :
    Calls Try.prog 19 #[.slice ao E.length cap] w fun r w' => r = .returned (.int .i64 (esum E : Int)) ∧ Below w.heap.size w w' := by
  obtain ⟨n, hn⟩ : ∃ n, E.length = n := ⟨_, rfl⟩
  rw [hn] at hl ⊢
  have Hn := Lib.hid hn
  have HS := Lib.hid hS
  have Hok := Lib.hid hok
  clear hn hS hok
  go_enter Try.func19, Try.ntmps19
  go_wp2_with fail
  go_loopw [3, 8] (fun s3 s8 wr => ∃ (i t : Nat), i ≤ n ∧ s3 = .int .i64 (t : Int) ∧ s8 = .int .i64 (i : Int) ∧ t ≤ i * 1099511627776 ∧ Hid (t = esum (E.take i)) ∧ Below w.heap.size w wr) (fun _ i _ => n - (intOf i).toNat)
  case atStart => exact ⟨0, 0, by omega, rfl, rfl, by omega, Lib.hid rfl, Below.refl _ _⟩
  case round =>
    obtain ⟨i, t, hi, rfl, rfl, htb, ht, hB⟩ := hrel
    by_cases hin : i < n
    · have hil : i < E.length := by rw [Hn.out]; exact hin
      obtain ⟨bs, off, rfl, hbs, c1, c2⟩ := (HS.out.old hB) i hil
      have hp := Hok.out.p E[i] (List.getElem_mem hil)
      have ht2 : Hid (t + E[i].2 = esum (E.take (i + 1))) := Lib.hid (by rw [← List.take_append_getElem hil, esum_app, esum_one, ← ht.out])
      obtain ⟨p, hp0⟩ : ∃ m, m = E[i].2 := ⟨_, rfl⟩
      rw [← hp0] at hp c2 ht2
      generalize E[i].1 = m at c1
      have i1 : (i : Int) < n := by omega
      have i0 : (0 : Int) ≤ i := by omega
      have w1 : IntKind.i64.wrap ((t : Int) + p) = (t : Int) + p := by rw [IntKind.wrap_i64]; omega
      have hB2 : Below w.heap.size w (wr.alloc (.cells #[.int .i64 (m : Int), .int .i64 (p : Int)] 48)) := hB.alloc hB.size _
      have hb2 : t + p ≤ (i + 1) * 1099511627776 := by omega
      clear ht hp0 hp htb
      go_wp2_with fail
      go_roundw
      case rel => exact ⟨i + 1, t + p, by omega, by go_num, by go_num, hb2, ht2, hB2⟩
      case measure => simp [intOf]; omega
    · obtain rfl : i = n := by omega
      have e : t = esum E := by rw [ht.out, List.take_of_length_le (by rw [Hn.out]; exact Nat.le_refl _)]
      subst e
      clear ht htb
      go_wp2_with fail
      go_ret
      exact ⟨rfl, hB⟩
end Go.Proofs.Ytdahkemeoefndaa

namespace Go.Proofs.Ytdahkemeoefndaa
open Go.RowKit

theorem info_entry : (Try.prog.info? 38).map (fun i => (i.zero, i.size, i.bytes)) = some (some (.agg #[.int .i64 0, .int .i64 0]), 2, 16) := by kernel_rfl
theorem info_rentry : (Try.prog.info? 48).map (fun i => (i.zero, i.size, i.bytes)) = some (some (.agg #[.int .i64 0, .int .i64 0]), 2, 16) := by kernel_rfl

/-- Entries are gathered in a row of its own. -/
structure AccP (T : TypeId) (w : World) (i : Nat) (D : List (Nat × Nat)) (q : Option Addr) (c : Nat) (wr : World) : Prop where
  s : Pr T wr q c D
  len : D.length = i
  new : ∀ a, q = some a → w.heap.size ≤ a.block
  m : Below w.heap.size w wr
theorem AccP.push {T : TypeId} {w : World} {i : Nat} {D : List (Nat × Nat)} {q : Option Addr} {c : Nat} {wr w' : World} (h : AccP T w i D q c wr) {d : Nat × Nat} {q' : Option Addr} {c' : Nat} (hP : PushedP T wr q (D ++ [d]) q' c' w') : AccP T w (i + 1) (D ++ [d]) q' c' w' := by
  obtain ⟨hS, hm, g, rfl, hor⟩ := hP
  refine ⟨hS, by rw [List.length_append, h.len]; rfl, ?_, h.m.trans (hm.to_below h.m.size (by rintro j hj ⟨a, e, rfl⟩; have := h.new a e; omega))⟩
  rintro a e; cases e
  rcases hor with h1 | h1
  · exact h.new _ h1
  · exact Nat.le_trans h.m.size h1
theorem AccP.below {T : TypeId} {w : World} {i : Nat} {D : List (Nat × Nat)} {q : Option Addr} {c : Nat} {wr w' : World} (h : AccP T w i D q c wr) (hb : Below wr.heap.size wr w') : AccP T w i D q c w' :=
  ⟨h.s.old hb, h.len, h.new, h.m.trans (hb.mono h.m.size)⟩

theorem EntsOk.rank {E : List (Nat × Nat)} {least : Nat} (h : EntsOk E least) : ∀ j (hj : j < E.length), j ≤ E[j].1 := by
  intro j
  induction j with
  | zero => intro _; exact Nat.zero_le _
  | succ j ih => intro hj; have h1 := ih (by omega); have h2 := h.up j hj; omega
theorem EntsOk.len {E : List (Nat × Nat)} {least : Nat} (h : EntsOk E least) : E.length ≤ 64 := by
  apply Nat.le_of_not_lt; intro hlt
  have h1 := h.rank 64 hlt
  have h2 := h.m E[64] (List.getElem_mem hlt)
  omega
theorem EntsOk.nil (least : Nat) : EntsOk [] least := ⟨(fun e he => by simp at he), (fun e he => by simp at he), (fun j h => by simp at h)⟩
end Go.Proofs.Ytdahkemeoefndaa

namespace Go.Proofs.Ytdahkemeoefndaa
open Go.RowKit

/-- The first i miners that have power. -/
def tents (P : List Nat) (i : Nat) : List (Nat × Nat) := ((List.range i).map fun j => (j, P.getD j 0)).filter fun e => decide (0 < e.2)
theorem tents_succ (P : List Nat) (i : Nat) : tents P (i + 1) = tents P i ++ if 0 < P.getD i 0 then [(i, P.getD i 0)] else [] := by
  unfold tents
  rw [List.range_succ, List.map_append, List.filter_append]
  congr 1
  by_cases h : 0 < P.getD i 0
  · rw [if_pos h, List.map_singleton, List.filter_cons, if_pos (by simpa using h), List.filter_nil]
  · rw [if_neg h, List.map_singleton, List.filter_cons, if_neg (by simpa using h), List.filter_nil]
theorem tents_len (P : List Nat) (i : Nat) : (tents P i).length ≤ i := by
  unfold tents
  exact Nat.le_trans (List.length_filter_le _ _) (by simp)

set_option maxRecDepth 20000 in
set_option maxHeartbeats 4000000 in
theorem entries_any (P : List Nat) (w : World) (hP : IsTab P) :
    Calls Try.prog 18 #[tval P] w fun r w' => ∃ q c, r = .returned (.slice q (tents P 64).length c) ∧ Pr 38 w' q c (tents P 64) ∧ Below w.heap.size w w' := by
  unfold tval
  have hl := hP.len
  have hidx : ∀ (i : Nat) (hi : i < P.length) (w : World), (Instr.index 24 (.agg (nums .i64 P).toArray) (.int .i64 (i : Int))).run Try.prog w = .ok (.int .i64 (P[i]'hi)) w :=
    fun i hi w => run_index_nums 24 3 64 .i64 P i hi Try.underlying24 hl Try.underlying3 (by kernel_rfl) w
  obtain ⟨A, hA⟩ : ∃ A, A = (nums .i64 P).toArray := ⟨_, rfl⟩
  have hAs := hP.row hA
  rw [← hA] at hidx ⊢
  have Hidx := Lib.hid hidx
  have hB : Below w.heap.size w (w.alloc (.cells A 26)) := (Below.refl _ _).alloc (Nat.le_refl _) _
  have hrow : (w.alloc (.cells A 26)).heap[w.heap.size]? = some (.cells A 26 (0, 0)) := heap_alloc_new _ _
  clear hA hidx hP
  go_enter Try.func18, Try.ntmps18
  go_upto_region 2 with fail
  have hK : AccP 38 w 0 [] none 0 (w.alloc (.cells A 26)) := ⟨Pr.empty _ _, rfl, (fun a e => by cases e), hB⟩
  generalize w.alloc (.cells A 26) = W at hB hrow hK ⊢
  go_wp2_with (refine wpList_load_row rfl 24 (.tmp 6) rfl w.heap.size rfl 26 A (0, 0) _ hrow Try.underlying24 rfl ?s1 ?_)
  case s1 => rw [hAs]; kernel_rfl
  clear hAs hrow hB
  go_loopw [3, 8] (fun s3 s8 wr => ∃ (i k : Nat) (D : List (Nat × Nat)) (q : Option Addr) (c : Nat), i ≤ 64 ∧ k ≤ i ∧ s3 = .slice q k c ∧ s8 = .int .i64 (i : Int) ∧ Hid (D = tents P i) ∧ AccP 38 w k D q c wr) (fun _ i _ => 64 - (intOf i).toNat)
  case atStart => exact ⟨0, 0, [], none, 0, by omega, by omega, rfl, rfl, Lib.hid rfl, hK⟩
  case round =>
    clear hK
    obtain ⟨i, k, D, q, c, hi, hki, rfl, rfl, hD, hR⟩ := hrel
    by_cases hin : i < 64
    · have hil : i < P.length := by omega
      have e0 := Hidx.out i hil
      have hs := tents_succ P i
      rw [← hD.out, show P.getD i 0 = P[i] by rw [List.getD_eq_getElem?_getD, List.getElem?_eq_getElem hil]; rfl] at hs
      obtain ⟨x, hx⟩ : ∃ x, x = P[i] := ⟨_, rfl⟩
      rw [← hx] at e0 hs
      have i1 : (i : Int) < 64 := by omega
      clear hx hD
      by_cases hx0 : 0 < x
      · have x1 : (0 : Int) < x := by omega
        rw [if_pos hx0] at hs
        have hD2 : Hid (D ++ [(i, x)] = tents P (i + 1)) := Lib.hid hs.symm
        have hRl := Lib.hid hR.len
        clear hs
        go_wp2_with (at_builtin; refine wpList_pushP rfl _ _ 43 38 _ rfl Try.underlying43 info_entry rfl q c k D (i, x) hRl.out rfl hR.s rfl (by simp) (by omega) ?_; intro pq2 cq2 W5 hP)
        have hR5 := hR.push hP
        clear hP hR
        go_wp2_with fail
        go_roundw
        case rel => exact ⟨i + 1, k + 1, D ++ [(i, x)], pq2, cq2, by omega, by omega, rfl, by go_num, hD2, hR5⟩
        case measure => simp [intOf]; omega
      · have x1 : ¬ (0 : Int) < x := by omega
        rw [if_neg hx0, List.append_nil] at hs
        have hD2 : Hid (D = tents P (i + 1)) := Lib.hid hs.symm
        clear hs
        go_wp2_with fail
        go_roundw
        case rel => exact ⟨i + 1, k, D, q, c, by omega, by omega, rfl, by go_num, hD2, hR⟩
        case measure => simp [intOf]; omega
    · obtain rfl : i = 64 := by omega
      have e := hD.out
      subst e
      have hkl := hR.len
      subst hkl
      have hs := hR.s
      have hm := hR.m
      clear hD hR
      go_wp2_with fail
      go_ret
      exact ⟨q, c, rfl, hs, hm⟩
end Go.Proofs.Ytdahkemeoefndaa

namespace Go.Proofs.Ytdahkemeoefndaa
open Go.RowKit

theorem tents_ok {P : List Nat} (h : IsTab P) : EntsOk (tents P 64) 1 := by
  have hm : ∀ e ∈ tents P 64, e.1 < 64 ∧ e.2 = P.getD e.1 0 ∧ 0 < e.2 := by
    intro e he
    obtain ⟨h1, h2⟩ := List.mem_filter.1 he
    obtain ⟨j, hj, rfl⟩ := List.mem_map.1 h1
    exact ⟨List.mem_range.1 hj, rfl, by simpa using h2⟩
  refine ⟨fun e he => (hm e he).1, fun e he => ?_, ?_⟩
  · obtain ⟨h1, h2, h3⟩ := hm e he
    refine ⟨h3, ?_⟩
    rw [h2, List.getD_eq_getElem?_getD, List.getElem?_eq_getElem (by rw [h.len]; exact h1)]
    exact h.le _ (List.getElem_mem _)
  · have hp : (tents P 64).Pairwise (fun e f => e.1 < f.1) := by
      unfold tents
      refine List.Pairwise.filter _ ?_
      rw [List.pairwise_map]
      exact List.pairwise_lt_range
    intro j hj
    exact List.pairwise_iff_getElem.1 hp j (j + 1) (by omega) hj (Nat.lt_succ_self j)

set_option maxRecDepth 20000 in
set_option maxHeartbeats 4000000 in
theorem is_any (P : List Nat) (ao : Option Addr) (cap : Nat) (E : List (Nat × Nat)) (w : World) (hP : IsTab P) (hE : EntsAt w ao E) (hPE : tents P 64 = E) (ht : tsum P = esum E) :
    Calls Try.prog 8 #[tval P, .slice ao E.length cap] w fun r w' => r = .returned (.bool true) ∧ Below w.heap.size w w' := by
  have hok : EntsOk E 1 := hPE ▸ tents_ok hP
  have hrt := fun w h => rtotal_any ao cap E w h hok hok.len
  have hen := fun w => entries_any P w hP
  have hto := fun w => total_any P w hP
  rw [hPE] at hen
  rw [ht] at hto
  have hl := hok.len
  unfold tval at hen hto ⊢
  obtain ⟨A, hA⟩ : ∃ A, A = (nums .i64 P).toArray := ⟨_, rfl⟩
  have hAs := hP.row hA
  rw [← hA] at hen hto ⊢
  obtain ⟨n, hn⟩ : ∃ n, E.length = n := ⟨_, rfl⟩
  rw [hn] at hrt hen hl ⊢
  obtain ⟨T, hT⟩ : ∃ T, T = esum E := ⟨_, rfl⟩
  rw [← hT] at hrt hto
  have Hn := Lib.hid hn
  have HE := Lib.hid hE
  have Hrt := Lib.hid hrt
  have Hen := Lib.hid hen
  have Hto := Lib.hid hto
  have Hsz : Hid ((Try.prog.info? 26).map (·.size) = some A.size) := Lib.hid (by rw [hAs]; kernel_rfl)
  clear hn hE hrt hen hto hok hPE ht hP hT hA
  have hB : Below w.heap.size w (w.alloc (.cells A 26)) := (Below.refl _ _).alloc (Nat.le_refl _) _
  have hrow : (w.alloc (.cells A 26)).heap[w.heap.size]? = some (.cells A 26 (0, 0)) := heap_alloc_new _ _
  go_enter Try.func8, Try.ntmps8
  go_upto_region 1 with fail
  generalize w.alloc (.cells A 26) = W at hB hrow ⊢
  go_wp2_with (refine wpList_load_rowG rfl 26 (.tmp 2) rfl w.heap.size rfl 26 A (0, 0) _ hrow Try.underlying26 rfl Hsz.out ?_)
  refine (Hen.out _).mono ?_
  rintro r w2 ⟨q, c, rfl, hQ, hb2⟩
  have hrow2 := (hb2.block _ (Array.getElem?_eq_some_iff.1 hrow).1).trans hrow
  have hB2 := hB.trans (hb2.mono hB.size)
  clear hb2 hrow hB
  go_wp2_with (refine wpList_load_rowG rfl 26 (.tmp 2) rfl w.heap.size rfl 26 A (0, 0) _ hrow2 Try.underlying26 rfl Hsz.out ?_)
  refine (Hto.out _).mono ?_
  rintro r w3 ⟨rfl, hb3⟩
  have hQ3 := hQ.old hb3
  have hB3 := hB2.trans (hb3.mono hB2.size)
  clear hb3 hrow2 hB2 hQ
  go_wp2_with fail
  refine (Hrt.out _ (HE.out.old hB3)).mono ?_
  rintro r w4 ⟨rfl, hb4⟩
  have hQ4 := hQ3.old hb4
  have hB4 := hB3.trans (hb4.mono hB3.size)
  clear hb4 hB3 hQ3
  have HQ := Lib.hid hQ4.ents
  have HB := Lib.hid hB4
  clear hQ4 hB4
  go_wp2_with fail
  go_loopw [24] (fun s24 wr => ∃ i : Nat, i ≤ n ∧ s24 = .int .i64 (i : Int) ∧ Hid (Below w4.heap.size w4 wr)) (fun i _ => n - (intOf i).toNat)
  case atStart => exact ⟨0, by omega, rfl, Lib.hid (Below.refl _ _)⟩
  case round =>
    obtain ⟨i, hi, rfl, hBr⟩ := hrel
    by_cases hin : i < n
    · have hil : i < E.length := by rw [Hn.out]; exact hin
      obtain ⟨b1, o1, rfl, l1, c1, c2⟩ := ((HE.out.old HB.out).old hBr.out) i hil
      obtain ⟨b2, o2, rfl, l2, d1, d2⟩ := (HQ.out.old hBr.out) i hil
      generalize E[i].1 = m at c1 d1
      generalize E[i].2 = p at c2 d2
      have i1 : (i : Int) < n := by omega
      have i0 : (0 : Int) ≤ i := by omega
      have hB5 : Hid (Below w4.heap.size w4 (wr.alloc (.cells #[.int .i64 (m : Int), .int .i64 (p : Int)] 48))) := Lib.hid (hBr.out.alloc hBr.out.size _)
      obtain ⟨W3, hW3⟩ : ∃ W, W = wr.alloc (.cells #[.int .i64 (m : Int), .int .i64 (p : Int)] 48) := ⟨_, rfl⟩
      have hst : W3.heap[wr.heap.size]? = some (.cells #[.int .i64 (m : Int), .int .i64 (p : Int)] 48 (0, 0)) := by rw [hW3]; exact heap_alloc_new _ _
      have s0 : W3.cell? ⟨wr.heap.size, 0, none⟩ = some (.int .i64 (m : Int)) := by rw [cell_of_row W3 wr.heap.size 0 _ 48 (0, 0) hst]; rfl
      have s1 : W3.cell? ⟨wr.heap.size, 1, none⟩ = some (.int .i64 (p : Int)) := by rw [cell_of_row W3 wr.heap.size 1 _ 48 (0, 0) hst]; rfl
      have hb3 : Below wr.heap.size wr W3 := by rw [hW3]; exact (Below.refl _ _).alloc (Nat.le_refl _) _
      have d1' := (hb3.cell (p := ⟨b2, o2 + i * 2, none⟩) l2).trans d1
      have d2' := (hb3.cell (p := ⟨b2, o2 + i * 2 + 1, none⟩) l2).trans d2
      clear hBr hst hb3 d1 d2
      go_upto_region 7 with fail
      rw [← hW3] at hB5 ⊢
      clear hW3 c1 c2
      generalize wr.heap.size = g at s0 s1 ⊢
      go_quiet (fail)
      go_wp2_with fail
      go_roundw
      case rel => exact ⟨i + 1, by omega, by go_num, Lib.hid (((Mod.of_below hB5.out).drewN nq).to_below (Nat.le_refl _) (fun k hk h => absurd h (Nat.not_le_of_lt hk)))⟩
      case measure => simp [intOf]; omega
    · obtain rfl : i = n := by omega
      have hBf := HB.out.trans (hBr.out.mono HB.out.size)
      go_wp2_with fail
      go_ret
      exact ⟨rfl, hBf⟩
end Go.Proofs.Ytdahkemeoefndaa

namespace Go.Proofs.Ytdahkemeoefndaa
open Go.RowKit

theorem numS_err (e most : Int) (h : e ≠ 0) : numS [] e most = (0, [], e) := by
  unfold numS headL failS; simp [h]
theorem numS_no (s : List UInt8) (most : Int) (h : (headL s).2.2 ≠ 0) : numS s 0 most = (0, [], (headL s).2.2) := by
  unfold numS failS; simp [h]
theorem numS_big (s : List UInt8) (most : Int) (h : (headL s).2.2 = 0) (hm : most < (headL s).1) : numS s 0 most = (0, [], 4) := by
  unfold numS failS; simp [h, hm]
theorem numS_yes (s : List UInt8) (most : Int) (h : (headL s).2.2 = 0) (hm : ¬ most < (headL s).1) : numS s 0 most = (((headL s).1 : Int), s.drop (headL s).2.1, (0 : Int)) := by
  unfold numS; simp [h, hm]
theorem drop_bytes (s : List UInt8) (k n : Nat) (hn : n = s.length) : (ByteArray.mk s.toArray).extract k n = ⟨(s.drop k).toArray⟩ := by
  subst hn
  apply ByteArray.ext
  apply Array.ext'
  simp
  exact List.take_of_length_le (by simp)
theorem numS_lo (s : List UInt8) (e m : Int) : 0 ≤ (numS s e m).1 := by
  unfold numS; split
  · exact Int.le_refl 0
  · split
    · exact Int.le_refl 0
    · simp
theorem numS_hi (s : List UInt8) (e m : Int) (h : 0 ≤ m) : (numS s e m).1 ≤ m := by
  unfold numS; split
  · exact h
  · split
    · exact h
    · simp only; omega
theorem beBytes_val : ∀ (l : List UInt8), (∀ d r, l = d :: r → d.toNat ≠ 0) → beBytes (beVal l) = l := by
  intro l
  induction hn : l.length using Nat.strongRecOn generalizing l with
  | _ n ih =>
    intro h
    rcases List.eq_nil_or_concat l with rfl | ⟨L, b, rfl⟩
    · exact beBytes_zero
    · rw [List.concat_eq_append] at hn h ⊢
      rw [beVal_snoc]
      have hb := b.toNat_lt
      have hL : ∀ d r, L = d :: r → d.toNat ≠ 0 := fun d r e => h d (r ++ [b]) (by rw [e]; rfl)
      have hpos : 0 < beVal L * 256 + b.toNat := by
        cases L with
        | nil => have := h b [] rfl; simp only [beVal, List.foldl_nil]; omega
        | cons d r =>
          have hd := hL d r rfl
          rw [beVal_cons]
          have : 0 < d.toNat * 256 ^ r.length := Nat.mul_pos (by omega) (Nat.pow_pos (by decide))
          omega
      rw [beBytes_pos _ hpos, show (beVal L * 256 + b.toNat) / 256 = beVal L by omega, show (beVal L * 256 + b.toNat) % 256 = b.toNat by omega]
      rw [ih L.length (by rw [← hn]; simp) L rfl hL]
      simp
theorem headL_fwd (s : List UInt8) (h : (headL s).2.2 = 0) : s = numL (headL s).1 ++ s.drop (headL s).2.1 := by
  rcases s with _ | ⟨c, r⟩
  · exact absurd h (by unfold headL; decide)
  by_cases h0 : c.toNat = 0
  · have hc : c = 0 := UInt8.toNat_inj.1 h0
    subst hc
    have e : headL (0 :: r) = (0, 1, 0) := by simp [headL]
    rw [e]
    have : numL ((0 : Nat) : Int) = [0] := by unfold numL; rw [Int.toNat_natCast, beBytes_zero]; rfl
    rw [this]; rfl
  by_cases h1 : 8 < c.toNat
  · have e : headL (c :: r) = (0, 0, 3) := by simp [headL, h0, h1]
    rw [e] at h; exact absurd h (by decide)
  rcases r with _ | ⟨d, r⟩
  · have e : headL [c] = (0, 0, 2) := by simp [headL, h0, h1]
    rw [e] at h; exact absurd h (by decide)
  by_cases h2 : d.toNat = 0
  · have e : headL (c :: d :: r) = (0, 0, 3) := by simp [headL, h0, h1, h2]
    rw [e] at h; exact absurd h (by decide)
  by_cases h3 : (d :: r).length < c.toNat
  · have e : headL (c :: d :: r) = (0, 0, 2) := by simp only [headL, if_neg h0, if_neg h1, if_neg h2, if_pos h3]
    rw [e] at h; exact absurd h (by decide)
  by_cases h5 : 9223372036854775807 < beVal ((d :: r).take c.toNat)
  · have e : headL (c :: d :: r) = (0, 0, 3) := by simp only [headL, if_neg h0, if_neg h1, if_neg h2, if_neg h3, if_pos h5]
    rw [e] at h; exact absurd h (by decide)
  have e : headL (c :: d :: r) = (beVal ((d :: r).take c.toNat), c.toNat + 1, 0) := by simp only [headL, if_neg h0, if_neg h1, if_neg h2, if_neg h3, if_neg h5]
  rw [e]
  have hb : beBytes (beVal ((d :: r).take c.toNat)) = (d :: r).take c.toNat := beBytes_val _ (fun d' r' e' => by
    obtain ⟨n, hn⟩ : ∃ n, c.toNat = n + 1 := ⟨c.toNat - 1, by omega⟩
    rw [hn, List.take_succ_cons] at e'
    cases e'; exact h2)
  have hl : ((d :: r).take c.toNat).length = c.toNat := by rw [List.length_take]; omega
  unfold numL
  simp only [Int.toNat_natCast, hb, hl]
  have hc : UInt8.ofNat c.toNat = c := by simp
  rw [hc, List.cons_append, List.drop_succ_cons, List.take_append_drop]
theorem numS_fwd (s : List UInt8) (e m : Int) (h : (numS s e m).2.2 = 0) : e = 0 ∧ s = numL (numS s e m).1 ++ (numS s e m).2.1 := by
  by_cases he : e = 0
  · subst he
    refine ⟨rfl, ?_⟩
    by_cases hh : (headL s).2.2 = 0
    · by_cases hm : m < (headL s).1
      · rw [numS_big s m hh hm] at h; exact absurd h (by decide)
      · rw [numS_yes s m hh hm]; exact headL_fwd s hh
    · rw [numS_no s m hh] at h; exact absurd h hh
  · exfalso
    unfold numS failS at h
    split at h
    · simp only at h; split at h
      · exact he h
      · rename_i h2; simp [he] at h2
    · split at h
      · simp only at h; split at h
        · exact he h
        · rename_i h2; simp [he] at h2
      · exact he h

/-- Entries that are taken. -/
def entS : Nat → List UInt8 → Int → List (Nat × Nat) × List UInt8 × Int
  | 0, s, e => ([], s, e)
  | k + 1, s, e => ((entS k s e).1 ++ [((numS (entS k s e).2.1 (entS k s e).2.2 1099511627776).1.toNat, (numS (numS (entS k s e).2.1 (entS k s e).2.2 1099511627776).2.1 (numS (entS k s e).2.1 (entS k s e).2.2 1099511627776).2.2 1099511627776).1.toNat)], (numS (numS (entS k s e).2.1 (entS k s e).2.2 1099511627776).2.1 (numS (entS k s e).2.1 (entS k s e).2.2 1099511627776).2.2 1099511627776).2)
theorem entS_len (k : Nat) (s : List UInt8) (e : Int) : (entS k s e).1.length = k := by
  induction k with
  | zero => rfl
  | succ k ih => simp [entS, ih]
theorem entS_short (k : Nat) (s : List UInt8) (e : Int) : (entS k s e).2.1.length ≤ s.length := by
  induction k with
  | zero => exact Nat.le_refl _
  | succ k ih => exact Nat.le_trans (numS_len _ _ _) (Nat.le_trans (numS_len _ _ _) ih)
theorem entS_le (k : Nat) (s : List UInt8) (e : Int) : ∀ x ∈ (entS k s e).1, x.1 ≤ 1099511627776 ∧ x.2 ≤ 1099511627776 := by
  induction k with
  | zero => intro x hx; simp [entS] at hx
  | succ k ih =>
    intro x hx
    rcases List.mem_append.1 hx with h | h
    · exact ih x h
    · rw [List.mem_singleton.1 h]
      have h1 := numS_hi (entS k s e).2.1 (entS k s e).2.2 1099511627776 (by decide)
      have h2 := numS_hi (numS (entS k s e).2.1 (entS k s e).2.2 1099511627776).2.1 (numS (entS k s e).2.1 (entS k s e).2.2 1099511627776).2.2 1099511627776 (by decide)
      exact ⟨by simp only; omega, by simp only; omega⟩
/-- The bytes of entries. -/
def encE (E : List (Nat × Nat)) : List UInt8 := E.flatMap fun x => numL (x.1 : Int) ++ numL (x.2 : Int)
theorem encE_snoc (E : List (Nat × Nat)) (x : Nat × Nat) : encE (E ++ [x]) = encE E ++ (numL (x.1 : Int) ++ numL (x.2 : Int)) := by simp [encE]
theorem entS_fwd (k : Nat) (s : List UInt8) (e : Int) (h : (entS k s e).2.2 = 0) : e = 0 ∧ s = encE (entS k s e).1 ++ (entS k s e).2.1 := by
  induction k with
  | zero => exact ⟨h, rfl⟩
  | succ k ih =>
    have h2 := numS_fwd _ _ _ h
    have h1 := numS_fwd _ _ _ h2.1
    have h0 := ih h1.1
    refine ⟨h0.1, ?_⟩
    have l1 := numS_lo (entS k s e).2.1 (entS k s e).2.2 1099511627776
    have l2 := numS_lo (numS (entS k s e).2.1 (entS k s e).2.2 1099511627776).2.1 (numS (entS k s e).2.1 (entS k s e).2.2 1099511627776).2.2 1099511627776
    have e1 : (entS (k + 1) s e).1 = (entS k s e).1 ++ [((numS (entS k s e).2.1 (entS k s e).2.2 1099511627776).1.toNat, (numS (numS (entS k s e).2.1 (entS k s e).2.2 1099511627776).2.1 (numS (entS k s e).2.1 (entS k s e).2.2 1099511627776).2.2 1099511627776).1.toNat)] := rfl
    have e2 : (entS (k + 1) s e).2.1 = (numS (numS (entS k s e).2.1 (entS k s e).2.2 1099511627776).2.1 (numS (entS k s e).2.1 (entS k s e).2.2 1099511627776).2.2 1099511627776).2.1 := rfl
    rw [e1, e2, encE_snoc, Int.toNat_of_nonneg l1, Int.toNat_of_nonneg l2, List.append_assoc, List.append_assoc, ← h2.2, ← h1.2]
    exact h0.2
theorem entS_inv (k : Nat) (s : List UInt8) (e : Int) (h : e ≠ 0 → s = []) : (entS k s e).2.2 ≠ 0 → (entS k s e).2.1 = [] := by
  have key : ∀ (s : List UInt8) (e m : Int), (e ≠ 0 → s = []) → (numS s e m).2.2 ≠ 0 → (numS s e m).2.1 = [] := by
    intro s e m h
    by_cases he : e = 0
    · subst he
      by_cases hh : (headL s).2.2 = 0
      · by_cases hm : m < (headL s).1
        · rw [numS_big s m hh hm]; intro _; rfl
        · rw [numS_yes s m hh hm]; intro h; exact absurd rfl h
      · rw [numS_no s m hh]; intro _; rfl
    · rw [h he, numS_err e m he]; intro _; rfl
  induction k with
  | zero => exact h
  | succ k ih => exact key _ _ _ (key _ _ _ ih)
open Classical in
/-- What Parse answers: entries, and the error. -/
noncomputable def newE (E : List (Nat × Nat)) : Int := if EntsOk E 1 ∧ E ≠ [] then 0 else 1
/-- The error before New. -/
def endE (s : List UInt8) (e : Int) : Int := if s = [] then e else 3
noncomputable def tabE (s : List UInt8) : List (Nat × Nat) := (entS (numS s 0 64).1.toNat (numS s 0 64).2.1 (numS s 0 64).2.2).1
noncomputable def tabX (s : List UInt8) : Int := endE (entS (numS s 0 64).1.toNat (numS s 0 64).2.1 (numS s 0 64).2.2).2.1 (entS (numS s 0 64).1.toNat (numS s 0 64).2.1 (numS s 0 64).2.2).2.2
noncomputable def tabR (s : List UInt8) : Int := if tabX s ≠ 0 then tabX s else newE (tabE s)
theorem newE_ok {E : List (Nat × Nat)} (h : newE E = 0) : EntsOk E 1 ∧ E ≠ [] := by
  unfold newE at h; split at h
  · assumption
  · cases h
theorem newE_yes {E : List (Nat × Nat)} (h : EntsOk E 1) (h0 : E ≠ []) : newE E = 0 := by unfold newE; rw [if_pos ⟨h, h0⟩]
theorem newE_no {E : List (Nat × Nat)} (h : ¬ (EntsOk E 1 ∧ E ≠ [])) : newE E = 1 := by unfold newE; rw [if_neg h]
theorem tabR_fwd (s : List UInt8) (h : tabR s = 0) : s = numL ((tabE s).length : Int) ++ encE (tabE s) ∧ EntsOk (tabE s) 1 ∧ tabE s ≠ [] := by
  unfold tabR at h
  split at h
  · contradiction
  · rename_i hx
    have hx : tabX s = 0 := Classical.not_not.1 hx
    have hn := newE_ok h
    refine ⟨?_, hn.1, hn.2⟩
    unfold tabX endE at hx
    split at hx
    · rename_i hr
      have h2 := entS_fwd _ _ _ hx
      have h1 := numS_fwd _ _ _ h2.1
      have l1 := numS_lo s 0 64
      have hl : ((tabE s).length : Int) = (numS s 0 64).1 := by unfold tabE; rw [entS_len]; omega
      rw [hl]
      have e2 : (numS s 0 64).2.1 = encE (tabE s) := by
        have := h2.2
        rw [hr, List.append_nil] at this
        exact this
      rw [← e2]; exact h1.2
    · cases hx
theorem tabE_len (s : List UInt8) : (tabE s).length ≤ 64 := by
  unfold tabE; rw [entS_len]; have := numS_hi s 0 64 (by decide); omega

theorem sort_eq : ∀ (A B : List (Nat × Nat)), A.Pairwise (fun e f => e.1 < f.1) → B.Pairwise (fun e f => e.1 < f.1) → (∀ x, x ∈ A ↔ x ∈ B) → A = B := by
  intro A
  induction A with
  | nil => intro B _ _ h; cases B with
    | nil => rfl
    | cons b B => exact absurd ((h b).2 (by simp)) (by simp)
  | cons a A ih =>
    intro B hA hB h
    cases B with
    | nil => exact absurd ((h a).1 (by simp)) (by simp)
    | cons b B =>
      have hA1 := List.pairwise_cons.1 hA
      have hB1 := List.pairwise_cons.1 hB
      have e : a = b := by
        rcases List.mem_cons.1 ((h a).1 (by simp)) with e | h1
        · exact e
        · rcases List.mem_cons.1 ((h b).2 (by simp)) with e | h2
          · exact e.symm
          · have := hB1.1 a h1; have := hA1.1 b h2; omega
      subst e
      rw [ih B hA1.2 hB1.2]
      intro x
      constructor
      · intro hx
        rcases List.mem_cons.1 ((h x).1 (by simp [hx])) with e | h1
        · have := hA1.1 x hx; rw [e] at this; omega
        · exact h1
      · intro hx
        rcases List.mem_cons.1 ((h x).2 (by simp [hx])) with e | h1
        · have := hB1.1 x hx; rw [e] at this; omega
        · exact h1
theorem wth_off (E : List (Nat × Nat)) : ∀ (Q : List Nat) (j : Nat), (∀ e ∈ E, e.1 < Q.length) → (∀ e ∈ E, e.1 ≠ j) → (wth Q E).getD j 0 = Q.getD j 0 := by
  induction E with
  | nil => intro Q j _ _; rfl
  | cons e E ih =>
    intro Q j h1 h2
    show (wth (Q.set e.1 e.2) E).getD j 0 = _
    rw [ih _ j (fun f hf => by rw [List.length_set]; exact h1 f (by simp [hf])) (fun f hf => h2 f (by simp [hf])), getD_set Q e.1 e.2 j (h1 e (by simp)), if_neg (h2 e (by simp))]
theorem wth_on (E : List (Nat × Nat)) : ∀ (Q : List Nat), (∀ e ∈ E, e.1 < Q.length) → E.Pairwise (fun e f => e.1 < f.1) → ∀ e ∈ E, (wth Q E).getD e.1 0 = e.2 := by
  induction E with
  | nil => intro Q _ _ e he; simp at he
  | cons x E ih =>
    intro Q h1 h2 e he
    have hp := List.pairwise_cons.1 h2
    show (wth (Q.set x.1 x.2) E).getD e.1 0 = _
    rcases List.mem_cons.1 he with rfl | he
    · rw [wth_off E _ e.1 (fun f hf => by rw [List.length_set]; exact h1 f (by simp [hf])) (fun f hf => by have := hp.1 f hf; omega), getD_set Q e.1 e.2 e.1 (h1 e (by simp)), if_pos rfl]
    · exact ih _ (fun f hf => by rw [List.length_set]; exact h1 f (by simp [hf])) hp.2 e he
theorem EntsOk.rise {E : List (Nat × Nat)} {least : Nat} (h : EntsOk E least) : E.Pairwise (fun e f => e.1 < f.1) := by
  rw [List.pairwise_iff_getElem]
  intro i j hi hj hij
  have : ∀ d (hd : i + d + 1 < E.length), E[i].1 < E[i + d + 1].1 := by
    intro d
    induction d with
    | zero => intro hd; exact h.up i hd
    | succ d ih => intro hd; exact Nat.lt_trans (ih (by omega)) (h.up (i + d + 1) hd)
  have h2 := this (j - i - 1) (by omega)
  have e : i + (j - i - 1) + 1 = j := by omega
  simp only [e] at h2
  omega
theorem tents_wth {E : List (Nat × Nat)} (h : EntsOk E 1) : tents (wth (List.replicate 64 0) E) 64 = E := by
  have hp := h.rise
  refine sort_eq _ _ ?_ hp ?_
  · unfold tents
    refine List.Pairwise.filter _ ?_
    rw [List.pairwise_map]
    exact List.pairwise_lt_range
  · have hl : ∀ e ∈ E, e.1 < (List.replicate 64 0).length := fun e he => by rw [List.length_replicate]; exact h.m e he
    intro x
    constructor
    · intro hx
      obtain ⟨h1, h2⟩ := List.mem_filter.1 hx
      obtain ⟨j, hj, rfl⟩ := List.mem_map.1 h1
      have h2 : 0 < (wth (List.replicate 64 0) E).getD j 0 := by simpa using h2
      by_cases hex : ∃ e ∈ E, e.1 = j
      · obtain ⟨e, he, rfl⟩ := hex
        rw [wth_on E _ hl hp e he]; exact he
      · rw [wth_off E _ j hl (fun e he e' => hex ⟨e, he, e'⟩)] at h2
        rw [List.getD_eq_getElem?_getD, List.getElem?_replicate] at h2
        split at h2 <;> simp at h2
    · intro hx
      refine List.mem_filter.2 ⟨List.mem_map.2 ⟨x.1, List.mem_range.2 (h.m x hx), ?_⟩, ?_⟩
      · rw [wth_on E _ hl hp x hx]
      · have := (h.p x hx).1
        simp; omega
end Go.Proofs.Ytdahkemeoefndaa

namespace Go.Proofs.Ytdahkemeoefndaa
open Go.RowKit

/-- The first i entries may be. -/
def Good (E : List (Nat × Nat)) (i : Nat) : Prop := (∀ j (h : j < E.length), j < i → E[j].1 < 64 ∧ 1 ≤ E[j].2 ∧ E[j].2 ≤ 1099511627776) ∧ ∀ j (h : j + 1 < E.length), j + 1 < i → E[j].1 < E[j + 1].1
/-- The miner before. -/
def bef (E : List (Nat × Nat)) (i : Nat) : Int := if h : 0 < i ∧ i - 1 < E.length then ((E[i - 1]'h.2).1 : Int) else -1
theorem Good.zero (E : List (Nat × Nat)) : Good E 0 := ⟨fun j _ h => by omega, fun j _ h => by omega⟩
theorem Good.all {E : List (Nat × Nat)} (h : Good E E.length) : EntsOk E 1 := by
  refine ⟨fun e he => ?_, fun e he => ?_, fun j hj => h.2 j hj hj⟩
  · obtain ⟨i, hi, rfl⟩ := List.mem_iff_getElem.1 he; exact (h.1 i hi hi).1
  · obtain ⟨i, hi, rfl⟩ := List.mem_iff_getElem.1 he; exact (h.1 i hi hi).2
theorem bef_succ (E : List (Nat × Nat)) (i : Nat) (h : i < E.length) : bef E (i + 1) = (E[i].1 : Int) := by
  unfold bef; rw [dif_pos ⟨by omega, by simpa using h⟩]; simp
theorem Good.next {E : List (Nat × Nat)} {i : Nat} (h : Good E i) (hi : i < E.length) (h1 : bef E i < (E[i].1 : Int)) (h2 : E[i].1 < 64) (h3 : 1 ≤ E[i].2) (h4 : E[i].2 ≤ 1099511627776) : Good E (i + 1) := by
  refine ⟨fun j hj hji => ?_, fun j hj hji => ?_⟩
  · by_cases e : j = i
    · subst e; exact ⟨h2, h3, h4⟩
    · exact h.1 j hj (by omega)
  · by_cases e : j + 1 = i
    · subst e
      have : bef E (j + 1) = (E[j].1 : Int) := bef_succ E j (by omega)
      rw [this] at h1; omega
    · exact h.2 j hj (by omega)
theorem ok_at {E : List (Nat × Nat)} (h : EntsOk E 1) (i : Nat) (hi : i < E.length) : bef E i < (E[i].1 : Int) ∧ E[i].1 < 64 ∧ 1 ≤ E[i].2 := by
  refine ⟨?_, h.m _ (List.getElem_mem hi), (h.p _ (List.getElem_mem hi)).1⟩
  unfold bef
  split
  · rename_i hc
    have := h.up (i - 1) (by omega)
    simp only [show i - 1 + 1 = i by omega] at this
    omega
  · omega

set_option maxRecDepth 20000 in
set_option maxHeartbeats 4000000 in
theorem may_no (ao : Option Addr) (cap : Nat) (E : List (Nat × Nat)) (w : World) (hS : EntsAt w ao E) (hle : ∀ x ∈ E, x.1 ≤ 1099511627776 ∧ x.2 ≤ 1099511627776) (hl : E.length ≤ 64) (hno : ¬ EntsOk E 1) :
    Calls Try.prog 22 #[.slice ao E.length cap, .int .i64 1] w fun r w' => r = .returned (.bool false) ∧ Below w.heap.size w w' := by
  obtain ⟨n, hn⟩ : ∃ n, E.length = n := ⟨_, rfl⟩
  rw [hn] at hl ⊢
  have Hn := Lib.hid hn
  have HS := Lib.hid hS
  have Hle := Lib.hid hle
  have Hno := Lib.hid hno
  clear hn hS hle hno
  go_enter Try.func22, Try.ntmps22
  go_wp2_with fail
  go_loopw [5, 10] (fun s5 s10 wr => ∃ i : Nat, i ≤ n ∧ s5 = .int .i64 (bef E i) ∧ s10 = .int .i64 (i : Int) ∧ Hid (Good E i ∧ Below w.heap.size w wr)) (fun _ i _ => n - (intOf i).toNat)
  case atStart => exact ⟨0, by omega, rfl, rfl, Lib.hid ⟨Good.zero E, Below.refl _ _⟩⟩
  case round =>
    obtain ⟨i, hi, rfl, rfl, hG⟩ := hrel
    by_cases hin : i < n
    · have hil : i < E.length := by rw [Hn.out]; exact hin
      obtain ⟨bs, off, rfl, hbs, c1, c2⟩ := (HS.out.old hG.out.2) i hil
      have hle := Hle.out _ (List.getElem_mem hil)
      have hnx := Lib.hid (fun h1 h2 h3 h4 => hG.out.1.next hil h1 h2 h3 h4)
      have hbs2 := bef_succ E i hil
      obtain ⟨m, hm0⟩ : ∃ m, m = E[i].1 := ⟨_, rfl⟩
      obtain ⟨p, hp0⟩ : ∃ m, m = E[i].2 := ⟨_, rfl⟩
      obtain ⟨z, hz⟩ : ∃ z, z = bef E i := ⟨_, rfl⟩
      rw [← hm0] at hle c1 hbs2
      rw [← hp0] at hle c2
      rw [← hm0, ← hp0, ← hz] at hnx
      rw [← hz]
      have HB := Lib.hid hbs2
      have i1 : (i : Int) < n := by omega
      have i0 : (0 : Int) ≤ i := by omega
      have b4 : ¬ (1099511627776 : Int) < p := by omega
      have HB2 : Hid (Below w.heap.size w (wr.alloc (.cells #[.int .i64 (m : Int), .int .i64 (p : Int)] 38))) := Lib.hid (hG.out.2.alloc hG.out.2.size _)
      clear hbs2 hm0 hp0 hz hG
      by_cases b1 : (m : Int) ≤ z
      · clear hnx b4
        go_wp2_with fail
        go_ret
        exact ⟨rfl, HB2.out⟩
      · by_cases b2 : (64 : Int) ≤ m
        · clear hnx b4
          go_wp2_with fail
          go_ret
          exact ⟨rfl, HB2.out⟩
        · by_cases b3 : (p : Int) < 1
          · clear hnx b4
            go_wp2_with fail
            go_ret
            exact ⟨rfl, HB2.out⟩
          · have hgn : Hid (Good E (i + 1)) := Lib.hid (hnx.out (by omega) (by omega) (by omega) (by omega))
            clear hnx
            have b2' : (m : Int) < 64 := by omega
            go_wp2_with fail
            go_roundw
            case rel => exact ⟨i + 1, by omega, by rw [HB.out], by go_num, Lib.hid ⟨hgn.out, HB2.out⟩⟩
            case measure => simp [intOf]; omega
    · exfalso
      refine Hno.out (Good.all ?_)
      rw [Hn.out]
      have e : i = n := by omega
      rw [← e]; exact hG.out.1
end Go.Proofs.Ytdahkemeoefndaa

namespace Go.Proofs.Ytdahkemeoefndaa
open Go.RowKit

/-- What stays where nothing below turns. -/
structure Stays where
  p : Value → World → Prop
  old : ∀ {v : Value} {w w' : World}, p v w → Below w.heap.size w w' → p v w'
inductive Kd where
  | any
  | eq (v : Value)
  | st (s : Stays)
def VK : Kd → Value → World → Prop
  | .any, _, _ => True
  | .eq x, v, _ => v = x
  | .st s, v, w => s.p v w
theorem VK.old {k : Kd} {v : Value} {w w' : World} (h : VK k v w) (hb : Below w.heap.size w w') : VK k v w' := by
  cases k with
  | any => trivial
  | eq x => exact h
  | st s => exact s.old h hb
theorem not_wanted {ops : Array Oper} {o : Oper} {a : Act} {g : Nat} {want : Bool} {t : Tmp} {v : Value} (hg : o.guard = some (g, want)) (hd : (ops[g]?).bind (·.dst) = some t) (h : a.eval (.tmp t) = v) (hv : v ≠ .bool want) : Region.wanted o (yielded ops a.tmps) = false := by
  unfold Region.wanted yielded
  rw [hg]
  simp only [hd, Option.bind_some]
  unfold Act.eval at h
  cases hc : a.tmps[t]? with
  | none => rfl
  | some x =>
    simp [hc] at h
    subst h
    cases x with
    | bool b =>
      simp only [beq_eq_false_iff_ne, ne_eq, Option.some.injEq]
      intro e; exact hv (by rw [e])
    | _ => rfl
section
variable {P : Program} {ops : Array Oper} {Q : Exit → Act → World → Prop} {md : Region.Mode} {K : Tmp → Kd} {W : World} {a0 : Act}
/-- An operation that is not wanted. -/
theorem owesK_not {i : Nat} {o : Oper} {t : Tmp} (hi : ops[i]? = some o) (ht : o.dst = some t)
    (h : ∀ a w, Agree ops a0 a → Below W.heap.size W w → AllV (fun t v w => VK (K t) v w) a w (waits md ops o) → Region.wanted o (yielded ops a.tmps) = false ∧ VK (K t) undef w) : Owes P md ops Q (fun t v w => VK (K t) v w) (fun w => Below W.heap.size W w) a0 i o := by
  intro a w ha hG hV
  obtain ⟨hw, hv⟩ := h a w ha hG hV
  unfold wpOp
  rw [hi]
  simp only [hw]
  exact ⟨undef, rfl, fun u hu => by rw [ht] at hu; cases hu; exact hv, hG, fun _ _ h => h⟩
/-- An operation that yields a value, and may make memory. -/
theorem owesK {i : Nat} {o : Oper} {t : Tmp} (hi : ops[i]? = some o) (ht : o.dst = some t) (h : ∀ a w, Agree ops a0 a → Below W.heap.size W w → AllV (fun t v w => VK (K t) v w) a w (waits md ops o) →
    ∃ v w', Region.wanted o (yielded ops a.tmps) = true ∧ (execOp a.eval o).run P w = .ok (.value v) w' ∧ Below w.heap.size w w' ∧ VK (K t) v w') : Owes P md ops Q (fun t v w => VK (K t) v w) (fun w => Below W.heap.size W w) a0 i o := by
  intro a w ha hG hV
  obtain ⟨v, w', hw, hr, hb, hv⟩ := h a w ha hG hV
  unfold wpOp
  rw [hi]
  simp only [hw, if_true, Oper.wp, hr, Oper.upon]
  exact .inl ⟨v, rfl, fun u hu => by rw [ht] at hu; cases hu; exact hv, hG.trans (hb.mono hG.size), fun _ _ h => VK.old h hb⟩
/-- A call. -/
theorem owesK_call {i : Nat} {o : Oper} {t : Tmp} (hi : ops[i]? = some o) (ht : o.dst = some t) (f : FuncId) (h : ∀ a w, Agree ops a0 a → Below W.heap.size W w → AllV (fun t v w => VK (K t) v w) a w (waits md ops o) →
    ∃ args, Region.wanted o (yielded ops a.tmps) = true ∧ (execOp a.eval o).run P w = .ok (.enter f args) w ∧
      Calls P f args w fun e w' => ∃ v, e = .returned v ∧ VK (K t) v w' ∧ Below w.heap.size w w') : Owes P md ops Q (fun t v w => VK (K t) v w) (fun w => Below W.heap.size W w) a0 i o := by
  intro a w ha hG hV
  obtain ⟨args, hw, hr, hc⟩ := h a w ha hG hV
  unfold wpOp
  rw [hi]
  simp only [hw, if_true, Oper.wp, hr, Oper.upon]
  refine .inl (hc.mono ?_)
  rintro e w' ⟨v, rfl, h1, hb⟩
  exact ⟨v, rfl, fun u hu => by rw [ht] at hu; cases hu; exact h1, hG.trans (hb.mono hG.size), fun _ _ h => VK.old h hb⟩
end
end Go.Proofs.Ytdahkemeoefndaa
