/- The law's fixed fact. -/
import Derived.Test.YthmgigojgagpeaaT6
namespace Go.Proofs.Ythmgigojgagpeaa
open Go.RowKit

theorem wpList_load_rowG {P : Program} {ops : Array Oper} {rest : List Oper} {o : Oper} {a : Act} {w : World} {Q : Exit → Act → World → Prop} (hw : Region.wanted o (yielded ops a.tmps) = true) (ty : TypeId) (x : Operand) (ho : o.op = .load ty x)
    (g : Nat) (hx : a.eval x = .pointer (some ⟨g, 0, none⟩)) (t : TypeId) (cs : Array Value) (fr : Nat × Nat) (d : TypeDesc) (hg : w.heap[g]? = some (.cells cs t fr))
    (hu : P.underlying ty = some d) (hd : (match d with | .struct _ | .array _ _ => true | _ => false) = true) (hi : (P.info? ty).map (·.size) = some cs.size)
    (h : wpList P ops Q rest (a.put o.dst (.agg cs)) w) : wpList P ops Q (o :: rest) a w :=
  wpList_step fun _ hK => by rw [if_pos hw]; exact wp_load_row ty x ho g hx t cs fr d hg hu hd hi (hK _ _ h)
theorem trip_ok : EntsOk [(0, 1), (1, 1), (2, 1)] 1 := by
  refine ⟨by decide, by decide, ?_⟩
  intro j hj
  match j, hj with
  | 0, _ => exact Nat.zero_lt_one
  | 1, _ => exact Nat.lt_succ_self 1
theorem trip_tab : IsTab (wth (List.replicate 64 0) [(0, 1), (1, 1), (2, 1)]) := isTab_zero.wth trip_ok
theorem ints3 (w : World) (T : TypeId) (a b c : Int) : IntsAt (w.alloc (.cells #[.int .i64 a, .int .i64 b, .int .i64 c] T)) (some ⟨w.heap.size, 0, none⟩) [a, b, c] := by
  intro j hj
  refine ⟨w.heap.size, 0, rfl, by simp, ?_⟩
  rw [cell_of_row _ w.heap.size _ _ T (0, 0) (heap_alloc_new _ _)]
  match j, hj with
  | 0, _ => rfl
  | 1, _ => rfl
  | 2, _ => rfl
theorem trip_ents (w : World) (T : TypeId) : EntsAt (w.alloc (.cells #[.int .i64 0, .int .i64 1, .int .i64 1, .int .i64 1, .int .i64 2, .int .i64 1] T)) (some ⟨w.heap.size, 0, none⟩) [(0, 1), (1, 1), (2, 1)] := by
  intro j hj
  refine ⟨w.heap.size, 0, rfl, by simp, ?_, ?_⟩ <;> rw [cell_of_row _ w.heap.size _ _ T (0, 0) (heap_alloc_new _ _)] <;>
  · match j, hj with
    | 0, _ => rfl
    | 1, _ => rfl
    | 2, _ => rfl

set_option maxRecDepth 20000 in
set_option maxHeartbeats 4000000 in
theorem awake_any (w : World) : Calls Try.prog 6 #[] w fun r w' => r = .returned (.bool true) ∧ Below w.heap.size w w' := by
  have hnew := fun (w : World) h => new_any (some ⟨w.heap.size, 0, none⟩) 3 [(0, 1), (1, 1), (2, 1)] (w.alloc (.cells #[.int .i64 0, .int .i64 1, .int .i64 1, .int .i64 1, .int .i64 2, .int .i64 1] 48)) h trip_ok (by decide) (by simp)
  have hq1  := fun w : World => quorum_any (wth (List.replicate 64 0) [(0, 1), (1, 1), (2, 1)]) (some ⟨w.heap.size, 0, none⟩) 3 [2, 1, 0] (w.alloc (.cells #[.int .i64 2, .int .i64 1, .int .i64 0] 3)) trip_tab (ints3 _ _ _ _ _) (by decide)
  have hq2  := fun w : World => quorum_any (wth (List.replicate 64 0) [(0, 1), (1, 1), (2, 1)]) (some ⟨w.heap.size, 0, none⟩) 3 [0, 1, 1] (w.alloc (.cells #[.int .i64 0, .int .i64 1, .int .i64 1] 3)) trip_tab (ints3 _ _ _ _ _) (by decide)
  have ht  := fun w : World => total_any (wth (List.replicate 64 0) [(0, 1), (1, 1), (2, 1)]) w trip_tab
  rw [show tsum (wth (List.replicate 64 0) [(0, 1), (1, 1), (2, 1)]) = 3 by decide +kernel] at ht
  simp only [show decide (2 * tsum (wth (List.replicate 64 0) [(0, 1), (1, 1), (2, 1)]) < 3 * tsum (sig (wth (List.replicate 64 0) [(0, 1), (1, 1), (2, 1)]) [2, 1, 0])) = true by decide +kernel] at hq1
  simp only [show decide (2 * tsum (wth (List.replicate 64 0) [(0, 1), (1, 1), (2, 1)]) < 3 * tsum (sig (wth (List.replicate 64 0) [(0, 1), (1, 1), (2, 1)]) [0, 1, 1])) = false by decide +kernel] at hq2
  unfold tval at hnew hq1 hq2 ht
  obtain ⟨A, hA⟩ : ∃ A, A = (nums .i64 (wth (List.replicate 64 0) [(0, 1), (1, 1), (2, 1)])).toArray := ⟨_, rfl⟩
  have hAs : A.size = 64 := trip_tab.row hA
  have h1A : Hid (∀ v ∈ A.toList, v.oneCell' = true) := Lib.hid (by rw [hA]; intro v hv; exact nums_one .i64 _ v (by simpa using hv))
  rw [← hA] at hnew hq1 hq2 ht
  obtain ⟨Z, hZ⟩ : ∃ Z, Z = (nums .i64 (List.replicate 64 0)).toArray := ⟨_, rfl⟩
  have hz : ∀ w : World, (zeroValue 28).run Try.prog w = .ok (.agg Z) w := by rw [hZ]; exact fun _ => by kernel_rfl
  have hZs : Z.size = 64 := by rw [hZ]; simp [nums_len]
  have Hnew := Lib.hid (fun w => hnew w (trip_ents _ _))
  have Hq1 := Lib.hid hq1
  have Hq2 := Lib.hid hq2
  have Ht := Lib.hid ht
  clear hnew hq1 hq2 ht hA hZ
  go_enter Try.func6, Try.ntmps6
  go_wp2_with fail
  refine (Hnew.out _).mono ?_
  rintro r w1 ⟨rfl, hb1⟩
  have hr1 : (w1.alloc (.cells Z 28)).heap[w1.heap.size]? = some (.cells Z 28 (0, 0)) := heap_alloc_new _ _
  have hg := setRow_heap (w1.alloc (.cells Z 28)) w1.heap.size Z A 28 (0, 0) hr1
  have hB : Below w.heap.size w ((w1.alloc (.cells Z 28)).setRow w1.heap.size A) := ((Mod.of_below ((((Below.refl _ w).alloc (Nat.le_refl _) _).trans (hb1.mono (by simp))).alloc (Nat.le_trans (by simp) hb1.size) (.cells Z 28))).setRow A).to_below (Nat.le_refl _) (by have := hb1.size; rintro k hk (h | h) <;> simp at this <;> omega)
  go_upto_region 2 with (refine wpList_store_row rfl rfl 28 (.tmp 1) (.tmp 9) rfl w1.heap.size rfl 28 Z A rfl hr1 ?s2 ?s3 ?s4 ?_)
  case s2 => rw [hZs, hAs]
  case s3 => rw [hAs]; kernel_rfl
  case s4 => exact h1A.out
  generalize (w1.alloc (.cells Z 28)).setRow w1.heap.size A = W at hg hB ⊢
  generalize w1.heap.size = g at hg ⊢
  clear hr1 hb1
  go_wp2_with (refine wpList_load_rowG rfl 28 (.tmp 1) rfl g rfl 28 A (0, 0) _ hg Try.underlying28 rfl ?s1 ?_)
  case s1 => rw [hAs]; kernel_rfl
  refine (Hq1.out _).mono ?_
  rintro r w2 ⟨rfl, hb2⟩
  have hg2 : w2.heap[g]? = some (.cells A 28 (0, 0)) := (hb2.block _ (by simp; exact Nat.lt_succ_of_lt (Array.getElem?_eq_some_iff.1 hg).1)).trans ((Below.heap_alloc _ _ _ (Array.getElem?_eq_some_iff.1 hg).1).trans hg)
  have hB2 := (hB.alloc hB.size (.cells #[.int .i64 2, .int .i64 1, .int .i64 0] 3)).trans (hb2.mono (by simp; exact Nat.le_succ_of_le hB.size))
  clear hb2 hg hB
  go_wp2_with (refine wpList_load_rowG rfl 28 (.tmp 1) rfl g rfl 28 A (0, 0) _ hg2 Try.underlying28 rfl ?s1 ?_)
  case s1 => rw [hAs]; kernel_rfl
  refine (Hq2.out _).mono ?_
  rintro r w3 ⟨rfl, hb3⟩
  have hg3 : w3.heap[g]? = some (.cells A 28 (0, 0)) := (hb3.block _ (by simp; exact Nat.lt_succ_of_lt (Array.getElem?_eq_some_iff.1 hg2).1)).trans ((Below.heap_alloc _ _ _ (Array.getElem?_eq_some_iff.1 hg2).1).trans hg2)
  have hB3 := (hB2.alloc hB2.size (.cells #[.int .i64 0, .int .i64 1, .int .i64 1] 3)).trans (hb3.mono (by simp; exact Nat.le_succ_of_le hB2.size))
  clear hb3 hg2 hB2
  go_wp2_with (refine wpList_load_rowG rfl 28 (.tmp 1) rfl g rfl 28 A (0, 0) _ hg3 Try.underlying28 rfl ?s1 ?_)
  case s1 => rw [hAs]; kernel_rfl
  refine (Ht.out w3).mono ?_
  rintro r w4 ⟨rfl, hb4⟩
  have hB4 := hB3.trans (hb4.mono hB3.size)
  go_wp2_with fail
  go_ret
  exact ⟨rfl, hB4⟩
end Go.Proofs.Ythmgigojgagpeaa
