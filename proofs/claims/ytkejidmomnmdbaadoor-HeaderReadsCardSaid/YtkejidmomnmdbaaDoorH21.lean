/- What the reference takes: bytes. -/
import Derived.Test.YtkejidmomnmdbaaDoorH20
namespace Go.Proofs.YtkejidmomnmdbaaDoor
open Go.RowKit

set_option maxRecDepth 20000 in
set_option maxHeartbeats 4000000 in
theorem rtr_any (s : List UInt8) (e : Int) (n : Nat) (w : World) (hl : s.length ≤ 1099511627776) (hinv : e ≠ 0 → s = []) :
    Calls Tryd.prog 103 #[.agg #[.string ⟨s.toArray⟩, .int .i64 e], .int .i64 (n : Int)] w fun r w' => r = .returned (.tuple #[.agg (tkc (rawS s e n).2.1 (rawS s e n).2.2), .string ⟨(rawS s e n).1.toArray⟩]) ∧ Below w.heap.size w w' := by
  obtain ⟨W0, hW0⟩ : ∃ W0, W0 = (w.alloc (.cells #[.string ⟨s.toArray⟩, .int .i64 e] 137)).alloc (.cells #[.string ⟨#[]⟩, .int .i64 0] 137) := ⟨_, rfl⟩
  have b0 : Below w.heap.size w W0 := by rw [hW0]; exact ((Below.refl _ w).alloc (Nat.le_refl _) _).alloc (by simp) _
  have hbx : W0.heap[w.heap.size]? = some (.cells #[.string ⟨s.toArray⟩, .int .i64 e] 137 (0, 0)) := by rw [hW0, Below.heap_alloc _ _ _ (by simp)]; exact heap_alloc_new w _
  have hrs : W0.heap[w.heap.size + 1]? = some (.cells #[.string ⟨#[]⟩, .int .i64 0] 137 (0, 0)) := by rw [hW0]; have := heap_alloc_new (w.alloc (.cells #[.string ⟨s.toArray⟩, .int .i64 e] 137)) (.cells #[.string ⟨#[]⟩, .int .i64 0] 137); simpa using this
  have hfinB : ∀ Y : Array Value, Below w.heap.size w (W0.setRow (w.heap.size + 1) Y) := fun Y => b0.trans (((Mod.refl (fun _ => False) W0).setRow (g := w.heap.size + 1) Y).to_below b0.size (by rintro k hk (h | h) <;> first | exact h | omega))
  have hfinB2 : ∀ X Y : Array Value, Below w.heap.size w ((W0.setRow w.heap.size X).setRow (w.heap.size + 1) Y) := fun X Y => b0.trans ((((Mod.refl (fun _ => False) W0).setRow (g := w.heap.size) X).setRow (g := w.heap.size + 1) Y).to_below b0.size (by rintro k hk ((h | h) | h) <;> first | exact h | omega))
  have HF := Lib.hid hfinB
  have HF2 := Lib.hid hfinB2
  have HW0 := Lib.hid hW0
  obtain ⟨l, hlen⟩ : ∃ l, l = s.length := ⟨_, rfl⟩
  have hsz : (ByteArray.mk s.toArray).size = l := by rw [hlen]; rfl
  rw [← hlen] at hl
  clear hW0 b0 hfinB hfinB2
  by_cases he : e = 0
  case neg =>
    obtain rfl := hinv he
    rw [rawS_err e n he]
    have t1 : (e == 0) = false := by simp [he]
    have t2 : (e != 0) = true := by simp [he]
    have L0 := Lib.hid (setRow_heap W0 (w.heap.size + 1) _ (tkc [] e) 137 (0, 0) hrs)
    have q4 := tkc_one [] e
    unfold tkc at L0 q4
    clear he hinv hlen hsz hl
    go_enter Tryd.func103, Tryd.ntmps103
    go_wp2_with (first | (rw [← HW0.out]; refine wpList_load_row rfl 137 (.tmp 2) rfl w.heap.size rfl 137 _ (0, 0) _ hbx Tryd.underlying137 rfl tkinfo ?_) | (refine wpList_store_row rfl rfl 137 (.tmp 4) (.tmp 20) rfl (w.heap.size + 1) rfl 137 _ _ rfl hrs rfl tkinfo q4 ?_))
    exact bodyPost_ret (v := .tuple #[.agg _, .string ⟨#[]⟩]) (results_row2 Tryd.results103 _ _ (w.heap.size + 1) 137 _ (0, 0) _ _ rfl rfl L0.out Tryd.underlying137 rfl tkinfo) rfl ⟨rfl, HF.out _⟩
  subst he
  by_cases hn : l < n
  · have hfin : rawS s 0 n = ([], [], 2) := by unfold rawS failS; rw [if_pos (by omega)]; simp
    rw [hfin]
    have n1 : (l : Int) < n := by omega
    have hbx2 : (W0.setRow w.heap.size (tkc [] 2)).heap[w.heap.size]? = some (.cells (tkc [] 2) 137 (0, 0)) := setRow_heap _ _ _ _ _ _ hbx
    have hrs2 : (W0.setRow w.heap.size (tkc [] 2)).heap[w.heap.size + 1]? = some (.cells #[.string ⟨#[]⟩, .int .i64 0] 137 (0, 0)) := (setRow_other W0 _ _ _ (by omega)).trans hrs
    have L0 := Lib.hid (setRow_heap (W0.setRow w.heap.size (tkc [] 2)) (w.heap.size + 1) _ (tkc [] 2) 137 (0, 0) hrs2)
    have HFF := Lib.hid (HF2.out (tkc [] 2) (tkc [] 2))
    have q4 := tkc_one [] 2
    obtain ⟨W1, hW1⟩ : ∃ W, W = W0.setRow w.heap.size (tkc [] 2) := ⟨_, rfl⟩
    rw [← hW1] at hbx2 hrs2 L0 HFF
    have HW1 := Lib.hid hW1
    have c1 : W1.cell? ⟨w.heap.size, 1, none⟩ = some (.int .i64 2) := cell_of_row W1 w.heap.size 1 _ 137 (0, 0) hbx2
    unfold tkc at L0 q4 hbx2 HFF HW1
    clear hinv hlen hfin hW1
    go_enter Tryd.func103, Tryd.ntmps103
    go_wp2_with (first | (rw [← HW0.out]; refine wpList_store_row rfl rfl 137 (.tmp 2) (.tmp 16) rfl w.heap.size rfl 137 _ _ rfl hbx rfl tkinfo q4 ?_; rw [← HW1.out]) | (refine wpList_load_row rfl 137 (.tmp 2) rfl w.heap.size rfl 137 _ (0, 0) _ hbx2 Tryd.underlying137 rfl tkinfo ?_) | (refine wpList_store_row rfl rfl 137 (.tmp 4) (.tmp 20) rfl (w.heap.size + 1) rfl 137 _ _ rfl hrs2 rfl tkinfo q4 ?_))
    exact bodyPost_ret (v := .tuple #[.agg _, .string ⟨#[]⟩]) (results_row2 Tryd.results103 _ _ (w.heap.size + 1) 137 _ (0, 0) _ _ rfl rfl L0.out Tryd.underlying137 rfl tkinfo) rfl ⟨rfl, HFF.out⟩
  have hfin : rawS s 0 n = (s.take n, s.drop n, 0) := by unfold rawS; rw [if_neg (by omega)]; simp
  rw [hfin]
  have hdb := drop_bytes s n l hlen
  have htb := take_bytes s n
  obtain ⟨tt, ht⟩ : ∃ t, t = s.drop n := ⟨_, rfl⟩
  obtain ⟨u, hu⟩ : ∃ t, t = s.take n := ⟨_, rfl⟩
  rw [← ht] at hdb ⊢
  rw [← hu] at htb ⊢
  have L0 := Lib.hid (setRow_heap W0 (w.heap.size + 1) _ (tkc tt 0) 137 (0, 0) hrs)
  have q4 := tkc_one tt 0
  have HFF := Lib.hid (HF.out (tkc tt 0))
  have HFD : Hid (Below w.heap.size w (W0.drew.setRow (w.heap.size + 1) (tkc tt 0))) := Lib.hid ⟨HFF.out.os, HFF.out.tape, HFF.out.output, HFF.out.size, HFF.out.block⟩
  unfold tkc at L0 q4 HFF HFD
  have i0 : (0 : Int) ≤ n := by omega
  have i1 : (n : Int) ≤ l := by omega
  have i2 : ¬ (l : Int) < n := by omega
  have i3 : n ≤ l := by omega
  have i4 : 0 ≤ n := Nat.zero_le _
  have cbx : W0.cell? ⟨w.heap.size, 0, none⟩ = some (.string ⟨s.toArray⟩) := cell_of_row W0 w.heap.size 0 _ 137 (0, 0) hbx
  have CBX := Lib.hid cbx
  have HRS := Lib.hid hrs
  clear hinv hlen ht hu hfin cbx HF HF2
  go_enter Tryd.func103, Tryd.ntmps103
  go_wp2_with fail
  rw [← HW0.out]
  obtain ⟨g, hg⟩ : ∃ g, g = w.heap.size := ⟨_, rfl⟩
  rw [← hg] at CBX HRS L0 HFD ⊢
  clear HFF
  have Hg := Lib.hid hg
  clear hg
  have HG0 : Hid ((fun (j : Nat) (_ : Value) (w1 : World) => (j = 0 ∧ w1 = W0.drew) ∨ (j = 1 ∧ w1 = W0.drew.setRow (g + 1) #[.string ⟨tt.toArray⟩, .int .i64 0])) 0 undef W0.drew) := Lib.hid (.inl ⟨rfl, rfl⟩)
  refine wp_region_chain (fun t v => match t with
    | 21 => v = .pointer (some ⟨g, 0, none⟩)
    | 22 => v = .string ⟨s.toArray⟩
    | 23 => v = .int .i64 (n : Int)
    | 24 => v = .string ⟨tt.toArray⟩
    | 25 => v = .agg #[.string ⟨tt.toArray⟩, .int .i64 0]
    | 26 => v = .pointer (some ⟨g, 0, none⟩)
    | 27 => v = .string ⟨s.toArray⟩
    | 28 => v = .int .i64 (n : Int)
    | 29 => v = .string ⟨u.toArray⟩
    | 5 => v = .string ⟨u.toArray⟩
    | _ => True) (fun (j : Nat) (_ : Value) (w1 : World) => (j = 0 ∧ w1 = W0.drew) ∨ (j = 1 ∧ w1 = W0.drew.setRow (g + 1) #[.string ⟨tt.toArray⟩, .int .i64 0])) [9] 30 (by kernel_rfl) (by decide +kernel) rfl (by decide +kernel) (by decide) (by decide) HG0.out (by
    refine OweAllC.cons (owesC_val 0 (by decide +kernel) (by decide) rfl rfl fun k' a w1 x hk ha hG hV => ?_) ?_
    · skip
      have h2 := ha.outer 2 (by decide +kernel)
      simp only [Act.eval] at h2
      exact ⟨.pointer (some ⟨g, 0, none⟩), wanted_free rfl, by simp [execOp, go_sem, h2], rfl⟩
    refine OweAllC.cons (owesC_val 0 (by decide +kernel) (by decide) rfl rfl fun k' a w1 x hk ha hG hV => ?_) ?_
    · skip
      have h21 : a.tmps.getD 21 undef = .pointer (some ⟨g, 0, none⟩) := hV.get 21 (by decide +kernel)
      obtain rfl : w1 = W0.drew := by rcases hG with hG | hG; exact hG.2; exact absurd hG.1 (by omega)
      have cc : W0.drew.cell? ⟨g, 0, none⟩ = some (.string ⟨s.toArray⟩) := CBX.out
      exact ⟨.string ⟨s.toArray⟩, wanted_free rfl, by simp [execOp, go_sem, h21, cc], rfl⟩
    refine OweAllC.cons (owesC_val 0 (by decide +kernel) (by decide) rfl rfl fun k' a w1 x hk ha hG hV => ?_) ?_
    · skip
      have h1 := ha.outer 1 (by decide +kernel)
      simp only [Act.eval] at h1
      exact ⟨.int .i64 (n : Int), wanted_free rfl, by simp [execOp, go_sem, h1], rfl⟩
    refine OweAllC.cons (owesC_val 0 (by decide +kernel) (by decide) rfl rfl fun k' a w1 x hk ha hG hV => ?_) ?_
    · skip
      have h22 : a.tmps.getD 22 undef = .string ⟨s.toArray⟩ := hV.get 22 (by decide +kernel)
      have h23 : a.tmps.getD 23 undef = .int .i64 (n : Int) := hV.get 23 (by decide +kernel)
      exact ⟨.string ⟨tt.toArray⟩, wanted_free rfl, by simp [execOp, go_sem, h22, h23, hsz, i1, hdb], rfl⟩
    refine OweAllC.cons (owesC_val 0 (by decide +kernel) (by decide) rfl rfl fun k' a w1 x hk ha hG hV => ?_) ?_
    · skip
      have h24 : a.tmps.getD 24 undef = .string ⟨tt.toArray⟩ := hV.get 24 (by decide +kernel)
      have g24 : a.tmps[24]?.getD undef = .string ⟨tt.toArray⟩ := by simpa using h24
      exact ⟨.agg #[.string ⟨tt.toArray⟩, .int .i64 0], wanted_free rfl, by simp [execOp, go_sem, h24, g24], rfl⟩
    refine OweAllC.cons (owesC_val 1 (by decide +kernel) (by decide) rfl rfl fun k' a w1 x hk ha hG hV => ?_) ?_
    · skip
      have h2 := ha.outer 2 (by decide +kernel)
      simp only [Act.eval] at h2
      exact ⟨.pointer (some ⟨g, 0, none⟩), wanted_free rfl, by simp [execOp, go_sem, h2], rfl⟩
    refine OweAllC.cons (owesC_val 1 (by decide +kernel) (by decide) rfl rfl fun k' a w1 x hk ha hG hV => ?_) ?_
    · skip
      have h26 : a.tmps.getD 26 undef = .pointer (some ⟨g, 0, none⟩) := hV.get 26 (by decide +kernel)
      have cc : w1.cell? ⟨g, 0, none⟩ = some (.string ⟨s.toArray⟩) := by
        rcases hG with ⟨_, rfl⟩ | ⟨_, rfl⟩
        · exact CBX.out
        · exact (World.cell?_of_block (setRow_other W0.drew (g + 1) g _ (by omega))).trans CBX.out
      exact ⟨.string ⟨s.toArray⟩, wanted_free rfl, by simp [execOp, go_sem, h26, cc], rfl⟩
    refine OweAllC.cons (owesC_val 1 (by decide +kernel) (by decide) rfl rfl fun k' a w1 x hk ha hG hV => ?_) ?_
    · skip
      have h1 := ha.outer 1 (by decide +kernel)
      simp only [Act.eval] at h1
      exact ⟨.int .i64 (n : Int), wanted_free rfl, by simp [execOp, go_sem, h1], rfl⟩
    refine OweAllC.cons (owesC_val 1 (by decide +kernel) (by decide) rfl rfl fun k' a w1 x hk ha hG hV => ?_) ?_
    · skip
      have h27 : a.tmps.getD 27 undef = .string ⟨s.toArray⟩ := hV.get 27 (by decide +kernel)
      have h28 : a.tmps.getD 28 undef = .int .i64 (n : Int) := hV.get 28 (by decide +kernel)
      exact ⟨.string ⟨u.toArray⟩, wanted_free rfl, by simp [execOp, go_sem, h27, h28, hsz, i1, htb], rfl⟩
    refine OweAllC.cons (owesC_store 0 rfl rfl rfl fun a w1 x ha hG hx hV => ?_) ?_
    · skip
      have h4 := ha.outer 4 (by decide +kernel)
      simp only [Act.eval] at h4
      have h25 : a.tmps.getD 25 undef = .agg #[.string ⟨tt.toArray⟩, .int .i64 0] := hV.get 25 (by decide +kernel)
      obtain rfl : w1 = W0.drew := by rcases hG with hG | hG; exact hG.2; exact absurd hG.1 (by omega)
      exact ⟨W0.drew.setRow (g + 1) #[.string ⟨tt.toArray⟩, .int .i64 0], wanted_free rfl, exec_store_row 137 (.tmp 4) (.tmp 25) rfl (g + 1) h4 137 _ _ h25 (show W0.drew.heap[g + 1]? = _ from HRS.out) rfl tkinfo q4, .inr ⟨rfl, rfl⟩⟩
    refine OweAllC.cons (owesC_val 1 (by decide +kernel) (by decide) rfl rfl fun k' a w1 x hk ha hG hV => ?_) ?_
    · skip
      have h29 : a.tmps.getD 29 undef = .string ⟨u.toArray⟩ := hV.get 29 (by decide +kernel)
      exact ⟨.string ⟨u.toArray⟩, wanted_free rfl, by simp [execOp, go_sem, h29], rfl⟩
    exact OweAllC.nil
    ) ?_
  intro f wz xz hG hx hv
  have e5 : f 5 = .string ⟨u.toArray⟩ := hv 10 _ 5 rfl rfl
  first | (rename_i hK; refine hK _ _ ?_; clear hK) | (rename_i hK _; refine hK _ _ ?_; clear hK) | (rename_i hK _ _; refine hK _ _ ?_; clear hK) | (rename_i hK _ _ _; refine hK _ _ ?_; clear hK)
  clear hv hx
  simp only [dsts, puts, List.filterMap_cons, List.filterMap_nil, List.foldl_cons, List.foldl_nil, Act.put, List.setIfInBounds_toArray, List.set_cons_succ, List.set_cons_zero, e5]
  clear e5
  obtain ⟨_, rfl⟩ : 1 = 1 ∧ wz = _ := by rcases hG with hG | hG; exact absurd hG.1 (by decide); exact hG
  clear hG HG0
  go_wp2_with fail
  exact bodyPost_ret (v := .tuple #[.agg _, .string ⟨u.toArray⟩]) (results_row2 Tryd.results103 _ _ (g + 1) 137 _ (0, 0) _ _ rfl rfl L0.out Tryd.underlying137 rfl tkinfo) rfl ⟨rfl, by rw [← Hg.out]; exact HFD.out⟩
end Go.Proofs.YtkejidmomnmdbaaDoor
