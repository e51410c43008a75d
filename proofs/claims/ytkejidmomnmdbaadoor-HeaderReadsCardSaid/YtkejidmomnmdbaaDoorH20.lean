/- What the reference takes. -/
import Derived.Test.YtkejidmomnmdbaaDoorH19
namespace Go.Proofs.YtkejidmomnmdbaaDoor
open Go.RowKit

theorem tkinfo : (Tryd.prog.info? 137).map (·.size) = some 2 := by kernel_rfl
def tkc (s : List UInt8) (e : Int) : Array Value := #[.string ⟨s.toArray⟩, .int .i64 e]
theorem tkc_one (s : List UInt8) (e : Int) : ∀ v ∈ (tkc s e).toList, v.oneCell' = true := by
  unfold tkc; intro v hv
  simp only [List.mem_cons, List.not_mem_nil, or_false] at hv
  rcases hv with rfl | rfl <;> rfl
theorem numS_err (e most : Int) (h : e ≠ 0) : numS [] e most = (0, [], e) := by
  unfold numS headL failS; simp [h]
theorem rawS_err (e n : Int) (h : e ≠ 0) : rawS [] e n = ([], [], e) := by
  unfold rawS failS; simp [h]
theorem numS_no (s : List UInt8) (most : Int) (h : (headL s).2.2 ≠ 0) : numS s 0 most = (0, [], (headL s).2.2) := by
  unfold numS failS; simp [h]
theorem numS_big (s : List UInt8) (most : Int) (h : (headL s).2.2 = 0) (hm : most < (headL s).1) : numS s 0 most = (0, [], 4) := by
  unfold numS failS; simp [h, hm]
theorem numS_yes (s : List UInt8) (most : Int) (h : (headL s).2.2 = 0) (hm : ¬ most < (headL s).1) : numS s 0 most = (((headL s).1 : Int), s.drop (headL s).2.1, (0 : Int)) := by
  unfold numS; simp [h, hm]
theorem drop_bytes (s : List UInt8) (k n : Nat) (hn : n = s.length) : (ByteArray.mk s.toArray).extract k n = ⟨(s.drop k).toArray⟩ := by
  subst hn
  apply ByteArray.ext
  apply Array.ext'
  simp
  exact List.take_of_length_le (by simp)
theorem take_bytes (s : List UInt8) (k : Nat) : (ByteArray.mk s.toArray).extract 0 k = ⟨(s.take k).toArray⟩ := by
  apply ByteArray.ext
  apply Array.ext'
  simp

set_option maxRecDepth 20000 in
set_option maxHeartbeats 4000000 in
theorem rtn_any (s : List UInt8) (e most : Int) (w : World) (hl : s.length ≤ 1099511627776) (hinv : e ≠ 0 → s = []) :
    Calls Tryd.prog 102 #[.agg #[.string ⟨s.toArray⟩, .int .i64 e], .int .i64 most] w fun r w' => r = .returned (.tuple #[.agg (tkc (numS s e most).2.1 (numS s e most).2.2), .int .i64 (numS s e most).1]) ∧ Below w.heap.size w w' := by
  obtain ⟨W0, hW0⟩ : ∃ W0, W0 = (w.alloc (.cells #[.string ⟨s.toArray⟩, .int .i64 e] 137)).alloc (.cells #[.string ⟨#[]⟩, .int .i64 0] 137) := ⟨_, rfl⟩
  have b0 : Below w.heap.size w W0 := by rw [hW0]; exact ((Below.refl _ w).alloc (Nat.le_refl _) _).alloc (by simp) _
  have hbx : W0.heap[w.heap.size]? = some (.cells #[.string ⟨s.toArray⟩, .int .i64 e] 137 (0, 0)) := by rw [hW0, Below.heap_alloc _ _ _ (by simp)]; exact heap_alloc_new w _
  have hrs : W0.heap[w.heap.size + 1]? = some (.cells #[.string ⟨#[]⟩, .int .i64 0] 137 (0, 0)) := by rw [hW0]; have := heap_alloc_new (w.alloc (.cells #[.string ⟨s.toArray⟩, .int .i64 e] 137)) (.cells #[.string ⟨#[]⟩, .int .i64 0] 137); simpa using this
  have hfinB : ∀ Y : Array Value, Below w.heap.size w (W0.setRow (w.heap.size + 1) Y) := fun Y => b0.trans (((Mod.refl (fun _ => False) W0).setRow (g := w.heap.size + 1) Y).to_below b0.size (by rintro k hk (h | h) <;> first | exact h | omega))
  have HF := Lib.hid hfinB
  have HW0 := Lib.hid hW0
  clear hW0 b0 hfinB
  have ztk := tkc_one
  by_cases he : e = 0
  case neg =>
    obtain rfl := hinv he
    rw [numS_err e most he]
    have t1 : (e == 0) = false := by simp [he]
    have t2 : (e != 0) = true := by simp [he]
    have L0 := Lib.hid (setRow_heap W0 (w.heap.size + 1) _ (tkc [] e) 137 (0, 0) hrs)
    have q4 := tkc_one [] e
    unfold tkc at L0 q4
    clear he hinv ztk
    go_enter Tryd.func102, Tryd.ntmps102
    go_wp2_with (first | (rw [← HW0.out]; refine wpList_load_row rfl 137 (.tmp 2) rfl w.heap.size rfl 137 _ (0, 0) _ hbx Tryd.underlying137 rfl tkinfo ?_) | (refine wpList_store_row rfl rfl 137 (.tmp 4) (.tmp 12) rfl (w.heap.size + 1) rfl 137 _ _ rfl hrs rfl tkinfo q4 ?_))
    exact bodyPost_ret (v := .tuple #[.agg _, .int .i64 0]) (results_row2 Tryd.results102 _ _ (w.heap.size + 1) 137 _ (0, 0) _ _ rfl rfl L0.out Tryd.underlying137 rfl tkinfo) rfl ⟨rfl, HF.out _⟩
  subst he
  have hk := headL_ok s
  have hhd : Hid (∀ w, Calls Tryd.prog 140 #[.string ⟨s.toArray⟩] w fun r w' => r = .returned (.tuple #[.int .i64 (headL s).1, .int .i64 (headL s).2.1, .int .i64 (headL s).2.2]) ∧ w = w') := Lib.hid (fun w => rhead_any s w hl)
  have hno := numS_no s most
  have hbig := numS_big s most
  have hyes := numS_yes s most
  generalize headL s = p at hk hhd hno hbig hyes
  obtain ⟨x, k, er⟩ := p
  simp only at hk hhd hno hbig hyes
  obtain ⟨l, hlen⟩ : ∃ l, l = s.length := ⟨_, rfl⟩
  have hsz : (ByteArray.mk s.toArray).size = l := by rw [hlen]; rfl
  rw [← hlen] at hl hk
  by_cases z : er = 0
  case neg =>
    rw [hno z]
    have t1 : (er == 0) = false := by simp [z]
    have t2 : (er != 0) = true := by simp [z]
    have L0 := Lib.hid (setRow_heap W0 (w.heap.size + 1) _ (tkc [] er) 137 (0, 0) hrs)
    have q4 := tkc_one [] er
    unfold tkc at L0 q4
    clear hk hno hbig hyes hinv ztk z
    go_enter Tryd.func102, Tryd.ntmps102
    go_wp2_with fail
    rw [← HW0.out]
    refine (hhd.out W0).mono ?_
    rintro r w1 ⟨rfl, rfl⟩
    go_wp2_with (refine wpList_store_row rfl rfl 137 (.tmp 4) (.tmp 30) rfl (w.heap.size + 1) rfl 137 _ _ rfl hrs rfl tkinfo q4 ?_)
    exact bodyPost_ret (v := .tuple #[.agg _, .int .i64 0]) (results_row2 Tryd.results102 _ _ (w.heap.size + 1) 137 _ (0, 0) _ _ rfl rfl L0.out Tryd.underlying137 rfl tkinfo) rfl ⟨rfl, HF.out _⟩
  subst z
  by_cases g : most < (x : Int)
  · rw [hbig rfl g]
    have L0 := Lib.hid (setRow_heap W0 (w.heap.size + 1) _ (tkc [] 4) 137 (0, 0) hrs)
    have q4 := tkc_one [] 4
    unfold tkc at L0 q4
    clear hk hno hbig hyes hinv ztk
    go_enter Tryd.func102, Tryd.ntmps102
    go_wp2_with fail
    rw [← HW0.out]
    refine (hhd.out W0).mono ?_
    rintro r w1 ⟨rfl, rfl⟩
    go_wp2_with (refine wpList_store_row rfl rfl 137 (.tmp 4) (.tmp 30) rfl (w.heap.size + 1) rfl 137 _ _ rfl hrs rfl tkinfo q4 ?_)
    exact bodyPost_ret (v := .tuple #[.agg _, .int .i64 0]) (results_row2 Tryd.results102 _ _ (w.heap.size + 1) 137 _ (0, 0) _ _ rfl rfl L0.out Tryd.underlying137 rfl tkinfo) rfl ⟨rfl, HF.out _⟩
  rw [hyes rfl g]
  have hkl := hk rfl
  have hdb := drop_bytes s k l hlen
  obtain ⟨t, ht⟩ : ∃ t, t = s.drop k := ⟨_, rfl⟩
  rw [← ht] at hdb ⊢
  have L0 := Lib.hid (setRow_heap W0 (w.heap.size + 1) _ (tkc t 0) 137 (0, 0) hrs)
  have q4 := tkc_one t 0
  unfold tkc at L0 q4
  have i0 : (0 : Int) ≤ k := by omega
  have i1 : (k : Int) ≤ l := by omega
  have cbx : W0.cell? ⟨w.heap.size, 0, none⟩ = some (.string ⟨s.toArray⟩) := cell_of_row W0 w.heap.size 0 _ 137 (0, 0) hbx
  have Hlen := Lib.hid hlen
  have Ht := Lib.hid ht
  clear hk hno hbig hyes hinv ztk hlen ht
  go_enter Tryd.func102, Tryd.ntmps102
  go_wp2_with fail
  rw [← HW0.out]
  refine (hhd.out W0).mono ?_
  rintro r w1 ⟨rfl, rfl⟩
  go_wp2_with (refine wpList_store_row rfl rfl 137 (.tmp 4) (.tmp 35) rfl (w.heap.size + 1) rfl 137 _ #[.string ⟨t.toArray⟩, .int .i64 0] (by rw [← hdb]; rfl) hrs rfl tkinfo q4 ?_)
  exact bodyPost_ret (v := .tuple #[.agg _, .int .i64 x]) (results_row2 Tryd.results102 _ _ (w.heap.size + 1) 137 _ (0, 0) _ _ rfl rfl L0.out Tryd.underlying137 rfl tkinfo) rfl ⟨rfl, HF.out _⟩
end Go.Proofs.YtkejidmomnmdbaaDoor
