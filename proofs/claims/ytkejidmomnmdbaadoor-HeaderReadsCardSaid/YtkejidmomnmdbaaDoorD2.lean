import Derived.Test.YtkejidmomnmdbaaDoorD1
import Derived.StillTailTactics
import Derived.BigQuiet
namespace Go.Proofs.YtkejidmomnmdbaaDoor
open Go.RowKit

def sumCells (H L : List Nat) (c : Nat) : Array Value := (nums .u32 H ++ nums .u8 L ++ [Value.int .u64 c]).toArray
structure SumAt (w : World) (b : Nat) (H L : List Nat) (c : Nat) : Prop where
  blk : w.heap[b]? = some (.cells (sumCells H L c) 124 (0, 0))
  hl : H.length = 8
  ll : L.length = 64
theorem SumAt.lt {w : World} {b : Nat} {H L : List Nat} {c : Nat} (h : SumAt w b H L c) : b < w.heap.size := (Array.getElem?_eq_some_iff.1 h.blk).1
theorem SumAt.froz {w : World} {b : Nat} {H L : List Nat} {c : Nat} (h : SumAt w b H L c) (i : Nat) : w.frozen? ⟨b, i, none⟩ = false := frozen_of_row w b i _ _ h.blk
theorem SumAt.kept {w w' : World} {b : Nat} {H L : List Nat} {c : Nat} {S : Nat → Prop} (h : SumAt w b H L c) (hm : Mod S w w') (hb : ¬ S b) : SumAt w' b H L c := ⟨(hm.block b h.lt hb).trans h.blk, h.hl, h.ll⟩
theorem SumAt.word {w : World} {b : Nat} {H L : List Nat} {c : Nat} (h : SumAt w b H L c) (i : Nat) (hi : i < 8) : w.cell? ⟨b, i, none⟩ = some (.int .u32 (H[i]'(by have := h.hl; omega))) := by
  have hi' : i < H.length := by rw [h.hl]; exact hi
  rw [cell_of_row w b i _ _ _ h.blk]
  simp only [sumCells, List.getElem?_toArray, List.append_assoc]
  rw [List.getElem?_append_left (by rw [nums_len]; exact hi'), nums_get _ _ _ hi']
theorem SumAt.byte {w : World} {b : Nat} {H L : List Nat} {c : Nat} (h : SumAt w b H L c) (i : Nat) (hi : i < 64) : w.cell? ⟨b, 8 + i, none⟩ = some (.int .u8 (L[i]'(by have := h.ll; omega))) := by
  have hi' : i < L.length := by rw [h.ll]; exact hi
  have e8 := h.hl
  rw [cell_of_row w b _ _ _ _ h.blk]
  simp only [sumCells, List.getElem?_toArray, List.append_assoc]
  rw [List.getElem?_append_right (by rw [nums_len]; omega), nums_len, show 8 + i - H.length = i by omega, List.getElem?_append_left (by rw [nums_len]; exact hi'), nums_get _ _ _ hi']
theorem SumAt.cnt {w : World} {b : Nat} {H L : List Nat} {c : Nat} (h : SumAt w b H L c) : w.cell? ⟨b, 72, none⟩ = some (.int .u64 c) := by
  have e8 := h.hl
  have e64 := h.ll
  rw [cell_of_row w b _ _ _ _ h.blk]
  simp only [sumCells, List.getElem?_toArray]
  rw [List.getElem?_append_right (by rw [List.length_append, nums_len, nums_len]; omega), List.length_append, nums_len, nums_len, show 72 - (H.length + L.length) = 0 by omega]
  rfl

theorem SumAt.setWord {w : World} {b : Nat} {H L : List Nat} {c : Nat} (h : SumAt w b H L c) (i x : Nat) (hi : i < 8) : SumAt (w.setCell ⟨b, i, none⟩ (.int .u32 (x : Int))) b (H.set i x) L c := by
  have e8 := h.hl
  refine ⟨?_, by simpa using h.hl, h.ll⟩
  rw [heap_setCell_same w b i _ _ _ h.blk]
  congr 2
  simp only [sumCells, List.append_assoc, ← nums_set, List.setIfInBounds_toArray]
  rw [List.set_append_left _ _ (by rw [nums_len]; omega)]
theorem SumAt.setByte {w : World} {b : Nat} {H L : List Nat} {c : Nat} (h : SumAt w b H L c) (i x : Nat) (hi : i < 64) : SumAt (w.setCell ⟨b, 8 + i, none⟩ (.int .u8 (x : Int))) b H (L.set i x) c := by
  have e8 := h.hl
  have e64 := h.ll
  refine ⟨?_, h.hl, by simpa using h.ll⟩
  rw [heap_setCell_same w b (8 + i) _ _ _ h.blk]
  congr 2
  simp only [sumCells, List.append_assoc, ← nums_set, List.setIfInBounds_toArray]
  rw [List.set_append_right _ _ (by rw [nums_len]; omega), nums_len, show 8 + i - H.length = i by omega, List.set_append_left _ _ (by rw [nums_len]; omega)]
theorem SumAt.setCnt {w : World} {b : Nat} {H L : List Nat} {c : Nat} (h : SumAt w b H L c) (x : Nat) : SumAt (w.setCell ⟨b, 72, none⟩ (.int .u64 (x : Int))) b H L x := by
  have e8 := h.hl
  have e64 := h.ll
  refine ⟨?_, h.hl, h.ll⟩
  rw [heap_setCell_same w b 72 _ _ _ h.blk]
  congr 2
  simp only [sumCells, List.setIfInBounds_toArray]
  rw [List.set_append_right _ _ (by rw [List.length_append, nums_len, nums_len]; omega), List.length_append, nums_len, nums_len, show 72 - (H.length + L.length) = 0 by omega]
  rfl

def SchedRel (W0 wr : World) (g : Nat) (L : List Nat) (k : Nat) : Prop := ∃ A, A.length = 64 ∧ A.take k = schedTo L k ∧ RowAt .u32 221 wr g A ∧ Mod (· = g) W0 wr

set_option maxHeartbeats 1000000 in
set_option maxRecDepth 100000 in
theorem schedule_any (b : Nat) (H L : List Nat) (c : Nat) (w : World) (hS : SumAt w b H L c) (hL : ∀ x ∈ L, x < 256) :
    Calls Tryd.prog 182 #[.pointer (some ⟨b, 0, none⟩)] w fun r w' => r = .returned (.agg (nums .u32 (schedTo L 64)).toArray) ∧ Mod (fun _ => False) w w' := by
  go_enter Tryd.func182, Tryd.ntmps182
  go_wp2_with fail
  have hz : ∀ W : World, (W.alloc (.cells (nums .u32 (List.replicate 64 0)).toArray 221)).heap[W.heap.size]? = some (.cells (nums .u32 (List.replicate 64 0)).toArray 221 (0, 0)) := fun W => heap_alloc_new W _
  generalize hW0 : (w.alloc _).alloc _ = W0
  have hA2 : RowAt .u32 221 W0 w.heap.size (List.replicate 64 0) := by rw [← hW0]; exact (heap_alloc_old _ _ (by simp)).trans (heap_alloc_new _ _)
  have hA3 : RowAt .u32 221 W0 (w.heap.size + 1) (List.replicate 64 0) := by rw [← hW0]; have := heap_alloc_new (w.alloc (.cells (nums .u32 (List.replicate 64 0)).toArray 221)) (.cells (nums .u32 (List.replicate 64 0)).toArray 221); rw [World.size_alloc] at this; exact this
  have hM : Mod (fun _ => False) w W0 := by rw [← hW0]; exact ((Mod.refl _ _).alloc _).alloc _
  have hSz : W0.heap.size = w.heap.size + 2 := by rw [← hW0]; simp
  clear hW0 hz
  have hS0 := hS.kept hM (fun h => h)
  have hbl := hS.lt
  go_loopw [8] (fun i wr => ∃ k : Nat, k ≤ 16 ∧ i = .int .i64 k ∧ RowAt .u32 221 wr w.heap.size (List.replicate 64 0) ∧ SchedRel W0 wr (w.heap.size + 1) L k) (fun i _ => 16 - (intOf i).toNat)
  case atStart => exact ⟨0, by omega, rfl, hA2, _, by simp, rfl, hA3, Mod.refl _ _⟩
  case round =>
    obtain ⟨k, hk, rfl, hR2, hR⟩ := hrel
    by_cases hlt : k < 16
    · go_wp2_with fail
      obtain ⟨A, hA, hAt, hRA, hMA⟩ := hR
      have hSr := hS0.kept hMA (by omega)
      have e64 := hS.ll
      obtain ⟨l0, hl0⟩ : ∃ x, x = L[4 * k]'(by omega) := ⟨_, rfl⟩
      obtain ⟨l1, hl1⟩ : ∃ x, x = L[4 * k + 1]'(by omega) := ⟨_, rfl⟩
      obtain ⟨l2, hl2⟩ : ∃ x, x = L[4 * k + 2]'(by omega) := ⟨_, rfl⟩
      obtain ⟨l3, hl3⟩ : ∃ x, x = L[4 * k + 3]'(by omega) := ⟨_, rfl⟩
      have c0 := hSr.byte (4 * k) (by omega)
      have c1 := hSr.byte (4 * k + 1) (by omega)
      have c2 := hSr.byte (4 * k + 2) (by omega)
      have c3 := hSr.byte (4 * k + 3) (by omega)
      rw [← hl0] at c0; rw [← hl1] at c1; rw [← hl2] at c2; rw [← hl3] at c3
      have b0 : l0 < 256 := by rw [hl0]; exact hL _ (List.getElem_mem _)
      have b1 : l1 < 256 := by rw [hl1]; exact hL _ (List.getElem_mem _)
      have b2 : l2 < 256 := by rw [hl2]; exact hL _ (List.getElem_mem _)
      have b3 : l3 < 256 := by rw [hl3]; exact hL _ (List.getElem_mem _)
      have Hl0 := Lib.hid hl0; have Hl1 := Lib.hid hl1; have Hl2 := Lib.hid hl2; have Hl3 := Lib.hid hl3
      clear hl0 hl1 hl2 hl3
      have q0 : IntKind.i64.wrap (4 * (k : Int)) = 4 * (k : Int) := IntWalk.i64_in _ (by omega)
      have q1 : IntKind.i64.wrap (4 * (k : Int) + 1) = 4 * (k : Int) + 1 := IntWalk.i64_in _ (by omega)
      have q2 : IntKind.i64.wrap (4 * (k : Int) + 2) = 4 * (k : Int) + 2 := IntWalk.i64_in _ (by omega)
      have q3 : IntKind.i64.wrap (4 * (k : Int) + 3) = 4 * (k : Int) + 3 := IntWalk.i64_in _ (by omega)
      have ia0 : (0 : Int) ≤ 4 * (k : Int) := by omega
      have ib0 : 4 * (k : Int) < 64 := by omega
      have it0 : (4 * (k : Int)).toNat = 4 * k := by omega
      have ia1 : (0 : Int) ≤ 4 * (k : Int) + 1 := by omega
      have ib1 : 4 * (k : Int) + 1 < 64 := by omega
      have it1 : (4 * (k : Int) + 1).toNat = 4 * k + 1 := by omega
      have ia2 : (0 : Int) ≤ 4 * (k : Int) + 2 := by omega
      have ib2 : 4 * (k : Int) + 2 < 64 := by omega
      have it2 : (4 * (k : Int) + 2).toNat = 4 * k + 2 := by omega
      have ia3 : (0 : Int) ≤ 4 * (k : Int) + 3 := by omega
      have ib3 : 4 * (k : Int) + 3 < 64 := by omega
      have it3 : (4 * (k : Int) + 3).toNat = 4 * k + 3 := by omega
      go_still_tail 34, (by kernel_rfl)
      have ia : (0 : Int) ≤ k := by omega
      have ib : (k : Int) < 64 := by omega
      still_call ((word_any l0 l1 l2 l3 _ b0 b1 b2 b3).mono fun _ _ ⟨h1, h2⟩ => ⟨h1, h2.symm⟩)
      repeat still_step
      refine wpStill_nil ?_
      have ck := hRA.cell k (by omega)
      have fk := hRA.froz k
      obtain ⟨y, hy⟩ : ∃ y : Nat, y = A[k]'(by omega) := ⟨_, rfl⟩
      rw [← hy] at ck
      clear hy c0 c1 c2 c3
      have Hr : Hid (RowAt .u32 221 (wr.setCell ⟨w.heap.size + 1, k, none⟩ (.int .u32 ((l0 * 16777216 + l1 * 65536 + l2 * 256 + l3 : Nat) : Int))).drew w.heap.size (List.replicate 64 0) ∧
          SchedRel W0 (wr.setCell ⟨w.heap.size + 1, k, none⟩ (.int .u32 ((l0 * 16777216 + l1 * 65536 + l2 * 256 + l3 : Nat) : Int))).drew (w.heap.size + 1) L (k + 1)) := Lib.hid (by
        refine ⟨hR2.kept ((Mod.refl (· = w.heap.size + 1) _).setCell (p := ⟨w.heap.size + 1, k, none⟩) (fun _ => rfl) _).drew (by omega), A.set k (l0 * 16777216 + l1 * 65536 + l2 * 256 + l3), by simpa using hA, ?_, hRA.set _ _, (hMA.setCell (p := ⟨w.heap.size + 1, k, none⟩) (fun _ => rfl) _).drew⟩
        rw [take_set_succ _ _ _ (by omega), hAt, schedTo, if_pos hlt]
        unfold w16
        rw [getD_at _ _ (by omega), getD_at _ _ (by omega), getD_at _ _ (by omega), getD_at _ _ (by omega), Hl0.out, Hl1.out, Hl2.out, Hl3.out])
      change wpList _ _ _ _ _ wr.drew
      go_wp2_with fail
      go_roundw
      case rel => exact ⟨k + 1, by omega, by go_num, Hr.out.1, Hr.out.2⟩
      case measure => simp [intOf]; omega
    · obtain rfl : k = 16 := by omega
      rw [show ((16 : Nat) : Int) = 16 from rfl]
      go_wp2_with fail
      obtain ⟨wo, rfl⟩ : ∃ wo : World, wo = wr := ⟨_, rfl⟩
      go_loopw [5] (fun i wr => ∃ k : Nat, 16 ≤ k ∧ k ≤ 64 ∧ i = .int .i64 k ∧ RowAt .u32 221 wr w.heap.size (List.replicate 64 0) ∧ SchedRel W0 wr (w.heap.size + 1) L k) (fun i _ => 64 - (intOf i).toNat)
      case atStart => exact ⟨16, by omega, by omega, rfl, hR2, hR⟩
      case round =>
        clear hR2 hR
        obtain ⟨k, hk1, hk2, rfl, hR2, hR⟩ := hrel
        obtain ⟨A, hA, hAt, hRA, hMA⟩ := hR
        by_cases hlt : k < 64
        · have hAlt : ∀ i (hi : i < k), A[i]'(by omega) < 4294967296 := by
            intro i hi
            have h := schedTo_lt L hL k (A[i]'(by omega))
            rw [← hAt] at h
            exact h (by rw [← getD_take A k i hi (by omega), getD_at _ _ (by simp; omega)]; exact List.getElem_mem _)
          obtain ⟨x15, h15⟩ : ∃ x, x = A[k - 15]'(by omega) := ⟨_, rfl⟩
          obtain ⟨x2, h2⟩ : ∃ x, x = A[k - 2]'(by omega) := ⟨_, rfl⟩
          obtain ⟨x16, h16⟩ : ∃ x, x = A[k - 16]'(by omega) := ⟨_, rfl⟩
          obtain ⟨x7, h7⟩ : ∃ x, x = A[k - 7]'(by omega) := ⟨_, rfl⟩
          have c15 := hRA.cell (k - 15) (by omega)
          have c2 := hRA.cell (k - 2) (by omega)
          have c16 := hRA.cell (k - 16) (by omega)
          have c7 := hRA.cell (k - 7) (by omega)
          have b15 := hAlt (k - 15) (by omega)
          have b2 := hAlt (k - 2) (by omega)
          have b16 := hAlt (k - 16) (by omega)
          have b7 := hAlt (k - 7) (by omega)
          rw [← h15] at c15 b15; rw [← h2] at c2 b2; rw [← h16] at c16 b16; rw [← h7] at c7 b7
          have H15 := Lib.hid h15; have H2 := Lib.hid h2; have H16 := Lib.hid h16; have H7 := Lib.hid h7
          have HA := Lib.hid hAlt
          clear h15 h2 h16 h7 hAlt
          have t15 : ((k : Int) - 15).toNat = k - 15 := by omega
          have t2 : ((k : Int) - 2).toNat = k - 2 := by omega
          have t16 : ((k : Int) - 16).toNat = k - 16 := by omega
          have t7 : ((k : Int) - 7).toNat = k - 7 := by omega
          have q15 : IntKind.i64.wrap ((k : Int) - 15) = (k : Int) - 15 := IntWalk.i64_in _ (by omega)
          have q2 : IntKind.i64.wrap ((k : Int) - 2) = (k : Int) - 2 := IntWalk.i64_in _ (by omega)
          have q16 : IntKind.i64.wrap ((k : Int) - 16) = (k : Int) - 16 := IntWalk.i64_in _ (by omega)
          have q7 : IntKind.i64.wrap ((k : Int) - 7) = (k : Int) - 7 := IntWalk.i64_in _ (by omega)
          go_wp2_with fail
          go_quiet (fail)
          go_wp2_with fail
          have hmw : Mod (fun _ => False) wr (wr.drewN nq) := Mod.drewN (Mod.refl _ _) nq
          generalize wr.drewN nq = wq at hmw ⊢
          have hRq2 := hR2.kept hmw (fun h => h)
          have hRq := hRA.kept hmw (fun h => h)
          have hMq : Mod (· = w.heap.size + 1) W0 wq := hMA.trans hmw (fun _ _ h => h.elim)
          clear hR2 hRA hMA hmw c15 c2 c16 c7
          have c16 := hRq.cell (k - 16) (by omega)
          have c7 := hRq.cell (k - 7) (by omega)
          rw [← H16.out] at c16; rw [← H7.out] at c7
          have u16 : (16 : Int) ≤ k := by omega
          have v16 : (k : Int) - 16 < 64 := by omega
          have u7 : (7 : Int) ≤ k := by omega
          have v7 : (k : Int) - 7 < 64 := by omega
          obtain ⟨r1, hr1⟩ : ∃ r, r = rotr x15 7 ^^^ rotr x15 18 := ⟨_, rfl⟩
          obtain ⟨z0, hz0⟩ : ∃ r, r = s0 x15 := ⟨_, rfl⟩
          obtain ⟨r2, hr2⟩ : ∃ r, r = rotr x2 17 ^^^ rotr x2 19 := ⟨_, rfl⟩
          obtain ⟨z1, hz1⟩ : ∃ r, r = s1 x2 := ⟨_, rfl⟩
          obtain ⟨y1, hy1⟩ : ∃ r, r = (x16 + z0) % 4294967296 := ⟨_, rfl⟩
          obtain ⟨y2, hy2⟩ : ∃ r, r = (y1 + x7) % 4294967296 := ⟨_, rfl⟩
          obtain ⟨y3, hy3⟩ : ∃ r, r = (y2 + z1) % 4294967296 := ⟨_, rfl⟩
          have f1 : bits BinOp.xor IntKind.u32 (rotr x15 7 : Int) (rotr x15 18 : Int) = (r1 : Int) := by
            rw [u32_xor_nat _ _ (rotr_lt _ _ b15 (by decide)) (rotr_lt _ _ b15 (by decide)), hr1]
          have f2 : bits BinOp.xor IntKind.u32 (r1 : Int) ((x15 : Int) / 8) = (z0 : Int) := by
            rw [show (x15 : Int) / 8 = ((x15 / 8 : Nat) : Int) by omega, u32_xor_nat _ _ (by rw [hr1]; exact xor_lt _ _ (rotr_lt _ _ b15 (by decide)) (rotr_lt _ _ b15 (by decide))) (by omega), hr1, hz0]; rfl
          have f3 : bits BinOp.xor IntKind.u32 (rotr x2 17 : Int) (rotr x2 19 : Int) = (r2 : Int) := by
            rw [u32_xor_nat _ _ (rotr_lt _ _ b2 (by decide)) (rotr_lt _ _ b2 (by decide)), hr2]
          have f4 : bits BinOp.xor IntKind.u32 (r2 : Int) ((x2 : Int) / 1024) = (z1 : Int) := by
            rw [show (x2 : Int) / 1024 = ((x2 / 1024 : Nat) : Int) by omega, u32_xor_nat _ _ (by rw [hr2]; exact xor_lt _ _ (rotr_lt _ _ b2 (by decide)) (rotr_lt _ _ b2 (by decide))) (by omega), hr2, hz1]; rfl
          have f5 : IntKind.u32.wrap ((x16 : Int) + z0) = (y1 : Int) := by rw [IntKind.wrap_u32, hy1]; omega
          have f6 : IntKind.u32.wrap ((y1 : Int) + x7) = (y2 : Int) := by rw [IntKind.wrap_u32, hy2]; omega
          have f7 : IntKind.u32.wrap ((y2 : Int) + z1) = (y3 : Int) := by rw [IntKind.wrap_u32, hy3]; omega
          have Hr : Hid (RowAt .u32 221 ((wq.setCell ⟨w.heap.size + 1, k, none⟩ (.int .u32 (y3 : Int))).drew) w.heap.size (List.replicate 64 0) ∧
              SchedRel W0 ((wq.setCell ⟨w.heap.size + 1, k, none⟩ (.int .u32 (y3 : Int))).drew) (w.heap.size + 1) L (k + 1)) := Lib.hid (by
            refine ⟨hRq2.kept (((Mod.refl (· = w.heap.size + 1) _).setCell (p := ⟨w.heap.size + 1, k, none⟩) (fun _ => rfl) _).drew) (by omega), A.set k y3, by simpa using hA, ?_, hRq.set _ _, (hMq.setCell (p := ⟨w.heap.size + 1, k, none⟩) (fun _ => rfl) _).drew⟩
            rw [take_set_succ _ _ _ (by omega), hAt, schedTo, if_neg (by omega), ← hAt, getD_take _ _ _ (by omega) (by omega), getD_take _ _ _ (by omega) (by omega), getD_take _ _ _ (by omega) (by omega), getD_take _ _ _ (by omega) (by omega),
              ← H15.out, ← H2.out, ← H16.out, ← H7.out, ← hz0, ← hz1, ← hy1, ← hy2, ← hy3])
          clear hr1 hz0 hr2 hz1 hy1 hy2 hy3
          have ia : (0 : Int) ≤ k := by omega
          have ib : (k : Int) < 64 := by omega
          have ck := hRq.cell k (by omega)
          have fk := hRq.froz k
          obtain ⟨y, hy⟩ : ∃ y : Nat, y = A[k]'(by omega) := ⟨_, rfl⟩
          rw [← hy] at ck
          clear hy
          go_still_tail 29, (by kernel_rfl)
          still_call ((dright_any x15 7 _ b15 (by omega) (by omega)).mono fun _ _ ⟨h1, h2⟩ => ⟨h1, h2.symm⟩)
          repeat still_step
          still_call ((dright_any x15 18 _ b15 (by omega) (by omega)).mono fun _ _ ⟨h1, h2⟩ => ⟨h1, h2.symm⟩)
          repeat still_step
          still_call ((dright_any x2 17 _ b2 (by omega) (by omega)).mono fun _ _ ⟨h1, h2⟩ => ⟨h1, h2.symm⟩)
          repeat still_step
          still_call ((dright_any x2 19 _ b2 (by omega) (by omega)).mono fun _ _ ⟨h1, h2⟩ => ⟨h1, h2.symm⟩)
          repeat still_step
          refine wpStill_nil ?_
          change wpList _ _ _ _ _ wq.drew
          clear c16 c7
          go_wp2_with fail
          go_roundw
          case rel => exact ⟨k + 1, by omega, by omega, by go_num, Hr.out.1, Hr.out.2⟩
          case measure => simp [intOf]; omega
        · obtain rfl : k = 64 := by omega
          have hAe : A = schedTo L 64 := by rw [← hAt, List.take_of_length_le (by omega)]
          rw [hAe] at hRA
          have h1 := nums_one .u32 (schedTo L 64)
          have hl := schedTo_len L 64
          have hM2 : Mod (fun _ => False) w (wr.setRow w.heap.size (nums .u32 (schedTo L 64)).toArray) :=
            hM.trans (hMA.setRow (g := w.heap.size) (nums .u32 (schedTo L 64)).toArray) (by rintro i hi (h | h) <;> omega)
          have hg2 := setRow_heap wr w.heap.size _ (nums .u32 (schedTo L 64)).toArray _ _ hR2
          obtain ⟨Z, hZ⟩ : ∃ Z, Z = schedTo L 64 := ⟨_, rfl⟩
          rw [← hZ] at hRA h1 hl hM2 hg2
          have HZ := Lib.hid hZ
          have HM2 := Lib.hid hM2
          have Hg2 := Lib.hid hg2
          clear hZ hM2 hg2 hAt hAe
          go_wp2_with (first | (refine wpList_load_row rfl 221 (.tmp 3) rfl (w.heap.size + 1) rfl 221 (nums .u32 Z).toArray (0, 0) _ hRA Tryd.underlying221 rfl ?s1 ?_) | (refine wpList_store_row rfl rfl 221 (.tmp 2) (.tmp 87) rfl w.heap.size rfl 221 (nums .u32 (List.replicate 64 0)).toArray (nums .u32 Z).toArray rfl hR2 ?s2 ?s3 ?s4 ?_))
          case s1 => rw [List.size_toArray, nums_len, hl]; kernel_rfl
          case s2 => simp [nums_len, hl]
          case s3 => rw [List.size_toArray, nums_len, hl]; kernel_rfl
          case s4 => simpa using h1
          refine bodyPost_ret (v := .agg (nums .u32 Z).toArray) (results_cell_row Tryd.results182 _ _ w.heap.size 221 (nums .u32 Z).toArray (0, 0) _ rfl Hg2.out Tryd.underlying221 rfl ?_) rfl ⟨by rw [← HZ.out], HM2.out⟩
          rw [List.size_toArray, nums_len, hl]; kernel_rfl
end Go.Proofs.YtkejidmomnmdbaaDoor
