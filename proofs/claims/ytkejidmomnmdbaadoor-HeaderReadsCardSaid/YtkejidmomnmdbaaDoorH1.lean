/- A name out of bytes. -/
import Derived.Test.YtkejidmomnmdbaaDoorE1
import Derived.Test.YtkejidmomnmdbaaDoorRw
namespace Go.Proofs.YtkejidmomnmdbaaDoor
open Go.RowKit

/-- The name that begins with s. -/
def idL (s : List UInt8) : List UInt8 := (s ++ zid).take 32
theorem idL_len (s : List UInt8) : (idL s).length = 32 := by simp [idL, zid]
theorem idL_self (s : List UInt8) (h : s.length = 32) : idL s = s := by unfold idL; rw [← h, List.take_left]
theorem idL_cut (s : List UInt8) : s.take 32 ++ zid.drop (min s.length 32) = idL s := by
  unfold idL zid
  rw [List.take_append, List.take_replicate, List.drop_replicate]
  congr 1
  congr 1
  omega
theorem wpList_copyS {P : Program} {w : World} {ops : Array Oper} {rest : List Oper} {o : Oper} {a : Act} {Q : Exit → Act → World → Prop} (hgd : o.guard = none) (d s : Operand) (t t' : TypeId)
    (ho : o.op = .call { callee := .builtin .copy, args := #[d, s], argTypes := #[t, t'] }) (v u : Value) (hd : a.eval d = v) (hs : a.eval s = u) {v' : Value} {w' : World}
    (hr : (Builtin.copy_ #[t, t'] o.type #[v, u]).run P w = .ok v' w') (h : wpList P ops Q rest (a.put o.dst v') w') : wpList P ops Q (o :: rest) a w := by
  refine wpList_plain hgd fun K hK => ?_
  unfold Oper.wp
  simp [execOp, ho, resolve, invoke, builtin, hd, hs, hr, Result.andThen]
  exact hK _ _ h
set_option maxRecDepth 20000 in
/-- A text is copied into a name. -/
theorem run_copy_text (s : List UInt8) (g : Nat) (ty : TypeId) (w : World) (h : IdAt w g zid) :
    (Builtin.copy_ #[27, 9] ty #[.slice (some ⟨g, 0, none⟩) 32 32, .string ⟨s.toArray⟩]).run Tryd.prog w = .ok (goInt ((min s.length 32 : Nat) : Int)) (w.setRow g (vals (idL s)).toArray) := by
  have hst := run_storeCells_at Tryd.prog g 0 25 (vals (s.take 32)) 0 (vals zid).toArray w h.2 (by simp [vals_len, zid]; omega) (vals_one _)
  have hsz : (sizeOf 5).run Tryd.prog w = .ok 1 w := Tryd.sizeOf5 w
  have hl : (ByteArray.mk s.toArray).size = s.length := rfl
  have hf : (Builtin.firstCells 1 (min s.length 32) (.string ⟨s.toArray⟩)).run Tryd.prog w = .ok (vals (s.take 32)).toArray w := by
    unfold Builtin.firstCells
    rw [Sem.run_pure, ByteArray.extract_mk]
    congr 1
    apply Array.ext'
    simp [vals, List.take_take]
    omega
  have he : ((vals zid).toArray.toList.take (0 + 0) ++ vals (s.take 32) ++ (vals zid).toArray.toList.drop (0 + 0 + (vals (s.take 32)).length)).toArray = (vals (idL s)).toArray := by
    rw [← idL_cut s, vals_app]
    congr 1
    simp [vals_len, vals, List.map_drop]
    omega
  rw [he] at hst
  unfold Builtin.copy_
  obtain ⟨n, hn⟩ : ∃ n, n = min s.length 32 := ⟨_, rfl⟩
  have hmin : Nat.min s.length 32 = n := hn.symm
  rw [← hn] at hf ⊢
  clear hn he
  simp [run_underlying Tryd.underlying27, Builtin.lenOf, hl, hsz, hmin, hf, hst]

set_option maxRecDepth 20000 in
set_option maxHeartbeats 1000000 in
theorem name_any (s : List UInt8) (w : World) :
    Calls Tryd.prog 108 #[.string ⟨s.toArray⟩] w fun r w' => r = .returned (.agg (vals (idL s)).toArray) ∧ Below w.heap.size w w' := by
  have hz := zid_run
  have hzs := zid_len
  have hidl := idL_len s
  have q2 : (vals zid).toArray.size = (vals (idL s)).toArray.size := hzs.trans (id_size hidl).symm
  have q3 := id_info hidl
  have q4 := id_one (idL s)
  have hA : IdAt ((w.alloc (.cells (vals zid).toArray 25)).alloc (.cells (vals zid).toArray 25)) (w.heap.size + 1) zid := ⟨rfl, by have := heap_alloc_new (w.alloc (.cells (vals zid).toArray 25)) (.cells (vals zid).toArray 25); simpa using this⟩
  have hcp := fun ty => run_copy_text s (w.heap.size + 1) ty _ hA
  obtain ⟨Y, hY⟩ : ∃ Y, Y = (vals (idL s)).toArray := ⟨_, rfl⟩
  rw [← hY] at q2 q3 q4 hcp ⊢
  have hYs : Y.size = 32 := by rw [hY]; exact id_size hidl
  clear hY hidl
  generalize (vals zid).toArray = Z at hz hzs q2 hA hcp
  have hb0 : Below w.heap.size w ((w.alloc (.cells Z 25)).alloc (.cells Z 25)) := ((Below.refl _ w).alloc (Nat.le_refl _) _).alloc (by simp) _
  have h0 : ((w.alloc (.cells Z 25)).alloc (.cells Z 25)).heap[w.heap.size]? = some (.cells Z 25 (0, 0)) := by
    rw [Below.heap_alloc _ _ _ (by simp)]; exact heap_alloc_new w _
  have h1 : ((w.alloc (.cells Z 25)).alloc (.cells Z 25)).heap[w.heap.size + 1]? = some (.cells Z 25 (0, 0)) := by
    have := heap_alloc_new (w.alloc (.cells Z 25)) (.cells Z 25); simpa using this
  obtain ⟨W, hW⟩ : ∃ W, W = (w.alloc (.cells Z 25)).alloc (.cells Z 25) := ⟨_, rfl⟩
  rw [← hW] at hb0 h0 h1 hcp
  have k0 : (W.setRow (w.heap.size + 1) Y).heap[w.heap.size]? = some (.cells Z 25 (0, 0)) := (setRow_other W _ _ Y (by omega)).trans h0
  have k1 : (W.setRow (w.heap.size + 1) Y).heap[w.heap.size + 1]? = some (.cells Y 25 (0, 0)) := setRow_heap W _ _ Y _ _ h1
  have kb : Below w.heap.size w (W.setRow (w.heap.size + 1) Y) := hb0.trans (((Mod.refl (fun _ => False) W).setRow Y).to_below (by have := hb0.size; exact this) (by rintro k hk (h | h) <;> first | exact h | omega))
  obtain ⟨W2, hW2⟩ : ∃ W2, W2 = W.setRow (w.heap.size + 1) Y := ⟨_, rfl⟩
  rw [← hW2] at k0 k1 kb hcp
  have l0 : (W2.setRow w.heap.size Y).heap[w.heap.size]? = some (.cells Y 25 (0, 0)) := setRow_heap W2 _ _ Y _ _ k0
  have lb : Below w.heap.size w (W2.setRow w.heap.size Y) := kb.trans (((Mod.refl (fun _ => False) W2).setRow Y).to_below (by have := kb.size; exact this) (by rintro k hk (h | h) <;> first | exact h | omega))
  have L0 := Lib.hid l0
  have LB := Lib.hid lb
  have HS := Lib.hid hYs
  clear hW2 l0 lb kb hb0 h0 h1 hA hzs hYs
  go_enter Tryd.func108, Tryd.ntmps108
  go_wp2_with (first | (refine wpList_copyS rfl (.tmp 4) (.tmp 5) 27 9 rfl _ _ rfl rfl (by rw [← hW]; exact hcp _) ?_; clear hcp hW) | (refine wpList_load_row rfl 25 (.tmp 3) rfl (w.heap.size + 1) rfl 25 Y (0, 0) _ k1 Tryd.underlying25 rfl q3 ?_) | (refine wpList_store_row rfl rfl 25 (.tmp 2) (.tmp 7) rfl w.heap.size rfl 25 Z Y rfl k0 q2 q3 q4 ?_))
  exact bodyPost_ret (v := .agg Y) (results_cell_row Tryd.results108 _ _ w.heap.size 25 Y (0, 0) _ rfl L0.out Tryd.underlying25 rfl q3) rfl ⟨rfl, LB.out⟩

set_option maxRecDepth 20000 in
set_option maxHeartbeats 1000000 in
theorem idof_any (s : List UInt8) (w : World) :
    Calls Tryd.prog 40 #[.string ⟨s.toArray⟩] w fun r w' => r = .returned (.agg (vals (idL s)).toArray) ∧ Below w.heap.size w w' := by
  have hz := zid_run
  have hzs := zid_len
  have hidl := idL_len s
  have q2 : (vals zid).toArray.size = (vals (idL s)).toArray.size := hzs.trans (id_size hidl).symm
  have q3 := id_info hidl
  have q4 := id_one (idL s)
  have hA : IdAt ((w.alloc (.cells (vals zid).toArray 25)).alloc (.cells (vals zid).toArray 25)) (w.heap.size + 1) zid := ⟨rfl, by have := heap_alloc_new (w.alloc (.cells (vals zid).toArray 25)) (.cells (vals zid).toArray 25); simpa using this⟩
  have hcp := fun ty => run_copy_text s (w.heap.size + 1) ty _ hA
  obtain ⟨Y, hY⟩ : ∃ Y, Y = (vals (idL s)).toArray := ⟨_, rfl⟩
  rw [← hY] at q2 q3 q4 hcp ⊢
  have hYs : Y.size = 32 := by rw [hY]; exact id_size hidl
  clear hY hidl
  generalize (vals zid).toArray = Z at hz hzs q2 hA hcp
  have hb0 : Below w.heap.size w ((w.alloc (.cells Z 25)).alloc (.cells Z 25)) := ((Below.refl _ w).alloc (Nat.le_refl _) _).alloc (by simp) _
  have h0 : ((w.alloc (.cells Z 25)).alloc (.cells Z 25)).heap[w.heap.size]? = some (.cells Z 25 (0, 0)) := by
    rw [Below.heap_alloc _ _ _ (by simp)]; exact heap_alloc_new w _
  have h1 : ((w.alloc (.cells Z 25)).alloc (.cells Z 25)).heap[w.heap.size + 1]? = some (.cells Z 25 (0, 0)) := by
    have := heap_alloc_new (w.alloc (.cells Z 25)) (.cells Z 25); simpa using this
  obtain ⟨W, hW⟩ : ∃ W, W = (w.alloc (.cells Z 25)).alloc (.cells Z 25) := ⟨_, rfl⟩
  rw [← hW] at hb0 h0 h1 hcp
  have k0 : (W.setRow (w.heap.size + 1) Y).heap[w.heap.size]? = some (.cells Z 25 (0, 0)) := (setRow_other W _ _ Y (by omega)).trans h0
  have k1 : (W.setRow (w.heap.size + 1) Y).heap[w.heap.size + 1]? = some (.cells Y 25 (0, 0)) := setRow_heap W _ _ Y _ _ h1
  have kb : Below w.heap.size w (W.setRow (w.heap.size + 1) Y) := hb0.trans (((Mod.refl (fun _ => False) W).setRow Y).to_below (by have := hb0.size; exact this) (by rintro k hk (h | h) <;> first | exact h | omega))
  obtain ⟨W2, hW2⟩ : ∃ W2, W2 = W.setRow (w.heap.size + 1) Y := ⟨_, rfl⟩
  rw [← hW2] at k0 k1 kb hcp
  have l0 : (W2.setRow w.heap.size Y).heap[w.heap.size]? = some (.cells Y 25 (0, 0)) := setRow_heap W2 _ _ Y _ _ k0
  have lb : Below w.heap.size w (W2.setRow w.heap.size Y) := kb.trans (((Mod.refl (fun _ => False) W2).setRow Y).to_below (by have := kb.size; exact this) (by rintro k hk (h | h) <;> first | exact h | omega))
  have L0 := Lib.hid l0
  have LB := Lib.hid lb
  have HS := Lib.hid hYs
  clear hW2 l0 lb kb hb0 h0 h1 hA hzs hYs
  go_enter Tryd.func40, Tryd.ntmps40
  go_wp2_with (first | (refine wpList_copyS rfl (.tmp 4) (.tmp 5) 27 9 rfl _ _ rfl rfl (by rw [← hW]; exact hcp _) ?_; clear hcp hW) | (refine wpList_load_row rfl 25 (.tmp 3) rfl (w.heap.size + 1) rfl 25 Y (0, 0) _ k1 Tryd.underlying25 rfl q3 ?_) | (refine wpList_store_row rfl rfl 25 (.tmp 2) (.tmp 7) rfl w.heap.size rfl 25 Z Y rfl k0 q2 q3 q4 ?_))
  exact bodyPost_ret (v := .agg Y) (results_cell_row Tryd.results40 _ _ w.heap.size 25 Y (0, 0) _ rfl L0.out Tryd.underlying25 rfl q3) rfl ⟨rfl, LB.out⟩
end Go.Proofs.YtkejidmomnmdbaaDoor
