/- Texts 2: what the laws lean on. -/
import Derived.Test.YtpbcglepecojmaaVDmi1
import Derived.Deep.AppendSrc
import Derived.Deep.AppendLies
namespace Go.Proofs.Ytpbcglepecojmaa
open Go.RowKit

theorem exec_store_row {P : Program} {o : Oper} {a : Act} {w : World} (ty : TypeId) (x y : Operand) (ho : o.op = .store ty x y)
    (g : Nat) (hx : a.eval x = .pointer (some ⟨g, 0, none⟩)) (t : TypeId) (old cs : Array Value) (hy : a.eval y = .agg cs) (hg : w.heap[g]? = some (.cells old t (0, 0))) (hsz : old.size = cs.size)
    (hi : (P.info? ty).map (·.size) = some cs.size) (h1 : ∀ v ∈ cs.toList, v.oneCell' = true) : (execOp a.eval o).run P w = .ok .skip (w.setRow g cs) := by
  have hst := run_storeCells_at P g 0 t cs.toList 0 old w hg (by simp; omega) h1
  have e : (old.toList.take (0 + 0) ++ cs.toList ++ old.toList.drop (0 + 0 + cs.toList.length)).toArray = cs := by
    have : old.toList.drop (0 + 0 + cs.toList.length) = [] := List.drop_eq_nil_of_le (by simp; omega)
    rw [this]; simp
  rw [e] at hst
  cases hq : P.info? ty with
  | none => simp [hq] at hi
  | some i =>
    have hs : i.size = cs.size := by simpa [hq] using hi
    have hv : (storeVar ty ⟨g, 0, none⟩ (.agg cs)).run P w = .ok () (w.setRow g cs) := by
      simp [storeVar, sizeOf, typeInfo, hq, hs, Value.cells, hst]
    unfold execOp
    simp only [ho, hx, hy, Instr.storeAt, Instr.sureAddr, Sem.run_bind, Sem.run_pure, Result.andThen_ok, hv]
theorem exec_load_row {P : Program} {o : Oper} {a : Act} {w : World} (ty : TypeId) (x : Operand) (ho : o.op = .load ty x) (g : Nat) (hx : a.eval x = .pointer (some ⟨g, 0, none⟩)) (t : TypeId) (cs : Array Value) (fr : Nat × Nat) (d : TypeDesc) (hg : w.heap[g]? = some (.cells cs t fr))
    (hu : P.underlying ty = some d) (hd : (match d with | .struct _ | .array _ _ => true | _ => false) = true) (hi : (P.info? ty).map (·.size) = some cs.size) : (execOp a.eval o).run P w = .ok (.value (.agg cs)) w := by
  unfold execOp
  simp only [ho, hx, Instr.loadAt, Instr.sureAddr, Sem.run_bind, Sem.run_pure, Result.andThen_ok, run_loadVar_row w g t ty cs fr d hg hu hd hi]
theorem slice_front {P : Program} (t e : TypeId) (ht : P.underlying t = some (.slice e)) (he : (P.info? e).map (·.size) = some 1) (p : Option Addr) (n c m : Nat) (hm : m ≤ c) (w : World) :
    (Instr.slice t (.slice p n c) none (some (.int .i64 (m : Int))) none).run P w = .ok (.slice p m c) w ∧ (Instr.sliceAt t (.slice p n c) none (some (.int .i64 (m : Int))) none).run P w = .ok (.slice p m c) w := by
  have h1 : (Instr.slice t (.slice p n c) none (some (.int .i64 (m : Int))) none).run P w = .ok (.slice p m c) w := by
    cases hq : P.info? e with
    | none => simp [hq] at he
    | some i =>
      have hs : i.size = 1 := by simpa [hq] using he
      have ha : ∀ a : Addr, a.add 0 = a := fun a => by unfold Addr.add; simp
      have hm2 : (p.map fun a => a.add 0) = p := by cases p <;> simp [ha]
      simp [Instr.slice, run_underlying ht, Instr.sliceBounds, run_sliceBound, hm, sizeOf, typeInfo, hq, hs, hm2]
  refine ⟨h1, ?_⟩
  simp [Instr.sliceAt, run_underlying ht, h1]

set_option maxRecDepth 20000 in
set_option maxHeartbeats 1000000 in
theorem dffirst_any (f : Fl) (m : Nat) (w : World) (hm : m ≤ f.b.length) (hc : f.b.length ≤ f.c) :
    Calls Try.prog 30 #[f.v, .int .i64 (m : Int)] w fun e w' => e = .returned (Fl.v ⟨f.k, f.b.take m, min f.s m, f.p, f.c⟩) ∧ Below w.heap.size w w' := by
  obtain ⟨k, bs, s, p, c⟩ := f
  unfold Fl.v
  simp only at hm hc ⊢
  rw [show (bs.take m).length = m by rw [List.length_take]; omega]
  generalize bs.length = n at hm hc ⊢
  have hsl := fun w => (slice_front (P := Try.prog) 54 5 Try.underlying54 (by kernel_rfl) p n c m (by omega) w).1
  have hsm := fun w => (slice_front (P := Try.prog) 54 5 Try.underlying54 (by kernel_rfl) p n c m (by omega) w).2
  have hmn : min (s : Int) (m : Int) = ((min s m : Nat) : Int) := by omega
  have HI : Hid ((Try.prog.info? 62).map (·.size) = some 2) := Lib.hid (by kernel_rfl)
  have hV1 : ∀ v ∈ (#[.slice p m c, .int .i64 ((min s m : Nat) : Int)] : Array Value).toList, v.oneCell' = true := by intro v hv; simp at hv; rcases hv with rfl | rfl <;> rfl
  go_enter Try.func30, Try.ntmps30
  go_wp2_with fail
  obtain ⟨W0, hW0⟩ : ∃ W0, W0 = (w.alloc (.cells #[.slice p n c, .int .i64 (s : Int)] 62)).alloc (.cells #[.slice none 0 0, .int .i64 0] 62) := ⟨_, rfl⟩
  have HB := Lib.hid (show Below w.heap.size w W0 by rw [hW0]; exact ((Below.refl _ w).alloc (Nat.le_refl _) _).alloc (by simp) _)
  have hk0 : W0.heap[w.heap.size]? = some (.cells #[.slice p n c, .int .i64 (s : Int)] 62 (0, 0)) := by rw [hW0, Below.heap_alloc _ _ _ (by simp)]; exact heap_alloc_new _ _
  have HR := Lib.hid (show W0.heap[w.heap.size + 1]? = some (.cells #[.slice none 0 0, .int .i64 0] 62 (0, 0)) by rw [hW0]; have := heap_alloc_new (w.alloc (.cells #[.slice p n c, .int .i64 (s : Int)] 62)) (.cells #[.slice none 0 0, .int .i64 0] 62); simpa using this)
  rw [← hW0]
  clear hW0
  generalize hgw : w.heap.size = g at *
  have CB0 := Lib.hid (show W0.drew.cell? ⟨g, 0, none⟩ = some (.slice p n c) by unfold World.cell?; rw [show W0.drew.heap[g]? = _ from hk0]; rfl)
  have CB1 := Lib.hid (show W0.drew.cell? ⟨g, 1, none⟩ = some (.int .i64 (s : Int)) by unfold World.cell?; rw [show W0.drew.heap[g]? = _ from hk0]; rfl)
  have HG0 : Hid ((fun (j : Nat) (_ : Value) (w1 : World) => (j = 0 ∧ w1 = W0.drew) ∨ (j = 1 ∧ w1 = W0.drew.setRow (g + 1) #[.slice p m c, .int .i64 ((min s m : Nat) : Int)])) 0 undef W0.drew) := Lib.hid (.inl ⟨rfl, rfl⟩)
  clear hk0
  refine wp_region_chain (fun t v => match t with
    | 5 => v = .pointer (some ⟨g, 0, none⟩)
    | 6 => v = .slice p n c
    | 7 => v = .int .i64 (m : Int)
    | 8 => v = .slice p m c
    | 9 => v = .pointer (some ⟨g, 1, none⟩)
    | 10 => v = .int .i64 (s : Int)
    | 11 => v = .int .i64 (m : Int)
    | 12 => v = .int .i64 ((min s m : Nat) : Int)
    | 13 => v = .agg #[.slice p m c, .int .i64 ((min s m : Nat) : Int)]
    | _ => True) (fun (j : Nat) (_ : Value) (w1 : World) => (j = 0 ∧ w1 = W0.drew) ∨ (j = 1 ∧ w1 = W0.drew.setRow (g + 1) #[.slice p m c, .int .i64 ((min s m : Nat) : Int)])) [9] 14 (by kernel_rfl) (by decide +kernel) rfl (by decide +kernel) (by decide) (by decide) HG0.out (by
    refine OweAllC.cons (owesC_val 0 (by decide +kernel) (by decide) rfl rfl fun k' a w1 x hk ha hG hV => ?_) ?_
    · skip
      have h2 := ha.outer 2 (by decide +kernel)
      simp only [Act.eval] at h2
      exact ⟨.pointer (some ⟨g, 0, none⟩), wanted_free rfl, by simp [execOp, go_sem, h2], rfl⟩
    refine OweAllC.cons (owesC_val 0 (by decide +kernel) (by decide) rfl rfl fun k' a w1 x hk ha hG hV => ?_) ?_
    · skip
      have h5 : a.tmps.getD 5 undef = .pointer (some ⟨g, 0, none⟩) := hV.get 5 (by decide +kernel)
      have cc : w1.cell? ⟨g, 0, none⟩ = some (.slice p n c) := by
        rcases hG with ⟨_, rfl⟩ | ⟨_, rfl⟩
        · exact CB0.out
        · exact (World.cell?_of_block (setRow_other W0.drew (g + 1) g _ (by omega))).trans CB0.out
      exact ⟨.slice p n c, wanted_free rfl, by simp [execOp, go_sem, h5, cc], rfl⟩
    refine OweAllC.cons (owesC_val 0 (by decide +kernel) (by decide) rfl rfl fun k' a w1 x hk ha hG hV => ?_) ?_
    · skip
      have h1 := ha.outer 1 (by decide +kernel)
      simp only [Act.eval] at h1
      exact ⟨.int .i64 (m : Int), wanted_free rfl, by simp [execOp, go_sem, h1], rfl⟩
    refine OweAllC.cons (owesC_val 0 (by decide +kernel) (by decide) rfl rfl fun k' a w1 x hk ha hG hV => ?_) ?_
    · skip
      have h6 : a.tmps.getD 6 undef = .slice p n c := hV.get 6 (by decide +kernel)
      have h7 : a.tmps.getD 7 undef = .int .i64 (m : Int) := hV.get 7 (by decide +kernel)
      exact ⟨.slice p m c, wanted_free rfl, by simp [execOp, go_sem, h6, h7, hsl, hsm], rfl⟩
    refine OweAllC.cons (owesC_val 0 (by decide +kernel) (by decide) rfl rfl fun k' a w1 x hk ha hG hV => ?_) ?_
    · skip
      have h2 := ha.outer 2 (by decide +kernel)
      simp only [Act.eval] at h2
      exact ⟨.pointer (some ⟨g, 1, none⟩), wanted_free rfl, by simp [execOp, go_sem, h2], rfl⟩
    refine OweAllC.cons (owesC_val 0 (by decide +kernel) (by decide) rfl rfl fun k' a w1 x hk ha hG hV => ?_) ?_
    · skip
      have h9 : a.tmps.getD 9 undef = .pointer (some ⟨g, 1, none⟩) := hV.get 9 (by decide +kernel)
      have cc : w1.cell? ⟨g, 1, none⟩ = some (.int .i64 (s : Int)) := by
        rcases hG with ⟨_, rfl⟩ | ⟨_, rfl⟩
        · exact CB1.out
        · exact (World.cell?_of_block (setRow_other W0.drew (g + 1) g _ (by omega))).trans CB1.out
      exact ⟨.int .i64 (s : Int), wanted_free rfl, by simp [execOp, go_sem, h9, cc], rfl⟩
    refine OweAllC.cons (owesC_val 0 (by decide +kernel) (by decide) rfl rfl fun k' a w1 x hk ha hG hV => ?_) ?_
    · skip
      have h1 := ha.outer 1 (by decide +kernel)
      simp only [Act.eval] at h1
      exact ⟨.int .i64 (m : Int), wanted_free rfl, by simp [execOp, go_sem, h1], rfl⟩
    refine OweAllC.cons (owesC_val 0 (by decide +kernel) (by decide) rfl rfl fun k' a w1 x hk ha hG hV => ?_) ?_
    · skip
      have h10 : a.tmps.getD 10 undef = .int .i64 (s : Int) := hV.get 10 (by decide +kernel)
      have h11 : a.tmps.getD 11 undef = .int .i64 (m : Int) := hV.get 11 (by decide +kernel)
      exact ⟨.int .i64 ((min s m : Nat) : Int), wanted_free rfl, by simp [execOp, go_sem, h10, h11, hmn], rfl⟩
    refine OweAllC.cons (owesC_val 0 (by decide +kernel) (by decide) rfl rfl fun k' a w1 x hk ha hG hV => ?_) ?_
    · skip
      have h8 : a.tmps.getD 8 undef = .slice p m c := hV.get 8 (by decide +kernel)
      have h12 : a.tmps.getD 12 undef = .int .i64 ((min s m : Nat) : Int) := hV.get 12 (by decide +kernel)
      have g8 : a.tmps[8]?.getD undef = .slice p m c := by simpa using h8
      have g12 : a.tmps[12]?.getD undef = .int .i64 ((min s m : Nat) : Int) := by simpa using h12
      exact ⟨.agg #[.slice p m c, .int .i64 ((min s m : Nat) : Int)], wanted_free rfl, by simp [execOp, go_sem, h8, h12, g8, g12], rfl⟩
    refine OweAllC.cons (owesC_store 0 rfl rfl rfl fun a w1 x ha hG hx hV => ?_) ?_
    · skip
      have h4 := ha.outer 4 (by decide +kernel)
      simp only [Act.eval] at h4
      have h13 : a.tmps.getD 13 undef = .agg #[.slice p m c, .int .i64 ((min s m : Nat) : Int)] := hV.get 13 (by decide +kernel)
      obtain rfl : w1 = W0.drew := by rcases hG with hG | hG; exact hG.2; exact absurd hG.1 (by omega)
      exact ⟨W0.drew.setRow (g + 1) #[.slice p m c, .int .i64 ((min s m : Nat) : Int)], wanted_free rfl, exec_store_row 62 (.tmp 4) (.tmp 13) rfl (g + 1) h4 62 _ _ h13 (show W0.drew.heap[g + 1]? = _ from HR.out) rfl HI.out hV1, .inr ⟨rfl, rfl⟩⟩
    exact OweAllC.nil
    ) ?_
  intro f wz xz hG hx hv
  first | (rename_i hK; refine hK _ _ ?_; clear hK) | (rename_i hK _; refine hK _ _ ?_; clear hK) | (rename_i hK _ _; refine hK _ _ ?_; clear hK) | (rename_i hK _ _ _; refine hK _ _ ?_; clear hK)
  clear hv hx
  simp only [dsts, puts, List.filterMap_cons, List.filterMap_nil, List.foldl_cons, List.foldl_nil, Act.put, List.setIfInBounds_toArray, List.set_cons_succ, List.set_cons_zero]
  obtain ⟨_, rfl⟩ : 1 = 1 ∧ wz = _ := by rcases hG with hG | hG; exact absurd hG.1 (by decide); exact hG
  have L0 := Lib.hid (setRow_heap W0.drew (g + 1) _ #[.slice p m c, .int .i64 ((min s m : Nat) : Int)] 62 (0, 0) HR.out)
  have HE := Lib.hid (show Below g w (W0.drew.setRow (g + 1) #[.slice p m c, .int .i64 ((min s m : Nat) : Int)]) from HB.out.trans ((((Mod.refl (fun _ => False) W0).drew.setRow (g := g + 1) #[.slice p m c, .int .i64 ((min s m : Nat) : Int)]).to_below (by have := HB.out.size; omega) (by rintro k hk (h | h); exact h; omega))))
  clear hG HG0
  go_wp2_with fail
  exact bodyPost_ret (v := .agg #[.slice p m c, .int .i64 ((min s m : Nat) : Int)]) (results_cell_row Try.results30 _ _ (g + 1) 62 #[.slice p m c, .int .i64 ((min s m : Nat) : Int)] (0, 0) _ rfl L0.out Try.underlying62 rfl HI.out) rfl ⟨rfl, HE.out⟩
set_option maxRecDepth 20000 in
theorem dfsure_any (f : Fl) (w : World) :
    Calls Try.prog 31 #[f.v] w fun e w' => e = .returned (Fl.v ⟨f.k, f.b, f.b.length, f.p, f.c⟩) ∧ Below w.heap.size w w' := by
  obtain ⟨k, bs, s, p, c⟩ := f
  unfold Fl.v
  simp only
  generalize bs.length = n
  have HI : Hid ((Try.prog.info? 62).map (·.size) = some 2) := Lib.hid (by kernel_rfl)
  have hV1 : ∀ v ∈ (#[.slice p n c, .int .i64 (n : Int)] : Array Value).toList, v.oneCell' = true := by intro v hv; simp at hv; rcases hv with rfl | rfl <;> rfl
  obtain ⟨W0, hW0⟩ : ∃ W0, W0 = (w.alloc (.cells #[.slice p n c, .int .i64 (s : Int)] 62)).alloc (.cells #[.slice none 0 0, .int .i64 0] 62) := ⟨_, rfl⟩
  have HB := Lib.hid (show Below w.heap.size w W0 by rw [hW0]; exact ((Below.refl _ w).alloc (Nat.le_refl _) _).alloc (by simp) _)
  have hk0 : W0.heap[w.heap.size]? = some (.cells #[.slice p n c, .int .i64 (s : Int)] 62 (0, 0)) := by rw [hW0, Below.heap_alloc _ _ _ (by simp)]; exact heap_alloc_new _ _
  have hR : W0.heap[w.heap.size + 1]? = some (.cells #[.slice none 0 0, .int .i64 0] 62 (0, 0)) := by rw [hW0]; have := heap_alloc_new (w.alloc (.cells #[.slice p n c, .int .i64 (s : Int)] 62)) (.cells #[.slice none 0 0, .int .i64 0] 62); simpa using this
  have CB0 : W0.cell? ⟨w.heap.size, 0, none⟩ = some (.slice p n c) := by unfold World.cell?; rw [hk0]; rfl
  have L0 := Lib.hid (setRow_heap W0 (w.heap.size + 1) _ #[.slice p n c, .int .i64 (n : Int)] 62 (0, 0) hR)
  have HE := Lib.hid (show Below w.heap.size w (W0.setRow (w.heap.size + 1) #[.slice p n c, .int .i64 (n : Int)]) from HB.out.trans ((((Mod.refl (fun _ => False) W0).setRow (g := w.heap.size + 1) #[.slice p n c, .int .i64 (n : Int)]).to_below (by have := HB.out.size; omega) (by rintro k hk (h | h); exact h; omega))))
  go_enter Try.func31, Try.ntmps31
  go_upto_region 1 with fail
  rw [← hW0]
  clear hW0 hk0
  generalize hgw : w.heap.size = g at *
  go_wp2_with (refine wpList_store_row rfl rfl 62 (.tmp 2) (.tmp 8) rfl (g + 1) rfl 62 _ #[.slice p n c, .int .i64 (n : Int)] rfl hR rfl HI.out hV1 ?_; clear hR CB0)
  exact bodyPost_ret (v := .agg #[.slice p n c, .int .i64 (n : Int)]) (results_cell_row Try.results31 _ _ (g + 1) 62 #[.slice p n c, .int .i64 (n : Int)] (0, 0) _ rfl L0.out Try.underlying62 rfl HI.out) rfl ⟨rfl, by first | exact HE.out | (rw [hgw]; exact HE.out)⟩
/-- A disk in memory, but for the bytes of one file. -/
structure DKx (w : World) (d b : Nat) (S : St) (L : List Fl) (k : List UInt8) : Prop where
  cell : w.heap[d]? = some (.cells (stCells S b) 60 (0, 0))
  map : MapAt Try.prog 9 w b (L.map entD)
  row : ∀ f ∈ woF k L, Rw encY 5 w f.p f.c f.b
  syn : ∀ f ∈ L, f.s ≤ f.b.length
  far : L.Pairwise fun f g => ∀ a a', f.p = some a → g.p = some a' → a.block ≠ a'.block
  pm : (L.map Fl.x).Perm S.X
  so : SrtX S.X
theorem DK.toX {w : World} {d b : Nat} {S : St} {L : List Fl} (h : DK w d b S L) (k : List UInt8) : DKx w d b S L k :=
  ⟨h.cell, h.map, fun f hf => h.row f (List.mem_filter.1 hf).1, h.syn, h.far, h.pm, h.so⟩
section
variable {w w' : World} {d b : Nat} {S : St} {L : List Fl} {k : List UInt8}
theorem DKx.plt (h : DKx w d b S L k) : d < w.heap.size := (Array.getElem?_eq_some_iff.1 h.cell).1
theorem DKx.ne (h : DKx w d b S L k) : d ≠ b := h.map.notCells h.cell
theorem DKx.kept (h : DKx w d b S L k) {T : Nat → Prop} (hm : Mod T w w') (hd : ¬ T d) (hb : ¬ T b) (hf : ∀ f ∈ woF k L, ∀ a, f.p = some a → ¬ T a.block) : DKx w' d b S L k :=
  ⟨(hm.block d h.plt hd).trans h.cell, h.map.kept hm hb, fun f hf' => (h.row f hf').kept hm (hf f hf'), h.syn, h.far, h.pm, h.so⟩
theorem DKx.rowAt (h : DKx w d b S L k) {f : Fl} (hf : f ∈ woF k L) {a : Addr} (ha : f.p = some a) : a.block < w.heap.size ∧ a.block ≠ b := by
  have hr := h.row f hf
  rw [ha] at hr
  rcases hr.shape with ⟨e, _⟩ | ⟨g, e, hl, _, _, cur, hh, _⟩
  · cases e
  · cases e
    exact ⟨hl, h.map.notCells hh⟩
theorem DKx.old (h : DKx w d b S L k) (hb : Below w.heap.size w w') : DKx w' d b S L k :=
  h.kept (Mod.of_below hb) (fun hn => by have := h.plt; omega) (fun hn => by have := h.map.lt; omega) (fun f hf a ha hn => by have := (h.rowAt hf ha).1; omega)
theorem DKx.c1 (h : DKx w d b S L k) : w.cell? ⟨d, 1, none⟩ = some (.map (some b)) := by unfold World.cell?; rw [h.cell]; rfl
theorem DKx.put (f : Fl) (h : DKx w d b S L f.k) (hr : Rw encY 5 w f.p f.c f.b) (hs : f.s ≤ f.b.length) (ha : ∀ a, f.p = some a → a.block ≠ d ∧ a.block ≠ b ∧ ∀ g ∈ woF f.k L, ∀ a', g.p = some a' → a'.block ≠ a.block) (hk : f.k.length ≤ maxLen) (hn : L.length < maxLen) :
    ∃ w', (Instr.mapUpdate 58 (.map (some b)) (.string ⟨f.k.toArray⟩) f.v).run Try.prog w = .ok () w' ∧ DK w' d b { S with X := withX f.x S.X } (f :: woF f.k L) ∧ Mod (fun i => i = b) w w' := by
  obtain ⟨w', hr', hM, hm⟩ := h.map.store Try.underlying9 Try.underlying58 (by rw [List.length_map]; exact hn) f.k hk f.v
  rw [without_entD] at hM
  refine ⟨w', hr', ⟨(hm.block d h.plt h.ne).trans h.cell, hM, fun g hg => ?_, fun g hg => ?_, ?_, ?_, withX_srt h.so _⟩, hm⟩
  · rcases List.mem_cons.1 hg with rfl | hg
    · exact hr.kept hm (fun a e => (ha a e).2.1)
    · exact (h.row g hg).kept hm (fun a e => (h.rowAt hg e).2)
  · rcases List.mem_cons.1 hg with rfl | hg
    · exact hs
    · exact h.syn g (List.mem_filter.1 hg).1
  · exact List.pairwise_cons.2 ⟨fun g hg a a' h1 h2 e => (ha a h1).2.2 g hg a' h2 e.symm, h.far.filter _⟩
  · refine List.Perm.trans ?_ (withX_perm f.x S.X).symm
    rw [List.map_cons, wo_x]
    exact (h.pm.filter _).cons _
end
set_option maxRecDepth 20000 in
set_option maxHeartbeats 1000000 in
theorem dkput_any {w : World} {d b : Nat} {S : St} {L : List Fl} (f : Fl) (h : DKx w d b S L f.k) (hr : Rw encY 5 w f.p f.c f.b) (hs : f.s ≤ f.b.length) (ha : ∀ a, f.p = some a → a.block < w.heap.size ∧ a.block ≠ d ∧ a.block ≠ b ∧ ∀ g ∈ woF f.k L, ∀ a', g.p = some a' → a'.block ≠ a.block) (hk : f.k.length ≤ 1000000) (hn : L.length ≤ 1000000) :
    Calls Try.prog 29 #[.pointer (some ⟨d, 0, none⟩), .string ⟨f.k.toArray⟩, f.v] w fun e w' => e = .returned (.tuple #[]) ∧ DK w' d b { S with X := withX f.x S.X } (f :: woF f.k L) ∧ Mod (fun i => i = b) w w' := by
  obtain ⟨W0, hW0⟩ : ∃ W0, W0 = w.alloc (.cells #[.slice f.p f.b.length f.c, .int .i64 (f.s : Int)] 62) := ⟨_, rfl⟩
  have hb0 : Below w.heap.size w W0 := by rw [hW0]; exact (Below.refl _ w).alloc (Nat.le_refl _) _
  have HG := Lib.hid (show W0.heap[w.heap.size]? = some (.cells #[.slice f.p f.b.length f.c, .int .i64 (f.s : Int)] 62 (0, 0)) by rw [hW0]; exact heap_alloc_new _ _)
  have h0 := h.old hb0
  have hr0 := hr.old hb0
  have HS : Hid (∀ w', Below W0.heap.size W0 w' → ∃ w2, (Instr.mapUpdate 58 (.map (some b)) (.string ⟨f.k.toArray⟩) (.agg #[.slice f.p f.b.length f.c, .int .i64 (f.s : Int)])).run Try.prog w' = .ok () w2 ∧ DK w2 d b { S with X := withX f.x S.X } (f :: woF f.k L) ∧ Mod (fun i => i = b) w' w2) := Lib.hid (by
    intro w' hb
    exact (h0.old hb).put f (hr0.old hb) hs (fun a e => (ha a e).2) (by simp [maxLen]; omega) (by simp [maxLen]; omega))
  have HC1 : Hid (∀ w', Below W0.heap.size W0 w' → w'.cell? ⟨d, 1, none⟩ = some (.map (some b))) := Lib.hid (fun w' hb => (h0.old hb).c1)
  have HSC := Lib.hid (fun w => dsclone_any f.k w hk)
  have HM : Hid (Mod (fun i => i = b) w W0) := Lib.hid ((Mod.of_below hb0).mono (fun i hi h => by omega))
  have HI : Hid ((Try.prog.info? 62).map (·.size) = some 2) := Lib.hid (by kernel_rfl)
  unfold Fl.v
  generalize hV : Value.slice f.p f.b.length f.c = V at *
  generalize (f.s : Int) = sy at *
  generalize hKk : f.k = K at HSC HS ⊢
  clear h h0 hr hr0 hs ha hk hn hb0 hV hKk
  go_enter Try.func29, Try.ntmps29
  go_wp2_with fail
  rw [← hW0]
  clear hW0
  generalize w.heap.size = g at *
  have HG0 : Hid ((fun (j : Nat) (_ : Value) (w' : World) => (j = 0 → Below W0.heap.size W0 w') ∧ (j = 1 → DK w' d b { S with X := withX f.x S.X } (f :: woF K L) ∧ Mod (fun i => i = b) W0 w')) 0 undef W0.drew) := Lib.hid ⟨(fun _ => (Below.refl _ W0).drew), (fun h => absurd h (by omega))⟩
  refine wp_region_chain (fun t v => match t with
    | 6 => v = .pointer (some ⟨d, 0, none⟩)
    | 7 => v = .pointer (some ⟨d, 0, none⟩)
    | 8 => v = .pointer (some ⟨d, 1, none⟩)
    | 9 => v = .map (some b)
    | 10 => v = .string ⟨K.toArray⟩
    | 11 => v = .string ⟨K.toArray⟩
    | 12 => v = .agg #[V, .int .i64 sy]
    | _ => True) (fun (j : Nat) (_ : Value) (w' : World) => (j = 0 → Below W0.heap.size W0 w') ∧ (j = 1 → DK w' d b { S with X := withX f.x S.X } (f :: woF K L) ∧ Mod (fun i => i = b) W0 w')) [7] 13 (by kernel_rfl) (by decide +kernel) rfl (by decide +kernel) (by decide) (by decide) HG0.out (by
    refine OweAllC.cons (owesC_val 0 (by decide +kernel) (by decide) rfl rfl fun k' a w1 x hk ha hG hV => ?_) ?_
    · skip
      have h0 := ha.outer 0 (by decide +kernel)
      simp only [Act.eval] at h0
      exact ⟨.pointer (some ⟨d, 0, none⟩), wanted_free rfl, by simp [execOp, go_sem, h0], rfl⟩
    refine OweAllC.cons (owesC_val 0 (by decide +kernel) (by decide) rfl rfl fun k' a w1 x hk ha hG hV => ?_) ?_
    · skip
      have h6 : a.tmps.getD 6 undef = .pointer (some ⟨d, 0, none⟩) := hV.get 6 (by decide +kernel)
      exact ⟨.pointer (some ⟨d, 0, none⟩), wanted_free rfl, by simp [execOp, go_sem, h6], rfl⟩
    refine OweAllC.cons (owesC_val 0 (by decide +kernel) (by decide) rfl rfl fun k' a w1 x hk ha hG hV => ?_) ?_
    · skip
      have h7 : a.tmps.getD 7 undef = .pointer (some ⟨d, 0, none⟩) := hV.get 7 (by decide +kernel)
      exact ⟨.pointer (some ⟨d, 1, none⟩), wanted_free rfl, by simp [execOp, go_sem, h7], rfl⟩
    refine OweAllC.cons (owesC_val 0 (by decide +kernel) (by decide) rfl rfl fun k' a w1 x hk ha hG hV => ?_) ?_
    · skip
      have h8 : a.tmps.getD 8 undef = .pointer (some ⟨d, 1, none⟩) := hV.get 8 (by decide +kernel)
      have hb := hG.1 (by omega)
      have cc := HC1.out w1 hb
      exact ⟨.map (some b), wanted_free rfl, by simp [execOp, go_sem, h8, cc], rfl⟩
    refine OweAllC.cons (owesC_val 0 (by decide +kernel) (by decide) rfl rfl fun k' a w1 x hk ha hG hV => ?_) ?_
    · skip
      have h1 := ha.outer 1 (by decide +kernel)
      simp only [Act.eval] at h1
      exact ⟨.string ⟨K.toArray⟩, wanted_free rfl, by simp [execOp, go_sem, h1], rfl⟩
    refine OweAllC.cons (owesC_side 0 (by decide +kernel) (by decide) rfl rfl 42 fun k' a w1 x hk ha hG hV => ?_) ?_
    · skip
      have h10 : a.tmps.getD 10 undef = .string ⟨K.toArray⟩ := hV.get 10 (by decide +kernel)
      refine ⟨#[.string ⟨K.toArray⟩], wanted_free rfl, by simp [execOp, resolve, invoke, go_sem, h10], ?_⟩
      refine (HSC.out w1).mono ?_
      rintro r' u2 ⟨rfl, hb2⟩; exact ⟨_, rfl, rfl, (fun h => (hG.1 h).trans (hb2.mono (hG.1 h).size)), (fun h => absurd h (by omega))⟩
    refine OweAllC.cons (owesC_val 0 (by decide +kernel) (by decide) rfl rfl fun k' a w1 x hk ha hG hV => ?_) ?_
    · skip
      have h5 := ha.outer 5 (by decide +kernel)
      simp only [Act.eval] at h5
      have hb := hG.1 (by omega)
      have hh : w1.heap[g]? = some (.cells #[V, .int .i64 sy] 62 (0, 0)) := (hb.block g (Array.getElem?_eq_some_iff.1 HG.out).1).trans HG.out
      exact ⟨.agg #[V, .int .i64 sy], wanted_free rfl, exec_load_row 62 (.tmp 5) rfl g h5 62 #[V, .int .i64 sy] (0, 0) _ hh Try.underlying62 rfl HI.out, rfl⟩
    refine OweAllC.cons (owesC_store 0 rfl rfl rfl fun a w1 x ha hG hx hV => ?_) ?_
    · skip
      have h9 : a.tmps.getD 9 undef = .map (some b) := hV.get 9 (by decide +kernel)
      have h11 : a.tmps.getD 11 undef = .string ⟨K.toArray⟩ := hV.get 11 (by decide +kernel)
      have h12 : a.tmps.getD 12 undef = .agg #[V, .int .i64 sy] := hV.get 12 (by decide +kernel)
      have hb := hG.1 (by omega)
      obtain ⟨w2, hr, hm, hmd⟩ := HS.out w1 hb
      refine ⟨w2, wanted_free rfl, by simp [execOp, go_sem, h9, h11, h12, hr], (fun h => absurd h (by omega)), fun _ => ⟨hm, ?_⟩⟩
      exact ((Mod.of_below hb).mono (fun i hi h => by omega)).trans hmd (fun _ _ h => h)
    exact OweAllC.nil
    ) ?_
  intro f wz xz hG hx hv
  clear hv hx
  have HE := Lib.hid (hG.2 rfl)
  clear hG
  go_end0
  exact ⟨rfl, HE.out.1, HM.out.trans HE.out.2 (fun _ _ h => h)⟩
end Go.Proofs.Ytpbcglepecojmaa

namespace Go.Proofs.Ytpbcglepecojmaa
open Go.RowKit

def lfX (lf : Int) : Int := if lf = -1 then -1 else lf - 1
/-- What a deed answers, and leaves, where what is wrong is told; X': its files, if it is done. -/
def dedR (S : St) (wr : Int) : Int := if S.dn then 6 else if wr ≠ 0 then wr else if S.lf = 0 then 6 else 0
def dedS (S : St) (wr : Int) (X' : List FX) : St := if S.dn then S else if wr ≠ 0 then S else if S.lf = 0 then { S with dn := true } else ⟨S.rm, S.dd + 1, lfX S.lf, S.dn, X'⟩
theorem DA.setF {w : World} {d : Nat} {S S' : St} {F : Nat → Prop} (h : DA w d S F) (j : Nat) (v : Value) (hc : ∀ b, (stCells S b).setIfInBounds j v = stCells S' b) (hX : S'.X = S.X) :
    DA (w.setCell ⟨d, j, none⟩ v) d S' F ∧ Mod F w (w.setCell ⟨d, j, none⟩ v) := by
  obtain ⟨b, L, h, hF, hl⟩ := h
  exact DA.setC h hF hl j v (hc b) hX
theorem DA.cells {w : World} {d : Nat} {S : St} {F : Nat → Prop} (h : DA w d S F) : w.cell? ⟨d, 2, none⟩ = some (.int .i64 S.dd) ∧ w.cell? ⟨d, 3, none⟩ = some (.int .i64 S.lf) ∧ w.cell? ⟨d, 4, none⟩ = some (.bool S.dn) ∧ w.cell? ⟨d, 0, none⟩ = some (.int .i64 S.rm) ∧ ∀ j, w.frozen? ⟨d, j, none⟩ = false := by
  obtain ⟨b, L, h, hF, hl⟩ := h
  exact ⟨h.c2, h.c3, h.c4, h.c0, h.fr⟩
set_option maxRecDepth 20000 in
set_option maxHeartbeats 1000000 in
theorem dkdeed_any {w : World} {d : Nat} {S : St} {F : Nat → Prop} (h : DA w d S F) (wr : Int) (fn : FuncId) (caps : Array Value) (X' : List FX) (hd0 : 0 ≤ S.dd) (hd1 : S.dd ≤ 1000000000000) (hl0 : -1 ≤ S.lf) (hl1 : S.lf ≤ 9223372036854775807)
    (he : ∀ w, (callFunc fn caps).run Try.prog w = .ok (.enter fn caps) w)
    (hC : S.dn = false → wr = 0 → ∀ w1 lf', DA w1 d { S with lf := lf' } F → Mod (fun i => i = d) w w1 → Calls Try.prog fn caps w1 fun e w2 => e = .returned (.tuple #[]) ∧ Eff w1 w2 d { S with lf := lf', X := X' } F) :
    Calls Try.prog 34 #[.pointer (some ⟨d, 0, none⟩), .int .i64 wr, .func (.func fn) #[] caps] w fun e w' => e = .returned (.int .i64 (dedR S wr)) ∧ Eff w w' d (dedS S wr X') F := by
  obtain ⟨rm, dd, lf, dn, X⟩ := S
  obtain ⟨c2, c3, c4, c0, fr⟩ := h.cells
  have f3 := fr 3
  have f2 := fr 2
  have f4 := fr 4
  simp only at *
  have HH := Lib.hid h
  unfold dedR dedS
  simp only
  cases dn with
  | true =>
    have HE := Lib.hid (Eff.of h (Mod.refl F w))
    clear hC h fr c0
    go_enter Try.func34, Try.ntmps34
    go_wp2_with fail
    go_ret
    exact ⟨rfl, HE.out⟩
  | false =>
    by_cases hw : wr = 0
    · subst hw
      have hC := hC rfl rfl
      by_cases hlf : lf = 0
      · subst hlf
        have hs := h.setF (S' := ⟨rm, dd, 0, true, X⟩) 4 (.bool true) (fun _ => rfl) rfl
        have HE := Lib.hid (Eff.of hs.1 hs.2)
        clear hC h hs fr c0
        go_enter Try.func34, Try.ntmps34
        go_wp2_with fail
        go_ret
        exact ⟨rfl, HE.out⟩
      · have b0 : (lf == 0) = false := by simpa using hlf
        by_cases hlm : lf = -1
        · subst hlm
          have HC := Lib.hid (hC w (-1) h (Mod.refl _ _))
          clear hC h fr c0 hlf
          go_enter Try.func34, Try.ntmps34
          go_wp2_with fail
          refine HC.out.mono ?_
          rintro r w1 ⟨rfl, hE⟩
          obtain ⟨F', hA, hF', hm⟩ := hE
          obtain ⟨k2, _, _, _, kf⟩ := hA.cells
          have kf2 := kf 2
          simp only at k2
          have hs := hA.setF (S' := ⟨rm, dd + 1, -1, false, X'⟩) 2 (.int .i64 (dd + 1)) (fun _ => rfl) rfl
          have HE := Lib.hid (show Eff w (w1.setCell ⟨d, 2, none⟩ (.int .i64 (dd + 1))) d ⟨rm, dd + 1, -1, false, X'⟩ F from ⟨F', hs.1, hF', hm.trans hs.2 (fun i hi h => (hF' i h).elim id (fun h' => by omega))⟩)
          have hwr : IntKind.i64.wrap (dd + 1) = dd + 1 := by rw [IntKind.wrap_i64]; omega
          clear hA hF' hm kf hs c2 c3 c4 f2 f3 f4
          go_wp2_with fail
          go_ret
          exact ⟨rfl, HE.out⟩
        · have bm : (lf == -1) = false := by simpa using hlm
          have hs := h.setF (S' := ⟨rm, dd, lf - 1, false, X⟩) 3 (.int .i64 (lf - 1)) (fun _ => rfl) rfl
          have HC := Lib.hid (hC _ (lf - 1) hs.1 ((Mod.refl (fun i => i = d) w).setCell (fun _ => rfl) _))
          have HM := Lib.hid hs.2
          have hwl : IntKind.i64.wrap (lf - 1) = lf - 1 := by rw [IntKind.wrap_i64]; omega
          have HX : Hid (lfX lf = lf - 1) := Lib.hid (by unfold lfX; rw [if_neg hlm])
          clear hC h hs fr c0 hlm
          rw [HX.out]
          clear HX
          simp only [Bool.false_eq_true, if_false, ne_eq, not_true_eq_false, hlf]
          clear hlf
          go_enter Try.func34, Try.ntmps34
          go_wp2_with fail
          refine HC.out.mono ?_
          rintro r w1 ⟨rfl, hE⟩
          obtain ⟨F', hA, hF', hm⟩ := Eff.trans HM.out hE
          obtain ⟨k2, _, _, _, kf⟩ := hA.cells
          have kf2 := kf 2
          simp only at k2
          have hs := hA.setF (S' := ⟨rm, dd + 1, lf - 1, false, X'⟩) 2 (.int .i64 (dd + 1)) (fun _ => rfl) rfl
          have HE := Lib.hid (show Eff w (w1.setCell ⟨d, 2, none⟩ (.int .i64 (dd + 1))) d ⟨rm, dd + 1, lf - 1, false, X'⟩ F from ⟨F', hs.1, hF', hm.trans hs.2 (fun i hi h => (hF' i h).elim id (fun h' => by omega))⟩)
          have hwr : IntKind.i64.wrap (dd + 1) = dd + 1 := by rw [IntKind.wrap_i64]; omega
          clear hA hF' hm kf hs c2 c3 c4 f2 f3 f4 hE HC HM
          go_wp2_with fail
          go_ret
          exact ⟨rfl, HE.out⟩
    · have b0 : (wr == 0) = false := by simpa using hw
      have HE := Lib.hid (Eff.of h (Mod.refl F w))
      clear hC h fr c0
      go_enter Try.func34, Try.ntmps34
      go_wp2_with fail
      go_ret
      exact ⟨by simp [hw], by simpa [hw] using HE.out⟩
end Go.Proofs.Ytpbcglepecojmaa

namespace Go.Proofs.Ytpbcglepecojmaa
open Go.RowKit

theorem heap_setCells_at (g : Nat) (e : TypeId) : ∀ (vs : List Value) (o : Nat) (w : World) (cur : Array Value), w.heap[g]? = some (.cells cur e (0, 0)) → o + vs.length ≤ cur.size →
    (w.setCells g o vs).heap[g]? = some (.cells (cur.toList.take o ++ vs ++ cur.toList.drop (o + vs.length)).toArray e (0, 0))
  | [], o, w, cur, h, _ => by simp [World.setCells, h]
  | v :: vs, o, w, cur, h, hf => by
    simp only [List.length_cons] at hf
    have h1 := heap_setCell_same w g o cur e v h
    have ih := heap_setCells_at g e vs (o + 1) (w.setCell ⟨g, o, none⟩ v) (cur.setIfInBounds o v) h1 (by simp; omega)
    rw [World.setCells, ih]
    congr 3
    rw [Array.toList_setIfInBounds]
    have hl : o < cur.toList.length := by simp; omega
    rw [List.take_succ_eq_append_getElem (by simpa using hl)]
    simp only [List.getElem_set_self, List.take_set_of_le (Nat.le_refl o), List.drop_set_of_lt (show o < o + 1 + vs.length by omega), List.length_cons, List.append_assoc, List.cons_append, List.nil_append]
    rw [show o + (vs.length + 1) = o + 1 + vs.length by omega]

theorem grownBy_setCells (g : Nat) (vs : List Value) : ∀ (o : Nat) (w : World), w.grownBy (w.setCells g o vs) (some g) := by
  induction vs with
  | nil => intro o w; exact ⟨rfl, rfl, rfl, Nat.le_refl _, fun _ _ _ => rfl⟩
  | cons v vs ih =>
    intro o w
    have h := ih (o + 1) (w.setCell ⟨g, o, none⟩ v)
    refine ⟨h.os, h.tape, h.output, ?_, fun k hk hne => ?_⟩
    · exact Nat.le_trans (show w.heap.size ≤ (w.setCell ⟨g, o, none⟩ v).heap.size by simp [World.setCell]) h.size
    · refine (h.block k (by simpa [World.setCell] using hk) hne).trans ?_
      exact heap_setCell_other w ⟨g, o, none⟩ k v (fun e => hne (by simp [e]))

theorem run_append_src {P : Program} (w : World) (t tx ty e : TypeId) (i : TypeInfo) (z : Value) (size bytes : Nat) (ht : P.underlying t = some (.slice e)) (hi : P.info? e = some i) (hz : i.zero = some z)
    (hsize : i.size = size) (hby : i.bytes = bytes) (hzs : z.cells.size = size)
    (v : Value) (n : Nat) (xs : List Value) (hown : w.ownsRow 0 e size v n xs) (x : Value) (m : Nat) (news : List Value) (hs : Src P size tx x m news w)
    (h63 : n + m ≤ maxLen) (hbytes : (n + m) * bytes ≤ 140737488355328) :
    ∃ v' w', (Builtin.append_ #[t, tx] ty #[v, x]).run P w = .ok v' w' ∧ w'.ownsRow 0 e size v' (n + m) (xs ++ news) ∧ w.grownBy w' v.ownBlock ∧
      (v'.ownBlock = v.ownBlock ∨ v'.ownBlock = some w.heap.size) := by
  subst hsize
  subst hby
  have hlen : (xs ++ news).length = (n + m) * i.size := by rw [List.length_append, hown.1, hs.newsLen, Nat.add_mul]
  have h63i : ((n + m : Nat) : Int) ≤ 9223372036854775807 := by simp only [maxLen] at h63; omega
  have grown : ∀ (old : Nat), old < n + m → ∀ (row : Option Nat),
      (w.drew.alloc (.cells ((xs ++ news).toArray ++ Builtin.zeroCells z.cells (grownCap w (n + m) old e - (n + m))) e)).ownsRow 0 e i.size
        (.slice (some ⟨w.heap.size, 0, none⟩) (n + m) (grownCap w (n + m) old e)) (n + m) (xs ++ news) ∧
      w.grownBy (w.drew.alloc (.cells ((xs ++ news).toArray ++ Builtin.zeroCells z.cells (grownCap w (n + m) old e - (n + m))) e)) row := by
    intro old ho row
    have hge := grownCap_ge w (n + m) old e
    have hcm := grownCap_le_maxLen w (n + m) old e h63
    refine ⟨⟨hlen, .inr ⟨w.heap.size, _, _, rfl, Nat.zero_le _, heap_alloc_new w.drew _, hge, hcm, ?_, ?_⟩⟩, ⟨rfl, rfl, rfl, by simp, fun k hk _ => heap_alloc_old w.drew _ hk⟩⟩
    · rw [Array.size_append, List.size_toArray, hlen, size_zeroCells, hzs, ← Nat.add_mul]
      congr 1
      omega
    · rw [Array.toList_append, ← hlen]
      exact List.take_left
  rcases hown.2 with ⟨rfl, rfl⟩ | ⟨g, cap, cur, rfl, hbg, hg, hnc, hcm, hcs, htake⟩
  · have hx : xs = [] := List.eq_nil_of_length_eq_zero (by simpa using hown.1)
    subst hx
    by_cases hm : m = 0
    · subst hm
      have hn : news = [] := List.eq_nil_of_length_eq_zero (by simpa using hs.newsLen)
      subst hn
      refine ⟨.slice none 0 0, w, ?_, World.ownsRow_nil w 0 e i.size, ⟨rfl, rfl, rfl, Nat.le_refl _, fun _ _ _ => rfl⟩, .inl rfl⟩
      rcases hs.kind with ⟨e', hk⟩ | hk <;> simp [Builtin.append_, run_underlying ht, run_underlying hk, sizeOf, typeInfo, hi, hs.len, hs.cells]
    · have hr := run_append_grow_src (P := P) w t tx ty e i z ht hi hz none 0 0 [] (run_firstCells_none _ _ _ _ _) x m news hs (by omega) h63i (growslice_fits (by omega) hbytes)
      have hgr := grown 0 (by omega) (Value.ownBlock (.slice none 0 0))
      simp only [Nat.zero_add, List.nil_append] at hr hgr ⊢
      exact ⟨_, _, hr, hgr.1, hgr.2, .inr rfl⟩
  · have hcell : ∀ j, j < cap * i.size → w.cell? ⟨g, j, none⟩ = cur[j]? := fun j _ => cell_of_row w g j cur e (0, 0) hg
    by_cases hroom : n + m ≤ cap
    · have hfit : n * i.size + news.length ≤ cur.size := by rw [hs.newsLen, hcs, ← Nat.add_mul]; exact Nat.mul_le_mul_right _ hroom
      have hr := run_append_room_src (P := P) w t tx ty e i ht hi g 0 n cap x m news hs hroom
        (fun j hj => by rw [Nat.zero_add, cell_of_row w g _ cur e (0, 0) hg, Array.getElem?_eq_getElem (show n * i.size + j < cur.size by omega)]; rfl)
        (fun j _ => frozen_of_row w g _ cur e hg)
      rw [Nat.zero_add] at hr
      refine ⟨_, _, hr, ⟨hlen, .inr ⟨g, cap, _, rfl, hbg, heap_setCells_at g e news (n * i.size) w cur hg hfit, hroom, hcm, ?_, ?_⟩⟩, grownBy_setCells g news _ w, .inl rfl⟩
      · simp only [List.size_toArray, List.length_append, List.length_take, List.length_drop, Array.length_toList]
        omega
      · rw [htake, ← hlen]
        exact List.take_left
    · have hf := run_firstCells_some (P := P) w.drew i.size n ⟨g, 0, none⟩ n cap xs hown.1 (by simpa using hown.cells (g := g) rfl)
      have hr := run_append_grow_src (P := P) w t tx ty e i z ht hi hz (some ⟨g, 0, none⟩) n cap xs hf x m news hs (by omega) h63i (growslice_fits (by omega) hbytes)
      have hgr := grown cap (by omega) (Value.ownBlock (.slice (some ⟨g, 0, none⟩) n cap))
      exact ⟨_, _, hr, hgr.1, hgr.2, .inr rfl⟩

theorem wp_append_src {P : Program} {w : World} {o : Oper} {a : Act} {K : Act → World → Prop} {Q : Exit → Act → World → Prop} (s x : Operand) (t tx : TypeId)
    (ho : o.op = .call { callee := .builtin .append, args := #[s, x], argTypes := #[t, tx] })
    (e : TypeId) (i : TypeInfo) (z : Value) (size bytes : Nat) (ht : P.underlying t = some (.slice e)) (hi : P.info? e = some i) (hz : i.zero = some z)
    (hsize : i.size = size) (hby : i.bytes = bytes) (hzs : z.cells.size = size)
    (v : Value) (n : Nat) (xs : List Value) (hs : a.eval s = v) (hown : w.ownsRow 0 e size v n xs) (xv : Value) (m : Nat) (news : List Value) (hx : a.eval x = xv) (hsrc : Src P size tx xv m news w)
    (h63 : n + m ≤ maxLen) (hbytes : (n + m) * bytes ≤ 140737488355328)
    (h : ∀ v' w', w'.ownsRow 0 e size v' (n + m) (xs ++ news) → w.grownBy w' v.ownBlock → (v'.ownBlock = v.ownBlock ∨ v'.ownBlock = some w.heap.size) → K (a.put o.dst v') w') : o.wp P a w K Q := by
  obtain ⟨v', w', hr, h2, h3, h4⟩ := run_append_src (P := P) w t tx o.type e i z size bytes ht hi hz hsize hby hzs v n xs hown xv m news hsrc h63 hbytes
  unfold Oper.wp execOp
  simp only [ho, resolve, invoke, builtin, Sem.run_bind, Sem.run_pure, Result.andThen_ok, List.map_toArray, List.map_cons, List.map_nil, hs, hx, hr]
  exact h v' w' h2 h3 h4

theorem wpList_append_src {P : Program} {w : World} {ops : Array Oper} {rest : List Oper} {o : Oper} {a : Act} {Q : Exit → Act → World → Prop} (hgd : o.guard = none) (s x : Operand) (t tx : TypeId)
    (ho : o.op = .call { callee := .builtin .append, args := #[s, x], argTypes := #[t, tx] })
    (e : TypeId) (i : TypeInfo) (z : Value) (size bytes : Nat) (ht : P.underlying t = some (.slice e)) (hi : P.info? e = some i) (hz : i.zero = some z)
    (hsize : i.size = size) (hby : i.bytes = bytes) (hzs : z.cells.size = size)
    (v : Value) (n : Nat) (xs : List Value) (hs : a.eval s = v) (hown : w.ownsRow 0 e size v n xs) (xv : Value) (m : Nat) (news : List Value) (hx : a.eval x = xv) (hsrc : Src P size tx xv m news w)
    (h63 : n + m ≤ maxLen) (hbytes : (n + m) * bytes ≤ 140737488355328)
    (h : ∀ v' w', w'.ownsRow 0 e size v' (n + m) (xs ++ news) → w.grownBy w' v.ownBlock → (v'.ownBlock = v.ownBlock ∨ v'.ownBlock = some w.heap.size) → wpList P ops Q rest (a.put o.dst v') w') : wpList P ops Q (o :: rest) a w :=
  wpList_plain hgd fun _ hK => wp_append_src s x t tx ho e i z size bytes ht hi hz hsize hby hzs v n xs hs hown xv m news hx hsrc h63 hbytes fun v' w' h2 h3 h4 => hK _ _ (h v' w' h2 h3 h4)

end Go.Proofs.Ytpbcglepecojmaa

namespace Go.Proofs.Ytpbcglepecojmaa
open Go.RowKit

/-- A cell that holds what was captured. -/
def Bx (w : World) (g : Nat) (v : Value) : Prop := ∃ T, w.heap[g]? = some (.cells #[v] T (0, 0))
theorem Bx.lt {w : World} {g : Nat} {v : Value} (h : Bx w g v) : g < w.heap.size := by obtain ⟨T, h⟩ := h; exact (Array.getElem?_eq_some_iff.1 h).1
theorem Bx.kept {w w' : World} {g : Nat} {v : Value} (h : Bx w g v) {S : Nat → Prop} (hm : Mod S w w') (hg : ¬ S g) : Bx w' g v := by
  have hl := h.lt
  obtain ⟨T, h⟩ := h
  exact ⟨T, (hm.block g hl hg).trans h⟩
theorem Bx.old {w w' : World} {g : Nat} {v : Value} (h : Bx w g v) (hb : Below w.heap.size w w') : Bx w' g v := h.kept (Mod.of_below hb) (fun hn => by have := h.lt; omega)
theorem Bx.cell {w : World} {g : Nat} {v : Value} (h : Bx w g v) : w.cell? ⟨g, 0, none⟩ = some v := by obtain ⟨T, h⟩ := h; unfold World.cell?; rw [h]; rfl
theorem Bx.new (w : World) (v : Value) (T : TypeId) : Bx (w.alloc (.cells #[v] T)) w.heap.size v := ⟨T, heap_alloc_new _ _⟩
theorem Rw.of_own {T : TypeId} {w : World} {v : Value} {n : Nat} {bs : List UInt8} (h : w.ownsRow 0 T 1 v n (vals bs)) (hn : n = bs.length) : ∃ p c, v = .slice p n c ∧ Rw encY T w p c bs := by
  have h2 := h
  subst hn
  rcases h.2 with ⟨e, h0⟩ | ⟨g, cap', cur, e, _⟩
  · subst e
    exact ⟨none, 0, by rw [h0], by unfold Rw; rw [encY_all, h0]; rw [h0] at h2; exact h2⟩
  · subst e
    exact ⟨_, _, rfl, by unfold Rw; rw [encY_all]; exact h2⟩
theorem bytesVals (s : List UInt8) : byteCells ⟨s.toArray⟩ = vals s := by simp [byteCells, vals]
/-- A text appended to bytes. -/
theorem wpList_pushS {P : Program} {ops : Array Oper} {rest : List Oper} {o : Oper} {a : Act} {Q : Exit → Act → World → Prop} {w : World} (hgd : o.guard = none) (s x : Operand) (Ts T tx : TypeId) (z : Value)
    (ho : o.op = .call { callee := .builtin .append, args := #[s, x], argTypes := #[Ts, tx] }) (hT : P.underlying Ts = some (.slice T)) (hi : (P.info? T).map (fun i => (i.zero, i.size, i.bytes)) = some (some z, 1, 1)) (hzs : z.cells.size = 1) (htx : P.underlying tx = some .string)
    (p : Option Addr) (cap n : Nat) (L : List UInt8) (hn : L.length = n) (hs : a.eval s = .slice p n cap) (hS : Rw encY T w p cap L) (Y : List UInt8) (hx : a.eval x = .string ⟨Y.toArray⟩) (hl : n + Y.length ≤ 100000000000)
    (h : ∀ q c w', PushR encY T w p (L ++ Y) q c w' → wpList P ops Q rest (a.put o.dst (.slice q (n + Y.length) c)) w') :
    wpList P ops Q (o :: rest) a w := by
  cases hq : P.info? T with
  | none => rw [hq] at hi; cases hi
  | some i =>
    rw [hq] at hi
    simp only [Option.map_some, Option.some.injEq, Prod.mk.injEq] at hi
    obtain ⟨hz, h1, h2⟩ := hi
    subst hn
    have hsrc := Src.ofString (P := P) (w := w) htx ⟨Y.toArray⟩
    rw [bytesVals] at hsrc
    have hown : w.ownsRow 0 T 1 (.slice p L.length cap) L.length (vals L) := by have := hS; unfold Rw at this; rw [encY_all] at this; exact this
    refine wpList_append_src hgd s x Ts tx ho T i z 1 1 hT hq hz h1 h2 hzs _ L.length (vals L) hs hown _ Y.length (vals Y) hx hsrc (by unfold maxLen; omega) (by omega) ?_
    intro v' w' ho' hgr hat
    rw [← vals_app] at ho'
    obtain ⟨q, c, rfl, hR⟩ := Rw.of_own ho' (by simp)
    refine h q c w' ⟨hR, ?_, ?_⟩
    · refine (Mod.refl _ w).grown hgr ?_
      intro j hj _
      cases p with
      | none => simp [Value.ownBlock] at hj
      | some a => simp [Value.ownBlock] at hj; exact ⟨a, rfl, hj.symm⟩
    · rintro a' e; subst e
      rcases hat with hat | hat
      · left
        rcases hS.shape with ⟨rfl, _⟩ | ⟨g', rfl, _⟩
        · simp [Value.ownBlock] at hat
        · rcases hR.shape with ⟨e, _⟩ | ⟨g2, e, _⟩
          · cases e
          · cases e
            simp [Value.ownBlock] at hat; subst hat; rfl
      · right
        simp [Value.ownBlock] at hat; rw [hat]; exact Nat.le_refl _
theorem Eff.mk {w w' : World} {d b : Nat} {S S' : St} {L L' : List Fl} {F : Nat → Prop} (h : DK w d b S L) (hF : ∀ i, inD d b L i → F i) (hl : ∀ i, F i → i < w.heap.size) (h' : DK w' d b S' L') (hL : ∀ f ∈ L', ∀ a, f.p = some a → inD d b L a.block ∨ w.heap.size ≤ a.block) (hm : Mod (inD d b L) w w') : Eff w w' d S' F := by
  refine ⟨fun i => F i ∨ (w.heap.size ≤ i ∧ i < w'.heap.size), ⟨b, L', h', ?_, ?_⟩, fun i hi => hi.imp id (·.1), hm.mono (fun i _ hi => hF i hi)⟩
  · intro i hi
    have hlt := h'.lt hi
    rcases hi with rfl | rfl | ⟨f, hf, a, ha, rfl⟩
    · exact .inl (hF _ (.inl rfl))
    · exact .inl (hF _ (.inr (.inl rfl)))
    · rcases hL f hf a ha with h1 | h1
      · exact .inl (hF _ h1)
      · exact .inr ⟨h1, hlt⟩
  · rintro i (hi | hi)
    · exact Nat.lt_of_lt_of_le (hl i hi) hm.size
    · exact hi.2
theorem inD_at {w : World} {d b : Nat} {S : St} {L : List Fl} (h : DK w d b S L) (k : List UInt8) {a : Addr} (ha : (atF k L).p = some a) : inD d b L a.block := by
  rcases (h.at k).2.2 with hm | hn
  · exact .inr (.inr ⟨_, hm, a, ha, rfl⟩)
  · rw [hn] at ha; cases ha
theorem inD_wo {d b : Nat} {L : List Fl} {k : List UInt8} {f : Fl} (hf : f ∈ woF k L) {a : Addr} (ha : f.p = some a) : inD d b L a.block := .inr (.inr ⟨f, (List.mem_filter.1 hf).1, a, ha, rfl⟩)
theorem at_ok {w : World} {d b : Nat} {S : St} {L : List Fl} (h : DK w d b S L) (k : List UInt8) {a : Addr} (ha : (atF k L).p = some a) : a.block < w.heap.size ∧ a.block ≠ d ∧ a.block ≠ b := by
  rcases (h.at k).2.2 with hm | hn
  · exact h.rowAt hm ha
  · rw [hn] at ha; cases ha
theorem put_eff {w W3 : World} {d b : Nat} {S S3 : St} {L L3 : List Fl} {F : Nat → Prop} (h : DK w d b S L) (hF : ∀ i, inD d b L i → F i) (hl : ∀ i, F i → i < w.heap.size) (f : Fl) (hX : DKx W3 d b S3 L3 f.k) (hr : Rw encY 5 W3 f.p f.c f.b) (hs : f.s ≤ f.b.length)
    (ha : ∀ a, f.p = some a → a.block ≠ d ∧ a.block ≠ b ∧ (∀ g ∈ woF f.k L3, ∀ a', g.p = some a' → a'.block ≠ a.block) ∧ (inD d b L a.block ∨ w.heap.size ≤ a.block)) (hL : ∀ f ∈ L3, ∀ a, f.p = some a → inD d b L a.block)
    (hm : Mod (inD d b L) w W3) (hk : f.k.length ≤ 1000000) (hn : L3.length ≤ 1000000) :
    Calls Try.prog 29 #[.pointer (some ⟨d, 0, none⟩), .string ⟨f.k.toArray⟩, f.v] W3 fun e w' => e = .returned (.tuple #[]) ∧ Eff w w' d { S3 with X := withX f.x S3.X } F := by
  refine (dkput_any f hX hr hs (fun a e => ?_) hk hn).mono ?_
  · obtain ⟨h1, h2, h3, _⟩ := ha a e
    rw [e] at hr
    exact ⟨hr.lt, h1, h2, h3⟩
  · rintro r w' ⟨rfl, hD, hm2⟩
    refine ⟨rfl, Eff.mk h hF hl hD ?_ (hm.trans hm2 (fun i _ e => .inr (.inl e)))⟩
    intro g hg a e
    rcases List.mem_cons.1 hg with rfl | hg
    · exact (ha a e).2.2.2
    · exact .inl (hL g (List.mem_filter.1 hg).1 a e)
set_option maxRecDepth 20000 in
set_option maxHeartbeats 1000000 in
theorem dkapp1_any {w : World} {d : Nat} {S : St} {F : Nat → Prop} (h : DA w d S F) (gd gk gs : Nat) (k s : List UInt8) (bd : Bx w gd (.pointer (some ⟨d, 0, none⟩))) (bk : Bx w gk (.string ⟨k.toArray⟩)) (bs : Bx w gs (.string ⟨s.toArray⟩)) (ng : ∀ i, i = gd ∨ i = gk ∨ i = gs → ¬ F i) (hk : k.length ≤ 1000000) (hs : s.length ≤ 1000000000) (hn : S.X.length ≤ 1000000) (hf : (fiX k S.X).2.1.length ≤ 2000000000) :
    Calls Try.prog 35 #[.pointer (some ⟨gd, 0, none⟩), .pointer (some ⟨gk, 0, none⟩), .pointer (some ⟨gs, 0, none⟩)] w fun e w' => e = .returned (.tuple #[]) ∧ Eff w w' d { S with X := withX (k, (fiX k S.X).2.1 ++ s, (fiX k S.X).2.2) S.X } F := by
  obtain ⟨b, L, h, hF, hl⟩ := h
  have hx := atF_x h k
  have hat := h.at k
  have hal := fun a e => h.alone k (a := a) e
  have CD : Hid (∀ w1, Below w.heap.size w w1 → w1.cell? ⟨gd, 0, none⟩ = some (.pointer (some ⟨d, 0, none⟩))) := Lib.hid (fun w1 hb => (bd.old hb).cell)
  have CK : Hid (∀ w1, Below w.heap.size w w1 → w1.cell? ⟨gk, 0, none⟩ = some (.string ⟨k.toArray⟩)) := Lib.hid (fun w1 hb => (bk.old hb).cell)
  have CM : Hid (∀ w1, Below w.heap.size w w1 → w1.cell? ⟨d, 1, none⟩ = some (.map (some b))) := Lib.hid (fun w1 hb => (h.old hb).c1)
  have CL : Hid (∀ w1, Below w.heap.size w w1 → (Instr.lookup 58 (.map (some b)) (.string ⟨k.toArray⟩) false).run Try.prog w1 = .ok (atF k L).v w1) := Lib.hid (fun w1 hb => (h.old hb).look k (by unfold maxLen; omega))
  have HI : Hid ((Try.prog.info? 62).map (·.size) = some 2) := Lib.hid (by kernel_rfl)
  have HZ : Hid (∀ w, (zeroValue 62).run Try.prog w = .ok (.agg #[.slice none 0 0, .int .i64 0]) w) := Lib.hid (fun w => by kernel_rfl)
  have hnl : L.length ≤ 1000000 := by rw [h.len]; exact hn
  have CS : Hid (∀ w1, Below w.heap.size w w1 → w1.cell? ⟨gs, 0, none⟩ = some (.string ⟨s.toArray⟩)) := Lib.hid (fun w1 hb => (bs.old hb).cell)
  obtain ⟨hr, hsy, hmem⟩ := hat
  have HBC := Lib.hid hr.cap_le
  have PB : Hid (∀ i, (∃ a, (atF k L).p = some a ∧ i = a.block) → inD d b L i) := Lib.hid (by rintro i ⟨a, e, rfl⟩; exact inD_at h k e)
  have HF : Hid (∀ i, (∃ a, (atF k L).p = some a ∧ i = a.block) → F i) := Lib.hid (fun i hi => hF i (PB.out i hi))
  have HP : Hid (∀ W3 q c', Mod (fun i => ∃ a, (atF k L).p = some a ∧ i = a.block) w W3 → Rw encY 5 W3 q c' ((atF k L).b ++ s) → (∀ a, q = some a → (atF k L).p = some a ∨ w.heap.size ≤ a.block) →
      Calls Try.prog 29 #[.pointer (some ⟨d, 0, none⟩), .string ⟨k.toArray⟩, .agg #[.slice q ((atF k L).b.length + s.length) c', .int .i64 ((atF k L).s : Int)]] W3 fun e w' => e = .returned (.tuple #[]) ∧ Eff w w' d { S with X := withX (k, (fiX k S.X).2.1 ++ s, (fiX k S.X).2.2) S.X } F) := Lib.hid (by
    intro W3 q c' hm hR hq
    have hcl : ∀ i, i = d ∨ i = b → ¬ ∃ a, (atF k L).p = some a ∧ i = a.block := by rintro i hi ⟨a, e, rfl⟩; have := at_ok h k e; omega
    have hX := (h.toX k).kept hm (hcl d (.inl rfl)) (hcl b (.inr rfl)) (by rintro g hg a' e' ⟨a, e, e2⟩; exact hal a e g hg a' e' e2)
    have hpe := put_eff h hF hl ⟨k, (atF k L).b ++ s, (atF k L).s, q, c'⟩ hX hR (by simp only [List.length_append]; omega) (by
      intro a e
      simp only at e
      rcases hq a e with e' | hge
      · have := at_ok h k e'
        exact ⟨this.2.1, this.2.2, hal a e', .inl (inD_at h k e')⟩
      · refine ⟨by have := h.plt; omega, by have := h.map.lt; omega, ?_, .inr hge⟩
        intro g hg a' e'
        have := (h.rowAt (List.mem_filter.1 hg).1 e').1
        omega) (fun g hg a e => .inr (.inr ⟨g, hg, a, e, rfl⟩)) (hm.mono (fun i _ hi => PB.out i hi)) hk hnl
    unfold Fl.v Fl.x at hpe
    simp only [List.length_append] at hpe
    rw [show (fiX k S.X).2.1 = (atF k L).b by rw [← hx]; rfl, show (fiX k S.X).2.2 = (atF k L).s by rw [← hx]; rfl]
    exact hpe)
  have hlen : (atF k L).b.length ≤ 2000000000 := by rw [show (fiX k S.X).2.1 = (atF k L).b by rw [← hx]; rfl] at hf; exact hf
  have HR : Hid (∀ w1, Below w.heap.size w w1 → Rw encY 5 w1 (atF k L).p (atF k L).c (atF k L).b) := Lib.hid (fun w1 hb => hr.old hb)
  have HQ : Hid (∀ a, (atF k L).p = some a → a.block < w.heap.size) := Lib.hid (fun a e => (at_ok h k e).1)
  unfold Fl.v at CL
  generalize hp : (atF k L).p = p at *
  generalize hc : (atF k L).c = c at *
  generalize hbb : (atF k L).b = B at *
  generalize hsyy : ((atF k L).s : Int) = sy at *
  obtain ⟨n, hnn⟩ : ∃ n, n = B.length := ⟨_, rfl⟩
  rw [← hnn] at CL HP hlen
  have HNN := Lib.hid hnn
  have HV : Hid (∀ v ∈ (#[.slice p n c, .int .i64 sy] : Array Value).toList, v.oneCell' = true) := Lib.hid (by intro v hv; simp at hv; rcases hv with rfl | rfl <;> rfl)
  have HG0 : Hid ((fun (j : Nat) (_ : Value) (w1 : World) => Below w.heap.size w w1 ∧ (j = 0 → w1 = w.drew) ∧ (j = 1 → w1 = w.drew.alloc (.cells #[.slice none 0 0, .int .i64 0] 62)) ∧ (j = 2 → w1 = (w.drew.alloc (.cells #[.slice none 0 0, .int .i64 0] 62)).setRow w.heap.size #[.slice p n c, .int .i64 sy])) 0 undef w.drew) := Lib.hid ⟨(Below.refl _ w).drew, fun _ => rfl, (fun h => absurd h (by omega)), (fun h => absurd h (by omega))⟩
  clear hp hc hbb hsyy hx hr hsy hmem hal hf hF h PB hnn hl
  go_enter Try.func35, Try.ntmps35
  go_upto_region 0 with fail
  refine wp_region_chain (fun t v => match t with
    | 4 => v = .pointer (some ⟨d, 0, none⟩)
    | 5 => v = .pointer (some ⟨d, 0, none⟩)
    | 6 => v = .pointer (some ⟨d, 1, none⟩)
    | 7 => v = .map (some b)
    | 8 => v = .string ⟨k.toArray⟩
    | 9 => v = .agg #[.slice p n c, .int .i64 sy]
    | 3 => v = .pointer (some ⟨w.heap.size, 0, none⟩)
    | _ => True) (fun (j : Nat) (_ : Value) (w1 : World) => Below w.heap.size w w1 ∧ (j = 0 → w1 = w.drew) ∧ (j = 1 → w1 = w.drew.alloc (.cells #[.slice none 0 0, .int .i64 0] 62)) ∧ (j = 2 → w1 = (w.drew.alloc (.cells #[.slice none 0 0, .int .i64 0] 62)).setRow w.heap.size #[.slice p n c, .int .i64 sy])) [6, 7] 19 (by kernel_rfl) (by decide +kernel) rfl (by decide +kernel) (by decide) (by decide) HG0.out (by
    refine OweAllC.cons (owesC_val 1 (by decide +kernel) (by decide) rfl rfl fun k' a w1 x hk ha hG hV => ?_) ?_
    · skip
      have h0 := ha.outer 0 (by decide +kernel)
      simp only [Act.eval] at h0
      have hb := hG.1
      have cc := CD.out w1 hb
      exact ⟨.pointer (some ⟨d, 0, none⟩), wanted_free rfl, by simp [execOp, go_sem, h0, cc], rfl⟩
    refine OweAllC.cons (owesC_val 1 (by decide +kernel) (by decide) rfl rfl fun k' a w1 x hk ha hG hV => ?_) ?_
    · skip
      have h4 : a.tmps.getD 4 undef = .pointer (some ⟨d, 0, none⟩) := hV.get 4 (by decide +kernel)
      exact ⟨.pointer (some ⟨d, 0, none⟩), wanted_free rfl, by simp [execOp, go_sem, h4], rfl⟩
    refine OweAllC.cons (owesC_val 1 (by decide +kernel) (by decide) rfl rfl fun k' a w1 x hk ha hG hV => ?_) ?_
    · skip
      have h5 : a.tmps.getD 5 undef = .pointer (some ⟨d, 0, none⟩) := hV.get 5 (by decide +kernel)
      exact ⟨.pointer (some ⟨d, 1, none⟩), wanted_free rfl, by simp [execOp, go_sem, h5], rfl⟩
    refine OweAllC.cons (owesC_val 1 (by decide +kernel) (by decide) rfl rfl fun k' a w1 x hk ha hG hV => ?_) ?_
    · skip
      have h6 : a.tmps.getD 6 undef = .pointer (some ⟨d, 1, none⟩) := hV.get 6 (by decide +kernel)
      have hb := hG.1
      have cc := CM.out w1 hb
      exact ⟨.map (some b), wanted_free rfl, by simp [execOp, go_sem, h6, cc], rfl⟩
    refine OweAllC.cons (owesC_val 1 (by decide +kernel) (by decide) rfl rfl fun k' a w1 x hk ha hG hV => ?_) ?_
    · skip
      have h1 := ha.outer 1 (by decide +kernel)
      simp only [Act.eval] at h1
      have hb := hG.1
      have cc := CK.out w1 hb
      exact ⟨.string ⟨k.toArray⟩, wanted_free rfl, by simp [execOp, go_sem, h1, cc], rfl⟩
    refine OweAllC.cons (owesC_val 1 (by decide +kernel) (by decide) rfl rfl fun k' a w1 x hk ha hG hV => ?_) ?_
    · skip
      have h7 : a.tmps.getD 7 undef = .map (some b) := hV.get 7 (by decide +kernel)
      have h8 : a.tmps.getD 8 undef = .string ⟨k.toArray⟩ := hV.get 8 (by decide +kernel)
      have hb := hG.1
      have cc := CL.out w1 hb
      exact ⟨.agg #[.slice p n c, .int .i64 sy], wanted_free rfl, by simp [execOp, go_sem, h7, h8, cc], rfl⟩
    refine OweAllC.cons (owesC_mem 0 rfl rfl rfl fun a w1 x ha hG hx hV => ?_) ?_
    · skip
      obtain rfl := hG.2.1 rfl
      refine ⟨.pointer (some ⟨w.heap.size, 0, none⟩), w.drew.alloc (.cells #[.slice none 0 0, .int .i64 0] 62), wanted_free rfl, by simp [execOp, go_sem, HZ.out], rfl, hG.1.alloc (Nat.le_refl _) _, (fun h => absurd h (by omega)), fun _ => rfl, (fun h => absurd h (by omega))⟩
    refine OweAllC.cons (owesC_store 1 rfl rfl rfl fun a w1 x ha hG hx hV => ?_) ?_
    · skip
      have h3 : a.tmps.getD 3 undef = .pointer (some ⟨w.heap.size, 0, none⟩) := hV.get 3 (by decide +kernel)
      have h9 : a.tmps.getD 9 undef = .agg #[.slice p n c, .int .i64 sy] := hV.get 9 (by decide +kernel)
      obtain rfl := hG.2.2.1 rfl
      refine ⟨(w.drew.alloc (.cells #[.slice none 0 0, .int .i64 0] 62)).setRow w.heap.size #[.slice p n c, .int .i64 sy], wanted_free rfl, exec_store_row 62 (.tmp 3) (.tmp 9) rfl w.heap.size h3 62 _ _ h9 (heap_alloc_new w.drew (.cells #[.slice none 0 0, .int .i64 0] 62)) rfl HI.out HV.out, ?_, (fun h => absurd h (by omega)), (fun h => absurd h (by omega)), fun _ => rfl⟩
      exact ((((Mod.refl (fun _ => False) w).drew.alloc _).setRow (g := w.heap.size) _).to_below (Nat.le_refl _) (by rintro k hk (h | h); exact h; omega))
    exact OweAllC.nil
    ) ?_
  intro f wz xz hG hx hv
  have e3 : f 3 = .pointer (some ⟨w.heap.size, 0, none⟩) := hv 6 _ 3 rfl rfl
  first | (rename_i hK; refine hK _ _ ?_; clear hK) | (rename_i hK _; refine hK _ _ ?_; clear hK) | (rename_i hK _ _; refine hK _ _ ?_; clear hK) | (rename_i hK _ _ _; refine hK _ _ ?_; clear hK)
  clear hv hx
  simp only [dsts, puts, List.filterMap_cons, List.filterMap_nil, List.foldl_cons, List.foldl_nil, Act.put, List.setIfInBounds_toArray, List.set_cons_succ, List.set_cons_zero, e3]
  clear e3
  obtain ⟨hB1, _, _, hE1⟩ := hG
  have hW1 := hE1 rfl
  have hrow : wz.heap[w.heap.size]? = some (.cells #[.slice p n c, .int .i64 sy] 62 (0, 0)) := by rw [hW1]; exact setRow_heap (w.drew.alloc (.cells #[.slice none 0 0, .int .i64 0] 62)) w.heap.size _ _ 62 (0, 0) (heap_alloc_new _ _)
  have cS := CS.out wz hB1
  have HR1 := Lib.hid (HR.out wz hB1)
  have cg : wz.cell? ⟨w.heap.size, 0, none⟩ = some (.slice p n c) := by unfold World.cell?; rw [hrow]; rfl
  have HB1 := Lib.hid hB1
  have HRW := Lib.hid hrow
  have HLN : Hid (n + s.length ≤ 100000000000) := Lib.hid (by omega)
  clear hE1 hW1 hB1 hrow HR HG0 hlen hs
  generalize hgw : w.heap.size = g at *
  have HGW := Lib.hid hgw
  clear hgw
  go_upto_region 2 with (at_builtin; refine wpList_pushS rfl (.tmp 11) (.tmp 12) 54 5 9 (.int .u8 0) rfl Try.underlying54 (by kernel_rfl) rfl Try.underlying9 p c n B HNN.out.symm rfl HR1.out s rfl HLN.out ?_; intro q c2 w4 hP4; have hr4 : w4.heap[g]? = some (.cells #[.slice p n c, .int .i64 sy] 62 (0, 0)) := (hP4.2.1.block g (Array.getElem?_eq_some_iff.1 HRW.out).1 (by rintro ⟨a, e, h⟩; have := HQ.out a e; omega)).trans HRW.out; have f4 := frozen_of_row w4 g 0 _ 62 hr4; have c4 : w4.cell? ⟨g, 0, none⟩ = some (.slice p n c) := (by unfold World.cell?; rw [hr4]; rfl); have HP4 := Lib.hid hP4; have HR4 := Lib.hid hr4; clear hP4 hr4 cg cS; go_frame)
  have hm5 : Mod (fun i => ∃ a, p = some a ∧ i = a.block) w (w4.setCell ⟨g, 0, none⟩ (.slice q (n + s.length) c2)) := by
    have h1 : Mod (fun _ => False) w wz := (Mod.of_below HB1.out).mono (fun i hi h => by have := HGW.out; omega)
    exact ((h1.mono (fun _ _ h => h.elim)).trans HP4.out.2.1 (fun _ _ h => h)).setCell (fun h => by have := HGW.out; simp at h; omega) _
  have hr5 : (w4.setCell ⟨g, 0, none⟩ (.slice q (n + s.length) c2)).heap[g]? = some (.cells #[.slice q (n + s.length) c2, .int .i64 sy] 62 (0, 0)) := by rw [heap_setCell_same w4 g 0 _ 62 _ HR4.out]; rfl
  have hq5 : Rw encY 5 (w4.setCell ⟨g, 0, none⟩ (.slice q (n + s.length) c2)) q c2 (B ++ s) := HP4.out.1.kept ((Mod.refl (fun i => i = g) w4).setCell (fun _ => rfl) _) (fun a e => by
    have hgl := (Array.getElem?_eq_some_iff.1 HRW.out).1
    rcases HP4.out.2.2 a e with h | h
    · have := HQ.out a h; omega
    · omega)
  have hor5 : ∀ a, q = some a → p = some a ∨ g ≤ a.block := by
    intro a e
    rcases HP4.out.2.2 a e with h | h
    · exact .inl h
    · have := (Array.getElem?_eq_some_iff.1 HRW.out).1; exact .inr (by omega)
  have c5d : (w4.setCell ⟨g, 0, none⟩ (.slice q (n + s.length) c2)).cell? ⟨gd, 0, none⟩ = some (.pointer (some ⟨d, 0, none⟩)) := (bd.kept hm5 (fun h => ng gd (.inl rfl) (HF.out _ h))).cell
  have c5k : (w4.setCell ⟨g, 0, none⟩ (.slice q (n + s.length) c2)).cell? ⟨gk, 0, none⟩ = some (.string ⟨k.toArray⟩) := (bk.kept hm5 (fun h => ng gk (.inr (.inl rfl)) (HF.out _ h))).cell
  have hput := HP.out _ q c2 hm5 hq5 hor5
  generalize w4.setCell ⟨g, 0, none⟩ (.slice q (n + s.length) c2) = W5 at hr5 c5d c5k hput ⊢
  have HPUT := Lib.hid hput
  have c50 : W5.cell? ⟨g, 0, none⟩ = some (.slice q (n + s.length) c2) := by unfold World.cell?; rw [hr5]; rfl
  have c51 : W5.cell? ⟨g, 1, none⟩ = some (.int .i64 sy) := by unfold World.cell?; rw [hr5]; rfl
  clear hput hm5 hq5 hor5 hr5
  go_wp2_with fail
  refine HPUT.out.mono ?_
  rintro r w6 ⟨rfl, hE⟩
  have HE := Lib.hid hE
  clear hE
  go_wp2_with fail
  go_end0
  exact ⟨rfl, HE.out⟩
end Go.Proofs.Ytpbcglepecojmaa

namespace Go.Proofs.Ytpbcglepecojmaa
open Go.RowKit

theorem at_put {w : World} {d b : Nat} {S : St} {L : List Fl} {F : Nat → Prop} (h : DK w d b S L) (hF : ∀ i, inD d b L i → F i) (hl : ∀ i, F i → i < w.heap.size) (k : List UInt8) (n s' : Nat) (hs : s' ≤ ((atF k L).b.take n).length) (hk : k.length ≤ 1000000) (hnl : L.length ≤ 1000000) (w1 : World) (hb : Below w.heap.size w w1) :
    Calls Try.prog 29 #[.pointer (some ⟨d, 0, none⟩), .string ⟨k.toArray⟩, .agg #[.slice (atF k L).p ((atF k L).b.take n).length (atF k L).c, .int .i64 (s' : Int)]] w1 fun e w' => e = .returned (.tuple #[]) ∧ Eff w w' d { S with X := withX (k, (fiX k S.X).2.1.take n, s') S.X } F := by
  have hx := atF_x h k
  rw [show (fiX k S.X).2.1 = (atF k L).b by rw [← hx]; rfl]
  have h1 := h.old hb
  exact put_eff h hF hl ⟨k, (atF k L).b.take n, s', (atF k L).p, (atF k L).c⟩ (h1.toX k) ((h1.at k).1.cutY n) hs (fun a e => ⟨(at_ok h k e).2.1, (at_ok h k e).2.2, h.alone k e, .inl (inD_at h k e)⟩)
    (fun g hg a e => .inr (.inr ⟨g, hg, a, e, rfl⟩)) ((Mod.of_below hb).mono (fun i hi h => by omega)) hk hnl
set_option maxRecDepth 20000 in
set_option maxHeartbeats 1000000 in
theorem dksync1_any {w : World} {d : Nat} {S : St} {F : Nat → Prop} (h : DA w d S F) (gd gk : Nat) (k : List UInt8) (bd : Bx w gd (.pointer (some ⟨d, 0, none⟩))) (bk : Bx w gk (.string ⟨k.toArray⟩)) (hk : k.length ≤ 1000000) (hn : S.X.length ≤ 1000000) :
    Calls Try.prog 36 #[.pointer (some ⟨gd, 0, none⟩), .pointer (some ⟨gk, 0, none⟩)] w fun e w' => e = .returned (.tuple #[]) ∧ Eff w w' d { S with X := withX (k, (fiX k S.X).2.1, (fiX k S.X).2.1.length) S.X } F := by
  obtain ⟨b, L, h, hF, hl⟩ := h
  have hx := atF_x h k
  have hat := h.at k
  have hal := fun a e => h.alone k (a := a) e
  have CD : Hid (∀ w1, Below w.heap.size w w1 → w1.cell? ⟨gd, 0, none⟩ = some (.pointer (some ⟨d, 0, none⟩))) := Lib.hid (fun w1 hb => (bd.old hb).cell)
  have CK : Hid (∀ w1, Below w.heap.size w w1 → w1.cell? ⟨gk, 0, none⟩ = some (.string ⟨k.toArray⟩)) := Lib.hid (fun w1 hb => (bk.old hb).cell)
  have CM : Hid (∀ w1, Below w.heap.size w w1 → w1.cell? ⟨d, 1, none⟩ = some (.map (some b))) := Lib.hid (fun w1 hb => (h.old hb).c1)
  have CL : Hid (∀ w1, Below w.heap.size w w1 → (Instr.lookup 58 (.map (some b)) (.string ⟨k.toArray⟩) false).run Try.prog w1 = .ok (atF k L).v w1) := Lib.hid (fun w1 hb => (h.old hb).look k (by unfold maxLen; omega))
  have HI : Hid ((Try.prog.info? 62).map (·.size) = some 2) := Lib.hid (by kernel_rfl)
  have HZ : Hid (∀ w, (zeroValue 62).run Try.prog w = .ok (.agg #[.slice none 0 0, .int .i64 0]) w) := Lib.hid (fun w => by kernel_rfl)
  have hnl : L.length ≤ 1000000 := by rw [h.len]; exact hn
  have HSU := Lib.hid (fun w1 => dfsure_any (atF k L) w1)
  have HPUT := Lib.hid (fun w1 hb => at_put h hF hl k (atF k L).b.length (atF k L).b.length (by rw [List.take_length]; exact Nat.le_refl _) hk hnl w1 hb)
  rw [show (fiX k S.X).2.1 = (atF k L).b by rw [← hx]; rfl] at HPUT ⊢
  rw [List.take_length] at HPUT
  unfold Fl.v at HSU
  generalize hXX : withX (k, (atF k L).b, (atF k L).b.length) S.X = XX at HPUT ⊢
  unfold Fl.v at CL
  generalize hp : (atF k L).p = p at *
  generalize hc : (atF k L).c = c at *
  generalize hbb : (atF k L).b.length = n at *
  generalize hsyy : ((atF k L).s : Int) = sy at *
  have HG0 : Hid ((fun (j : Nat) (_ : Value) (w' : World) => (j = 0 → Below w.heap.size w w') ∧ (j = 1 → Eff w w' d { S with X := XX } F)) 0 undef w.drew) := Lib.hid ⟨fun _ => (Below.refl _ w).drew, (fun h => absurd h (by omega))⟩
  clear hp hc hbb hsyy hx hat hal hF h hl hXX
  go_enter Try.func36, Try.ntmps36
  go_upto_region 0 with fail
  refine wp_region_chain (fun t v => match t with
    | 2 => v = .pointer (some ⟨d, 0, none⟩)
    | 3 => v = .string ⟨k.toArray⟩
    | 4 => v = .pointer (some ⟨d, 0, none⟩)
    | 5 => v = .pointer (some ⟨d, 0, none⟩)
    | 6 => v = .pointer (some ⟨d, 1, none⟩)
    | 7 => v = .map (some b)
    | 8 => v = .string ⟨k.toArray⟩
    | 9 => v = .agg #[.slice p n c, .int .i64 sy]
    | 10 => v = .agg #[.slice p n c, .int .i64 (n : Int)]
    | _ => True) (fun (j : Nat) (_ : Value) (w' : World) => (j = 0 → Below w.heap.size w w') ∧ (j = 1 → Eff w w' d { S with X := XX } F)) [9] 12 (by kernel_rfl) (by decide +kernel) rfl (by decide +kernel) (by decide) (by decide) HG0.out (by
    refine OweAllC.cons (owesC_val 0 (by decide +kernel) (by decide) rfl rfl fun k' a w1 x hk ha hG hV => ?_) ?_
    · skip
      have h0 := ha.outer 0 (by decide +kernel)
      simp only [Act.eval] at h0
      have hb := hG.1 (by omega)
      have cc := CD.out w1 hb
      exact ⟨.pointer (some ⟨d, 0, none⟩), wanted_free rfl, by simp [execOp, go_sem, h0, cc], rfl⟩
    refine OweAllC.cons (owesC_val 0 (by decide +kernel) (by decide) rfl rfl fun k' a w1 x hk ha hG hV => ?_) ?_
    · skip
      have h1 := ha.outer 1 (by decide +kernel)
      simp only [Act.eval] at h1
      have hb := hG.1 (by omega)
      have cc := CK.out w1 hb
      exact ⟨.string ⟨k.toArray⟩, wanted_free rfl, by simp [execOp, go_sem, h1, cc], rfl⟩
    refine OweAllC.cons (owesC_val 0 (by decide +kernel) (by decide) rfl rfl fun k' a w1 x hk ha hG hV => ?_) ?_
    · skip
      have h0 := ha.outer 0 (by decide +kernel)
      simp only [Act.eval] at h0
      have hb := hG.1 (by omega)
      have cc := CD.out w1 hb
      exact ⟨.pointer (some ⟨d, 0, none⟩), wanted_free rfl, by simp [execOp, go_sem, h0, cc], rfl⟩
    refine OweAllC.cons (owesC_val 0 (by decide +kernel) (by decide) rfl rfl fun k' a w1 x hk ha hG hV => ?_) ?_
    · skip
      have h4 : a.tmps.getD 4 undef = .pointer (some ⟨d, 0, none⟩) := hV.get 4 (by decide +kernel)
      exact ⟨.pointer (some ⟨d, 0, none⟩), wanted_free rfl, by simp [execOp, go_sem, h4], rfl⟩
    refine OweAllC.cons (owesC_val 0 (by decide +kernel) (by decide) rfl rfl fun k' a w1 x hk ha hG hV => ?_) ?_
    · skip
      have h5 : a.tmps.getD 5 undef = .pointer (some ⟨d, 0, none⟩) := hV.get 5 (by decide +kernel)
      exact ⟨.pointer (some ⟨d, 1, none⟩), wanted_free rfl, by simp [execOp, go_sem, h5], rfl⟩
    refine OweAllC.cons (owesC_val 0 (by decide +kernel) (by decide) rfl rfl fun k' a w1 x hk ha hG hV => ?_) ?_
    · skip
      have h6 : a.tmps.getD 6 undef = .pointer (some ⟨d, 1, none⟩) := hV.get 6 (by decide +kernel)
      have hb := hG.1 (by omega)
      have cc := CM.out w1 hb
      exact ⟨.map (some b), wanted_free rfl, by simp [execOp, go_sem, h6, cc], rfl⟩
    refine OweAllC.cons (owesC_val 0 (by decide +kernel) (by decide) rfl rfl fun k' a w1 x hk ha hG hV => ?_) ?_
    · skip
      have h1 := ha.outer 1 (by decide +kernel)
      simp only [Act.eval] at h1
      have hb := hG.1 (by omega)
      have cc := CK.out w1 hb
      exact ⟨.string ⟨k.toArray⟩, wanted_free rfl, by simp [execOp, go_sem, h1, cc], rfl⟩
    refine OweAllC.cons (owesC_val 0 (by decide +kernel) (by decide) rfl rfl fun k' a w1 x hk ha hG hV => ?_) ?_
    · skip
      have h7 : a.tmps.getD 7 undef = .map (some b) := hV.get 7 (by decide +kernel)
      have h8 : a.tmps.getD 8 undef = .string ⟨k.toArray⟩ := hV.get 8 (by decide +kernel)
      have hb := hG.1 (by omega)
      have cc := CL.out w1 hb
      exact ⟨.agg #[.slice p n c, .int .i64 sy], wanted_free rfl, by simp [execOp, go_sem, h7, h8, cc], rfl⟩
    refine OweAllC.cons (owesC_side 0 (by decide +kernel) (by decide) rfl rfl 31 fun k' a w1 x hk ha hG hV => ?_) ?_
    · skip
      have h9 : a.tmps.getD 9 undef = .agg #[.slice p n c, .int .i64 sy] := hV.get 9 (by decide +kernel)
      refine ⟨#[.agg #[.slice p n c, .int .i64 sy]], wanted_free rfl, by simp [execOp, resolve, invoke, go_sem, h9], ?_⟩
      refine (HSU.out w1).mono ?_
      rintro r' u2 ⟨rfl, hb2⟩; exact ⟨_, rfl, rfl, (fun h => (hG.1 h).trans (hb2.mono (hG.1 h).size)), (fun h => absurd h (by omega))⟩
    refine OweAllC.cons (owesC_call 0 rfl rfl rfl 29 fun a w1 x ha hG hx hV => ?_) ?_
    · skip
      have h2 : a.tmps.getD 2 undef = .pointer (some ⟨d, 0, none⟩) := hV.get 2 (by decide +kernel)
      have h3 : a.tmps.getD 3 undef = .string ⟨k.toArray⟩ := hV.get 3 (by decide +kernel)
      have h10 : a.tmps.getD 10 undef = .agg #[.slice p n c, .int .i64 (n : Int)] := hV.get 10 (by decide +kernel)
      refine ⟨#[.pointer (some ⟨d, 0, none⟩), .string ⟨k.toArray⟩, .agg #[.slice p n c, .int .i64 (n : Int)]], wanted_free rfl, by simp [execOp, resolve, invoke, go_sem, h2, h3, h10], ?_⟩
      refine (HPUT.out w1 (hG.1 (by omega))).mono ?_
      rintro r u2 ⟨rfl, hE⟩; exact ⟨_, rfl, trivial, (fun h => absurd h (by omega)), fun _ => hE⟩
    exact OweAllC.nil
    ) ?_
  intro f wz xz hG hx hv
  clear hv hx
  have HE := Lib.hid (hG.2 rfl)
  clear hG
  go_end0
  exact ⟨rfl, HE.out⟩
set_option maxRecDepth 20000 in
set_option maxHeartbeats 1000000 in
theorem dkcut1_any {w : World} {d : Nat} {S : St} {F : Nat → Prop} (h : DA w d S F) (gd gk : Nat) (k : List UInt8) (bd : Bx w gd (.pointer (some ⟨d, 0, none⟩))) (bk : Bx w gk (.string ⟨k.toArray⟩)) (gn : Nat) (m : Nat) (bn : Bx w gn (.int .i64 (m : Int))) (hm : m ≤ (fiX k S.X).2.1.length) (hk : k.length ≤ 1000000) (hn : S.X.length ≤ 1000000) :
    Calls Try.prog 44 #[.pointer (some ⟨gd, 0, none⟩), .pointer (some ⟨gk, 0, none⟩), .pointer (some ⟨gn, 0, none⟩)] w fun e w' => e = .returned (.tuple #[]) ∧ Eff w w' d { S with X := withX (k, (fiX k S.X).2.1.take m, min (fiX k S.X).2.2 m) S.X } F := by
  obtain ⟨b, L, h, hF, hl⟩ := h
  have hx := atF_x h k
  have hat := h.at k
  have hal := fun a e => h.alone k (a := a) e
  have CD : Hid (∀ w1, Below w.heap.size w w1 → w1.cell? ⟨gd, 0, none⟩ = some (.pointer (some ⟨d, 0, none⟩))) := Lib.hid (fun w1 hb => (bd.old hb).cell)
  have CK : Hid (∀ w1, Below w.heap.size w w1 → w1.cell? ⟨gk, 0, none⟩ = some (.string ⟨k.toArray⟩)) := Lib.hid (fun w1 hb => (bk.old hb).cell)
  have CM : Hid (∀ w1, Below w.heap.size w w1 → w1.cell? ⟨d, 1, none⟩ = some (.map (some b))) := Lib.hid (fun w1 hb => (h.old hb).c1)
  have CL : Hid (∀ w1, Below w.heap.size w w1 → (Instr.lookup 58 (.map (some b)) (.string ⟨k.toArray⟩) false).run Try.prog w1 = .ok (atF k L).v w1) := Lib.hid (fun w1 hb => (h.old hb).look k (by unfold maxLen; omega))
  have HI : Hid ((Try.prog.info? 62).map (·.size) = some 2) := Lib.hid (by kernel_rfl)
  have HZ : Hid (∀ w, (zeroValue 62).run Try.prog w = .ok (.agg #[.slice none 0 0, .int .i64 0]) w) := Lib.hid (fun w => by kernel_rfl)
  have hnl : L.length ≤ 1000000 := by rw [h.len]; exact hn
  have hfb : (fiX k S.X).2.1 = (atF k L).b := by rw [← hx]; rfl
  rw [show (fiX k S.X).2.2 = (atF k L).s by rw [← hx]; rfl]
  have hlt : ((atF k L).b.take m).length = m := by rw [List.length_take]; rw [hfb] at hm; omega
  have HSU := Lib.hid (fun w1 => dffirst_any (atF k L) m w1 (by rw [← hfb]; exact hm) hat.1.cap_le)
  have HPUT := Lib.hid (fun w1 hb => at_put h hF hl k m (min (atF k L).s m) (by rw [hlt]; exact Nat.min_le_right _ _) hk hnl w1 hb)
  have CN : Hid (∀ w1, Below w.heap.size w w1 → w1.cell? ⟨gn, 0, none⟩ = some (.int .i64 (m : Int))) := Lib.hid (fun w1 hb => (bn.old hb).cell)
  unfold Fl.v at HSU
  simp only [hlt] at HPUT HSU
  generalize hXX : withX (k, (fiX k S.X).2.1.take m, min (atF k L).s m) S.X = XX at HPUT ⊢
  generalize hsm : ((min (atF k L).s m : Nat) : Int) = sm at *
  unfold Fl.v at CL
  generalize hp : (atF k L).p = p at *
  generalize hc : (atF k L).c = c at *
  generalize hbb : (atF k L).b.length = n at *
  generalize hsyy : ((atF k L).s : Int) = sy at *
  have HG0 : Hid ((fun (j : Nat) (_ : Value) (w' : World) => (j = 0 → Below w.heap.size w w') ∧ (j = 1 → Eff w w' d { S with X := XX } F)) 0 undef w.drew) := Lib.hid ⟨fun _ => (Below.refl _ w).drew, (fun h => absurd h (by omega))⟩
  clear hp hc hbb hsyy hx hat hal hF h hl hXX hsm hlt hfb hm
  go_enter Try.func44, Try.ntmps44
  go_upto_region 0 with fail
  refine wp_region_chain (fun t v => match t with
    | 3 => v = .pointer (some ⟨d, 0, none⟩)
    | 4 => v = .string ⟨k.toArray⟩
    | 5 => v = .pointer (some ⟨d, 0, none⟩)
    | 6 => v = .pointer (some ⟨d, 0, none⟩)
    | 7 => v = .pointer (some ⟨d, 1, none⟩)
    | 8 => v = .map (some b)
    | 9 => v = .string ⟨k.toArray⟩
    | 10 => v = .agg #[.slice p n c, .int .i64 sy]
    | 11 => v = .int .i64 (m : Int)
    | 12 => v = .agg #[.slice p m c, .int .i64 sm]
    | _ => True) (fun (j : Nat) (_ : Value) (w' : World) => (j = 0 → Below w.heap.size w w') ∧ (j = 1 → Eff w w' d { S with X := XX } F)) [10] 14 (by kernel_rfl) (by decide +kernel) rfl (by decide +kernel) (by decide) (by decide) HG0.out (by
    refine OweAllC.cons (owesC_val 0 (by decide +kernel) (by decide) rfl rfl fun k' a w1 x hk ha hG hV => ?_) ?_
    · skip
      have h0 := ha.outer 0 (by decide +kernel)
      simp only [Act.eval] at h0
      have hb := hG.1 (by omega)
      have cc := CD.out w1 hb
      exact ⟨.pointer (some ⟨d, 0, none⟩), wanted_free rfl, by simp [execOp, go_sem, h0, cc], rfl⟩
    refine OweAllC.cons (owesC_val 0 (by decide +kernel) (by decide) rfl rfl fun k' a w1 x hk ha hG hV => ?_) ?_
    · skip
      have h1 := ha.outer 1 (by decide +kernel)
      simp only [Act.eval] at h1
      have hb := hG.1 (by omega)
      have cc := CK.out w1 hb
      exact ⟨.string ⟨k.toArray⟩, wanted_free rfl, by simp [execOp, go_sem, h1, cc], rfl⟩
    refine OweAllC.cons (owesC_val 0 (by decide +kernel) (by decide) rfl rfl fun k' a w1 x hk ha hG hV => ?_) ?_
    · skip
      have h0 := ha.outer 0 (by decide +kernel)
      simp only [Act.eval] at h0
      have hb := hG.1 (by omega)
      have cc := CD.out w1 hb
      exact ⟨.pointer (some ⟨d, 0, none⟩), wanted_free rfl, by simp [execOp, go_sem, h0, cc], rfl⟩
    refine OweAllC.cons (owesC_val 0 (by decide +kernel) (by decide) rfl rfl fun k' a w1 x hk ha hG hV => ?_) ?_
    · skip
      have h5 : a.tmps.getD 5 undef = .pointer (some ⟨d, 0, none⟩) := hV.get 5 (by decide +kernel)
      exact ⟨.pointer (some ⟨d, 0, none⟩), wanted_free rfl, by simp [execOp, go_sem, h5], rfl⟩
    refine OweAllC.cons (owesC_val 0 (by decide +kernel) (by decide) rfl rfl fun k' a w1 x hk ha hG hV => ?_) ?_
    · skip
      have h6 : a.tmps.getD 6 undef = .pointer (some ⟨d, 0, none⟩) := hV.get 6 (by decide +kernel)
      exact ⟨.pointer (some ⟨d, 1, none⟩), wanted_free rfl, by simp [execOp, go_sem, h6], rfl⟩
    refine OweAllC.cons (owesC_val 0 (by decide +kernel) (by decide) rfl rfl fun k' a w1 x hk ha hG hV => ?_) ?_
    · skip
      have h7 : a.tmps.getD 7 undef = .pointer (some ⟨d, 1, none⟩) := hV.get 7 (by decide +kernel)
      have hb := hG.1 (by omega)
      have cc := CM.out w1 hb
      exact ⟨.map (some b), wanted_free rfl, by simp [execOp, go_sem, h7, cc], rfl⟩
    refine OweAllC.cons (owesC_val 0 (by decide +kernel) (by decide) rfl rfl fun k' a w1 x hk ha hG hV => ?_) ?_
    · skip
      have h1 := ha.outer 1 (by decide +kernel)
      simp only [Act.eval] at h1
      have hb := hG.1 (by omega)
      have cc := CK.out w1 hb
      exact ⟨.string ⟨k.toArray⟩, wanted_free rfl, by simp [execOp, go_sem, h1, cc], rfl⟩
    refine OweAllC.cons (owesC_val 0 (by decide +kernel) (by decide) rfl rfl fun k' a w1 x hk ha hG hV => ?_) ?_
    · skip
      have h8 : a.tmps.getD 8 undef = .map (some b) := hV.get 8 (by decide +kernel)
      have h9 : a.tmps.getD 9 undef = .string ⟨k.toArray⟩ := hV.get 9 (by decide +kernel)
      have hb := hG.1 (by omega)
      have cc := CL.out w1 hb
      exact ⟨.agg #[.slice p n c, .int .i64 sy], wanted_free rfl, by simp [execOp, go_sem, h8, h9, cc], rfl⟩
    refine OweAllC.cons (owesC_val 0 (by decide +kernel) (by decide) rfl rfl fun k' a w1 x hk ha hG hV => ?_) ?_
    · skip
      have h2 := ha.outer 2 (by decide +kernel)
      simp only [Act.eval] at h2
      have hb := hG.1 (by omega)
      have cc := CN.out w1 hb
      exact ⟨.int .i64 (m : Int), wanted_free rfl, by simp [execOp, go_sem, h2, cc], rfl⟩
    refine OweAllC.cons (owesC_side 0 (by decide +kernel) (by decide) rfl rfl 30 fun k' a w1 x hk ha hG hV => ?_) ?_
    · skip
      have h10 : a.tmps.getD 10 undef = .agg #[.slice p n c, .int .i64 sy] := hV.get 10 (by decide +kernel)
      have h11 : a.tmps.getD 11 undef = .int .i64 (m : Int) := hV.get 11 (by decide +kernel)
      refine ⟨#[.agg #[.slice p n c, .int .i64 sy], .int .i64 (m : Int)], wanted_free rfl, by simp [execOp, resolve, invoke, go_sem, h10, h11], ?_⟩
      refine (HSU.out w1).mono ?_
      rintro r' u2 ⟨rfl, hb2⟩; exact ⟨_, rfl, rfl, (fun h => (hG.1 h).trans (hb2.mono (hG.1 h).size)), (fun h => absurd h (by omega))⟩
    refine OweAllC.cons (owesC_call 0 rfl rfl rfl 29 fun a w1 x ha hG hx hV => ?_) ?_
    · skip
      have h3 : a.tmps.getD 3 undef = .pointer (some ⟨d, 0, none⟩) := hV.get 3 (by decide +kernel)
      have h4 : a.tmps.getD 4 undef = .string ⟨k.toArray⟩ := hV.get 4 (by decide +kernel)
      have h12 : a.tmps.getD 12 undef = .agg #[.slice p m c, .int .i64 sm] := hV.get 12 (by decide +kernel)
      refine ⟨#[.pointer (some ⟨d, 0, none⟩), .string ⟨k.toArray⟩, .agg #[.slice p m c, .int .i64 sm]], wanted_free rfl, by simp [execOp, resolve, invoke, go_sem, h3, h4, h12], ?_⟩
      refine (HPUT.out w1 (hG.1 (by omega))).mono ?_
      rintro r u2 ⟨rfl, hE⟩; exact ⟨_, rfl, trivial, (fun h => absurd h (by omega)), fun _ => hE⟩
    exact OweAllC.nil
    ) ?_
  intro f wz xz hG hx hv
  clear hv hx
  have HE := Lib.hid (hG.2 rfl)
  clear hG
  go_end0
  exact ⟨rfl, HE.out⟩
set_option maxRecDepth 20000 in
set_option maxHeartbeats 1000000 in
theorem dkremove1_any {w : World} {d : Nat} {S : St} {F : Nat → Prop} (h : DA w d S F) (gd gk : Nat) (k : List UInt8) (bd : Bx w gd (.pointer (some ⟨d, 0, none⟩))) (bk : Bx w gk (.string ⟨k.toArray⟩)) (hk : k.length ≤ 1000000) (hn : S.X.length ≤ 1000000) :
    Calls Try.prog 46 #[.pointer (some ⟨gd, 0, none⟩), .pointer (some ⟨gk, 0, none⟩)] w fun e w' => e = .returned (.tuple #[]) ∧ Eff w w' d { S with X := wo k S.X } F := by
  obtain ⟨b, L, h, hF, hl⟩ := h
  have hx := atF_x h k
  have hat := h.at k
  have hal := fun a e => h.alone k (a := a) e
  have CD : Hid (∀ w1, Below w.heap.size w w1 → w1.cell? ⟨gd, 0, none⟩ = some (.pointer (some ⟨d, 0, none⟩))) := Lib.hid (fun w1 hb => (bd.old hb).cell)
  have CK : Hid (∀ w1, Below w.heap.size w w1 → w1.cell? ⟨gk, 0, none⟩ = some (.string ⟨k.toArray⟩)) := Lib.hid (fun w1 hb => (bk.old hb).cell)
  have CM : Hid (∀ w1, Below w.heap.size w w1 → w1.cell? ⟨d, 1, none⟩ = some (.map (some b))) := Lib.hid (fun w1 hb => (h.old hb).c1)
  have CL : Hid (∀ w1, Below w.heap.size w w1 → (Instr.lookup 58 (.map (some b)) (.string ⟨k.toArray⟩) false).run Try.prog w1 = .ok (atF k L).v w1) := Lib.hid (fun w1 hb => (h.old hb).look k (by unfold maxLen; omega))
  have HI : Hid ((Try.prog.info? 62).map (·.size) = some 2) := Lib.hid (by kernel_rfl)
  have HZ : Hid (∀ w, (zeroValue 62).run Try.prog w = .ok (.agg #[.slice none 0 0, .int .i64 0]) w) := Lib.hid (fun w => by kernel_rfl)
  have hnl : L.length ≤ 1000000 := by rw [h.len]; exact hn
  have HS : Hid (∀ w1, Below w.heap.size w w1 → ∃ w2, (∀ ty, (Builtin.delete_ #[58, 9] ty #[.map (some b), .string ⟨k.toArray⟩]).run Try.prog w1 = .ok (.tuple #[]) w2) ∧ DK w2 d b { S with X := wo k S.X } (woF k L) ∧ Mod (fun i => i = b) w1 w2) := Lib.hid (fun w1 hb => (h.old hb).drop k (by unfold maxLen; omega))
  have HX : Hid (∀ w1 w2, Below w.heap.size w w1 → DK w2 d b { S with X := wo k S.X } (woF k L) → Mod (fun i => i = b) w1 w2 → Eff w w2 d { S with X := wo k S.X } F) := Lib.hid (by
    intro w1 w2 hb hD hm
    exact Eff.mk h hF hl hD (fun f hf a e => .inl (inD_wo hf e)) (((Mod.of_below hb).mono (fun i hi h => by omega)).trans hm (fun i _ e => .inr (.inl e))))
  have HG0 : Hid ((fun (j : Nat) (_ : Value) (w' : World) => (j = 0 → Below w.heap.size w w') ∧ (j = 1 → ∃ w1, Below w.heap.size w w1 ∧ DK w' d b { S with X := wo k S.X } (woF k L) ∧ Mod (fun i => i = b) w1 w')) 0 undef w.drew) := Lib.hid ⟨fun _ => (Below.refl _ w).drew, (fun h => absurd h (by omega))⟩
  clear hx hat hal hF h hl CL
  go_enter Try.func46, Try.ntmps46
  go_upto_region 0 with fail
  refine wp_region_chain (fun t v => match t with
    | 2 => v = .pointer (some ⟨d, 0, none⟩)
    | 3 => v = .pointer (some ⟨d, 0, none⟩)
    | 4 => v = .pointer (some ⟨d, 1, none⟩)
    | 5 => v = .map (some b)
    | 6 => v = .string ⟨k.toArray⟩
    | _ => True) (fun (j : Nat) (_ : Value) (w' : World) => (j = 0 → Below w.heap.size w w') ∧ (j = 1 → ∃ w1, Below w.heap.size w w1 ∧ DK w' d b { S with X := wo k S.X } (woF k L) ∧ Mod (fun i => i = b) w1 w')) [5] 7 (by kernel_rfl) (by decide +kernel) rfl (by decide +kernel) (by decide) (by decide) HG0.out (by
    refine OweAllC.cons (owesC_val 0 (by decide +kernel) (by decide) rfl rfl fun k' a w1 x hk ha hG hV => ?_) ?_
    · skip
      have h0 := ha.outer 0 (by decide +kernel)
      simp only [Act.eval] at h0
      have hb := hG.1 (by omega)
      have cc := CD.out w1 hb
      exact ⟨.pointer (some ⟨d, 0, none⟩), wanted_free rfl, by simp [execOp, go_sem, h0, cc], rfl⟩
    refine OweAllC.cons (owesC_val 0 (by decide +kernel) (by decide) rfl rfl fun k' a w1 x hk ha hG hV => ?_) ?_
    · skip
      have h2 : a.tmps.getD 2 undef = .pointer (some ⟨d, 0, none⟩) := hV.get 2 (by decide +kernel)
      exact ⟨.pointer (some ⟨d, 0, none⟩), wanted_free rfl, by simp [execOp, go_sem, h2], rfl⟩
    refine OweAllC.cons (owesC_val 0 (by decide +kernel) (by decide) rfl rfl fun k' a w1 x hk ha hG hV => ?_) ?_
    · skip
      have h3 : a.tmps.getD 3 undef = .pointer (some ⟨d, 0, none⟩) := hV.get 3 (by decide +kernel)
      exact ⟨.pointer (some ⟨d, 1, none⟩), wanted_free rfl, by simp [execOp, go_sem, h3], rfl⟩
    refine OweAllC.cons (owesC_val 0 (by decide +kernel) (by decide) rfl rfl fun k' a w1 x hk ha hG hV => ?_) ?_
    · skip
      have h4 : a.tmps.getD 4 undef = .pointer (some ⟨d, 1, none⟩) := hV.get 4 (by decide +kernel)
      have hb := hG.1 (by omega)
      have cc := CM.out w1 hb
      exact ⟨.map (some b), wanted_free rfl, by simp [execOp, go_sem, h4, cc], rfl⟩
    refine OweAllC.cons (owesC_val 0 (by decide +kernel) (by decide) rfl rfl fun k' a w1 x hk ha hG hV => ?_) ?_
    · skip
      have h1 := ha.outer 1 (by decide +kernel)
      simp only [Act.eval] at h1
      have hb := hG.1 (by omega)
      have cc := CK.out w1 hb
      exact ⟨.string ⟨k.toArray⟩, wanted_free rfl, by simp [execOp, go_sem, h1, cc], rfl⟩
    refine OweAllC.cons (owesC_eff 0 rfl rfl rfl fun a w1 x ha hG hx hV => ?_) ?_
    · skip
      have h5 : a.tmps.getD 5 undef = .map (some b) := hV.get 5 (by decide +kernel)
      have h6 : a.tmps.getD 6 undef = .string ⟨k.toArray⟩ := hV.get 6 (by decide +kernel)
      have hb := hG.1 (by omega)
      obtain ⟨w2, hr, hm, hmd⟩ := HS.out w1 hb
      exact ⟨.tuple #[], w2, wanted_free rfl, by simp [go_sem, h5, h6, hr], (fun h => absurd h (by omega)), fun _ => ⟨w1, hb, hm, hmd⟩⟩
    exact OweAllC.nil
    ) ?_
  intro f wz xz hG hx hv
  clear hv hx
  have HE := Lib.hid (hG.2 rfl)
  clear hG
  go_end0
  obtain ⟨w1, hb, hD, hm⟩ := HE.out
  exact ⟨rfl, HX.out w1 _ hb hD hm⟩
end Go.Proofs.Ytpbcglepecojmaa

namespace Go.Proofs.Ytpbcglepecojmaa
open Go.RowKit

set_option maxRecDepth 20000 in
set_option maxHeartbeats 1000000 in
theorem dkrename1_any {w : World} {d : Nat} {S : St} {F : Nat → Prop} (h : DA w d S F) (gd gk : Nat) (k : List UInt8) (bd : Bx w gd (.pointer (some ⟨d, 0, none⟩))) (bk : Bx w gk (.string ⟨k.toArray⟩)) (gs : Nat) (t : List UInt8) (bs : Bx w gs (.string ⟨t.toArray⟩)) (ng : ∀ i, i = gd ∨ i = gk ∨ i = gs → ¬ F i) (hk : k.length ≤ 1000000) (ht : t.length ≤ 1000000) (hn : S.X.length ≤ 1000000) :
    Calls Try.prog 45 #[.pointer (some ⟨gd, 0, none⟩), .pointer (some ⟨gk, 0, none⟩), .pointer (some ⟨gs, 0, none⟩)] w fun e w' => e = .returned (.tuple #[]) ∧ Eff w w' d { S with X := withX (t, (fiX k S.X).2.1, (fiX k S.X).2.2) (wo k S.X) } F := by
  obtain ⟨b, L, h, hF, hl⟩ := h
  have hx := atF_x h k
  have hat := h.at k
  have hal := fun a e => h.alone k (a := a) e
  have CD : Hid (∀ w1, Below w.heap.size w w1 → w1.cell? ⟨gd, 0, none⟩ = some (.pointer (some ⟨d, 0, none⟩))) := Lib.hid (fun w1 hb => (bd.old hb).cell)
  have CK : Hid (∀ w1, Below w.heap.size w w1 → w1.cell? ⟨gk, 0, none⟩ = some (.string ⟨k.toArray⟩)) := Lib.hid (fun w1 hb => (bk.old hb).cell)
  have CM : Hid (∀ w1, Below w.heap.size w w1 → w1.cell? ⟨d, 1, none⟩ = some (.map (some b))) := Lib.hid (fun w1 hb => (h.old hb).c1)
  have CL : Hid (∀ w1, Below w.heap.size w w1 → (Instr.lookup 58 (.map (some b)) (.string ⟨k.toArray⟩) false).run Try.prog w1 = .ok (atF k L).v w1) := Lib.hid (fun w1 hb => (h.old hb).look k (by unfold maxLen; omega))
  have HI : Hid ((Try.prog.info? 62).map (·.size) = some 2) := Lib.hid (by kernel_rfl)
  have HZ : Hid (∀ w, (zeroValue 62).run Try.prog w = .ok (.agg #[.slice none 0 0, .int .i64 0]) w) := Lib.hid (fun w => by kernel_rfl)
  have hnl : L.length ≤ 1000000 := by rw [h.len]; exact hn
  have HSD : Hid (∀ w1, Below w.heap.size w w1 → ∃ w2, (∀ ty, (Builtin.delete_ #[58, 9] ty #[.map (some b), .string ⟨k.toArray⟩]).run Try.prog w1 = .ok (.tuple #[]) w2) ∧ DK w2 d b { S with X := wo k S.X } (woF k L) ∧ Mod (fun i => i = b) w1 w2) := Lib.hid (fun w1 hb => (h.old hb).drop k (by unfold maxLen; omega))
  have HB : Hid (d ≠ b ∧ F b ∧ b < w.heap.size) := Lib.hid ⟨h.ne, hF b (.inr (.inl rfl)), h.map.lt⟩
  have HP : Hid (∀ w1 w2, Below w.heap.size w w1 → DK w2 d b { S with X := wo k S.X } (woF k L) → Mod (fun i => i = b) w1 w2 →
      Calls Try.prog 29 #[.pointer (some ⟨d, 0, none⟩), .string ⟨t.toArray⟩, .agg #[.slice (atF k L).p (atF k L).b.length (atF k L).c, .int .i64 ((atF k L).s : Int)]] w2 fun e w' => e = .returned (.tuple #[]) ∧ Eff w w' d { S with X := withX (t, (fiX k S.X).2.1, (fiX k S.X).2.2) (wo k S.X) } F) := Lib.hid (by
    intro w1 w2 hb hD hm
    have hxx := hx
    rw [show (fiX k S.X).2.1 = (atF k L).b by rw [← hxx]; rfl, show (fiX k S.X).2.2 = (atF k L).s by rw [← hxx]; rfl]
    exact put_eff h hF hl ⟨t, (atF k L).b, (atF k L).s, (atF k L).p, (atF k L).c⟩ (hD.toX t) ((hat.1.old hb).kept hm (fun a e => (at_ok h k e).2.2)) hat.2.1
      (fun a e => ⟨(at_ok h k e).2.1, (at_ok h k e).2.2, fun g hg a' e' => h.alone k e g (List.mem_filter.1 hg).1 a' e', .inl (inD_at h k e)⟩)
      (fun g hg a e => inD_wo hg e) (((Mod.of_below hb).mono (fun i hi h => by omega)).trans hm (fun i _ e => .inr (.inl e))) ht (Nat.le_trans (List.length_filter_le _ _) hnl))
  unfold Fl.v at CL
  generalize hp : (atF k L).p = p at *
  generalize hc : (atF k L).c = c at *
  generalize hbb : (atF k L).b.length = n at *
  generalize hsyy : ((atF k L).s : Int) = sy at *
  have HV : Hid (∀ v ∈ (#[.slice p n c, .int .i64 sy] : Array Value).toList, v.oneCell' = true) := Lib.hid (by intro v hv; simp at hv; rcases hv with rfl | rfl <;> rfl)
  have HG0 : Hid ((fun (j : Nat) (_ : Value) (w1 : World) => Below w.heap.size w w1 ∧ (j = 0 → w1 = w.drew) ∧ (j = 1 → w1 = w.drew.alloc (.cells #[.slice none 0 0, .int .i64 0] 62)) ∧ (j = 2 → w1 = (w.drew.alloc (.cells #[.slice none 0 0, .int .i64 0] 62)).setRow w.heap.size #[.slice p n c, .int .i64 sy])) 0 undef w.drew) := Lib.hid ⟨(Below.refl _ w).drew, fun _ => rfl, (fun h => absurd h (by omega)), (fun h => absurd h (by omega))⟩
  clear hp hc hbb hsyy hx hat hal hF h hl
  go_enter Try.func45, Try.ntmps45
  go_upto_region 0 with fail
  refine wp_region_chain (fun t v => match t with
    | 4 => v = .pointer (some ⟨d, 0, none⟩)
    | 5 => v = .pointer (some ⟨d, 0, none⟩)
    | 6 => v = .pointer (some ⟨d, 1, none⟩)
    | 7 => v = .map (some b)
    | 8 => v = .string ⟨k.toArray⟩
    | 9 => v = .agg #[.slice p n c, .int .i64 sy]
    | 3 => v = .pointer (some ⟨w.heap.size, 0, none⟩)
    | _ => True) (fun (j : Nat) (_ : Value) (w1 : World) => Below w.heap.size w w1 ∧ (j = 0 → w1 = w.drew) ∧ (j = 1 → w1 = w.drew.alloc (.cells #[.slice none 0 0, .int .i64 0] 62)) ∧ (j = 2 → w1 = (w.drew.alloc (.cells #[.slice none 0 0, .int .i64 0] 62)).setRow w.heap.size #[.slice p n c, .int .i64 sy])) [6, 7] 19 (by kernel_rfl) (by decide +kernel) rfl (by decide +kernel) (by decide) (by decide) HG0.out (by
    refine OweAllC.cons (owesC_val 1 (by decide +kernel) (by decide) rfl rfl fun k' a w1 x hk ha hG hV => ?_) ?_
    · skip
      have h0 := ha.outer 0 (by decide +kernel)
      simp only [Act.eval] at h0
      have hb := hG.1
      have cc := CD.out w1 hb
      exact ⟨.pointer (some ⟨d, 0, none⟩), wanted_free rfl, by simp [execOp, go_sem, h0, cc], rfl⟩
    refine OweAllC.cons (owesC_val 1 (by decide +kernel) (by decide) rfl rfl fun k' a w1 x hk ha hG hV => ?_) ?_
    · skip
      have h4 : a.tmps.getD 4 undef = .pointer (some ⟨d, 0, none⟩) := hV.get 4 (by decide +kernel)
      exact ⟨.pointer (some ⟨d, 0, none⟩), wanted_free rfl, by simp [execOp, go_sem, h4], rfl⟩
    refine OweAllC.cons (owesC_val 1 (by decide +kernel) (by decide) rfl rfl fun k' a w1 x hk ha hG hV => ?_) ?_
    · skip
      have h5 : a.tmps.getD 5 undef = .pointer (some ⟨d, 0, none⟩) := hV.get 5 (by decide +kernel)
      exact ⟨.pointer (some ⟨d, 1, none⟩), wanted_free rfl, by simp [execOp, go_sem, h5], rfl⟩
    refine OweAllC.cons (owesC_val 1 (by decide +kernel) (by decide) rfl rfl fun k' a w1 x hk ha hG hV => ?_) ?_
    · skip
      have h6 : a.tmps.getD 6 undef = .pointer (some ⟨d, 1, none⟩) := hV.get 6 (by decide +kernel)
      have hb := hG.1
      have cc := CM.out w1 hb
      exact ⟨.map (some b), wanted_free rfl, by simp [execOp, go_sem, h6, cc], rfl⟩
    refine OweAllC.cons (owesC_val 1 (by decide +kernel) (by decide) rfl rfl fun k' a w1 x hk ha hG hV => ?_) ?_
    · skip
      have h1 := ha.outer 1 (by decide +kernel)
      simp only [Act.eval] at h1
      have hb := hG.1
      have cc := CK.out w1 hb
      exact ⟨.string ⟨k.toArray⟩, wanted_free rfl, by simp [execOp, go_sem, h1, cc], rfl⟩
    refine OweAllC.cons (owesC_val 1 (by decide +kernel) (by decide) rfl rfl fun k' a w1 x hk ha hG hV => ?_) ?_
    · skip
      have h7 : a.tmps.getD 7 undef = .map (some b) := hV.get 7 (by decide +kernel)
      have h8 : a.tmps.getD 8 undef = .string ⟨k.toArray⟩ := hV.get 8 (by decide +kernel)
      have hb := hG.1
      have cc := CL.out w1 hb
      exact ⟨.agg #[.slice p n c, .int .i64 sy], wanted_free rfl, by simp [execOp, go_sem, h7, h8, cc], rfl⟩
    refine OweAllC.cons (owesC_mem 0 rfl rfl rfl fun a w1 x ha hG hx hV => ?_) ?_
    · skip
      obtain rfl := hG.2.1 rfl
      refine ⟨.pointer (some ⟨w.heap.size, 0, none⟩), w.drew.alloc (.cells #[.slice none 0 0, .int .i64 0] 62), wanted_free rfl, by simp [execOp, go_sem, HZ.out], rfl, hG.1.alloc (Nat.le_refl _) _, (fun h => absurd h (by omega)), fun _ => rfl, (fun h => absurd h (by omega))⟩
    refine OweAllC.cons (owesC_store 1 rfl rfl rfl fun a w1 x ha hG hx hV => ?_) ?_
    · skip
      have h3 : a.tmps.getD 3 undef = .pointer (some ⟨w.heap.size, 0, none⟩) := hV.get 3 (by decide +kernel)
      have h9 : a.tmps.getD 9 undef = .agg #[.slice p n c, .int .i64 sy] := hV.get 9 (by decide +kernel)
      obtain rfl := hG.2.2.1 rfl
      refine ⟨(w.drew.alloc (.cells #[.slice none 0 0, .int .i64 0] 62)).setRow w.heap.size #[.slice p n c, .int .i64 sy], wanted_free rfl, exec_store_row 62 (.tmp 3) (.tmp 9) rfl w.heap.size h3 62 _ _ h9 (heap_alloc_new w.drew (.cells #[.slice none 0 0, .int .i64 0] 62)) rfl HI.out HV.out, ?_, (fun h => absurd h (by omega)), (fun h => absurd h (by omega)), fun _ => rfl⟩
      exact ((((Mod.refl (fun _ => False) w).drew.alloc _).setRow (g := w.heap.size) _).to_below (Nat.le_refl _) (by rintro k hk (h | h); exact h; omega))
    exact OweAllC.nil
    ) ?_
  intro f wz xz hG hx hv
  have e3 : f 3 = .pointer (some ⟨w.heap.size, 0, none⟩) := hv 6 _ 3 rfl rfl
  first | (rename_i hK; refine hK _ _ ?_; clear hK) | (rename_i hK _; refine hK _ _ ?_; clear hK) | (rename_i hK _ _; refine hK _ _ ?_; clear hK) | (rename_i hK _ _ _; refine hK _ _ ?_; clear hK)
  clear hv hx
  simp only [dsts, puts, List.filterMap_cons, List.filterMap_nil, List.foldl_cons, List.foldl_nil, Act.put, List.setIfInBounds_toArray, List.set_cons_succ, List.set_cons_zero, e3]
  clear e3
  obtain ⟨hB1, _, _, hE1⟩ := hG
  have hW1 := hE1 rfl
  have hrow : wz.heap[w.heap.size]? = some (.cells #[.slice p n c, .int .i64 sy] 62 (0, 0)) := by rw [hW1]; exact setRow_heap (w.drew.alloc (.cells #[.slice none 0 0, .int .i64 0] 62)) w.heap.size _ _ 62 (0, 0) (heap_alloc_new _ _)
  have HB1 := Lib.hid hB1
  have HRW := Lib.hid hrow
  clear hE1 hW1 hB1 hrow HG0
  generalize hgw : w.heap.size = g at *
  have HGW := Lib.hid hgw
  clear hgw
  obtain ⟨W1, hW1⟩ : ∃ W1, W1 = wz := ⟨_, rfl⟩
  rw [← hW1]
  rw [← hW1] at HB1 HRW
  clear hW1
  have CD0 := CD
  have CK0 := CK
  have CM0 := CM
  clear CD CK CM
  have hle : ∀ w1, Below W1.heap.size W1 w1 → Below g w w1 := fun w1 hb => HB1.out.trans (hb.mono (by have := HB1.out.size; have := HGW.out; omega))
  have CD : Hid (∀ w1, Below W1.heap.size W1 w1 → w1.cell? ⟨gd, 0, none⟩ = some (.pointer (some ⟨d, 0, none⟩))) := Lib.hid (fun w1 hb => CD0.out w1 (hle w1 hb))
  have CK : Hid (∀ w1, Below W1.heap.size W1 w1 → w1.cell? ⟨gk, 0, none⟩ = some (.string ⟨k.toArray⟩)) := Lib.hid (fun w1 hb => CK0.out w1 (hle w1 hb))
  have CM : Hid (∀ w1, Below W1.heap.size W1 w1 → w1.cell? ⟨d, 1, none⟩ = some (.map (some b))) := Lib.hid (fun w1 hb => CM0.out w1 (hle w1 hb))
  have HS := Lib.hid (fun w1 hb => HSD.out w1 (hle w1 hb))
  have HLE := Lib.hid hle
  have HG0 : Hid ((fun (j : Nat) (_ : Value) (w' : World) => (j = 0 → Below W1.heap.size W1 w') ∧ (j = 1 → ∃ w1, Below W1.heap.size W1 w1 ∧ DK w' d b { S with X := wo k S.X } (woF k L) ∧ Mod (fun i => i = b) w1 w')) 0 undef W1.drew) := Lib.hid ⟨fun _ => (Below.refl _ W1).drew, (fun h => absurd h (by omega))⟩
  clear hle CD0 CK0 CM0 CL HZ HI HV
  go_upto_region 1 with fail
  refine wp_region_chain (fun t v => match t with
    | 10 => v = .pointer (some ⟨d, 0, none⟩)
    | 11 => v = .pointer (some ⟨d, 0, none⟩)
    | 12 => v = .pointer (some ⟨d, 1, none⟩)
    | 13 => v = .map (some b)
    | 14 => v = .string ⟨k.toArray⟩
    | _ => True) (fun (j : Nat) (_ : Value) (w' : World) => (j = 0 → Below W1.heap.size W1 w') ∧ (j = 1 → ∃ w1, Below W1.heap.size W1 w1 ∧ DK w' d b { S with X := wo k S.X } (woF k L) ∧ Mod (fun i => i = b) w1 w')) [5] 19 (by kernel_rfl) (by decide +kernel) rfl (by decide +kernel) (by decide) (by decide) HG0.out (by
    refine OweAllC.cons (owesC_val 0 (by decide +kernel) (by decide) rfl rfl fun k' a w1 x hk ha hG hV => ?_) ?_
    · skip
      have h0 := ha.outer 0 (by decide +kernel)
      simp only [Act.eval] at h0
      have hb := hG.1 (by omega)
      have cc := CD.out w1 hb
      exact ⟨.pointer (some ⟨d, 0, none⟩), wanted_free rfl, by simp [execOp, go_sem, h0, cc], rfl⟩
    refine OweAllC.cons (owesC_val 0 (by decide +kernel) (by decide) rfl rfl fun k' a w1 x hk ha hG hV => ?_) ?_
    · skip
      have h10 : a.tmps.getD 10 undef = .pointer (some ⟨d, 0, none⟩) := hV.get 10 (by decide +kernel)
      exact ⟨.pointer (some ⟨d, 0, none⟩), wanted_free rfl, by simp [execOp, go_sem, h10], rfl⟩
    refine OweAllC.cons (owesC_val 0 (by decide +kernel) (by decide) rfl rfl fun k' a w1 x hk ha hG hV => ?_) ?_
    · skip
      have h11 : a.tmps.getD 11 undef = .pointer (some ⟨d, 0, none⟩) := hV.get 11 (by decide +kernel)
      exact ⟨.pointer (some ⟨d, 1, none⟩), wanted_free rfl, by simp [execOp, go_sem, h11], rfl⟩
    refine OweAllC.cons (owesC_val 0 (by decide +kernel) (by decide) rfl rfl fun k' a w1 x hk ha hG hV => ?_) ?_
    · skip
      have h12 : a.tmps.getD 12 undef = .pointer (some ⟨d, 1, none⟩) := hV.get 12 (by decide +kernel)
      have hb := hG.1 (by omega)
      have cc := CM.out w1 hb
      exact ⟨.map (some b), wanted_free rfl, by simp [execOp, go_sem, h12, cc], rfl⟩
    refine OweAllC.cons (owesC_val 0 (by decide +kernel) (by decide) rfl rfl fun k' a w1 x hk ha hG hV => ?_) ?_
    · skip
      have h1 := ha.outer 1 (by decide +kernel)
      simp only [Act.eval] at h1
      have hb := hG.1 (by omega)
      have cc := CK.out w1 hb
      exact ⟨.string ⟨k.toArray⟩, wanted_free rfl, by simp [execOp, go_sem, h1, cc], rfl⟩
    refine OweAllC.cons (owesC_eff 0 rfl rfl rfl fun a w1 x ha hG hx hV => ?_) ?_
    · skip
      have h13 : a.tmps.getD 13 undef = .map (some b) := hV.get 13 (by decide +kernel)
      have h14 : a.tmps.getD 14 undef = .string ⟨k.toArray⟩ := hV.get 14 (by decide +kernel)
      have hb := hG.1 (by omega)
      obtain ⟨w2, hr, hm, hmd⟩ := HS.out w1 hb
      exact ⟨.tuple #[], w2, wanted_free rfl, by simp [go_sem, h13, h14, hr], (fun h => absurd h (by omega)), fun _ => ⟨w1, hb, hm, hmd⟩⟩
    exact OweAllC.nil
    ) ?_
  intro f W2 xz hG hx hv
  first | (rename_i hK; refine hK _ _ ?_; clear hK) | (rename_i hK _; refine hK _ _ ?_; clear hK) | (rename_i hK _ _; refine hK _ _ ?_; clear hK) | (rename_i hK _ _ _; refine hK _ _ ?_; clear hK)
  clear hv hx
  simp only [dsts, puts, List.filterMap_cons, List.filterMap_nil, List.foldl_cons, List.foldl_nil, Act.put, List.setIfInBounds_toArray, List.set_cons_succ, List.set_cons_zero]
  obtain ⟨w5, hb5, hD5, hm5⟩ := hG.2 rfl
  have hbw := HLE.out w5 hb5
  have hgl := (Array.getElem?_eq_some_iff.1 HRW.out).1
  have hr5 : W2.heap[g]? = some (.cells #[.slice p n c, .int .i64 sy] 62 (0, 0)) := (hm5.block g (Nat.lt_of_lt_of_le hgl hb5.size) (by have := HB.out.2.2; have := HGW.out; omega)).trans ((hb5.block g hgl).trans HRW.out)
  have c5d := ((bd.old (by rw [HGW.out]; exact hbw)).kept hm5 (fun e => ng gd (.inl rfl) (e ▸ HB.out.2.1))).cell
  have c5s := ((bs.old (by rw [HGW.out]; exact hbw)).kept hm5 (fun e => ng gs (.inr (.inr rfl)) (e ▸ HB.out.2.1))).cell
  have c50 : W2.cell? ⟨g, 0, none⟩ = some (.slice p n c) := by unfold World.cell?; rw [hr5]; rfl
  have c51 : W2.cell? ⟨g, 1, none⟩ = some (.int .i64 sy) := by unfold World.cell?; rw [hr5]; rfl
  have HPUT := Lib.hid (HP.out w5 _ hbw hD5 hm5)
  clear hG hm5 hD5 hbw hb5 hr5 HS HSD HG0
  go_wp2_with fail
  refine HPUT.out.mono ?_
  rintro r w6 ⟨rfl, hE⟩
  have HE := Lib.hid hE
  clear hE
  go_wp2_with fail
  go_end0
  exact ⟨rfl, HE.out⟩
end Go.Proofs.Ytpbcglepecojmaa

namespace Go.Proofs.Ytpbcglepecojmaa
open Go.RowKit Go.Sort Go.Maps

theorem keyed9 : Keyed Try.prog 9 := string_keyed Try.underlying9
theorem rgs_same {w w' : World} {b r n cnt : Nat} {D : DataW Value} {left : Lit → Bool} (h : w.ranges Try.prog 9 RV b r n D left cnt) (hb : w'.heap[b]? = w.heap[b]?) (hr : w'.heap[r]? = w.heap[r]?) : w'.ranges Try.prog 9 RV b r n D left cnt := by
  obtain ⟨es, clock, since, seen, c0, h1, h2, h3, h4, h5, h6⟩ := h
  exact ⟨es, clock, since, seen, c0, hb.trans h1, h2, h3, h4, hr.trans h5, h6⟩
theorem fiX_self {X : List FX} (h : SrtX X) {x : FX} (hx : x ∈ X) : fiX x.1 X = x := by
  have hp := srt_ne h
  unfold fiX
  have : ∀ {A : List FX}, A.Pairwise (fun x y => x.1 ≠ y.1) → x ∈ A → A.find? (fun y => y.1 == x.1) = some x := by
    intro A
    induction A with
    | nil => intro _ hx; cases hx
    | cons y l ih =>
      intro h hx
      obtain ⟨h1, h2⟩ := List.pairwise_cons.1 h
      rcases List.mem_cons.1 hx with rfl | hx
      · rw [List.find?_cons_of_pos (by simp)]
      · rw [List.find?_cons_of_neg (by have := h1 x hx; simpa using this)]
        exact ih h2 hx
  rw [this hp hx]
theorem fiX_none {X : List FX} {k : List UInt8} (h : hasX k X = false) : fiX k X = (k, [], 0) := by
  unfold fiX
  have : X.find? (fun x => x.1 == k) = none := by
    rw [List.find?_eq_none]
    intro x hx e
    unfold hasX at h
    rw [List.any_eq_false] at h
    exact h x hx e
  rw [this]
theorem fiX_key (k : List UInt8) (X : List FX) : (fiX k X).1 = k := by
  unfold fiX
  cases h : X.find? (fun x => x.1 == k) with
  | none => rfl
  | some x => have := List.find?_some h; simpa using this
theorem fiX_mem {X : List FX} {k : List UInt8} (h : hasX k X = true) : fiX k X ∈ X := by
  unfold fiX
  cases hf : X.find? (fun x => x.1 == k) with
  | none =>
    rw [List.find?_eq_none] at hf
    unfold hasX at h
    rw [List.any_eq_true] at h
    obtain ⟨x, hx, e⟩ := h
    exact absurd e (hf x hx)
  | some x => exact List.mem_of_find?_eq_some hf
theorem fiX_len {X : List FX} {B : Nat} (hu : ∀ x ∈ X, x.2.1.length ≤ B) (k : List UInt8) : (fiX k X).2.1.length ≤ B := by
  cases h : hasX k X with
  | true => exact hu _ (fiX_mem h)
  | false => rw [fiX_none h]; simp
theorem map_fiX {X : List FX} (h : SrtX X) : (X.map fun x => fiX x.1 X) = X := by
  have : ∀ A : List FX, (∀ x ∈ A, x ∈ X) → (A.map fun x => fiX x.1 X) = A := by
    intro A
    induction A with
    | nil => intro _; rfl
    | cons x l ih => intro hA; rw [List.map_cons, fiX_self h (hA x (List.mem_cons_self ..)), ih (fun y hy => hA y (List.mem_cons_of_mem _ hy))]
  exact this X (fun _ hx => hx)
theorem usedX_app (A B : List FX) : usedX (A ++ B) = usedX A + usedX B := by
  induction A with
  | nil => simp [usedX]
  | cons x l ih => simp only [List.cons_append, usedX, ih]; omega
theorem usedX_le {X : List FX} {B : Nat} (hu : ∀ x ∈ X, x.2.1.length ≤ B) : usedX X ≤ X.length * B := by
  induction X with
  | nil => simp [usedX]
  | cons x l ih =>
    have h1 := hu x (List.mem_cons_self ..)
    have h2 := ih (fun y hy => hu y (List.mem_cons_of_mem _ hy))
    simp only [usedX, List.length_cons, Nat.add_mul]
    omega
/-- A loop over the disk's map. -/
structure RngD (w wr : World) (b ri : Nat) (L : List Fl) (left : Lit → Bool) (cnt : Nat) (ks : List (List UInt8)) : Prop where
  rg : wr.ranges Try.prog 9 RV b ri L.length (dOf (L.map entD)) left cnt
  co : Collected (dOf (L.map entD)) left ks
  le : ks.length + cnt ≤ L.length
  m : Below w.heap.size w wr
section
variable {w : World} {d b : Nat} {S : St} {L : List Fl}
theorem DK.keys (h : DK w d b S L) {wr : World} {ri n cnt : Nat} {left : Lit → Bool} {ks : List (List UInt8)} (co : Collected (dOf (L.map entD)) left ks) (rg : wr.ranges Try.prog 9 RV b ri n (dOf (L.map entD)) left cnt) (hl : ∀ kl, left kl = false) : ks.Perm (S.X.map (·.1)) := by
  have hp := co.perm rg.owns keyed9 Try.underlying9 hl
  refine hp.trans ((strKeys_dOf _).trans ?_)
  rw [List.map_map]
  have := h.pm.map (·.1)
  rw [List.map_map] at this
  exact this
theorem DK.val (h : DK w d b S L) {x : List UInt8} {v : Value} (hat : ∀ zd, (dOf (L.map entD)).atKey (.string x) zd = .held v) : v = (atF x L).v ∧ hasX x S.X = true := by
  have h1 := hat (.held (noFl x).v)
  rw [atKey_dOf h.map.ap, get_entD] at h1
  refine ⟨by injection h1 with h1; exact h1.symm, ?_⟩
  have hh := Maps.has_true_of_atKey hat
  rw [has_dOf, has_entD, hasL_eq h] at hh
  exact hh
end
set_option maxRecDepth 20000 in
set_option maxHeartbeats 2000000 in
theorem dkused_any {w : World} {d : Nat} {S : St} {F : Nat → Prop} (h : DA w d S F) (hn : S.X.length ≤ 1000000) (hu : ∀ x ∈ S.X, x.2.1.length ≤ 2000000000) :
    Calls Try.prog 24 #[.pointer (some ⟨d, 0, none⟩)] w fun e w' => e = .returned (.int .i64 (usedX S.X : Nat)) ∧ Below w.heap.size w w' := by
  obtain ⟨b, L, h, _, _⟩ := h
  have c1 := h.c1
  have hown := h.map.own
  rw [List.length_map] at hown
  have hnl : L.length ≤ 1000000 := by rw [h.len]; exact hn
  have HE : Hid (∀ wr ri cnt left ks, RngD w wr b ri L left cnt ks → (∀ kl, left kl = false) → usedX (ks.map fun k => fiX k S.X) = usedX S.X) := Lib.hid (by
    intro wr ri cnt left ks hR hl
    have hp := (h.keys hR.co hR.rg hl).map fun k => fiX k S.X
    rw [List.map_map] at hp
    rw [usedX_perm hp]
    congr 1
    exact map_fiX h.so)
  have HV : Hid (∀ x v, (∀ zd, (dOf (L.map entD)).atKey (.string x) zd = .held v) → ∃ p n c sy, v = .agg #[.slice p n c, .int .i64 sy] ∧ n = (fiX x S.X).2.1.length ∧ n ≤ 2000000000) := Lib.hid (by
    intro x v hat
    obtain ⟨rfl, _⟩ := h.val hat
    refine ⟨_, _, _, _, rfl, ?_, ?_⟩
    · rw [← atF_x h]; rfl
    · have := fiX_len hu x; rw [← atF_x h] at this; exact this)
  have HU : Hid (∀ ks : List (List UInt8), usedX (ks.map fun k => fiX k S.X) ≤ ks.length * 2000000000) := Lib.hid (by
    intro ks
    have := usedX_le (X := ks.map fun k => fiX k S.X) (B := 2000000000) (by intro y hy; obtain ⟨k, _, rfl⟩ := List.mem_map.1 hy; exact fiX_len hu k)
    rwa [List.length_map] at this)
  have HNL := Lib.hid hnl
  have HI : Hid ((Try.prog.info? 62).map (·.size) = some 2) := Lib.hid (by kernel_rfl)
  have HBL := Lib.hid h.map.lt
  clear h hn hu hnl
  go_enter Try.func24, Try.ntmps24
  go_wp2_with (first
    | (at_range; refine wpList_range_own _ rfl _ 58 rfl 9 62 keyed9 Try.underlying58 _ b L.length _ rfl hown ?_; intro w0 hrg0 hg0 hs0)
    | go_in)
  go_frame
  have HK0 : Hid (RngD w w0 b w.heap.size L (Maps.has (dOf (L.map entD))) (Maps.size (dOf (L.map entD))) []) := Lib.hid
    ⟨hrg0, Collected.start _, by rw [size_dOf]; simp, (Below.refl _ w).grown hg0 (by simp) (fun j hj => by cases hj)⟩
  clear hrg0 hg0 hs0 hown c1
  generalize hri : w.heap.size = ri at HK0 HBL ⊢
  have HRI := Lib.hid hri
  clear hri
  go_loopw [3, 5] (fun s3 _ wr => ∃ n : Nat, s3 = .int .i64 (n : Int) ∧ Hid (∃ left cnt ks, n = usedX (ks.map fun k => fiX k S.X) ∧ RngD w wr b ri L left cnt ks)) (fun _ _ wr => wr.rangeLeft b ri)
  case atStart => exact ⟨0, rfl, Lib.hid ⟨_, _, [], rfl, HK0.out⟩⟩
  case round =>
    obtain ⟨n, rfl, hR⟩ := hrel
    obtain ⟨left, cnt, ks, hn, hR⟩ := hR.out
    have hrg := hR.rg
    have HR := Lib.hid hR
    have HNN := Lib.hid hn
    clear hR hn HK0
    go_wp2_with (first
      | (at_next; refine wpList_next_ranges _ rfl _ rfl 9 keyed9 RV encStr (fun v : Value => v) (fun key kl hk => by obtain ⟨x, hx, _⟩ := Maps.keyOf_str Try.underlying9 hk; exact ⟨x, hx⟩) (fun v y hv => ⟨v, rfl⟩) b ri L.length _ _ _ rfl hrg ?_ ?_)
      | go_in)
    · intro hc0 hl0
      have hfin := HE.out wr ri cnt left ks HR.out hl0
      rw [← HNN.out] at hfin
      have HB := Lib.hid HR.out.m
      subst hfin
      clear hrg hl0 hc0
      go_wp2_with fail
      go_ret
      exact ⟨rfl, HB.out⟩
    · intro x v kl yd yp w1 cnt1 hkey hlk hv hv2 hat hrg1 hlt hg1 hs1 hen
      obtain ⟨x', ex, rfl, _⟩ := Maps.keyOf_str Try.underlying9 hkey
      obtain rfl : x = x' := encStr_inj ex
      subst hv
      obtain ⟨p, m, c, sy, rfl, hm1, hm2⟩ := HV.out x v hat
      have HC1 := Lib.hid (HR.out.co.step hlk hat)
      have hb1 : Below w.heap.size w w1 := HR.out.m.grown hg1 HR.out.m.size (fun j e => by cases e; have := HRI.out; omega)
      have hrl := hrg1.lt
      have hsum : usedX ((ks ++ [x]).map fun k => fiX k S.X) = n + m := by rw [List.map_append, usedX_app, ← HNN.out, hm1]; simp [usedX]
      have hbnd : n + m ≤ 3000000000000000 := by
        have h1 := HU.out (ks ++ [x])
        rw [hsum] at h1
        have h2 := HR.out.le
        have h3 := HNL.out
        rw [List.length_append, List.length_singleton, Nat.add_mul] at h1
        have h4 : ks.length * 2000000000 ≤ 1000000 * 2000000000 := Nat.mul_le_mul_right _ (by omega)
        omega
      have hwr : IntKind.i64.wrap ((n : Int) + (m : Int)) = (n + m : Nat) := by rw [IntKind.wrap_i64]; omega
      have hr1 : (w1.alloc (.cells #[.slice none 0 0, .int .i64 0] 62)).heap[w1.heap.size]? = some (.cells #[.slice none 0 0, .int .i64 0] 62 (0, 0)) := heap_alloc_new _ _
      have hV : ∀ u ∈ (#[.slice p m c, .int .i64 sy] : Array Value).toList, u.oneCell' = true := by intro u hu; simp at hu; rcases hu with rfl | rfl <;> rfl
      have HSUM := Lib.hid hsum
      have HRG := Lib.hid hrg1
      have HB1 := Lib.hid hb1
      have HLT := Lib.hid hlt
      have HRL := Lib.hid hrl
      have HOLD := Lib.hid hrg
      have HI2 := HI.out
      clear hkey hlk hv2 hat hrg1 hlt hg1 hs1 ex hrg hb1 hrl hsum hm1 hm2 hbnd
      go_upto_region 5 with (refine wpList_store_row rfl rfl 62 (.tmp 5) (.tmp 14) rfl w1.heap.size rfl 62 _ #[.slice p m c, .int .i64 sy] rfl hr1 rfl HI2 hV ?_)
      obtain ⟨W, hW⟩ : ∃ W, W = (w1.alloc (.cells #[.slice none 0 0, .int .i64 0] 62)).setRow w1.heap.size #[.slice p m c, .int .i64 sy] := ⟨_, rfl⟩
      have hbW : Below w1.heap.size w1 W := by rw [hW]; exact (((Mod.refl (fun _ => False) w1).alloc _).setRow (g := w1.heap.size) _).to_below (Nat.le_refl _) (by rintro k hk (h | h); exact h; omega)
      have hcW : W.cell? ⟨w1.heap.size, 0, none⟩ = some (.slice p m c) := by rw [hW]; unfold World.cell?; rw [setRow_heap _ _ _ _ 62 (0, 0) hr1]; rfl
      rw [← hW]
      have HBW := Lib.hid hbW
      clear hW hbW hr1 hV
      go_wp2_with fail
      go_roundw
      case rel =>
        have hK : RngD w W b ri L (fun z => left z && !z.sameKey (.string x)) cnt1 (ks ++ [x]) → ∃ n' : Nat, Value.int .i64 ((n + m : Nat) : Int) = .int .i64 (n' : Int) ∧ Hid (∃ left cnt ks, n' = usedX (ks.map fun k => fiX k S.X) ∧ RngD w W b ri L left cnt ks) :=
          fun h => ⟨n + m, rfl, Lib.hid ⟨_, cnt1, ks ++ [x], HSUM.out.symm, h⟩⟩
        exact hK ⟨rgs_same HRG.out (HBW.out.block b (by have := HBL.out; have := HRL.out; omega)) (HBW.out.block ri HRL.out), HC1.out, by have := HR.out.le; have := HLT.out; rw [List.length_append]; simp; omega, HB1.out.trans (HBW.out.mono HB1.out.size)⟩
      case measure =>
        rw [(rgs_same HRG.out (HBW.out.block b (by have := HBL.out; have := HRL.out; omega)) (HBW.out.block ri HRL.out)).left_eq, HOLD.out.left_eq]
        exact HLT.out
end Go.Proofs.Ytpbcglepecojmaa
