/- The law HeaderUnlike. -/
import Derived.Test.YtkejidmomnmdbaaDoorH17
import Derived.Test.YtkejidmomnmdbaaDoorOwe2
namespace Go.Proofs.YtkejidmomnmdbaaDoor
open Go.RowKit

theorem wpList_load_rowG {P : Program} {ops : Array Oper} {rest : List Oper} {o : Oper} {a : Act} {w : World} {Q : Exit → Act → World → Prop} (hw : Region.wanted o (yielded ops a.tmps) = true) (ty : TypeId) (x : Operand) (ho : o.op = .load ty x)
    (g : Nat) (hx : a.eval x = .pointer (some ⟨g, 0, none⟩)) (t : TypeId) (cs : Array Value) (fr : Nat × Nat) (d : TypeDesc) (hg : w.heap[g]? = some (.cells cs t fr))
    (hu : P.underlying ty = some d) (hd : (match d with | .struct _ | .array _ _ => true | _ => false) = true) (hi : (P.info? ty).map (·.size) = some cs.size)
    (h : wpList P ops Q rest (a.put o.dst (.agg cs)) w) : wpList P ops Q (o :: rest) a w :=
  wpList_step fun _ hK => by rw [if_pos hw]; exact wp_load_row ty x ho g hx t cs fr d hg hu hd hi (hK _ _ h)
theorem HOkay.own {h : Hd (List UInt8)} (ok : HOkay h) : HOkay (ownH h) := by
  obtain ⟨h1, h2, h3, h4, h5, h6, h7⟩ := ok
  exact ⟨h1, h2, h3, h4, h5, by simpa [ownH] using h6, h7⟩
theorem hbytes_inj (a b : Hd Nm) (ha : HOkay a) (hb : HOkay b) (h : hbytes (·.1) a = hbytes (·.1) b) : a = b := by
  have h1 := takeS_back a ha
  rw [h, takeS_back b hb] at h1
  exact (congrArg (·.1) h1).symm
/-- x, y = Few(x), Few(y). -/
theorem exec_store_row {P : Program} {o : Oper} {a : Act} {w : World} (ty : TypeId) (x y : Operand) (ho : o.op = .store ty x y)
    (g : Nat) (hx : a.eval x = .pointer (some ⟨g, 0, none⟩)) (t : TypeId) (old cs : Array Value) (hy : a.eval y = .agg cs) (hg : w.heap[g]? = some (.cells old t (0, 0))) (hsz : old.size = cs.size)
    (hi : (P.info? ty).map (·.size) = some cs.size) (h1 : ∀ v ∈ cs.toList, v.oneCell' = true) : (execOp a.eval o).run P w = .ok .skip (w.setRow g cs) := by
  have hst := run_storeCells_at P g 0 t cs.toList 0 old w hg (by simp; omega) h1
  have e : (old.toList.take (0 + 0) ++ cs.toList ++ old.toList.drop (0 + 0 + cs.toList.length)).toArray = cs := by
    have : old.toList.drop (0 + 0 + cs.toList.length) = [] := List.drop_eq_nil_of_le (by simp; omega)
    rw [this]; simp
  rw [e] at hst
  cases hq : P.info? ty with
  | none => simp [hq] at hi
  | some i =>
    have hs : i.size = cs.size := by simpa [hq] using hi
    have hv : (storeVar ty ⟨g, 0, none⟩ (.agg cs)).run P w = .ok () (w.setRow g cs) := by
      simp [storeVar, sizeOf, typeInfo, hq, hs, Value.cells, hst]
    unfold execOp
    simp only [ho, hx, hy, Instr.storeAt, Instr.sureAddr, Sem.run_bind, Sem.run_pure, Result.andThen_ok, hv]
theorem hcells_size {α : Type} (h : Hd α) (q : Option Addr) (c : Nat) : (hcells h q c).size = 7 := rfl
theorem hcells_oneA {α : Type} (h : Hd α) (q : Option Addr) (c : Nat) : ∀ v ∈ (hcells h q c).toList, v.oneCell' = true := by
  unfold hcells; intro v hv
  simp only [List.mem_cons, List.not_mem_nil, or_false] at hv
  rcases hv with rfl | rfl | rfl | rfl | rfl | rfl | rfl <;> rfl

set_option maxRecDepth 20000 in
set_option maxHeartbeats 8000000 in
theorem headerUnlike_any (X : Hd (List UInt8)) (ao : Option Addr) (cap : Nat) (Y : Hd (List UInt8)) (bo : Option Addr) (cbp : Nat) (w : World) (hX : Rd encS w ao X.ps) (kX : (X.tk.length : Int) ≤ 9223372036854775807) (hY : Rd encS w bo Y.ps) (kY : (Y.tk.length : Int) ≤ 9223372036854775807) (hT : TabAt w) :
    Calls Tryd.prog 11 #[.agg (hcells X ao cap), .agg (hcells Y bo cbp)] w fun r w' => r = .returned (.bool true) ∧ Below w.heap.size w w' := by
  have fewX : Hid (∀ w, Rd encS w ao X.ps → Calls Tryd.prog 27 #[.agg (hcells X ao cap)] w fun r w' => ∃ q c, r = .returned (.agg (hcells (fewH X) q c)) ∧ Rw encS 9 w' q c (fewH X).ps ∧ Below w.heap.size w w' ∧ ∀ a, q = some a → w.heap.size ≤ a.block) := Lib.hid (fun w h => few_any X ao cap w h kX)
  have fewY : Hid (∀ w, Rd encS w bo Y.ps → Calls Tryd.prog 27 #[.agg (hcells Y bo cbp)] w fun r w' => ∃ q c, r = .returned (.agg (hcells (fewH Y) q c)) ∧ Rw encS 9 w' q c (fewH Y).ps ∧ Below w.heap.size w w' ∧ ∀ a, q = some a → w.heap.size ≤ a.block) := Lib.hid (fun w h => few_any Y bo cbp w h kY)
  have lX : Hid ((fewH X).ps.length ≤ 7) := Lib.hid (by unfold fewH; simp only [List.length_map, List.length_take]; omega)
  have lY : Hid ((fewH Y).ps.length ≤ 7) := Lib.hid (by unfold fewH; simp only [List.length_map, List.length_take]; omega)
  obtain ⟨FX, hFX⟩ : ∃ F, F = fewH X := ⟨_, rfl⟩
  obtain ⟨FY, hFY⟩ : ∃ F, F = fewH Y := ⟨_, rfl⟩
  rw [← hFX] at fewX lX
  rw [← hFY] at fewY lY
  have HX := Lib.hid hX
  have HY := Lib.hid hY
  have sX : (hcells X ao cap).size = 7 := rfl
  have sY : (hcells Y bo cbp).size = 7 := rfl
  obtain ⟨CX, hCX⟩ : ∃ C, C = hcells X ao cap := ⟨_, rfl⟩
  obtain ⟨CY, hCY⟩ : ∃ C, C = hcells Y bo cbp := ⟨_, rfl⟩
  rw [← hCX] at fewX sX ⊢
  rw [← hCY] at fewY sY ⊢
  have qx : (Tryd.prog.info? 39).map (·.size) = some CX.size := by rw [sX]; exact rhinfo
  have qy : (Tryd.prog.info? 39).map (·.size) = some CY.size := by rw [sY]; exact rhinfo
  clear hCX hCY hFX hFY kX kY hX hY
  obtain ⟨W0, hW0⟩ : ∃ W0, W0 = (w.alloc (.cells CX 39)).alloc (.cells CY 39) := ⟨_, rfl⟩
  have b0 : Below w.heap.size w W0 := by rw [hW0]; exact ((Below.refl _ w).alloc (Nat.le_refl _) _).alloc (by simp) _
  have bx2 : W0.heap[w.heap.size]? = some (.cells CX 39 (0, 0)) := by rw [hW0, Below.heap_alloc _ _ _ (by simp)]; exact heap_alloc_new w _
  have bx3 : W0.heap[w.heap.size + 1]? = some (.cells CY 39 (0, 0)) := by rw [hW0]; have := heap_alloc_new (w.alloc (.cells CX 39)) (.cells CY 39); simpa using this
  have hT0 := hT.old b0
  have B0 := Lib.hid b0
  have BX2 := Lib.hid bx2
  have BX3 := Lib.hid bx3
  have HT := Lib.hid hT
  have HW0 := Lib.hid hW0
  clear b0 bx2 bx3 hW0 hT
  go_enter Tryd.func11, Tryd.ntmps11
  go_wp2_with fail
  rw [← HW0.out]
  refine (awake05_any W0 hT0).mono ?_
  rintro r w1 ⟨rfl, hb1⟩
  have B1 := Lib.hid (B0.out.trans (hb1.mono B0.out.size))
  have bx2 := (hb1.block _ (Array.getElem?_eq_some_iff.1 BX2.out).1).trans BX2.out
  have bx3 := (hb1.block _ (Array.getElem?_eq_some_iff.1 BX3.out).1).trans BX3.out
  clear hb1 hT0 BX2 BX3
  go_wp2_with fail
  -- region 3
  have hg3 : w.heap.size + 1 < w1.heap.size := (Array.getElem?_eq_some_iff.1 bx3).1
  obtain ⟨g2, hg2⟩ : ∃ g, g = w.heap.size := ⟨_, rfl⟩
  rw [← hg2] at bx2 bx3 hg3 ⊢
  have HG0 : Hid (G3 w1 g2 (g2 + 1) w1.heap.size CX CY FX FY 0 w1.drew) := Lib.hid ⟨(Mod.refl _ w1).drew, fun _ => bx2, fun _ => bx3, fun h => absurd h (by omega), fun h => absurd h (by omega)⟩
  have RX : Hid (∀ w', Mod (fun i => i = g2 ∨ i = g2 + 1) w1 w' → Rd encS w' ao X.ps) := Lib.hid (fun w' hm => by
    intro j hj
    obtain ⟨bs, off, e, hlt, hc⟩ := HX.out j hj
    have hlt1 := Nat.lt_of_lt_of_le hlt B1.out.size
    exact ⟨bs, off, e, Nat.lt_of_lt_of_le hlt1 hm.size, fun i u hu => (World.cell?_of_block ((hm.block bs hlt1 (by omega)).trans (B1.out.block bs hlt))).trans (hc i u hu)⟩)
  have RY : Hid (∀ w', Mod (fun i => i = g2 ∨ i = g2 + 1) w1 w' → Rd encS w' bo Y.ps) := Lib.hid (fun w' hm => by
    intro j hj
    obtain ⟨bs, off, e, hlt, hc⟩ := HY.out j hj
    have hlt1 := Nat.lt_of_lt_of_le hlt B1.out.size
    exact ⟨bs, off, e, Nat.lt_of_lt_of_le hlt1 hm.size, fun i u hu => (World.cell?_of_block ((hm.block bs hlt1 (by omega)).trans (B1.out.block bs hlt))).trans (hc i u hu)⟩)
  have Hg3 := Lib.hid hg3
  have Hg2 := Lib.hid hg2
  clear bx2 bx3 hg2 hg3
  refine CW.wp_region_chain (V3 CX CY FX FY w1.heap.size) (fun j _ w' => G3 w1 g2 (g2 + 1) w1.heap.size CX CY FX FY j w') [1, 3, 4, 5] 47 (by kernel_rfl) (by decide +kernel) rfl (by decide +kernel) (by decide) (by decide) HG0.out (by
    refine CW.OweAllC.cons (CW.owesC_val 0 (by decide +kernel) (by decide) rfl rfl fun k' a w2 x hk ha hG hV => ?_) ?_
    · have h2 := ha.outer 2 (by decide +kernel)
      simp only [Act.eval] at h2
      exact ⟨.agg CX, wanted_free rfl, exec_load_row 39 (.tmp 2) rfl g2 h2 39 CX (0, 0) _ (hG.b2 (by omega)) Tryd.underlying39 rfl qx, rfl⟩
    refine CW.OweAllC.cons (CW.owesC_call 0 rfl rfl rfl 27 fun a w2 x ha hG hx hV => ?_) ?_
    · have h10 : a.tmps.getD 10 undef = .agg CX := hV.get 10 (by decide +kernel)
      refine ⟨#[.agg CX], wanted_free rfl, by simp [execOp, resolve, invoke, go_sem, h10], ?_⟩
      refine (fewX.out w2 (RX.out w2 hG.m)).mono ?_
      rintro r u2 ⟨q, c, rfl, hR, hb, hfr⟩
      exact ⟨_, rfl, ⟨q, c, rfl, hR.rd, fun a e => Nat.le_trans hG.m.size (hfr a e)⟩, hG.grow (by omega) hb, V3.keep ((Mod.of_below hb).mono (fun i hi h => by have := hG.m.size; omega))⟩
    refine CW.OweAllC.cons (CW.owesC_val 1 (by decide +kernel) (by decide) rfl rfl fun k' a w2 x hk ha hG hV => ?_) ?_
    · have h3 := ha.outer 3 (by decide +kernel)
      simp only [Act.eval] at h3
      exact ⟨.agg CY, wanted_free rfl, exec_load_row 39 (.tmp 3) rfl (g2 + 1) h3 39 CY (0, 0) _ (hG.b3 (by omega)) Tryd.underlying39 rfl qy, rfl⟩
    refine CW.OweAllC.cons (CW.owesC_call 1 rfl rfl rfl 27 fun a w2 x ha hG hx hV => ?_) ?_
    · have h12 : a.tmps.getD 12 undef = .agg CY := hV.get 12 (by decide +kernel)
      refine ⟨#[.agg CY], wanted_free rfl, by simp [execOp, resolve, invoke, go_sem, h12], ?_⟩
      refine (fewY.out w2 (RY.out w2 hG.m)).mono ?_
      rintro r u2 ⟨q, c, rfl, hR, hb, hfr⟩
      exact ⟨_, rfl, ⟨q, c, rfl, hR.rd, fun a e => Nat.le_trans hG.m.size (hfr a e)⟩, hG.grow (by omega) hb, V3.keep ((Mod.of_below hb).mono (fun i hi h => by have := hG.m.size; omega))⟩
    refine CW.OweAllC.cons (CW.owesC_store 2 rfl rfl rfl fun a w2 x ha hG hx hV => ?_) ?_
    · have h2 := ha.outer 2 (by decide +kernel)
      simp only [Act.eval] at h2
      obtain ⟨q, c, e11, hR, hf⟩ : HV FX w1.heap.size (a.tmps.getD 11 undef) w2 := hV.get 11 (by decide +kernel)
      have hbx := hG.b2 (by omega)
      have hm : Mod (fun i => i = g2) w2 (w2.setRow g2 (hcells FX q c)) := ((Mod.refl (fun _ => False) w2).setRow _).mono (fun i _ h => h.elim (fun h => h.elim) id)
      have hlo := Hg3.out
      refine ⟨w2.setRow g2 (hcells FX q c), wanted_free rfl, exec_store_row 39 (.tmp 2) (.tmp 11) rfl g2 h2 39 CX _ e11 hbx (by rw [sX]; rfl) rhinfo (hcells_oneA _ _ _), ?_, V3.keep (hm.mono (fun i _ h => by omega))⟩
      exact ⟨hG.m.trans hm (fun i _ h => Or.inl h), fun h => absurd h (by omega), fun _ => (setRow_other w2 _ _ _ (by omega)).trans (hG.b3 (by omega)), fun _ => ⟨q, c, setRow_heap _ _ _ _ _ _ hbx, hR.mod hm (fun a e h => by have := hf a e; omega), hf⟩, fun h => absurd h (by omega)⟩
    refine CW.OweAllC.cons (CW.owesC_store 3 rfl rfl rfl fun a w2 x ha hG hx hV => ?_) ?_
    · have h3 := ha.outer 3 (by decide +kernel)
      simp only [Act.eval] at h3
      obtain ⟨q, c, e13, hR, hf⟩ : HV FY w1.heap.size (a.tmps.getD 13 undef) w2 := hV.get 13 (by decide +kernel)
      have hbx := hG.b3 (by omega)
      have hm : Mod (fun i => i = g2 + 1) w2 (w2.setRow (g2 + 1) (hcells FY q c)) := ((Mod.refl (fun _ => False) w2).setRow _).mono (fun i _ h => h.elim (fun h => h.elim) id)
      have hlo := Hg3.out
      refine ⟨w2.setRow (g2 + 1) (hcells FY q c), wanted_free rfl, exec_store_row 39 (.tmp 3) (.tmp 13) rfl (g2 + 1) h3 39 CY _ e13 hbx (by rw [sY]; rfl) rhinfo (hcells_oneA _ _ _), ?_, V3.keep (hm.mono (fun i _ h => by omega))⟩
      exact ⟨hG.m.trans hm (fun i _ h => Or.inr h), fun h => absurd h (by omega), fun h => absurd h (by omega), fun _ => (hG.n2 (by omega)).keep hm (fun i h => by omega) (by omega), fun _ => ⟨q, c, setRow_heap _ _ _ _ _ _ hbx, hR.mod hm (fun a e h => by have := hf a e; omega), hf⟩⟩
    exact CW.OweAllC.nil
    ) ?_
  intro f wz xz hG hx hv
  rename_i hK
  refine hK _ _ ?_
  clear hK hv hx
  simp only [dsts, puts, List.filterMap_cons, List.filterMap_nil, List.foldl_cons, List.foldl_nil, Act.put, List.setIfInBounds_toArray, List.set_cons_succ, List.set_cons_zero]
  have hG4 : G3 w1 g2 (g2 + 1) w1.heap.size CX CY FX FY 4 wz := hG
  clear hG HG0 RX RY fewX fewY
  obtain ⟨q1, c1, bx2, rd1, f1⟩ := hG4.n2 (by omega)
  obtain ⟨q2, c2, bx3, rd2, f2⟩ := hG4.n3 (by omega)
  have BZ : Hid (Below w.heap.size w wz) := Lib.hid (B1.out.trans (hG4.m.to_below B1.out.size (by intro k hk h; have := Hg2.out; omega)))
  clear hG4 f1 f2 HX HY B1 B0 HW0
  obtain ⟨e1, he1⟩ : ∃ e, e = chk FX (rs FX.ps (FX.ps.length - 1)) := ⟨_, rfl⟩
  obtain ⟨e2, he2⟩ : ∃ e, e = chk FY (rs FY.ps (FY.ps.length - 1)) := ⟨_, rfl⟩
  have ck1 : Hid (∀ w, Rd encS w q1 FX.ps → Calls Tryd.prog 30 #[.agg (hcells FX q1 c1)] w fun r w' => r = .returned (.int .i64 e1) ∧ Below w.heap.size w w') := Lib.hid (fun w h => by rw [he1]; exact rcheck_any FX q1 c1 w h)
  have ck2 : Hid (∀ w, Rd encS w q2 FY.ps → Calls Tryd.prog 30 #[.agg (hcells FY q2 c2)] w fun r w' => r = .returned (.int .i64 e2) ∧ Below w.heap.size w w') := Lib.hid (fun w h => by rw [he2]; exact rcheck_any FY q2 c2 w h)
  have ow1 : Hid (∀ w, Rd encS w q1 FX.ps → Calls Tryd.prog 28 #[.agg (hcells FX q1 c1)] w fun r w' => ∃ q c, r = .returned (.agg (hcells (ownH FX) q c)) ∧ Rw encN 25 w' q c (ownH FX).ps ∧ Below w.heap.size w w' ∧ ∀ a, q = some a → w.heap.size ≤ a.block) := Lib.hid (fun w h => own_any FX q1 c1 w h (by have := lX.out; omega))
  have ow2 : Hid (∀ w, Rd encS w q2 FY.ps → Calls Tryd.prog 28 #[.agg (hcells FY q2 c2)] w fun r w' => ∃ q c, r = .returned (.agg (hcells (ownH FY) q c)) ∧ Rw encN 25 w' q c (ownH FY).ps ∧ Below w.heap.size w w' ∧ ∀ a, q = some a → w.heap.size ≤ a.block) := Lib.hid (fun w h => own_any FY q2 c2 w h (by have := lY.out; omega))
  have sm : Hid (∀ q c w, Rd encN w q (ownH FX).ps → Rd encS w q2 FY.ps → Calls Tryd.prog 35 #[.agg (hcells (ownH FX) q c), .agg (hcells FY q2 c2)] w fun r w' => r = .returned (.bool (sameB (ownH FX) FY)) ∧ Below w.heap.size w w') := Lib.hid (fun q c w h1 h2 => same_any (ownH FX) FY q q2 c c2 w h1 h2 (by have := lX.out; simp only [ownH, List.length_map]; omega))
  have sD1 : (hcells FX q1 c1).size = 7 := rfl
  have sD2 : (hcells FY q2 c2).size = 7 := rfl
  obtain ⟨D1, hD1⟩ : ∃ C, C = hcells FX q1 c1 := ⟨_, rfl⟩
  obtain ⟨D2, hD2⟩ : ∃ C, C = hcells FY q2 c2 := ⟨_, rfl⟩
  rw [← hD1] at bx2 ck1 ow1 sD1
  rw [← hD2] at bx3 ck2 ow2 sm sD2
  have qd1 : (Tryd.prog.info? 39).map (·.size) = some D1.size := by rw [sD1]; exact rhinfo
  have qd2 : (Tryd.prog.info? 39).map (·.size) = some D2.size := by rw [sD2]; exact rhinfo
  have HE1 := Lib.hid he1
  have HE2 := Lib.hid he2
  have BX3 := Lib.hid bx3
  have RD2 := Lib.hid rd2
  clear hD1 hD2 he1 he2 bx3 rd2 qx qy sX sY
  go_wp2_with (refine wpList_load_row rfl 39 (.tmp 2) rfl g2 rfl 39 D1 (0, 0) _ bx2 Tryd.underlying39 rfl qd1 ?_)
  refine (ck1.out wz rd1).mono ?_
  rintro r w3 ⟨rfl, hb3⟩
  have B3 := Lib.hid (BZ.out.trans (hb3.mono BZ.out.size))
  have BX2 := Lib.hid ((hb3.block _ (Array.getElem?_eq_some_iff.1 bx2).1).trans bx2)
  have RD1 := Lib.hid (rd1.old hb3)
  have bx3 := (hb3.block _ (Array.getElem?_eq_some_iff.1 BX3.out).1).trans BX3.out
  have rd2 := RD2.out.old hb3
  clear bx2 rd1 BX3 RD2 hb3 ck1 BZ
  by_cases z1 : e1 = 0
  case neg =>
    have t1 : (e1 == 0) = false := by simp [z1]
    have t2 : (e1 != 0) = true := by simp [z1]
    clear z1
    go_wp2_with fail
    go_ret
    exact ⟨rfl, Hg2.out ▸ B3.out⟩
  have Z1 := Lib.hid z1
  have t1 : (e1 != 0) = false := by simp [z1]
  clear z1
  go_wp2_with (refine wpList_load_rowG rfl 39 (.tmp 3) rfl (g2 + 1) rfl 39 D2 (0, 0) _ bx3 Tryd.underlying39 rfl qd2 ?_)
  refine (ck2.out w3 rd2).mono ?_
  rintro r w4 ⟨rfl, hb4⟩
  have B4 := Lib.hid (B3.out.trans (hb4.mono B3.out.size))
  have bx2 := (hb4.block _ (Array.getElem?_eq_some_iff.1 BX2.out).1).trans BX2.out
  have bx3' := (hb4.block _ (Array.getElem?_eq_some_iff.1 bx3).1).trans bx3
  have rd1 := RD1.out.old hb4
  have rd2' := rd2.old hb4
  clear bx3 rd2 BX2 RD1 hb4 ck2 B3
  by_cases z2 : e2 = 0
  case neg =>
    have t3 : (e2 == 0) = false := by simp [z2]
    have t4 : (e2 != 0) = true := by simp [z2]
    clear z2
    go_wp2_with fail
    go_ret
    exact ⟨rfl, Hg2.out ▸ B4.out⟩
  have t2 : (e2 != 0) = false := by simp [z2]
  have z1 := Z1.out
  rw [HE1.out, chk_zero] at z1
  have z2' := z2
  rw [HE2.out, chk_zero] at z2'
  have OA := Lib.hid (HOkay.own z1.1)
  have OB := Lib.hid (HOkay.own z2'.1)
  clear z1 z2 z2'
  go_upto_region 6 with fail
  clear t1 t2
  have HG0 : Hid (G6 w4 ((none, none) : Gh) w4.drew) := Lib.hid ⟨(Below.refl _ _).drew, (fun g e => by cases e), (fun g e => by cases e), (fun g g' e => by cases e)⟩
  have H2 : Hid (∀ w', Below w4.heap.size w4 w' → w'.heap[g2]? = some (.cells D1 39 (0, 0)) ∧ w'.heap[g2 + 1]? = some (.cells D2 39 (0, 0)) ∧ Rd encS w' q1 FX.ps ∧ Rd encS w' q2 FY.ps ∧ TabAt w') := Lib.hid (fun w' hb =>
    ⟨(hb.block _ (Array.getElem?_eq_some_iff.1 bx2).1).trans bx2, (hb.block _ (Array.getElem?_eq_some_iff.1 bx3').1).trans bx3', rd1.old hb, rd2'.old hb, HT.out.old (B4.out.trans (hb.mono B4.out.size))⟩)
  clear bx2 bx3' rd1 rd2' HT
  refine wp_region_puts2 (Γ := Gh) (none, none) (V6 D1 D2 (ownH FX) (ownH FY)) (U6 (ownH FX) (ownH FY)) (G6 w4) 47 (by kernel_rfl) (by decide +kernel) rfl HG0.out (by
    refine OweAll2.cons (owes2_val rfl rfl (fun _ _ => trivial) fun γ a w2 ha hG hV => ?_) ?_
    · have h2 := ha.outer 2 (by decide +kernel)
      simp only [Act.eval] at h2
      exact ⟨.agg D1, wanted_free rfl, exec_load_row 39 (.tmp 2) rfl g2 h2 39 D1 (0, 0) _ (H2.out w2 hG.m).1 Tryd.underlying39 rfl qd1, rfl⟩
    refine OweAll2.cons (owes2_call rfl rfl 28 (fun _ _ => trivial) fun γ a w2 ha hG hV => ?_) ?_
    · have h22 : a.tmps.getD 22 undef = .agg D1 := hV.get 22 (by decide +kernel)
      refine ⟨#[.agg D1], wanted_free rfl, by simp [execOp, resolve, invoke, go_sem, h22], ?_⟩
      refine (ow1.out w2 (H2.out w2 hG.m).2.2.1).mono ?_
      rintro r u2 ⟨q, c, rfl, hR, hb, _⟩
      exact ⟨_, rfl, ⟨q, c, rfl, hR⟩, hG.grow hb, fun t u h => h.grow hb, fun j h => h.grow hb⟩
    refine OweAll2.cons (owes2_val rfl rfl (fun _ _ => trivial) fun γ a w2 ha hG hV => ?_) ?_
    · have h3 := ha.outer 3 (by decide +kernel)
      simp only [Act.eval] at h3
      exact ⟨.agg D2, wanted_free rfl, exec_load_row 39 (.tmp 3) rfl (g2 + 1) h3 39 D2 (0, 0) _ (H2.out w2 hG.m).2.1 Tryd.underlying39 rfl qd2, rfl⟩
    refine OweAll2.cons (owes2_call rfl rfl 28 (fun _ _ => trivial) fun γ a w2 ha hG hV => ?_) ?_
    · have h24 : a.tmps.getD 24 undef = .agg D2 := hV.get 24 (by decide +kernel)
      refine ⟨#[.agg D2], wanted_free rfl, by simp [execOp, resolve, invoke, go_sem, h24], ?_⟩
      refine (ow2.out w2 (H2.out w2 hG.m).2.2.2.1).mono ?_
      rintro r u2 ⟨q, c, rfl, hR, hb, _⟩
      exact ⟨_, rfl, ⟨q, c, rfl, hR⟩, hG.grow hb, fun t u h => h.grow hb, fun j h => h.grow hb⟩
    refine OweAll2.cons (owes2_mem [6, 7] (by decide +kernel) (by decide +kernel) rfl rfl fun γ a w2 ha hG hV => ?_) ?_
    · have hb : Below w2.heap.size w2 (w2.alloc (.cells #[.int .i64 0, .int .i64 0, .string ⟨#[]⟩, .int .i64 0, .int .u64 0, .slice none 0 0, .int .i64 0] 43)) := (Below.refl _ _).alloc (Nat.le_refl _) _
      have hG2 := hG.grow hb
      refine ⟨.pointer (some ⟨w2.heap.size, 0, none⟩), w2.alloc (.cells #[.int .i64 0, .int .i64 0, .string ⟨#[]⟩, .int .i64 0, .int .u64 0, .slice none 0 0, .int .i64 0] 43), (some w2.heap.size, γ.2), wanted_free rfl, by simp [execOp, go_sem], ⟨_, rfl, rfl⟩, trivial, ?_, ?_, ?_⟩
      · exact ⟨hG2.m, fun g e => by cases e; exact ⟨hG.m.size, _, rfl, heap_alloc_new _ _⟩, hG2.a2, fun g g' e e' => by cases e; obtain ⟨_, Z, _, h⟩ := hG.a2 g' e'; have := (Array.getElem?_eq_some_iff.1 h).1; omega⟩
      · intro t x ht h
        have := h.grow hb
        unfold V6 at this ⊢
        split at this <;> first | exact this | exact absurd rfl ht
      · intro j hj hji h
        have := h.grow hb
        unfold U6 at this ⊢
        split at this <;> first | exact absurd hj (by decide) | trivial
    refine OweAll2.cons (owes2_mem [6, 7] (by decide +kernel) (by decide +kernel) rfl rfl fun γ a w2 ha hG hV => ?_) ?_
    · have hb : Below w2.heap.size w2 (w2.alloc (.cells #[.int .i64 0, .int .i64 0, .string ⟨#[]⟩, .int .i64 0, .int .u64 0, .slice none 0 0, .int .i64 0] 43)) := (Below.refl _ _).alloc (Nat.le_refl _) _
      have hG2 := hG.grow hb
      refine ⟨.pointer (some ⟨w2.heap.size, 0, none⟩), w2.alloc (.cells #[.int .i64 0, .int .i64 0, .string ⟨#[]⟩, .int .i64 0, .int .u64 0, .slice none 0 0, .int .i64 0] 43), (γ.1, some w2.heap.size), wanted_free rfl, by simp [execOp, go_sem], ⟨_, rfl, rfl⟩, trivial, ?_, ?_, ?_⟩
      · exact ⟨hG2.m, hG2.a1, fun g e => by cases e; exact ⟨hG.m.size, _, rfl, heap_alloc_new _ _⟩, fun g g' e e' => by cases e'; obtain ⟨_, Z, _, h⟩ := hG.a1 g e; have := (Array.getElem?_eq_some_iff.1 h).1; omega⟩
      · intro t x ht h
        have := h.grow hb
        unfold V6 at this ⊢
        split at this <;> first | exact this | exact absurd rfl ht
      · intro j hj hji h
        have := h.grow hb
        unfold U6 at this ⊢
        split at this <;> first | exact absurd hj (by decide) | trivial
    refine OweAll2.cons (owes2_store [7] (by decide +kernel) rfl rfl fun γ a w2 ha hG hV => ?_) ?_
    · obtain ⟨g, eg, h5⟩ : ∃ g, γ.1 = some g ∧ a.tmps.getD 5 undef = .pointer (some ⟨g, 0, none⟩) := hV.get 5 (by decide +kernel)
      obtain ⟨q, c, h23, hR⟩ : HN (ownH FX) (a.tmps.getD 23 undef) w2 := hV.get 23 (by decide +kernel)
      obtain ⟨hlo, Z, hZ, hbx⟩ := hG.a1 g eg
      refine ⟨w2.setRow g (hcells (ownH FX) q c), γ, wanted_free rfl, exec_store_row 43 (.tmp 5) (.tmp 23) rfl g h5 43 Z _ h23 hbx (by rw [hZ]; rfl) hinfo (hcells_oneA _ _ _), ⟨g, eg, q, c, setRow_heap _ _ _ _ _ _ hbx, hR.store hbx⟩, hG.store hbx hlo rfl, fun t x h => h.store hbx, ?_⟩
      intro j hj hji h
      unfold U6 at h ⊢
      split at h <;> first | exact absurd rfl hji | exact absurd (by decide) hj | trivial
    refine OweAll2.cons (owes2_store [] (by decide +kernel) rfl rfl fun γ a w2 ha hG hV => ?_) ?_
    · obtain ⟨g, eg, h6⟩ : ∃ g, γ.2 = some g ∧ a.tmps.getD 6 undef = .pointer (some ⟨g, 0, none⟩) := hV.get 6 (by decide +kernel)
      obtain ⟨q, c, h25, hR⟩ : HN (ownH FY) (a.tmps.getD 25 undef) w2 := hV.get 25 (by decide +kernel)
      obtain ⟨hlo, Z, hZ, hbx⟩ := hG.a2 g eg
      refine ⟨w2.setRow g (hcells (ownH FY) q c), γ, wanted_free rfl, exec_store_row 43 (.tmp 6) (.tmp 25) rfl g h6 43 Z _ h25 hbx (by rw [hZ]; rfl) hinfo (hcells_oneA _ _ _), ⟨g, eg, q, c, setRow_heap _ _ _ _ _ _ hbx, hR.store hbx⟩, hG.store hbx hlo rfl, fun t x h => h.store hbx, ?_⟩
      intro j hj hji h
      unfold U6 at h ⊢
      split at h
      · obtain ⟨g', e', hB⟩ := h; exact ⟨g', e', hB.store hbx (hG.ne g' g e' eg)⟩
      · exact absurd rfl hji
      · trivial
    exact OweAll2.nil
    ) ?_
  intro f2 γ w5 hG hv hU
  obtain ⟨g5, eg5, e5⟩ : ∃ g, γ.1 = some g ∧ f2 5 = .pointer (some ⟨g, 0, none⟩) := hv 4 _ 5 rfl rfl
  obtain ⟨g6, eg6, e6⟩ : ∃ g, γ.2 = some g ∧ f2 6 = .pointer (some ⟨g, 0, none⟩) := hv 5 _ 6 rfl rfl
  obtain ⟨g5', eg5', qa, ca, bx5, rwa⟩ : ∃ g, γ.1 = some g ∧ BxN (ownH FX) w5 g := hU 6 _ rfl
  obtain ⟨g6', eg6', qb, cb, bx6, rwb⟩ : ∃ g, γ.2 = some g ∧ BxN (ownH FY) w5 g := hU 7 _ rfl
  obtain rfl : g5' = g5 := Option.some.inj (eg5'.symm.trans eg5)
  obtain rfl : g6' = g6 := Option.some.inj (eg6'.symm.trans eg6)
  have hb5 := hG.m
  rename_i hK
  refine hK _ _ ?_
  clear hK hv hU hG eg5 eg6 eg5' eg6' HG0 ow1 ow2
  simp only [dsts, puts, List.filterMap_cons, List.filterMap_nil, List.foldl_cons, List.foldl_nil, Act.put, List.setIfInBounds_toArray, List.set_cons_succ, List.set_cons_zero, e5, e6]
  clear e5 e6
  have B5 := Lib.hid (B4.out.trans (hb5.mono B4.out.size))
  obtain ⟨_, bx3, _, rd2, tb⟩ := H2.out w5 hb5
  have sAB := Lib.hid (fun w h1 h2 => sm.out qa ca w h1 h2)
  -- what both come to
  obtain ⟨A, hA⟩ : ∃ A, A = ownH FX := ⟨_, rfl⟩
  obtain ⟨BB, hBB⟩ : ∃ B, B = ownH FY := ⟨_, rfl⟩
  obtain ⟨AL, hAL⟩ : ∃ b, b = sameB (ownH FX) FY := ⟨_, rfl⟩
  rw [← hAL] at sAB
  rw [← hA] at sAB bx5 rwa OA
  rw [← hBB] at bx6 rwb OB
  have hAL2 : AL = true ↔ A = BB := by rw [hAL, sameB_iff, hA, hBB]
  have LA := hbytes_len A (HOk.of OA.out)
  have byA : Hid (∀ w, Rd encN w qa A.ps → Calls Tryd.prog 32 #[.agg (hcells A qa ca)] w fun r w' => r = .returned (.string ⟨(hbytes (·.1) A).toArray⟩) ∧ Below w.heap.size w w') := Lib.hid (fun w h => by have o := HOk.of OA.out; exact hbytes_any A qa ca w h o.n o.k o.pw o.b1 o.b2 o.b3 o.b4)
  have byB : Hid (∀ w, Rd encN w qb BB.ps → Calls Tryd.prog 32 #[.agg (hcells BB qb cb)] w fun r w' => r = .returned (.string ⟨(hbytes (·.1) BB).toArray⟩) ∧ Below w.heap.size w w') := Lib.hid (fun w h => by have o := HOk.of OB.out; exact hbytes_any BB qb cb w h o.n o.k o.pw o.b1 o.b2 o.b3 o.b4)
  have idA : Hid (∀ w, Rd encN w qa A.ps → TabAt w → Calls Tryd.prog 33 #[.agg (hcells A qa ca)] w fun r w' => r = .returned (.agg (vals (shaB (hbytes (·.1) A))).toArray) ∧ Below w.heap.size w w') := Lib.hid (fun w h t => hid_any A qa ca w h (HOk.of OA.out) t)
  have idB : Hid (∀ w, Rd encN w qb BB.ps → TabAt w → Calls Tryd.prog 33 #[.agg (hcells BB qb cb)] w fun r w' => r = .returned (.agg (vals (shaB (hbytes (·.1) BB))).toArray) ∧ Below w.heap.size w w') := Lib.hid (fun w h t => hid_any BB qb cb w h (HOk.of OB.out) t)
  have hinj := hbytes_inj A BB OA.out OB.out
  obtain ⟨SA, hSA⟩ : ∃ S, S = hbytes (·.1) A := ⟨_, rfl⟩
  obtain ⟨SB, hSB⟩ : ∃ S, S = hbytes (·.1) BB := ⟨_, rfl⟩
  have hEQ : (SA == SB) = AL := by
    rw [Bool.eq_iff_iff, hAL2, beq_iff_eq, hSA, hSB]
    exact ⟨hinj, fun e => by rw [e]⟩
  rw [← hSA] at byA idA
  rw [← hSB] at byB idB
  obtain ⟨ia, hia⟩ : ∃ s, s = shaB SA := ⟨_, rfl⟩
  obtain ⟨ib, hib⟩ : ∃ s, s = shaB SB := ⟨_, rfl⟩
  have hil : ia.length = 32 := by rw [hia]; exact shaB_len _
  have hjl : ib.length = 32 := by rw [hib]; exact shaB_len _
  obtain ⟨D, hD⟩ : ∃ D, D = (ia == ib) := ⟨_, rfl⟩
  have hADL : AL = true → D = true := fun h => by
    have e := hAL2.1 h
    rw [hD, hia, hib, hSA, hSB, e]; simp
  rw [← hia] at idA
  rw [← hib] at idB
  have HEQ : Hid ((SA == SB) = AL) := Lib.hid hEQ
  have HD : Hid ((ia == ib) = D) := Lib.hid hD.symm
  have HAD := Lib.hid hADL
  have sHA : (hcells A qa ca).size = 7 := rfl
  have sHB : (hcells BB qb cb).size = 7 := rfl
  obtain ⟨CA, hCA⟩ : ∃ C, C = hcells A qa ca := ⟨_, rfl⟩
  obtain ⟨CB, hCB⟩ : ∃ C, C = hcells BB qb cb := ⟨_, rfl⟩
  rw [← hCA] at sAB byA idA bx5 sHA
  rw [← hCB] at byB idB bx6 sHB
  have qa3 : (Tryd.prog.info? 43).map (·.size) = some CA.size := by rw [sHA]; exact hinfo
  have qb3 : (Tryd.prog.info? 43).map (·.size) = some CB.size := by rw [sHB]; exact hinfo
  clear hA hBB hAL hAL2 LA hinj hSA hSB hEQ hia hib hD hADL hCA hCB sm
  have BX6 := Lib.hid bx6
  have RA := Lib.hid rwa.rd
  have RB := Lib.hid rwb.rd
  have TB := Lib.hid tb
  have RD2 := Lib.hid rd2
  clear bx6 rwa rwb tb rd2 H2 hb5
  go_wp2_with (first | (refine wpList_load_row rfl 43 (.tmp 5) rfl g5' rfl 43 CA (0, 0) _ bx5 Tryd.underlying43 rfl qa3 ?_) | (refine wpList_load_row rfl 39 (.tmp 3) rfl (g2 + 1) rfl 39 D2 (0, 0) _ bx3 Tryd.underlying39 rfl qd2 ?_))
  refine (sAB.out w5 RA.out RD2.out).mono ?_
  rintro r w6 ⟨rfl, hb6⟩
  have B6 := Lib.hid (B5.out.trans (hb6.mono B5.out.size))
  have BX5 := Lib.hid bx5
  clear bx3 bx5
  have HX : Hid (∀ w', Below w6.heap.size w6 w' → w'.heap[g5']? = some (.cells CA 43 (0, 0)) ∧ w'.heap[g6']? = some (.cells CB 43 (0, 0)) ∧ Rd encN w' qa A.ps ∧ Rd encN w' qb BB.ps ∧ TabAt w') := Lib.hid (fun w' hb => by
    have hb2 := hb6.trans (hb.mono hb6.size)
    exact ⟨(hb2.block _ (Array.getElem?_eq_some_iff.1 BX5.out).1).trans BX5.out, (hb2.block _ (Array.getElem?_eq_some_iff.1 BX6.out).1).trans BX6.out, RA.out.old hb2, RB.out.old hb2, TB.out.old hb2⟩)
  clear hb6 RA RB TB BX5 BX6 sAB RD2
  go_upto_region 8 with fail
  cases D with
  | true =>
    refine wp_region_puts (fun t v w => VK (match t with
      | 29 => .eq (.agg CA)
      | 30 => .eq (.string ⟨SA.toArray⟩)
      | 31 => .eq (.agg CB)
      | 32 => .eq (.string ⟨SB.toArray⟩)
      | 33 => .eq (.bool AL)
      | 34 => .eq (.bool AL)
      | 35 => .eq (Value.bool true)
      | 36 => .eq (Value.bool true)
      | 37 => .eq (.agg CA)
      | 38 => .eq (.agg (vals ia).toArray)
      | 39 => .eq (.agg CB)
      | 40 => .eq (.agg (vals ib).toArray)
      | 41 => .eq (Value.bool true)
      | 42 => .eq (Value.bool true)
      | 43 => .eq (undef)
      | 44 => .eq (undef)
      | 45 => .eq (Value.bool true)
      | 46 => .eq (Value.bool true)
      | 4 => .eq (Value.bool true)
      | _ => .any) v w) (fun w' => Below w6.heap.size w6 w') 47 (by kernel_rfl) (by decide +kernel) rfl (Below.refl _ _).drew (by
      refine OweAll.cons (owesK rfl rfl fun a w1 ha hG hV => ?_) ?_
      · skip
        have h5 := ha.outer 5 (by decide +kernel)
        simp only [Act.eval] at h5
        exact ⟨.agg CA, w1, wanted_free rfl, exec_load_row 43 (.tmp 5) rfl g5' h5 43 CA (0, 0) _ (HX.out w1 hG).1 Tryd.underlying43 rfl qa3, Below.refl _ _, rfl⟩
      refine OweAll.cons (owesK_call rfl rfl 32 fun a w1 ha hG hV => ?_) ?_
      · skip
        have h29 : a.tmps.getD 29 undef = .agg CA := hV.get 29 (by decide +kernel)
        refine ⟨#[.agg CA], wanted_free rfl, by simp [execOp, resolve, invoke, go_sem, h29], ?_⟩
        refine (byA.out w1 (HX.out w1 hG).2.2.1).mono ?_
        rintro r u2 ⟨rfl, hb⟩; exact ⟨_, rfl, rfl, hb⟩
      refine OweAll.cons (owesK rfl rfl fun a w1 ha hG hV => ?_) ?_
      · skip
        have h6 := ha.outer 6 (by decide +kernel)
        simp only [Act.eval] at h6
        exact ⟨.agg CB, w1, wanted_free rfl, exec_load_row 43 (.tmp 6) rfl g6' h6 43 CB (0, 0) _ (HX.out w1 hG).2.1 Tryd.underlying43 rfl qb3, Below.refl _ _, rfl⟩
      refine OweAll.cons (owesK_call rfl rfl 32 fun a w1 ha hG hV => ?_) ?_
      · skip
        have h31 : a.tmps.getD 31 undef = .agg CB := hV.get 31 (by decide +kernel)
        refine ⟨#[.agg CB], wanted_free rfl, by simp [execOp, resolve, invoke, go_sem, h31], ?_⟩
        refine (byB.out w1 (HX.out w1 hG).2.2.2.1).mono ?_
        rintro r u2 ⟨rfl, hb⟩; exact ⟨_, rfl, rfl, hb⟩
      refine OweAll.cons (owesK rfl rfl fun a w1 ha hG hV => ?_) ?_
      · skip
        have h30 : a.tmps.getD 30 undef = .string ⟨SA.toArray⟩ := hV.get 30 (by decide +kernel)
        have h32 : a.tmps.getD 32 undef = .string ⟨SB.toArray⟩ := hV.get 32 (by decide +kernel)
        exact ⟨.bool AL, w1, wanted_free rfl, by simp [execOp, go_sem, h30, h32, HEQ.out], Below.refl _ _, rfl⟩
      refine OweAll.cons (owesK rfl rfl fun a w1 ha hG hV => ?_) ?_
      · skip
        have h7 := ha.outer 7 (by decide +kernel)
        simp only [Act.eval] at h7
        exact ⟨.bool AL, w1, wanted_free rfl, by simp [execOp, go_sem, h7], Below.refl _ _, rfl⟩
      refine OweAll.cons (owesK rfl rfl fun a w1 ha hG hV => ?_) ?_
      · skip
        have h33 : a.tmps.getD 33 undef = .bool AL := hV.get 33 (by decide +kernel)
        have h34 : a.tmps.getD 34 undef = .bool AL := hV.get 34 (by decide +kernel)
        exact ⟨Value.bool true, w1, wanted_free rfl, by simp [execOp, go_sem, h33, h34], Below.refl _ _, rfl⟩
      refine OweAll.cons (owesK rfl rfl fun a w1 ha hG hV => ?_) ?_
      · skip
        have h35 : a.tmps.getD 35 undef = Value.bool true := hV.get 35 (by decide +kernel)
        exact ⟨Value.bool true, w1, wanted_free rfl, by simp [execOp, go_sem, h35], Below.refl _ _, rfl⟩
      refine OweAll.cons (owesK rfl rfl fun a w1 ha hG hV => ?_) ?_
      · skip
        have h5 := ha.outer 5 (by decide +kernel)
        simp only [Act.eval] at h5
        exact ⟨.agg CA, w1, (wanted_of (t := 36) rfl rfl (hV.get 36 (by decide +kernel))), exec_load_row 43 (.tmp 5) rfl g5' h5 43 CA (0, 0) _ (HX.out w1 hG).1 Tryd.underlying43 rfl qa3, Below.refl _ _, rfl⟩
      refine OweAll.cons (owesK_call rfl rfl 33 fun a w1 ha hG hV => ?_) ?_
      · skip
        have h37 : a.tmps.getD 37 undef = .agg CA := hV.get 37 (by decide +kernel)
        refine ⟨#[.agg CA], (wanted_of (t := 36) rfl rfl (hV.get 36 (by decide +kernel))), by simp [execOp, resolve, invoke, go_sem, h37], ?_⟩
        refine (idA.out w1 (HX.out w1 hG).2.2.1 (HX.out w1 hG).2.2.2.2).mono ?_
        rintro r u2 ⟨rfl, hb⟩; exact ⟨_, rfl, rfl, hb⟩
      refine OweAll.cons (owesK rfl rfl fun a w1 ha hG hV => ?_) ?_
      · skip
        have h6 := ha.outer 6 (by decide +kernel)
        simp only [Act.eval] at h6
        exact ⟨.agg CB, w1, (wanted_of (t := 36) rfl rfl (hV.get 36 (by decide +kernel))), exec_load_row 43 (.tmp 6) rfl g6' h6 43 CB (0, 0) _ (HX.out w1 hG).2.1 Tryd.underlying43 rfl qb3, Below.refl _ _, rfl⟩
      refine OweAll.cons (owesK_call rfl rfl 33 fun a w1 ha hG hV => ?_) ?_
      · skip
        have h39 : a.tmps.getD 39 undef = .agg CB := hV.get 39 (by decide +kernel)
        refine ⟨#[.agg CB], (wanted_of (t := 36) rfl rfl (hV.get 36 (by decide +kernel))), by simp [execOp, resolve, invoke, go_sem, h39], ?_⟩
        refine (idB.out w1 (HX.out w1 hG).2.2.2.1 (HX.out w1 hG).2.2.2.2).mono ?_
        rintro r u2 ⟨rfl, hb⟩; exact ⟨_, rfl, rfl, hb⟩
      refine OweAll.cons (owesK rfl rfl fun a w1 ha hG hV => ?_) ?_
      · skip
        have h38 : a.tmps.getD 38 undef = .agg (vals ia).toArray := hV.get 38 (by decide +kernel)
        have h40 : a.tmps.getD 40 undef = .agg (vals ib).toArray := hV.get 40 (by decide +kernel)
        exact ⟨Value.bool true, w1, (wanted_of (t := 36) rfl rfl (hV.get 36 (by decide +kernel))), by simp [execOp, go_sem, h38, h40, id_eql ia ib hil hjl, HD.out], Below.refl _ _, rfl⟩
      refine OweAll.cons (owesK rfl rfl fun a w1 ha hG hV => ?_) ?_
      · skip
        have h41 : a.tmps.getD 41 undef = Value.bool true := hV.get 41 (by decide +kernel)
        exact ⟨Value.bool true, w1, (wanted_of (t := 36) rfl rfl (hV.get 36 (by decide +kernel))), by simp [execOp, go_sem, h41], Below.refl _ _, rfl⟩
      refine OweAll.cons (owesK_not rfl rfl fun a w1 ha hG hV => ⟨not_wanted (t := 42) rfl rfl (hV.get 42 (by decide +kernel)) (by simp), rfl⟩) ?_
      refine OweAll.cons (owesK_not rfl rfl fun a w1 ha hG hV => ⟨not_wanted (t := 42) rfl rfl (hV.get 42 (by decide +kernel)) (by simp), rfl⟩) ?_
      refine OweAll.cons (owesK rfl rfl fun a w1 ha hG hV => ?_) ?_
      · skip
        have h42 : a.tmps.getD 42 undef = Value.bool true := hV.get 42 (by decide +kernel)
        exact ⟨Value.bool true, w1, (wanted_of (t := 36) rfl rfl (hV.get 36 (by decide +kernel))), by simp [execOp, go_sem, h42], Below.refl _ _, rfl⟩
      refine OweAll.cons (owesK rfl rfl fun a w1 ha hG hV => ?_) ?_
      · skip
        have h36 : a.tmps.getD 36 undef = Value.bool true := hV.get 36 (by decide +kernel)
        have h45 : a.tmps.getD 45 undef = Value.bool true := hV.get 45 (by decide +kernel)
        exact ⟨Value.bool true, w1, wanted_free rfl, by simp [execOp, go_sem, h36, h45], Below.refl _ _, rfl⟩
      refine OweAll.cons (owesK rfl rfl fun a w1 ha hG hV => ?_) ?_
      · skip
        have h46 : a.tmps.getD 46 undef = Value.bool true := hV.get 46 (by decide +kernel)
        exact ⟨Value.bool true, w1, wanted_free rfl, by simp [execOp, go_sem, h46], Below.refl _ _, rfl⟩
      exact OweAll.nil
      ) ?_
    intro f wz hG hv
    have e4 : f 4 = Value.bool true := hv 18 _ 4 rfl rfl
    rename_i hK
    refine hK _ _ ?_
    clear hK hv
    simp only [dsts, puts, List.filterMap_cons, List.filterMap_nil, List.foldl_cons, List.foldl_nil, Act.put, List.setIfInBounds_toArray, List.set_cons_succ, List.set_cons_zero, e4]
    clear e4
    have HG := Lib.hid (B6.out.trans (hG.mono B6.out.size))
    clear hG
    go_wp2_with fail
    go_ret
    exact ⟨rfl, Hg2.out ▸ HG.out⟩
  | false =>
    have hF : AL = false := by
      cases AL with
      | true => exact absurd (HAD.out rfl) (by decide)
      | false => rfl
    subst hF
    refine wp_region_puts (fun t v w => VK (match t with
      | 29 => .eq (.agg CA)
      | 30 => .eq (.string ⟨SA.toArray⟩)
      | 31 => .eq (.agg CB)
      | 32 => .eq (.string ⟨SB.toArray⟩)
      | 33 => .eq (Value.bool false)
      | 34 => .eq (Value.bool false)
      | 35 => .eq (Value.bool true)
      | 36 => .eq (Value.bool true)
      | 37 => .eq (.agg CA)
      | 38 => .eq (.agg (vals ia).toArray)
      | 39 => .eq (.agg CB)
      | 40 => .eq (.agg (vals ib).toArray)
      | 41 => .eq (Value.bool false)
      | 42 => .eq (Value.bool false)
      | 43 => .eq (Value.bool false)
      | 44 => .eq (Value.bool true)
      | 45 => .eq (Value.bool true)
      | 46 => .eq (Value.bool true)
      | 4 => .eq (Value.bool true)
      | _ => .any) v w) (fun w' => Below w6.heap.size w6 w') 47 (by kernel_rfl) (by decide +kernel) rfl (Below.refl _ _).drew (by
      refine OweAll.cons (owesK rfl rfl fun a w1 ha hG hV => ?_) ?_
      · skip
        have h5 := ha.outer 5 (by decide +kernel)
        simp only [Act.eval] at h5
        exact ⟨.agg CA, w1, wanted_free rfl, exec_load_row 43 (.tmp 5) rfl g5' h5 43 CA (0, 0) _ (HX.out w1 hG).1 Tryd.underlying43 rfl qa3, Below.refl _ _, rfl⟩
      refine OweAll.cons (owesK_call rfl rfl 32 fun a w1 ha hG hV => ?_) ?_
      · skip
        have h29 : a.tmps.getD 29 undef = .agg CA := hV.get 29 (by decide +kernel)
        refine ⟨#[.agg CA], wanted_free rfl, by simp [execOp, resolve, invoke, go_sem, h29], ?_⟩
        refine (byA.out w1 (HX.out w1 hG).2.2.1).mono ?_
        rintro r u2 ⟨rfl, hb⟩; exact ⟨_, rfl, rfl, hb⟩
      refine OweAll.cons (owesK rfl rfl fun a w1 ha hG hV => ?_) ?_
      · skip
        have h6 := ha.outer 6 (by decide +kernel)
        simp only [Act.eval] at h6
        exact ⟨.agg CB, w1, wanted_free rfl, exec_load_row 43 (.tmp 6) rfl g6' h6 43 CB (0, 0) _ (HX.out w1 hG).2.1 Tryd.underlying43 rfl qb3, Below.refl _ _, rfl⟩
      refine OweAll.cons (owesK_call rfl rfl 32 fun a w1 ha hG hV => ?_) ?_
      · skip
        have h31 : a.tmps.getD 31 undef = .agg CB := hV.get 31 (by decide +kernel)
        refine ⟨#[.agg CB], wanted_free rfl, by simp [execOp, resolve, invoke, go_sem, h31], ?_⟩
        refine (byB.out w1 (HX.out w1 hG).2.2.2.1).mono ?_
        rintro r u2 ⟨rfl, hb⟩; exact ⟨_, rfl, rfl, hb⟩
      refine OweAll.cons (owesK rfl rfl fun a w1 ha hG hV => ?_) ?_
      · skip
        have h30 : a.tmps.getD 30 undef = .string ⟨SA.toArray⟩ := hV.get 30 (by decide +kernel)
        have h32 : a.tmps.getD 32 undef = .string ⟨SB.toArray⟩ := hV.get 32 (by decide +kernel)
        exact ⟨Value.bool false, w1, wanted_free rfl, by simp [execOp, go_sem, h30, h32, HEQ.out], Below.refl _ _, rfl⟩
      refine OweAll.cons (owesK rfl rfl fun a w1 ha hG hV => ?_) ?_
      · skip
        have h7 := ha.outer 7 (by decide +kernel)
        simp only [Act.eval] at h7
        exact ⟨Value.bool false, w1, wanted_free rfl, by simp [execOp, go_sem, h7], Below.refl _ _, rfl⟩
      refine OweAll.cons (owesK rfl rfl fun a w1 ha hG hV => ?_) ?_
      · skip
        have h33 : a.tmps.getD 33 undef = Value.bool false := hV.get 33 (by decide +kernel)
        have h34 : a.tmps.getD 34 undef = Value.bool false := hV.get 34 (by decide +kernel)
        exact ⟨Value.bool true, w1, wanted_free rfl, by simp [execOp, go_sem, h33, h34], Below.refl _ _, rfl⟩
      refine OweAll.cons (owesK rfl rfl fun a w1 ha hG hV => ?_) ?_
      · skip
        have h35 : a.tmps.getD 35 undef = Value.bool true := hV.get 35 (by decide +kernel)
        exact ⟨Value.bool true, w1, wanted_free rfl, by simp [execOp, go_sem, h35], Below.refl _ _, rfl⟩
      refine OweAll.cons (owesK rfl rfl fun a w1 ha hG hV => ?_) ?_
      · skip
        have h5 := ha.outer 5 (by decide +kernel)
        simp only [Act.eval] at h5
        exact ⟨.agg CA, w1, (wanted_of (t := 36) rfl rfl (hV.get 36 (by decide +kernel))), exec_load_row 43 (.tmp 5) rfl g5' h5 43 CA (0, 0) _ (HX.out w1 hG).1 Tryd.underlying43 rfl qa3, Below.refl _ _, rfl⟩
      refine OweAll.cons (owesK_call rfl rfl 33 fun a w1 ha hG hV => ?_) ?_
      · skip
        have h37 : a.tmps.getD 37 undef = .agg CA := hV.get 37 (by decide +kernel)
        refine ⟨#[.agg CA], (wanted_of (t := 36) rfl rfl (hV.get 36 (by decide +kernel))), by simp [execOp, resolve, invoke, go_sem, h37], ?_⟩
        refine (idA.out w1 (HX.out w1 hG).2.2.1 (HX.out w1 hG).2.2.2.2).mono ?_
        rintro r u2 ⟨rfl, hb⟩; exact ⟨_, rfl, rfl, hb⟩
      refine OweAll.cons (owesK rfl rfl fun a w1 ha hG hV => ?_) ?_
      · skip
        have h6 := ha.outer 6 (by decide +kernel)
        simp only [Act.eval] at h6
        exact ⟨.agg CB, w1, (wanted_of (t := 36) rfl rfl (hV.get 36 (by decide +kernel))), exec_load_row 43 (.tmp 6) rfl g6' h6 43 CB (0, 0) _ (HX.out w1 hG).2.1 Tryd.underlying43 rfl qb3, Below.refl _ _, rfl⟩
      refine OweAll.cons (owesK_call rfl rfl 33 fun a w1 ha hG hV => ?_) ?_
      · skip
        have h39 : a.tmps.getD 39 undef = .agg CB := hV.get 39 (by decide +kernel)
        refine ⟨#[.agg CB], (wanted_of (t := 36) rfl rfl (hV.get 36 (by decide +kernel))), by simp [execOp, resolve, invoke, go_sem, h39], ?_⟩
        refine (idB.out w1 (HX.out w1 hG).2.2.2.1 (HX.out w1 hG).2.2.2.2).mono ?_
        rintro r u2 ⟨rfl, hb⟩; exact ⟨_, rfl, rfl, hb⟩
      refine OweAll.cons (owesK rfl rfl fun a w1 ha hG hV => ?_) ?_
      · skip
        have h38 : a.tmps.getD 38 undef = .agg (vals ia).toArray := hV.get 38 (by decide +kernel)
        have h40 : a.tmps.getD 40 undef = .agg (vals ib).toArray := hV.get 40 (by decide +kernel)
        exact ⟨Value.bool false, w1, (wanted_of (t := 36) rfl rfl (hV.get 36 (by decide +kernel))), by simp [execOp, go_sem, h38, h40, id_eql ia ib hil hjl, HD.out], Below.refl _ _, rfl⟩
      refine OweAll.cons (owesK rfl rfl fun a w1 ha hG hV => ?_) ?_
      · skip
        have h41 : a.tmps.getD 41 undef = Value.bool false := hV.get 41 (by decide +kernel)
        exact ⟨Value.bool false, w1, (wanted_of (t := 36) rfl rfl (hV.get 36 (by decide +kernel))), by simp [execOp, go_sem, h41], Below.refl _ _, rfl⟩
      refine OweAll.cons (owesK rfl rfl fun a w1 ha hG hV => ?_) ?_
      · skip
        have h7 := ha.outer 7 (by decide +kernel)
        simp only [Act.eval] at h7
        exact ⟨Value.bool false, w1, (wanted_of (t := 42) rfl rfl (hV.get 42 (by decide +kernel))), by simp [execOp, go_sem, h7], Below.refl _ _, rfl⟩
      refine OweAll.cons (owesK rfl rfl fun a w1 ha hG hV => ?_) ?_
      · skip
        have h43 : a.tmps.getD 43 undef = Value.bool false := hV.get 43 (by decide +kernel)
        exact ⟨Value.bool true, w1, (wanted_of (t := 42) rfl rfl (hV.get 42 (by decide +kernel))), by simp [execOp, go_sem, h43], Below.refl _ _, rfl⟩
      refine OweAll.cons (owesK rfl rfl fun a w1 ha hG hV => ?_) ?_
      · skip
        have h42 : a.tmps.getD 42 undef = Value.bool false := hV.get 42 (by decide +kernel)
        have h44 : a.tmps.getD 44 undef = Value.bool true := hV.get 44 (by decide +kernel)
        exact ⟨Value.bool true, w1, (wanted_of (t := 36) rfl rfl (hV.get 36 (by decide +kernel))), by simp [execOp, go_sem, h42, h44], Below.refl _ _, rfl⟩
      refine OweAll.cons (owesK rfl rfl fun a w1 ha hG hV => ?_) ?_
      · skip
        have h36 : a.tmps.getD 36 undef = Value.bool true := hV.get 36 (by decide +kernel)
        have h45 : a.tmps.getD 45 undef = Value.bool true := hV.get 45 (by decide +kernel)
        exact ⟨Value.bool true, w1, wanted_free rfl, by simp [execOp, go_sem, h36, h45], Below.refl _ _, rfl⟩
      refine OweAll.cons (owesK rfl rfl fun a w1 ha hG hV => ?_) ?_
      · skip
        have h46 : a.tmps.getD 46 undef = Value.bool true := hV.get 46 (by decide +kernel)
        exact ⟨Value.bool true, w1, wanted_free rfl, by simp [execOp, go_sem, h46], Below.refl _ _, rfl⟩
      exact OweAll.nil
      ) ?_
    intro f wz hG hv
    have e4 : f 4 = Value.bool true := hv 18 _ 4 rfl rfl
    rename_i hK
    refine hK _ _ ?_
    clear hK hv
    simp only [dsts, puts, List.filterMap_cons, List.filterMap_nil, List.foldl_cons, List.foldl_nil, Act.put, List.setIfInBounds_toArray, List.set_cons_succ, List.set_cons_zero, e4]
    clear e4
    have HG := Lib.hid (B6.out.trans (hG.mono B6.out.size))
    clear hG
    go_wp2_with fail
    go_ret
    exact ⟨rfl, Hg2.out ▸ HG.out⟩
end Go.Proofs.YtkejidmomnmdbaaDoor
