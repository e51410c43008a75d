/- The law HeaderBack. -/
import Derived.Test.YtiegakeacghnfaaDoorM10
namespace Go.Proofs.YtiegakeacghnfaaDoor
open Go.RowKit

set_option maxRecDepth 20000 in
set_option maxHeartbeats 8000000 in
theorem headerBack_any (X : Hd (List UInt8)) (ao : Option Addr) (cap : Nat) (w : World) (hX : Rd encS w ao X.ps) (kX : (X.tk.length : Int) ≤ 9223372036854775807) (hT : TabAt w) :
    Calls Tryd.prog 3 #[.agg (hcells X ao cap)] w fun r w' => r = .returned (.bool true) ∧ Below w.heap.size w w' := by
  have few : Hid (∀ w, Rd encS w ao X.ps → Calls Tryd.prog 7 #[.agg (hcells X ao cap)] w fun r w' => ∃ q c, r = .returned (.agg (hcells (fewH X) q c)) ∧ Rw encS 9 w' q c (fewH X).ps ∧ Below w.heap.size w w' ∧ ∀ a, q = some a → w.heap.size ≤ a.block) := Lib.hid (fun w h => few_any X ao cap w h kX)
  have lF := few_len X
  have hz : Hid (chk (fewH X) (rs (fewH X).ps ((fewH X).ps.length - 1)) = 0 → FewOk (fewH X) (ownH (fewH X))) := Lib.hid (few_ok X)
  have hck : Hid (chk (ownH (fewH X)) (rs ((ownH (fewH X)).ps.map (·.1)) ((ownH (fewH X)).ps.length - 1)) = chk (fewH X) (rs (fewH X).ps ((fewH X).ps.length - 1))) := Lib.hid (few_chk X)
  obtain ⟨F, hF⟩ : ∃ F, F = fewH X := ⟨_, rfl⟩
  rw [← hF] at few lF hz hck
  obtain ⟨e, he⟩ : ∃ e, e = chk F (rs F.ps (F.ps.length - 1)) := ⟨_, rfl⟩
  rw [← he] at hz hck
  have rck : Hid (∀ q c w, Rd encS w q F.ps → Calls Tryd.prog 10 #[.agg (hcells F q c)] w fun r w' => r = .returned (.int .i64 e) ∧ Below w.heap.size w w') := Lib.hid (fun q c w h => by have := rcheck_any F q c w h; rw [← he] at this; exact this)
  have own : Hid (∀ q c w, Rd encS w q F.ps → Calls Tryd.prog 8 #[.agg (hcells F q c)] w fun r w' => ∃ q' c', r = .returned (.agg (hcells (ownH F) q' c')) ∧ Rw encN 39 w' q' c' (ownH F).ps ∧ Below w.heap.size w w' ∧ ∀ a, q' = some a → w.heap.size ≤ a.block) := Lib.hid (fun q c w h => own_any F q c w h (by omega))
  obtain ⟨A, hA⟩ : ∃ A, A = ownH F := ⟨_, rfl⟩
  rw [← hA] at hz hck own
  have hcx : Hid (∀ q c w, Rd encN w q A.ps → Calls Tryd.prog 9 #[.agg (hcells A q c)] w fun r w' => r = .returned (.int .i64 e) ∧ Below w.heap.size w w') := Lib.hid (fun q c w h => by have := hcheck_any A q c w h; rw [hck.out] at this; exact this)
  have sC : (hcells X ao cap).size = 7 := rfl
  obtain ⟨C, hC⟩ : ∃ C, C = hcells X ao cap := ⟨_, rfl⟩
  rw [← hC] at few sC ⊢
  have qC : (Tryd.prog.info? 25).map (·.size) = some C.size := by rw [sC]; exact rhinfo
  have bC := heap_alloc_new w (.cells C 25)
  obtain ⟨W0, hW0⟩ : ∃ W0, W0 = w.alloc (.cells C 25) := ⟨_, rfl⟩
  rw [← hW0] at bC
  have b0 : Below w.heap.size w W0 := by rw [hW0]; exact (Below.refl _ w).alloc (Nat.le_refl _) _
  have HT := Lib.hid (hT.old b0)
  have HT0 := Lib.hid hT
  have B0 := Lib.hid b0
  have BC := Lib.hid bC
  have HX := Lib.hid hX
  have HW0 := Lib.hid hW0
  clear hF he hA hC hW0 b0 bC hX kX hT lF hck
  go_enter Tryd.func3, Tryd.ntmps3
  go_wp2_with fail
  rw [← HW0.out]
  refine (awake05_any W0 HT.out).mono ?_
  rintro r w1 ⟨rfl, hb1⟩
  have bC := (hb1.block _ (Array.getElem?_eq_some_iff.1 BC.out).1).trans BC.out
  have B1 := Lib.hid (B0.out.trans (hb1.mono B0.out.size))
  clear hb1 HT BC B0
  go_wp2_with (refine wpList_load_row rfl 25 (.tmp 1) rfl w.heap.size rfl 25 C (0, 0) _ bC Tryd.underlying25 rfl qC ?_)
  refine (few.out w1 (HX.out.old B1.out)).mono ?_
  rintro r w2 ⟨q1, c1, rfl, hR, hb2, hf2⟩
  have bC2 := (hb2.block _ (Array.getElem?_eq_some_iff.1 bC).1).trans bC
  have hgl : w.heap.size < w1.heap.size := (Array.getElem?_eq_some_iff.1 bC).1
  have sD : (hcells F q1 c1).size = 7 := rfl
  have oD := hcells_oneA F q1 c1
  have rck1 : Hid (∀ w, Rd encS w q1 F.ps → Calls Tryd.prog 10 #[.agg (hcells F q1 c1)] w fun r w' => r = .returned (.int .i64 e) ∧ Below w.heap.size w w') := Lib.hid (rck.out q1 c1)
  have own1 : Hid (∀ w, Rd encS w q1 F.ps → Calls Tryd.prog 8 #[.agg (hcells F q1 c1)] w fun r w' => ∃ q' c', r = .returned (.agg (hcells A q' c')) ∧ Rw encN 39 w' q' c' A.ps ∧ Below w.heap.size w w' ∧ ∀ a, q' = some a → w.heap.size ≤ a.block) := Lib.hid (own.out q1 c1)
  obtain ⟨D, hD⟩ : ∃ D, D = hcells F q1 c1 := ⟨_, rfl⟩
  rw [← hD] at sD oD rck1 own1 ⊢
  have HD := Lib.hid hD
  have qD : (Tryd.prog.info? 25).map (·.size) = some D.size := by rw [sD]; exact rhinfo
  have qCD : C.size = D.size := by rw [sC, sD]
  obtain ⟨W3, hW3⟩ : ∃ W, W = w2.setRow w.heap.size D := ⟨_, rfl⟩
  have bD : W3.heap[w.heap.size]? = some (.cells D 25 (0, 0)) := by rw [hW3]; exact setRow_heap _ _ _ _ _ _ bC2
  have hm3 : Mod (fun i => i = w.heap.size) w2 W3 := by rw [hW3]; exact ((Mod.refl (fun _ => False) w2).setRow _).mono (fun i _ h => h.elim (fun h => h.elim) id)
  have rD : Rd encS W3 q1 F.ps := hR.rd.mod hm3 (fun a e h => by have := hf2 a e; omega)
  have b3 : Below w.heap.size w W3 := by
    have := B1.out.trans (hb2.mono B1.out.size)
    exact ((Mod.of_below this).trans hm3 (fun i hi h => by omega)).to_below (Nat.le_refl _) (fun k hk h => by omega)
  have tD := HT0.out.old b3
  have HW3 := Lib.hid hW3
  have RD := Lib.hid rD
  have TD := Lib.hid tD
  have B3 := Lib.hid b3
  clear hR hb2 hf2 hgl hD hW3 hm3 rD tD b3 rck own few HX B1 HW0 HT0
  go_wp2_with (first | (refine wpList_store_row rfl rfl 25 (.tmp 1) (.tmp 10) rfl w.heap.size rfl 25 C D rfl bC2 qCD qD oD ?_; rw [← HW3.out]) | (refine wpList_load_row rfl 25 (.tmp 1) rfl w.heap.size rfl 25 D (0, 0) _ bD Tryd.underlying25 rfl qD ?_))
  clear bC bC2 oD qCD qC sC HW3
  refine (own1.out W3 RD.out).mono ?_
  rintro r w4 ⟨q3, c3, rfl, hR4, hb4, hf4⟩
  have sY : (hcells A q3 c3).size = 7 := rfl
  have oY := hcells_oneA A q3 c3
  have hcx3 : Hid (∀ w, Rd encN w q3 A.ps → Calls Tryd.prog 9 #[.agg (hcells A q3 c3)] w fun r w' => r = .returned (.int .i64 e) ∧ Below w.heap.size w w') := Lib.hid (hcx.out q3 c3)
  obtain ⟨Y, hY⟩ : ∃ Y, Y = hcells A q3 c3 := ⟨_, rfl⟩
  rw [← hY] at sY oY hcx3 ⊢
  have qY : (Tryd.prog.info? 30).map (·.size) = some Y.size := by rw [sY]; exact hinfo
  have qZY : (#[.int .i64 0, .int .i64 0, .string ⟨#[]⟩, .int .i64 0, .int .u64 0, .slice none 0 0, .int .i64 0] : Array Value).size = Y.size := by rw [sY]; rfl
  have bZ := heap_alloc_new w4 (.cells #[.int .i64 0, .int .i64 0, .string ⟨#[]⟩, .int .i64 0, .int .u64 0, .slice none 0 0, .int .i64 0] 30)
  obtain ⟨W5, hW5⟩ : ∃ W, W = (w4.alloc (.cells #[.int .i64 0, .int .i64 0, .string ⟨#[]⟩, .int .i64 0, .int .u64 0, .slice none 0 0, .int .i64 0] 30)).setRow w4.heap.size Y := ⟨_, rfl⟩
  have b45 : Below w4.heap.size w4 W5 := by rw [hW5]; exact stored_below
  have ST : Hid (TwoAt w W5 w.heap.size w4.heap.size F A q1 q3 c1 c3) := Lib.hid (by
    have b35 := hb4.trans (b45.mono hb4.size)
    have h1 := HD.out
    refine ⟨?_, ?_, RD.out.old b35, hR4.old b45, TD.out.old b35, B3.out.trans (b35.mono B3.out.size)⟩
    · rw [← HD.out]; exact (b35.block _ (Array.getElem?_eq_some_iff.1 bD).1).trans bD
    · rw [hW5, ← hY]; exact setRow_heap _ _ _ _ _ _ bZ)
  have HY := Lib.hid hY
  have HW5 := Lib.hid hW5
  clear hR4 hb4 hf4 hY hW5 b45 bD own1 hcx RD TD B3
  go_wp2_with (refine wpList_store_row rfl rfl 30 (.tmp 3) (.tmp 12) rfl w4.heap.size rfl 30 _ Y rfl bZ qZY qY oY ?_; rw [← HW5.out])
  clear bZ qZY oY HW5
  generalize hg1 : w.heap.size = g1 at ST ⊢
  generalize hg3 : w4.heap.size = g3 at ST ⊢
  have HG1 : Hid (g1 = w.heap.size) := Lib.hid hg1.symm
  have HDY : Hid (D = hcells F q1 c1 ∧ Y = hcells A q3 c3) := Lib.hid ⟨HD.out, HY.out⟩
  clear hg1 hg3 HD HY
  have HX : Hid (∀ w', Below W5.heap.size W5 w' → w'.heap[g1]? = some (.cells D 25 (0, 0)) ∧ w'.heap[g3]? = some (.cells Y 30 (0, 0)) ∧ Rd encS w' q1 F.ps ∧ Rd encN w' q3 A.ps ∧ TabAt w' ∧ Below g1 w w') := Lib.hid (fun w' hb => by
    have h := ST.out.old hb
    exact ⟨by rw [HDY.out.1]; exact h.bd, by rw [HDY.out.2]; exact h.bh, h.rd, h.rh.rd, h.tab, by rw [HG1.out]; exact h.b⟩)
  refine wp_region_puts (fun t v w => VK (match t with
    | 13 => .eq (.agg Y)
    | 14 => .eq (.int .i64 e)
    | 15 => .eq (.agg D)
    | 16 => .eq (.int .i64 e)
    | 17 => .eq (Value.bool false)
    | _ => .any) v w) (fun w' => Below W5.heap.size W5 w') 57 (by kernel_rfl) (by decide +kernel) rfl (Below.refl _ _).drew (by
    refine OweAll.cons (owesK rfl rfl fun a w1 ha hG hV => ?_) ?_
    · skip
      have h3 := ha.outer 3 (by decide +kernel)
      simp only [Act.eval] at h3
      exact ⟨.agg Y, w1, wanted_free rfl, exec_load_row 30 (.tmp 3) rfl g3 h3 30 Y (0, 0) _ (HX.out w1 hG).2.1 Tryd.underlying30 rfl qY, Below.refl _ _, rfl⟩
    refine OweAll.cons (owesK_call rfl rfl 9 fun a w1 ha hG hV => ?_) ?_
    · skip
      have h13 : a.tmps.getD 13 undef = .agg Y := hV.get 13 (by decide +kernel)
      refine ⟨#[.agg Y], wanted_free rfl, by simp [go_sem, h13], ?_⟩
      refine (hcx3.out w1 (HX.out w1 hG).2.2.2.1).mono ?_
      rintro r u2 ⟨rfl, hb⟩; exact ⟨_, rfl, rfl, hb⟩
    refine OweAll.cons (owesK rfl rfl fun a w1 ha hG hV => ?_) ?_
    · skip
      have h1 := ha.outer 1 (by decide +kernel)
      simp only [Act.eval] at h1
      exact ⟨.agg D, w1, wanted_free rfl, exec_load_row 25 (.tmp 1) rfl g1 h1 25 D (0, 0) _ (HX.out w1 hG).1 Tryd.underlying25 rfl qD, Below.refl _ _, rfl⟩
    refine OweAll.cons (owesK_call rfl rfl 10 fun a w1 ha hG hV => ?_) ?_
    · skip
      have h15 : a.tmps.getD 15 undef = .agg D := hV.get 15 (by decide +kernel)
      refine ⟨#[.agg D], wanted_free rfl, by simp [go_sem, h15], ?_⟩
      refine (rck1.out w1 (HX.out w1 hG).2.2.1).mono ?_
      rintro r u2 ⟨rfl, hb⟩; exact ⟨_, rfl, rfl, hb⟩
    refine OweAll.cons (owesK rfl rfl fun a w1 ha hG hV => ?_) ?_
    · skip
      have h14 : a.tmps.getD 14 undef = .int .i64 e := hV.get 14 (by decide +kernel)
      have h16 : a.tmps.getD 16 undef = .int .i64 e := hV.get 16 (by decide +kernel)
      exact ⟨Value.bool false, w1, wanted_free rfl, by simp [execOp, go_sem, h14, h16], Below.refl _ _, rfl⟩
    exact OweAll.nil
    ) ?_
  intro f wz hG hv
  have e17 : f 17 = Value.bool false := hv 4 _ 17 rfl rfl
  rename_i hK
  refine hK _ _ ?_
  clear hK hv
  simp only [dsts, puts, List.filterMap_cons, List.filterMap_nil, List.foldl_cons, List.foldl_nil, Act.put, List.setIfInBounds_toArray, List.set_cons_succ, List.set_cons_zero, e17]
  clear e17
  have hw6 := hG
  clear hG
  have d6 := (HX.out wz hw6).1
  go_wp2_with (refine wpList_load_row rfl 25 (.tmp 1) rfl g1 rfl 25 D (0, 0) _ d6 Tryd.underlying25 rfl qD ?_)
  clear d6
  refine (rck1.out wz (HX.out wz hw6).2.2.1).mono ?_
  rintro r w7 ⟨rfl, hb7⟩
  have B7 := Lib.hid (hw6.trans (hb7.mono hw6.size))
  clear hb7 hw6 hcx3
  by_cases z : e = 0
  case neg =>
    have t1 : (e == 0) = false := by simp [z]
    have t2 : (e != 0) = true := by simp [z]
    clear z
    have HB := Lib.hid (HX.out w7 B7.out).2.2.2.2.2
    go_wp2_with fail
    go_ret
    exact ⟨rfl, HG1.out ▸ HB.out⟩
  have FO := Lib.hid (hz.out z)
  subst z
  have S1 : Hid (∀ w, Rd encN w q3 A.ps → Calls Tryd.prog 12 #[.agg Y] w fun r w' => r = .returned (.string ⟨(hbytes (·.1) A).toArray⟩) ∧ Below w.heap.size w w') := Lib.hid (fun w h => by
    have o := HOk.of FO.out.oka
    rw [HDY.out.2]; exact hbytes_any A q3 c3 w h o.n o.k o.pw o.b1 o.b2 o.b3 o.b4)
  have S2 : Hid (∀ w, Rd encS w q1 F.ps → Calls Tryd.prog 14 #[.agg D] w fun r w' => r = .returned (.string ⟨(hbytes (·.1) A).toArray⟩) ∧ Below w.heap.size w w') := Lib.hid (fun w h => by
    rw [HDY.out.1, ← FO.out.bytes]; exact rbytes_any F q1 c1 w h FO.out.pos (by have := FO.out.flat; omega))
  have S3 : Hid (∀ w, Rd encN w q3 A.ps → TabAt w → Calls Tryd.prog 13 #[.agg Y] w fun r w' => r = .returned (.agg (vals (shaB (hbytes (·.1) A))).toArray) ∧ Below w.heap.size w w') := Lib.hid (fun w h hT => by
    rw [HDY.out.2]; exact hid_any A q3 c3 w h (HOk.of FO.out.oka) hT)
  have S4 : Hid (∀ w, Rd encS w q1 F.ps → Calls Tryd.prog 16 #[.agg D] w fun r w' => r = .returned (.string ⟨(shaB (hbytes (·.1) A)).toArray⟩) ∧ Below w.heap.size w w') := Lib.hid (fun w h => by
    rw [HDY.out.1, ← FO.out.bytes]; exact rid_any F q1 c1 w h FO.out.pos (by have := FO.out.flat; omega))
  have S5 : Hid (∀ w, Rd encN w q3 A.ps → Calls Tryd.prog 17 #[.agg Y] w fun r w' => r = .returned (.string ⟨(hfam A (kB (kset A.ps))).toArray⟩) ∧ Below w.heap.size w w') := Lib.hid (fun w h => by
    have o := HOk.of FO.out.oka
    rw [HDY.out.2]; exact hfamily_any A q3 c3 w h ST.out.rh.ao o.n o.pw o.b1)
  have S6 : Hid (∀ w, Rd encS w q1 F.ps → Calls Tryd.prog 18 #[.agg D] w fun r w' => r = .returned (.string ⟨(hfam A (kB (kset A.ps))).toArray⟩) ∧ Below w.heap.size w w') := Lib.hid (fun w h => by
    have o := FO.out.pos
    have := FO.out.ok.2.2.2.2.2.1
    rw [HDY.out.1, ← FO.out.fam]; exact rfamily_any F q1 c1 w h (by omega) o.pw o.b1 (by have := FO.out.sort; omega))
  have S7 : Hid (∀ w, Calls Tryd.prog 11 #[.string ⟨(hbytes (·.1) A).toArray⟩] w (HPost A 0 w)) := Lib.hid (fun w => by
    have o := HOk.of FO.out.oka
    have hl := hbytes_len A o
    have h := hparse_any (hbytes (·.1) A) w (by omega)
    rw [FO.out.par, FO.out.tk, if_pos rfl] at h; exact h)
  have S8 : Hid (∀ q c w, Rd encN w q A.ps → Rd encS w q1 F.ps → Calls Tryd.prog 15 #[.agg (hcells A q c), .agg D] w fun r w' => r = .returned (.bool true) ∧ Below w.heap.size w w') := Lib.hid (fun q c w h1 h2 => by
    have := same_any A F q q1 c c1 w h1 h2 (by have := FO.out.oka.2.2.2.2.2.1; omega)
    rw [FO.out.sm] at this; rw [HDY.out.1]; exact this)
  have lZ := shaB_len (hbytes (·.1) A)
  generalize hbytes (·.1) A = S at S1 S2 S3 S4 S7 lZ
  generalize shaB S = Z at S3 S4 lZ
  generalize hfam A (kB (kset A.ps)) = FM at S5 S6
  clear hz rck1
  have d7 := (HX.out w7 B7.out).2.1
  go_wp2_with (refine wpList_load_row rfl 30 (.tmp 3) rfl g3 rfl 30 Y (0, 0) _ d7 Tryd.underlying30 rfl qY ?_)
  clear d7
  refine (S1.out w7 (HX.out w7 B7.out).2.2.2.1).mono ?_
  rintro r w8 ⟨rfl, hb8⟩
  have B8 := Lib.hid (B7.out.trans (hb8.mono B7.out.size))
  clear hb8 B7
  go_wp2_with fail
  refine (S7.out w8).mono ?_
  rintro r w9 ⟨q5, c5, rfl, hR9, hb9, _⟩
  have S9 : Hid (∀ w, Rd encN w q5 A.ps → Rd encS w q1 F.ps → Calls Tryd.prog 15 #[.agg (hcells A q5 c5), .agg D] w fun r w' => r = .returned (.bool true) ∧ Below w.heap.size w w') := Lib.hid (S8.out q5 c5)
  have sV : (hcells A q5 c5).size = 7 := rfl
  have oV := hcells_oneA A q5 c5
  obtain ⟨V5, hV⟩ : ∃ Y, Y = hcells A q5 c5 := ⟨_, rfl⟩
  rw [← hV] at sV oV S9 ⊢
  have qV : (Tryd.prog.info? 30).map (·.size) = some V5.size := by rw [sV]; exact hinfo
  have qZV : (#[.int .i64 0, .int .i64 0, .string ⟨#[]⟩, .int .i64 0, .int .u64 0, .slice none 0 0, .int .i64 0] : Array Value).size = V5.size := by rw [sV]; rfl
  have bZ := heap_alloc_new w9 (.cells #[.int .i64 0, .int .i64 0, .string ⟨#[]⟩, .int .i64 0, .int .u64 0, .slice none 0 0, .int .i64 0] 30)
  obtain ⟨W10, hW10⟩ : ∃ W, W = (w9.alloc (.cells #[.int .i64 0, .int .i64 0, .string ⟨#[]⟩, .int .i64 0, .int .u64 0, .slice none 0 0, .int .i64 0] 30)).setRow w9.heap.size V5 := ⟨_, rfl⟩
  have b910 : Below w9.heap.size w9 W10 := by rw [hW10]; exact stored_below
  have B10 : Hid (Below W5.heap.size W5 W10) := Lib.hid (B8.out.trans ((hb9.trans (b910.mono hb9.size)).mono B8.out.size))
  have HV : Hid (W10.heap[w9.heap.size]? = some (.cells V5 30 (0, 0)) ∧ Rd encN W10 q5 A.ps) := Lib.hid ⟨by rw [hW10]; exact setRow_heap _ _ _ _ _ _ bZ, hR9.rd.old b910⟩
  have y10 := (HX.out W10 B10.out).2.1
  have HW10 := Lib.hid hW10
  clear hV hW10 b910 hR9 hb9 S8 S7 B8
  go_wp2_with (first | (refine wpList_store_row rfl rfl 30 (.tmp 4) (.tmp 25) rfl w9.heap.size rfl 30 _ V5 rfl bZ qZV qV oV ?_; rw [← HW10.out]) | (refine wpList_load_row rfl 30 (.tmp 3) rfl g3 rfl 30 Y (0, 0) _ y10 Tryd.underlying30 rfl qY ?_))
  clear bZ qZV oV y10 HW10
  generalize w9.heap.size = g4 at HV ⊢
  refine (S3.out W10 (HX.out W10 B10.out).2.2.2.1 (HX.out W10 B10.out).2.2.2.2.1).mono ?_
  rintro r w11 ⟨rfl, hb11⟩
  have hzr := zid_run
  have q2 := zid_len.trans (id_size lZ).symm
  have q3' := id_info lZ
  have q4 := id_one Z
  generalize (vals zid).toArray = ZA at hzr q2
  obtain ⟨W12, hW12⟩ : ∃ W, W = (w11.alloc (.cells ZA 39)).setRow w11.heap.size (vals Z).toArray := ⟨_, rfl⟩
  have b1112 : Below w11.heap.size w11 W12 := by rw [hW12]; exact stored_below
  have HI : Hid (IdAt W12 w11.heap.size Z) := Lib.hid (by rw [hW12]; exact IdAt.stored lZ)
  have bZ := heap_alloc_new w11 (.cells ZA 39)
  have b1012 := hb11.trans (b1112.mono hb11.size)
  have B12 : Hid (Below W5.heap.size W5 W12) := Lib.hid (B10.out.trans (b1012.mono B10.out.size))
  have HV2 : Hid (W12.heap[g4]? = some (.cells V5 30 (0, 0)) ∧ Rd encN W12 q5 A.ps) := Lib.hid ⟨(b1012.block _ (Array.getElem?_eq_some_iff.1 HV.out.1).1).trans HV.out.1, HV.out.2.old b1012⟩
  have HW12 := Lib.hid hW12
  clear hW12 b1112 b1012 hb11 HV B10 S3
  go_wp2_with (refine wpList_store_row rfl rfl 39 (.tmp 6) (.tmp 28) rfl w11.heap.size rfl 39 ZA (vals Z).toArray rfl bZ q2 q3' q4 ?_; rw [← HW12.out])
  clear bZ q2 q3' q4 HW12 hzr
  generalize w11.heap.size = g6 at HI ⊢
  have HY2 : Hid (∀ w', Below W12.heap.size W12 w' → w'.heap[g1]? = some (.cells D 25 (0, 0)) ∧ w'.heap[g3]? = some (.cells Y 30 (0, 0)) ∧ Rd encS w' q1 F.ps ∧ Rd encN w' q3 A.ps ∧ TabAt w' ∧ Below g1 w w' ∧ w'.heap[g4]? = some (.cells V5 30 (0, 0)) ∧ Rd encN w' q5 A.ps ∧ IdAt w' g6 Z) := Lib.hid (fun w' hb => by
    have h := HX.out w' (B12.out.trans (hb.mono B12.out.size))
    exact ⟨h.1, h.2.1, h.2.2.1, h.2.2.2.1, h.2.2.2.2.1, h.2.2.2.2.2, (hb.block _ (Array.getElem?_eq_some_iff.1 HV2.out.1).1).trans HV2.out.1, HV2.out.2.old hb, HI.out.old hb⟩)
  clear HX HV2 HI B12
  refine wp_region_puts (fun t v w => VK (match t with
    | 29 => .eq (.agg Y)
    | 30 => .eq (.string ⟨S.toArray⟩)
    | 31 => .eq (.agg D)
    | 32 => .eq (.string ⟨S.toArray⟩)
    | 33 => .eq (Value.bool true)
    | 34 => .eq (Value.bool true)
    | 35 => .eq (.int .i64 0)
    | 36 => .eq (Value.bool true)
    | 37 => .eq (Value.bool true)
    | 38 => .eq (Value.bool true)
    | 39 => .eq (.agg V5)
    | 40 => .eq (.agg D)
    | 41 => .eq (Value.bool true)
    | 42 => .eq (Value.bool true)
    | 43 => .eq (Value.bool true)
    | 44 => .eq (.slice (some ⟨g6, 0, none⟩) 32 32)
    | 45 => .eq (.string ⟨Z.toArray⟩)
    | 46 => .eq (.agg D)
    | 47 => .eq (.string ⟨Z.toArray⟩)
    | 48 => .eq (Value.bool true)
    | 49 => .eq (Value.bool true)
    | 50 => .eq (Value.bool true)
    | 51 => .eq (.agg Y)
    | 52 => .eq (.string ⟨FM.toArray⟩)
    | 53 => .eq (.agg D)
    | 54 => .eq (.string ⟨FM.toArray⟩)
    | 55 => .eq (Value.bool true)
    | 56 => .eq (Value.bool true)
    | 2 => .eq (Value.bool true)
    | _ => .any) v w) (fun w' => Below W12.heap.size W12 w') 57 (by kernel_rfl) (by decide +kernel) rfl (Below.refl _ _).drew (by
    refine OweAll.cons (owesK rfl rfl fun a w1 ha hG hV => ?_) ?_
    · skip
      have h3 := ha.outer 3 (by decide +kernel)
      simp only [Act.eval] at h3
      exact ⟨.agg Y, w1, wanted_free rfl, exec_load_row 30 (.tmp 3) rfl g3 h3 30 Y (0, 0) _ (HY2.out w1 hG).2.1 Tryd.underlying30 rfl qY, Below.refl _ _, rfl⟩
    refine OweAll.cons (owesK_call rfl rfl 12 fun a w1 ha hG hV => ?_) ?_
    · skip
      have h29 : a.tmps.getD 29 undef = .agg Y := hV.get 29 (by decide +kernel)
      refine ⟨#[.agg Y], wanted_free rfl, by simp [go_sem, h29], ?_⟩
      refine (S1.out w1 (HY2.out w1 hG).2.2.2.1).mono ?_
      rintro r u2 ⟨rfl, hb⟩; exact ⟨_, rfl, rfl, hb⟩
    refine OweAll.cons (owesK rfl rfl fun a w1 ha hG hV => ?_) ?_
    · skip
      have h1 := ha.outer 1 (by decide +kernel)
      simp only [Act.eval] at h1
      exact ⟨.agg D, w1, wanted_free rfl, exec_load_row 25 (.tmp 1) rfl g1 h1 25 D (0, 0) _ (HY2.out w1 hG).1 Tryd.underlying25 rfl qD, Below.refl _ _, rfl⟩
    refine OweAll.cons (owesK_call rfl rfl 14 fun a w1 ha hG hV => ?_) ?_
    · skip
      have h31 : a.tmps.getD 31 undef = .agg D := hV.get 31 (by decide +kernel)
      refine ⟨#[.agg D], wanted_free rfl, by simp [go_sem, h31], ?_⟩
      refine (S2.out w1 (HY2.out w1 hG).2.2.1).mono ?_
      rintro r u2 ⟨rfl, hb⟩; exact ⟨_, rfl, rfl, hb⟩
    refine OweAll.cons (owesK rfl rfl fun a w1 ha hG hV => ?_) ?_
    · skip
      have h30 : a.tmps.getD 30 undef = .string ⟨S.toArray⟩ := hV.get 30 (by decide +kernel)
      have h32 : a.tmps.getD 32 undef = .string ⟨S.toArray⟩ := hV.get 32 (by decide +kernel)
      exact ⟨Value.bool true, w1, wanted_free rfl, by simp [execOp, go_sem, h30, h32], Below.refl _ _, rfl⟩
    refine OweAll.cons (owesK rfl rfl fun a w1 ha hG hV => ?_) ?_
    · skip
      have h33 : a.tmps.getD 33 undef = Value.bool true := hV.get 33 (by decide +kernel)
      exact ⟨Value.bool true, w1, wanted_free rfl, by simp [execOp, go_sem, h33], Below.refl _ _, rfl⟩
    refine OweAll.cons (owesK rfl rfl fun a w1 ha hG hV => ?_) ?_
    · skip
      have h5 := ha.outer 5 (by decide +kernel)
      simp only [Act.eval] at h5
      exact ⟨.int .i64 0, w1, (wanted_of (t := 34) rfl rfl (hV.get 34 (by decide +kernel))), by simp [execOp, go_sem, h5], Below.refl _ _, rfl⟩
    refine OweAll.cons (owesK rfl rfl fun a w1 ha hG hV => ?_) ?_
    · skip
      have h35 : a.tmps.getD 35 undef = .int .i64 0 := hV.get 35 (by decide +kernel)
      exact ⟨Value.bool true, w1, (wanted_of (t := 34) rfl rfl (hV.get 34 (by decide +kernel))), by simp [execOp, go_sem, h35], Below.refl _ _, rfl⟩
    refine OweAll.cons (owesK rfl rfl fun a w1 ha hG hV => ?_) ?_
    · skip
      have h34 : a.tmps.getD 34 undef = Value.bool true := hV.get 34 (by decide +kernel)
      have h36 : a.tmps.getD 36 undef = Value.bool true := hV.get 36 (by decide +kernel)
      exact ⟨Value.bool true, w1, wanted_free rfl, by simp [execOp, go_sem, h34, h36], Below.refl _ _, rfl⟩
    refine OweAll.cons (owesK rfl rfl fun a w1 ha hG hV => ?_) ?_
    · skip
      have h37 : a.tmps.getD 37 undef = Value.bool true := hV.get 37 (by decide +kernel)
      exact ⟨Value.bool true, w1, wanted_free rfl, by simp [execOp, go_sem, h37], Below.refl _ _, rfl⟩
    refine OweAll.cons (owesK rfl rfl fun a w1 ha hG hV => ?_) ?_
    · skip
      have h4 := ha.outer 4 (by decide +kernel)
      simp only [Act.eval] at h4
      exact ⟨.agg V5, w1, (wanted_of (t := 38) rfl rfl (hV.get 38 (by decide +kernel))), exec_load_row 30 (.tmp 4) rfl g4 h4 30 V5 (0, 0) _ (HY2.out w1 hG).2.2.2.2.2.2.1 Tryd.underlying30 rfl qV, Below.refl _ _, rfl⟩
    refine OweAll.cons (owesK rfl rfl fun a w1 ha hG hV => ?_) ?_
    · skip
      have h1 := ha.outer 1 (by decide +kernel)
      simp only [Act.eval] at h1
      exact ⟨.agg D, w1, (wanted_of (t := 38) rfl rfl (hV.get 38 (by decide +kernel))), exec_load_row 25 (.tmp 1) rfl g1 h1 25 D (0, 0) _ (HY2.out w1 hG).1 Tryd.underlying25 rfl qD, Below.refl _ _, rfl⟩
    refine OweAll.cons (owesK_call rfl rfl 15 fun a w1 ha hG hV => ?_) ?_
    · skip
      have h39 : a.tmps.getD 39 undef = .agg V5 := hV.get 39 (by decide +kernel)
      have h40 : a.tmps.getD 40 undef = .agg D := hV.get 40 (by decide +kernel)
      refine ⟨#[.agg V5, .agg D], (wanted_of (t := 38) rfl rfl (hV.get 38 (by decide +kernel))), by simp [go_sem, h39, h40], ?_⟩
      refine (S9.out w1 (HY2.out w1 hG).2.2.2.2.2.2.2.1 (HY2.out w1 hG).2.2.1).mono ?_
      rintro r u2 ⟨rfl, hb⟩; exact ⟨_, rfl, rfl, hb⟩
    refine OweAll.cons (owesK rfl rfl fun a w1 ha hG hV => ?_) ?_
    · skip
      have h38 : a.tmps.getD 38 undef = Value.bool true := hV.get 38 (by decide +kernel)
      have h41 : a.tmps.getD 41 undef = Value.bool true := hV.get 41 (by decide +kernel)
      exact ⟨Value.bool true, w1, wanted_free rfl, by simp [execOp, go_sem, h38, h41], Below.refl _ _, rfl⟩
    refine OweAll.cons (owesK rfl rfl fun a w1 ha hG hV => ?_) ?_
    · skip
      have h42 : a.tmps.getD 42 undef = Value.bool true := hV.get 42 (by decide +kernel)
      exact ⟨Value.bool true, w1, wanted_free rfl, by simp [execOp, go_sem, h42], Below.refl _ _, rfl⟩
    refine OweAll.cons (owesK rfl rfl fun a w1 ha hG hV => ?_) ?_
    · skip
      have h6 := ha.outer 6 (by decide +kernel)
      simp only [Act.eval] at h6
      exact ⟨.slice (some ⟨g6, 0, none⟩) 32 32, w1, (wanted_of (t := 43) rfl rfl (hV.get 43 (by decide +kernel))), by simp [execOp, go_sem, h6], Below.refl _ _, rfl⟩
    refine OweAll.cons (owesK rfl rfl fun a w1 ha hG hV => ?_) ?_
    · skip
      have h44 : a.tmps.getD 44 undef = .slice (some ⟨g6, 0, none⟩) 32 32 := hV.get 44 (by decide +kernel)
      exact ⟨.string ⟨Z.toArray⟩, w1, (wanted_of (t := 43) rfl rfl (hV.get 43 (by decide +kernel))), by simp [execOp, go_sem, h44, ((HY2.out w1 hG).2.2.2.2.2.2.2.2).text], Below.refl _ _, rfl⟩
    refine OweAll.cons (owesK rfl rfl fun a w1 ha hG hV => ?_) ?_
    · skip
      have h1 := ha.outer 1 (by decide +kernel)
      simp only [Act.eval] at h1
      exact ⟨.agg D, w1, (wanted_of (t := 43) rfl rfl (hV.get 43 (by decide +kernel))), exec_load_row 25 (.tmp 1) rfl g1 h1 25 D (0, 0) _ (HY2.out w1 hG).1 Tryd.underlying25 rfl qD, Below.refl _ _, rfl⟩
    refine OweAll.cons (owesK_call rfl rfl 16 fun a w1 ha hG hV => ?_) ?_
    · skip
      have h46 : a.tmps.getD 46 undef = .agg D := hV.get 46 (by decide +kernel)
      refine ⟨#[.agg D], (wanted_of (t := 43) rfl rfl (hV.get 43 (by decide +kernel))), by simp [go_sem, h46], ?_⟩
      refine (S4.out w1 (HY2.out w1 hG).2.2.1).mono ?_
      rintro r u2 ⟨rfl, hb⟩; exact ⟨_, rfl, rfl, hb⟩
    refine OweAll.cons (owesK rfl rfl fun a w1 ha hG hV => ?_) ?_
    · skip
      have h45 : a.tmps.getD 45 undef = .string ⟨Z.toArray⟩ := hV.get 45 (by decide +kernel)
      have h47 : a.tmps.getD 47 undef = .string ⟨Z.toArray⟩ := hV.get 47 (by decide +kernel)
      exact ⟨Value.bool true, w1, (wanted_of (t := 43) rfl rfl (hV.get 43 (by decide +kernel))), by simp [execOp, go_sem, h45, h47], Below.refl _ _, rfl⟩
    refine OweAll.cons (owesK rfl rfl fun a w1 ha hG hV => ?_) ?_
    · skip
      have h43 : a.tmps.getD 43 undef = Value.bool true := hV.get 43 (by decide +kernel)
      have h48 : a.tmps.getD 48 undef = Value.bool true := hV.get 48 (by decide +kernel)
      exact ⟨Value.bool true, w1, wanted_free rfl, by simp [execOp, go_sem, h43, h48], Below.refl _ _, rfl⟩
    refine OweAll.cons (owesK rfl rfl fun a w1 ha hG hV => ?_) ?_
    · skip
      have h49 : a.tmps.getD 49 undef = Value.bool true := hV.get 49 (by decide +kernel)
      exact ⟨Value.bool true, w1, wanted_free rfl, by simp [execOp, go_sem, h49], Below.refl _ _, rfl⟩
    refine OweAll.cons (owesK rfl rfl fun a w1 ha hG hV => ?_) ?_
    · skip
      have h3 := ha.outer 3 (by decide +kernel)
      simp only [Act.eval] at h3
      exact ⟨.agg Y, w1, (wanted_of (t := 50) rfl rfl (hV.get 50 (by decide +kernel))), exec_load_row 30 (.tmp 3) rfl g3 h3 30 Y (0, 0) _ (HY2.out w1 hG).2.1 Tryd.underlying30 rfl qY, Below.refl _ _, rfl⟩
    refine OweAll.cons (owesK_call rfl rfl 17 fun a w1 ha hG hV => ?_) ?_
    · skip
      have h51 : a.tmps.getD 51 undef = .agg Y := hV.get 51 (by decide +kernel)
      refine ⟨#[.agg Y], (wanted_of (t := 50) rfl rfl (hV.get 50 (by decide +kernel))), by simp [go_sem, h51], ?_⟩
      refine (S5.out w1 (HY2.out w1 hG).2.2.2.1).mono ?_
      rintro r u2 ⟨rfl, hb⟩; exact ⟨_, rfl, rfl, hb⟩
    refine OweAll.cons (owesK rfl rfl fun a w1 ha hG hV => ?_) ?_
    · skip
      have h1 := ha.outer 1 (by decide +kernel)
      simp only [Act.eval] at h1
      exact ⟨.agg D, w1, (wanted_of (t := 50) rfl rfl (hV.get 50 (by decide +kernel))), exec_load_row 25 (.tmp 1) rfl g1 h1 25 D (0, 0) _ (HY2.out w1 hG).1 Tryd.underlying25 rfl qD, Below.refl _ _, rfl⟩
    refine OweAll.cons (owesK_call rfl rfl 18 fun a w1 ha hG hV => ?_) ?_
    · skip
      have h53 : a.tmps.getD 53 undef = .agg D := hV.get 53 (by decide +kernel)
      refine ⟨#[.agg D], (wanted_of (t := 50) rfl rfl (hV.get 50 (by decide +kernel))), by simp [go_sem, h53], ?_⟩
      refine (S6.out w1 (HY2.out w1 hG).2.2.1).mono ?_
      rintro r u2 ⟨rfl, hb⟩; exact ⟨_, rfl, rfl, hb⟩
    refine OweAll.cons (owesK rfl rfl fun a w1 ha hG hV => ?_) ?_
    · skip
      have h52 : a.tmps.getD 52 undef = .string ⟨FM.toArray⟩ := hV.get 52 (by decide +kernel)
      have h54 : a.tmps.getD 54 undef = .string ⟨FM.toArray⟩ := hV.get 54 (by decide +kernel)
      exact ⟨Value.bool true, w1, (wanted_of (t := 50) rfl rfl (hV.get 50 (by decide +kernel))), by simp [execOp, go_sem, h52, h54], Below.refl _ _, rfl⟩
    refine OweAll.cons (owesK rfl rfl fun a w1 ha hG hV => ?_) ?_
    · skip
      have h50 : a.tmps.getD 50 undef = Value.bool true := hV.get 50 (by decide +kernel)
      have h55 : a.tmps.getD 55 undef = Value.bool true := hV.get 55 (by decide +kernel)
      exact ⟨Value.bool true, w1, wanted_free rfl, by simp [execOp, go_sem, h50, h55], Below.refl _ _, rfl⟩
    refine OweAll.cons (owesK rfl rfl fun a w1 ha hG hV => ?_) ?_
    · skip
      have h56 : a.tmps.getD 56 undef = Value.bool true := hV.get 56 (by decide +kernel)
      exact ⟨Value.bool true, w1, wanted_free rfl, by simp [execOp, go_sem, h56], Below.refl _ _, rfl⟩
    exact OweAll.nil
    ) ?_
  intro f wz hG hv
  have e2 : f 2 = Value.bool true := hv 28 _ 2 rfl rfl
  rename_i hK
  refine hK _ _ ?_
  clear hK hv
  simp only [dsts, puts, List.filterMap_cons, List.filterMap_nil, List.foldl_cons, List.foldl_nil, Act.put, List.setIfInBounds_toArray, List.set_cons_succ, List.set_cons_zero, e2]
  clear e2
  have HB := Lib.hid (HY2.out wz hG).2.2.2.2.2.1
  clear hG
  go_wp2_with fail
  go_ret
  exact ⟨rfl, HG1.out ▸ HB.out⟩
end Go.Proofs.YtiegakeacghnfaaDoor
