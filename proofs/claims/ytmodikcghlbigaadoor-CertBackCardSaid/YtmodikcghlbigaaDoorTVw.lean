/- The law CertBack. -/
import Derived.Test.YtmodikcghlbigaaDoorB10
namespace Go.Proofs.YtmodikcghlbigaaDoor
open Go.RowKit

theorem fewC_len (X : Ct) (h1 : (X.base.length : Int) ≤ 9223372036854775807) : (fewC X).sg.length ≤ 66 ∧ (fewC X).ch.length ≤ 66 ∧ (fewC X).base.length ≤ 200 ∧ (fewC X).fin.length ≤ 200 := by
  unfold fewC; simp only [List.length_take]; omega
theorem CtAt.few {w : World} {X : Ct} {p q : Option Addr} (h : CtAt w X p q) : CtAt w (fewC X) p q := ⟨h.1.take 66, h.2.take 66⟩

set_option maxRecDepth 20000 in
set_option maxHeartbeats 16000000 in
theorem certBack_any (X : Ct) (p q : Option Addr) (cp cq : Nat) (w : World) (hX : CtAt w X p q) (l1 : X.sg.length ≤ cp) (l2 : X.ch.length ≤ cq) (k1 : (X.base.length : Int) ≤ 9223372036854775807) (k2 : (X.fin.length : Int) ≤ 9223372036854775807) (hT : TabAt w) :
    Calls Tryd.prog 3 #[.agg (ctc X p q cp cq)] w fun r w' => r = .returned (.bool true) ∧ Below w.heap.size w w' := by
  have kfew := Lib.hid (fun w => few07_any X p q cp cq w l1 l2 k1 k2)
  obtain ⟨n1, n2, n3, n4⟩ := fewC_len X k1
  have hF0 := hX.few
  obtain ⟨F, hF⟩ : ∃ F, F = fewC X := ⟨_, rfl⟩
  rw [← hF] at kfew n1 n2 n3 n4 hF0
  have hD0s : (ctc X p q cp cq).size = 5 := rfl
  obtain ⟨D0, hD0⟩ : ∃ D, D = ctc X p q cp cq := ⟨_, rfl⟩
  rw [← hD0] at kfew hD0s ⊢
  obtain ⟨D, hD⟩ : ∃ D, D = ctc F p q cp cq := ⟨_, rfl⟩
  rw [← hD] at kfew
  have hDs : D.size = 5 := by rw [hD]; rfl
  have oD : ∀ v ∈ D.toList, v.oneCell' = true := by rw [hD]; exact ctc_one _ _ _ _ _
  have qD0 : (Tryd.prog.info? 25).map (·.size) = some D0.size := by rw [hD0s]; exact rct_info
  have qD : (Tryd.prog.info? 25).map (·.size) = some D.size := by rw [hDs]; exact rct_info
  have qDD : D0.size = D.size := by rw [hD0s, hDs]
  have HD := Lib.hid hD
  have HF0 := Lib.hid hF0
  have HT := Lib.hid hT
  have Hn := Lib.hid (And.intro n1 (And.intro n2 (And.intro n3 n4)))
  obtain ⟨W0, hW0⟩ : ∃ W, W = w.alloc (.cells D0 25) := ⟨_, rfl⟩
  have b0 : Below w.heap.size w W0 := by rw [hW0]; exact (Below.refl _ w).alloc (Nat.le_refl _) _
  have r0 : W0.heap[w.heap.size]? = some (.cells D0 25 (0, 0)) := by rw [hW0]; exact heap_alloc_new w _
  have haw := awake07_any W0 (hT.old b0)
  have B0 := Lib.hid b0
  have R0 := Lib.hid r0
  have HW0 := Lib.hid hW0
  clear b0 r0 hW0 hD hD0 hF hF0 hX n1 n2 n3 n4 l1 l2 k1 k2 hT hD0s
  go_enter Tryd.func3, Tryd.ntmps3
  go_wp2_with fail
  rw [← HW0.out]
  refine haw.mono ?_
  rintro r w1 ⟨rfl, hb1⟩
  have B1 := Lib.hid (B0.out.trans (hb1.mono B0.out.size))
  have r1 := (hb1.block _ (Array.getElem?_eq_some_iff.1 R0.out).1).trans R0.out
  have R1 := Lib.hid r1
  clear hb1 haw R0
  go_wp2_with (refine wpList_load_row rfl 25 (.tmp 1) rfl w.heap.size rfl 25 D0 (0, 0) _ r1 Tryd.underlying25 rfl qD0 ?_)
  refine (kfew.out w1).mono ?_
  rintro r w2 ⟨rfl, hb2⟩
  have r2 := (hb2.block _ (Array.getElem?_eq_some_iff.1 R1.out).1).trans R1.out
  have B2 := Lib.hid (B1.out.trans (hb2.mono B1.out.size))
  obtain ⟨W3, hW3⟩ : ∃ W, W = w2.setRow w.heap.size D := ⟨_, rfl⟩
  have B3 : Hid (Below w.heap.size w W3) := Lib.hid (by rw [hW3]; exact ((Mod.of_below B2.out).setRow D).to_below (Nat.le_refl _) (by rintro k hk (h | h) <;> omega))
  have R3 : Hid (W3.heap[w.heap.size]? = some (.cells D 25 (0, 0))) := Lib.hid (by rw [hW3]; exact setRow_heap _ _ _ _ _ _ r2)
  have HW3 := Lib.hid hW3
  clear hb2 r1 R1 hW3 kfew B1 B0
  go_upto_region 4 with (refine wpList_store_row rfl rfl 25 (.tmp 1) (.tmp 10) rfl w.heap.size rfl 25 D0 D rfl r2 qDD qD oD ?_)
  rw [← HW3.out]
  obtain ⟨g1, hg1⟩ : ∃ g, g = w.heap.size := ⟨_, rfl⟩
  rw [← hg1] at R3 ⊢
  have HG1 := Lib.hid hg1
  have r3 := R3.out
  have kown : Hid (Calls Tryd.prog 8 #[.agg D] W3 fun r w' => ∃ p' q' cp' cq', r = .returned (.agg (ctc F p' q' cp' cq')) ∧ CtAt w' F p' q' ∧ Below W3.heap.size W3 w') := Lib.hid (by
    rw [HD.out]
    exact own07_any F p q cp cq W3 (HF0.out.old B3.out) (by have := Hn.out; omega) (by have := Hn.out; omega))
  clear r2 HW3 hg1 B2
  go_wp2_with (refine wpList_load_row rfl 25 (.tmp 1) rfl g1 rfl 25 D (0, 0) _ r3 Tryd.underlying25 rfl qD ?_)
  refine kown.out.mono ?_
  rintro r w4 ⟨p3, q3, cp3, cq3, rfl, hat4, hb4⟩
  obtain ⟨Y, hY⟩ : ∃ Y, Y = ctc F p3 q3 cp3 cq3 := ⟨_, rfl⟩
  have hYs : Y.size = 5 := by rw [hY]; rfl
  have oY : ∀ v ∈ Y.toList, v.oneCell' = true := by rw [hY]; exact ctc_one _ _ _ _ _
  have qY : (Tryd.prog.info? 30).map (·.size) = some Y.size := by rw [hYs]; exact ct_info
  have qZY : (#[.int .i64 0, .string ⟨#[]⟩, .string ⟨#[]⟩, .slice none 0 0, .slice none 0 0] : Array Value).size = Y.size := by rw [hYs]; rfl
  rw [← hY]
  have HY := Lib.hid hY
  obtain ⟨W5, hW5⟩ : ∃ W, W = (w4.alloc (.cells #[.int .i64 0, .string ⟨#[]⟩, .string ⟨#[]⟩, .slice none 0 0, .slice none 0 0] 30)).setRow w4.heap.size Y := ⟨_, rfl⟩
  have hg4 := heap_alloc_new w4 (.cells #[.int .i64 0, .string ⟨#[]⟩, .string ⟨#[]⟩, .slice none 0 0, .slice none 0 0] 30)
  have b45 : Below w4.heap.size w4 W5 := by rw [hW5]; exact stored_new w4 _ Y 30
  have b35 := hb4.trans (b45.mono hb4.size)
  have x3 : W5.heap[w4.heap.size]? = some (.cells Y 30 (0, 0)) := by rw [hW5]; exact setRow_heap _ _ _ _ _ _ hg4
  have x1 : W5.heap[g1]? = some (.cells D 25 (0, 0)) := (b35.block _ (Array.getElem?_eq_some_iff.1 R3.out).1).trans R3.out
  have B5 : Below w.heap.size w W5 := B3.out.trans (b35.mono B3.out.size)
  have at5 := hat4.old b45
  have HX : Hid (∀ w', Below W5.heap.size W5 w' → w'.heap[g1]? = some (.cells D 25 (0, 0)) ∧ w'.heap[w4.heap.size]? = some (.cells Y 30 (0, 0)) ∧ CtAt w' F p q ∧ CtAt w' F p3 q3 ∧ TabAt w' ∧ Below w.heap.size w w') := Lib.hid (fun w' h => by
    have hw := B5.trans (h.mono B5.size)
    exact ⟨(h.block _ (Array.getElem?_eq_some_iff.1 x1).1).trans x1, (h.block _ (Array.getElem?_eq_some_iff.1 x3).1).trans x3, HF0.out.old hw, at5.old h, HT.out.old hw, hw⟩)
  have HW5 := Lib.hid hW5
  clear hY hYs hW5 b45 b35 x3 x1 B5 at5 hat4 hb4 r3 R3 B3 kown HF0 HT
  go_upto_region 5 with (refine wpList_store_row rfl rfl 30 (.tmp 3) (.tmp 12) rfl w4.heap.size rfl 30 #[.int .i64 0, .string ⟨#[]⟩, .string ⟨#[]⟩, .slice none 0 0, .slice none 0 0] Y rfl hg4 qZY qY oY ?_)
  rw [← HW5.out]
  generalize w4.heap.size = g3 at HX ⊢
  clear hg4 HW5 qZY oY
  have k14 : Hid (∀ w, CtAt w F p3 q3 → Calls Tryd.prog 9 #[.agg Y] w fun r w' => r = .returned (.int .i64 (ck F)) ∧ Below w.heap.size w w') := Lib.hid (fun w h => by rw [HY.out]; have := Hn.out; exact kcheck_any F p3 q3 cp3 cq3 w h (by omega) (by omega) (by omega) (by omega))
  have k16 : Hid (∀ w, CtAt w F p q → Calls Tryd.prog 10 #[.agg D] w fun r w' => r = .returned (.int .i64 (ck F)) ∧ Below w.heap.size w w') := Lib.hid (fun w h => by rw [HD.out]; have := Hn.out; exact rcheck_any F p q cp cq w h (by omega) (by omega) (by omega) (by omega))
  have hz : ck F = 0 → CtOk F := fun h => ck_ok.1 h
  generalize ck F = E at k14 k16 hz
  refine wp_region_puts (fun t v w => VK (match t with
    | 13 => .eq (.agg Y)
    | 14 => .eq (.int .i64 E)
    | 15 => .eq (.agg D)
    | 16 => .eq (.int .i64 E)
    | 17 => .eq (Value.bool false)
    | _ => .any) v w) (fun w' => Below W5.heap.size W5 w') 50 (by kernel_rfl) (by decide +kernel) rfl (Below.refl _ _).drew (by
    refine OweAll.cons (owesK rfl rfl fun a w1 ha hG hV => ?_) ?_
    · skip
      have h3 := ha.outer 3 (by decide +kernel)
      simp only [Act.eval] at h3
      exact ⟨.agg Y, w1, wanted_free rfl, exec_load_row 30 (.tmp 3) rfl g3 h3 30 Y (0, 0) _ (HX.out w1 hG).2.1 Tryd.underlying30 rfl qY, Below.refl _ _, rfl⟩
    refine OweAll.cons (owesK_call rfl rfl 9 fun a w1 ha hG hV => ?_) ?_
    · skip
      have h13 : a.tmps.getD 13 undef = .agg Y := hV.get 13 (by decide +kernel)
      refine ⟨#[.agg Y], wanted_free rfl, by simp [execOp, resolve, invoke, go_sem, h13], ?_⟩
      refine (k14.out w1 (HX.out w1 hG).2.2.2.1).mono ?_
      rintro r u2 ⟨rfl, hb⟩; exact ⟨_, rfl, rfl, hb⟩
    refine OweAll.cons (owesK rfl rfl fun a w1 ha hG hV => ?_) ?_
    · skip
      have h1 := ha.outer 1 (by decide +kernel)
      simp only [Act.eval] at h1
      exact ⟨.agg D, w1, wanted_free rfl, exec_load_row 25 (.tmp 1) rfl g1 h1 25 D (0, 0) _ (HX.out w1 hG).1 Tryd.underlying25 rfl qD, Below.refl _ _, rfl⟩
    refine OweAll.cons (owesK_call rfl rfl 10 fun a w1 ha hG hV => ?_) ?_
    · skip
      have h15 : a.tmps.getD 15 undef = .agg D := hV.get 15 (by decide +kernel)
      refine ⟨#[.agg D], wanted_free rfl, by simp [execOp, resolve, invoke, go_sem, h15], ?_⟩
      refine (k16.out w1 (HX.out w1 hG).2.2.1).mono ?_
      rintro r u2 ⟨rfl, hb⟩; exact ⟨_, rfl, rfl, hb⟩
    refine OweAll.cons (owesK rfl rfl fun a w1 ha hG hV => ?_) ?_
    · skip
      have h14 : a.tmps.getD 14 undef = .int .i64 E := hV.get 14 (by decide +kernel)
      have h16 : a.tmps.getD 16 undef = .int .i64 E := hV.get 16 (by decide +kernel)
      exact ⟨Value.bool false, w1, wanted_free rfl, by simp [execOp, go_sem, h14, h16], Below.refl _ _, rfl⟩
    exact OweAll.nil
    ) ?_
  intro f wz hG hv
  have e17 : f 17 = Value.bool false := hv 4 _ 17 rfl rfl
  rename_i hK
  refine hK _ _ ?_
  clear hK hv
  simp only [dsts, puts, List.filterMap_cons, List.filterMap_nil, List.foldl_cons, List.foldl_nil, Act.put, List.setIfInBounds_toArray, List.set_cons_succ, List.set_cons_zero, e17]
  clear e17
  have B6 := Lib.hid hG
  have r6 := (HX.out wz hG).1
  have rck1 := Lib.hid (k16.out wz (HX.out wz hG).2.2.1)
  clear hG k14 k16
  go_wp2_with (refine wpList_load_row rfl 25 (.tmp 1) rfl g1 rfl 25 D (0, 0) _ r6 Tryd.underlying25 rfl qD ?_)
  refine rck1.out.mono ?_
  rintro r w7 ⟨rfl, hb7⟩
  have B7 := Lib.hid (B6.out.trans (hb7.mono B6.out.size))
  clear hb7 r6 rck1 B6
  by_cases z : E = 0
  case neg =>
    have z1 : (E == 0) = false := beq_eq_false_iff_ne.2 z
    have z2 : (E != 0) = true := by rw [bne_iff_ne]; exact z
    have HB := Lib.hid (HX.out w7 B7.out).2.2.2.2.2
    clear z hz
    go_wp2_with fail
    go_ret
    exact ⟨rfl, HB.out⟩
  have FO := Lib.hid (hz z)
  subst z
  have S1 : Hid (∀ w, CtAt w F p3 q3 → Calls Tryd.prog 12 #[.agg Y] w fun r w' => r = .returned (.string ⟨(ctB F).toArray⟩) ∧ Below w.heap.size w w') := Lib.hid (fun w h => by rw [HY.out]; exact kbytes_any F p3 q3 cp3 cq3 w h FO.out)
  have S2 : Hid (∀ w, CtAt w F p q → Calls Tryd.prog 14 #[.agg D] w fun r w' => r = .returned (.string ⟨(ctB F).toArray⟩) ∧ Below w.heap.size w w') := Lib.hid (fun w h => by rw [HD.out]; exact rbytes_any F p q cp cq w h FO.out)
  have S3 : Hid (∀ w, CtAt w F p3 q3 → TabAt w → Calls Tryd.prog 13 #[.agg Y] w fun r w' => r = .returned (.agg (vals (shaB (ctB F))).toArray) ∧ Below w.heap.size w w') := Lib.hid (fun w h hT => by rw [HY.out]; exact kid_any F p3 q3 cp3 cq3 w h FO.out hT)
  have S4 : Hid (∀ w, CtAt w F p q → Calls Tryd.prog 16 #[.agg D] w fun r w' => r = .returned (.string ⟨(shaB (ctB F)).toArray⟩) ∧ Below w.heap.size w w') := Lib.hid (fun w h => by rw [HD.out]; exact rid_any F p q cp cq w h FO.out)
  have S7 : Hid (∀ w, Calls Tryd.prog 11 #[.string ⟨(ctB F).toArray⟩] w (KPost F 0 w)) := Lib.hid (fun w => by
    have h := par_back FO.out
    have := kparse_any (ctB F) w (by have := ctB_len FO.out; omega)
    rw [h.1, h.2] at this; exact this)
  have S8 : Hid (∀ p5 q5 cp5 cq5 w, CtAt w F p5 q5 → CtAt w F p q → Calls Tryd.prog 15 #[.agg (ctc F p5 q5 cp5 cq5), .agg D] w fun r w' => r = .returned (.bool true) ∧ Below w.heap.size w w') := Lib.hid (fun p5 q5 cp5 cq5 w h1 h2 => by
    rw [HD.out]
    refine (same07_any F F p5 q5 p q cp5 cq5 cp cq w h1 h2 (by have := Hn.out; omega) (by have := Hn.out; omega)).mono ?_
    rintro r w' ⟨R, h1, rfl, h2⟩
    exact ⟨by rw [h1.2 rfl], h2⟩)
  have lZ := shaB_len (ctB F)
  generalize ctB F = S at S1 S2 S3 S4 S7 lZ
  generalize shaB S = ZZ at S3 S4 lZ
  clear hz
  have d7 := (HX.out w7 B7.out).2.1
  go_wp2_with (refine wpList_load_row rfl 30 (.tmp 3) rfl g3 rfl 30 Y (0, 0) _ d7 Tryd.underlying30 rfl qY ?_)
  clear d7
  refine (S1.out w7 (HX.out w7 B7.out).2.2.2.1).mono ?_
  rintro r w8 ⟨rfl, hb8⟩
  have B8 := Lib.hid (B7.out.trans (hb8.mono B7.out.size))
  clear hb8 B7
  go_wp2_with fail
  refine (S7.out w8).mono ?_
  rintro r w9 ⟨p5, q5, cp5, cq5, rfl, hat9, hb9, -, -⟩
  have S9 := Lib.hid (S8.out p5 q5 cp5 cq5)
  have sV : (ctc F p5 q5 cp5 cq5).size = 5 := rfl
  have oV := ctc_one F p5 q5 cp5 cq5
  obtain ⟨V5, hV⟩ : ∃ Y, Y = ctc F p5 q5 cp5 cq5 := ⟨_, rfl⟩
  rw [← hV] at sV oV S9 ⊢
  have qV : (Tryd.prog.info? 30).map (·.size) = some V5.size := by rw [sV]; exact ct_info
  have qZV : (#[.int .i64 0, .string ⟨#[]⟩, .string ⟨#[]⟩, .slice none 0 0, .slice none 0 0] : Array Value).size = V5.size := by rw [sV]; rfl
  have bZ := heap_alloc_new w9 (.cells #[.int .i64 0, .string ⟨#[]⟩, .string ⟨#[]⟩, .slice none 0 0, .slice none 0 0] 30)
  obtain ⟨W10, hW10⟩ : ∃ W, W = (w9.alloc (.cells #[.int .i64 0, .string ⟨#[]⟩, .string ⟨#[]⟩, .slice none 0 0, .slice none 0 0] 30)).setRow w9.heap.size V5 := ⟨_, rfl⟩
  have b910 : Below w9.heap.size w9 W10 := by rw [hW10]; exact stored_new w9 _ V5 30
  have B10 : Hid (Below W5.heap.size W5 W10) := Lib.hid (B8.out.trans ((hb9.trans (b910.mono hb9.size)).mono B8.out.size))
  have HV : Hid (W10.heap[w9.heap.size]? = some (.cells V5 30 (0, 0)) ∧ CtAt W10 F p5 q5) := Lib.hid ⟨by rw [hW10]; exact setRow_heap _ _ _ _ _ _ bZ, hat9.old b910⟩
  have y10 := (HX.out W10 B10.out).2.1
  have HW10 := Lib.hid hW10
  clear hV hW10 b910 hat9 hb9 S8 S7 B8
  go_wp2_with (first | (refine wpList_store_row rfl rfl 30 (.tmp 4) (.tmp 25) rfl w9.heap.size rfl 30 _ V5 rfl bZ qZV qV oV ?_; rw [← HW10.out]) | (refine wpList_load_row rfl 30 (.tmp 3) rfl g3 rfl 30 Y (0, 0) _ y10 Tryd.underlying30 rfl qY ?_))
  clear bZ qZV oV y10 HW10
  generalize w9.heap.size = g4 at HV ⊢
  refine (S3.out W10 (HX.out W10 B10.out).2.2.2.1 (HX.out W10 B10.out).2.2.2.2.1).mono ?_
  rintro r w11 ⟨rfl, hb11⟩
  have hzr := zid_run
  have q2 := zid_len.trans (id_size lZ).symm
  have q3' := id_info lZ
  have q4 := id_one ZZ
  generalize (vals zid).toArray = ZA at hzr q2
  obtain ⟨W12, hW12⟩ : ∃ W, W = (w11.alloc (.cells ZA 39)).setRow w11.heap.size (vals ZZ).toArray := ⟨_, rfl⟩
  have b1112 : Below w11.heap.size w11 W12 := by rw [hW12]; exact stored_new w11 _ _ 39
  have HI : Hid (IdAt W12 w11.heap.size ZZ) := Lib.hid (by rw [hW12]; exact IdAt.stored lZ)
  have bZ := heap_alloc_new w11 (.cells ZA 39)
  have b1012 := hb11.trans (b1112.mono hb11.size)
  have B12 : Hid (Below W5.heap.size W5 W12) := Lib.hid (B10.out.trans (b1012.mono B10.out.size))
  have HV2 : Hid (W12.heap[g4]? = some (.cells V5 30 (0, 0)) ∧ CtAt W12 F p5 q5) := Lib.hid ⟨(b1012.block _ (Array.getElem?_eq_some_iff.1 HV.out.1).1).trans HV.out.1, HV.out.2.old b1012⟩
  have HW12 := Lib.hid hW12
  clear hW12 b1112 b1012 hb11 HV B10 S3
  go_wp2_with (refine wpList_store_row rfl rfl 39 (.tmp 6) (.tmp 28) rfl w11.heap.size rfl 39 ZA (vals ZZ).toArray rfl bZ q2 q3' q4 ?_; rw [← HW12.out])
  clear bZ q2 q3' q4 HW12 hzr
  generalize w11.heap.size = g6 at HI ⊢
  have HY2 : Hid (∀ w', Below W12.heap.size W12 w' → w'.heap[g1]? = some (.cells D 25 (0, 0)) ∧ w'.heap[g3]? = some (.cells Y 30 (0, 0)) ∧ CtAt w' F p q ∧ CtAt w' F p3 q3 ∧ TabAt w' ∧ Below w.heap.size w w' ∧ w'.heap[g4]? = some (.cells V5 30 (0, 0)) ∧ CtAt w' F p5 q5 ∧ IdAt w' g6 ZZ) := Lib.hid (fun w' hb => by
    have h := HX.out w' (B12.out.trans (hb.mono B12.out.size))
    exact ⟨h.1, h.2.1, h.2.2.1, h.2.2.2.1, h.2.2.2.2.1, h.2.2.2.2.2, (hb.block _ (Array.getElem?_eq_some_iff.1 HV2.out.1).1).trans HV2.out.1, HV2.out.2.old hb, HI.out.old hb⟩)
  clear HX HV2 HI B12
  refine wp_region_puts (fun t v w => VK (match t with
    | 29 => .eq (.agg Y)
    | 30 => .eq (.string ⟨S.toArray⟩)
    | 31 => .eq (.agg D)
    | 32 => .eq (.string ⟨S.toArray⟩)
    | 33 => .eq (Value.bool true)
    | 34 => .eq (Value.bool true)
    | 35 => .eq (.int .i64 0)
    | 36 => .eq (Value.bool true)
    | 37 => .eq (Value.bool true)
    | 38 => .eq (Value.bool true)
    | 39 => .eq (.agg V5)
    | 40 => .eq (.agg D)
    | 41 => .eq (Value.bool true)
    | 42 => .eq (Value.bool true)
    | 43 => .eq (Value.bool true)
    | 44 => .eq (.slice (some ⟨g6, 0, none⟩) 32 32)
    | 45 => .eq (.string ⟨ZZ.toArray⟩)
    | 46 => .eq (.agg D)
    | 47 => .eq (.string ⟨ZZ.toArray⟩)
    | 48 => .eq (Value.bool true)
    | 49 => .eq (Value.bool true)
    | 2 => .eq (Value.bool true)
    | _ => .any) v w) (fun w' => Below W12.heap.size W12 w') 50 (by kernel_rfl) (by decide +kernel) rfl (Below.refl _ _).drew (by
    refine OweAll.cons (owesK rfl rfl fun a w1 ha hG hV => ?_) ?_
    · skip
      have h3 := ha.outer 3 (by decide +kernel)
      simp only [Act.eval] at h3
      exact ⟨.agg Y, w1, wanted_free rfl, exec_load_row 30 (.tmp 3) rfl g3 h3 30 Y (0, 0) _ (HY2.out w1 hG).2.1 Tryd.underlying30 rfl qY, Below.refl _ _, rfl⟩
    refine OweAll.cons (owesK_call rfl rfl 12 fun a w1 ha hG hV => ?_) ?_
    · skip
      have h29 : a.tmps.getD 29 undef = .agg Y := hV.get 29 (by decide +kernel)
      refine ⟨#[.agg Y], wanted_free rfl, by simp [execOp, resolve, invoke, go_sem, h29], ?_⟩
      refine (S1.out w1 (HY2.out w1 hG).2.2.2.1).mono ?_
      rintro r u2 ⟨rfl, hb⟩; exact ⟨_, rfl, rfl, hb⟩
    refine OweAll.cons (owesK rfl rfl fun a w1 ha hG hV => ?_) ?_
    · skip
      have h1 := ha.outer 1 (by decide +kernel)
      simp only [Act.eval] at h1
      exact ⟨.agg D, w1, wanted_free rfl, exec_load_row 25 (.tmp 1) rfl g1 h1 25 D (0, 0) _ (HY2.out w1 hG).1 Tryd.underlying25 rfl qD, Below.refl _ _, rfl⟩
    refine OweAll.cons (owesK_call rfl rfl 14 fun a w1 ha hG hV => ?_) ?_
    · skip
      have h31 : a.tmps.getD 31 undef = .agg D := hV.get 31 (by decide +kernel)
      refine ⟨#[.agg D], wanted_free rfl, by simp [execOp, resolve, invoke, go_sem, h31], ?_⟩
      refine (S2.out w1 (HY2.out w1 hG).2.2.1).mono ?_
      rintro r u2 ⟨rfl, hb⟩; exact ⟨_, rfl, rfl, hb⟩
    refine OweAll.cons (owesK rfl rfl fun a w1 ha hG hV => ?_) ?_
    · skip
      have h30 : a.tmps.getD 30 undef = .string ⟨S.toArray⟩ := hV.get 30 (by decide +kernel)
      have h32 : a.tmps.getD 32 undef = .string ⟨S.toArray⟩ := hV.get 32 (by decide +kernel)
      exact ⟨Value.bool true, w1, wanted_free rfl, by simp [execOp, go_sem, h30, h32], Below.refl _ _, rfl⟩
    refine OweAll.cons (owesK rfl rfl fun a w1 ha hG hV => ?_) ?_
    · skip
      have h33 : a.tmps.getD 33 undef = Value.bool true := hV.get 33 (by decide +kernel)
      exact ⟨Value.bool true, w1, wanted_free rfl, by simp [execOp, go_sem, h33], Below.refl _ _, rfl⟩
    refine OweAll.cons (owesK rfl rfl fun a w1 ha hG hV => ?_) ?_
    · skip
      have h5 := ha.outer 5 (by decide +kernel)
      simp only [Act.eval] at h5
      exact ⟨.int .i64 0, w1, (wanted_of (t := 34) rfl rfl (hV.get 34 (by decide +kernel))), by simp [execOp, go_sem, h5], Below.refl _ _, rfl⟩
    refine OweAll.cons (owesK rfl rfl fun a w1 ha hG hV => ?_) ?_
    · skip
      have h35 : a.tmps.getD 35 undef = .int .i64 0 := hV.get 35 (by decide +kernel)
      exact ⟨Value.bool true, w1, (wanted_of (t := 34) rfl rfl (hV.get 34 (by decide +kernel))), by simp [execOp, go_sem, h35], Below.refl _ _, rfl⟩
    refine OweAll.cons (owesK rfl rfl fun a w1 ha hG hV => ?_) ?_
    · skip
      have h34 : a.tmps.getD 34 undef = Value.bool true := hV.get 34 (by decide +kernel)
      have h36 : a.tmps.getD 36 undef = Value.bool true := hV.get 36 (by decide +kernel)
      exact ⟨Value.bool true, w1, wanted_free rfl, by simp [execOp, go_sem, h34, h36], Below.refl _ _, rfl⟩
    refine OweAll.cons (owesK rfl rfl fun a w1 ha hG hV => ?_) ?_
    · skip
      have h37 : a.tmps.getD 37 undef = Value.bool true := hV.get 37 (by decide +kernel)
      exact ⟨Value.bool true, w1, wanted_free rfl, by simp [execOp, go_sem, h37], Below.refl _ _, rfl⟩
    refine OweAll.cons (owesK rfl rfl fun a w1 ha hG hV => ?_) ?_
    · skip
      have h4 := ha.outer 4 (by decide +kernel)
      simp only [Act.eval] at h4
      exact ⟨.agg V5, w1, (wanted_of (t := 38) rfl rfl (hV.get 38 (by decide +kernel))), exec_load_row 30 (.tmp 4) rfl g4 h4 30 V5 (0, 0) _ (HY2.out w1 hG).2.2.2.2.2.2.1 Tryd.underlying30 rfl qV, Below.refl _ _, rfl⟩
    refine OweAll.cons (owesK rfl rfl fun a w1 ha hG hV => ?_) ?_
    · skip
      have h1 := ha.outer 1 (by decide +kernel)
      simp only [Act.eval] at h1
      exact ⟨.agg D, w1, (wanted_of (t := 38) rfl rfl (hV.get 38 (by decide +kernel))), exec_load_row 25 (.tmp 1) rfl g1 h1 25 D (0, 0) _ (HY2.out w1 hG).1 Tryd.underlying25 rfl qD, Below.refl _ _, rfl⟩
    refine OweAll.cons (owesK_call rfl rfl 15 fun a w1 ha hG hV => ?_) ?_
    · skip
      have h39 : a.tmps.getD 39 undef = .agg V5 := hV.get 39 (by decide +kernel)
      have h40 : a.tmps.getD 40 undef = .agg D := hV.get 40 (by decide +kernel)
      refine ⟨#[.agg V5, .agg D], (wanted_of (t := 38) rfl rfl (hV.get 38 (by decide +kernel))), by simp [execOp, resolve, invoke, go_sem, h39, h40], ?_⟩
      refine (S9.out w1 (HY2.out w1 hG).2.2.2.2.2.2.2.1 (HY2.out w1 hG).2.2.1).mono ?_
      rintro r u2 ⟨rfl, hb⟩; exact ⟨_, rfl, rfl, hb⟩
    refine OweAll.cons (owesK rfl rfl fun a w1 ha hG hV => ?_) ?_
    · skip
      have h38 : a.tmps.getD 38 undef = Value.bool true := hV.get 38 (by decide +kernel)
      have h41 : a.tmps.getD 41 undef = Value.bool true := hV.get 41 (by decide +kernel)
      exact ⟨Value.bool true, w1, wanted_free rfl, by simp [execOp, go_sem, h38, h41], Below.refl _ _, rfl⟩
    refine OweAll.cons (owesK rfl rfl fun a w1 ha hG hV => ?_) ?_
    · skip
      have h42 : a.tmps.getD 42 undef = Value.bool true := hV.get 42 (by decide +kernel)
      exact ⟨Value.bool true, w1, wanted_free rfl, by simp [execOp, go_sem, h42], Below.refl _ _, rfl⟩
    refine OweAll.cons (owesK rfl rfl fun a w1 ha hG hV => ?_) ?_
    · skip
      have h6 := ha.outer 6 (by decide +kernel)
      simp only [Act.eval] at h6
      exact ⟨.slice (some ⟨g6, 0, none⟩) 32 32, w1, (wanted_of (t := 43) rfl rfl (hV.get 43 (by decide +kernel))), by simp [execOp, go_sem, h6], Below.refl _ _, rfl⟩
    refine OweAll.cons (owesK rfl rfl fun a w1 ha hG hV => ?_) ?_
    · skip
      have h44 : a.tmps.getD 44 undef = .slice (some ⟨g6, 0, none⟩) 32 32 := hV.get 44 (by decide +kernel)
      exact ⟨.string ⟨ZZ.toArray⟩, w1, (wanted_of (t := 43) rfl rfl (hV.get 43 (by decide +kernel))), by simp [execOp, go_sem, h44, ((HY2.out w1 hG).2.2.2.2.2.2.2.2).text], Below.refl _ _, rfl⟩
    refine OweAll.cons (owesK rfl rfl fun a w1 ha hG hV => ?_) ?_
    · skip
      have h1 := ha.outer 1 (by decide +kernel)
      simp only [Act.eval] at h1
      exact ⟨.agg D, w1, (wanted_of (t := 43) rfl rfl (hV.get 43 (by decide +kernel))), exec_load_row 25 (.tmp 1) rfl g1 h1 25 D (0, 0) _ (HY2.out w1 hG).1 Tryd.underlying25 rfl qD, Below.refl _ _, rfl⟩
    refine OweAll.cons (owesK_call rfl rfl 16 fun a w1 ha hG hV => ?_) ?_
    · skip
      have h46 : a.tmps.getD 46 undef = .agg D := hV.get 46 (by decide +kernel)
      refine ⟨#[.agg D], (wanted_of (t := 43) rfl rfl (hV.get 43 (by decide +kernel))), by simp [execOp, resolve, invoke, go_sem, h46], ?_⟩
      refine (S4.out w1 (HY2.out w1 hG).2.2.1).mono ?_
      rintro r u2 ⟨rfl, hb⟩; exact ⟨_, rfl, rfl, hb⟩
    refine OweAll.cons (owesK rfl rfl fun a w1 ha hG hV => ?_) ?_
    · skip
      have h45 : a.tmps.getD 45 undef = .string ⟨ZZ.toArray⟩ := hV.get 45 (by decide +kernel)
      have h47 : a.tmps.getD 47 undef = .string ⟨ZZ.toArray⟩ := hV.get 47 (by decide +kernel)
      exact ⟨Value.bool true, w1, (wanted_of (t := 43) rfl rfl (hV.get 43 (by decide +kernel))), by simp [execOp, go_sem, h45, h47], Below.refl _ _, rfl⟩
    refine OweAll.cons (owesK rfl rfl fun a w1 ha hG hV => ?_) ?_
    · skip
      have h43 : a.tmps.getD 43 undef = Value.bool true := hV.get 43 (by decide +kernel)
      have h48 : a.tmps.getD 48 undef = Value.bool true := hV.get 48 (by decide +kernel)
      exact ⟨Value.bool true, w1, wanted_free rfl, by simp [execOp, go_sem, h43, h48], Below.refl _ _, rfl⟩
    refine OweAll.cons (owesK rfl rfl fun a w1 ha hG hV => ?_) ?_
    · skip
      have h49 : a.tmps.getD 49 undef = Value.bool true := hV.get 49 (by decide +kernel)
      exact ⟨Value.bool true, w1, wanted_free rfl, by simp [execOp, go_sem, h49], Below.refl _ _, rfl⟩
    exact OweAll.nil
    ) ?_
  intro f wz hG hv
  have e2 : f 2 = Value.bool true := hv 21 _ 2 rfl rfl
  rename_i hK
  refine hK _ _ ?_
  clear hK hv
  simp only [dsts, puts, List.filterMap_cons, List.filterMap_nil, List.foldl_cons, List.foldl_nil, Act.put, List.setIfInBounds_toArray, List.set_cons_succ, List.set_cons_zero, e2]
  clear e2
  have HB := Lib.hid (HY2.out wz hG).2.2.2.2.2.1
  clear hG
  go_wp2_with fail
  go_ret
  exact ⟨rfl, HB.out⟩
end Go.Proofs.YtmodikcghlbigaaDoor
