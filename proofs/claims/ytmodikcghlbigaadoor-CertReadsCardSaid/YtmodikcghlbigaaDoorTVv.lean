/- The law CertReads. -/
import Derived.Test.YtmodikcghlbigaaDoorR10
namespace Go.Proofs.YtmodikcghlbigaaDoor
open Go.RowKit

set_option maxRecDepth 20000 in
set_option maxHeartbeats 8000000 in
theorem certReads_any (s0 : List UInt8) (w : World) (hl : (s0.length : Int) ≤ 9223372036854775807) (hT : TabAt w) :
    Calls Tryd.prog 4 #[.string ⟨s0.toArray⟩] w fun r w' => r = .returned (.bool true) ∧ Below w.heap.size w w' := by
  have haw := awake07_any w hT
  obtain ⟨s, hs⟩ : ∃ s, s = s0.take 600 := ⟨_, rfl⟩
  have hsl : s.length ≤ 600 := by rw [hs, List.length_take]; omega
  have Hcut := Lib.hid (fun w' => cut_any s0 600 w' hl (by decide))
  rw [← hs] at Hcut
  have Hpar := Lib.hid (fun w' => kparse_any s w' (by omega))
  have Href := Lib.hid (fun w' => rparse_any s w' (by omega))
  have hok := fun h => parE_ok (s := s) h
  have hpc : parE s = 0 → parC s = (takeC s).1 := fun h => by unfold parC; rw [if_pos h]
  have hfw := takeC_few s
  have hlz : (parC s).sg.length ≤ 1000000 ∧ (parC s).ch.length ≤ 1000000 := by
    unfold parC; split
    · omega
    · simp [zct]
  obtain ⟨C, hC⟩ : ∃ C, C = parC s := ⟨_, rfl⟩
  obtain ⟨R, hR⟩ : ∃ R, R = parE s := ⟨_, rfl⟩
  rw [← hC, ← hR] at Hpar Href
  rw [← hC] at hlz hpc
  rw [← hR] at hpc hok
  have Hok : Hid (R = 0 → CtOk C ∧ ctB C = s) := Lib.hid (fun h => by rw [hpc h]; exact hok h)
  clear hs hl hok hpc hfw hC hR hT
  go_enter Tryd.func4, Tryd.ntmps4
  go_wp2_with fail
  refine haw.mono ?_
  rintro r w1 ⟨rfl, hb1⟩
  have HB1 := Lib.hid hb1
  clear haw hb1
  go_wp2_with fail
  refine (Hcut.out w1).mono ?_
  rintro r w' ⟨rfl, rfl⟩
  clear Hcut
  go_wp2_with fail
  refine (Hpar.out w1).mono ?_
  rintro r w2 ⟨p, q, cp, cq, rfl, hat, hb2, -, -⟩
  obtain ⟨X, hX⟩ : ∃ X, X = ctc C p q cp cq := ⟨_, rfl⟩
  have HX := Lib.hid hX
  have hXs : X.size = 5 := by rw [hX]; rfl
  have qX : ∀ v ∈ X.toList, v.oneCell' = true := by rw [hX]; exact ctc_one _ _ _ _ _
  have iX : (Tryd.prog.info? 30).map (·.size) = some X.size := by rw [hXs]; exact ct_info
  rw [← hX]
  obtain ⟨W3, hW3⟩ : ∃ W, W = (w2.alloc (.cells zcc 30)).setRow w2.heap.size X := ⟨_, rfl⟩
  have hg2 := heap_alloc_new w2 (.cells zcc 30)
  have b23 : Below w2.heap.size w2 W3 := by rw [hW3]; exact stored_new w2 _ X 30
  have box3 : Hid (W3.heap[w2.heap.size]? = some (.cells X 30 (0, 0))) := Lib.hid (by rw [hW3]; exact setRow_heap _ _ _ _ _ _ (heap_alloc_new w2 _))
  have at3 := Lib.hid (hat.old b23)
  have B3 := Lib.hid (HB1.out.trans ((hb2.trans (b23.mono hb2.size)).mono HB1.out.size))
  have HW3 := Lib.hid hW3
  have qsX : zcc.size = X.size := by rw [hXs]; rfl
  unfold zcc at hg2 HW3 qsX
  clear hX hXs hW3 b23 hat hb2 Hpar HB1
  go_upto_region 5 with (refine wpList_store_row rfl rfl 30 (.tmp 3) (.tmp 14) rfl w2.heap.size rfl 30 _ X rfl hg2 qsX iX qX ?_)
  rw [← HW3.out]
  generalize w2.heap.size = g3 at box3 ⊢
  clear hg2 HW3
  go_wp2_with fail
  refine (Href.out W3).mono ?_
  rintro r w4 ⟨p', q', cp', cq', rfl, hat, hb4⟩
  obtain ⟨Y, hY⟩ : ∃ X, X = ctc C p' q' cp' cq' := ⟨_, rfl⟩
  have HY := Lib.hid hY
  have hYs : Y.size = 5 := by rw [hY]; rfl
  have qY : ∀ v ∈ Y.toList, v.oneCell' = true := by rw [hY]; exact ctc_one _ _ _ _ _
  have iY : (Tryd.prog.info? 25).map (·.size) = some Y.size := by rw [hYs]; exact rct_info
  rw [← hY]
  obtain ⟨W5, hW5⟩ : ∃ W, W = (w4.alloc (.cells zcc 25)).setRow w4.heap.size Y := ⟨_, rfl⟩
  have hg4 := heap_alloc_new w4 (.cells zcc 25)
  have b45 : Below w4.heap.size w4 W5 := by rw [hW5]; exact stored_new w4 _ Y 25
  have b35 := hb4.trans (b45.mono hb4.size)
  have boxY : Hid (W5.heap[w4.heap.size]? = some (.cells Y 25 (0, 0))) := Lib.hid (by rw [hW5]; exact setRow_heap _ _ _ _ _ _ (heap_alloc_new w4 _))
  have boxX : Hid (W5.heap[g3]? = some (.cells X 30 (0, 0))) := Lib.hid ((b35.block _ (Array.getElem?_eq_some_iff.1 box3.out).1).trans box3.out)
  have at5 := Lib.hid (at3.out.old b35)
  have at5' := Lib.hid (hat.old b45)
  have B5 := Lib.hid (B3.out.trans (b35.mono B3.out.size))
  have HW5 := Lib.hid hW5
  have qsY : zcc.size = Y.size := by rw [hYs]; rfl
  unfold zcc at hg4 HW5 qsY
  clear hY hYs hW5 b45 b35 hat hb4 Href box3 at3 B3
  go_upto_region 6 with (refine wpList_store_row rfl rfl 25 (.tmp 5) (.tmp 19) rfl w4.heap.size rfl 25 _ Y rfl hg4 qsY iY qY ?_)
  rw [← HW5.out]
  generalize w4.heap.size = g5 at boxY ⊢
  clear hg4 HW5
  have KS : Hid (Calls Tryd.prog 15 #[.agg X, .agg Y] W5 fun r w' => r = .returned (.bool true) ∧ Below W5.heap.size W5 w') := Lib.hid (by
    rw [HX.out, HY.out]
    refine (same07_any C C p q p' q' cp cq cp' cq' W5 at5.out at5'.out hlz.1 hlz.2).mono ?_
    rintro r w' ⟨R, h1, rfl, h2⟩
    exact ⟨by rw [h1.2 rfl], h2⟩)
  have lbX := boxX.out
  have lbY := boxY.out
  have BX := boxX
  clear boxY at5'
  go_wp2_with (first | (refine wpList_load_rowG rfl 30 (.tmp 3) rfl g3 rfl 30 X (0, 0) _ lbX Tryd.underlying30 rfl iX ?_) | (refine wpList_load_rowG rfl 25 (.tmp 5) rfl g5 rfl 25 Y (0, 0) _ lbY Tryd.underlying25 rfl iY ?_))
  refine KS.out.mono ?_
  rintro r w6 ⟨rfl, hb6⟩
  have B6 := Lib.hid (B5.out.trans (hb6.mono B5.out.size))
  have lb6 := (hb6.block _ (Array.getElem?_eq_some_iff.1 BX.out).1).trans BX.out
  have at6 := Lib.hid (at5.out.old hb6)
  clear hb6 lbX lbY KS BX boxX at5 B5
  by_cases hR0 : R = 0
  · obtain ⟨ok, hB⟩ := Hok.out hR0
    have KB : Hid (Calls Tryd.prog 12 #[.agg X] w6 fun r w' => r = .returned (.string ⟨s.toArray⟩) ∧ Below w6.heap.size w6 w') := Lib.hid (by
      have := kbytes_any C p q cp cq w6 at6.out ok
      rw [hB] at this; rw [HX.out]; exact this)
    have KC : Hid (∀ w, CtAt w C p q → Calls Tryd.prog 9 #[.agg X] w fun r w' => r = .returned (.int .i64 0) ∧ Below w.heap.size w w') := Lib.hid (fun w h => by
      have hkb := CtOk.key ok.kb
      have hkf := CtOk.key ok.kf
      have := kcheck_any C p q cp cq w h hlz.1 hlz.2 (by omega) (by omega)
      rw [ck_ok.2 ok] at this; rw [HX.out]; exact this)
    subst hR0
    clear ok hB Hok
    go_wp2_with (refine wpList_load_rowG rfl 30 (.tmp 3) rfl g3 rfl 30 X (0, 0) _ lb6 Tryd.underlying30 rfl iX ?_)
    refine KB.out.mono ?_
    rintro r w7 ⟨rfl, hb7⟩
    have B7 := Lib.hid (B6.out.trans (hb7.mono B6.out.size))
    have lb7 := (hb7.block _ (Array.getElem?_eq_some_iff.1 lb6).1).trans lb6
    have kc := Lib.hid (KC.out w7 (at6.out.old hb7))
    clear hb7 lb6 KB KC at6 B6
    go_wp2_with (refine wpList_load_rowG rfl 30 (.tmp 3) rfl g3 rfl 30 X (0, 0) _ lb7 Tryd.underlying30 rfl iX ?_)
    refine kc.out.mono ?_
    rintro r w8 ⟨rfl, hb8⟩
    have B8 := Lib.hid (B7.out.trans (hb8.mono B7.out.size))
    clear hb8 lb7 kc B7
    go_wp2_with fail
    go_ret
    exact ⟨rfl, B8.out⟩
  · have z1 : (R == 0) = false := beq_eq_false_iff_ne.2 hR0
    have z2 : (R != 0) = true := by rw [bne_iff_ne]; exact hR0
    clear hR0 Hok
    go_wp2_with fail
    go_ret
    exact ⟨rfl, B6.out⟩
end Go.Proofs.YtmodikcghlbigaaDoor
