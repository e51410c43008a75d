/- The walk of HeaderReads. -/
import Derived.Test.YtkejidmomnmdbaaDoorH23
namespace Go.Proofs.YtkejidmomnmdbaaDoor
open Go.RowKit

set_option maxRecDepth 20000 in
set_option maxHeartbeats 8000000 in
theorem headerReads_any (s0 : List UInt8) (w : World) (hs0 : (s0.length : Int) ≤ 9223372036854775807) (hT : TabAt w) :
    Calls Tryd.prog 8 #[.string ⟨s0.toArray⟩] w fun r w' => r = .returned (.bool true) ∧ Below w.heap.size w w' := by
  have hcut : Hid (∀ w, Calls Tryd.prog 20 #[.string ⟨s0.toArray⟩, .int .i64 260] w fun r w' => r = .returned (.string ⟨(s0.take 260).toArray⟩) ∧ w = w') := Lib.hid (fun w => cut_any s0 260 w hs0 (by omega))
  have hsl : (s0.take 260).length ≤ 260 := List.length_take_le _ _
  generalize s0.take 260 = s at hcut hsl
  obtain ⟨E, hE⟩ : ∃ E, E = hparE s := ⟨_, rfl⟩
  obtain ⟨H, hH⟩ : ∃ H, H = if E = 0 then (takeS s).1 else zhd := ⟨_, rfl⟩
  obtain ⟨X, hX⟩ : ∃ X, X = if E = 0 then (takeR s).1 else zhdS := ⟨_, rfl⟩
  have PH : Hid (∀ w, Calls Tryd.prog 31 #[.string ⟨s.toArray⟩] w (HPost H E w)) := Lib.hid (fun w => by have := hparse_any s w (by omega); rw [← hE, ← hH] at this; exact this)
  have PR : Hid (∀ w, Calls Tryd.prog 39 #[.string ⟨s.toArray⟩] w (RPost X E w)) := Lib.hid (fun w => by have := rparse_any s w (by omega); rw [rparE_eq, ← hE, ← hX] at this; exact this)
  have hsm : sameB H X = true := by
    rw [sameB_iff, hH, hX]
    by_cases z : E = 0
    · rw [if_pos z, if_pos z]; exact (takeR_own s).1.symm
    · rw [if_neg z, if_neg z]; rfl
  have hok : E = 0 → HOkay H ∧ hbytes (·.1) H = s ∧ chk H (rs (H.ps.map (·.1)) (H.ps.length - 1)) = 0 := by
    intro z
    rw [if_pos z] at hH
    rw [z] at hE
    have h1 : (takeS s).2.1 = [] := by
      apply Classical.byContradiction; intro h
      unfold hparE at hE; rw [if_neg h] at hE; exact absurd hE (by decide)
    have h2 : (takeS s).2.2 = 0 := by
      apply Classical.byContradiction; intro h
      unfold hparE at hE; rw [if_pos h1, if_neg h] at hE; exact h hE.symm
    unfold hparE at hE
    rw [if_pos h1, if_pos h2, ← hH] at hE
    exact ⟨((chk_zero H _).1 hE.symm).1, by rw [hH]; exact takeS_fwd s h2 h1, hE.symm⟩
  have hlen : H.ps.length ≤ 1000000 := by
    by_cases z : E = 0
    · have := (hok z).1.2.2.2.2.2.1; omega
    · rw [hH, if_neg z]; decide
  have SM : Hid (∀ q c q' c' w, Rd encN w q H.ps → Rd encS w q' X.ps → Calls Tryd.prog 35 #[.agg (hcells H q c), .agg (hcells X q' c')] w fun r w' => r = .returned (.bool true) ∧ Below w.heap.size w w') := Lib.hid (fun q c q' c' w h1 h2 => by have := same_any H X q q' c c' w h1 h2 hlen; rw [hsm] at this; exact this)
  have BY : Hid (E = 0 → ∀ q c w, Rd encN w q H.ps → Calls Tryd.prog 32 #[.agg (hcells H q c)] w fun r w' => r = .returned (.string ⟨s.toArray⟩) ∧ Below w.heap.size w w') := Lib.hid (fun z q c w h => by have o := HOk.of (hok z).1; have := hbytes_any H q c w h o.n o.k o.pw o.b1 o.b2 o.b3 o.b4; rw [(hok z).2.1] at this; exact this)
  have CK : Hid (E = 0 → ∀ q c w, Rd encN w q H.ps → Calls Tryd.prog 29 #[.agg (hcells H q c)] w fun r w' => r = .returned (.int .i64 0) ∧ Below w.heap.size w w') := Lib.hid (fun z q c w h => by have := hcheck_any H q c w h; rw [(hok z).2.2] at this; exact this)
  have HT := Lib.hid hT
  have Hsl := Lib.hid hsl
  clear hE hH hX hsm hok hlen hs0 hT hsl
  go_enter Tryd.func8, Tryd.ntmps8
  go_wp2_with fail
  refine (awake05_any w HT.out).mono ?_
  rintro r w1 ⟨rfl, hb1⟩
  have B1 := Lib.hid hb1
  clear hb1 HT
  go_wp2_with fail
  refine (hcut.out w1).mono ?_
  rintro r w1' ⟨rfl, rfl⟩
  clear hcut
  go_wp2_with fail
  refine (PH.out w1).mono ?_
  rintro r w2 ⟨q, c, rfl, hR, hb2, _⟩
  have SM2 := Lib.hid (SM.out q c)
  have BY2 := Lib.hid (fun z => BY.out z q c)
  have CK2 := Lib.hid (fun z => CK.out z q c)
  have hY1 := hcells_one H q c
  obtain ⟨Y, hY⟩ : ∃ Y, Y = hcells H q c := ⟨_, rfl⟩
  rw [← hY] at SM2 BY2 CK2 hY1 ⊢
  have hYs : Y.size = 7 := by rw [hY]; rfl
  obtain ⟨W3, hW3⟩ : ∃ W, W = (w2.alloc (.cells #[.int .i64 0, .int .i64 0, .string ⟨#[]⟩, .int .i64 0, .int .u64 0, .slice none 0 0, .int .i64 0] 43)).setRow w2.heap.size Y := ⟨_, rfl⟩
  have hg2 := heap_alloc_new w2 (.cells #[.int .i64 0, .int .i64 0, .string ⟨#[]⟩, .int .i64 0, .int .u64 0, .slice none 0 0, .int .i64 0] 43)
  have b23 : Below w2.heap.size w2 W3 := by rw [hW3]; exact stored_below
  have box3 : W3.heap[w2.heap.size]? = some (.cells Y 43 (0, 0)) := by rw [hW3]; exact setRow_heap _ _ _ _ _ _ (heap_alloc_new w2 _)
  have BOX3 := Lib.hid box3
  have R3 := Lib.hid (hR.old b23)
  have B3 := Lib.hid (B1.out.trans ((hb2.trans (b23.mono hb2.size)).mono B1.out.size))
  have HW3 := Lib.hid hW3
  have qs : (#[.int .i64 0, .int .i64 0, .string ⟨#[]⟩, .int .i64 0, .int .u64 0, .slice none 0 0, .int .i64 0] : Array Value).size = Y.size := by rw [hYs]; rfl
  have q3 : (Tryd.prog.info? 43).map (·.size) = some Y.size := by rw [hYs]; exact hinfo
  clear hY hW3 b23 box3 hR hb2 PH SM BY CK B1 hYs
  go_wp2_with (refine wpList_store_row rfl rfl 43 (.tmp 3) (.tmp 14) rfl w2.heap.size rfl 43 _ Y rfl hg2 qs q3 hY1 ?_; rw [← HW3.out])
  clear hg2 qs hY1
  refine (PR.out W3).mono ?_
  rintro r w4 ⟨q', c', rfl, hR', hb4, _⟩
  have SM3 := Lib.hid (SM2.out q' c')
  have hX1 := hcells_oneA X q' c'
  obtain ⟨YX, hYX⟩ : ∃ Y, Y = hcells X q' c' := ⟨_, rfl⟩
  rw [← hYX] at SM3 hX1 ⊢
  have hXs : YX.size = 7 := by rw [hYX]; rfl
  obtain ⟨W5, hW5⟩ : ∃ W, W = (w4.alloc (.cells #[.int .i64 0, .int .i64 0, .string ⟨#[]⟩, .int .i64 0, .int .u64 0, .slice none 0 0, .int .i64 0] 39)).setRow w4.heap.size YX := ⟨_, rfl⟩
  have hg4 := heap_alloc_new w4 (.cells #[.int .i64 0, .int .i64 0, .string ⟨#[]⟩, .int .i64 0, .int .u64 0, .slice none 0 0, .int .i64 0] 39)
  have b45 : Below w4.heap.size w4 W5 := by rw [hW5]; exact stored_below
  have box52 : W5.heap[w4.heap.size]? = some (.cells YX 39 (0, 0)) := by rw [hW5]; exact setRow_heap _ _ _ _ _ _ (heap_alloc_new w4 _)
  have b35 := hb4.trans (b45.mono hb4.size)
  have box5 := (b35.block _ (Array.getElem?_eq_some_iff.1 BOX3.out).1).trans BOX3.out
  have RX := Lib.hid (hR'.old b45)
  have RH := Lib.hid (R3.out.old b35)
  have B5 := Lib.hid (B3.out.trans (b35.mono B3.out.size))
  have HW5 := Lib.hid hW5
  have qs : (#[.int .i64 0, .int .i64 0, .string ⟨#[]⟩, .int .i64 0, .int .u64 0, .slice none 0 0, .int .i64 0] : Array Value).size = YX.size := by rw [hXs]; rfl
  have q4 : (Tryd.prog.info? 39).map (·.size) = some YX.size := by rw [hXs]; exact rhinfo
  clear hYX hW5 b45 b35 hR' hb4 PR SM2 B3 R3 BOX3 hXs
  have tE : (E == E) = true := by simp
  go_wp2_with (first | (refine wpList_store_row rfl rfl 39 (.tmp 5) (.tmp 19) rfl w4.heap.size rfl 39 _ YX rfl hg4 qs q4 hX1 ?_; rw [← HW5.out]) | (refine wpList_load_rowG rfl 43 (.tmp 3) rfl w2.heap.size rfl 43 Y (0, 0) _ box5 Tryd.underlying43 rfl q3 ?_) | (refine wpList_load_rowG rfl 39 (.tmp 5) rfl w4.heap.size rfl 39 YX (0, 0) _ box52 Tryd.underlying39 rfl q4 ?_))
  refine (SM3.out W5 RH.out.rd RX.out.rd).mono ?_
  rintro r w6 ⟨rfl, hb6⟩
  have B6 := Lib.hid (B5.out.trans (hb6.mono B5.out.size))
  have box6 := (hb6.block _ (Array.getElem?_eq_some_iff.1 box5).1).trans box5
  have R6 := Lib.hid (RH.out.old hb6)
  clear hb6 box5 box52 hg4 qs q4 hX1 SM3 RH RX B5
  by_cases z : E = 0
  case neg =>
    have t1 : (E == 0) = false := by simp [z]
    have t2 : (E != 0) = true := by simp [z]
    clear z box6 q3
    go_wp2_with fail
    go_ret
    exact ⟨rfl, B6.out⟩
  have by6 := Lib.hid (BY2.out z)
  have ck6 := Lib.hid (CK2.out z)
  subst z
  clear BY2 CK2 tE
  go_wp2_with (refine wpList_load_rowG rfl 43 (.tmp 3) rfl w2.heap.size rfl 43 Y (0, 0) _ box6 Tryd.underlying43 rfl q3 ?_)
  refine (by6.out w6 R6.out.rd).mono ?_
  rintro r w7 ⟨rfl, hb7⟩
  have B7 := Lib.hid (B6.out.trans (hb7.mono B6.out.size))
  have box7 := (hb7.block _ (Array.getElem?_eq_some_iff.1 box6).1).trans box6
  have R7 := Lib.hid (R6.out.old hb7)
  clear hb7 box6 by6 R6
  go_wp2_with (refine wpList_load_rowG rfl 43 (.tmp 3) rfl w2.heap.size rfl 43 Y (0, 0) _ box7 Tryd.underlying43 rfl q3 ?_)
  refine (ck6.out w7 R7.out.rd).mono ?_
  rintro r w8 ⟨rfl, hb8⟩
  have B8 := Lib.hid (B7.out.trans (hb8.mono B7.out.size))
  clear hb8 box7 ck6 R7
  go_wp2_with fail
  go_ret
  exact ⟨rfl, B8.out⟩
end Go.Proofs.YtkejidmomnmdbaaDoor
