/- Texts 6: what the laws lean on. -/
import Derived.Test.YtpbcglepecojmaaVDmi5
import Derived.BigQuiet
namespace Go.Proofs.Ytpbcglepecojmaa
open Go.RowKit

set_option maxRecDepth 20000 in
set_option maxHeartbeats 8000000 in
theorem rkdo1_any {w : World} (S : St) (ok : Ok S) (so : SrtX S.X) (ao : Option Addr) (c : Nat) (hR : Rd encF w ao S.X) (k s : List UInt8) (n : Int) (hk : k.length ≤ 1000000) (hs : s.length ≤ 1000000000) :
    Calls Try.prog 20 #[.agg (rdC S ao c), .int .i64 1, .string ⟨k.toArray⟩, .string ⟨s.toArray⟩, .int .i64 n] w fun e w' => DoP w ao S.X (doS S 1 k s n) (doR S 1 k s n) e w' := by
  have HI := Lib.hid finfo
  have HJ := Lib.hid rinfo
  have HR := Lib.hid hR
  have HOK := Lib.hid ok
  obtain ⟨rm, dd, lf, dn, X⟩ := S
  have hvr := rdC_one ⟨rm, dd, lf, dn, X⟩ ao c
  unfold rdC at hvr ⊢
  simp only at hvr HR so ⊢
  obtain ⟨W0, hW0⟩ : ∃ W0, W0 = (w.alloc (.cells #[.slice ao X.length c, .int .i64 rm, .int .i64 dd, .int .i64 lf, .bool dn] 28)).alloc (.cells #[.slice none 0 0, .int .i64 0, .int .i64 0, .int .i64 0, .bool false] 28) := ⟨_, rfl⟩
  have hb0 : Below w.heap.size w W0 := by rw [hW0]; exact ((Below.refl _ w).alloc (Nat.le_refl _) _).alloc (by simp) _
  have b0 : W0.heap[w.heap.size]? = some (.cells #[.slice ao X.length c, .int .i64 rm, .int .i64 dd, .int .i64 lf, .bool dn] 28 (0, 0)) := by rw [hW0, Below.heap_alloc _ _ _ (by simp)]; exact heap_alloc_new _ _
  have b1 : W0.heap[w.heap.size + 1]? = some (.cells #[.slice none 0 0, .int .i64 0, .int .i64 0, .int .i64 0, .bool false] 28 (0, 0)) := by rw [hW0]; have := heap_alloc_new (w.alloc (.cells #[.slice ao X.length c, .int .i64 rm, .int .i64 dd, .int .i64 lf, .bool dn] 28)) (.cells #[.slice none 0 0, .int .i64 0, .int .i64 0, .int .i64 0, .bool false] 28); simpa using this
  have c04 : W0.cell? ⟨w.heap.size, 4, none⟩ = some (.bool dn) := by unfold World.cell?; rw [b0]; rfl
  cases dn
  rotate_left
  · have e1 : doS ⟨rm, dd, lf, true, X⟩ 1 k s n = ⟨rm, dd, lf, true, X⟩ := rfl
    have e2 : doR ⟨rm, dd, lf, true, X⟩ 1 k s n = 6 := rfl
    rw [e1, e2]
    have HJ2 := HJ.out
    have HF : Hid (∀ W, W = W0.setRow (w.heap.size + 1) #[.slice ao X.length c, .int .i64 rm, .int .i64 dd, .int .i64 lf, .bool true] → W.heap[w.heap.size + 1]? = some (.cells #[.slice ao X.length c, .int .i64 rm, .int .i64 dd, .int .i64 lf, .bool true] 28 (0, 0)) ∧ Below w.heap.size w W) := Lib.hid (by
      rintro W rfl
      exact ⟨setRow_heap _ _ _ _ 28 (0, 0) b1, hb0.trans (((Mod.refl (fun _ => False) W0).setRow (g := w.heap.size + 1) _).to_below hb0.size (by rintro k hk (h | h); exact h; omega))⟩)
    clear e1 e2 ok so hR HOK hb0
    go_enter Try.func20, Try.ntmps20
    go_upto_region 1 with fail
    rw [← hW0]
    clear hW0
    go_wp2_with (first
      | (refine wpList_load_row rfl 28 (.tmp 5) rfl w.heap.size rfl 28 _ (0, 0) _ b0 Try.underlying28 rfl HJ2 ?_; clear b0)
      | (refine wpList_store_row rfl rfl 28 (.tmp 10) (.tmp 16) rfl (w.heap.size + 1) rfl 28 _ #[.slice ao X.length c, .int .i64 rm, .int .i64 dd, .int .i64 lf, .bool true] rfl b1 rfl HJ2 hvr ?_; clear b1))
    obtain ⟨hf1, hf2⟩ := HF.out _ rfl
    exact bodyPost_ret (results_cell_slot Try.results20 _ _ (w.heap.size + 1) 28 _ (0, 0) _ (.int .i64 6) rfl rfl hf1 Try.underlying28 rfl HJ2) rfl ⟨ao, c, rfl, HR.out.old hf2, .inl ⟨rfl, rfl⟩, hf2⟩
  have HB0 := Lib.hid hb0
  have HJ2 := HJ.out
  have HI2 := HI.out
  have HXL : Hid (X.length ≤ 1000000) := Lib.hid (Nat.le_trans ok.n (by decide))
  have HUB : Hid (usedX X ≤ 1000000000000000) := Lib.hid (by
    have h1 := usedX_le ok.f
    have h2 := ok.n
    have h3 : X.length * 2000000000 ≤ 100000 * 2000000000 := Nat.mul_le_mul_right _ h2
    simp only at h1
    omega)
  have hfd := rkfind_any ⟨rm, dd, lf, false, X⟩ ao c k (hR.old hb0) HXL.out
  unfold rdC at hfd
  simp only at hfd
  cases hh : hasX k X
  · rw [fdX_none hh] at hfd
    have HFD := Lib.hid hfd
    have hw0 : wrK ⟨rm, dd, lf, false, X⟩ 1 k s n = 7 := by unfold wrK wrN; simp [hh]
    have e1 : doS ⟨rm, dd, lf, false, X⟩ 1 k s n = ⟨rm, dd, lf, false, X⟩ := by unfold doS dedS; rw [hw0]; rfl
    have e2 : doR ⟨rm, dd, lf, false, X⟩ 1 k s n = 7 := by unfold doR dedR; rw [hw0]; rfl
    have E1 := Lib.hid e1
    have E2 := Lib.hid e2
    clear hfd hh hvr e1 e2 hw0 hR ok so hb0 hs
    go_enter Try.func20, Try.ntmps20
    go_upto_region 1 with fail
    rw [← hW0]
    clear hW0
    go_wp2_with (refine wpList_load_row rfl 28 (.tmp 5) rfl w.heap.size rfl 28 #[.slice ao X.length c, .int .i64 rm, .int .i64 dd, .int .i64 lf, .bool false] (0, 0) _ b0 Try.underlying28 rfl HJ2 ?_)
    refine HFD.out.mono ?_
    rintro e w1 ⟨rfl, hb1⟩
    have HB1 := Lib.hid (HB0.out.trans (hb1.mono HB0.out.size))
    have hc : w1.heap[w.heap.size]? = some (.cells #[.slice ao X.length c, .int .i64 rm, .int .i64 dd, .int .i64 lf, .bool false] 28 (0, 0)) := (hb1.block _ (Array.getElem?_eq_some_iff.1 b0).1).trans b0
    have hz : w1.heap[(w.heap.size + 1)]? = some (.cells #[.slice none 0 0, .int .i64 0, .int .i64 0, .int .i64 0, .bool false] 28 (0, 0)) := (hb1.block _ (Array.getElem?_eq_some_iff.1 b1).1).trans b1
    clear hb1 b0 b1 c04
    have HFN : Hid ((w1.setRow (w.heap.size + 1) #[.slice ao X.length c, .int .i64 rm, .int .i64 dd, .int .i64 lf, .bool false]).heap[(w.heap.size + 1)]? = some (.cells #[.slice ao X.length c, .int .i64 rm, .int .i64 dd, .int .i64 lf, .bool false] 28 (0, 0)) ∧ Below w.heap.size w (w1.setRow (w.heap.size + 1) #[.slice ao X.length c, .int .i64 rm, .int .i64 dd, .int .i64 lf, .bool false]) ∧ Below w.heap.size w w1) := Lib.hid ⟨setRow_heap _ _ _ _ 28 (0, 0) hz, HB1.out.trans (((Mod.refl (fun _ => False) w1).setRow (g := (w.heap.size + 1)) _).to_below HB1.out.size (by rintro k hk (h | h); exact h; omega)), HB1.out⟩
    have hvr : ∀ v ∈ (#[.slice ao X.length c, .int .i64 rm, .int .i64 dd, .int .i64 lf, .bool false] : Array Value).toList, v.oneCell' = true := by intro v hv; simp at hv; rcases hv with rfl | rfl | rfl | rfl | rfl <;> rfl
    go_wp2_with (first
      | (refine wpList_load_row rfl 28 (.tmp 5) rfl w.heap.size rfl 28 #[.slice ao X.length c, .int .i64 rm, .int .i64 dd, .int .i64 lf, .bool false] (0, 0) _ hc Try.underlying28 rfl HJ2 ?_)
      | (refine wpList_store_row rfl rfl 28 (.tmp 10) (.tmp 26) rfl (w.heap.size + 1) rfl 28 #[.slice none 0 0, .int .i64 0, .int .i64 0, .int .i64 0, .bool false] #[.slice ao X.length c, .int .i64 rm, .int .i64 dd, .int .i64 lf, .bool false] rfl hz rfl HJ2 hvr ?_))
    obtain ⟨hf1, hf2, hf3⟩ := HFN.out
    rw [E1.out, E2.out]
    exact bodyPost_ret (results_cell_slot Try.results20 _ _ (w.heap.size + 1) 28 #[.slice ao X.length c, .int .i64 rm, .int .i64 dd, .int .i64 lf, .bool false] (0, 0) _ (.int .i64 7) rfl rfl hf1 Try.underlying28 rfl HJ2) rfl ⟨_, _, rfl, HR.out.old hf2, .inl ⟨rfl, rfl⟩, hf2⟩
  · obtain ⟨j, hj1, hj2⟩ := fdX_some (i := 0) hh
    rw [hj1, Nat.zero_add] at hfd
    have HFD := Lib.hid hfd
    have hjl : j < X.length := (List.getElem?_eq_some_iff.1 hj2).1
    have hfk := fiX_key k X
    obtain ⟨fb, hfb⟩ : ∃ fb, fb = (fiX k X).2.1 := ⟨_, rfl⟩
    obtain ⟨fs, hfs⟩ : ∃ fs, fs = (fiX k X).2.2 := ⟨_, rfl⟩
    have hX : X[j] = (k, fb, fs) := by
      have := (List.getElem?_eq_some_iff.1 hj2).2
      rw [this, hfb, hfs]
      exact Prod.ext hfk rfl
    have HH := Lib.hid hh
    clear hh
    have HFF : Hid (fiX k X = (k, fb, fs)) := Lib.hid (by rw [hfb, hfs]; exact Prod.ext hfk rfl)
    have HLB : Hid (fb.length ≤ 2000000000 ∧ s.length ≤ 1000000000) := Lib.hid ⟨by rw [hfb]; exact fiX_len ok.f k, hs⟩
    obtain ⟨bb, oo, hae, _⟩ := HR.out.fx j hjl
    have HFX : Hid (∀ W, Below w.heap.size w W → W.cell? ⟨bb, oo + j * 3, none⟩ = some (.string ⟨k.toArray⟩) ∧ W.cell? ⟨bb, oo + j * 3 + 1, none⟩ = some (.string ⟨fb.toArray⟩) ∧ W.cell? ⟨bb, oo + j * 3 + 2, none⟩ = some (.int .i64 (fs : Int))) := Lib.hid (fun W hb => by
      obtain ⟨b', o', e, _, c0, c1, c2⟩ := (HR.out.old hb).fx j hjl
      rw [hae] at e
      cases e
      rw [hX] at c0 c1 c2
      exact ⟨c0, c1, c2⟩)
    subst hae
    clear hfd hvr hj1 hj2 hfb hfs hX hfk hR ok so hb0 hs
    have hw0 : wrK ⟨rm, dd, lf, false, X⟩ 1 k s n = 0 := by unfold wrK wrN; simp [HH.out]
    have HW0 := Lib.hid hw0
    clear hw0
    go_enter Try.func20, Try.ntmps20
    go_upto_region 1 with fail
    rw [← hW0]
    clear hW0
    go_wp2_with (refine wpList_load_row rfl 28 (.tmp 5) rfl w.heap.size rfl 28 #[.slice (some ⟨bb, oo, none⟩) X.length c, .int .i64 rm, .int .i64 dd, .int .i64 lf, .bool false] (0, 0) _ b0 Try.underlying28 rfl HJ2 ?_)
    refine HFD.out.mono ?_
    rintro e w1 ⟨rfl, hb1⟩
    have HB1 := Lib.hid (HB0.out.trans (hb1.mono HB0.out.size))
    have hc : w1.heap[w.heap.size]? = some (.cells #[.slice (some ⟨bb, oo, none⟩) X.length c, .int .i64 rm, .int .i64 dd, .int .i64 lf, .bool false] 28 (0, 0)) := (hb1.block _ (Array.getElem?_eq_some_iff.1 b0).1).trans b0
    have hz : w1.heap[(w.heap.size + 1)]? = some (.cells #[.slice none 0 0, .int .i64 0, .int .i64 0, .int .i64 0, .bool false] 28 (0, 0)) := (hb1.block _ (Array.getElem?_eq_some_iff.1 b1).1).trans b1
    clear hb1 b0 b1 c04
    have HDW1 := Lib.hid (DW.make hc hz HB1.out (.string ⟨k.toArray⟩) (.string ⟨#[]⟩) (.int .i64 0) rfl rfl rfl)
    have hr1 : (w1.alloc (.cells #[.string ⟨#[]⟩, .string ⟨#[]⟩, .int .i64 0] 64)).heap[w1.heap.size]? = some (.cells #[.string ⟨#[]⟩, .string ⟨#[]⟩, .int .i64 0] 64 (0, 0)) := heap_alloc_new _ _
    have hV : ∀ v ∈ (#[.string ⟨k.toArray⟩, .string ⟨#[]⟩, .int .i64 0] : Array Value).toList, v.oneCell' = true := by intro v hv; simp at hv; rcases hv with rfl | rfl | rfl <;> rfl
    go_upto_region 8 with (refine wpList_store_row rfl rfl 64 (.tmp 13) (.tmp 28) rfl w1.heap.size rfl 64 _ #[.string ⟨k.toArray⟩, .string ⟨#[]⟩, .int .i64 0] rfl hr1 rfl HI2 hV ?_)
    generalize (w1.alloc (.cells #[.string ⟨#[]⟩, .string ⟨#[]⟩, .int .i64 0] 64)).setRow w1.heap.size #[.string ⟨k.toArray⟩, .string ⟨#[]⟩, .int .i64 0] = W2 at HDW1 ⊢
    clear hr1 hV hc hz
    generalize w1.heap.size = gf at HDW1 ⊢
    obtain ⟨x0, x1, x2⟩ := HFX.out W2 HDW1.out.b
    have hc := (HDW1.out.cell0 0 _ rfl).1
    have hff := HDW1.out.f
    have hV : ∀ v ∈ (#[.string ⟨k.toArray⟩, .string ⟨fb.toArray⟩, .int .i64 (fs : Int)] : Array Value).toList, v.oneCell' = true := by intro v hv; simp at hv; rcases hv with rfl | rfl | rfl <;> rfl
    go_upto_region 9 with (refine wpList_store_row rfl rfl 64 (.tmp 13) (.tmp 35) rfl gf rfl 64 _ #[.string ⟨k.toArray⟩, .string ⟨fb.toArray⟩, .int .i64 (fs : Int)] rfl hff rfl HI2 hV ?_)
    have HDW := Lib.hid (HDW1.out.setRowF #[.string ⟨k.toArray⟩, .string ⟨fb.toArray⟩, .int .i64 (fs : Int)])
    clear HDW1 hc hff hV x0 x1 x2
    generalize W2.setRow gf #[.string ⟨k.toArray⟩, .string ⟨fb.toArray⟩, .int .i64 (fs : Int)] = W3 at HDW ⊢
    go_upto_region 11 with fail
    go_quiet (fail)
    have HDW0 := Lib.hid (HDW.out.drewN nq)
    clear HDW
    have HDW := HDW0
    clear HDW0
    generalize W3.drewN nq = wz at HDW ⊢
    go_upto_region 13 with fail
    by_cases hl : lf = 0
    · subst hl
      have e1 : doS ⟨rm, dd, 0, false, X⟩ 1 k s n = ⟨rm, dd, 0, true, X⟩ := by
        unfold doS dedS; rw [HW0.out]; simp [lfX, XK, syX, HFF.out]
      have e2 : doR ⟨rm, dd, 0, false, X⟩ 1 k s n = 6 := by
        unfold doR dedR; rw [HW0.out]; simp
      have E1 := Lib.hid e1
      have E2 := Lib.hid e2
      clear e1 e2 HW0
      obtain ⟨qa, qb⟩ := HDW.out.cell0 3 _ rfl
      obtain ⟨qc, qd⟩ := HDW.out.cell0 4 _ rfl
      go_upto_region 15 with fail
      have HDW' : Hid (DW w (wz.setCell ⟨w.heap.size, 4, none⟩ (.bool true)) #[.slice (some ⟨bb, oo, none⟩) X.length c, .int .i64 rm, .int .i64 dd, .int .i64 0, .bool true] #[.string ⟨k.toArray⟩, .string ⟨fb.toArray⟩, .int .i64 (fs : Int)] gf) := Lib.hid (HDW.out.set0 4 (.bool true))
      clear qa qb qc qd
      obtain ⟨wH, hren⟩ : ∃ W, W = wz.setCell ⟨w.heap.size, 4, none⟩ (.bool true) := ⟨_, rfl⟩
      rw [← hren] at HDW'  ⊢
      clear hren HDW
      have HDW := HDW'
      clear HDW'
      have hc := HDW.out.c
      have hz := HDW.out.z
      have hvr : ∀ v ∈ (#[.slice (some ⟨bb, oo, none⟩) X.length c, .int .i64 rm, .int .i64 dd, .int .i64 0, .bool true] : Array Value).toList, v.oneCell' = true := by intro v hv; simp at hv; rcases hv with rfl | rfl | rfl | rfl | rfl <;> rfl
      go_wp2_with (first
        | (refine wpList_load_row rfl 28 (.tmp 5) rfl w.heap.size rfl 28 #[.slice (some ⟨bb, oo, none⟩) X.length c, .int .i64 rm, .int .i64 dd, .int .i64 0, .bool true] (0, 0) _ hc Try.underlying28 rfl HJ2 ?_)
        | (refine wpList_store_row rfl rfl 28 (.tmp 10) (.tmp 67) rfl (w.heap.size + 1) rfl 28 #[.slice none 0 0, .int .i64 0, .int .i64 0, .int .i64 0, .bool false] #[.slice (some ⟨bb, oo, none⟩) X.length c, .int .i64 rm, .int .i64 dd, .int .i64 0, .bool true] rfl hz rfl HJ2 hvr ?_))
      obtain ⟨hf1, hf2, hf3⟩ := HDW.out.fin
      rw [E1.out, E2.out]
      exact bodyPost_ret (results_cell_slot Try.results20 _ _ (w.heap.size + 1) 28 #[.slice (some ⟨bb, oo, none⟩) X.length c, .int .i64 rm, .int .i64 dd, .int .i64 0, .bool true] (0, 0) _ (.int .i64 6) rfl rfl hf1 Try.underlying28 rfl HJ2) rfl ⟨_, _, rfl, HR.out.old hf2, .inl ⟨rfl, rfl⟩, hf2⟩
    · have l0 : (lf == 0) = false := by simpa using hl
      by_cases hm : lf = -1
      · skip
        subst hm
        have hwd : IntKind.i64.wrap (dd + 1) = dd + 1 := by have h1 := HOK.out.d0; have h2 := HOK.out.d1; simp only at h1 h2; rw [IntKind.wrap_i64]; omega
        have e1 : doS ⟨rm, dd, (-1), false, X⟩ 1 k s n = ⟨rm, dd + 1, (-1), false, withX (k, fb, fb.length) X⟩ := by
          unfold doS dedS; rw [HW0.out]; simp [lfX, XK, syX, HFF.out]
        have e2 : doR ⟨rm, dd, (-1), false, X⟩ 1 k s n = 0 := by
          unfold doR dedR; rw [HW0.out]; simp
        have E1 := Lib.hid e1
        have E2 := Lib.hid e2
        clear e1 e2 HW0
        obtain ⟨qa, qb⟩ := HDW.out.cell0 3 _ rfl
        obtain ⟨qc, qd⟩ := HDW.out.cell0 2 _ rfl
        go_upto_region 20 with fail
        have HDW' : Hid (DW w (wz.setCell ⟨w.heap.size, 2, none⟩ (.int .i64 (dd + 1))) #[.slice (some ⟨bb, oo, none⟩) X.length c, .int .i64 rm, .int .i64 (dd + 1), .int .i64 (-1), .bool false] #[.string ⟨k.toArray⟩, .string ⟨fb.toArray⟩, .int .i64 (fs : Int)] gf) := Lib.hid (HDW.out.set0 2 (.int .i64 (dd + 1)))
        clear qa qb qc qd
        obtain ⟨wS, hren⟩ : ∃ W, W = wz.setCell ⟨w.heap.size, 2, none⟩ (.int .i64 (dd + 1)) := ⟨_, rfl⟩
        rw [← hren] at HDW'  ⊢
        clear hren HDW
        have HDW := HDW'
        clear HDW'
        obtain ⟨qa, qb⟩ := HDW.out.cellF 2 _ rfl
        have q1 := (HDW.out.cellF 1 _ rfl).1
        go_upto_region 25 with fail
        have HDW' : Hid (DW w (wS.setCell ⟨gf, 2, none⟩ (.int .i64 (fb.length : Int))) #[.slice (some ⟨bb, oo, none⟩) X.length c, .int .i64 rm, .int .i64 (dd + 1), .int .i64 (-1), .bool false] #[.string ⟨k.toArray⟩, .string ⟨fb.toArray⟩, .int .i64 (fb.length : Int)] gf) := Lib.hid (HDW.out.setF 2 (.int .i64 (fb.length : Int)))
        clear qa qb q1
        obtain ⟨wF, hren⟩ : ∃ W, W = wS.setCell ⟨gf, 2, none⟩ (.int .i64 (fb.length : Int)) := ⟨_, rfl⟩
        rw [← hren] at HDW'  ⊢
        clear hren HDW
        have HDW := HDW'
        clear HDW'
        have qc := (HDW.out.cell0 0 _ rfl).1
        have qr := HDW.out.f
        have HCL := Lib.hid (rkwith_any X _ c k fb fb.length (HR.out.old HDW.out.b) HXL.out)
        go_wp2_with (refine wpList_load_row rfl 64 (.tmp 13) rfl gf rfl 64 #[.string ⟨k.toArray⟩, .string ⟨fb.toArray⟩, .int .i64 (fb.length : Int)] (0, 0) _ qr Try.underlying64 rfl HI2 ?_)
        refine HCL.out.mono ?_
        rintro e wcq ⟨qq, cq, rfl, hq, hn, hb⟩
        have HQ0 := Lib.hid (QK.of HDW.out hq hn)
        have HDW0 := Lib.hid (HDW.out.old hb)
        clear qc hq hn hb HCL HDW qr
        have HDW := HDW0
        clear HDW0
        obtain ⟨qa, qb⟩ := HDW.out.cell0 0 _ rfl
        go_upto_region 36 with fail
        have HDW' : Hid (DW w (wcq.setCell ⟨w.heap.size, 0, none⟩ (.slice qq (withX (k, fb, fb.length) X).length cq)) #[.slice qq (withX (k, fb, fb.length) X).length cq, .int .i64 rm, .int .i64 (dd + 1), .int .i64 (-1), .bool false] #[.string ⟨k.toArray⟩, .string ⟨fb.toArray⟩, .int .i64 (fb.length : Int)] gf) := Lib.hid (HDW.out.set0 0 (.slice qq (withX (k, fb, fb.length) X).length cq))
        have HQ := Lib.hid (HQ0.out.set0 0 (.slice qq (withX (k, fb, fb.length) X).length cq))
        clear qa qb HQ0
        obtain ⟨wN, hren⟩ : ∃ W, W = wcq.setCell ⟨w.heap.size, 0, none⟩ (.slice qq (withX (k, fb, fb.length) X).length cq) := ⟨_, rfl⟩
        rw [← hren] at HDW' HQ ⊢
        clear hren HDW
        have HDW := HDW'
        clear HDW'
        have hc := HDW.out.c
        have hz := HDW.out.z
        have hvr : ∀ v ∈ (#[.slice qq (withX (k, fb, fb.length) X).length cq, .int .i64 rm, .int .i64 (dd + 1), .int .i64 (-1), .bool false] : Array Value).toList, v.oneCell' = true := by intro v hv; simp at hv; rcases hv with rfl | rfl | rfl | rfl | rfl <;> rfl
        go_wp2_with (first
          | (refine wpList_load_row rfl 28 (.tmp 5) rfl w.heap.size rfl 28 #[.slice qq (withX (k, fb, fb.length) X).length cq, .int .i64 rm, .int .i64 (dd + 1), .int .i64 (-1), .bool false] (0, 0) _ hc Try.underlying28 rfl HJ2 ?_)
          | (refine wpList_store_row rfl rfl 28 (.tmp 10) (.tmp 141) rfl (w.heap.size + 1) rfl 28 #[.slice none 0 0, .int .i64 0, .int .i64 0, .int .i64 0, .bool false] #[.slice qq (withX (k, fb, fb.length) X).length cq, .int .i64 rm, .int .i64 (dd + 1), .int .i64 (-1), .bool false] rfl hz rfl HJ2 hvr ?_))
        obtain ⟨hf1, hf2, hf3⟩ := HDW.out.fin
        rw [E1.out, E2.out]
        exact bodyPost_ret (results_cell_slot Try.results20 _ _ (w.heap.size + 1) 28 #[.slice qq (withX (k, fb, fb.length) X).length cq, .int .i64 rm, .int .i64 (dd + 1), .int .i64 (-1), .bool false] (0, 0) _ (.int .i64 0) rfl rfl hf1 Try.underlying28 rfl HJ2) rfl ⟨_, _, rfl, HQ.out.fin _, .inr (fun a e => by have := (HQ.out.2 a e).1; omega), hf2⟩
      · skip
        have hpos : (0 : Int) < lf := by have := HOK.out.l0; simp only at this; omega
        have l1 : decide ((0 : Int) < lf) = true := by simpa using hpos
        have hwl : IntKind.i64.wrap (lf - 1) = lf - 1 := by have := HOK.out.l1; simp only at this; rw [IntKind.wrap_i64]; omega
        have hwd : IntKind.i64.wrap (dd + 1) = dd + 1 := by have h1 := HOK.out.d0; have h2 := HOK.out.d1; simp only at h1 h2; rw [IntKind.wrap_i64]; omega
        have e1 : doS ⟨rm, dd, lf, false, X⟩ 1 k s n = ⟨rm, dd + 1, (lf - 1), false, withX (k, fb, fb.length) X⟩ := by
          unfold doS dedS; rw [HW0.out]; simp [lfX, XK, syX, HFF.out, hm, hl]
        have e2 : doR ⟨rm, dd, lf, false, X⟩ 1 k s n = 0 := by
          unfold doR dedR; rw [HW0.out]; simp [hl]
        have E1 := Lib.hid e1
        have E2 := Lib.hid e2
        clear e1 e2 HW0
        clear hm hl
        obtain ⟨qa, qb⟩ := HDW.out.cell0 3 _ rfl
        go_upto_region 18 with fail
        have HDW' : Hid (DW w (wz.setCell ⟨w.heap.size, 3, none⟩ (.int .i64 (lf - 1))) #[.slice (some ⟨bb, oo, none⟩) X.length c, .int .i64 rm, .int .i64 dd, .int .i64 (lf - 1), .bool false] #[.string ⟨k.toArray⟩, .string ⟨fb.toArray⟩, .int .i64 (fs : Int)] gf) := Lib.hid (HDW.out.set0 3 (.int .i64 (lf - 1)))
        clear qa qb
        obtain ⟨wG, hren⟩ : ∃ W, W = wz.setCell ⟨w.heap.size, 3, none⟩ (.int .i64 (lf - 1)) := ⟨_, rfl⟩
        rw [← hren] at HDW'  ⊢
        clear hren HDW
        have HDW := HDW'
        clear HDW'
        obtain ⟨qa, qb⟩ := HDW.out.cell0 3 _ rfl
        obtain ⟨qc, qd⟩ := HDW.out.cell0 2 _ rfl
        go_upto_region 20 with fail
        have HDW' : Hid (DW w (wG.setCell ⟨w.heap.size, 2, none⟩ (.int .i64 (dd + 1))) #[.slice (some ⟨bb, oo, none⟩) X.length c, .int .i64 rm, .int .i64 (dd + 1), .int .i64 (lf - 1), .bool false] #[.string ⟨k.toArray⟩, .string ⟨fb.toArray⟩, .int .i64 (fs : Int)] gf) := Lib.hid (HDW.out.set0 2 (.int .i64 (dd + 1)))
        clear qa qb qc qd
        obtain ⟨wS, hren⟩ : ∃ W, W = wG.setCell ⟨w.heap.size, 2, none⟩ (.int .i64 (dd + 1)) := ⟨_, rfl⟩
        rw [← hren] at HDW'  ⊢
        clear hren HDW
        have HDW := HDW'
        clear HDW'
        obtain ⟨qa, qb⟩ := HDW.out.cellF 2 _ rfl
        have q1 := (HDW.out.cellF 1 _ rfl).1
        go_upto_region 25 with fail
        have HDW' : Hid (DW w (wS.setCell ⟨gf, 2, none⟩ (.int .i64 (fb.length : Int))) #[.slice (some ⟨bb, oo, none⟩) X.length c, .int .i64 rm, .int .i64 (dd + 1), .int .i64 (lf - 1), .bool false] #[.string ⟨k.toArray⟩, .string ⟨fb.toArray⟩, .int .i64 (fb.length : Int)] gf) := Lib.hid (HDW.out.setF 2 (.int .i64 (fb.length : Int)))
        clear qa qb q1
        obtain ⟨wF, hren⟩ : ∃ W, W = wS.setCell ⟨gf, 2, none⟩ (.int .i64 (fb.length : Int)) := ⟨_, rfl⟩
        rw [← hren] at HDW'  ⊢
        clear hren HDW
        have HDW := HDW'
        clear HDW'
        have qc := (HDW.out.cell0 0 _ rfl).1
        have qr := HDW.out.f
        have HCL := Lib.hid (rkwith_any X _ c k fb fb.length (HR.out.old HDW.out.b) HXL.out)
        go_wp2_with (refine wpList_load_row rfl 64 (.tmp 13) rfl gf rfl 64 #[.string ⟨k.toArray⟩, .string ⟨fb.toArray⟩, .int .i64 (fb.length : Int)] (0, 0) _ qr Try.underlying64 rfl HI2 ?_)
        refine HCL.out.mono ?_
        rintro e wcq ⟨qq, cq, rfl, hq, hn, hb⟩
        have HQ0 := Lib.hid (QK.of HDW.out hq hn)
        have HDW0 := Lib.hid (HDW.out.old hb)
        clear qc hq hn hb HCL HDW qr
        have HDW := HDW0
        clear HDW0
        obtain ⟨qa, qb⟩ := HDW.out.cell0 0 _ rfl
        go_upto_region 36 with fail
        have HDW' : Hid (DW w (wcq.setCell ⟨w.heap.size, 0, none⟩ (.slice qq (withX (k, fb, fb.length) X).length cq)) #[.slice qq (withX (k, fb, fb.length) X).length cq, .int .i64 rm, .int .i64 (dd + 1), .int .i64 (lf - 1), .bool false] #[.string ⟨k.toArray⟩, .string ⟨fb.toArray⟩, .int .i64 (fb.length : Int)] gf) := Lib.hid (HDW.out.set0 0 (.slice qq (withX (k, fb, fb.length) X).length cq))
        have HQ := Lib.hid (HQ0.out.set0 0 (.slice qq (withX (k, fb, fb.length) X).length cq))
        clear qa qb HQ0
        obtain ⟨wN, hren⟩ : ∃ W, W = wcq.setCell ⟨w.heap.size, 0, none⟩ (.slice qq (withX (k, fb, fb.length) X).length cq) := ⟨_, rfl⟩
        rw [← hren] at HDW' HQ ⊢
        clear hren HDW
        have HDW := HDW'
        clear HDW'
        have hc := HDW.out.c
        have hz := HDW.out.z
        have hvr : ∀ v ∈ (#[.slice qq (withX (k, fb, fb.length) X).length cq, .int .i64 rm, .int .i64 (dd + 1), .int .i64 (lf - 1), .bool false] : Array Value).toList, v.oneCell' = true := by intro v hv; simp at hv; rcases hv with rfl | rfl | rfl | rfl | rfl <;> rfl
        go_wp2_with (first
          | (refine wpList_load_row rfl 28 (.tmp 5) rfl w.heap.size rfl 28 #[.slice qq (withX (k, fb, fb.length) X).length cq, .int .i64 rm, .int .i64 (dd + 1), .int .i64 (lf - 1), .bool false] (0, 0) _ hc Try.underlying28 rfl HJ2 ?_)
          | (refine wpList_store_row rfl rfl 28 (.tmp 10) (.tmp 141) rfl (w.heap.size + 1) rfl 28 #[.slice none 0 0, .int .i64 0, .int .i64 0, .int .i64 0, .bool false] #[.slice qq (withX (k, fb, fb.length) X).length cq, .int .i64 rm, .int .i64 (dd + 1), .int .i64 (lf - 1), .bool false] rfl hz rfl HJ2 hvr ?_))
        obtain ⟨hf1, hf2, hf3⟩ := HDW.out.fin
        rw [E1.out, E2.out]
        exact bodyPost_ret (results_cell_slot Try.results20 _ _ (w.heap.size + 1) 28 #[.slice qq (withX (k, fb, fb.length) X).length cq, .int .i64 rm, .int .i64 (dd + 1), .int .i64 (lf - 1), .bool false] (0, 0) _ (.int .i64 0) rfl rfl hf1 Try.underlying28 rfl HJ2) rfl ⟨_, _, rfl, HQ.out.fin _, .inr (fun a e => by have := (HQ.out.2 a e).1; omega), hf2⟩
end Go.Proofs.Ytpbcglepecojmaa

namespace Go.Proofs.Ytpbcglepecojmaa
open Go.RowKit

set_option maxRecDepth 20000 in
set_option maxHeartbeats 8000000 in
theorem rkdo2_any {w : World} (S : St) (ok : Ok S) (so : SrtX S.X) (ao : Option Addr) (c : Nat) (hR : Rd encF w ao S.X) (k s : List UInt8) (n : Int) (hk : k.length ≤ 1000000) (hs : s.length ≤ 1000000000) :
    Calls Try.prog 20 #[.agg (rdC S ao c), .int .i64 2, .string ⟨k.toArray⟩, .string ⟨s.toArray⟩, .int .i64 n] w fun e w' => DoP w ao S.X (doS S 2 k s n) (doR S 2 k s n) e w' := by
  have HI := Lib.hid finfo
  have HJ := Lib.hid rinfo
  have HR := Lib.hid hR
  have HOK := Lib.hid ok
  obtain ⟨rm, dd, lf, dn, X⟩ := S
  have hvr := rdC_one ⟨rm, dd, lf, dn, X⟩ ao c
  unfold rdC at hvr ⊢
  simp only at hvr HR so ⊢
  obtain ⟨W0, hW0⟩ : ∃ W0, W0 = (w.alloc (.cells #[.slice ao X.length c, .int .i64 rm, .int .i64 dd, .int .i64 lf, .bool dn] 28)).alloc (.cells #[.slice none 0 0, .int .i64 0, .int .i64 0, .int .i64 0, .bool false] 28) := ⟨_, rfl⟩
  have hb0 : Below w.heap.size w W0 := by rw [hW0]; exact ((Below.refl _ w).alloc (Nat.le_refl _) _).alloc (by simp) _
  have b0 : W0.heap[w.heap.size]? = some (.cells #[.slice ao X.length c, .int .i64 rm, .int .i64 dd, .int .i64 lf, .bool dn] 28 (0, 0)) := by rw [hW0, Below.heap_alloc _ _ _ (by simp)]; exact heap_alloc_new _ _
  have b1 : W0.heap[w.heap.size + 1]? = some (.cells #[.slice none 0 0, .int .i64 0, .int .i64 0, .int .i64 0, .bool false] 28 (0, 0)) := by rw [hW0]; have := heap_alloc_new (w.alloc (.cells #[.slice ao X.length c, .int .i64 rm, .int .i64 dd, .int .i64 lf, .bool dn] 28)) (.cells #[.slice none 0 0, .int .i64 0, .int .i64 0, .int .i64 0, .bool false] 28); simpa using this
  have c04 : W0.cell? ⟨w.heap.size, 4, none⟩ = some (.bool dn) := by unfold World.cell?; rw [b0]; rfl
  cases dn
  rotate_left
  · have e1 : doS ⟨rm, dd, lf, true, X⟩ 2 k s n = ⟨rm, dd, lf, true, X⟩ := rfl
    have e2 : doR ⟨rm, dd, lf, true, X⟩ 2 k s n = 6 := rfl
    rw [e1, e2]
    have HJ2 := HJ.out
    have HF : Hid (∀ W, W = W0.setRow (w.heap.size + 1) #[.slice ao X.length c, .int .i64 rm, .int .i64 dd, .int .i64 lf, .bool true] → W.heap[w.heap.size + 1]? = some (.cells #[.slice ao X.length c, .int .i64 rm, .int .i64 dd, .int .i64 lf, .bool true] 28 (0, 0)) ∧ Below w.heap.size w W) := Lib.hid (by
      rintro W rfl
      exact ⟨setRow_heap _ _ _ _ 28 (0, 0) b1, hb0.trans (((Mod.refl (fun _ => False) W0).setRow (g := w.heap.size + 1) _).to_below hb0.size (by rintro k hk (h | h); exact h; omega))⟩)
    clear e1 e2 ok so hR HOK hb0
    go_enter Try.func20, Try.ntmps20
    go_upto_region 1 with fail
    rw [← hW0]
    clear hW0
    go_wp2_with (first
      | (refine wpList_load_row rfl 28 (.tmp 5) rfl w.heap.size rfl 28 _ (0, 0) _ b0 Try.underlying28 rfl HJ2 ?_; clear b0)
      | (refine wpList_store_row rfl rfl 28 (.tmp 10) (.tmp 16) rfl (w.heap.size + 1) rfl 28 _ #[.slice ao X.length c, .int .i64 rm, .int .i64 dd, .int .i64 lf, .bool true] rfl b1 rfl HJ2 hvr ?_; clear b1))
    obtain ⟨hf1, hf2⟩ := HF.out _ rfl
    exact bodyPost_ret (results_cell_slot Try.results20 _ _ (w.heap.size + 1) 28 _ (0, 0) _ (.int .i64 6) rfl rfl hf1 Try.underlying28 rfl HJ2) rfl ⟨ao, c, rfl, HR.out.old hf2, .inl ⟨rfl, rfl⟩, hf2⟩
  have HB0 := Lib.hid hb0
  have HJ2 := HJ.out
  have HI2 := HI.out
  have HXL : Hid (X.length ≤ 1000000) := Lib.hid (Nat.le_trans ok.n (by decide))
  have HUB : Hid (usedX X ≤ 1000000000000000) := Lib.hid (by
    have h1 := usedX_le ok.f
    have h2 := ok.n
    have h3 : X.length * 2000000000 ≤ 100000 * 2000000000 := Nat.mul_le_mul_right _ h2
    simp only at h1
    omega)
  have hfd := rkfind_any ⟨rm, dd, lf, false, X⟩ ao c k (hR.old hb0) HXL.out
  unfold rdC at hfd
  simp only at hfd
  cases hh : hasX k X
  · rw [fdX_none hh] at hfd
    have HFD := Lib.hid hfd
    have hw0 : wrK ⟨rm, dd, lf, false, X⟩ 2 k s n = 7 := by unfold wrK wrC; simp [hh]
    have e1 : doS ⟨rm, dd, lf, false, X⟩ 2 k s n = ⟨rm, dd, lf, false, X⟩ := by unfold doS dedS; rw [hw0]; rfl
    have e2 : doR ⟨rm, dd, lf, false, X⟩ 2 k s n = 7 := by unfold doR dedR; rw [hw0]; rfl
    have E1 := Lib.hid e1
    have E2 := Lib.hid e2
    clear hfd hh hvr e1 e2 hw0 hR ok so hb0 hs
    go_enter Try.func20, Try.ntmps20
    go_upto_region 1 with fail
    rw [← hW0]
    clear hW0
    go_wp2_with (refine wpList_load_row rfl 28 (.tmp 5) rfl w.heap.size rfl 28 #[.slice ao X.length c, .int .i64 rm, .int .i64 dd, .int .i64 lf, .bool false] (0, 0) _ b0 Try.underlying28 rfl HJ2 ?_)
    refine HFD.out.mono ?_
    rintro e w1 ⟨rfl, hb1⟩
    have HB1 := Lib.hid (HB0.out.trans (hb1.mono HB0.out.size))
    have hc : w1.heap[w.heap.size]? = some (.cells #[.slice ao X.length c, .int .i64 rm, .int .i64 dd, .int .i64 lf, .bool false] 28 (0, 0)) := (hb1.block _ (Array.getElem?_eq_some_iff.1 b0).1).trans b0
    have hz : w1.heap[(w.heap.size + 1)]? = some (.cells #[.slice none 0 0, .int .i64 0, .int .i64 0, .int .i64 0, .bool false] 28 (0, 0)) := (hb1.block _ (Array.getElem?_eq_some_iff.1 b1).1).trans b1
    clear hb1 b0 b1 c04
    have HFN : Hid ((w1.setRow (w.heap.size + 1) #[.slice ao X.length c, .int .i64 rm, .int .i64 dd, .int .i64 lf, .bool false]).heap[(w.heap.size + 1)]? = some (.cells #[.slice ao X.length c, .int .i64 rm, .int .i64 dd, .int .i64 lf, .bool false] 28 (0, 0)) ∧ Below w.heap.size w (w1.setRow (w.heap.size + 1) #[.slice ao X.length c, .int .i64 rm, .int .i64 dd, .int .i64 lf, .bool false]) ∧ Below w.heap.size w w1) := Lib.hid ⟨setRow_heap _ _ _ _ 28 (0, 0) hz, HB1.out.trans (((Mod.refl (fun _ => False) w1).setRow (g := (w.heap.size + 1)) _).to_below HB1.out.size (by rintro k hk (h | h); exact h; omega)), HB1.out⟩
    have hvr : ∀ v ∈ (#[.slice ao X.length c, .int .i64 rm, .int .i64 dd, .int .i64 lf, .bool false] : Array Value).toList, v.oneCell' = true := by intro v hv; simp at hv; rcases hv with rfl | rfl | rfl | rfl | rfl <;> rfl
    go_wp2_with (first
      | (refine wpList_load_row rfl 28 (.tmp 5) rfl w.heap.size rfl 28 #[.slice ao X.length c, .int .i64 rm, .int .i64 dd, .int .i64 lf, .bool false] (0, 0) _ hc Try.underlying28 rfl HJ2 ?_)
      | (refine wpList_store_row rfl rfl 28 (.tmp 10) (.tmp 26) rfl (w.heap.size + 1) rfl 28 #[.slice none 0 0, .int .i64 0, .int .i64 0, .int .i64 0, .bool false] #[.slice ao X.length c, .int .i64 rm, .int .i64 dd, .int .i64 lf, .bool false] rfl hz rfl HJ2 hvr ?_))
    obtain ⟨hf1, hf2, hf3⟩ := HFN.out
    rw [E1.out, E2.out]
    exact bodyPost_ret (results_cell_slot Try.results20 _ _ (w.heap.size + 1) 28 #[.slice ao X.length c, .int .i64 rm, .int .i64 dd, .int .i64 lf, .bool false] (0, 0) _ (.int .i64 7) rfl rfl hf1 Try.underlying28 rfl HJ2) rfl ⟨_, _, rfl, HR.out.old hf2, .inl ⟨rfl, rfl⟩, hf2⟩
  · obtain ⟨j, hj1, hj2⟩ := fdX_some (i := 0) hh
    rw [hj1, Nat.zero_add] at hfd
    have HFD := Lib.hid hfd
    have hjl : j < X.length := (List.getElem?_eq_some_iff.1 hj2).1
    have hfk := fiX_key k X
    obtain ⟨fb, hfb⟩ : ∃ fb, fb = (fiX k X).2.1 := ⟨_, rfl⟩
    obtain ⟨fs, hfs⟩ : ∃ fs, fs = (fiX k X).2.2 := ⟨_, rfl⟩
    have hX : X[j] = (k, fb, fs) := by
      have := (List.getElem?_eq_some_iff.1 hj2).2
      rw [this, hfb, hfs]
      exact Prod.ext hfk rfl
    have HH := Lib.hid hh
    clear hh
    have HFF : Hid (fiX k X = (k, fb, fs)) := Lib.hid (by rw [hfb, hfs]; exact Prod.ext hfk rfl)
    have HLB : Hid (fb.length ≤ 2000000000 ∧ s.length ≤ 1000000000) := Lib.hid ⟨by rw [hfb]; exact fiX_len ok.f k, hs⟩
    obtain ⟨bb, oo, hae, _⟩ := HR.out.fx j hjl
    have HFX : Hid (∀ W, Below w.heap.size w W → W.cell? ⟨bb, oo + j * 3, none⟩ = some (.string ⟨k.toArray⟩) ∧ W.cell? ⟨bb, oo + j * 3 + 1, none⟩ = some (.string ⟨fb.toArray⟩) ∧ W.cell? ⟨bb, oo + j * 3 + 2, none⟩ = some (.int .i64 (fs : Int))) := Lib.hid (fun W hb => by
      obtain ⟨b', o', e, _, c0, c1, c2⟩ := (HR.out.old hb).fx j hjl
      rw [hae] at e
      cases e
      rw [hX] at c0 c1 c2
      exact ⟨c0, c1, c2⟩)
    subst hae
    clear hfd hvr hj1 hj2 hfb hfs hX hfk hR ok so hb0 hs
    by_cases hn1 : n < 0
    · have bn1 : decide (n < 0) = true := by simpa using hn1
      have hw0 : wrK ⟨rm, dd, lf, false, X⟩ 2 k s n = 1 := by unfold wrK wrC; simp [HH.out, HFF.out, hn1]
      have e1 : doS ⟨rm, dd, lf, false, X⟩ 2 k s n = ⟨rm, dd, lf, false, X⟩ := by unfold doS dedS; rw [hw0]; rfl
      have e2 : doR ⟨rm, dd, lf, false, X⟩ 2 k s n = 1 := by unfold doR dedR; rw [hw0]; rfl
      have E1 := Lib.hid e1
      have E2 := Lib.hid e2
      clear e1 e2 hw0 
      go_enter Try.func20, Try.ntmps20
      go_upto_region 1 with fail
      rw [← hW0]
      clear hW0
      go_wp2_with (refine wpList_load_row rfl 28 (.tmp 5) rfl w.heap.size rfl 28 #[.slice (some ⟨bb, oo, none⟩) X.length c, .int .i64 rm, .int .i64 dd, .int .i64 lf, .bool false] (0, 0) _ b0 Try.underlying28 rfl HJ2 ?_)
      refine HFD.out.mono ?_
      rintro e w1 ⟨rfl, hb1⟩
      have HB1 := Lib.hid (HB0.out.trans (hb1.mono HB0.out.size))
      have hc : w1.heap[w.heap.size]? = some (.cells #[.slice (some ⟨bb, oo, none⟩) X.length c, .int .i64 rm, .int .i64 dd, .int .i64 lf, .bool false] 28 (0, 0)) := (hb1.block _ (Array.getElem?_eq_some_iff.1 b0).1).trans b0
      have hz : w1.heap[(w.heap.size + 1)]? = some (.cells #[.slice none 0 0, .int .i64 0, .int .i64 0, .int .i64 0, .bool false] 28 (0, 0)) := (hb1.block _ (Array.getElem?_eq_some_iff.1 b1).1).trans b1
      clear hb1 b0 b1 c04
      have HDW1 := Lib.hid (DW.make hc hz HB1.out (.string ⟨k.toArray⟩) (.string ⟨#[]⟩) (.int .i64 0) rfl rfl rfl)
      have hr1 : (w1.alloc (.cells #[.string ⟨#[]⟩, .string ⟨#[]⟩, .int .i64 0] 64)).heap[w1.heap.size]? = some (.cells #[.string ⟨#[]⟩, .string ⟨#[]⟩, .int .i64 0] 64 (0, 0)) := heap_alloc_new _ _
      have hV : ∀ v ∈ (#[.string ⟨k.toArray⟩, .string ⟨#[]⟩, .int .i64 0] : Array Value).toList, v.oneCell' = true := by intro v hv; simp at hv; rcases hv with rfl | rfl | rfl <;> rfl
      go_upto_region 8 with (refine wpList_store_row rfl rfl 64 (.tmp 13) (.tmp 28) rfl w1.heap.size rfl 64 _ #[.string ⟨k.toArray⟩, .string ⟨#[]⟩, .int .i64 0] rfl hr1 rfl HI2 hV ?_)
      generalize (w1.alloc (.cells #[.string ⟨#[]⟩, .string ⟨#[]⟩, .int .i64 0] 64)).setRow w1.heap.size #[.string ⟨k.toArray⟩, .string ⟨#[]⟩, .int .i64 0] = W2 at HDW1 ⊢
      clear hr1 hV hc hz
      generalize w1.heap.size = gf at HDW1 ⊢
      obtain ⟨x0, x1, x2⟩ := HFX.out W2 HDW1.out.b
      have hc := (HDW1.out.cell0 0 _ rfl).1
      have hff := HDW1.out.f
      have hV : ∀ v ∈ (#[.string ⟨k.toArray⟩, .string ⟨fb.toArray⟩, .int .i64 (fs : Int)] : Array Value).toList, v.oneCell' = true := by intro v hv; simp at hv; rcases hv with rfl | rfl | rfl <;> rfl
      go_upto_region 9 with (refine wpList_store_row rfl rfl 64 (.tmp 13) (.tmp 35) rfl gf rfl 64 _ #[.string ⟨k.toArray⟩, .string ⟨fb.toArray⟩, .int .i64 (fs : Int)] rfl hff rfl HI2 hV ?_)
      have HDW := Lib.hid (HDW1.out.setRowF #[.string ⟨k.toArray⟩, .string ⟨fb.toArray⟩, .int .i64 (fs : Int)])
      clear HDW1 hc hff hV x0 x1 x2
      generalize W2.setRow gf #[.string ⟨k.toArray⟩, .string ⟨fb.toArray⟩, .int .i64 (fs : Int)] = W3 at HDW ⊢
      obtain ⟨q1, _⟩ := HDW.out.cellF 1 _ rfl
      have hc := HDW.out.c
      have hz := HDW.out.z
      have hvr : ∀ v ∈ (#[.slice (some ⟨bb, oo, none⟩) X.length c, .int .i64 rm, .int .i64 dd, .int .i64 lf, .bool false] : Array Value).toList, v.oneCell' = true := by intro v hv; simp at hv; rcases hv with rfl | rfl | rfl | rfl | rfl <;> rfl
      go_wp2_with (first
        | (refine wpList_load_row rfl 28 (.tmp 5) rfl w.heap.size rfl 28 #[.slice (some ⟨bb, oo, none⟩) X.length c, .int .i64 rm, .int .i64 dd, .int .i64 lf, .bool false] (0, 0) _ hc Try.underlying28 rfl HJ2 ?_)
        | (refine wpList_store_row rfl rfl 28 (.tmp 10) (.tmp 49) rfl (w.heap.size + 1) rfl 28 #[.slice none 0 0, .int .i64 0, .int .i64 0, .int .i64 0, .bool false] #[.slice (some ⟨bb, oo, none⟩) X.length c, .int .i64 rm, .int .i64 dd, .int .i64 lf, .bool false] rfl hz rfl HJ2 hvr ?_))
      obtain ⟨hf1, hf2, hf3⟩ := HDW.out.fin
      rw [E1.out, E2.out]
      exact bodyPost_ret (results_cell_slot Try.results20 _ _ (w.heap.size + 1) 28 #[.slice (some ⟨bb, oo, none⟩) X.length c, .int .i64 rm, .int .i64 dd, .int .i64 lf, .bool false] (0, 0) _ (.int .i64 1) rfl rfl hf1 Try.underlying28 rfl HJ2) rfl ⟨_, _, rfl, HR.out.old hf2, .inl ⟨rfl, rfl⟩, hf2⟩
    have bn1 : decide (n < 0) = false := by simpa using hn1
    by_cases hn2 : (fb.length : Int) < n
    · have bn2 : decide ((fb.length : Int) < n) = true := by simpa using hn2
      have hw0 : wrK ⟨rm, dd, lf, false, X⟩ 2 k s n = 1 := by unfold wrK wrC; simp [HH.out, HFF.out, hn1, hn2]
      have e1 : doS ⟨rm, dd, lf, false, X⟩ 2 k s n = ⟨rm, dd, lf, false, X⟩ := by unfold doS dedS; rw [hw0]; rfl
      have e2 : doR ⟨rm, dd, lf, false, X⟩ 2 k s n = 1 := by unfold doR dedR; rw [hw0]; rfl
      have E1 := Lib.hid e1
      have E2 := Lib.hid e2
      clear e1 e2 hw0 
      go_enter Try.func20, Try.ntmps20
      go_upto_region 1 with fail
      rw [← hW0]
      clear hW0
      go_wp2_with (refine wpList_load_row rfl 28 (.tmp 5) rfl w.heap.size rfl 28 #[.slice (some ⟨bb, oo, none⟩) X.length c, .int .i64 rm, .int .i64 dd, .int .i64 lf, .bool false] (0, 0) _ b0 Try.underlying28 rfl HJ2 ?_)
      refine HFD.out.mono ?_
      rintro e w1 ⟨rfl, hb1⟩
      have HB1 := Lib.hid (HB0.out.trans (hb1.mono HB0.out.size))
      have hc : w1.heap[w.heap.size]? = some (.cells #[.slice (some ⟨bb, oo, none⟩) X.length c, .int .i64 rm, .int .i64 dd, .int .i64 lf, .bool false] 28 (0, 0)) := (hb1.block _ (Array.getElem?_eq_some_iff.1 b0).1).trans b0
      have hz : w1.heap[(w.heap.size + 1)]? = some (.cells #[.slice none 0 0, .int .i64 0, .int .i64 0, .int .i64 0, .bool false] 28 (0, 0)) := (hb1.block _ (Array.getElem?_eq_some_iff.1 b1).1).trans b1
      clear hb1 b0 b1 c04
      have HDW1 := Lib.hid (DW.make hc hz HB1.out (.string ⟨k.toArray⟩) (.string ⟨#[]⟩) (.int .i64 0) rfl rfl rfl)
      have hr1 : (w1.alloc (.cells #[.string ⟨#[]⟩, .string ⟨#[]⟩, .int .i64 0] 64)).heap[w1.heap.size]? = some (.cells #[.string ⟨#[]⟩, .string ⟨#[]⟩, .int .i64 0] 64 (0, 0)) := heap_alloc_new _ _
      have hV : ∀ v ∈ (#[.string ⟨k.toArray⟩, .string ⟨#[]⟩, .int .i64 0] : Array Value).toList, v.oneCell' = true := by intro v hv; simp at hv; rcases hv with rfl | rfl | rfl <;> rfl
      go_upto_region 8 with (refine wpList_store_row rfl rfl 64 (.tmp 13) (.tmp 28) rfl w1.heap.size rfl 64 _ #[.string ⟨k.toArray⟩, .string ⟨#[]⟩, .int .i64 0] rfl hr1 rfl HI2 hV ?_)
      generalize (w1.alloc (.cells #[.string ⟨#[]⟩, .string ⟨#[]⟩, .int .i64 0] 64)).setRow w1.heap.size #[.string ⟨k.toArray⟩, .string ⟨#[]⟩, .int .i64 0] = W2 at HDW1 ⊢
      clear hr1 hV hc hz
      generalize w1.heap.size = gf at HDW1 ⊢
      obtain ⟨x0, x1, x2⟩ := HFX.out W2 HDW1.out.b
      have hc := (HDW1.out.cell0 0 _ rfl).1
      have hff := HDW1.out.f
      have hV : ∀ v ∈ (#[.string ⟨k.toArray⟩, .string ⟨fb.toArray⟩, .int .i64 (fs : Int)] : Array Value).toList, v.oneCell' = true := by intro v hv; simp at hv; rcases hv with rfl | rfl | rfl <;> rfl
      go_upto_region 9 with (refine wpList_store_row rfl rfl 64 (.tmp 13) (.tmp 35) rfl gf rfl 64 _ #[.string ⟨k.toArray⟩, .string ⟨fb.toArray⟩, .int .i64 (fs : Int)] rfl hff rfl HI2 hV ?_)
      have HDW := Lib.hid (HDW1.out.setRowF #[.string ⟨k.toArray⟩, .string ⟨fb.toArray⟩, .int .i64 (fs : Int)])
      clear HDW1 hc hff hV x0 x1 x2
      generalize W2.setRow gf #[.string ⟨k.toArray⟩, .string ⟨fb.toArray⟩, .int .i64 (fs : Int)] = W3 at HDW ⊢
      obtain ⟨q1, _⟩ := HDW.out.cellF 1 _ rfl
      have hc := HDW.out.c
      have hz := HDW.out.z
      have hvr : ∀ v ∈ (#[.slice (some ⟨bb, oo, none⟩) X.length c, .int .i64 rm, .int .i64 dd, .int .i64 lf, .bool false] : Array Value).toList, v.oneCell' = true := by intro v hv; simp at hv; rcases hv with rfl | rfl | rfl | rfl | rfl <;> rfl
      go_wp2_with (first
        | (refine wpList_load_row rfl 28 (.tmp 5) rfl w.heap.size rfl 28 #[.slice (some ⟨bb, oo, none⟩) X.length c, .int .i64 rm, .int .i64 dd, .int .i64 lf, .bool false] (0, 0) _ hc Try.underlying28 rfl HJ2 ?_)
        | (refine wpList_store_row rfl rfl 28 (.tmp 10) (.tmp 49) rfl (w.heap.size + 1) rfl 28 #[.slice none 0 0, .int .i64 0, .int .i64 0, .int .i64 0, .bool false] #[.slice (some ⟨bb, oo, none⟩) X.length c, .int .i64 rm, .int .i64 dd, .int .i64 lf, .bool false] rfl hz rfl HJ2 hvr ?_))
      obtain ⟨hf1, hf2, hf3⟩ := HDW.out.fin
      rw [E1.out, E2.out]
      exact bodyPost_ret (results_cell_slot Try.results20 _ _ (w.heap.size + 1) 28 #[.slice (some ⟨bb, oo, none⟩) X.length c, .int .i64 rm, .int .i64 dd, .int .i64 lf, .bool false] (0, 0) _ (.int .i64 1) rfl rfl hf1 Try.underlying28 rfl HJ2) rfl ⟨_, _, rfl, HR.out.old hf2, .inl ⟨rfl, rfl⟩, hf2⟩
    obtain ⟨m, hnm⟩ : ∃ m : Nat, n = (m : Int) := ⟨n.toNat, by omega⟩
    subst hnm
    have hml : m ≤ fb.length := by omega
    have hw0 : wrK ⟨rm, dd, lf, false, X⟩ 2 k s (m : Int) = 0 := by unfold wrK wrC; simp [HH.out, HFF.out, hn1, hn2]
    have HW0 := Lib.hid hw0
    clear hw0 hn1 hn2 bn1
    go_enter Try.func20, Try.ntmps20
    go_upto_region 1 with fail
    rw [← hW0]
    clear hW0
    go_wp2_with (refine wpList_load_row rfl 28 (.tmp 5) rfl w.heap.size rfl 28 #[.slice (some ⟨bb, oo, none⟩) X.length c, .int .i64 rm, .int .i64 dd, .int .i64 lf, .bool false] (0, 0) _ b0 Try.underlying28 rfl HJ2 ?_)
    refine HFD.out.mono ?_
    rintro e w1 ⟨rfl, hb1⟩
    have HB1 := Lib.hid (HB0.out.trans (hb1.mono HB0.out.size))
    have hc : w1.heap[w.heap.size]? = some (.cells #[.slice (some ⟨bb, oo, none⟩) X.length c, .int .i64 rm, .int .i64 dd, .int .i64 lf, .bool false] 28 (0, 0)) := (hb1.block _ (Array.getElem?_eq_some_iff.1 b0).1).trans b0
    have hz : w1.heap[(w.heap.size + 1)]? = some (.cells #[.slice none 0 0, .int .i64 0, .int .i64 0, .int .i64 0, .bool false] 28 (0, 0)) := (hb1.block _ (Array.getElem?_eq_some_iff.1 b1).1).trans b1
    clear hb1 b0 b1 c04
    have HDW1 := Lib.hid (DW.make hc hz HB1.out (.string ⟨k.toArray⟩) (.string ⟨#[]⟩) (.int .i64 0) rfl rfl rfl)
    have hr1 : (w1.alloc (.cells #[.string ⟨#[]⟩, .string ⟨#[]⟩, .int .i64 0] 64)).heap[w1.heap.size]? = some (.cells #[.string ⟨#[]⟩, .string ⟨#[]⟩, .int .i64 0] 64 (0, 0)) := heap_alloc_new _ _
    have hV : ∀ v ∈ (#[.string ⟨k.toArray⟩, .string ⟨#[]⟩, .int .i64 0] : Array Value).toList, v.oneCell' = true := by intro v hv; simp at hv; rcases hv with rfl | rfl | rfl <;> rfl
    go_upto_region 8 with (refine wpList_store_row rfl rfl 64 (.tmp 13) (.tmp 28) rfl w1.heap.size rfl 64 _ #[.string ⟨k.toArray⟩, .string ⟨#[]⟩, .int .i64 0] rfl hr1 rfl HI2 hV ?_)
    generalize (w1.alloc (.cells #[.string ⟨#[]⟩, .string ⟨#[]⟩, .int .i64 0] 64)).setRow w1.heap.size #[.string ⟨k.toArray⟩, .string ⟨#[]⟩, .int .i64 0] = W2 at HDW1 ⊢
    clear hr1 hV hc hz
    generalize w1.heap.size = gf at HDW1 ⊢
    obtain ⟨x0, x1, x2⟩ := HFX.out W2 HDW1.out.b
    have hc := (HDW1.out.cell0 0 _ rfl).1
    have hff := HDW1.out.f
    have hV : ∀ v ∈ (#[.string ⟨k.toArray⟩, .string ⟨fb.toArray⟩, .int .i64 (fs : Int)] : Array Value).toList, v.oneCell' = true := by intro v hv; simp at hv; rcases hv with rfl | rfl | rfl <;> rfl
    go_upto_region 9 with (refine wpList_store_row rfl rfl 64 (.tmp 13) (.tmp 35) rfl gf rfl 64 _ #[.string ⟨k.toArray⟩, .string ⟨fb.toArray⟩, .int .i64 (fs : Int)] rfl hff rfl HI2 hV ?_)
    have HDW := Lib.hid (HDW1.out.setRowF #[.string ⟨k.toArray⟩, .string ⟨fb.toArray⟩, .int .i64 (fs : Int)])
    clear HDW1 hc hff hV x0 x1 x2
    generalize W2.setRow gf #[.string ⟨k.toArray⟩, .string ⟨fb.toArray⟩, .int .i64 (fs : Int)] = W3 at HDW ⊢
    obtain ⟨q1, _⟩ := HDW.out.cellF 1 _ rfl
    go_upto_region 11 with fail
    clear q1
    go_quiet (fail)
    have HDW0 := Lib.hid (HDW.out.drewN nq)
    clear HDW
    have HDW := HDW0
    clear HDW0
    generalize W3.drewN nq = wz at HDW ⊢
    go_upto_region 13 with fail
    by_cases hl : lf = 0
    · subst hl
      have e1 : doS ⟨rm, dd, 0, false, X⟩ 2 k s (m : Int) = ⟨rm, dd, 0, true, X⟩ := by
        unfold doS dedS; rw [HW0.out]; simp [lfX, XK, cuX, HFF.out]
      have e2 : doR ⟨rm, dd, 0, false, X⟩ 2 k s (m : Int) = 6 := by
        unfold doR dedR; rw [HW0.out]; simp
      have E1 := Lib.hid e1
      have E2 := Lib.hid e2
      clear e1 e2 HW0
      obtain ⟨qa, qb⟩ := HDW.out.cell0 3 _ rfl
      obtain ⟨qc, qd⟩ := HDW.out.cell0 4 _ rfl
      go_upto_region 15 with fail
      have HDW' : Hid (DW w (wz.setCell ⟨w.heap.size, 4, none⟩ (.bool true)) #[.slice (some ⟨bb, oo, none⟩) X.length c, .int .i64 rm, .int .i64 dd, .int .i64 0, .bool true] #[.string ⟨k.toArray⟩, .string ⟨fb.toArray⟩, .int .i64 (fs : Int)] gf) := Lib.hid (HDW.out.set0 4 (.bool true))
      clear qa qb qc qd
      obtain ⟨wH, hren⟩ : ∃ W, W = wz.setCell ⟨w.heap.size, 4, none⟩ (.bool true) := ⟨_, rfl⟩
      rw [← hren] at HDW'  ⊢
      clear hren HDW
      have HDW := HDW'
      clear HDW'
      have hc := HDW.out.c
      have hz := HDW.out.z
      have hvr : ∀ v ∈ (#[.slice (some ⟨bb, oo, none⟩) X.length c, .int .i64 rm, .int .i64 dd, .int .i64 0, .bool true] : Array Value).toList, v.oneCell' = true := by intro v hv; simp at hv; rcases hv with rfl | rfl | rfl | rfl | rfl <;> rfl
      go_wp2_with (first
        | (refine wpList_load_row rfl 28 (.tmp 5) rfl w.heap.size rfl 28 #[.slice (some ⟨bb, oo, none⟩) X.length c, .int .i64 rm, .int .i64 dd, .int .i64 0, .bool true] (0, 0) _ hc Try.underlying28 rfl HJ2 ?_)
        | (refine wpList_store_row rfl rfl 28 (.tmp 10) (.tmp 67) rfl (w.heap.size + 1) rfl 28 #[.slice none 0 0, .int .i64 0, .int .i64 0, .int .i64 0, .bool false] #[.slice (some ⟨bb, oo, none⟩) X.length c, .int .i64 rm, .int .i64 dd, .int .i64 0, .bool true] rfl hz rfl HJ2 hvr ?_))
      obtain ⟨hf1, hf2, hf3⟩ := HDW.out.fin
      rw [E1.out, E2.out]
      exact bodyPost_ret (results_cell_slot Try.results20 _ _ (w.heap.size + 1) 28 #[.slice (some ⟨bb, oo, none⟩) X.length c, .int .i64 rm, .int .i64 dd, .int .i64 0, .bool true] (0, 0) _ (.int .i64 6) rfl rfl hf1 Try.underlying28 rfl HJ2) rfl ⟨_, _, rfl, HR.out.old hf2, .inl ⟨rfl, rfl⟩, hf2⟩
    · have l0 : (lf == 0) = false := by simpa using hl
      by_cases hm : lf = -1
      · skip
        subst hm
        have hwd : IntKind.i64.wrap (dd + 1) = dd + 1 := by have h1 := HOK.out.d0; have h2 := HOK.out.d1; simp only at h1 h2; rw [IntKind.wrap_i64]; omega
        have e1 : doS ⟨rm, dd, (-1), false, X⟩ 2 k s (m : Int) = ⟨rm, dd + 1, (-1), false, withX (k, fb.take m, min fs m) X⟩ := by
          unfold doS dedS; rw [HW0.out]; simp [lfX, XK, cuX, HFF.out]
        have e2 : doR ⟨rm, dd, (-1), false, X⟩ 2 k s (m : Int) = 0 := by
          unfold doR dedR; rw [HW0.out]; simp
        have E1 := Lib.hid e1
        have E2 := Lib.hid e2
        clear e1 e2 HW0
        obtain ⟨qa, qb⟩ := HDW.out.cell0 3 _ rfl
        obtain ⟨qc, qd⟩ := HDW.out.cell0 2 _ rfl
        go_upto_region 20 with fail
        have HDW' : Hid (DW w (wz.setCell ⟨w.heap.size, 2, none⟩ (.int .i64 (dd + 1))) #[.slice (some ⟨bb, oo, none⟩) X.length c, .int .i64 rm, .int .i64 (dd + 1), .int .i64 (-1), .bool false] #[.string ⟨k.toArray⟩, .string ⟨fb.toArray⟩, .int .i64 (fs : Int)] gf) := Lib.hid (HDW.out.set0 2 (.int .i64 (dd + 1)))
        clear qa qb qc qd
        obtain ⟨wS, hren⟩ : ∃ W, W = wz.setCell ⟨w.heap.size, 2, none⟩ (.int .i64 (dd + 1)) := ⟨_, rfl⟩
        rw [← hren] at HDW'  ⊢
        clear hren HDW
        have HDW := HDW'
        clear HDW'
        obtain ⟨qa, qb⟩ := HDW.out.cellF 1 _ rfl
        go_upto_region 28 with fail
        rw [extract_head]
        have HDW' : Hid (DW w (wS.setCell ⟨gf, 1, none⟩ (.string ⟨(fb.take m).toArray⟩)) #[.slice (some ⟨bb, oo, none⟩) X.length c, .int .i64 rm, .int .i64 (dd + 1), .int .i64 (-1), .bool false] #[.string ⟨k.toArray⟩, .string ⟨(fb.take m).toArray⟩, .int .i64 (fs : Int)] gf) := Lib.hid (HDW.out.setF 1 (.string ⟨(fb.take m).toArray⟩))
        clear qa qb
        obtain ⟨wF, hren⟩ : ∃ W, W = wS.setCell ⟨gf, 1, none⟩ (.string ⟨(fb.take m).toArray⟩) := ⟨_, rfl⟩
        rw [← hren] at HDW'  ⊢
        clear hren HDW
        have HDW := HDW'
        clear HDW'
        have hmn : min (fs : Int) (m : Int) = ((min fs m : Nat) : Int) := by omega
        obtain ⟨qa, qb⟩ := HDW.out.cellF 2 _ rfl
        go_upto_region 29 with fail
        have HDW' : Hid (DW w (wF.setCell ⟨gf, 2, none⟩ (.int .i64 ((min fs m : Nat) : Int))) #[.slice (some ⟨bb, oo, none⟩) X.length c, .int .i64 rm, .int .i64 (dd + 1), .int .i64 (-1), .bool false] #[.string ⟨k.toArray⟩, .string ⟨(fb.take m).toArray⟩, .int .i64 ((min fs m : Nat) : Int)] gf) := Lib.hid (HDW.out.setF 2 (.int .i64 ((min fs m : Nat) : Int)))
        clear qa qb
        obtain ⟨wF2, hren⟩ : ∃ W, W = wF.setCell ⟨gf, 2, none⟩ (.int .i64 ((min fs m : Nat) : Int)) := ⟨_, rfl⟩
        rw [← hren] at HDW'  ⊢
        clear hren HDW
        have HDW := HDW'
        clear HDW'
        have qc := (HDW.out.cell0 0 _ rfl).1
        have qr := HDW.out.f
        have HCL := Lib.hid (rkwith_any X _ c k (fb.take m) (min fs m) (HR.out.old HDW.out.b) HXL.out)
        go_wp2_with (refine wpList_load_row rfl 64 (.tmp 13) rfl gf rfl 64 #[.string ⟨k.toArray⟩, .string ⟨(fb.take m).toArray⟩, .int .i64 ((min fs m : Nat) : Int)] (0, 0) _ qr Try.underlying64 rfl HI2 ?_)
        refine HCL.out.mono ?_
        rintro e wcq ⟨qq, cq, rfl, hq, hn, hb⟩
        have HQ0 := Lib.hid (QK.of HDW.out hq hn)
        have HDW0 := Lib.hid (HDW.out.old hb)
        clear qc hq hn hb HCL HDW qr
        have HDW := HDW0
        clear HDW0
        obtain ⟨qa, qb⟩ := HDW.out.cell0 0 _ rfl
        go_upto_region 36 with fail
        have HDW' : Hid (DW w (wcq.setCell ⟨w.heap.size, 0, none⟩ (.slice qq (withX (k, fb.take m, min fs m) X).length cq)) #[.slice qq (withX (k, fb.take m, min fs m) X).length cq, .int .i64 rm, .int .i64 (dd + 1), .int .i64 (-1), .bool false] #[.string ⟨k.toArray⟩, .string ⟨(fb.take m).toArray⟩, .int .i64 ((min fs m : Nat) : Int)] gf) := Lib.hid (HDW.out.set0 0 (.slice qq (withX (k, fb.take m, min fs m) X).length cq))
        have HQ := Lib.hid (HQ0.out.set0 0 (.slice qq (withX (k, fb.take m, min fs m) X).length cq))
        clear qa qb HQ0
        obtain ⟨wN, hren⟩ : ∃ W, W = wcq.setCell ⟨w.heap.size, 0, none⟩ (.slice qq (withX (k, fb.take m, min fs m) X).length cq) := ⟨_, rfl⟩
        rw [← hren] at HDW' HQ ⊢
        clear hren HDW
        have HDW := HDW'
        clear HDW'
        have hc := HDW.out.c
        have hz := HDW.out.z
        have hvr : ∀ v ∈ (#[.slice qq (withX (k, fb.take m, min fs m) X).length cq, .int .i64 rm, .int .i64 (dd + 1), .int .i64 (-1), .bool false] : Array Value).toList, v.oneCell' = true := by intro v hv; simp at hv; rcases hv with rfl | rfl | rfl | rfl | rfl <;> rfl
        go_wp2_with (first
          | (refine wpList_load_row rfl 28 (.tmp 5) rfl w.heap.size rfl 28 #[.slice qq (withX (k, fb.take m, min fs m) X).length cq, .int .i64 rm, .int .i64 (dd + 1), .int .i64 (-1), .bool false] (0, 0) _ hc Try.underlying28 rfl HJ2 ?_)
          | (refine wpList_store_row rfl rfl 28 (.tmp 10) (.tmp 141) rfl (w.heap.size + 1) rfl 28 #[.slice none 0 0, .int .i64 0, .int .i64 0, .int .i64 0, .bool false] #[.slice qq (withX (k, fb.take m, min fs m) X).length cq, .int .i64 rm, .int .i64 (dd + 1), .int .i64 (-1), .bool false] rfl hz rfl HJ2 hvr ?_))
        obtain ⟨hf1, hf2, hf3⟩ := HDW.out.fin
        rw [E1.out, E2.out]
        exact bodyPost_ret (results_cell_slot Try.results20 _ _ (w.heap.size + 1) 28 #[.slice qq (withX (k, fb.take m, min fs m) X).length cq, .int .i64 rm, .int .i64 (dd + 1), .int .i64 (-1), .bool false] (0, 0) _ (.int .i64 0) rfl rfl hf1 Try.underlying28 rfl HJ2) rfl ⟨_, _, rfl, HQ.out.fin _, .inr (fun a e => by have := (HQ.out.2 a e).1; omega), hf2⟩
      · skip
        have hpos : (0 : Int) < lf := by have := HOK.out.l0; simp only at this; omega
        have l1 : decide ((0 : Int) < lf) = true := by simpa using hpos
        have hwl : IntKind.i64.wrap (lf - 1) = lf - 1 := by have := HOK.out.l1; simp only at this; rw [IntKind.wrap_i64]; omega
        have hwd : IntKind.i64.wrap (dd + 1) = dd + 1 := by have h1 := HOK.out.d0; have h2 := HOK.out.d1; simp only at h1 h2; rw [IntKind.wrap_i64]; omega
        have e1 : doS ⟨rm, dd, lf, false, X⟩ 2 k s (m : Int) = ⟨rm, dd + 1, (lf - 1), false, withX (k, fb.take m, min fs m) X⟩ := by
          unfold doS dedS; rw [HW0.out]; simp [lfX, XK, cuX, HFF.out, hm, hl]
        have e2 : doR ⟨rm, dd, lf, false, X⟩ 2 k s (m : Int) = 0 := by
          unfold doR dedR; rw [HW0.out]; simp [hl]
        have E1 := Lib.hid e1
        have E2 := Lib.hid e2
        clear e1 e2 HW0
        clear hm hl
        obtain ⟨qa, qb⟩ := HDW.out.cell0 3 _ rfl
        go_upto_region 18 with fail
        have HDW' : Hid (DW w (wz.setCell ⟨w.heap.size, 3, none⟩ (.int .i64 (lf - 1))) #[.slice (some ⟨bb, oo, none⟩) X.length c, .int .i64 rm, .int .i64 dd, .int .i64 (lf - 1), .bool false] #[.string ⟨k.toArray⟩, .string ⟨fb.toArray⟩, .int .i64 (fs : Int)] gf) := Lib.hid (HDW.out.set0 3 (.int .i64 (lf - 1)))
        clear qa qb
        obtain ⟨wG, hren⟩ : ∃ W, W = wz.setCell ⟨w.heap.size, 3, none⟩ (.int .i64 (lf - 1)) := ⟨_, rfl⟩
        rw [← hren] at HDW'  ⊢
        clear hren HDW
        have HDW := HDW'
        clear HDW'
        obtain ⟨qa, qb⟩ := HDW.out.cell0 3 _ rfl
        obtain ⟨qc, qd⟩ := HDW.out.cell0 2 _ rfl
        go_upto_region 20 with fail
        have HDW' : Hid (DW w (wG.setCell ⟨w.heap.size, 2, none⟩ (.int .i64 (dd + 1))) #[.slice (some ⟨bb, oo, none⟩) X.length c, .int .i64 rm, .int .i64 (dd + 1), .int .i64 (lf - 1), .bool false] #[.string ⟨k.toArray⟩, .string ⟨fb.toArray⟩, .int .i64 (fs : Int)] gf) := Lib.hid (HDW.out.set0 2 (.int .i64 (dd + 1)))
        clear qa qb qc qd
        obtain ⟨wS, hren⟩ : ∃ W, W = wG.setCell ⟨w.heap.size, 2, none⟩ (.int .i64 (dd + 1)) := ⟨_, rfl⟩
        rw [← hren] at HDW'  ⊢
        clear hren HDW
        have HDW := HDW'
        clear HDW'
        obtain ⟨qa, qb⟩ := HDW.out.cellF 1 _ rfl
        go_upto_region 28 with fail
        rw [extract_head]
        have HDW' : Hid (DW w (wS.setCell ⟨gf, 1, none⟩ (.string ⟨(fb.take m).toArray⟩)) #[.slice (some ⟨bb, oo, none⟩) X.length c, .int .i64 rm, .int .i64 (dd + 1), .int .i64 (lf - 1), .bool false] #[.string ⟨k.toArray⟩, .string ⟨(fb.take m).toArray⟩, .int .i64 (fs : Int)] gf) := Lib.hid (HDW.out.setF 1 (.string ⟨(fb.take m).toArray⟩))
        clear qa qb
        obtain ⟨wF, hren⟩ : ∃ W, W = wS.setCell ⟨gf, 1, none⟩ (.string ⟨(fb.take m).toArray⟩) := ⟨_, rfl⟩
        rw [← hren] at HDW'  ⊢
        clear hren HDW
        have HDW := HDW'
        clear HDW'
        have hmn : min (fs : Int) (m : Int) = ((min fs m : Nat) : Int) := by omega
        obtain ⟨qa, qb⟩ := HDW.out.cellF 2 _ rfl
        go_upto_region 29 with fail
        have HDW' : Hid (DW w (wF.setCell ⟨gf, 2, none⟩ (.int .i64 ((min fs m : Nat) : Int))) #[.slice (some ⟨bb, oo, none⟩) X.length c, .int .i64 rm, .int .i64 (dd + 1), .int .i64 (lf - 1), .bool false] #[.string ⟨k.toArray⟩, .string ⟨(fb.take m).toArray⟩, .int .i64 ((min fs m : Nat) : Int)] gf) := Lib.hid (HDW.out.setF 2 (.int .i64 ((min fs m : Nat) : Int)))
        clear qa qb
        obtain ⟨wF2, hren⟩ : ∃ W, W = wF.setCell ⟨gf, 2, none⟩ (.int .i64 ((min fs m : Nat) : Int)) := ⟨_, rfl⟩
        rw [← hren] at HDW'  ⊢
        clear hren HDW
        have HDW := HDW'
        clear HDW'
        have qc := (HDW.out.cell0 0 _ rfl).1
        have qr := HDW.out.f
        have HCL := Lib.hid (rkwith_any X _ c k (fb.take m) (min fs m) (HR.out.old HDW.out.b) HXL.out)
        go_wp2_with (refine wpList_load_row rfl 64 (.tmp 13) rfl gf rfl 64 #[.string ⟨k.toArray⟩, .string ⟨(fb.take m).toArray⟩, .int .i64 ((min fs m : Nat) : Int)] (0, 0) _ qr Try.underlying64 rfl HI2 ?_)
        refine HCL.out.mono ?_
        rintro e wcq ⟨qq, cq, rfl, hq, hn, hb⟩
        have HQ0 := Lib.hid (QK.of HDW.out hq hn)
        have HDW0 := Lib.hid (HDW.out.old hb)
        clear qc hq hn hb HCL HDW qr
        have HDW := HDW0
        clear HDW0
        obtain ⟨qa, qb⟩ := HDW.out.cell0 0 _ rfl
        go_upto_region 36 with fail
        have HDW' : Hid (DW w (wcq.setCell ⟨w.heap.size, 0, none⟩ (.slice qq (withX (k, fb.take m, min fs m) X).length cq)) #[.slice qq (withX (k, fb.take m, min fs m) X).length cq, .int .i64 rm, .int .i64 (dd + 1), .int .i64 (lf - 1), .bool false] #[.string ⟨k.toArray⟩, .string ⟨(fb.take m).toArray⟩, .int .i64 ((min fs m : Nat) : Int)] gf) := Lib.hid (HDW.out.set0 0 (.slice qq (withX (k, fb.take m, min fs m) X).length cq))
        have HQ := Lib.hid (HQ0.out.set0 0 (.slice qq (withX (k, fb.take m, min fs m) X).length cq))
        clear qa qb HQ0
        obtain ⟨wN, hren⟩ : ∃ W, W = wcq.setCell ⟨w.heap.size, 0, none⟩ (.slice qq (withX (k, fb.take m, min fs m) X).length cq) := ⟨_, rfl⟩
        rw [← hren] at HDW' HQ ⊢
        clear hren HDW
        have HDW := HDW'
        clear HDW'
        have hc := HDW.out.c
        have hz := HDW.out.z
        have hvr : ∀ v ∈ (#[.slice qq (withX (k, fb.take m, min fs m) X).length cq, .int .i64 rm, .int .i64 (dd + 1), .int .i64 (lf - 1), .bool false] : Array Value).toList, v.oneCell' = true := by intro v hv; simp at hv; rcases hv with rfl | rfl | rfl | rfl | rfl <;> rfl
        go_wp2_with (first
          | (refine wpList_load_row rfl 28 (.tmp 5) rfl w.heap.size rfl 28 #[.slice qq (withX (k, fb.take m, min fs m) X).length cq, .int .i64 rm, .int .i64 (dd + 1), .int .i64 (lf - 1), .bool false] (0, 0) _ hc Try.underlying28 rfl HJ2 ?_)
          | (refine wpList_store_row rfl rfl 28 (.tmp 10) (.tmp 141) rfl (w.heap.size + 1) rfl 28 #[.slice none 0 0, .int .i64 0, .int .i64 0, .int .i64 0, .bool false] #[.slice qq (withX (k, fb.take m, min fs m) X).length cq, .int .i64 rm, .int .i64 (dd + 1), .int .i64 (lf - 1), .bool false] rfl hz rfl HJ2 hvr ?_))
        obtain ⟨hf1, hf2, hf3⟩ := HDW.out.fin
        rw [E1.out, E2.out]
        exact bodyPost_ret (results_cell_slot Try.results20 _ _ (w.heap.size + 1) 28 #[.slice qq (withX (k, fb.take m, min fs m) X).length cq, .int .i64 rm, .int .i64 (dd + 1), .int .i64 (lf - 1), .bool false] (0, 0) _ (.int .i64 0) rfl rfl hf1 Try.underlying28 rfl HJ2) rfl ⟨_, _, rfl, HQ.out.fin _, .inr (fun a e => by have := (HQ.out.2 a e).1; omega), hf2⟩
end Go.Proofs.Ytpbcglepecojmaa

namespace Go.Proofs.Ytpbcglepecojmaa
open Go.RowKit

set_option maxRecDepth 20000 in
set_option maxHeartbeats 8000000 in
theorem rkdo3_any {w : World} (S : St) (ok : Ok S) (so : SrtX S.X) (ao : Option Addr) (c : Nat) (hR : Rd encF w ao S.X) (k s : List UInt8) (n : Int) (hk : k.length ≤ 1000000) (hs : s.length ≤ 1000000000) :
    Calls Try.prog 20 #[.agg (rdC S ao c), .int .i64 3, .string ⟨k.toArray⟩, .string ⟨s.toArray⟩, .int .i64 n] w fun e w' => DoP w ao S.X (doS S 3 k s n) (doR S 3 k s n) e w' := by
  have HI := Lib.hid finfo
  have HJ := Lib.hid rinfo
  have HR := Lib.hid hR
  have HOK := Lib.hid ok
  obtain ⟨rm, dd, lf, dn, X⟩ := S
  have hvr := rdC_one ⟨rm, dd, lf, dn, X⟩ ao c
  unfold rdC at hvr ⊢
  simp only at hvr HR so ⊢
  obtain ⟨W0, hW0⟩ : ∃ W0, W0 = (w.alloc (.cells #[.slice ao X.length c, .int .i64 rm, .int .i64 dd, .int .i64 lf, .bool dn] 28)).alloc (.cells #[.slice none 0 0, .int .i64 0, .int .i64 0, .int .i64 0, .bool false] 28) := ⟨_, rfl⟩
  have hb0 : Below w.heap.size w W0 := by rw [hW0]; exact ((Below.refl _ w).alloc (Nat.le_refl _) _).alloc (by simp) _
  have b0 : W0.heap[w.heap.size]? = some (.cells #[.slice ao X.length c, .int .i64 rm, .int .i64 dd, .int .i64 lf, .bool dn] 28 (0, 0)) := by rw [hW0, Below.heap_alloc _ _ _ (by simp)]; exact heap_alloc_new _ _
  have b1 : W0.heap[w.heap.size + 1]? = some (.cells #[.slice none 0 0, .int .i64 0, .int .i64 0, .int .i64 0, .bool false] 28 (0, 0)) := by rw [hW0]; have := heap_alloc_new (w.alloc (.cells #[.slice ao X.length c, .int .i64 rm, .int .i64 dd, .int .i64 lf, .bool dn] 28)) (.cells #[.slice none 0 0, .int .i64 0, .int .i64 0, .int .i64 0, .bool false] 28); simpa using this
  have c04 : W0.cell? ⟨w.heap.size, 4, none⟩ = some (.bool dn) := by unfold World.cell?; rw [b0]; rfl
  cases dn
  rotate_left
  · have e1 : doS ⟨rm, dd, lf, true, X⟩ 3 k s n = ⟨rm, dd, lf, true, X⟩ := rfl
    have e2 : doR ⟨rm, dd, lf, true, X⟩ 3 k s n = 6 := rfl
    rw [e1, e2]
    have HJ2 := HJ.out
    have HF : Hid (∀ W, W = W0.setRow (w.heap.size + 1) #[.slice ao X.length c, .int .i64 rm, .int .i64 dd, .int .i64 lf, .bool true] → W.heap[w.heap.size + 1]? = some (.cells #[.slice ao X.length c, .int .i64 rm, .int .i64 dd, .int .i64 lf, .bool true] 28 (0, 0)) ∧ Below w.heap.size w W) := Lib.hid (by
      rintro W rfl
      exact ⟨setRow_heap _ _ _ _ 28 (0, 0) b1, hb0.trans (((Mod.refl (fun _ => False) W0).setRow (g := w.heap.size + 1) _).to_below hb0.size (by rintro k hk (h | h); exact h; omega))⟩)
    clear e1 e2 ok so hR HOK hb0
    go_enter Try.func20, Try.ntmps20
    go_upto_region 1 with fail
    rw [← hW0]
    clear hW0
    go_wp2_with (first
      | (refine wpList_load_row rfl 28 (.tmp 5) rfl w.heap.size rfl 28 _ (0, 0) _ b0 Try.underlying28 rfl HJ2 ?_; clear b0)
      | (refine wpList_store_row rfl rfl 28 (.tmp 10) (.tmp 16) rfl (w.heap.size + 1) rfl 28 _ #[.slice ao X.length c, .int .i64 rm, .int .i64 dd, .int .i64 lf, .bool true] rfl b1 rfl HJ2 hvr ?_; clear b1))
    obtain ⟨hf1, hf2⟩ := HF.out _ rfl
    exact bodyPost_ret (results_cell_slot Try.results20 _ _ (w.heap.size + 1) 28 _ (0, 0) _ (.int .i64 6) rfl rfl hf1 Try.underlying28 rfl HJ2) rfl ⟨ao, c, rfl, HR.out.old hf2, .inl ⟨rfl, rfl⟩, hf2⟩
  have HB0 := Lib.hid hb0
  have HJ2 := HJ.out
  have HI2 := HI.out
  have HXL : Hid (X.length ≤ 1000000) := Lib.hid (Nat.le_trans ok.n (by decide))
  have HUB : Hid (usedX X ≤ 1000000000000000) := Lib.hid (by
    have h1 := usedX_le ok.f
    have h2 := ok.n
    have h3 : X.length * 2000000000 ≤ 100000 * 2000000000 := Nat.mul_le_mul_right _ h2
    simp only at h1
    omega)
  have hfd := rkfind_any ⟨rm, dd, lf, false, X⟩ ao c k (hR.old hb0) HXL.out
  unfold rdC at hfd
  simp only at hfd
  cases hh : hasX k X
  · rw [fdX_none hh] at hfd
    have HFD := Lib.hid hfd
    have hw0 : wrK ⟨rm, dd, lf, false, X⟩ 3 k s n = 7 := by unfold wrK wrN; simp [hh]
    have e1 : doS ⟨rm, dd, lf, false, X⟩ 3 k s n = ⟨rm, dd, lf, false, X⟩ := by unfold doS dedS; rw [hw0]; rfl
    have e2 : doR ⟨rm, dd, lf, false, X⟩ 3 k s n = 7 := by unfold doR dedR; rw [hw0]; rfl
    have E1 := Lib.hid e1
    have E2 := Lib.hid e2
    clear hfd hh hvr e1 e2 hw0 hR ok so hb0 hs
    go_enter Try.func20, Try.ntmps20
    go_upto_region 1 with fail
    rw [← hW0]
    clear hW0
    go_wp2_with (refine wpList_load_row rfl 28 (.tmp 5) rfl w.heap.size rfl 28 #[.slice ao X.length c, .int .i64 rm, .int .i64 dd, .int .i64 lf, .bool false] (0, 0) _ b0 Try.underlying28 rfl HJ2 ?_)
    refine HFD.out.mono ?_
    rintro e w1 ⟨rfl, hb1⟩
    have HB1 := Lib.hid (HB0.out.trans (hb1.mono HB0.out.size))
    have hc : w1.heap[w.heap.size]? = some (.cells #[.slice ao X.length c, .int .i64 rm, .int .i64 dd, .int .i64 lf, .bool false] 28 (0, 0)) := (hb1.block _ (Array.getElem?_eq_some_iff.1 b0).1).trans b0
    have hz : w1.heap[(w.heap.size + 1)]? = some (.cells #[.slice none 0 0, .int .i64 0, .int .i64 0, .int .i64 0, .bool false] 28 (0, 0)) := (hb1.block _ (Array.getElem?_eq_some_iff.1 b1).1).trans b1
    clear hb1 b0 b1 c04
    have HFN : Hid ((w1.setRow (w.heap.size + 1) #[.slice ao X.length c, .int .i64 rm, .int .i64 dd, .int .i64 lf, .bool false]).heap[(w.heap.size + 1)]? = some (.cells #[.slice ao X.length c, .int .i64 rm, .int .i64 dd, .int .i64 lf, .bool false] 28 (0, 0)) ∧ Below w.heap.size w (w1.setRow (w.heap.size + 1) #[.slice ao X.length c, .int .i64 rm, .int .i64 dd, .int .i64 lf, .bool false]) ∧ Below w.heap.size w w1) := Lib.hid ⟨setRow_heap _ _ _ _ 28 (0, 0) hz, HB1.out.trans (((Mod.refl (fun _ => False) w1).setRow (g := (w.heap.size + 1)) _).to_below HB1.out.size (by rintro k hk (h | h); exact h; omega)), HB1.out⟩
    have hvr : ∀ v ∈ (#[.slice ao X.length c, .int .i64 rm, .int .i64 dd, .int .i64 lf, .bool false] : Array Value).toList, v.oneCell' = true := by intro v hv; simp at hv; rcases hv with rfl | rfl | rfl | rfl | rfl <;> rfl
    go_wp2_with (first
      | (refine wpList_load_row rfl 28 (.tmp 5) rfl w.heap.size rfl 28 #[.slice ao X.length c, .int .i64 rm, .int .i64 dd, .int .i64 lf, .bool false] (0, 0) _ hc Try.underlying28 rfl HJ2 ?_)
      | (refine wpList_store_row rfl rfl 28 (.tmp 10) (.tmp 26) rfl (w.heap.size + 1) rfl 28 #[.slice none 0 0, .int .i64 0, .int .i64 0, .int .i64 0, .bool false] #[.slice ao X.length c, .int .i64 rm, .int .i64 dd, .int .i64 lf, .bool false] rfl hz rfl HJ2 hvr ?_))
    obtain ⟨hf1, hf2, hf3⟩ := HFN.out
    rw [E1.out, E2.out]
    exact bodyPost_ret (results_cell_slot Try.results20 _ _ (w.heap.size + 1) 28 #[.slice ao X.length c, .int .i64 rm, .int .i64 dd, .int .i64 lf, .bool false] (0, 0) _ (.int .i64 7) rfl rfl hf1 Try.underlying28 rfl HJ2) rfl ⟨_, _, rfl, HR.out.old hf2, .inl ⟨rfl, rfl⟩, hf2⟩
  · obtain ⟨j, hj1, hj2⟩ := fdX_some (i := 0) hh
    rw [hj1, Nat.zero_add] at hfd
    have HFD := Lib.hid hfd
    have hjl : j < X.length := (List.getElem?_eq_some_iff.1 hj2).1
    have hfk := fiX_key k X
    obtain ⟨fb, hfb⟩ : ∃ fb, fb = (fiX k X).2.1 := ⟨_, rfl⟩
    obtain ⟨fs, hfs⟩ : ∃ fs, fs = (fiX k X).2.2 := ⟨_, rfl⟩
    have hX : X[j] = (k, fb, fs) := by
      have := (List.getElem?_eq_some_iff.1 hj2).2
      rw [this, hfb, hfs]
      exact Prod.ext hfk rfl
    have HH := Lib.hid hh
    clear hh
    have HFF : Hid (fiX k X = (k, fb, fs)) := Lib.hid (by rw [hfb, hfs]; exact Prod.ext hfk rfl)
    have HLB : Hid (fb.length ≤ 2000000000 ∧ s.length ≤ 1000000000) := Lib.hid ⟨by rw [hfb]; exact fiX_len ok.f k, hs⟩
    obtain ⟨bb, oo, hae, _⟩ := HR.out.fx j hjl
    have HFX : Hid (∀ W, Below w.heap.size w W → W.cell? ⟨bb, oo + j * 3, none⟩ = some (.string ⟨k.toArray⟩) ∧ W.cell? ⟨bb, oo + j * 3 + 1, none⟩ = some (.string ⟨fb.toArray⟩) ∧ W.cell? ⟨bb, oo + j * 3 + 2, none⟩ = some (.int .i64 (fs : Int))) := Lib.hid (fun W hb => by
      obtain ⟨b', o', e, _, c0, c1, c2⟩ := (HR.out.old hb).fx j hjl
      rw [hae] at e
      cases e
      rw [hX] at c0 c1 c2
      exact ⟨c0, c1, c2⟩)
    subst hae
    clear hfd hvr hj1 hj2 hfb hfs hX hfk hR ok so hb0 hs
    have hw0 : wrK ⟨rm, dd, lf, false, X⟩ 3 k s n = 0 := by unfold wrK wrN; simp [HH.out]
    have HW0 := Lib.hid hw0
    clear hw0
    go_enter Try.func20, Try.ntmps20
    go_upto_region 1 with fail
    rw [← hW0]
    clear hW0
    go_wp2_with (refine wpList_load_row rfl 28 (.tmp 5) rfl w.heap.size rfl 28 #[.slice (some ⟨bb, oo, none⟩) X.length c, .int .i64 rm, .int .i64 dd, .int .i64 lf, .bool false] (0, 0) _ b0 Try.underlying28 rfl HJ2 ?_)
    refine HFD.out.mono ?_
    rintro e w1 ⟨rfl, hb1⟩
    have HB1 := Lib.hid (HB0.out.trans (hb1.mono HB0.out.size))
    have hc : w1.heap[w.heap.size]? = some (.cells #[.slice (some ⟨bb, oo, none⟩) X.length c, .int .i64 rm, .int .i64 dd, .int .i64 lf, .bool false] 28 (0, 0)) := (hb1.block _ (Array.getElem?_eq_some_iff.1 b0).1).trans b0
    have hz : w1.heap[(w.heap.size + 1)]? = some (.cells #[.slice none 0 0, .int .i64 0, .int .i64 0, .int .i64 0, .bool false] 28 (0, 0)) := (hb1.block _ (Array.getElem?_eq_some_iff.1 b1).1).trans b1
    clear hb1 b0 b1 c04
    have HDW1 := Lib.hid (DW.make hc hz HB1.out (.string ⟨k.toArray⟩) (.string ⟨#[]⟩) (.int .i64 0) rfl rfl rfl)
    have hr1 : (w1.alloc (.cells #[.string ⟨#[]⟩, .string ⟨#[]⟩, .int .i64 0] 64)).heap[w1.heap.size]? = some (.cells #[.string ⟨#[]⟩, .string ⟨#[]⟩, .int .i64 0] 64 (0, 0)) := heap_alloc_new _ _
    have hV : ∀ v ∈ (#[.string ⟨k.toArray⟩, .string ⟨#[]⟩, .int .i64 0] : Array Value).toList, v.oneCell' = true := by intro v hv; simp at hv; rcases hv with rfl | rfl | rfl <;> rfl
    go_upto_region 8 with (refine wpList_store_row rfl rfl 64 (.tmp 13) (.tmp 28) rfl w1.heap.size rfl 64 _ #[.string ⟨k.toArray⟩, .string ⟨#[]⟩, .int .i64 0] rfl hr1 rfl HI2 hV ?_)
    generalize (w1.alloc (.cells #[.string ⟨#[]⟩, .string ⟨#[]⟩, .int .i64 0] 64)).setRow w1.heap.size #[.string ⟨k.toArray⟩, .string ⟨#[]⟩, .int .i64 0] = W2 at HDW1 ⊢
    clear hr1 hV hc hz
    generalize w1.heap.size = gf at HDW1 ⊢
    obtain ⟨x0, x1, x2⟩ := HFX.out W2 HDW1.out.b
    have hc := (HDW1.out.cell0 0 _ rfl).1
    have hff := HDW1.out.f
    have hV : ∀ v ∈ (#[.string ⟨k.toArray⟩, .string ⟨fb.toArray⟩, .int .i64 (fs : Int)] : Array Value).toList, v.oneCell' = true := by intro v hv; simp at hv; rcases hv with rfl | rfl | rfl <;> rfl
    go_upto_region 9 with (refine wpList_store_row rfl rfl 64 (.tmp 13) (.tmp 35) rfl gf rfl 64 _ #[.string ⟨k.toArray⟩, .string ⟨fb.toArray⟩, .int .i64 (fs : Int)] rfl hff rfl HI2 hV ?_)
    have HDW := Lib.hid (HDW1.out.setRowF #[.string ⟨k.toArray⟩, .string ⟨fb.toArray⟩, .int .i64 (fs : Int)])
    clear HDW1 hc hff hV x0 x1 x2
    generalize W2.setRow gf #[.string ⟨k.toArray⟩, .string ⟨fb.toArray⟩, .int .i64 (fs : Int)] = W3 at HDW ⊢
    go_upto_region 11 with fail
    go_quiet (fail)
    have HDW0 := Lib.hid (HDW.out.drewN nq)
    clear HDW
    have HDW := HDW0
    clear HDW0
    generalize W3.drewN nq = wz at HDW ⊢
    go_upto_region 13 with fail
    by_cases hl : lf = 0
    · subst hl
      have e1 : doS ⟨rm, dd, 0, false, X⟩ 3 k s n = ⟨rm, dd, 0, true, X⟩ := by
        unfold doS dedS; rw [HW0.out]; simp [lfX, XK, rnX, HFF.out]
      have e2 : doR ⟨rm, dd, 0, false, X⟩ 3 k s n = 6 := by
        unfold doR dedR; rw [HW0.out]; simp
      have E1 := Lib.hid e1
      have E2 := Lib.hid e2
      clear e1 e2 HW0
      obtain ⟨qa, qb⟩ := HDW.out.cell0 3 _ rfl
      obtain ⟨qc, qd⟩ := HDW.out.cell0 4 _ rfl
      go_upto_region 15 with fail
      have HDW' : Hid (DW w (wz.setCell ⟨w.heap.size, 4, none⟩ (.bool true)) #[.slice (some ⟨bb, oo, none⟩) X.length c, .int .i64 rm, .int .i64 dd, .int .i64 0, .bool true] #[.string ⟨k.toArray⟩, .string ⟨fb.toArray⟩, .int .i64 (fs : Int)] gf) := Lib.hid (HDW.out.set0 4 (.bool true))
      clear qa qb qc qd
      obtain ⟨wH, hren⟩ : ∃ W, W = wz.setCell ⟨w.heap.size, 4, none⟩ (.bool true) := ⟨_, rfl⟩
      rw [← hren] at HDW'  ⊢
      clear hren HDW
      have HDW := HDW'
      clear HDW'
      have hc := HDW.out.c
      have hz := HDW.out.z
      have hvr : ∀ v ∈ (#[.slice (some ⟨bb, oo, none⟩) X.length c, .int .i64 rm, .int .i64 dd, .int .i64 0, .bool true] : Array Value).toList, v.oneCell' = true := by intro v hv; simp at hv; rcases hv with rfl | rfl | rfl | rfl | rfl <;> rfl
      go_wp2_with (first
        | (refine wpList_load_row rfl 28 (.tmp 5) rfl w.heap.size rfl 28 #[.slice (some ⟨bb, oo, none⟩) X.length c, .int .i64 rm, .int .i64 dd, .int .i64 0, .bool true] (0, 0) _ hc Try.underlying28 rfl HJ2 ?_)
        | (refine wpList_store_row rfl rfl 28 (.tmp 10) (.tmp 67) rfl (w.heap.size + 1) rfl 28 #[.slice none 0 0, .int .i64 0, .int .i64 0, .int .i64 0, .bool false] #[.slice (some ⟨bb, oo, none⟩) X.length c, .int .i64 rm, .int .i64 dd, .int .i64 0, .bool true] rfl hz rfl HJ2 hvr ?_))
      obtain ⟨hf1, hf2, hf3⟩ := HDW.out.fin
      rw [E1.out, E2.out]
      exact bodyPost_ret (results_cell_slot Try.results20 _ _ (w.heap.size + 1) 28 #[.slice (some ⟨bb, oo, none⟩) X.length c, .int .i64 rm, .int .i64 dd, .int .i64 0, .bool true] (0, 0) _ (.int .i64 6) rfl rfl hf1 Try.underlying28 rfl HJ2) rfl ⟨_, _, rfl, HR.out.old hf2, .inl ⟨rfl, rfl⟩, hf2⟩
    · have l0 : (lf == 0) = false := by simpa using hl
      by_cases hm : lf = -1
      · skip
        subst hm
        have hwd : IntKind.i64.wrap (dd + 1) = dd + 1 := by have h1 := HOK.out.d0; have h2 := HOK.out.d1; simp only at h1 h2; rw [IntKind.wrap_i64]; omega
        have e1 : doS ⟨rm, dd, (-1), false, X⟩ 3 k s n = ⟨rm, dd + 1, (-1), false, withX (s, fb, fs) (wo k X)⟩ := by
          unfold doS dedS; rw [HW0.out]; simp [lfX, XK, rnX, HFF.out]
        have e2 : doR ⟨rm, dd, (-1), false, X⟩ 3 k s n = 0 := by
          unfold doR dedR; rw [HW0.out]; simp
        have E1 := Lib.hid e1
        have E2 := Lib.hid e2
        clear e1 e2 HW0
        obtain ⟨qa, qb⟩ := HDW.out.cell0 3 _ rfl
        obtain ⟨qc, qd⟩ := HDW.out.cell0 2 _ rfl
        go_upto_region 20 with fail
        have HDW' : Hid (DW w (wz.setCell ⟨w.heap.size, 2, none⟩ (.int .i64 (dd + 1))) #[.slice (some ⟨bb, oo, none⟩) X.length c, .int .i64 rm, .int .i64 (dd + 1), .int .i64 (-1), .bool false] #[.string ⟨k.toArray⟩, .string ⟨fb.toArray⟩, .int .i64 (fs : Int)] gf) := Lib.hid (HDW.out.set0 2 (.int .i64 (dd + 1)))
        clear qa qb qc qd
        obtain ⟨wS, hren⟩ : ∃ W, W = wz.setCell ⟨w.heap.size, 2, none⟩ (.int .i64 (dd + 1)) := ⟨_, rfl⟩
        rw [← hren] at HDW'  ⊢
        clear hren HDW
        have HDW := HDW'
        clear HDW'
        have qc := (HDW.out.cell0 0 _ rfl).1
        have HCL := Lib.hid (rkwithout_any X _ c k (HR.out.old HDW.out.b) HXL.out)
        go_wp2_with fail
        refine HCL.out.mono ?_
        rintro e wco ⟨oq, co, rfl, hq, hn, hb⟩
        have HQ0 := Lib.hid (QK.of HDW.out hq hn)
        have HDW0 := Lib.hid (HDW.out.old hb)
        clear qc hq hn hb HCL HDW
        have HDW := HDW0
        clear HDW0
        obtain ⟨qa, qb⟩ := HDW.out.cell0 0 _ rfl
        go_upto_region 32 with fail
        have HDW' : Hid (DW w (wco.setCell ⟨w.heap.size, 0, none⟩ (.slice oq (wo k X).length co)) #[.slice oq (wo k X).length co, .int .i64 rm, .int .i64 (dd + 1), .int .i64 (-1), .bool false] #[.string ⟨k.toArray⟩, .string ⟨fb.toArray⟩, .int .i64 (fs : Int)] gf) := Lib.hid (HDW.out.set0 0 (.slice oq (wo k X).length co))
        have HQ := Lib.hid (HQ0.out.set0 0 (.slice oq (wo k X).length co))
        clear qa qb HQ0
        obtain ⟨wO, hren⟩ : ∃ W, W = wco.setCell ⟨w.heap.size, 0, none⟩ (.slice oq (wo k X).length co) := ⟨_, rfl⟩
        rw [← hren] at HDW' HQ ⊢
        clear hren HDW
        have HDW := HDW'
        clear HDW'
        obtain ⟨qa, qb⟩ := HDW.out.cellF 0 _ rfl
        go_upto_region 33 with fail
        have HDW' : Hid (DW w (wO.setCell ⟨gf, 0, none⟩ (.string ⟨s.toArray⟩)) #[.slice oq (wo k X).length co, .int .i64 rm, .int .i64 (dd + 1), .int .i64 (-1), .bool false] #[.string ⟨s.toArray⟩, .string ⟨fb.toArray⟩, .int .i64 (fs : Int)] gf) := Lib.hid (HDW.out.setF 0 (.string ⟨s.toArray⟩))
        have HQ' := Lib.hid (HQ.out.setF 0 (.string ⟨s.toArray⟩))
        clear HQ
        have HQ := HQ'
        clear HQ'
        clear qa qb
        obtain ⟨wF, hren⟩ : ∃ W, W = wO.setCell ⟨gf, 0, none⟩ (.string ⟨s.toArray⟩) := ⟨_, rfl⟩
        rw [← hren] at HDW' HQ ⊢
        clear hren HDW
        have HDW := HDW'
        clear HDW'
        have qc := (HDW.out.cell0 0 _ rfl).1
        have qr := HDW.out.f
        have HCL := Lib.hid (rkwith_any (wo k X) oq co s fb fs HQ.out.1.rd (Nat.le_trans (wo_len _ _) HXL.out))
        go_wp2_with (refine wpList_load_row rfl 64 (.tmp 13) rfl gf rfl 64 #[.string ⟨s.toArray⟩, .string ⟨fb.toArray⟩, .int .i64 (fs : Int)] (0, 0) _ qr Try.underlying64 rfl HI2 ?_)
        refine HCL.out.mono ?_
        rintro e wcq ⟨qq, cq, rfl, hq, hn, hb⟩
        have HQ0 := Lib.hid (QK.of HDW.out hq hn)
        have HDW0 := Lib.hid (HDW.out.old hb)
        clear qc hq hn hb HCL HDW qr
        have HDW := HDW0
        clear HDW0
        obtain ⟨qa, qb⟩ := HDW.out.cell0 0 _ rfl
        go_upto_region 36 with fail
        have HDW' : Hid (DW w (wcq.setCell ⟨w.heap.size, 0, none⟩ (.slice qq (withX (s, fb, fs) (wo k X)).length cq)) #[.slice qq (withX (s, fb, fs) (wo k X)).length cq, .int .i64 rm, .int .i64 (dd + 1), .int .i64 (-1), .bool false] #[.string ⟨s.toArray⟩, .string ⟨fb.toArray⟩, .int .i64 (fs : Int)] gf) := Lib.hid (HDW.out.set0 0 (.slice qq (withX (s, fb, fs) (wo k X)).length cq))
        have HQ := Lib.hid (HQ0.out.set0 0 (.slice qq (withX (s, fb, fs) (wo k X)).length cq))
        clear qa qb HQ0
        obtain ⟨wN, hren⟩ : ∃ W, W = wcq.setCell ⟨w.heap.size, 0, none⟩ (.slice qq (withX (s, fb, fs) (wo k X)).length cq) := ⟨_, rfl⟩
        rw [← hren] at HDW' HQ ⊢
        clear hren HDW
        have HDW := HDW'
        clear HDW'
        have hc := HDW.out.c
        have hz := HDW.out.z
        have hvr : ∀ v ∈ (#[.slice qq (withX (s, fb, fs) (wo k X)).length cq, .int .i64 rm, .int .i64 (dd + 1), .int .i64 (-1), .bool false] : Array Value).toList, v.oneCell' = true := by intro v hv; simp at hv; rcases hv with rfl | rfl | rfl | rfl | rfl <;> rfl
        go_wp2_with (first
          | (refine wpList_load_row rfl 28 (.tmp 5) rfl w.heap.size rfl 28 #[.slice qq (withX (s, fb, fs) (wo k X)).length cq, .int .i64 rm, .int .i64 (dd + 1), .int .i64 (-1), .bool false] (0, 0) _ hc Try.underlying28 rfl HJ2 ?_)
          | (refine wpList_store_row rfl rfl 28 (.tmp 10) (.tmp 141) rfl (w.heap.size + 1) rfl 28 #[.slice none 0 0, .int .i64 0, .int .i64 0, .int .i64 0, .bool false] #[.slice qq (withX (s, fb, fs) (wo k X)).length cq, .int .i64 rm, .int .i64 (dd + 1), .int .i64 (-1), .bool false] rfl hz rfl HJ2 hvr ?_))
        obtain ⟨hf1, hf2, hf3⟩ := HDW.out.fin
        rw [E1.out, E2.out]
        exact bodyPost_ret (results_cell_slot Try.results20 _ _ (w.heap.size + 1) 28 #[.slice qq (withX (s, fb, fs) (wo k X)).length cq, .int .i64 rm, .int .i64 (dd + 1), .int .i64 (-1), .bool false] (0, 0) _ (.int .i64 0) rfl rfl hf1 Try.underlying28 rfl HJ2) rfl ⟨_, _, rfl, HQ.out.fin _, .inr (fun a e => by have := (HQ.out.2 a e).1; omega), hf2⟩
      · skip
        have hpos : (0 : Int) < lf := by have := HOK.out.l0; simp only at this; omega
        have l1 : decide ((0 : Int) < lf) = true := by simpa using hpos
        have hwl : IntKind.i64.wrap (lf - 1) = lf - 1 := by have := HOK.out.l1; simp only at this; rw [IntKind.wrap_i64]; omega
        have hwd : IntKind.i64.wrap (dd + 1) = dd + 1 := by have h1 := HOK.out.d0; have h2 := HOK.out.d1; simp only at h1 h2; rw [IntKind.wrap_i64]; omega
        have e1 : doS ⟨rm, dd, lf, false, X⟩ 3 k s n = ⟨rm, dd + 1, (lf - 1), false, withX (s, fb, fs) (wo k X)⟩ := by
          unfold doS dedS; rw [HW0.out]; simp [lfX, XK, rnX, HFF.out, hm, hl]
        have e2 : doR ⟨rm, dd, lf, false, X⟩ 3 k s n = 0 := by
          unfold doR dedR; rw [HW0.out]; simp [hl]
        have E1 := Lib.hid e1
        have E2 := Lib.hid e2
        clear e1 e2 HW0
        clear hm hl
        obtain ⟨qa, qb⟩ := HDW.out.cell0 3 _ rfl
        go_upto_region 18 with fail
        have HDW' : Hid (DW w (wz.setCell ⟨w.heap.size, 3, none⟩ (.int .i64 (lf - 1))) #[.slice (some ⟨bb, oo, none⟩) X.length c, .int .i64 rm, .int .i64 dd, .int .i64 (lf - 1), .bool false] #[.string ⟨k.toArray⟩, .string ⟨fb.toArray⟩, .int .i64 (fs : Int)] gf) := Lib.hid (HDW.out.set0 3 (.int .i64 (lf - 1)))
        clear qa qb
        obtain ⟨wG, hren⟩ : ∃ W, W = wz.setCell ⟨w.heap.size, 3, none⟩ (.int .i64 (lf - 1)) := ⟨_, rfl⟩
        rw [← hren] at HDW'  ⊢
        clear hren HDW
        have HDW := HDW'
        clear HDW'
        obtain ⟨qa, qb⟩ := HDW.out.cell0 3 _ rfl
        obtain ⟨qc, qd⟩ := HDW.out.cell0 2 _ rfl
        go_upto_region 20 with fail
        have HDW' : Hid (DW w (wG.setCell ⟨w.heap.size, 2, none⟩ (.int .i64 (dd + 1))) #[.slice (some ⟨bb, oo, none⟩) X.length c, .int .i64 rm, .int .i64 (dd + 1), .int .i64 (lf - 1), .bool false] #[.string ⟨k.toArray⟩, .string ⟨fb.toArray⟩, .int .i64 (fs : Int)] gf) := Lib.hid (HDW.out.set0 2 (.int .i64 (dd + 1)))
        clear qa qb qc qd
        obtain ⟨wS, hren⟩ : ∃ W, W = wG.setCell ⟨w.heap.size, 2, none⟩ (.int .i64 (dd + 1)) := ⟨_, rfl⟩
        rw [← hren] at HDW'  ⊢
        clear hren HDW
        have HDW := HDW'
        clear HDW'
        have qc := (HDW.out.cell0 0 _ rfl).1
        have HCL := Lib.hid (rkwithout_any X _ c k (HR.out.old HDW.out.b) HXL.out)
        go_wp2_with fail
        refine HCL.out.mono ?_
        rintro e wco ⟨oq, co, rfl, hq, hn, hb⟩
        have HQ0 := Lib.hid (QK.of HDW.out hq hn)
        have HDW0 := Lib.hid (HDW.out.old hb)
        clear qc hq hn hb HCL HDW
        have HDW := HDW0
        clear HDW0
        obtain ⟨qa, qb⟩ := HDW.out.cell0 0 _ rfl
        go_upto_region 32 with fail
        have HDW' : Hid (DW w (wco.setCell ⟨w.heap.size, 0, none⟩ (.slice oq (wo k X).length co)) #[.slice oq (wo k X).length co, .int .i64 rm, .int .i64 (dd + 1), .int .i64 (lf - 1), .bool false] #[.string ⟨k.toArray⟩, .string ⟨fb.toArray⟩, .int .i64 (fs : Int)] gf) := Lib.hid (HDW.out.set0 0 (.slice oq (wo k X).length co))
        have HQ := Lib.hid (HQ0.out.set0 0 (.slice oq (wo k X).length co))
        clear qa qb HQ0
        obtain ⟨wO, hren⟩ : ∃ W, W = wco.setCell ⟨w.heap.size, 0, none⟩ (.slice oq (wo k X).length co) := ⟨_, rfl⟩
        rw [← hren] at HDW' HQ ⊢
        clear hren HDW
        have HDW := HDW'
        clear HDW'
        obtain ⟨qa, qb⟩ := HDW.out.cellF 0 _ rfl
        go_upto_region 33 with fail
        have HDW' : Hid (DW w (wO.setCell ⟨gf, 0, none⟩ (.string ⟨s.toArray⟩)) #[.slice oq (wo k X).length co, .int .i64 rm, .int .i64 (dd + 1), .int .i64 (lf - 1), .bool false] #[.string ⟨s.toArray⟩, .string ⟨fb.toArray⟩, .int .i64 (fs : Int)] gf) := Lib.hid (HDW.out.setF 0 (.string ⟨s.toArray⟩))
        have HQ' := Lib.hid (HQ.out.setF 0 (.string ⟨s.toArray⟩))
        clear HQ
        have HQ := HQ'
        clear HQ'
        clear qa qb
        obtain ⟨wF, hren⟩ : ∃ W, W = wO.setCell ⟨gf, 0, none⟩ (.string ⟨s.toArray⟩) := ⟨_, rfl⟩
        rw [← hren] at HDW' HQ ⊢
        clear hren HDW
        have HDW := HDW'
        clear HDW'
        have qc := (HDW.out.cell0 0 _ rfl).1
        have qr := HDW.out.f
        have HCL := Lib.hid (rkwith_any (wo k X) oq co s fb fs HQ.out.1.rd (Nat.le_trans (wo_len _ _) HXL.out))
        go_wp2_with (refine wpList_load_row rfl 64 (.tmp 13) rfl gf rfl 64 #[.string ⟨s.toArray⟩, .string ⟨fb.toArray⟩, .int .i64 (fs : Int)] (0, 0) _ qr Try.underlying64 rfl HI2 ?_)
        refine HCL.out.mono ?_
        rintro e wcq ⟨qq, cq, rfl, hq, hn, hb⟩
        have HQ0 := Lib.hid (QK.of HDW.out hq hn)
        have HDW0 := Lib.hid (HDW.out.old hb)
        clear qc hq hn hb HCL HDW qr
        have HDW := HDW0
        clear HDW0
        obtain ⟨qa, qb⟩ := HDW.out.cell0 0 _ rfl
        go_upto_region 36 with fail
        have HDW' : Hid (DW w (wcq.setCell ⟨w.heap.size, 0, none⟩ (.slice qq (withX (s, fb, fs) (wo k X)).length cq)) #[.slice qq (withX (s, fb, fs) (wo k X)).length cq, .int .i64 rm, .int .i64 (dd + 1), .int .i64 (lf - 1), .bool false] #[.string ⟨s.toArray⟩, .string ⟨fb.toArray⟩, .int .i64 (fs : Int)] gf) := Lib.hid (HDW.out.set0 0 (.slice qq (withX (s, fb, fs) (wo k X)).length cq))
        have HQ := Lib.hid (HQ0.out.set0 0 (.slice qq (withX (s, fb, fs) (wo k X)).length cq))
        clear qa qb HQ0
        obtain ⟨wN, hren⟩ : ∃ W, W = wcq.setCell ⟨w.heap.size, 0, none⟩ (.slice qq (withX (s, fb, fs) (wo k X)).length cq) := ⟨_, rfl⟩
        rw [← hren] at HDW' HQ ⊢
        clear hren HDW
        have HDW := HDW'
        clear HDW'
        have hc := HDW.out.c
        have hz := HDW.out.z
        have hvr : ∀ v ∈ (#[.slice qq (withX (s, fb, fs) (wo k X)).length cq, .int .i64 rm, .int .i64 (dd + 1), .int .i64 (lf - 1), .bool false] : Array Value).toList, v.oneCell' = true := by intro v hv; simp at hv; rcases hv with rfl | rfl | rfl | rfl | rfl <;> rfl
        go_wp2_with (first
          | (refine wpList_load_row rfl 28 (.tmp 5) rfl w.heap.size rfl 28 #[.slice qq (withX (s, fb, fs) (wo k X)).length cq, .int .i64 rm, .int .i64 (dd + 1), .int .i64 (lf - 1), .bool false] (0, 0) _ hc Try.underlying28 rfl HJ2 ?_)
          | (refine wpList_store_row rfl rfl 28 (.tmp 10) (.tmp 141) rfl (w.heap.size + 1) rfl 28 #[.slice none 0 0, .int .i64 0, .int .i64 0, .int .i64 0, .bool false] #[.slice qq (withX (s, fb, fs) (wo k X)).length cq, .int .i64 rm, .int .i64 (dd + 1), .int .i64 (lf - 1), .bool false] rfl hz rfl HJ2 hvr ?_))
        obtain ⟨hf1, hf2, hf3⟩ := HDW.out.fin
        rw [E1.out, E2.out]
        exact bodyPost_ret (results_cell_slot Try.results20 _ _ (w.heap.size + 1) 28 #[.slice qq (withX (s, fb, fs) (wo k X)).length cq, .int .i64 rm, .int .i64 (dd + 1), .int .i64 (lf - 1), .bool false] (0, 0) _ (.int .i64 0) rfl rfl hf1 Try.underlying28 rfl HJ2) rfl ⟨_, _, rfl, HQ.out.fin _, .inr (fun a e => by have := (HQ.out.2 a e).1; omega), hf2⟩
end Go.Proofs.Ytpbcglepecojmaa

namespace Go.Proofs.Ytpbcglepecojmaa
open Go.RowKit

set_option maxRecDepth 20000 in
set_option maxHeartbeats 8000000 in
theorem rkdo4_any {w : World} (S : St) (ok : Ok S) (so : SrtX S.X) (ao : Option Addr) (c : Nat) (hR : Rd encF w ao S.X) (k s : List UInt8) (n : Int) (hk : k.length ≤ 1000000) (hs : s.length ≤ 1000000000) :
    Calls Try.prog 20 #[.agg (rdC S ao c), .int .i64 4, .string ⟨k.toArray⟩, .string ⟨s.toArray⟩, .int .i64 n] w fun e w' => DoP w ao S.X (doS S 4 k s n) (doR S 4 k s n) e w' := by
  have HI := Lib.hid finfo
  have HJ := Lib.hid rinfo
  have HR := Lib.hid hR
  have HOK := Lib.hid ok
  obtain ⟨rm, dd, lf, dn, X⟩ := S
  have hvr := rdC_one ⟨rm, dd, lf, dn, X⟩ ao c
  unfold rdC at hvr ⊢
  simp only at hvr HR so ⊢
  obtain ⟨W0, hW0⟩ : ∃ W0, W0 = (w.alloc (.cells #[.slice ao X.length c, .int .i64 rm, .int .i64 dd, .int .i64 lf, .bool dn] 28)).alloc (.cells #[.slice none 0 0, .int .i64 0, .int .i64 0, .int .i64 0, .bool false] 28) := ⟨_, rfl⟩
  have hb0 : Below w.heap.size w W0 := by rw [hW0]; exact ((Below.refl _ w).alloc (Nat.le_refl _) _).alloc (by simp) _
  have b0 : W0.heap[w.heap.size]? = some (.cells #[.slice ao X.length c, .int .i64 rm, .int .i64 dd, .int .i64 lf, .bool dn] 28 (0, 0)) := by rw [hW0, Below.heap_alloc _ _ _ (by simp)]; exact heap_alloc_new _ _
  have b1 : W0.heap[w.heap.size + 1]? = some (.cells #[.slice none 0 0, .int .i64 0, .int .i64 0, .int .i64 0, .bool false] 28 (0, 0)) := by rw [hW0]; have := heap_alloc_new (w.alloc (.cells #[.slice ao X.length c, .int .i64 rm, .int .i64 dd, .int .i64 lf, .bool dn] 28)) (.cells #[.slice none 0 0, .int .i64 0, .int .i64 0, .int .i64 0, .bool false] 28); simpa using this
  have c04 : W0.cell? ⟨w.heap.size, 4, none⟩ = some (.bool dn) := by unfold World.cell?; rw [b0]; rfl
  cases dn
  rotate_left
  · have e1 : doS ⟨rm, dd, lf, true, X⟩ 4 k s n = ⟨rm, dd, lf, true, X⟩ := rfl
    have e2 : doR ⟨rm, dd, lf, true, X⟩ 4 k s n = 6 := rfl
    rw [e1, e2]
    have HJ2 := HJ.out
    have HF : Hid (∀ W, W = W0.setRow (w.heap.size + 1) #[.slice ao X.length c, .int .i64 rm, .int .i64 dd, .int .i64 lf, .bool true] → W.heap[w.heap.size + 1]? = some (.cells #[.slice ao X.length c, .int .i64 rm, .int .i64 dd, .int .i64 lf, .bool true] 28 (0, 0)) ∧ Below w.heap.size w W) := Lib.hid (by
      rintro W rfl
      exact ⟨setRow_heap _ _ _ _ 28 (0, 0) b1, hb0.trans (((Mod.refl (fun _ => False) W0).setRow (g := w.heap.size + 1) _).to_below hb0.size (by rintro k hk (h | h); exact h; omega))⟩)
    clear e1 e2 ok so hR HOK hb0
    go_enter Try.func20, Try.ntmps20
    go_upto_region 1 with fail
    rw [← hW0]
    clear hW0
    go_wp2_with (first
      | (refine wpList_load_row rfl 28 (.tmp 5) rfl w.heap.size rfl 28 _ (0, 0) _ b0 Try.underlying28 rfl HJ2 ?_; clear b0)
      | (refine wpList_store_row rfl rfl 28 (.tmp 10) (.tmp 16) rfl (w.heap.size + 1) rfl 28 _ #[.slice ao X.length c, .int .i64 rm, .int .i64 dd, .int .i64 lf, .bool true] rfl b1 rfl HJ2 hvr ?_; clear b1))
    obtain ⟨hf1, hf2⟩ := HF.out _ rfl
    exact bodyPost_ret (results_cell_slot Try.results20 _ _ (w.heap.size + 1) 28 _ (0, 0) _ (.int .i64 6) rfl rfl hf1 Try.underlying28 rfl HJ2) rfl ⟨ao, c, rfl, HR.out.old hf2, .inl ⟨rfl, rfl⟩, hf2⟩
  have HB0 := Lib.hid hb0
  have HJ2 := HJ.out
  have HI2 := HI.out
  have HXL : Hid (X.length ≤ 1000000) := Lib.hid (Nat.le_trans ok.n (by decide))
  have HUB : Hid (usedX X ≤ 1000000000000000) := Lib.hid (by
    have h1 := usedX_le ok.f
    have h2 := ok.n
    have h3 : X.length * 2000000000 ≤ 100000 * 2000000000 := Nat.mul_le_mul_right _ h2
    simp only at h1
    omega)
  have hfd := rkfind_any ⟨rm, dd, lf, false, X⟩ ao c k (hR.old hb0) HXL.out
  unfold rdC at hfd
  simp only at hfd
  cases hh : hasX k X
  · rw [fdX_none hh] at hfd
    have HFD := Lib.hid hfd
    have hw0 : wrK ⟨rm, dd, lf, false, X⟩ 4 k s n = 7 := by unfold wrK wrN; simp [hh]
    have e1 : doS ⟨rm, dd, lf, false, X⟩ 4 k s n = ⟨rm, dd, lf, false, X⟩ := by unfold doS dedS; rw [hw0]; rfl
    have e2 : doR ⟨rm, dd, lf, false, X⟩ 4 k s n = 7 := by unfold doR dedR; rw [hw0]; rfl
    have E1 := Lib.hid e1
    have E2 := Lib.hid e2
    clear hfd hh hvr e1 e2 hw0 hR ok so hb0 hs
    go_enter Try.func20, Try.ntmps20
    go_upto_region 1 with fail
    rw [← hW0]
    clear hW0
    go_wp2_with (refine wpList_load_row rfl 28 (.tmp 5) rfl w.heap.size rfl 28 #[.slice ao X.length c, .int .i64 rm, .int .i64 dd, .int .i64 lf, .bool false] (0, 0) _ b0 Try.underlying28 rfl HJ2 ?_)
    refine HFD.out.mono ?_
    rintro e w1 ⟨rfl, hb1⟩
    have HB1 := Lib.hid (HB0.out.trans (hb1.mono HB0.out.size))
    have hc : w1.heap[w.heap.size]? = some (.cells #[.slice ao X.length c, .int .i64 rm, .int .i64 dd, .int .i64 lf, .bool false] 28 (0, 0)) := (hb1.block _ (Array.getElem?_eq_some_iff.1 b0).1).trans b0
    have hz : w1.heap[(w.heap.size + 1)]? = some (.cells #[.slice none 0 0, .int .i64 0, .int .i64 0, .int .i64 0, .bool false] 28 (0, 0)) := (hb1.block _ (Array.getElem?_eq_some_iff.1 b1).1).trans b1
    clear hb1 b0 b1 c04
    have HFN : Hid ((w1.setRow (w.heap.size + 1) #[.slice ao X.length c, .int .i64 rm, .int .i64 dd, .int .i64 lf, .bool false]).heap[(w.heap.size + 1)]? = some (.cells #[.slice ao X.length c, .int .i64 rm, .int .i64 dd, .int .i64 lf, .bool false] 28 (0, 0)) ∧ Below w.heap.size w (w1.setRow (w.heap.size + 1) #[.slice ao X.length c, .int .i64 rm, .int .i64 dd, .int .i64 lf, .bool false]) ∧ Below w.heap.size w w1) := Lib.hid ⟨setRow_heap _ _ _ _ 28 (0, 0) hz, HB1.out.trans (((Mod.refl (fun _ => False) w1).setRow (g := (w.heap.size + 1)) _).to_below HB1.out.size (by rintro k hk (h | h); exact h; omega)), HB1.out⟩
    have hvr : ∀ v ∈ (#[.slice ao X.length c, .int .i64 rm, .int .i64 dd, .int .i64 lf, .bool false] : Array Value).toList, v.oneCell' = true := by intro v hv; simp at hv; rcases hv with rfl | rfl | rfl | rfl | rfl <;> rfl
    go_wp2_with (first
      | (refine wpList_load_row rfl 28 (.tmp 5) rfl w.heap.size rfl 28 #[.slice ao X.length c, .int .i64 rm, .int .i64 dd, .int .i64 lf, .bool false] (0, 0) _ hc Try.underlying28 rfl HJ2 ?_)
      | (refine wpList_store_row rfl rfl 28 (.tmp 10) (.tmp 26) rfl (w.heap.size + 1) rfl 28 #[.slice none 0 0, .int .i64 0, .int .i64 0, .int .i64 0, .bool false] #[.slice ao X.length c, .int .i64 rm, .int .i64 dd, .int .i64 lf, .bool false] rfl hz rfl HJ2 hvr ?_))
    obtain ⟨hf1, hf2, hf3⟩ := HFN.out
    rw [E1.out, E2.out]
    exact bodyPost_ret (results_cell_slot Try.results20 _ _ (w.heap.size + 1) 28 #[.slice ao X.length c, .int .i64 rm, .int .i64 dd, .int .i64 lf, .bool false] (0, 0) _ (.int .i64 7) rfl rfl hf1 Try.underlying28 rfl HJ2) rfl ⟨_, _, rfl, HR.out.old hf2, .inl ⟨rfl, rfl⟩, hf2⟩
  · obtain ⟨j, hj1, hj2⟩ := fdX_some (i := 0) hh
    rw [hj1, Nat.zero_add] at hfd
    have HFD := Lib.hid hfd
    have hjl : j < X.length := (List.getElem?_eq_some_iff.1 hj2).1
    have hfk := fiX_key k X
    obtain ⟨fb, hfb⟩ : ∃ fb, fb = (fiX k X).2.1 := ⟨_, rfl⟩
    obtain ⟨fs, hfs⟩ : ∃ fs, fs = (fiX k X).2.2 := ⟨_, rfl⟩
    have hX : X[j] = (k, fb, fs) := by
      have := (List.getElem?_eq_some_iff.1 hj2).2
      rw [this, hfb, hfs]
      exact Prod.ext hfk rfl
    have HH := Lib.hid hh
    clear hh
    have HFF : Hid (fiX k X = (k, fb, fs)) := Lib.hid (by rw [hfb, hfs]; exact Prod.ext hfk rfl)
    have HLB : Hid (fb.length ≤ 2000000000 ∧ s.length ≤ 1000000000) := Lib.hid ⟨by rw [hfb]; exact fiX_len ok.f k, hs⟩
    obtain ⟨bb, oo, hae, _⟩ := HR.out.fx j hjl
    have HFX : Hid (∀ W, Below w.heap.size w W → W.cell? ⟨bb, oo + j * 3, none⟩ = some (.string ⟨k.toArray⟩) ∧ W.cell? ⟨bb, oo + j * 3 + 1, none⟩ = some (.string ⟨fb.toArray⟩) ∧ W.cell? ⟨bb, oo + j * 3 + 2, none⟩ = some (.int .i64 (fs : Int))) := Lib.hid (fun W hb => by
      obtain ⟨b', o', e, _, c0, c1, c2⟩ := (HR.out.old hb).fx j hjl
      rw [hae] at e
      cases e
      rw [hX] at c0 c1 c2
      exact ⟨c0, c1, c2⟩)
    subst hae
    clear hfd hvr hj1 hj2 hfb hfs hX hfk hR ok so hb0 hs
    have hw0 : wrK ⟨rm, dd, lf, false, X⟩ 4 k s n = 0 := by unfold wrK wrN; simp [HH.out]
    have HW0 := Lib.hid hw0
    clear hw0
    go_enter Try.func20, Try.ntmps20
    go_upto_region 1 with fail
    rw [← hW0]
    clear hW0
    go_wp2_with (refine wpList_load_row rfl 28 (.tmp 5) rfl w.heap.size rfl 28 #[.slice (some ⟨bb, oo, none⟩) X.length c, .int .i64 rm, .int .i64 dd, .int .i64 lf, .bool false] (0, 0) _ b0 Try.underlying28 rfl HJ2 ?_)
    refine HFD.out.mono ?_
    rintro e w1 ⟨rfl, hb1⟩
    have HB1 := Lib.hid (HB0.out.trans (hb1.mono HB0.out.size))
    have hc : w1.heap[w.heap.size]? = some (.cells #[.slice (some ⟨bb, oo, none⟩) X.length c, .int .i64 rm, .int .i64 dd, .int .i64 lf, .bool false] 28 (0, 0)) := (hb1.block _ (Array.getElem?_eq_some_iff.1 b0).1).trans b0
    have hz : w1.heap[(w.heap.size + 1)]? = some (.cells #[.slice none 0 0, .int .i64 0, .int .i64 0, .int .i64 0, .bool false] 28 (0, 0)) := (hb1.block _ (Array.getElem?_eq_some_iff.1 b1).1).trans b1
    clear hb1 b0 b1 c04
    have HDW1 := Lib.hid (DW.make hc hz HB1.out (.string ⟨k.toArray⟩) (.string ⟨#[]⟩) (.int .i64 0) rfl rfl rfl)
    have hr1 : (w1.alloc (.cells #[.string ⟨#[]⟩, .string ⟨#[]⟩, .int .i64 0] 64)).heap[w1.heap.size]? = some (.cells #[.string ⟨#[]⟩, .string ⟨#[]⟩, .int .i64 0] 64 (0, 0)) := heap_alloc_new _ _
    have hV : ∀ v ∈ (#[.string ⟨k.toArray⟩, .string ⟨#[]⟩, .int .i64 0] : Array Value).toList, v.oneCell' = true := by intro v hv; simp at hv; rcases hv with rfl | rfl | rfl <;> rfl
    go_upto_region 8 with (refine wpList_store_row rfl rfl 64 (.tmp 13) (.tmp 28) rfl w1.heap.size rfl 64 _ #[.string ⟨k.toArray⟩, .string ⟨#[]⟩, .int .i64 0] rfl hr1 rfl HI2 hV ?_)
    generalize (w1.alloc (.cells #[.string ⟨#[]⟩, .string ⟨#[]⟩, .int .i64 0] 64)).setRow w1.heap.size #[.string ⟨k.toArray⟩, .string ⟨#[]⟩, .int .i64 0] = W2 at HDW1 ⊢
    clear hr1 hV hc hz
    generalize w1.heap.size = gf at HDW1 ⊢
    obtain ⟨x0, x1, x2⟩ := HFX.out W2 HDW1.out.b
    have hc := (HDW1.out.cell0 0 _ rfl).1
    have hff := HDW1.out.f
    have hV : ∀ v ∈ (#[.string ⟨k.toArray⟩, .string ⟨fb.toArray⟩, .int .i64 (fs : Int)] : Array Value).toList, v.oneCell' = true := by intro v hv; simp at hv; rcases hv with rfl | rfl | rfl <;> rfl
    go_upto_region 9 with (refine wpList_store_row rfl rfl 64 (.tmp 13) (.tmp 35) rfl gf rfl 64 _ #[.string ⟨k.toArray⟩, .string ⟨fb.toArray⟩, .int .i64 (fs : Int)] rfl hff rfl HI2 hV ?_)
    have HDW := Lib.hid (HDW1.out.setRowF #[.string ⟨k.toArray⟩, .string ⟨fb.toArray⟩, .int .i64 (fs : Int)])
    clear HDW1 hc hff hV x0 x1 x2
    generalize W2.setRow gf #[.string ⟨k.toArray⟩, .string ⟨fb.toArray⟩, .int .i64 (fs : Int)] = W3 at HDW ⊢
    go_upto_region 11 with fail
    go_quiet (fail)
    have HDW0 := Lib.hid (HDW.out.drewN nq)
    clear HDW
    have HDW := HDW0
    clear HDW0
    generalize W3.drewN nq = wz at HDW ⊢
    go_upto_region 13 with fail
    by_cases hl : lf = 0
    · subst hl
      have e1 : doS ⟨rm, dd, 0, false, X⟩ 4 k s n = ⟨rm, dd, 0, true, X⟩ := by
        unfold doS dedS; rw [HW0.out]; simp [lfX, XK, HFF.out]
      have e2 : doR ⟨rm, dd, 0, false, X⟩ 4 k s n = 6 := by
        unfold doR dedR; rw [HW0.out]; simp
      have E1 := Lib.hid e1
      have E2 := Lib.hid e2
      clear e1 e2 HW0
      obtain ⟨qa, qb⟩ := HDW.out.cell0 3 _ rfl
      obtain ⟨qc, qd⟩ := HDW.out.cell0 4 _ rfl
      go_upto_region 15 with fail
      have HDW' : Hid (DW w (wz.setCell ⟨w.heap.size, 4, none⟩ (.bool true)) #[.slice (some ⟨bb, oo, none⟩) X.length c, .int .i64 rm, .int .i64 dd, .int .i64 0, .bool true] #[.string ⟨k.toArray⟩, .string ⟨fb.toArray⟩, .int .i64 (fs : Int)] gf) := Lib.hid (HDW.out.set0 4 (.bool true))
      clear qa qb qc qd
      obtain ⟨wH, hren⟩ : ∃ W, W = wz.setCell ⟨w.heap.size, 4, none⟩ (.bool true) := ⟨_, rfl⟩
      rw [← hren] at HDW'  ⊢
      clear hren HDW
      have HDW := HDW'
      clear HDW'
      have hc := HDW.out.c
      have hz := HDW.out.z
      have hvr : ∀ v ∈ (#[.slice (some ⟨bb, oo, none⟩) X.length c, .int .i64 rm, .int .i64 dd, .int .i64 0, .bool true] : Array Value).toList, v.oneCell' = true := by intro v hv; simp at hv; rcases hv with rfl | rfl | rfl | rfl | rfl <;> rfl
      go_wp2_with (first
        | (refine wpList_load_row rfl 28 (.tmp 5) rfl w.heap.size rfl 28 #[.slice (some ⟨bb, oo, none⟩) X.length c, .int .i64 rm, .int .i64 dd, .int .i64 0, .bool true] (0, 0) _ hc Try.underlying28 rfl HJ2 ?_)
        | (refine wpList_store_row rfl rfl 28 (.tmp 10) (.tmp 67) rfl (w.heap.size + 1) rfl 28 #[.slice none 0 0, .int .i64 0, .int .i64 0, .int .i64 0, .bool false] #[.slice (some ⟨bb, oo, none⟩) X.length c, .int .i64 rm, .int .i64 dd, .int .i64 0, .bool true] rfl hz rfl HJ2 hvr ?_))
      obtain ⟨hf1, hf2, hf3⟩ := HDW.out.fin
      rw [E1.out, E2.out]
      exact bodyPost_ret (results_cell_slot Try.results20 _ _ (w.heap.size + 1) 28 #[.slice (some ⟨bb, oo, none⟩) X.length c, .int .i64 rm, .int .i64 dd, .int .i64 0, .bool true] (0, 0) _ (.int .i64 6) rfl rfl hf1 Try.underlying28 rfl HJ2) rfl ⟨_, _, rfl, HR.out.old hf2, .inl ⟨rfl, rfl⟩, hf2⟩
    · have l0 : (lf == 0) = false := by simpa using hl
      by_cases hm : lf = -1
      · skip
        subst hm
        have hwd : IntKind.i64.wrap (dd + 1) = dd + 1 := by have h1 := HOK.out.d0; have h2 := HOK.out.d1; simp only at h1 h2; rw [IntKind.wrap_i64]; omega
        have e1 : doS ⟨rm, dd, (-1), false, X⟩ 4 k s n = ⟨rm, dd + 1, (-1), false, wo k X⟩ := by
          unfold doS dedS; rw [HW0.out]; simp [lfX, XK, HFF.out]
        have e2 : doR ⟨rm, dd, (-1), false, X⟩ 4 k s n = 0 := by
          unfold doR dedR; rw [HW0.out]; simp
        have E1 := Lib.hid e1
        have E2 := Lib.hid e2
        clear e1 e2 HW0
        obtain ⟨qa, qb⟩ := HDW.out.cell0 3 _ rfl
        obtain ⟨qc, qd⟩ := HDW.out.cell0 2 _ rfl
        go_upto_region 20 with fail
        have HDW' : Hid (DW w (wz.setCell ⟨w.heap.size, 2, none⟩ (.int .i64 (dd + 1))) #[.slice (some ⟨bb, oo, none⟩) X.length c, .int .i64 rm, .int .i64 (dd + 1), .int .i64 (-1), .bool false] #[.string ⟨k.toArray⟩, .string ⟨fb.toArray⟩, .int .i64 (fs : Int)] gf) := Lib.hid (HDW.out.set0 2 (.int .i64 (dd + 1)))
        clear qa qb qc qd
        obtain ⟨wS, hren⟩ : ∃ W, W = wz.setCell ⟨w.heap.size, 2, none⟩ (.int .i64 (dd + 1)) := ⟨_, rfl⟩
        rw [← hren] at HDW'  ⊢
        clear hren HDW
        have HDW := HDW'
        clear HDW'
        have qc := (HDW.out.cell0 0 _ rfl).1
        have HCL := Lib.hid (rkwithout_any X _ c k (HR.out.old HDW.out.b) HXL.out)
        go_wp2_with fail
        refine HCL.out.mono ?_
        rintro e wcq ⟨qq, cq, rfl, hq, hn, hb⟩
        have HQ0 := Lib.hid (QK.of HDW.out hq hn)
        have HDW0 := Lib.hid (HDW.out.old hb)
        clear qc hq hn hb HCL HDW
        have HDW := HDW0
        clear HDW0
        obtain ⟨qa, qb⟩ := HDW.out.cell0 0 _ rfl
        go_upto_region 36 with fail
        have HDW' : Hid (DW w (wcq.setCell ⟨w.heap.size, 0, none⟩ (.slice qq (wo k X).length cq)) #[.slice qq (wo k X).length cq, .int .i64 rm, .int .i64 (dd + 1), .int .i64 (-1), .bool false] #[.string ⟨k.toArray⟩, .string ⟨fb.toArray⟩, .int .i64 (fs : Int)] gf) := Lib.hid (HDW.out.set0 0 (.slice qq (wo k X).length cq))
        have HQ := Lib.hid (HQ0.out.set0 0 (.slice qq (wo k X).length cq))
        clear qa qb HQ0
        obtain ⟨wO, hren⟩ : ∃ W, W = wcq.setCell ⟨w.heap.size, 0, none⟩ (.slice qq (wo k X).length cq) := ⟨_, rfl⟩
        rw [← hren] at HDW' HQ ⊢
        clear hren HDW
        have HDW := HDW'
        clear HDW'
        have hc := HDW.out.c
        have hz := HDW.out.z
        have hvr : ∀ v ∈ (#[.slice qq (wo k X).length cq, .int .i64 rm, .int .i64 (dd + 1), .int .i64 (-1), .bool false] : Array Value).toList, v.oneCell' = true := by intro v hv; simp at hv; rcases hv with rfl | rfl | rfl | rfl | rfl <;> rfl
        go_wp2_with (first
          | (refine wpList_load_row rfl 28 (.tmp 5) rfl w.heap.size rfl 28 #[.slice qq (wo k X).length cq, .int .i64 rm, .int .i64 (dd + 1), .int .i64 (-1), .bool false] (0, 0) _ hc Try.underlying28 rfl HJ2 ?_)
          | (refine wpList_store_row rfl rfl 28 (.tmp 10) (.tmp 141) rfl (w.heap.size + 1) rfl 28 #[.slice none 0 0, .int .i64 0, .int .i64 0, .int .i64 0, .bool false] #[.slice qq (wo k X).length cq, .int .i64 rm, .int .i64 (dd + 1), .int .i64 (-1), .bool false] rfl hz rfl HJ2 hvr ?_))
        obtain ⟨hf1, hf2, hf3⟩ := HDW.out.fin
        rw [E1.out, E2.out]
        exact bodyPost_ret (results_cell_slot Try.results20 _ _ (w.heap.size + 1) 28 #[.slice qq (wo k X).length cq, .int .i64 rm, .int .i64 (dd + 1), .int .i64 (-1), .bool false] (0, 0) _ (.int .i64 0) rfl rfl hf1 Try.underlying28 rfl HJ2) rfl ⟨_, _, rfl, HQ.out.fin _, .inr (fun a e => by have := (HQ.out.2 a e).1; omega), hf2⟩
      · skip
        have hpos : (0 : Int) < lf := by have := HOK.out.l0; simp only at this; omega
        have l1 : decide ((0 : Int) < lf) = true := by simpa using hpos
        have hwl : IntKind.i64.wrap (lf - 1) = lf - 1 := by have := HOK.out.l1; simp only at this; rw [IntKind.wrap_i64]; omega
        have hwd : IntKind.i64.wrap (dd + 1) = dd + 1 := by have h1 := HOK.out.d0; have h2 := HOK.out.d1; simp only at h1 h2; rw [IntKind.wrap_i64]; omega
        have e1 : doS ⟨rm, dd, lf, false, X⟩ 4 k s n = ⟨rm, dd + 1, (lf - 1), false, wo k X⟩ := by
          unfold doS dedS; rw [HW0.out]; simp [lfX, XK, HFF.out, hm, hl]
        have e2 : doR ⟨rm, dd, lf, false, X⟩ 4 k s n = 0 := by
          unfold doR dedR; rw [HW0.out]; simp [hl]
        have E1 := Lib.hid e1
        have E2 := Lib.hid e2
        clear e1 e2 HW0
        clear hm hl
        obtain ⟨qa, qb⟩ := HDW.out.cell0 3 _ rfl
        go_upto_region 18 with fail
        have HDW' : Hid (DW w (wz.setCell ⟨w.heap.size, 3, none⟩ (.int .i64 (lf - 1))) #[.slice (some ⟨bb, oo, none⟩) X.length c, .int .i64 rm, .int .i64 dd, .int .i64 (lf - 1), .bool false] #[.string ⟨k.toArray⟩, .string ⟨fb.toArray⟩, .int .i64 (fs : Int)] gf) := Lib.hid (HDW.out.set0 3 (.int .i64 (lf - 1)))
        clear qa qb
        obtain ⟨wG, hren⟩ : ∃ W, W = wz.setCell ⟨w.heap.size, 3, none⟩ (.int .i64 (lf - 1)) := ⟨_, rfl⟩
        rw [← hren] at HDW'  ⊢
        clear hren HDW
        have HDW := HDW'
        clear HDW'
        obtain ⟨qa, qb⟩ := HDW.out.cell0 3 _ rfl
        obtain ⟨qc, qd⟩ := HDW.out.cell0 2 _ rfl
        go_upto_region 20 with fail
        have HDW' : Hid (DW w (wG.setCell ⟨w.heap.size, 2, none⟩ (.int .i64 (dd + 1))) #[.slice (some ⟨bb, oo, none⟩) X.length c, .int .i64 rm, .int .i64 (dd + 1), .int .i64 (lf - 1), .bool false] #[.string ⟨k.toArray⟩, .string ⟨fb.toArray⟩, .int .i64 (fs : Int)] gf) := Lib.hid (HDW.out.set0 2 (.int .i64 (dd + 1)))
        clear qa qb qc qd
        obtain ⟨wS, hren⟩ : ∃ W, W = wG.setCell ⟨w.heap.size, 2, none⟩ (.int .i64 (dd + 1)) := ⟨_, rfl⟩
        rw [← hren] at HDW'  ⊢
        clear hren HDW
        have HDW := HDW'
        clear HDW'
        have qc := (HDW.out.cell0 0 _ rfl).1
        have HCL := Lib.hid (rkwithout_any X _ c k (HR.out.old HDW.out.b) HXL.out)
        go_wp2_with fail
        refine HCL.out.mono ?_
        rintro e wcq ⟨qq, cq, rfl, hq, hn, hb⟩
        have HQ0 := Lib.hid (QK.of HDW.out hq hn)
        have HDW0 := Lib.hid (HDW.out.old hb)
        clear qc hq hn hb HCL HDW
        have HDW := HDW0
        clear HDW0
        obtain ⟨qa, qb⟩ := HDW.out.cell0 0 _ rfl
        go_upto_region 36 with fail
        have HDW' : Hid (DW w (wcq.setCell ⟨w.heap.size, 0, none⟩ (.slice qq (wo k X).length cq)) #[.slice qq (wo k X).length cq, .int .i64 rm, .int .i64 (dd + 1), .int .i64 (lf - 1), .bool false] #[.string ⟨k.toArray⟩, .string ⟨fb.toArray⟩, .int .i64 (fs : Int)] gf) := Lib.hid (HDW.out.set0 0 (.slice qq (wo k X).length cq))
        have HQ := Lib.hid (HQ0.out.set0 0 (.slice qq (wo k X).length cq))
        clear qa qb HQ0
        obtain ⟨wO, hren⟩ : ∃ W, W = wcq.setCell ⟨w.heap.size, 0, none⟩ (.slice qq (wo k X).length cq) := ⟨_, rfl⟩
        rw [← hren] at HDW' HQ ⊢
        clear hren HDW
        have HDW := HDW'
        clear HDW'
        have hc := HDW.out.c
        have hz := HDW.out.z
        have hvr : ∀ v ∈ (#[.slice qq (wo k X).length cq, .int .i64 rm, .int .i64 (dd + 1), .int .i64 (lf - 1), .bool false] : Array Value).toList, v.oneCell' = true := by intro v hv; simp at hv; rcases hv with rfl | rfl | rfl | rfl | rfl <;> rfl
        go_wp2_with (first
          | (refine wpList_load_row rfl 28 (.tmp 5) rfl w.heap.size rfl 28 #[.slice qq (wo k X).length cq, .int .i64 rm, .int .i64 (dd + 1), .int .i64 (lf - 1), .bool false] (0, 0) _ hc Try.underlying28 rfl HJ2 ?_)
          | (refine wpList_store_row rfl rfl 28 (.tmp 10) (.tmp 141) rfl (w.heap.size + 1) rfl 28 #[.slice none 0 0, .int .i64 0, .int .i64 0, .int .i64 0, .bool false] #[.slice qq (wo k X).length cq, .int .i64 rm, .int .i64 (dd + 1), .int .i64 (lf - 1), .bool false] rfl hz rfl HJ2 hvr ?_))
        obtain ⟨hf1, hf2, hf3⟩ := HDW.out.fin
        rw [E1.out, E2.out]
        exact bodyPost_ret (results_cell_slot Try.results20 _ _ (w.heap.size + 1) 28 #[.slice qq (wo k X).length cq, .int .i64 rm, .int .i64 (dd + 1), .int .i64 (lf - 1), .bool false] (0, 0) _ (.int .i64 0) rfl rfl hf1 Try.underlying28 rfl HJ2) rfl ⟨_, _, rfl, HQ.out.fin _, .inr (fun a e => by have := (HQ.out.2 a e).1; omega), hf2⟩
end Go.Proofs.Ytpbcglepecojmaa
