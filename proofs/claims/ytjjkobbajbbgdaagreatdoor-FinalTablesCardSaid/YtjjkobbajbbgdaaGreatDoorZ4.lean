/- Texts 4: what the laws lean on. -/
import Derived.Test.YtjjkobbajbbgdaaGreatDoorZ3
import Derived.Maps.RangeWalk
import Derived.Maps.OwnSet
import Derived.WideKeyEntry
import Derived.Test.YtjjkobbajbbgdaaGreatDoorZ1
import Derived.Test.YtjjkobbajbbgdaaGreatDoorZ2
import Derived.DeepKeys4
import Derived.Laws.ResultCell
namespace Go.Proofs.YtjjkobbajbbgdaaGreatDoor
open Go.RowKit

set_option maxRecDepth 20000 in
set_option maxHeartbeats 8000000 in
theorem tchange_any (P : List Nat) (ao : Option Addr) (cap : Nat) (E : List (Int × Int)) (w : World) (hP : IsTab P) (hS : Rd encP w ao E) (hl : E.length ≤ 1000000) :
    Calls Tryz.prog 74 #[tval P, .slice ao E.length cap] w fun r w' => r = .returned (.tuple #[tval (chgT P E), .int .i64 (chgE P E)]) ∧ Below w.heap.size w w' := by
  have htab := chgT_tab (E := E) hP
  have hgd : chgE P E = 0 → chgT P E = wth P (natE E) := fun h => by unfold chgT; rw [if_pos h]
  have hbd : chgE P E ≠ 0 → chgT P E = List.replicate 64 0 := fun h => by unfold chgT; rw [if_neg h]
  unfold tval
  obtain ⟨A, hA⟩ : ∃ A, A = (nums .i64 P).toArray := ⟨_, rfl⟩
  obtain ⟨AQ, hAQ⟩ : ∃ AQ, AQ = (nums .i64 (chgT P E)).toArray := ⟨_, rfl⟩
  obtain ⟨Z, hZ⟩ : ∃ Z, Z = (nums .i64 (List.replicate 64 0)).toArray := ⟨_, rfl⟩
  obtain ⟨RE, hRE⟩ : ∃ RE, RE = chgE P E := ⟨_, rfl⟩
  have hz : ∀ w : World, (zeroValue 26).run Tryz.prog w = .ok (.agg Z) w := by rw [hZ]; exact fun _ => by kernel_rfl
  have hAs := hP.row hA
  have hZs : Z.size = 64 := by rw [hZ]; simp [nums_len]
  have hQs : AQ.size = 64 := htab.row hAQ
  have h1Z := tab_one hZ
  rw [← hA, ← hAQ, ← hRE]
  rw [← hRE] at hgd hbd
  obtain ⟨n, hn⟩ : ∃ n, E.length = n := ⟨_, rfl⟩
  have hmay := Lib.hid (fun w h => pmay_any ao cap 0 E w h hl)
  rw [hn] at hl hmay ⊢
  obtain ⟨W0, hW0⟩ : ∃ W0, W0 = (w.alloc (.cells A 26)).alloc (.cells Z 26) := ⟨_, rfl⟩
  have hB : Hid (Below w.heap.size w W0) := Lib.hid (by rw [hW0]; exact ((Below.refl _ _).alloc (Nat.le_refl _) _).alloc (by simp) _)
  have hbx : W0.heap[w.heap.size]? = some (.cells A 26 (0, 0)) := by rw [hW0, Below.heap_alloc _ _ _ (by simp)]; exact heap_alloc_new w _
  have hrs : W0.heap[w.heap.size + 1]? = some (.cells Z 26 (0, 0)) := by rw [hW0]; have := heap_alloc_new (w.alloc (.cells A 26)) (.cells Z 26); simpa using this
  have HW0 := Lib.hid hW0
  by_cases h64 : 64 < n
  · have HR : Hid (RE = 4) := Lib.hid (by rw [hRE]; unfold chgE; rw [if_pos (by rw [hn]; exact h64)])
    have HZA : Hid (AQ = Z) := Lib.hid (by rw [hAQ, hbd (by rw [HR.out]; decide), hZ])
    have b1 : (64 : Int) < n := by omega
    obtain rfl := HZA.out
    obtain rfl := HR.out
    have hg := setRow_heap W0 (w.heap.size + 1) AQ AQ 26 (0, 0) hrs
    have hl2 := Lib.hid (tab_res hg hZs)
    clear hgd hbd hRE hA hAQ hZ htab hmay hn h64 hW0 hg
    go_enter Tryz.func74, Tryz.ntmps74
    go_upto_region 1 with fail
    rw [← HW0.out]
    go_wp2_with (refine wpList_store_row rfl rfl 26 (.tmp 4) (.tmp 11) rfl (w.heap.size + 1) rfl 26 AQ AQ rfl hrs rfl (by rw [hZs]; kernel_rfl) h1Z.out ?_)
    refine bodyPost_ret (v := .tuple #[.agg AQ, .int .i64 4]) (by simp [results, Tryz.results74, asAddr, hl2.out]) rfl ⟨rfl, ?_⟩
    exact ((Mod.of_below hB.out).setRow AQ).to_below (Nat.le_refl _) (by rintro k hk (h | h) <;> omega)
  have b1 : ¬ (64 : Int) < n := by omega
  by_cases hg0 : good 0 (-1) E = true
  case neg =>
    have hgf : good 0 (-1) E = false := by simpa using hg0
    have HR : Hid (RE = 1) := Lib.hid (by rw [hRE]; unfold chgE; rw [if_neg (by rw [hn]; exact h64), if_pos hgf])
    have HZA : Hid (AQ = Z) := Lib.hid (by rw [hAQ, hbd (by rw [HR.out]; decide), hZ])
    rw [hgf] at hmay
    obtain rfl := HZA.out
    obtain rfl := HR.out
    have HS := Lib.hid hS
    clear hgd hbd hRE hA hAQ hZ htab hn h64 hW0 hg0 hgf hS
    go_enter Tryz.func74, Tryz.ntmps74
    go_upto_region 1 with fail
    rw [← HW0.out]
    go_wp2_with fail
    refine (hmay.out W0 (HS.out.old hB.out)).mono ?_
    rintro r w2 ⟨rfl, hb⟩
    have hrs2 := (hb.block _ (Array.getElem?_eq_some_iff.1 hrs).1).trans hrs
    have HB2 := Lib.hid (hB.out.trans (hb.mono hB.out.size))
    have hg := setRow_heap w2 (w.heap.size + 1) AQ AQ 26 (0, 0) hrs2
    have hl2 := Lib.hid (tab_res hg hZs)
    clear hb hrs hg hbx
    go_wp2_with (refine wpList_store_row rfl rfl 26 (.tmp 4) (.tmp 16) rfl (w.heap.size + 1) rfl 26 AQ AQ rfl hrs2 rfl (by rw [hZs]; kernel_rfl) h1Z.out ?_)
    refine bodyPost_ret (v := .tuple #[.agg AQ, .int .i64 1]) (by simp [results, Tryz.results74, asAddr, hl2.out]) rfl ⟨rfl, ?_⟩
    exact ((Mod.of_below HB2.out).setRow AQ).to_below (Nat.le_refl _) (by rintro k hk (h | h) <;> omega)
  have hok := natE_ok hg0
  have hnl : (natE E).length = n := by simp [natE, hn]
  have hwith : Hid (∀ w, Rd encP w ao E → Calls Tryz.prog 17 #[.agg A, .slice ao n cap] w fun r w' => r = .returned (.agg (nums .i64 (wth P (natE E))).toArray) ∧ Below w.heap.size w w') := Lib.hid (fun w h => by
    have := with_any P ao cap 0 (natE E) w hP (natE_at h hg0) hok (by rw [hnl]; omega)
    rw [hnl] at this
    unfold tval at this
    rw [← hA] at this
    exact this)
  have htw := hP.wth hok
  obtain ⟨AW, hAW⟩ : ∃ A, A = (nums .i64 (wth P (natE E))).toArray := ⟨_, rfl⟩
  have hWs : AW.size = 64 := htw.row hAW
  have h1W := tab_one hAW
  have heq : ∀ w, (binOp .eql 26 (.agg AW) (.agg Z)).run Tryz.prog w = .ok (.bool (wth P (natE E) == List.replicate 64 0)) w := fun w => by
    rw [hAW, hZ]; exact table_eql _ _ htw.len (by simp) w
  rw [← hAW] at hwith
  rw [hg0] at hmay
  have HS := Lib.hid hS
  obtain ⟨D, hD⟩ : ∃ D, D = (wth P (natE E) == List.replicate 64 0) := ⟨_, rfl⟩
  rw [← hD] at heq
  cases D with
  | true =>
    have e := beq_iff_eq.1 hD.symm
    have HR : Hid (RE = 7) := Lib.hid (by rw [hRE]; unfold chgE; rw [if_neg (by rw [hn]; exact h64), if_neg (by rw [hg0]; decide), if_pos e])
    have HZA : Hid (AQ = Z) := Lib.hid (by rw [hAQ, hbd (by rw [HR.out]; decide), hZ])
    obtain rfl := HZA.out
    obtain rfl := HR.out
    clear hgd hbd hRE hA hAQ hZ htab hn h64 hW0 hg0 hS hok hnl htw hAW hD e
    go_enter Tryz.func74, Tryz.ntmps74
    go_upto_region 1 with fail
    rw [← HW0.out]
    go_wp2_with fail
    refine (hmay.out W0 (HS.out.old hB.out)).mono ?_
    rintro r w2 ⟨rfl, hb⟩
    have hbx2 := (hb.block _ (Array.getElem?_eq_some_iff.1 hbx).1).trans hbx
    have hrs2 := (hb.block _ (Array.getElem?_eq_some_iff.1 hrs).1).trans hrs
    have HB2 := Lib.hid (hB.out.trans (hb.mono hB.out.size))
    clear hb hrs hbx hB
    go_wp2_with (refine wpList_load_row rfl 26 (.tmp 2) rfl w.heap.size rfl 26 A (0, 0) _ hbx2 Tryz.underlying26 rfl (by rw [hAs]; kernel_rfl) ?_)
    refine (hwith.out w2 (HS.out.old HB2.out)).mono ?_
    rintro r w3 ⟨rfl, hb⟩
    have hrs3 := (hb.block _ (Array.getElem?_eq_some_iff.1 hrs2).1).trans hrs2
    have HB3 := Lib.hid (HB2.out.trans (hb.mono HB2.out.size))
    have hl3 := Lib.hid (Array.getElem?_eq_some_iff.1 hrs3).1
    have ha3 : (w3.alloc (.cells AQ 26)).heap[w3.heap.size]? = some (.cells AQ 26 (0, 0)) := heap_alloc_new _ _
    clear hb hrs2 hbx2 HB2
    go_upto_region 6 with (refine wpList_store_row rfl rfl 26 (.tmp 6) (.tmp 19) rfl w3.heap.size rfl 26 AQ AW rfl ha3 ?s2 ?s3 ?s4 ?_)
    case s2 => rw [hZs, hWs]
    case s3 => rw [hWs]; kernel_rfl
    case s4 => exact h1W.out
    have hg6 := setRow_heap (w3.alloc (.cells AQ 26)) w3.heap.size AQ AW 26 (0, 0) ha3
    have hrs4 : ((w3.alloc (.cells AQ 26)).setRow w3.heap.size AW).heap[w.heap.size + 1]? = some (.cells AQ 26 (0, 0)) := by
      rw [setRow_other _ _ _ _ (by have := hl3.out; omega), Below.heap_alloc _ _ _ hl3.out]; exact hrs3
    have HB4 : Hid (Below w.heap.size w ((w3.alloc (.cells AQ 26)).setRow w3.heap.size AW)) := Lib.hid (by
      have h := HB3.out.alloc HB3.out.size (.cells AQ 26)
      have hlt := HB3.out.size
      exact ((Mod.of_below h).setRow AW).to_below (Nat.le_refl _) (by rintro k hk (h | h) <;> omega))
    generalize (w3.alloc (.cells AQ 26)).setRow w3.heap.size AW = W5 at *
    generalize w3.heap.size = g6 at *
    clear ha3 hrs3
    go_wp2_with (first | (refine wpList_load_rowG rfl 26 (.tmp 6) rfl g6 rfl 26 AW (0, 0) _ hg6 Tryz.underlying26 rfl (by rw [hWs]; kernel_rfl) ?_) | (refine wpList_store_row rfl rfl 26 (.tmp 4) (.tmp 23) rfl (w.heap.size + 1) rfl 26 AQ AQ rfl hrs4 rfl (by rw [hZs]; kernel_rfl) h1Z.out ?_))
    have hg := setRow_heap W5 (w.heap.size + 1) AQ AQ 26 (0, 0) hrs4
    have hl2 := tab_res hg hZs
    refine bodyPost_ret (v := .tuple #[.agg AQ, .int .i64 7]) (by simp [results, Tryz.results74, asAddr, hl2]) rfl ⟨rfl, ?_⟩
    exact ((Mod.of_below HB4.out).setRow AQ).to_below (Nat.le_refl _) (by rintro k hk (h | h) <;> omega)
  | false =>
    have e : wth P (natE E) ≠ List.replicate 64 0 := by intro e; rw [e] at hD; simp at hD
    have HR : Hid (RE = 0) := Lib.hid (by rw [hRE]; unfold chgE; rw [if_neg (by rw [hn]; exact h64), if_neg (by rw [hg0]; decide), if_neg e])
    have HZA : Hid (AQ = AW) := Lib.hid (by rw [hAQ, hgd HR.out, hAW])
    obtain rfl := HZA.out
    obtain rfl := HR.out
    clear hgd hbd hRE hA hAQ hZ htab hn h64 hW0 hg0 hS hok hnl htw hAW hD e
    go_enter Tryz.func74, Tryz.ntmps74
    go_upto_region 1 with fail
    rw [← HW0.out]
    go_wp2_with fail
    refine (hmay.out W0 (HS.out.old hB.out)).mono ?_
    rintro r w2 ⟨rfl, hb⟩
    have hbx2 := (hb.block _ (Array.getElem?_eq_some_iff.1 hbx).1).trans hbx
    have hrs2 := (hb.block _ (Array.getElem?_eq_some_iff.1 hrs).1).trans hrs
    have HB2 := Lib.hid (hB.out.trans (hb.mono hB.out.size))
    clear hb hrs hbx hB
    go_wp2_with (refine wpList_load_row rfl 26 (.tmp 2) rfl w.heap.size rfl 26 A (0, 0) _ hbx2 Tryz.underlying26 rfl (by rw [hAs]; kernel_rfl) ?_)
    refine (hwith.out w2 (HS.out.old HB2.out)).mono ?_
    rintro r w3 ⟨rfl, hb⟩
    have hrs3 := (hb.block _ (Array.getElem?_eq_some_iff.1 hrs2).1).trans hrs2
    have HB3 := Lib.hid (HB2.out.trans (hb.mono HB2.out.size))
    have hl3 := Lib.hid (Array.getElem?_eq_some_iff.1 hrs3).1
    have ha3 : (w3.alloc (.cells Z 26)).heap[w3.heap.size]? = some (.cells Z 26 (0, 0)) := heap_alloc_new _ _
    clear hb hrs2 hbx2 HB2
    go_upto_region 6 with (refine wpList_store_row rfl rfl 26 (.tmp 6) (.tmp 19) rfl w3.heap.size rfl 26 Z AQ rfl ha3 ?s2 ?s3 ?s4 ?_)
    case s2 => rw [hZs, hWs]
    case s3 => rw [hWs]; kernel_rfl
    case s4 => exact h1W.out
    have hg6 := setRow_heap (w3.alloc (.cells Z 26)) w3.heap.size Z AQ 26 (0, 0) ha3
    have hrs4 : ((w3.alloc (.cells Z 26)).setRow w3.heap.size AQ).heap[w.heap.size + 1]? = some (.cells Z 26 (0, 0)) := by
      rw [setRow_other _ _ _ _ (by have := hl3.out; omega), Below.heap_alloc _ _ _ hl3.out]; exact hrs3
    have HB4 : Hid (Below w.heap.size w ((w3.alloc (.cells Z 26)).setRow w3.heap.size AQ)) := Lib.hid (by
      have h := HB3.out.alloc HB3.out.size (.cells Z 26)
      have hlt := HB3.out.size
      exact ((Mod.of_below h).setRow AQ).to_below (Nat.le_refl _) (by rintro k hk (h | h) <;> omega))
    generalize (w3.alloc (.cells Z 26)).setRow w3.heap.size AQ = W5 at *
    generalize w3.heap.size = g6 at *
    clear ha3 hrs3
    go_wp2_with (first | (refine wpList_load_rowG rfl 26 (.tmp 6) rfl g6 rfl 26 AQ (0, 0) _ hg6 Tryz.underlying26 rfl (by rw [hWs]; kernel_rfl) ?_) | (refine wpList_store_row rfl rfl 26 (.tmp 4) (.tmp 24) rfl (w.heap.size + 1) rfl 26 Z AQ rfl hrs4 (by rw [hZs, hWs]) (by rw [hWs]; kernel_rfl) h1W.out ?_))
    have hg := setRow_heap W5 (w.heap.size + 1) Z AQ 26 (0, 0) hrs4
    have hl2 := tab_res hg hWs
    refine bodyPost_ret (v := .tuple #[.agg AQ, .int .i64 0]) (by simp [results, Tryz.results74, asAddr, hl2]) rfl ⟨rfl, ?_⟩
    exact ((Mod.of_below HB4.out).setRow AQ).to_below (Nat.le_refl _) (by rintro k hk (h | h) <;> omega)
end Go.Proofs.YtjjkobbajbbgdaaGreatDoor

namespace Go.Proofs.YtjjkobbajbbgdaaGreatDoor
open Go.RowKit

set_option maxRecDepth 20000 in
set_option maxHeartbeats 4000000 in
theorem kiskey_any (K : List UInt8) (w : World) (hK : K.length ≤ 1000000) : Calls Tryz.prog 39 #[.string ⟨K.toArray⟩] w fun r w' => r = .returned (.bool (nmsOk K)) ∧ Below w.heap.size w w' := by
  have hn := Lib.hid (hnames_any K w hK)
  go_enter Tryz.func39, Tryz.ntmps39
  go_wp2_with fail
  refine hn.out.mono ?_
  rintro r w2 ⟨q, c, L, rfl, -, -, -, hb⟩
  go_wp2_with fail
  go_ret
  exact ⟨rfl, hb⟩
theorem chgE_ok (E : List (Int × Int)) (hl : E.length ≤ 64) (P : List Nat) : (chgE P E == 0 || chgE P E == 7) = good 0 (-1) E := by
  unfold chgE
  rw [if_neg (by omega)]
  cases hg : good 0 (-1) E with
  | false => rw [if_pos rfl]; rfl
  | true =>
    rw [if_neg (by decide)]
    split <;> rfl

set_option maxRecDepth 20000 in
set_option maxHeartbeats 4000000 in
theorem kischange_any (ao : Option Addr) (cap : Nat) (E : List (Int × Int)) (w : World) (hS : Rd encP w ao E) (hl : E.length ≤ 64) :
    Calls Tryz.prog 41 #[.slice ao E.length cap] w fun r w' => r = .returned (.bool (good 0 (-1) E)) ∧ Below w.heap.size w w' := by
  have hc := Lib.hid (tchange_any (List.replicate 64 0) ao cap E w isTab_zero hS (by omega))
  have htab := chgT_tab (E := E) isTab_zero
  rw [← chgE_ok E hl (List.replicate 64 0)]
  unfold tval at hc
  obtain ⟨Z, hZ⟩ : ∃ Z, Z = (nums .i64 (List.replicate 64 0)).toArray := ⟨_, rfl⟩
  obtain ⟨AQ, hAQ⟩ : ∃ AQ, AQ = (nums .i64 (chgT (List.replicate 64 0) E)).toArray := ⟨_, rfl⟩
  have hQs : AQ.size = 64 := htab.row hAQ
  have h1Q := tab_one hAQ
  have hZs : Z.size = 64 := by rw [hZ]; simp [nums_len]
  have hz : ∀ w : World, (zeroValue 26).run Tryz.prog w = .ok (.agg Z) w := by rw [hZ]; exact fun _ => by kernel_rfl
  rw [← hZ, ← hAQ] at hc
  generalize chgE (List.replicate 64 0) E = e at hc ⊢
  generalize E.length = n at hc hl ⊢
  clear hS htab hZ hAQ
  have hsplit : ∀ e : Int, e = 0 ∨ ((e == 0) = false ∧ e = 7) ∨ ((e == 0) = false ∧ (e == 7) = false) := fun e => by
    by_cases h0 : e = 0
    · exact .inl h0
    · by_cases h7 : e = 7
      · exact .inr (.inl ⟨by simp [h0], h7⟩)
      · exact .inr (.inr ⟨by simp [h0], by simp [h7]⟩)
  have hst := fun w2 : World => heap_alloc_new w2 (.cells Z 26)
  rcases hsplit e with rfl | ⟨h0, rfl⟩ | ⟨h0, h7⟩
  all_goals
    clear hsplit
    go_enter Tryz.func41, Tryz.ntmps41
    go_wp2_with fail
    refine hc.out.mono ?_
    rintro r w2 ⟨rfl, hb⟩
    have ha := heap_alloc_new w2 (.cells Z 26)
    have HB : Hid (Below w.heap.size w ((w2.alloc (.cells Z 26)).setRow w2.heap.size AQ)) := Lib.hid (by
      have h := hb.alloc hb.size (.cells Z 26)
      have hlt := hb.size
      exact ((Mod.of_below h).setRow AQ).to_below (Nat.le_refl _) (by rintro k hk (h | h) <;> omega))
    clear hb hst
    go_wp2_with (refine wpList_store_row rfl rfl 26 (.tmp 3) (.tmp 9) rfl w2.heap.size rfl 26 Z AQ rfl ha (by rw [hZs, hQs]) (by rw [hQs]; kernel_rfl) h1Q.out ?_)
    go_ret
    exact ⟨by simp [*], HB.out⟩
/-- A certificate's cells. -/
theorem ct_info : (Tryz.prog.info? 47).map (·.size) = some 5 := by kernel_rfl
set_option maxRecDepth 20000 in
set_option maxHeartbeats 8000000 in
theorem kcheck_any (c : Ct) (p q : Option Addr) (cp cq : Nat) (w : World) (hS : CtAt w c p q) (h1 : c.sg.length ≤ 1000000) (h2 : c.ch.length ≤ 1000000) (h3 : c.base.length ≤ 1000000) (h4 : c.fin.length ≤ 1000000) :
    Calls Tryz.prog 25 #[.agg (ctc c p q cp cq)] w fun r w' => r = .returned (.int .i64 (ck c)) ∧ Below w.heap.size w w' := by
  obtain ⟨inst, base, fin, sg, ch⟩ := c
  obtain ⟨hS1, hS2⟩ := hS
  simp only at hS1 hS2 h1 h2 h3 h4
  have hkb := Lib.hid (fun w => kiskey_any base w h3)
  have hkf := Lib.hid (fun w => kiskey_any fin w h4)
  have hri := Lib.hid (fun w h => krising_any p cp sg w h h1)
  have hch := Lib.hid (fun w h => kischange_any q cq ch w h)
  obtain ⟨res, hres⟩ : ∃ r, r = ck ⟨inst, base, fin, sg, ch⟩ := ⟨_, rfl⟩
  rw [← hres]
  unfold ck at hres
  simp only at hres
  unfold ctc
  simp only
  have HS1 := Lib.hid hS1
  have HS2 := Lib.hid hS2
  generalize hn : sg.length = n at *
  generalize hm : ch.length = m at *
  generalize nmsOk base = kb at *
  generalize nmsOk fin = kf at *
  generalize good 0 (-1) ch = gd at *
  generalize rise (-1) sg = rz at *
  obtain ⟨W, hW⟩ : ∃ W, W = w.alloc (.cells #[.int .i64 inst, .string ⟨base.toArray⟩, .string ⟨fin.toArray⟩, .slice p n cp, .slice q m cq] 47) := ⟨_, rfl⟩
  have hB : Below w.heap.size w W := by rw [hW]; exact (Below.refl _ _).alloc (Nat.le_refl _) _
  have hbx : W.heap[w.heap.size]? = some (.cells #[.int .i64 inst, .string ⟨base.toArray⟩, .string ⟨fin.toArray⟩, .slice p n cp, .slice q m cq] 47 (0, 0)) := by rw [hW]; exact heap_alloc_new _ _
  have HW := Lib.hid hW
  have hc : ∀ w2, Below W.heap.size W w2 → ∀ k : Nat, w2.cell? ⟨w.heap.size, k, none⟩ = #[.int .i64 inst, .string ⟨base.toArray⟩, .string ⟨fin.toArray⟩, .slice p n cp, .slice q m cq][k]? := fun w2 hb k =>
    cell_of_row w2 _ k _ 47 (0, 0) ((hb.block _ (Array.getElem?_eq_some_iff.1 hbx).1).trans hbx)
  have Hc := Lib.hid hc
  have HB := Lib.hid hB
  have HR := Lib.hid hres
  clear hS1 hS2 hW hB hbx hc hres
  have ini : ∀ w2, Below W.heap.size W w2 → w2.cell? ⟨w.heap.size, 0, none⟩ = some (.int .i64 inst) ∧ w2.cell? ⟨w.heap.size, 1, none⟩ = some (.string ⟨base.toArray⟩) ∧ w2.cell? ⟨w.heap.size, 2, none⟩ = some (.string ⟨fin.toArray⟩) ∧ w2.cell? ⟨w.heap.size, 3, none⟩ = some (.slice p n cp) ∧ w2.cell? ⟨w.heap.size, 4, none⟩ = some (.slice q m cq) :=
    fun w2 hb => ⟨Hc.out w2 hb 0, Hc.out w2 hb 1, Hc.out w2 hb 2, Hc.out w2 hb 3, Hc.out w2 hb 4⟩
  have HI := Lib.hid ini
  obtain ⟨c0, c1, c2, c3, c4⟩ := ini W (Below.refl _ _)
  clear ini
  by_cases b1 : (64 : Int) < n
  · have hr : Hid (res = 4) := Lib.hid (by rw [HR.out, if_pos (.inl (by omega))])
    obtain rfl := hr.out
    clear HR
    go_enter Tryz.func25, Tryz.ntmps25
    go_upto_region 1 with fail
    rw [← HW.out]
    go_wp2_with fail
    go_ret
    exact ⟨rfl, HB.out⟩
  by_cases b2 : (64 : Int) < m
  · have hr : Hid (res = 4) := Lib.hid (by rw [HR.out, if_pos (.inr (by omega))])
    obtain rfl := hr.out
    clear HR
    go_enter Tryz.func25, Tryz.ntmps25
    go_upto_region 1 with fail
    rw [← HW.out]
    go_wp2_with fail
    go_ret
    exact ⟨rfl, HB.out⟩
  have HR2 : Hid (res = if inst < 0 ∨ 1073741824 < inst ∨ kb = false ∨ kf = false ∨ gd = false ∨ rz = false then 1 else 0) := Lib.hid (by rw [HR.out, if_neg (by omega)])
  have hm64 : m ≤ 64 := by omega
  clear HR
  by_cases b3 : inst < 0
  · have hr : Hid (res = 1) := Lib.hid (by rw [HR2.out, if_pos (.inl b3)])
    obtain rfl := hr.out
    clear HR2
    go_enter Tryz.func25, Tryz.ntmps25
    go_upto_region 1 with fail
    rw [← HW.out]
    go_wp2_with fail
    go_ret
    exact ⟨rfl, HB.out⟩
  by_cases b4 : (1073741824 : Int) < inst
  · have hr : Hid (res = 1) := Lib.hid (by rw [HR2.out, if_pos (.inr (.inl b4))])
    obtain rfl := hr.out
    clear HR2
    go_enter Tryz.func25, Tryz.ntmps25
    go_upto_region 1 with fail
    rw [← HW.out]
    go_wp2_with fail
    go_ret
    exact ⟨rfl, HB.out⟩
  have HR3 : Hid (res = if kb = false ∨ kf = false ∨ gd = false ∨ rz = false then 1 else 0) := Lib.hid (by rw [HR2.out]; simp only [b3, b4, false_or])
  clear HR2
  go_enter Tryz.func25, Tryz.ntmps25
  go_upto_region 1 with fail
  rw [← HW.out]
  go_wp2_with fail
  refine (hkb.out W).mono ?_
  rintro r w2 ⟨rfl, hb2⟩
  obtain ⟨d0, d1, d2, d3, d4⟩ := HI.out w2 hb2
  have HB2 := Lib.hid hb2
  clear hb2 c0 c1 c2 c3 c4
  cases kb with
  | false =>
    have hr : Hid (res = 1) := Lib.hid (by rw [HR3.out, if_pos (.inl rfl)])
    obtain rfl := hr.out
    clear HR3
    go_wp2_with fail
    go_ret
    exact ⟨rfl, HB.out.trans (HB2.out.mono HB.out.size)⟩
  | true =>
  go_wp2_with fail
  refine (hkf.out w2).mono ?_
  rintro r w3 ⟨rfl, hb3⟩
  have HB3 := Lib.hid (HB2.out.trans (hb3.mono HB2.out.size))
  obtain ⟨e0, e1, e2, e3, e4⟩ := HI.out w3 HB3.out
  clear hb3 d0 d1 d2 d3 d4 HB2
  cases kf with
  | false =>
    have hr : Hid (res = 1) := Lib.hid (by rw [HR3.out, if_pos (.inr (.inl rfl))])
    obtain rfl := hr.out
    clear HR3
    go_wp2_with fail
    go_ret
    exact ⟨rfl, HB.out.trans (HB3.out.mono HB.out.size)⟩
  | true =>
  go_wp2_with fail
  refine (hri.out w3 (HS1.out.old (HB.out.trans (HB3.out.mono HB.out.size)))).mono ?_
  rintro r w4 ⟨rfl, hb4⟩
  have HB4 := Lib.hid (HB3.out.trans (hb4.mono HB3.out.size))
  obtain ⟨f0, f1, f2, f3, f4⟩ := HI.out w4 HB4.out
  clear hb4 e0 e1 e2 e3 e4 HB3
  cases rz with
  | false =>
    have hr : Hid (res = 1) := Lib.hid (by rw [HR3.out, if_pos (.inr (.inr (.inr rfl)))])
    obtain rfl := hr.out
    clear HR3
    go_wp2_with fail
    go_ret
    exact ⟨rfl, HB.out.trans (HB4.out.mono HB.out.size)⟩
  | true =>
  go_wp2_with fail
  refine (hch.out w4 (HS2.out.old (HB.out.trans (HB4.out.mono HB.out.size))) (by omega)).mono ?_
  rintro r w5 ⟨rfl, hb5⟩
  have HB5 := Lib.hid (HB4.out.trans (hb5.mono HB4.out.size))
  clear hb5 f0 f1 f2 f3 f4 HB4
  cases gd with
  | false =>
    have hr : Hid (res = 1) := Lib.hid (by rw [HR3.out, if_pos (.inr (.inr (.inl rfl)))])
    obtain rfl := hr.out
    clear HR3
    go_wp2_with fail
    go_ret
    exact ⟨rfl, HB.out.trans (HB5.out.mono HB.out.size)⟩
  | true =>
    have hr : Hid (res = 0) := Lib.hid (by rw [HR3.out, if_neg (by simp)])
    obtain rfl := hr.out
    clear HR3
    go_wp2_with fail
    go_ret
    exact ⟨rfl, HB.out.trans (HB5.out.mono HB.out.size)⟩
end Go.Proofs.YtjjkobbajbbgdaaGreatDoor

namespace Go.Proofs.YtjjkobbajbbgdaaGreatDoor
open Go.RowKit

theorem Gs.lo {E : List Int} : ∀ i, i ≤ E.length → Gs E i → -1 ≤ befS E i := by
  intro i
  induction i with
  | zero => intro _ _; exact Int.le_refl _
  | succ i ih =>
    intro hi h
    have h1 := ih (by omega) (fun j hj => h j (by omega))
    have h2 := (riseI_iff (by omega : i < E.length)).1 (h i (by omega))
    rw [befS_succ (by omega : i < E.length)]; omega

end Go.Proofs.YtjjkobbajbbgdaaGreatDoor

namespace Go.Proofs.YtjjkobbajbbgdaaGreatDoor
open Go.RowKit

/-- What has turned of what was there is the writer's. -/
def Wr (w w' : World) : Prop := Mod (fun k => ∃ cs T fr, w.heap[k]? = some (.cells cs T fr) ∧ (T = 122 ∨ T = 5)) w w'
theorem Wr.row {w w' : World} (h : Wr w w') {g : Nat} {cs : Array Value} {T : TypeId} {fr : Nat × Nat} (hg : w.heap[g]? = some (.cells cs T fr)) (h1 : T ≠ 122) (h2 : T ≠ 5) (_ : True) : w'.heap[g]? = some (.cells cs T fr) := by
  refine (h.block g (Array.getElem?_eq_some_iff.1 hg).1 ?_).trans hg
  rintro ⟨cs', T', fr', e, ht⟩
  rw [hg] at e
  simp only [Option.some.injEq, Obj.cells.injEq] at e
  obtain ⟨_, rfl, _⟩ := e
  rcases ht with ht | ht
  · exact h1 ht
  · exact h2 ht
theorem wr_of_num {w w' : World} {b : Nat} {v : Value} {bs bs' : List UInt8} {r : Ending} (hO : OutAt 122 5 w b v bs) (h : NumPost b v bs' w r w') : Wr w w' := by
  obtain ⟨_, v', _, hM, _⟩ := h
  refine hM.mono ?_
  rintro i hi (rfl | h)
  · exact ⟨_, _, _, hO.blk, .inl rfl⟩
  · rcases hO.own.2 with ⟨rfl, _⟩ | ⟨g, cap, cur, rfl, _, hh, _⟩
    · simp [Value.ownBlock] at h
    · simp [Value.ownBlock] at h
      subst h
      exact ⟨_, _, _, hh, .inr rfl⟩
theorem out_numW (W0 : World) (b : Nat) (bs : List UInt8) (x : Int) (w : World) (h : OutSt W0 b bs w) (hl : bs.length ≤ 1099511627776) (h0 : -9223372036854775808 ≤ x) (h1 : x ≤ 9223372036854775807) :
    Calls Tryz.prog 68 #[.pointer (some ⟨b, 0, none⟩), .int .i64 x] w fun r w' => r = .returned (.pointer (some ⟨b, 0, none⟩)) ∧ OutSt W0 b (bs ++ numL x) w' ∧ Wr w w' := by
  obtain ⟨v, hO, hv, hB⟩ := h
  exact (num_any x b v bs w h0 h1 hO hl).mono fun _ _ hp => ⟨(OutSt.of_post hO hv hB hp).1, (OutSt.of_post hO hv hB hp).2, wr_of_num hO hp⟩

set_option maxRecDepth 20000 in
set_option maxHeartbeats 8000000 in
theorem kbytes_any (c : Ct) (p q : Option Addr) (cp cq : Nat) (w : World) (hS : CtAt w c p q) (ok : CtOk c) :
    Calls Tryz.prog 75 #[.agg (ctc c p q cp cq)] w fun r w' => r = .returned (.string ⟨(ctB c).toArray⟩) ∧ Below w.heap.size w w' := by
  have hlen := ctB_len ok
  obtain ⟨F, hF⟩ : ∃ F, F = ctB c := ⟨_, rfl⟩
  rw [← hF] at hlen ⊢
  obtain ⟨inst, base, fin, sg, ch⟩ := c
  obtain ⟨hS1, hS2⟩ := hS
  obtain ⟨ns, nc, i0, i1, kb, kf, hg, hr⟩ := ok
  have kb := CtOk.key kb
  have kf := CtOk.key kf
  unfold ctB at hF
  simp only at hS1 hS2 ns nc i0 i1 kb kf hg hr hF
  unfold ctc
  simp only
  have hrm := Lib.hid (fun x hx => rise_mem hr (by decide) x hx)
  have hgm := Lib.hid (fun x hx => good_mem hg (by decide) x hx)
  obtain ⟨n, hn⟩ : ∃ n, n = sg.length := ⟨_, rfl⟩
  obtain ⟨m0, hm0⟩ : ∃ n, n = ch.length := ⟨_, rfl⟩
  rw [← hn, ← hm0] at hF ⊢
  rw [← hn] at ns
  rw [← hm0] at nc
  have Hn := Lib.hid hn
  have Hm := Lib.hid hm0
  have HS1 := Lib.hid hS1
  have HS2 := Lib.hid hS2
  obtain ⟨B1, hB1⟩ : ∃ B, B = ([] : List UInt8) ++ numL inst := ⟨_, rfl⟩
  obtain ⟨B2, hB2⟩ : ∃ B, B = B1 ++ (numL base.length ++ base) := ⟨_, rfl⟩
  obtain ⟨B3, hB3⟩ : ∃ B, B = B2 ++ (numL fin.length ++ fin) := ⟨_, rfl⟩
  obtain ⟨B4, hB4⟩ : ∃ B, B = B3 ++ numL (n : Int) := ⟨_, rfl⟩
  obtain ⟨B5, hB5⟩ : ∃ B, B = B4 ++ sB sg := ⟨_, rfl⟩
  obtain ⟨B6, hB6⟩ : ∃ B, B = B5 ++ numL (m0 : Int) := ⟨_, rfl⟩
  have hFB : F = B6 ++ eB ch := by rw [hF, hB6, hB5, hB4, hB3, hB2, hB1]; simp [List.append_assoc]
  have l6 : B6.length ≤ 4000 := by have := congrArg List.length hFB; rw [List.length_append] at this; omega
  have l5 : B5.length ≤ 4000 := by have := congrArg List.length hB6; rw [List.length_append] at this; omega
  have l4 : B4.length ≤ 4000 := by have := congrArg List.length hB5; rw [List.length_append] at this; omega
  have l3 : B3.length ≤ 4000 := by have := congrArg List.length hB4; rw [List.length_append] at this; omega
  have l2 : B2.length ≤ 4000 := by have := congrArg List.length hB3; rw [List.length_append] at this; omega
  have l1 : B1.length ≤ 4000 := by have := congrArg List.length hB2; rw [List.length_append] at this; omega
  have HB1 := Lib.hid hB1
  have HB2 := Lib.hid hB2
  have HB3 := Lib.hid hB3
  have HB4 := Lib.hid hB4
  have HB5 := Lib.hid hB5
  have HB6 := Lib.hid hB6
  have HF := Lib.hid hFB
  clear hF hFB hB1 hB2 hB3 hB4 hB5 hB6 hn hm0 hS1 hS2 hg hr
  obtain ⟨W0, hW0⟩ : ∃ W, W = w.alloc (.cells #[.int .i64 inst, .string ⟨base.toArray⟩, .string ⟨fin.toArray⟩, .slice p n cp, .slice q m0 cq] 47) := ⟨_, rfl⟩
  have hB : Hid (Below w.heap.size w W0) := Lib.hid (by rw [hW0]; exact (Below.refl _ _).alloc (Nat.le_refl _) _)
  obtain ⟨g, hg⟩ : ∃ g, g = w.heap.size := ⟨_, rfl⟩
  have hbx0 : W0.heap[g]? = some (.cells #[.int .i64 inst, .string ⟨base.toArray⟩, .string ⟨fin.toArray⟩, .slice p n cp, .slice q m0 cq] 47 (0, 0)) := by rw [hW0, hg]; exact heap_alloc_new _ _
  have hsz : W0.heap.size = w.heap.size + 1 := by rw [hW0]; simp
  obtain ⟨b, hb⟩ : ∃ b, b = W0.heap.size := ⟨_, rfl⟩
  have hbx : ∀ w2, Below b W0 w2 → w2.cell? ⟨g, 0, none⟩ = some (.int .i64 inst) ∧ w2.cell? ⟨g, 1, none⟩ = some (.string ⟨base.toArray⟩) ∧ w2.cell? ⟨g, 2, none⟩ = some (.string ⟨fin.toArray⟩) ∧ w2.cell? ⟨g, 3, none⟩ = some (.slice p n cp) ∧ w2.cell? ⟨g, 4, none⟩ = some (.slice q m0 cq) := fun w2 h2 => by
    have e := (h2.block g (by omega)).trans hbx0
    exact ⟨cell_of_row w2 g 0 _ 47 (0, 0) e, cell_of_row w2 g 1 _ 47 (0, 0) e, cell_of_row w2 g 2 _ 47 (0, 0) e, cell_of_row w2 g 3 _ 47 (0, 0) e, cell_of_row w2 g 4 _ 47 (0, 0) e⟩
  have hlow : Hid (∀ w2, Below b W0 w2 → Below w.heap.size w w2) := Lib.hid (fun w2 h2 => hB.out.trans (h2.mono (by omega)))
  have HO0 : Hid (OutSt W0 b [] (W0.alloc (.cells #[.slice none 0 0] 122))) := Lib.hid (by rw [hb]; exact OutSt.made W0)
  have HW := Lib.hid hW0
  have Hg := Lib.hid hg
  have Hb : Hid (b = w.heap.size + 1) := Lib.hid (by omega)
  clear hW0 hg hb hbx0 hsz
  go_enter Tryz.func75, Tryz.ntmps75
  go_upto_region 2 with fail
  rw [← HW.out, ← Hb.out, ← Hg.out]
  generalize W0.alloc (.cells #[.slice none 0 0] 122) = W1 at HO0 ⊢
  have HG0 : Hid ((fun (j : Nat) (_ : Value) (w' : World) => OutSt W0 b (match j with | 0 => [] | 1 => B1 | 2 => B2 | _ => B3) w') 0 undef W1.drew) := Lib.hid (HO0.out.old (Below.refl _ _).drew)
  clear HO0
  refine wp_region_chain (fun t v => match t with
    | 8 => v = .pointer (some ⟨g, 0, none⟩)
    | 9 => v = .int .i64 inst
    | 10 => v = .pointer (some ⟨b, 0, none⟩)
    | 11 => v = .pointer (some ⟨g, 1, none⟩)
    | 12 => v = .string ⟨base.toArray⟩
    | 13 => v = .pointer (some ⟨b, 0, none⟩)
    | 14 => v = .pointer (some ⟨g, 2, none⟩)
    | 15 => v = .string ⟨fin.toArray⟩
    | 16 => v = .pointer (some ⟨b, 0, none⟩)
    | _ => True) (fun (j : Nat) (_ : Value) (w' : World) => OutSt W0 b (match j with | 0 => [] | 1 => B1 | 2 => B2 | _ => B3) w') [2, 5, 8] 50 (by kernel_rfl) (by decide +kernel) rfl (by decide +kernel) (by decide) (by decide) HG0.out (by
    refine OweAllC.cons (owesC_val 0 (by decide +kernel) (by decide) rfl rfl fun k' a w1 x hk ha hG hV => ?_) ?_
    · skip
      have h1 := ha.outer 1 (by decide +kernel)
      simp only [Act.eval] at h1
      exact ⟨.pointer (some ⟨g, 0, none⟩), wanted_free rfl, by simp [execOp, go_sem, h1], rfl⟩
    refine OweAllC.cons (owesC_val 0 (by decide +kernel) (by decide) rfl rfl fun k' a w1 x hk ha hG hV => ?_) ?_
    · skip
      have h8 : a.tmps.getD 8 undef = .pointer (some ⟨g, 0, none⟩) := hV.get 8 (by decide +kernel)
      have cc := (hbx _ hG.below).1
      exact ⟨.int .i64 inst, wanted_free rfl, by simp [execOp, go_sem, h8, cc], rfl⟩
    refine OweAllC.cons (owesC_call 0 rfl rfl rfl 68 fun a w1 x ha hG hx hV => ?_) ?_
    · skip
      have h3 := ha.outer 3 (by decide +kernel)
      simp only [Act.eval] at h3
      have h9 : a.tmps.getD 9 undef = .int .i64 inst := hV.get 9 (by decide +kernel)
      refine ⟨#[.pointer (some ⟨b, 0, none⟩), .int .i64 inst], wanted_free rfl, by simp [execOp, resolve, invoke, go_sem, h3, h9], ?_⟩
      refine (out_num W0 b [] inst w1 hG (by first | (simp; done) | omega) (by omega) (by omega)).mono ?_
      rintro r u2 ⟨rfl, hO⟩; exact ⟨_, rfl, rfl, by rw [HB1.out]; exact hO⟩
    refine OweAllC.cons (owesC_val 1 (by decide +kernel) (by decide) rfl rfl fun k' a w1 x hk ha hG hV => ?_) ?_
    · skip
      have h1 := ha.outer 1 (by decide +kernel)
      simp only [Act.eval] at h1
      exact ⟨.pointer (some ⟨g, 1, none⟩), wanted_free rfl, by simp [execOp, go_sem, h1], rfl⟩
    refine OweAllC.cons (owesC_val 1 (by decide +kernel) (by decide) rfl rfl fun k' a w1 x hk ha hG hV => ?_) ?_
    · skip
      have h11 : a.tmps.getD 11 undef = .pointer (some ⟨g, 1, none⟩) := hV.get 11 (by decide +kernel)
      have cc := (hbx _ hG.below).2.1
      exact ⟨.string ⟨base.toArray⟩, wanted_free rfl, by simp [execOp, go_sem, h11, cc], rfl⟩
    refine OweAllC.cons (owesC_call 1 rfl rfl rfl 69 fun a w1 x ha hG hx hV => ?_) ?_
    · skip
      have h10 : a.tmps.getD 10 undef = .pointer (some ⟨b, 0, none⟩) := hV.get 10 (by decide +kernel)
      have h12 : a.tmps.getD 12 undef = .string ⟨base.toArray⟩ := hV.get 12 (by decide +kernel)
      refine ⟨#[.pointer (some ⟨b, 0, none⟩), .string ⟨base.toArray⟩], wanted_free rfl, by simp [execOp, resolve, invoke, go_sem, h10, h12], ?_⟩
      refine (out_text W0 b B1 base w1 hG (by omega) (by omega)).mono ?_
      rintro r u2 ⟨rfl, hO⟩; exact ⟨_, rfl, rfl, by rw [HB2.out]; exact hO⟩
    refine OweAllC.cons (owesC_val 2 (by decide +kernel) (by decide) rfl rfl fun k' a w1 x hk ha hG hV => ?_) ?_
    · skip
      have h1 := ha.outer 1 (by decide +kernel)
      simp only [Act.eval] at h1
      exact ⟨.pointer (some ⟨g, 2, none⟩), wanted_free rfl, by simp [execOp, go_sem, h1], rfl⟩
    refine OweAllC.cons (owesC_val 2 (by decide +kernel) (by decide) rfl rfl fun k' a w1 x hk ha hG hV => ?_) ?_
    · skip
      have h14 : a.tmps.getD 14 undef = .pointer (some ⟨g, 2, none⟩) := hV.get 14 (by decide +kernel)
      have cc := (hbx _ hG.below).2.2.1
      exact ⟨.string ⟨fin.toArray⟩, wanted_free rfl, by simp [execOp, go_sem, h14, cc], rfl⟩
    refine OweAllC.cons (owesC_call 2 rfl rfl rfl 69 fun a w1 x ha hG hx hV => ?_) ?_
    · skip
      have h13 : a.tmps.getD 13 undef = .pointer (some ⟨b, 0, none⟩) := hV.get 13 (by decide +kernel)
      have h15 : a.tmps.getD 15 undef = .string ⟨fin.toArray⟩ := hV.get 15 (by decide +kernel)
      refine ⟨#[.pointer (some ⟨b, 0, none⟩), .string ⟨fin.toArray⟩], wanted_free rfl, by simp [execOp, resolve, invoke, go_sem, h13, h15], ?_⟩
      refine (out_text W0 b B2 fin w1 hG (by omega) (by omega)).mono ?_
      rintro r u2 ⟨rfl, hO⟩; exact ⟨_, rfl, rfl, by rw [HB3.out]; exact hO⟩
    exact OweAllC.nil
    ) ?_
  intro f wz xz hG hx hv
  first | (rename_i hK; refine hK _ _ ?_; clear hK) | (rename_i hK _; refine hK _ _ ?_; clear hK) | (rename_i hK _ _; refine hK _ _ ?_; clear hK) | (rename_i hK _ _ _; refine hK _ _ ?_; clear hK)
  clear hv hx
  simp only [dsts, puts, List.filterMap_cons, List.filterMap_nil, List.foldl_cons, List.foldl_nil, Act.put, List.setIfInBounds_toArray, List.set_cons_succ, List.set_cons_zero]
  have HO3 : Hid (OutSt W0 b B3 wz) := Lib.hid hG
  clear HG0 hG
  obtain ⟨c0, c1, c2, c3, c4⟩ := hbx wz HO3.out.below
  go_wp2_with fail
  refine (out_num W0 b B3 (n : Int) wz HO3.out (by omega) (by omega) (by omega)).mono ?_
  rintro r w3 ⟨rfl, hO⟩
  have HO4 : Hid (OutSt W0 b (B4 ++ sB (sg.take 0)) w3) := Lib.hid (by rw [HB4.out]; simpa [sB] using hO)
  clear hO HO3 c0 c1 c2 c3 c4
  obtain ⟨c0, c1, c2, c3, c4⟩ := hbx w3 HO4.out.below
  go_wp2_with fail
  clear c0 c1 c2 c3 c4
  go_loopw [24] (fun s24 wr => ∃ i : Nat, i ≤ n ∧ s24 = .int .i64 (i : Int) ∧ Hid (OutSt W0 b (B4 ++ sB (sg.take i)) wr)) (fun i _ => n - (intOf i).toNat)
  case atStart => exact ⟨0, Nat.zero_le _, rfl, HO4⟩
  case round =>
    clear HO4
    obtain ⟨i, hi, rfl, HO⟩ := hrel
    by_cases hlt : i < n
    · have hil : i < sg.length := by rw [← Hn.out]; exact hlt
      obtain ⟨bs, off, rfl, hbs, c1⟩ := (HS1.out.old (hlow.out _ HO.out.below)).int i hil
      have ht := sB_take sg i hil
      have hx := hrm.out _ (List.getElem_mem hil)
      have hln := sB_len (sg.take i) (fun x hx => by have := hrm.out x (List.mem_of_mem_take hx); omega)
      rw [List.length_take] at hln
      obtain ⟨x, hxe⟩ : ∃ x, x = sg[i] := ⟨_, rfl⟩
      rw [← hxe] at c1 ht hx
      obtain ⟨C, hC⟩ : ∃ C, C = B4 ++ sB (sg.take i) := ⟨_, rfl⟩
      have lC : C.length ≤ 5000 := by rw [hC, List.length_append]; omega
      have HN : Hid (B4 ++ sB (sg.take (i + 1)) = C ++ numL x) := Lib.hid (by rw [ht, hC, List.append_assoc])
      rw [← hC] at HO
      have i0' : (0 : Int) ≤ i := by omega
      have i1' : (i : Int) < n := by omega
      clear ht hln hxe hC hbs
      go_wp2_with fail
      refine (out_num W0 b C x wr HO.out (by omega) (by omega) (by omega)).mono ?_
      rintro r w4 ⟨rfl, hO⟩
      have HO5 : Hid (OutSt W0 b (B4 ++ sB (sg.take (i + 1))) w4) := Lib.hid (by rw [HN.out]; exact hO)
      clear hO HO HN
      go_wp2_with fail
      go_roundw
      case rel => exact ⟨i + 1, by omega, by go_num, HO5⟩
      case measure => simp [intOf]; omega
    · have e : i = n := by omega
      have i1' : ¬ (i : Int) < n := by omega
      have HO5 : Hid (OutSt W0 b B5 wr) := Lib.hid (by
        have h := HO.out
        rw [e, Hn.out, List.take_length, ← HB5.out] at h
        exact h)
      clear HO e
      obtain ⟨c0, c1, c2, c3, c4⟩ := hbx wr HO5.out.below
      go_wp2_with fail
      refine (out_num W0 b B5 (m0 : Int) wr HO5.out (by omega) (by omega) (by omega)).mono ?_
      rintro r w5 ⟨rfl, hO⟩
      have HO6 : Hid (OutSt W0 b (B6 ++ eB (ch.take 0)) w5) := Lib.hid (by rw [HB6.out]; simpa [eB] using hO)
      clear hO HO5 c0 c1 c2 c3 c4
      obtain ⟨c0, c1, c2, c3, c4⟩ := hbx w5 HO6.out.below
      go_wp2_with fail
      clear c0 c1 c2 c3 c4
      clear hlt hi i1'
      go_loopw [38] (fun s38 wr => ∃ i : Nat, i ≤ m0 ∧ s38 = .int .i64 (i : Int) ∧ Hid (OutSt W0 b (B6 ++ eB (ch.take i)) wr)) (fun i _ => m0 - (intOf i).toNat)
      case atStart => exact ⟨0, Nat.zero_le _, rfl, HO6⟩
      case round =>
        clear HO6
        obtain ⟨i, hi, rfl, HO⟩ := hrel
        by_cases hlt : i < m0
        · have hil : i < ch.length := by rw [← Hm.out]; exact hlt
          obtain ⟨bs, off, rfl, hbs, c1, c2⟩ := (HS2.out.old (hlow.out _ HO.out.below)).pair i hil
          have ht := eB_take ch i hil
          have hx := hgm.out _ (List.getElem_mem hil)
          have hln := eB_len (ch.take i) (fun x hx => by have := hgm.out x (List.mem_of_mem_take hx); omega)
          rw [List.length_take] at hln
          obtain ⟨m, hme⟩ : ∃ x, x = ch[i].1 := ⟨_, rfl⟩
          obtain ⟨y, hve⟩ : ∃ x, x = ch[i].2 := ⟨_, rfl⟩
          rw [← hme] at c1 ht hx
          rw [← hve] at c2 ht hx
          obtain ⟨C0, hC0⟩ : ∃ C, C = B6 ++ eB (ch.take i) := ⟨_, rfl⟩
          have lC : C0.length ≤ 6000 := by rw [hC0, List.length_append]; omega
          obtain ⟨C1, hC1⟩ : ∃ C, C = C0 ++ numL m := ⟨_, rfl⟩
          have lC1 : C1.length ≤ 6100 := by have := numL_len m (by omega); rw [hC1, List.length_append]; omega
          obtain ⟨C2, hC2⟩ : ∃ C, C = C1 ++ numL y := ⟨_, rfl⟩
          have HN : Hid (B6 ++ eB (ch.take (i + 1)) = C2) := Lib.hid (by rw [ht, hC2, hC1, hC0]; simp [List.append_assoc])
          rw [← hC0] at HO
          have HC1 := Lib.hid hC1
          have HC2 := Lib.hid hC2
          have i0' : (0 : Int) ≤ i := by omega
          have i1' : (i : Int) < m0 := by omega
          clear ht hln hme hve hC0 hC1 hC2 hbs
          go_upto_region 13 with fail
          obtain ⟨k, hk⟩ : ∃ k, k = wr.heap.size := ⟨_, rfl⟩
          have hrw : (wr.alloc (.cells #[.int .i64 m, .int .i64 y] 31)).heap[k]? = some (.cells #[.int .i64 m, .int .i64 y] 31 (0, 0)) := by rw [hk]; exact heap_alloc_new _ _
          rw [← hk]
          have HS3 := HO.out.old ((Below.refl wr.heap.size wr).alloc (Nat.le_refl _) (.cells #[.int .i64 m, .int .i64 y] 31))
          generalize wr.alloc (.cells #[.int .i64 m, .int .i64 y] 31) = WA at hrw HS3 ⊢
          have HG0 : Hid ((fun (j : Nat) (_ : Value) (w' : World) => OutSt W0 b (match j with | 0 => C0 | 1 => C1 | _ => C2) w' ∧ w'.heap[k]? = some (.cells #[.int .i64 m, .int .i64 y] 31 (0, 0))) 0 undef WA.drew) := Lib.hid ⟨HS3.old (Below.refl _ _).drew, ((Below.refl WA.heap.size WA).drew.block k (Array.getElem?_eq_some_iff.1 hrw).1).trans hrw⟩
          clear hrw HS3 HO hk
          refine wp_region_chain (fun t v => match t with
            | 42 => v = .pointer (some ⟨k, 0, none⟩)
            | 43 => v = .int .i64 m
            | 44 => v = .pointer (some ⟨b, 0, none⟩)
            | 45 => v = .pointer (some ⟨k, 1, none⟩)
            | 46 => v = .int .i64 y
            | 47 => v = .pointer (some ⟨b, 0, none⟩)
            | _ => True) (fun (j : Nat) (_ : Value) (w' : World) => OutSt W0 b (match j with | 0 => C0 | 1 => C1 | _ => C2) w' ∧ w'.heap[k]? = some (.cells #[.int .i64 m, .int .i64 y] 31 (0, 0))) [2, 5] 50 (by kernel_rfl) (by decide +kernel) rfl (by decide +kernel) (by decide) (by decide) HG0.out (by
            refine OweAllC.cons (owesC_val 0 (by decide +kernel) (by decide) rfl rfl fun k' a w1 x hk ha hG hV => ?_) ?_
            · skip
              have h7 := ha.outer 7 (by decide +kernel)
              simp only [Act.eval] at h7
              exact ⟨.pointer (some ⟨k, 0, none⟩), wanted_free rfl, by simp [execOp, go_sem, h7], rfl⟩
            refine OweAllC.cons (owesC_val 0 (by decide +kernel) (by decide) rfl rfl fun k' a w1 x hk ha hG hV => ?_) ?_
            · skip
              have h42 : a.tmps.getD 42 undef = .pointer (some ⟨k, 0, none⟩) := hV.get 42 (by decide +kernel)
              have cc : w1.cell? ⟨k, 0, none⟩ = _ := cell_of_row w1 k 0 _ 31 (0, 0) hG.2
              exact ⟨.int .i64 m, wanted_free rfl, by simp [execOp, go_sem, h42, cc], rfl⟩
            refine OweAllC.cons (owesC_call 0 rfl rfl rfl 68 fun a w1 x ha hG hx hV => ?_) ?_
            · skip
              have h3 := ha.outer 3 (by decide +kernel)
              simp only [Act.eval] at h3
              have h43 : a.tmps.getD 43 undef = .int .i64 m := hV.get 43 (by decide +kernel)
              refine ⟨#[.pointer (some ⟨b, 0, none⟩), .int .i64 m], wanted_free rfl, by simp [execOp, resolve, invoke, go_sem, h3, h43], ?_⟩
              refine (out_numW W0 b C0 m w1 hG.1 (by omega) (by omega) (by omega)).mono ?_
              rintro r u2 ⟨rfl, hO, hw⟩; exact ⟨_, rfl, rfl, by rw [HC1.out]; exact hO, hw.row hG.2 (by decide) (by decide) trivial⟩
            refine OweAllC.cons (owesC_val 1 (by decide +kernel) (by decide) rfl rfl fun k' a w1 x hk ha hG hV => ?_) ?_
            · skip
              have h7 := ha.outer 7 (by decide +kernel)
              simp only [Act.eval] at h7
              exact ⟨.pointer (some ⟨k, 1, none⟩), wanted_free rfl, by simp [execOp, go_sem, h7], rfl⟩
            refine OweAllC.cons (owesC_val 1 (by decide +kernel) (by decide) rfl rfl fun k' a w1 x hk ha hG hV => ?_) ?_
            · skip
              have h45 : a.tmps.getD 45 undef = .pointer (some ⟨k, 1, none⟩) := hV.get 45 (by decide +kernel)
              have cc : w1.cell? ⟨k, 1, none⟩ = _ := cell_of_row w1 k 1 _ 31 (0, 0) hG.2
              exact ⟨.int .i64 y, wanted_free rfl, by simp [execOp, go_sem, h45, cc], rfl⟩
            refine OweAllC.cons (owesC_call 1 rfl rfl rfl 68 fun a w1 x ha hG hx hV => ?_) ?_
            · skip
              have h44 : a.tmps.getD 44 undef = .pointer (some ⟨b, 0, none⟩) := hV.get 44 (by decide +kernel)
              have h46 : a.tmps.getD 46 undef = .int .i64 y := hV.get 46 (by decide +kernel)
              refine ⟨#[.pointer (some ⟨b, 0, none⟩), .int .i64 y], wanted_free rfl, by simp [execOp, resolve, invoke, go_sem, h44, h46], ?_⟩
              refine (out_numW W0 b C1 y w1 hG.1 (by omega) (by omega) (by omega)).mono ?_
              rintro r u2 ⟨rfl, hO, hw⟩; exact ⟨_, rfl, rfl, by rw [HC2.out]; exact hO, hw.row hG.2 (by decide) (by decide) trivial⟩
            exact OweAllC.nil
            ) ?_
          intro f wz xz hG hx hv
          first | (rename_i hK; refine hK _ _ ?_; clear hK) | (rename_i hK _; refine hK _ _ ?_; clear hK) | (rename_i hK _ _; refine hK _ _ ?_; clear hK) | (rename_i hK _ _ _; refine hK _ _ ?_; clear hK)
          clear hv hx
          simp only [dsts, puts, List.filterMap_cons, List.filterMap_nil, List.foldl_cons, List.foldl_nil, Act.put, List.setIfInBounds_toArray, List.set_cons_succ, List.set_cons_zero]
          have HO7 : Hid (OutSt W0 b (B6 ++ eB (ch.take (i + 1))) wz) := Lib.hid (by rw [HN.out]; exact hG.1)
          clear HG0 hG HN HC1 HC2
          go_wp2_with fail
          go_roundw
          case rel => exact ⟨i + 1, by omega, by go_num, HO7⟩
          case measure => simp [intOf]; omega
        · have e : i = m0 := by omega
          have i1' : ¬ (i : Int) < m0 := by omega
          have HO7 : Hid (OutSt W0 b F wr) := Lib.hid (by
            have h := HO.out
            rw [e, Hm.out, List.take_length, ← HF.out] at h
            exact h)
          clear HO e
          go_wp2_with fail
          refine (out_bytes W0 b F wr HO7.out).mono ?_
          rintro r w' ⟨rfl, rfl⟩
          go_wp2_with fail
          go_ret
          exact ⟨rfl, hlow.out _ HO7.out.below⟩
end Go.Proofs.YtjjkobbajbbgdaaGreatDoor

namespace Go.Proofs.YtjjkobbajbbgdaaGreatDoor
open Go.RowKit

set_option maxRecDepth 20000 in
set_option maxHeartbeats 4000000 in
theorem kid_any (c : Ct) (p q : Option Addr) (cp cq : Nat) (w : World) (hL : CtAt w c p q) (ok : CtOk c) (hT : TabAt w) :
    Calls Tryz.prog 43 #[.agg (ctc c p q cp cq)] w fun r w' => r = .returned (.agg (vals (shaB (ctB c))).toArray) ∧ Below w.heap.size w w' := by
  have hlen := ctB_len ok
  have hby := Lib.hid (fun w' (hb : Below w.heap.size w w') => kbytes_any c p q cp cq w' (hL.old hb) ok)
  obtain ⟨C, hC⟩ : ∃ C, C = ctc c p q cp cq := ⟨_, rfl⟩
  have hCs : C.size = 5 := by rw [hC]; rfl
  rw [← hC] at hby ⊢
  obtain ⟨S, hS⟩ : ∃ S, S = ctB c := ⟨_, rfl⟩
  rw [← hS] at hby hlen ⊢
  have hof := Lib.hid (fun (w : World) hT => dofB (.slice (some ⟨w.heap.size, 0, none⟩) 1 1) [S] (w.alloc (.cells #[.string ⟨S.toArray⟩] 9)) (StrsAt.made w 9 [S]) (by simp; omega) (by simp) hT)
  rw [show ([S] : List (List UInt8)).flatten = S from by simp] at hof
  have hZl := shaB_len S
  generalize shaB S = Z at hof hZl ⊢
  have hci : (Tryz.prog.info? 47).map (·.size) = some C.size := by rw [hCs]; kernel_rfl
  have hz := zid_run
  have q2 := zid_len.trans (id_size hZl).symm
  have q3 := id_info hZl
  have q4 := id_one Z
  generalize (vals zid).toArray = ZA at hz q2
  obtain ⟨Y, hY⟩ : ∃ Y, Y = (vals Z).toArray := ⟨_, rfl⟩
  rw [← hY] at q2 q3 q4 hof ⊢
  obtain ⟨W0, hW0⟩ : ∃ W0, W0 = (w.alloc (.cells C 47)).alloc (.cells ZA 36) := ⟨_, rfl⟩
  have hb0 : Below w.heap.size w W0 := by rw [hW0]; exact ((Below.refl _ w).alloc (Nat.le_refl _) _).alloc (by simp) _
  have hbox : W0.heap[w.heap.size]? = some (.cells C 47 (0, 0)) := by rw [hW0, Below.heap_alloc _ _ _ (by simp)]; exact heap_alloc_new w _
  have hres : W0.heap[w.heap.size + 1]? = some (.cells ZA 36 (0, 0)) := by rw [hW0]; have := heap_alloc_new (w.alloc (.cells C 47)) (.cells ZA 36); simpa using this
  have HW0 := Lib.hid hW0
  have Hres := Lib.hid hres
  have Hb0 := Lib.hid hb0
  have HT := Lib.hid hT
  clear hY hZl hS hC hCs hlen hW0 hres hb0 hT hL
  go_enter Tryz.func43, Tryz.ntmps43
  go_wp2_with (first | (rw [← HW0.out]; refine wpList_load_row rfl 47 (.tmp 1) rfl w.heap.size rfl 47 C (0, 0) _ hbox Tryz.underlying47 rfl hci ?_) | fail)
  refine (hby.out W0 Hb0.out).mono ?_
  rintro r w1 ⟨rfl, hb1⟩
  have HB1 := Lib.hid (Hb0.out.trans (hb1.mono Hb0.out.size))
  have Hres1 := Lib.hid ((hb1.block _ (Array.getElem?_eq_some_iff.1 Hres.out).1).trans Hres.out)
  have hT1 := Lib.hid (HT.out.old (HB1.out.trans (((Below.refl _ w1).alloc (Nat.le_refl _) (.cells #[.string ⟨S.toArray⟩] 9)).mono HB1.out.size)))
  clear hb1 hbox
  go_wp2_with fail
  refine (hof.out w1 hT1.out).mono ?_
  rintro r w2 ⟨rfl, hb2⟩
  have hb2' : Below w1.heap.size w1 w2 := ((Below.refl _ w1).alloc (Nat.le_refl _) (.cells #[.string ⟨S.toArray⟩] 9)).trans (hb2.mono (by simp))
  have hres2 : w2.heap[w.heap.size + 1]? = some (.cells ZA 36 (0, 0)) := (hb2'.block _ (Array.getElem?_eq_some_iff.1 Hres1.out).1).trans Hres1.out
  have hB2 := HB1.out.trans (hb2'.mono HB1.out.size)
  have L0 := Lib.hid (setRow_heap w2 (w.heap.size + 1) ZA Y 36 (0, 0) hres2)
  have LB := Lib.hid (hB2.trans (((Mod.refl (fun _ => False) w2).setRow (g := w.heap.size + 1) Y).to_below (by have := hB2.size; exact this) (by rintro k hk (h | h) <;> first | exact h | omega)))
  clear hb2 hb2' hB2
  go_wp2_with (refine wpList_store_row rfl rfl 36 (.tmp 2) (.tmp 6) rfl (w.heap.size + 1) rfl 36 ZA Y rfl hres2 q2 q3 q4 ?_)
  exact bodyPost_ret (v := .agg Y) (results_cell_row Tryz.results43 _ _ (w.heap.size + 1) 36 Y (0, 0) _ rfl L0.out Tryz.underlying36 rfl q3) rfl ⟨rfl, LB.out⟩

end Go.Proofs.YtjjkobbajbbgdaaGreatDoor

namespace Go.Proofs.YtjjkobbajbbgdaaGreatDoor
open Go.RowKit

theorem ints_of {w : World} {ao : Option Addr} {S : List Int} (h : Rd encI w ao S) : IntsAt w ao S := fun j hj => h.int j hj

set_option maxRecDepth 20000 in
set_option maxHeartbeats 8000000 in
theorem knext_any (c : Ct) (p q : Option Addr) (cp cq : Nat) (P : List Nat) (w : World) (hP : IsTab P) (hS : CtAt w c p q) (l1 : c.sg.length ≤ 1000000) (l2 : c.ch.length ≤ 1000000) (hq : 2 * tsum P < 3 * tsum (sig P c.sg)) :
    Calls Tryz.prog 47 #[.agg (ctc c p q cp cq), tval P] w fun r w' => r = .returned (.tuple #[tval (chgT P c.ch), .int .i64 (chgE P c.ch)]) ∧ Below w.heap.size w w' := by
  obtain ⟨inst, base, fin, sg, ch⟩ := c
  obtain ⟨hS1, hS2⟩ := hS
  simp only at *
  have htab := chgT_tab (E := ch) hP
  have hqu : Hid (∀ w, Rd encI w p sg → Calls Tryz.prog 77 #[tval P, .slice p sg.length cp] w fun r w' => r = .returned (.bool true) ∧ Below w.heap.size w w') := Lib.hid (fun w h => by
    have := quorum_any P p cp sg w hP (ints_of h) l1
    rw [decide_eq_true hq] at this; exact this)
  have hch : Hid (∀ w, Rd encP w q ch → Calls Tryz.prog 74 #[tval P, .slice q ch.length cq] w fun r w' => r = .returned (.tuple #[tval (chgT P ch), .int .i64 (chgE P ch)]) ∧ Below w.heap.size w w') := Lib.hid (fun w h => tchange_any P q cq ch w hP h l2)
  unfold ctc
  simp only
  generalize chgE P ch = RE at *
  unfold tval at *
  obtain ⟨A, hA⟩ : ∃ A, A = (nums .i64 P).toArray := ⟨_, rfl⟩
  obtain ⟨AQ, hAQ⟩ : ∃ AQ, AQ = (nums .i64 (chgT P ch)).toArray := ⟨_, rfl⟩
  have hAs := hP.row hA
  have hQs : AQ.size = 64 := htab.row hAQ
  have h1Q := tab_one hAQ
  obtain ⟨Z, hZ⟩ : ∃ Z, Z = (nums .i64 (List.replicate 64 0)).toArray := ⟨_, rfl⟩
  have hz : ∀ w : World, (zeroValue 26).run Tryz.prog w = .ok (.agg Z) w := by rw [hZ]; exact fun _ => by kernel_rfl
  have hZs : Z.size = 64 := by rw [hZ]; simp [nums_len]
  rw [← hA] at hqu hch ⊢
  rw [← hAQ] at hch ⊢
  have HS1 := Lib.hid hS1
  have HS2 := Lib.hid hS2
  generalize sg.length = n at *
  generalize ch.length = m at *
  obtain ⟨W0, hW0⟩ : ∃ W, W = ((w.alloc (.cells #[.int .i64 inst, .string ⟨base.toArray⟩, .string ⟨fin.toArray⟩, .slice p n cp, .slice q m cq] 47)).alloc (.cells A 26)).alloc (.cells Z 26) := ⟨_, rfl⟩
  have hB : Hid (Below w.heap.size w W0) := Lib.hid (by rw [hW0]; exact (((Below.refl _ _).alloc (Nat.le_refl _) _).alloc (by simp) _).alloc (by simp; omega) _)
  have b0 : W0.heap[w.heap.size]? = some (.cells #[.int .i64 inst, .string ⟨base.toArray⟩, .string ⟨fin.toArray⟩, .slice p n cp, .slice q m cq] 47 (0, 0)) := by
    rw [hW0, Below.heap_alloc _ _ _ (by simp; omega), Below.heap_alloc _ _ _ (by simp)]; exact heap_alloc_new _ _
  have b1 : W0.heap[w.heap.size + 1]? = some (.cells A 26 (0, 0)) := by
    rw [hW0, Below.heap_alloc _ _ _ (by simp)]; have := heap_alloc_new (w.alloc (.cells #[.int .i64 inst, .string ⟨base.toArray⟩, .string ⟨fin.toArray⟩, .slice p n cp, .slice q m cq] 47)) (.cells A 26); simpa using this
  have b2 : W0.heap[w.heap.size + 2]? = some (.cells Z 26 (0, 0)) := by
    rw [hW0]; have := heap_alloc_new ((w.alloc (.cells #[.int .i64 inst, .string ⟨base.toArray⟩, .string ⟨fin.toArray⟩, .slice p n cp, .slice q m cq] 47)).alloc (.cells A 26)) (.cells Z 26); simpa using this
  have c3 : W0.cell? ⟨w.heap.size, 3, none⟩ = some (.slice p n cp) := cell_of_row W0 _ 3 _ 47 (0, 0) b0
  have HB0 := Lib.hid b0
  have HB1 := Lib.hid b1
  have HB2 := Lib.hid b2
  have HW := Lib.hid hW0
  clear hW0 b0 b2 hA hAQ hZ htab hq hP hS1 hS2
  have q3 : (Tryz.prog.info? 26).map (·.size) = some A.size := by rw [hAs]; kernel_rfl
  have q4 : (Tryz.prog.info? 26).map (·.size) = some AQ.size := by rw [hQs]; kernel_rfl
  go_enter Tryz.func47, Tryz.ntmps47
  go_wp2_with (rw [← HW.out]; refine wpList_load_row rfl 26 (.tmp 3) rfl (w.heap.size + 1) rfl 26 A (0, 0) _ b1 Tryz.underlying26 rfl q3 ?_)
  refine (hqu.out W0 (HS1.out.old hB.out)).mono ?_
  rintro r w1 ⟨rfl, hb1⟩
  have d1 := (hb1.block _ (Array.getElem?_eq_some_iff.1 HB1.out).1).trans HB1.out
  have d0 := (hb1.block _ (Array.getElem?_eq_some_iff.1 HB0.out).1).trans HB0.out
  have d2 := (hb1.block _ (Array.getElem?_eq_some_iff.1 HB2.out).1).trans HB2.out
  have c4 : w1.cell? ⟨w.heap.size, 4, none⟩ = some (.slice q m cq) := cell_of_row w1 _ 4 _ 47 (0, 0) d0
  have HB3 := Lib.hid (hB.out.trans (hb1.mono hB.out.size))
  have HD2 := Lib.hid d2
  clear hb1 d0 d2 c3 b1
  go_wp2_with (refine wpList_load_row rfl 26 (.tmp 3) rfl (w.heap.size + 1) rfl 26 A (0, 0) _ d1 Tryz.underlying26 rfl q3 ?_)
  refine (hch.out w1 (HS2.out.old HB3.out)).mono ?_
  rintro r w2 ⟨rfl, hb2⟩
  have d2 := (hb2.block _ (Array.getElem?_eq_some_iff.1 HD2.out).1).trans HD2.out
  have HB4 := Lib.hid (HB3.out.trans (hb2.mono HB3.out.size))
  have L0 := Lib.hid (tab_res (setRow_heap w2 (w.heap.size + 2) Z AQ 26 (0, 0) d2) hQs)
  have LB : Hid (Below w.heap.size w (w2.setRow (w.heap.size + 2) AQ)) := Lib.hid (((Mod.of_below HB4.out).setRow AQ).to_below (Nat.le_refl _) (by rintro k hk (h | h) <;> omega))
  have q5 := h1Q.out
  have q6 : Z.size = AQ.size := by rw [hZs, hQs]
  clear hb2 c4 d1
  go_wp2_with (refine wpList_store_row rfl rfl 26 (.tmp 4) (.tmp 16) rfl (w.heap.size + 2) rfl 26 Z AQ rfl d2 q6 q4 q5 ?_)
  exact bodyPost_ret (v := .tuple #[.agg AQ, .int .i64 RE]) (by simp [results, Tryz.results47, asAddr, L0.out]) rfl ⟨rfl, LB.out⟩
end Go.Proofs.YtjjkobbajbbgdaaGreatDoor

namespace Go.Proofs.YtjjkobbajbbgdaaGreatDoor
open Go.RowKit Go.ChangeMaps Go.WideShapes

/-- Whatever an element is, it reads as itself. -/
abbrev RVE : Value → Option (DataW Value × List MemPlace) := fun v => some (.held v, [])
/-- How keys read. -/
structure KeyE (α : Type) where
  lit : α → Lit
  inj : ∀ {a b : α}, lit a = lit b → a = b
  isK : ∀ a : α, WideAt.IsKeyLit (lit a)
section
variable {α : Type}
def KeyE.ent (E : KeyE α) (x : α × Value) : Lit × DataW Value := (E.lit x.1, .held x.2)
def KeyE.es (E : KeyE α) (L : List (α × Value)) : List (Lit × DataW Value) := (L.map E.ent).foldr DataW.insert []
def KeyE.d (E : KeyE α) (L : List (α × Value)) : DataW Value := .map (E.es L)
def ApartE (L : List (α × Value)) : Prop := L.Pairwise fun x y => x.1 ≠ y.1
theorem ApartE.perm {L L' : List (α × Value)} (h : ApartE L) (hp : L.Perm L') : ApartE L' := (hp.pairwise_iff (fun {_ _} h => Ne.symm h)).1 h
/-- Block b is a map of just these entries. -/
structure MapK (P : Program) (K : TypeId) (E : KeyE α) (w : World) (b : Nat) (L : List (α × Value)) : Prop where
  ap : ApartE L
  ky : ∀ x ∈ L, Maps.KeysOf P K (E.lit x.1)
  own : w.ownsMap P K RVE b L.length (E.d L)
variable {P : Program} {K : TypeId} {E : KeyE α} {w w' : World} {b : Nat} {L : List (α × Value)}
theorem keysE (h : ∀ x ∈ L, Maps.KeysOf P K (E.lit x.1)) : Maps.Keys (Maps.KeysOf P K) (L.map E.ent) := by
  intro p hp; obtain ⟨x, hx, rfl⟩ := List.mem_map.1 hp; exact h x hx
theorem apartE_ent (h : ApartE L) : (L.map E.ent).Pairwise (fun p q => p.1 ≠ q.1) := by
  rw [List.pairwise_map]
  exact h.imp (fun {a b} hn e => hn (E.inj e))
theorem esE_perm (kd : Maps.Keyed P K) {L' : List (α × Value)} (hk : ∀ x ∈ L, Maps.KeysOf P K (E.lit x.1)) (h : ApartE L) (hp : L.Perm L') : E.es L = E.es L' := by
  refine eq_of_perm_sorted ?_ (Maps.sorted_sorted kd.one _ (keysE hk) (apartE_ent h)) (Maps.sorted_sorted kd.one _ (keysE fun x hx => hk x (hp.mem_iff.2 hx)) (apartE_ent (h.perm hp)))
  exact (sorted_perm _).trans ((hp.map E.ent).trans (sorted_perm _).symm)
theorem anyE (f : Lit × DataW Value → Bool) (L : List (α × Value)) : (E.es L).any f = L.any fun x => f (E.ent x) := by
  induction L with
  | nil => rfl
  | cons x l ih => show (DataW.insert (E.ent x) (E.es l)).any f = _; rw [Maps.any_insert, ih]; rfl
theorem size_dE (L : List (α × Value)) : Maps.size (E.d L) = L.length := by
  show (E.es L).length = _
  unfold KeyE.es
  rw [length_sorted, List.length_map]
theorem ownsMapE_tight {n : Nat} (h : w.ownsMap P K RVE b n (E.d L)) : w.ownsMap P K RVE b L.length (E.d L) := by
  obtain ⟨es, clock, hb, F, hs, hD⟩ := h
  refine ⟨es, clock, hb, F, ?_, hD⟩
  have := congrArg Maps.size hD
  rw [size_dE] at this
  simp [Maps.size, length_sorted] at this
  omega
theorem MapK.lt (h : MapK P K E w b L) : b < w.heap.size := h.own.lt
theorem MapK.perm (h : MapK P K E w b L) (kd : Maps.Keyed P K) {L' : List (α × Value)} (hp : L.Perm L') : MapK P K E w b L' :=
  ⟨h.ap.perm hp, fun x hx => h.ky x (hp.mem_iff.2 hx), by have := h.own; unfold KeyE.d at this ⊢; rw [← esE_perm kd h.ky h.ap hp, ← hp.length_eq]; exact this⟩
theorem MapK.same (h : MapK P K E w b L) (hb : w'.heap[b]? = w.heap[b]?) : MapK P K E w' b L := by
  refine ⟨h.ap, h.ky, ?_⟩
  obtain ⟨es, clock, hh, r⟩ := h.own
  exact ⟨es, clock, hb.trans hh, r⟩
theorem MapK.kept {S : Nat → Prop} (h : MapK P K E w b L) (hm : Mod S w w') (hb : ¬ S b) : MapK P K E w' b L := h.same (hm.block b h.lt hb)
theorem MapK.old (h : MapK P K E w b L) (hb : Below w.heap.size w w') : MapK P K E w' b L := h.same (hb.block b h.lt)
theorem MapK.notCells (h : MapK P K E w b L) {g : Nat} {cs : Array Value} {T : TypeId} {fr : Nat × Nat} (hg : w.heap[g]? = some (.cells cs T fr)) : g ≠ b := by
  rintro rfl
  obtain ⟨es, clock, hh, _⟩ := h.own
  rw [hh] at hg; cases hg
theorem MapK.made (P : Program) (K : TypeId) (E : KeyE α) (w : World) : MapK P K E (w.alloc (.map #[] 0)) w.heap.size [] :=
  ⟨List.Pairwise.nil, (fun _ h => by cases h), World.ownsMap_made w P K RVE⟩
theorem Mod.turnedE (h : w.mapTurned w' b) : Mod (fun k => k = b) w w' := by
  have hg := h.grown
  exact ⟨hg.os, hg.tape, hg.output, hg.size, fun k hk hn => hg.block k hk (fun e => hn (Option.some.inj e))⟩
variable {t e : TypeId}
theorem MapK.len (h : MapK P K E w b L) (ht : P.underlying t = some (.map K e)) (ty : TypeId) : (Builtin.len_ #[t] ty #[.map (some b)]).run P w = .ok (.int .i64 (L.length : Nat)) w := by
  rw [h.own.len ht ty, size_dE]
end
section
variable {α : Type} [DecidableEq α]
theorem KeyE.same (E : KeyE α) (a b : α) : (E.lit a).sameKey (E.lit b) = decide (a = b) := by
  by_cases h : a = b
  · subst h; rw [WideAt.sameKey_self (E.isK a)]; simp
  · rw [Maps.sameKey_ne (fun e => h (E.inj e))]; simp [h]
/-- Without a key. -/
def woE (k : α) (L : List (α × Value)) : List (α × Value) := L.filter fun x => decide (x.1 ≠ k)
def hasE (k : α) (L : List (α × Value)) : Bool := L.any fun x => decide (x.1 = k)
def getE (k : α) (L : List (α × Value)) (z : Value) : Value := match L.find? fun x => decide (x.1 = k) with | some x => x.2 | none => z
theorem ApartE.wo {L : List (α × Value)} (h : ApartE L) (k : α) : ApartE (woE k L) := h.filter _
theorem ApartE.cons {L : List (α × Value)} (h : ApartE L) (k : α) (v : Value) : ApartE ((k, v) :: woE k L) :=
  List.pairwise_cons.2 ⟨fun y hy => by have := (List.mem_filter.1 hy).2; simp at this; exact fun e => this e.symm, h.wo k⟩
theorem hasE_iff {k : α} {L : List (α × Value)} : hasE k L = true ↔ k ∈ L.map (·.1) := by
  unfold hasE
  rw [List.any_eq_true, List.mem_map]
  constructor
  · rintro ⟨x, hx, h⟩; exact ⟨x, hx, by simpa using h⟩
  · rintro ⟨x, hx, h⟩; exact ⟨x, hx, by simpa using h⟩
theorem getE_no {k : α} {L : List (α × Value)} {z : Value} (h : hasE k L = false) : getE k L z = z := by
  unfold getE
  rw [List.find?_eq_none.2 (fun x hx e => by
    unfold hasE at h
    rw [List.any_eq_false] at h
    exact h x hx e)]
theorem getE_mem {k : α} {L : List (α × Value)} (hL : ApartE L) {v z : Value} (h : (k, v) ∈ L) : getE k L z = v := by
  unfold getE
  induction L with
  | nil => cases h
  | cons y l ih =>
    obtain ⟨h1, h2⟩ := List.pairwise_cons.1 hL
    by_cases e : y.1 = k
    · rw [List.find?_cons_of_pos (by simpa using e)]
      rcases List.mem_cons.1 h with rfl | h
      · rfl
      · exact absurd e (h1 _ h)
    · rw [List.find?_cons_of_neg (by simpa using e)]
      rcases List.mem_cons.1 h with rfl | h
      · exact absurd rfl e
      · exact ih h2 h

variable {P : Program} {K : TypeId} {E : KeyE α} {w w' : World} {b : Nat} {L : List (α × Value)}
theorem notKeyE (k : α) : (L.map E.ent).filter (notKey (E.lit k)) = (woE k L).map E.ent := by
  rw [List.filter_map]
  congr 1
  unfold woE
  congr 1
  funext x
  show (!(E.lit x.1).sameKey (E.lit k)) = _
  rw [E.same]; simp
theorem has_dE (L : List (α × Value)) (k : α) : Maps.has (E.d L) (E.lit k) = hasE k L := by
  show (E.es L).any _ = _
  rw [anyE]
  unfold hasE
  congr 1
  funext x
  exact E.same x.1 k
theorem findE (k : α) : ∀ L : List (α × Value), ApartE L → (E.es L).find? (fun p => p.1.sameKey (E.lit k)) = (L.find? fun x => decide (x.1 = k)).map E.ent
  | [], _ => rfl
  | x :: l, h => by
    obtain ⟨h1, h2⟩ := List.pairwise_cons.1 h
    show (DataW.insert (E.ent x) (E.es l)).find? _ = _
    have hs : ((E.ent x).1).sameKey (E.lit k) = decide (x.1 = k) := E.same x.1 k
    by_cases hk : x.1 = k
    · rw [Maps.find_insert_hit (by rw [hs]; simp [hk])]
      · rw [List.find?_cons_of_pos (by simpa using hk)]; rfl
      · intro p hp
        obtain ⟨y, hy, rfl⟩ := List.mem_map.1 ((sorted_perm _).mem_iff.1 hp)
        have := h1 y hy
        rw [hk] at this
        show (E.lit y.1).sameKey (E.lit k) = false
        rw [E.same]; simp; exact fun e => this e.symm
    · rw [Maps.find_insert_miss (by rw [hs]; simp [hk]), findE k l h2, List.find?_cons_of_neg (by simpa using hk)]
theorem atKey_dE (h : ApartE L) (k : α) (z : Value) : (E.d L).atKey (E.lit k) (.held z) = .held (getE k L z) := by
  unfold DataW.atKey KeyE.d getE
  simp only [findE k L h]
  cases L.find? fun x => decide (x.1 = k) <;> rfl
variable {t e : TypeId} {key : Value} {k : α}
theorem MapK.look (h : MapK P K E w b L) (kd : Maps.Keyed P K) (ht : P.underlying t = some (.map K e)) {z : Value} (hz : (zeroValue e).run P w = .ok z w) (hk : keyOf P K key = some (E.lit k)) :
    (Instr.lookup t (.map (some b)) key false).run P w = .ok (getE k L z) w := by
  obtain ⟨v, ps, hr, hv⟩ := h.own.lookup kd ht hz (zd := .held z) (zp := []) rfl hk
  rw [atKey_dE h.ap] at hv
  simp only [Option.some.injEq, Prod.mk.injEq, DataW.held.injEq] at hv
  rw [hr, hv.1]
theorem MapK.look_ok (h : MapK P K E w b L) (kd : Maps.Keyed P K) (ht : P.underlying t = some (.map K e)) {z : Value} (hz : (zeroValue e).run P w = .ok z w) (hk : keyOf P K key = some (E.lit k)) :
    (Instr.lookup t (.map (some b)) key true).run P w = .ok (.tuple #[getE k L z, .bool (hasE k L)]) w := by
  obtain ⟨v, ps, hr, hv⟩ := h.own.look_ok kd ht hz (zd := .held z) (zp := []) rfl hk
  rw [atKey_dE h.ap] at hv
  simp only [Option.some.injEq, Prod.mk.injEq, DataW.held.injEq] at hv
  rw [hr, hv.1, has_dE]
theorem put_dE (kd : Maps.Keyed P K) (hy : ∀ x ∈ L, Maps.KeysOf P K (E.lit x.1)) (h : ApartE L) (hk : Maps.KeysOf P K (E.lit k)) (v : Value) : (E.d L).put (E.lit k) (.held v) = E.d ((k, v) :: woE k L) := by
  have := (Maps.sorted_put kd.one (k := E.lit k) (d := .held v) (E' := ((k, v) :: woE k L).map E.ent) hk (keysE hy) (apartE_ent h) (by rw [notKeyE]; exact .refl _))
  unfold KeyE.d KeyE.es
  rw [DataW.put_eq, this]
theorem MapK.store (h : MapK P K E w b L) (kd : Maps.Keyed P K) (ht : P.underlying t = some (.map K e)) (hn : L.length < maxLen) (hk : keyOf P K key = some (E.lit k)) (v : Value) :
    ∃ w', (Instr.mapUpdate t (.map (some b)) key v).run P w = .ok () w' ∧ MapK P K E w' b ((k, v) :: woE k L) ∧ Mod (fun i => i = b) w w' := by
  obtain ⟨w', hr, ho, hm⟩ := h.own.store kd ht hn hk (val := v) (d := .held v) (ps := []) rfl
  rw [put_dE kd h.ky h.ap ⟨_, hk⟩ v] at ho
  refine ⟨w', hr, ⟨h.ap.cons k v, ?_, ownsMapE_tight ho⟩, Mod.turnedE hm⟩
  intro x hx
  rcases List.mem_cons.1 hx with rfl | hx
  · exact ⟨_, hk⟩
  · exact h.ky x (List.mem_filter.1 hx).1
/-- An entry is looked up, or made, then stored. -/
theorem MapK.entry (h : MapK P K E w b L) (kd : Maps.Keyed P K) (ht : P.underlying t = some (.map K e)) (hn : L.length < maxLen) {z : Value} (hz : ∀ u : World, (zeroValue e).run P u = .ok z u) (hk : keyOf P K key = some (E.lit k)) :
    ∃ (st : Nat) (w1 : World), (Instr.mapEntry t (.map (some b)) key).run P w = .ok (.tuple #[getE k L z, goInt st]) w1 ∧ Mod (fun i => i = b) w w1 ∧ (∀ w2 : World, w2.heap[b]? = w1.heap[b]? → (Instr.lookup t (.map (some b)) key false).run P w2 = .ok (getE k L z) w2) ∧
      ∀ (w2 : World) (v : Value), w2.heap[b]? = w1.heap[b]? → ∃ w', (Instr.entryStore t (.map (some b)) (goInt st) v).run P w2 = .ok () w' ∧ MapK P K E w' b ((k, v) :: woE k L) ∧ Mod (fun i => i = b) w2 w' := by
  have hlk := h.look kd ht (hz w) hk
  have hst := fun v => h.store kd ht hn hk v
  have hbl := h.lt
  obtain ⟨es, clock, hb, F, _, _⟩ := h.own
  obtain ⟨s1, s2, _⟩ := F.stamped
  have hmod : ∀ o : Obj, Mod (fun i => i = b) w (setBlock w b o) := fun o => ⟨rfl, rfl, rfl, by simp [setBlock], fun i _ hi => heap_setBlock_other hb _ hi⟩
  have fin : ∀ (es1 : Array MapEntry) (c1 : Nat) (f : Value → Obj) (st : Nat), (∀ v, (Instr.mapUpdate t (.map (some b)) key v).run P w = .ok () (setBlock w b (f v))) → (∀ (w2 : World) (v : Value), w2.heap[b]? = some (.map es1 c1) → (Instr.entryStore t (.map (some b)) (goInt st) v).run P w2 = .ok () (setBlock w2 b (f v))) →
      ∀ (w2 : World) (v : Value), w2.heap[b]? = (setBlock w b (.map es1 c1)).heap[b]? → ∃ w', (Instr.entryStore t (.map (some b)) (goInt st) v).run P w2 = .ok () w' ∧ MapK P K E w' b ((k, v) :: woE k L) ∧ Mod (fun i => i = b) w2 w' := by
    intro es1 c1 f st h1 h2 w2 v h3
    rw [heap_setBlock_same hb] at h3
    refine ⟨_, h2 w2 v h3, ?_, ⟨rfl, rfl, rfl, by simp [setBlock], fun i _ hi => heap_setBlock_other h3 _ hi⟩⟩
    obtain ⟨w', hr, hm, _⟩ := hst v
    rw [h1 v] at hr
    cases hr
    exact hm.same ((heap_setBlock_same h3 _).trans (heap_setBlock_same hb _).symm)
  rcases kd.find w hk es.toList F.keys with ⟨h1, h2⟩ | ⟨j, e0, h1, h2, h3⟩
  · have ez : getE k L z = z := by
      have : (Instr.lookup t (.map (some b)) key false).run P w = .ok z w := by simp [Instr.lookup, run_underlying ht, MapKept.run_getObj_map hb, kd.check w _ hk, h1, hz, Result.andThen]
      rw [hlk] at this
      simp only [Result.ok.injEq, and_true] at this; exact this
    rw [ez]
    refine ⟨clock, _, by simp [Instr.mapEntry, run_underlying ht, MapKept.run_getObj_map hb, kd.check w false hk, h1, hz, MapKept.run_setObj_map _ hb, Result.andThen]; rfl, hmod _, fun w2 hw2 => ?_, fin (es.push ⟨key, z, clock⟩) (clock + 1) (fun v => .map (es.push ⟨key, v, clock⟩) (clock + 1)) clock (fun v => by simp [Instr.mapUpdate, run_underlying ht, MapKept.run_getObj_map hb, kd.check w false hk, h1, MapKept.run_setObj_map _ hb, Result.andThen, setBlock]) (fun w2 v hw2 => ?_)⟩
    · rw [heap_setBlock_same hb] at hw2
      rcases kd.find w2 hk (es.push ⟨key, z, clock⟩).toList (fun e he => by
        rw [Array.toList_push, List.mem_append, List.mem_singleton] at he
        rcases he with he | rfl
        · exact F.keys e he
        · exact ⟨_, hk⟩) with ⟨_, q2⟩ | ⟨j, e0, q1, q2, q3⟩
      · exact absurd rfl (q2 ⟨key, z, clock⟩ (by simp))
      · have hv : e0.val = z := by
          have he := List.mem_of_getElem? q2
          rw [Array.toList_push, List.mem_append, List.mem_singleton] at he
          rcases he with he | rfl
          · exact absurd q3 (h2 e0 he)
          · rfl
        simp only [Array.toList_push] at q1
        simp [Instr.lookup, run_underlying ht, MapKept.run_getObj_map hw2, kd.check w2 _ hk, q1, hv, Result.andThen]
    have hx : (es.push ⟨key, z, clock⟩).findIdx? (fun e => ((e.born : Nat) : Int) == ((clock : Nat) : Int)) = some es.size := by
      have hnd : ((es.push ⟨key, z, clock⟩).toList.map (·.born)).Nodup := by
        rw [Array.toList_push, List.map_append]
        refine List.nodup_append.2 ⟨s2, by simp, fun a ha c hc e1 => ?_⟩
        obtain ⟨x, hx, rfl⟩ := List.mem_map.1 ha
        have := s1 x hx
        simp only [List.map_cons, List.map_nil, List.mem_singleton] at hc
        omega
      rw [WideElems.findIdx_arr]
      exact WideElems.findIdx_born (e0 := ⟨key, z, clock⟩) hnd (by simp)
    have hm : (es.push ⟨key, z, clock⟩).modify es.size (fun e => { e with val := v }) = es.push ⟨key, v, clock⟩ := by
      apply Array.ext'
      rw [Array.toList_modify, Array.toList_push, Array.toList_push, ← Array.length_toList, WideElems.modify_last]
    simp [Instr.entryStore, MapKept.run_getObj_map hw2, asInt, asIntOf, goInt, hx, hm, MapKept.run_setObj_map _ hw2, Result.andThen, setBlock]
  · have hj : es[j]? = some e0 := by simpa using h2
    have ez : getE k L z = e0.val := by
      have : (Instr.lookup t (.map (some b)) key false).run P w = .ok e0.val w := by simp [Instr.lookup, run_underlying ht, MapKept.run_getObj_map hb, kd.check w _ hk, h1, Result.andThen]
      rw [hlk] at this
      simp only [Result.ok.injEq, and_true] at this; exact this
    have e1 : ({ e0 with key := key } : MapEntry) = e0 := by rw [← h3]
    have hsame : es.modify j (fun e => { e with key := key }) = es := by
      apply Array.ext'
      rw [Array.toList_modify, modify_eq_set _ _ _ _ h2, e1]
      exact WideElems.set_self _ _ _ h2
    rw [ez]
    refine ⟨e0.born, _, by simp [Instr.mapEntry, run_underlying ht, MapKept.run_getObj_map hb, kd.check w false hk, h1, hj, h3, kd.stays w hk, hsame, MapKept.run_setObj_map _ hb, Result.andThen]; rfl, hmod _, fun w2 hw2 => ?_, fin es clock (fun v => .map (es.modify j fun e' => { e' with key := key, val := v }) clock) e0.born (fun v => by simp [Instr.mapUpdate, run_underlying ht, MapKept.run_getObj_map hb, kd.check w false hk, h1, hj, h3, kd.stays w hk, MapKept.run_setObj_map _ hb, Result.andThen, setBlock]) (fun w2 v hw2 => ?_)⟩
    · rw [heap_setBlock_same hb] at hw2
      have := (h.same (w' := w2) (hw2.trans hb.symm)).look kd ht (hz w2) hk
      rw [ez] at this
      exact this
    have hx : es.findIdx? (fun e => ((e.born : Nat) : Int) == ((e0.born : Nat) : Int)) = some j := by
      rw [WideElems.findIdx_arr]
      exact WideElems.findIdx_born s2 h2
    have hm : es.modify j (fun e => { e with val := v }) = es.modify j (fun e' => { e' with key := key, val := v }) := by
      apply Array.ext'
      rw [Array.toList_modify, Array.toList_modify, modify_eq_set _ _ _ _ h2, modify_eq_set _ _ _ _ h2, ← h3]
    simp [Instr.entryStore, MapKept.run_getObj_map hw2, asInt, asIntOf, goInt, hx, hm, MapKept.run_setObj_map _ hw2, Result.andThen, setBlock]
/-- How many there are without repeats. -/
structure Cnt (A : List α) (M : List (α × Value)) : Prop where
  mem : ∀ a, hasE a M = true ↔ a ∈ A
  le : M.length ≤ A.length
  all : M.length = A.length ↔ A.Nodup
theorem Cnt.zero : Cnt ([] : List α) [] := ⟨fun a => by simp [hasE], Nat.le_refl _, by simp⟩
theorem woE_no {k : α} {M : List (α × Value)} (h : hasE k M = false) : woE k M = M := by
  unfold woE
  refine List.filter_eq_self.2 (fun x hx => ?_)
  unfold hasE at h
  rw [List.any_eq_false] at h
  have := h x hx
  simpa using this
theorem woE_len {k : α} : ∀ {M : List (α × Value)}, ApartE M → hasE k M = true → (woE k M).length + 1 = M.length
  | [], _, h => by simp [hasE] at h
  | x :: l, hM, h => by
    obtain ⟨h1, h2⟩ := List.pairwise_cons.1 hM
    by_cases e : x.1 = k
    · have hn : hasE k l = false := by
        unfold hasE
        rw [List.any_eq_false]
        intro y hy q
        have := h1 y hy
        simp only [decide_eq_true_eq] at q
        exact this (e.trans q.symm)
      have : woE k (x :: l) = woE k l := by unfold woE; rw [List.filter_cons_of_neg (by simpa using e)]
      rw [this, woE_no hn]; rfl
    · have hl : hasE k l = true := by
        unfold hasE at h ⊢
        simpa [e] using h
      have : woE k (x :: l) = x :: woE k l := by unfold woE; rw [List.filter_cons_of_pos (by simpa using e)]
      rw [this, List.length_cons, woE_len h2 hl]; rfl
theorem hasE_cons {k : α} {v : Value} {M : List (α × Value)} (a : α) : hasE a ((k, v) :: woE k M) = true ↔ a = k ∨ hasE a M = true := by
  rw [hasE_iff, hasE_iff, List.map_cons, List.mem_cons]
  constructor
  · rintro (h | h)
    · exact .inl h
    · obtain ⟨x, hx, rfl⟩ := List.mem_map.1 h
      exact .inr (List.mem_map.2 ⟨x, (List.mem_filter.1 hx).1, rfl⟩)
  · rintro (h | h)
    · exact .inl h
    · by_cases e : a = k
      · exact .inl e
      · obtain ⟨x, hx, rfl⟩ := List.mem_map.1 h
        exact .inr (List.mem_map.2 ⟨x, List.mem_filter.2 ⟨hx, by simpa using e⟩, rfl⟩)
theorem Cnt.push {A : List α} {M : List (α × Value)} (h : Cnt A M) (hM : ApartE M) (k : α) (v : Value) : Cnt (A ++ [k]) ((k, v) :: woE k M) := by
  refine ⟨fun a => by rw [hasE_cons, h.mem, List.mem_append, List.mem_singleton]; exact or_comm, ?_, ?_⟩
  · have := h.le
    have h2 : (woE k M).length ≤ M.length := List.length_filter_le _ _
    simp only [List.length_cons, List.length_append, List.length_nil]; omega
  · have hl := h.le
    by_cases hk : hasE k M = true
    · have h1 := woE_len hM hk
      have h2 := (h.mem k).1 hk
      simp only [List.length_cons, List.length_append, List.length_nil]
      constructor
      · intro e; omega
      · intro e
        exact absurd rfl ((List.nodup_append.1 e).2.2 k h2 k (by simp))
    · have h1 := woE_no (by simpa using hk)
      have h2 : k ∉ A := fun q => hk ((h.mem k).2 q)
      rw [h1]
      simp only [List.length_cons, List.length_append, List.length_nil]
      rw [show (M.length + 1 = A.length + (0 + 1)) ↔ M.length = A.length by omega, h.all, List.nodup_append]
      constructor
      · intro q; exact ⟨q, by simp, fun a ha b hb => by rw [List.mem_singleton.1 hb]; exact fun e => h2 (e ▸ ha)⟩
      · intro q; exact q.1
end
end Go.Proofs.YtjjkobbajbbgdaaGreatDoor

namespace Go.Proofs.YtjjkobbajbbgdaaGreatDoor
open Go.RowKit

def keyN : KeyE Nm := ⟨fun n => .string n.1, fun h => Subtype.ext (by simpa using h), fun _ => trivial⟩
def keyI : KeyE Int := ⟨fun n => .int .i64 n, fun h => by simpa using h, fun _ => trivial⟩
def keyS : KeyE (List UInt8) := ⟨fun s => .string s, fun h => by simpa using h, fun _ => trivial⟩
theorem mapM_some {α β : Type} {f : α → Option β} {g : α → β} : ∀ l : List α, (∀ x ∈ l, f x = some (g x)) → l.mapM f = some (l.map g)
  | [], _ => rfl
  | x :: l, h => by
    rw [List.mapM_cons, h x (by simp), mapM_some l (fun y hy => h y (by simp [hy]))]; rfl
theorem u8_key (b : UInt8) : (Lit.int .u8 (b.toNat : Int)).keyBytes = [b] := by
  have h : b.toNat < 256 := b.toNat_lt
  have e1 : (((b.toNat : Int) % 2 ^ IntKind.u8.bits).toNat) = b.toNat := by
    show (((b.toNat : Int) % 256).toNat) = _
    omega
  show (bytesLE 1 (((b.toNat : Int) % 2 ^ IntKind.u8.bits).toNat)).reverse = [b]
  rw [e1]
  unfold bytesLE bytesLE
  rw [Nat.mod_eq_of_lt h]
  simp
theorem u8_wf (b : UInt8) : (Lit.int .u8 (b.toNat : Int)).wf = true := by
  have h : b.toNat < 256 := b.toNat_lt
  unfold Lit.wf
  simp only [Bool.and_eq_true, decide_eq_true_eq]
  constructor
  · show (0 : Int) ≤ _; omega
  · show _ ≤ (255 : Int); omega
theorem keyBytes_u8 (s : List UInt8) : keyBytes (s.map fun b => Lit.int .u8 (b.toNat : Int)) = s := by
  unfold keyBytes
  induction s with
  | nil => rfl
  | cons b s ih => rw [List.map_cons, List.flatMap_cons, ih, u8_key]; rfl
/-- A row of 32 bytes as a key. -/
theorem keyOf_bytes {P : Program} {K U : TypeId} (hK : P.underlying K = some (.array 32 U)) (hU : P.underlying U = some (.int .u8)) (c1 : P.cellsOf K = 32) (c2 : P.cellsOf U = 1) (hk : P.keyType K = true) (hs : 2 ≤ P.types.size + 1) (s : List UInt8) (hl : s.length = 32) :
    keyOf P K (.agg (vals s).toArray) = some (.string s) := by
  obtain ⟨d, hd⟩ : ∃ d, P.types.size + 1 = d + 2 := ⟨P.types.size + 1 - 2, by omega⟩
  have hlits : P.keyLits (P.types.size + 1) K (vals s) = some (s.map fun b => Lit.int .u8 (b.toNat : Int)) := by
    rw [hd]
    unfold Program.keyLits
    simp only [hK, c1, vals_len, hl, if_true]
    rw [mapM_some (g := fun i => [Lit.int .u8 ((s[i]!).toNat : Int)]) _ (fun i hi => by
      rw [List.mem_range] at hi
      have e : ((vals s).drop (i * P.cellsOf U)).take (P.cellsOf U) = [.int .u8 ((s[i]!).toNat : Int)] := by
        rw [c2, Nat.mul_one]
        have hlt : i < (vals s).length := by rw [vals_len, hl]; exact hi
        rw [List.drop_eq_getElem_cons hlt, List.take_succ_cons, List.take_zero]
        have : i < s.length := by omega
        simp [vals, getElem!_pos s i this]
      rw [e]
      unfold Program.keyLits
      simp only [hU]
      simp [u8_wf])]
    simp only [Option.map_some, Option.some.injEq]
    rw [← List.flatMap_def]
    have e2 : s.map (fun b => Lit.int .u8 (b.toNat : Int)) = (List.range 32).map fun i => Lit.int .u8 ((s[i]!).toNat : Int) := by
      apply List.ext_getElem
      · simp [hl]
      · intro i h1 h2
        simp only [List.length_map] at h1
        simp only [List.getElem_map, List.getElem_range, getElem!_pos s i h1]
    rw [e2]
    induction List.range 32 with
    | nil => rfl
    | cons a l ih => rw [List.flatMap_cons, ih]; rfl
  unfold keyOf
  simp only [hK]
  rw [if_pos (by rw [hk]; simp [Value.formed, hK, c1, vals_len, hl])]
  show (P.keyLits (P.types.size + 1) K (vals s)).map _ = _
  rw [hlits, Option.map_some, keyBytes_u8]
set_option maxRecDepth 20000 in
theorem tsLaid : laidOutB Tryz.prog = true := by kernel_rfl
set_option maxRecDepth 20000 in
theorem keyedN : Maps.Keyed Tryz.prog 36 := .of_law (deep_law_laid tsLaid (m := 2) (by omega) (of_decide_eq_true (by kernel_rfl)) (by kernel_rfl) (by rw [Tryz.underlying36]))
set_option maxRecDepth 20000 in
theorem keyN_of (n : Nm) : keyOf Tryz.prog 36 (.agg (vals n.1).toArray) = some (keyN.lit n) :=
  keyOf_bytes Tryz.underlying36 Tryz.underlying5 (by kernel_rfl) (by kernel_rfl) (by kernel_rfl) (of_decide_eq_true (by kernel_rfl)) n.1 n.2
theorem keyedI : Maps.Keyed Tryz.prog 3 := Maps.int_keyed Tryz.underlying3
theorem keyI_of (n : Int) (h : -9223372036854775808 ≤ n ∧ n ≤ 9223372036854775807) : keyOf Tryz.prog 3 (.int .i64 n) = some (keyI.lit n) :=
  Maps.keyOf_int_mk Tryz.underlying3 (by unfold Lit.wf; simp only [Bool.and_eq_true, decide_eq_true_eq]; exact h)
theorem keyedS : Maps.Keyed Tryz.prog 9 := Maps.string_keyed Tryz.underlying9
theorem keyS_of (s : List UInt8) (h : s.length ≤ maxLen) : keyOf Tryz.prog 9 (.string ⟨s.toArray⟩) = some (keyS.lit s) := by
  have hb : (ByteArray.mk s.toArray).size ≤ maxLen := h
  unfold keyOf
  simp only [Tryz.underlying9]
  unfold mapKey
  simp only [Tryz.underlying9, hb, if_true]
  rfl
end Go.Proofs.YtjjkobbajbbgdaaGreatDoor

namespace Go.Proofs.YtjjkobbajbbgdaaGreatDoor.CW
open Go

section
variable {P : Program} {ops : Array Oper} {Q : Exit → Act → World → Prop} {md : Region.Mode} {V : Tmp → Value → World → Prop} {G : Nat → Value → World → Prop} {C : List Nat} {a0 : Act}

/-- What one operation owes while k of the chain are done, k' behind it. -/
def OwesAt (P : Program) (md : Region.Mode) (ops : Array Oper) (Q : Exit → Act → World → Prop) (V : Tmp → Value → World → Prop) (G : Nat → Value → World → Prop) (C : List Nat) (a0 : Act) (i : Nat) (o : Oper) (k : Nat) : Prop :=
  ∀ a w x, AgreeC ops C k a0 a → G k x w → AllV V a w (waits md ops o) →
    wpOp P ops Q i (fun a' w' => ∃ v, a' = a.put o.dst v ∧ (∀ t, o.dst = some t → V t v w') ∧ G k x w' ∧ (∀ t u, V t u w → V t u w')) a w
/-- What the chain's operation m owes. -/
def OwesIn (P : Program) (md : Region.Mode) (ops : Array Oper) (Q : Exit → Act → World → Prop) (V : Tmp → Value → World → Prop) (G : Nat → Value → World → Prop) (C : List Nat) (a0 : Act) (i : Nat) (o : Oper) (m : Nat) : Prop :=
  ∀ a w x, AgreeC ops C m a0 a → G m x w → Holds' ops C a m x → AllV V a w (waits md ops o) →
    wpOp P ops Q i (fun a' w' => ∃ v, a' = a.put o.dst v ∧ (∀ t, o.dst = some t → V t v w') ∧ G (m + 1) v w' ∧ (∀ t u, V t u w → V t u w')) a w
def OwesC (P : Program) (md : Region.Mode) (ops : Array Oper) (Q : Exit → Act → World → Prop) (V : Tmp → Value → World → Prop) (G : Nat → Value → World → Prop) (C : List Nat) (a0 : Act) (i : Nat) (o : Oper) : Prop :=
  (∃ m, C[m]? = some i ∧ OwesIn P md ops Q V G C a0 i o m) ∨ (C.contains i = false ∧ ∃ b, aheadOf md ops C i b = true ∧ ∀ k, k ≤ b → OwesAt P md ops Q V G C a0 i o k)

/-- What is known while the region goes. -/
structure ChainAt (md : Region.Mode) (ops : Array Oper) (V : Tmp → Value → World → Prop) (G : Nat → Value → World → Prop) (C : List Nat) (a0 : Act) (L : Array Bool) (a : Act) (w : World) (k : Nat) (x : Value) : Prop where
  g : G k x w
  ho : Holds' ops C a k x
  le : k ≤ C.length
  ch : ∀ (m i : Nat), C[m]? = some i → (L.getD i true = true ↔ m < k)
  cl : ∀ (i : Nat) (o : Oper), ops[i]? = some o → L.getD i true = true → ∀ e ∈ o.after, Region.binds md e = true → L.getD e.on false = true
  ag : Agree ops a0 a
  kp : ∀ (i : Nat) (o : Oper) (t : Tmp), ops[i]? = some o → L.getD i true = false → o.dst = some t → a.eval (.tmp t) = a0.eval (.tmp t)
  v : ∀ (i : Nat) (o : Oper) (t : Tmp), ops[i]? = some o → L.getD i true = true → o.dst = some t → V t (a.eval (.tmp t)) w

theorem ChainAt.agc {L : Array Bool} {a : Act} {w : World} {k : Nat} {x : Value} (h : ChainAt md ops V G C a0 L a w k x) : AgreeC ops C k a0 a :=
  ⟨h.ag, fun m i o t hm hi ho ht => h.kp i o t ho (by
    cases hl : L.getD i true with
    | false => rfl
    | true => exact absurd ((h.ch m i hi).1 hl) (by omega)) ht⟩
theorem wpAny_chain (hok : DrawOk ops a0.tmps.size) (hch : chainOk md ops C = true) (hnd : C.Nodup) (hCl : ∀ i ∈ C, i < ops.size) (step : ∀ (i : Nat) (o : Oper), ops[i]? = some o → OwesC P md ops Q V G C a0 i o)
    (fin : ∀ a w x, Agree ops a0 a → G C.length x w → Holds' ops C a C.length x → (∀ (i : Nat) (o : Oper) (t : Tmp), ops[i]? = some o → o.dst = some t → V t (a.eval (.tmp t)) w) → Q .normal a w) :
    ∀ (fuel : Nat) (L : Array Bool) (a : Act) (w : World) (k : Nat) (x : Value), unl L ops.size ≤ fuel → L.size = ops.size → ChainAt md ops V G C a0 L a w k x → wpAny P md ops Q fuel L a w := by
  have allL : ∀ L : Array Bool, L.size = ops.size → Region.ready md ops L = [] → ∀ (i : Nat) (o : Oper), ops[i]? = some o → L.getD i true = true := by
    intro L hL hr i o ho
    cases hc : L.getD i true with
    | true => rfl
    | false =>
      obtain ⟨j, hj⟩ := ready_some (md := md) hok hL i (Array.getElem?_eq_some_iff.1 ho).1 hc
      rw [hr] at hj; cases hj
  have done : ∀ (L : Array Bool) (a : Act) (w : World) (k : Nat) (x : Value), L.size = ops.size → ChainAt md ops V G C a0 L a w k x → Region.ready md ops L = [] → Q .normal a w := by
    intro L a w k x hL h hr
    have hk : k = C.length := by
      refine Nat.le_antisymm h.le (Nat.le_of_not_lt fun hlt => ?_)
      have hm : C[k]? = some C[k] := List.getElem?_eq_getElem hlt
      have hi := hCl _ (List.getElem_mem hlt)
      exact Nat.lt_irrefl _ ((h.ch k _ hm).1 (allL L hL hr _ _ (Array.getElem?_eq_getElem hi)))
    subst hk
    exact fin a w x h.ag h.g h.ho (fun i o t ho ht => h.v i o t ho (allL L hL hr i o ho) ht)
  intro fuel
  induction fuel with
  | zero =>
    intro L a w k x hu hL h
    have hr : Region.ready md ops L = [] := by
      apply List.eq_nil_iff_forall_not_mem.2
      intro j hj
      obtain ⟨hun, o, ho, _⟩ := mem_ready.1 hj
      have := unl_pos L ops.size j (Array.getElem?_eq_some_iff.1 ho).1 hun
      omega
    exact ⟨hr, done L a w k x hL h hr⟩
  | succ fuel ih =>
    intro L a w k x hu hL h
    refine ⟨fun hr => done L a w k x hL h hr, fun i hi => ?_⟩
    obtain ⟨hun, o, ho, hall⟩ := mem_ready.1 hi
    have hil : i < ops.size := (Array.getElem?_eq_some_iff.1 ho).1
    have hw : AllV V a w (waits md ops o) := AllV.of (by
      intro t ht
      unfold waits at ht
      obtain ⟨e, he, hd⟩ := List.mem_filterMap.1 ht
      obtain ⟨he1, he2⟩ := List.mem_filter.1 he
      cases hj : ops[e.on]? with
      | none => rw [hj] at hd; cases hd
      | some p =>
        rw [hj] at hd
        have hl := hall e (by simpa using he1) he2
        exact h.v e.on p t hj (by rw [getD_tf hL (Array.getElem?_eq_some_iff.1 hj).1]; exact hl) hd)
    -- what follows, with k' of the chain done
    have next : ∀ (k' : Nat) (y : Value → Value), k' ≤ C.length → (∀ v, Holds' ops C (a.put o.dst v) k' (y v)) → (∀ (m j : Nat), C[m]? = some j → ((L.setIfInBounds i true).getD j true = true ↔ m < k')) →
        wpOp P ops Q i (fun a' w' => ∃ v, a' = a.put o.dst v ∧ (∀ t, o.dst = some t → V t v w') ∧ G k' (y v) w' ∧ (∀ t u, V t u w → V t u w')) a w → wpOp P ops Q i (fun a' w' => wpAny P md ops Q fuel (L.setIfInBounds i true) a' w') a w := by
      intro k' y hk' hho hch' hop
      refine wpOp_mono (fun a' w' hh => ?_) hop
      obtain ⟨v, rfl, hvi, hG', hpres⟩ := hh
      refine ih _ _ _ k' (y v) ?_ (by simpa using hL) ⟨hG', hho v, hk', hch', ?_, ?_, ?_, ?_⟩
      · have := unl_set L i hun ops.size
        rw [if_pos hil] at this; omega
      · intro j p hp hl e he hb
        by_cases hji : j = i
        · subst hji
          rw [ho] at hp; cases hp
          have := hall e he hb
          by_cases hei : e.on = j
          · rw [hei, getD_set_at (by omega)]
          · rw [getD_set_ne' hei]; exact this
        · rw [getD_set_ne' hji] at hl
          have := h.cl j p hp hl e he hb
          by_cases hei : e.on = i
          · rw [hei, getD_set_at (by omega)]
          · rw [getD_set_ne' hei]; exact this
      · refine ⟨by rw [size_put]; exact h.ag.size, by rw [defers_put]; exact h.ag.defers, fun t ht => ?_⟩
        rw [Act.eval_put (fun d hd e => ht i o ho (by cases e; exact hd))]
        exact h.ag.same t ht
      · intro j p t hp hl ht
        have e : j ≠ i := by
          rintro rfl
          rw [getD_set_at (by omega)] at hl; cases hl
        rw [Act.eval_put (fun d hd e2 => by cases e2; exact hok.apart i j o p t ho hp e hd ht)]
        rw [getD_set_ne' e] at hl
        exact h.kp j p t hp hl ht
      · intro j p t hp hl ht
        by_cases e : j = i
        · subst e
          rw [ho] at hp; cases hp
          rw [ht, eval_put_same (by rw [h.ag.size]; exact hok.room j o t ho ht)]
          exact hvi t ht
        · rw [Act.eval_put (fun d hd e2 => by cases e2; exact hok.apart i j o p t ho hp e hd ht)]
          rw [getD_set_ne' e] at hl
          exact hpres _ _ (h.v j p t hp hl ht)
    rcases step i o ho with ⟨m, hm, hop⟩ | ⟨hni, b, hb, hop⟩
    · have hmk : m = k := by
        have h1 : ¬ m < k := fun hlt => by rw [(h.ch m i hm).2 hlt] at hun; cases hun
        have h2 : m ≤ k := by
          cases m with
          | zero => exact Nat.zero_le _
          | succ m =>
            have hlt : m < C.length := by have := (List.getElem?_eq_some_iff.1 hm).1; omega
            have hj : C[m]? = some C[m] := List.getElem?_eq_getElem hlt
            obtain ⟨e, he, hbd, hon⟩ := chain_edge hch hj hm ho
            have := hall e he hbd
            rw [hon] at this
            exact (h.ch m _ hj).1 (by rw [getD_tf hL (hCl _ (List.getElem_mem hlt))]; exact this)
        omega
      subst hmk
      have hmlt : m < C.length := (List.getElem?_eq_some_iff.1 hm).1
      refine next (m + 1) (fun v => v) hmlt ?_ ?_ (hop a w x h.agc h.g h.ho hw)
      · intro v m2 j p t hm2 hj hp ht
        obtain rfl : m2 = m := by omega
        rw [hm] at hj; cases hj
        rw [ho] at hp; cases hp
        rw [ht, eval_put_same (by rw [h.ag.size]; exact hok.room i o t ho ht)]
      intro m2 j hj
      by_cases hji : j = i
      · subst hji
        have : m2 = m := by
          obtain ⟨l2, e2⟩ := List.getElem?_eq_some_iff.1 hj
          obtain ⟨l1, e1⟩ := List.getElem?_eq_some_iff.1 hm
          exact (List.getElem_inj hnd).1 (e2.trans e1.symm)
        subst this
        rw [getD_set_at (by omega)]
        exact ⟨fun _ => Nat.lt_succ_self _, fun _ => rfl⟩
      · rw [getD_set_ne' hji, h.ch m2 j hj]
        have : m2 ≠ m := by
          rintro rfl
          rw [hm] at hj; cases hj; exact hji rfl
        omega
    · have hkb : k ≤ b := by
        unfold aheadOf at hb
        rw [Bool.or_eq_true, beq_iff_eq] at hb
        rcases hb with rfl | hb
        · exact h.le
        · cases hj : C[b]? with
          | none => rw [hj] at hb; cases hb
          | some j =>
            rw [hj] at hb
            simp only at hb
            refine Nat.le_of_not_lt fun hlt => ?_
            have := reach_done h.cl 16 j i hb ((h.ch b j hj).2 hlt)
            rw [← getD_tf hL hil, hun] at this
            cases this
      refine next k (fun _ => x) h.le ?_ ?_ (hop k hkb a w x h.agc h.g hw)
      · intro v m2 j p t hm2 hj hp ht
        have hji : j ≠ i := by
          rintro rfl
          have := List.mem_of_getElem? hj
          rw [List.contains_eq_mem, decide_eq_false_iff_not] at hni
          exact hni this
        rw [Act.eval_put (fun d hd e2 => by cases e2; exact hok.apart i j o p t ho hp hji hd ht)]
        exact h.ho m2 j p t hm2 hj hp ht
      intro m2 j hj
      have hji : j ≠ i := by
        rintro rfl
        have := List.mem_of_getElem? hj
        rw [List.contains_eq_mem, decide_eq_false_iff_not] at hni
        exact hni this
      rw [getD_set_ne' hji, h.ch m2 j hj]

/-- The obligations one after the other. -/
def OweAllC (P : Program) (md : Region.Mode) (ops : Array Oper) (Q : Exit → Act → World → Prop) (V : Tmp → Value → World → Prop) (G : Nat → Value → World → Prop) (C : List Nat) (a0 : Act) : Nat → List Oper → Prop
  | _, [] => True
  | k, o :: r => OwesC P md ops Q V G C a0 k o ∧ OweAllC P md ops Q V G C a0 (k + 1) r
theorem OweAllC.get : ∀ {l : List Oper} {k : Nat}, OweAllC P md ops Q V G C a0 k l → ∀ (i : Nat) (o : Oper), l[i]? = some o → OwesC P md ops Q V G C a0 (k + i) o
  | _ :: _, k, h, 0, o, hi => by cases hi; exact h.1
  | _ :: r, k, h, i + 1, o, hi => by
    have := OweAllC.get h.2 i o (by simpa using hi)
    rwa [show k + 1 + i = k + (i + 1) by omega] at this
  | [], _, _, i, o, hi => by simp at hi
theorem OweAllC.cons {k : Nat} {o : Oper} {r : List Oper} (h : OwesC P md ops Q V G C a0 k o) (h2 : OweAllC P md ops Q V G C a0 (k + 1) r) : OweAllC P md ops Q V G C a0 k (o :: r) := ⟨h, h2⟩
theorem OweAllC.nil {k : Nat} : OweAllC P md ops Q V G C a0 k [] := trivial

theorem wp_region_chain {id : Nat} {w : World} (V : Tmp → Value → World → Prop) (G : Nat → Value → World → Prop) (C : List Nat) (N : Nat) (hm : P.follows .mixedOrders = true) (hok : drawOk ops N = true) (hN : a0.tmps.size = N)
    (hch : chainOk .any ops C = true) (hnd : decide C.Nodup = true) (hCl : C.all (· < ops.size) = true) (hG : G 0 undef w.drew)
    (step : OweAllC P .any ops Q V G C a0 0 ops.toList)
    (fin : ∀ f w x, G C.length x w → (∀ (m i : Nat) (o : Oper) (t : Tmp), C.length = m + 1 → C[m]? = some i → ops[i]? = some o → o.dst = some t → f t = x) → (∀ (i : Nat) (o : Oper) (t : Tmp), ops[i]? = some o → o.dst = some t → V t (f t) w) → Q .normal (puts f (dsts ops) a0) w) : (Code.region id ops true).wp P Q a0 w := by
  subst hN
  have hok := drawOk_spec hok
  have hCl' : ∀ i ∈ C, i < ops.size := fun i hi => by simpa using List.all_eq_true.1 hCl i hi
  have hL0 : ∀ i, i < ops.size → (Array.replicate ops.size false).getD i true = false := fun i hi => by simp [hi]
  refine wp_region_any hm (wpAny_chain (V := V) (G := G) (C := C) hok hch (of_decide_eq_true hnd) hCl' (fun i o ho => ?_) (fun a w x ha hg hh hv => ?_) ops.size _ a0 _ 0 undef (unl_le _ _) (by simp) ⟨hG, (fun m i o t h => by omega), Nat.zero_le _, ?_, ?_, ⟨rfl, rfl, fun _ _ => rfl⟩, (fun _ _ _ _ _ _ => rfl), ?_⟩)
  · have := step.get i o (by simpa using ho)
    rwa [Nat.zero_add] at this
  · rw [ha.puts hok]
    exact fin _ w x hg hh hv
  · intro m i hi
    have := hCl' i (List.mem_of_getElem? hi)
    rw [hL0 i this]
    simp
  · intro i o ho hl
    rw [hL0 i (Array.getElem?_eq_some_iff.1 ho).1] at hl; cases hl
  · intro i o t ho hl _
    rw [hL0 i (Array.getElem?_eq_some_iff.1 ho).1] at hl; cases hl

/-- An operation beside the chain that yields a value and turns nothing. -/
theorem owesC_val {i : Nat} {o : Oper} {t : Tmp} (b : Nat) (hb : aheadOf md ops C i b = true) (hni : C.contains i = false) (hi : ops[i]? = some o) (ht : o.dst = some t)
    (h : ∀ k a w x, k ≤ b → AgreeC ops C k a0 a → G k x w → AllV V a w (waits md ops o) → ∃ v, Region.wanted o (yielded ops a.tmps) = true ∧ (execOp a.eval o).run P w = .ok (.value v) w ∧ V t v w) : OwesC P md ops Q V G C a0 i o := by
  refine .inr ⟨hni, b, hb, fun k hk a w x ha hG hV => ?_⟩
  obtain ⟨v, hw, hr, hv⟩ := h k a w x hk ha hG hV
  unfold wpOp
  rw [hi]
  simp only [hw, if_true, Oper.wp, hr, Oper.upon]
  exact .inl ⟨v, rfl, fun u hu => by rw [ht] at hu; cases hu; exact hv, hG, fun _ _ h => h⟩
/-- A call of the chain. -/
theorem owesC_call {i : Nat} {o : Oper} {t : Tmp} (m : Nat) (hm : C[m]? = some i) (hi : ops[i]? = some o) (ht : o.dst = some t) (f : FuncId)
    (h : ∀ a w x, AgreeC ops C m a0 a → G m x w → Holds' ops C a m x → AllV V a w (waits md ops o) → ∃ args, Region.wanted o (yielded ops a.tmps) = true ∧ (execOp a.eval o).run P w = .ok (.enter f args) w ∧
      Calls P f args w fun e w' => ∃ v, e = .returned v ∧ V t v w' ∧ G (m + 1) v w' ∧ (∀ t u, V t u w → V t u w')) : OwesC P md ops Q V G C a0 i o := by
  refine .inl ⟨m, hm, fun a w x ha hG hh hV => ?_⟩
  obtain ⟨args, hw, hr, hc⟩ := h a w x ha hG hh hV
  unfold wpOp
  rw [hi]
  simp only [hw, if_true, Oper.wp, hr, Oper.upon]
  refine .inl (hc.mono ?_)
  rintro e w' ⟨v, rfl, h1, h2, h3⟩
  exact ⟨v, rfl, fun u hu => by rw [ht] at hu; cases hu; exact h1, h2, h3⟩
/-- A store of the chain. -/
theorem owesC_store {i : Nat} {o : Oper} (m : Nat) (hm : C[m]? = some i) (hi : ops[i]? = some o) (ht : o.dst = none)
    (h : ∀ a w x, AgreeC ops C m a0 a → G m x w → Holds' ops C a m x → AllV V a w (waits md ops o) → ∃ w', Region.wanted o (yielded ops a.tmps) = true ∧ (execOp a.eval o).run P w = .ok .skip w' ∧ G (m + 1) undef w' ∧ (∀ t u, V t u w → V t u w')) : OwesC P md ops Q V G C a0 i o := by
  refine .inl ⟨m, hm, fun a w x ha hG hh hV => ?_⟩
  obtain ⟨w', hw, hr, h2, h3⟩ := h a w x ha hG hh hV
  unfold wpOp
  rw [hi]
  simp only [hw, if_true, Oper.wp, hr, Oper.upon]
  exact .inl ⟨undef, rfl, fun u hu => (by rw [ht] at hu; cases hu), h2, h3⟩
end
end Go.Proofs.YtjjkobbajbbgdaaGreatDoor.CW

namespace Go.Proofs.YtjjkobbajbbgdaaGreatDoor
open Go.RowKit

/-- A header's fields; its parents of whatever kind. -/
structure Hd (α : Type) where
  ht : Int
  mi : Int
  tk : List UInt8
  wi : Int
  pw : Nat
  ps : List α
  sa : Int
def hcells {α : Type} (h : Hd α) (ao : Option Addr) (cap : Nat) : Array Value := #[.int .i64 h.ht, .int .i64 h.mi, .string ⟨h.tk.toArray⟩, .int .i64 h.wi, .int .u64 (h.pw : Int), .slice ao h.ps.length cap, .int .i64 h.sa]
/-- Which headers may be, but for their parents' order. -/
def chk {α : Type} (h : Hd α) (R : Bool) : Int :=
  if 5 < h.ps.length then 4
  else if (h.ht < 1 ∨ 1073741824 < h.ht) ∨ (h.mi < 0 ∨ 64 ≤ h.mi) ∨ (h.tk.length < 1 ∨ 8 < h.tk.length) ∨ (h.wi < 1 ∨ 15 < h.wi) ∨ (h.pw < 2 ∨ 4611686018427387904 < h.pw) ∨ (h.ps.length < 1 ∨ R = false) ∨ (h.sa < 0 ∨ 1073741824 < h.sa) then 1 else 0
theorem bcellH {W W' : World} (hb : Below W.heap.size W W') : (∀ b o, b < W.heap.size → W'.cell? ⟨b, o, none⟩ = W.cell? ⟨b, o, none⟩) ∧ (∀ b o, b < W.heap.size → W'.frozen? ⟨b, o, none⟩ = W.frozen? ⟨b, o, none⟩) :=
  ⟨fun b o h => hb.cell (p := ⟨b, o, none⟩) h, fun b o h => hb.frozen (p := ⟨b, o, none⟩) h⟩
end Go.Proofs.YtjjkobbajbbgdaaGreatDoor

namespace Go.Proofs.YtjjkobbajbbgdaaGreatDoor
open Go.RowKit

theorem wpList_load_mid {ops : Array Oper} {rest : List Oper} {o : Oper} {a : Act} {w : World} {Q : Exit → Act → World → Prop} (hgd : o.guard = none) (x : Operand) (ho : o.op = .load 36 x) (b off : Nat) (hx : a.eval x = .pointer (some ⟨b, off, none⟩)) (s : Nm)
    (hc : ∀ i u, (encN.f s)[i]? = some u → w.cell? ⟨b, off + i, none⟩ = some u) (h : wpList Tryz.prog ops Q rest (a.put o.dst (.agg (vals s.1).toArray)) w) : wpList Tryz.prog ops Q (o :: rest) a w := by
  refine wpList_plain hgd fun K hK => ?_
  have he := exec_load_mid x ho b off hx s hc
  unfold Oper.wp
  rw [he]
  exact hK _ _ h
theorem flat_succ (L : List Nm) (k : Nat) (h : k < L.length) : ((L.take (k + 1)).map (·.1)).flatten = ((L.take k).map (·.1)).flatten ++ L[k].1 := by
  rw [List.take_succ_eq_append_getElem h, List.map_append, List.flatten_append]
  simp only [List.map_cons, List.map_nil, List.flatten_cons, List.flatten_nil, List.append_nil]
theorem flat_lenH (L : List Nm) : ((L.map (·.1)).flatten).length = 32 * L.length := by
  induction L with
  | nil => rfl
  | cons x l ih => rw [List.map_cons, List.flatten_cons, List.length_append, ih, x.2, List.length_cons]; omega
/-- A power as a number that has bytes. -/
def pwN (p : Nat) : Int := if 9223372036854775807 < p then 0 else p
theorem pwN_bd (p : Nat) : 0 ≤ pwN p ∧ pwN p ≤ 9223372036854775807 := by unfold pwN; split <;> omega
set_option maxRecDepth 20000 in
set_option maxHeartbeats 1000000 in
theorem hnumber_any (p : Nat) (w : World) (hp : p < 18446744073709551616) :
    Calls Tryz.prog 70 #[.int .u64 (p : Int)] w fun r w' => r = .returned (.int .i64 (pwN p)) ∧ w = w' := by
  by_cases h : 9223372036854775807 < p
  · have hfin : pwN p = 0 := by unfold pwN; rw [if_pos h]
    rw [hfin]
    have h1 : (9223372036854775807 : Int) < p := by omega
    clear hfin
    go_enter Tryz.func70, Tryz.ntmps70
    go_wp2_with fail
    go_ret
    exact ⟨rfl, rfl⟩
  · have hfin : pwN p = p := by unfold pwN; rw [if_neg h]
    rw [hfin]
    have h1 : ¬ (9223372036854775807 : Int) < p := by omega
    have h2 : (p : Int) ≤ 9223372036854775807 := by omega
    have h3 : IntKind.i64.wrap (p : Int) = (p : Int) := IntWalk.i64_in _ (by omega)
    clear hfin
    go_enter Tryz.func70, Tryz.ntmps70
    go_wp2_with fail
    go_ret
    exact ⟨rfl, rfl⟩
/-- The bytes ahead of the parents. -/
def hhead {α : Type} (h : Hd α) : List UInt8 := numL h.ht ++ numL h.mi ++ (numL h.tk.length ++ h.tk) ++ numL h.wi ++ numL (pwN h.pw)
def hbytes {α : Type} (f : α → List UInt8) (h : Hd α) : List UInt8 := hhead h ++ numL h.ps.length ++ (h.ps.map f).flatten ++ numL h.sa

set_option maxRecDepth 20000 in
set_option maxHeartbeats 8000000 in
theorem hbytes_any (h : Hd Nm) (ao : Option Addr) (cap : Nat) (w : World) (hL : Rd encN w ao h.ps) (hn : h.ps.length ≤ 1000000) (hk : h.tk.length ≤ 1000000) (hpw : h.pw < 18446744073709551616)
    (b1 : -9223372036854775808 ≤ h.ht ∧ h.ht ≤ 9223372036854775807) (b2 : -9223372036854775808 ≤ h.mi ∧ h.mi ≤ 9223372036854775807) (b3 : -9223372036854775808 ≤ h.wi ∧ h.wi ≤ 9223372036854775807) (b4 : -9223372036854775808 ≤ h.sa ∧ h.sa ≤ 9223372036854775807) :
    Calls Tryz.prog 38 #[.agg (hcells h ao cap)] w fun r w' => r = .returned (.string ⟨(hbytes (·.1) h).toArray⟩) ∧ Below w.heap.size w w' := by
  obtain ⟨ht, mi, tk, wi, pw, ps, sa⟩ := h
  simp only at hL hn hk hpw b1 b2 b3 b4
  have n1 := numL_len ht (by have := b1.2; omega)
  have n2 := numL_len mi (by have := b2.2; omega)
  have n3 := numL_len (tk.length : Int) (by omega)
  have n4 := numL_len wi (by have := b3.2; omega)
  have n6 := numL_len (ps.length : Int) (by omega)
  have n7 := numL_len sa (by have := b4.2; omega)
  have hp5 := pwN_bd pw
  have n5 := numL_len (pwN pw) (by omega)
  have hnum := Lib.hid (fun w => hnumber_any pw w hpw)
  obtain ⟨n, hnp⟩ : ∃ n, n = ps.length := ⟨_, rfl⟩
  obtain ⟨B1, hB1⟩ : ∃ B, B = numL ht := ⟨_, rfl⟩
  obtain ⟨B2, hB2⟩ : ∃ B, B = B1 ++ numL mi := ⟨_, rfl⟩
  obtain ⟨B3, hB3⟩ : ∃ B, B = B2 ++ (numL tk.length ++ tk) := ⟨_, rfl⟩
  obtain ⟨B4, hB4⟩ : ∃ B, B = B3 ++ numL wi := ⟨_, rfl⟩
  obtain ⟨B5, hB5⟩ : ∃ B, B = B4 ++ numL (pwN pw) := ⟨_, rfl⟩
  obtain ⟨B6, hB6⟩ : ∃ B, B = B5 ++ numL ps.length := ⟨_, rfl⟩
  have l1 : B1.length ≤ 9 := by rw [hB1]; exact n1
  have l2 : B2.length ≤ 18 := by rw [hB2, List.length_append]; omega
  have l3 : B3.length ≤ 1000027 := by rw [hB3, List.length_append, List.length_append]; omega
  have l4 : B4.length ≤ 1000036 := by rw [hB4, List.length_append]; omega
  have l5 : B5.length ≤ 1000045 := by rw [hB5, List.length_append]; omega
  have l6 : B6.length ≤ 1000054 := by rw [hB6, List.length_append]; omega
  obtain ⟨F, hF⟩ : ∃ F, F = B6 ++ (ps.map (·.1)).flatten ++ numL sa := ⟨_, rfl⟩
  have hfin : hbytes (·.1) (⟨ht, mi, tk, wi, pw, ps, sa⟩ : Hd Nm) = F := by rw [hF, hB6, hB5, hB4, hB3, hB2, hB1]; rfl
  rw [hfin]
  unfold hcells
  simp only
  rw [← hnp]
  obtain ⟨W0, hW0⟩ : ∃ W0, W0 = w.alloc (.cells #[.int .i64 ht, .int .i64 mi, .string ⟨tk.toArray⟩, .int .i64 wi, .int .u64 (pw : Int), .slice ao n cap, .int .i64 sa] 69) := ⟨_, rfl⟩
  have hbox : W0.heap[w.heap.size]? = some (.cells #[.int .i64 ht, .int .i64 mi, .string ⟨tk.toArray⟩, .int .i64 wi, .int .u64 (pw : Int), .slice ao n cap, .int .i64 sa] 69 (0, 0)) := by rw [hW0]; exact heap_alloc_new _ _
  have hbw : Below w.heap.size w W0 := by rw [hW0]; exact (Below.refl _ _).alloc (Nat.le_refl _) _
  obtain ⟨b, hb⟩ : ∃ b, b = W0.heap.size := ⟨_, rfl⟩
  have hgb : w.heap.size < b := by rw [hb]; exact (Array.getElem?_eq_some_iff.1 hbox).1
  have hmade := OutSt.made W0
  rw [← hb] at hmade
  -- what the box's cells are, whatever is written
  have hread : Hid (∀ (bs : List UInt8) (w1 : World), OutSt W0 b bs w1 → w1.cell? ⟨w.heap.size, 0, none⟩ = some (.int .i64 ht) ∧ w1.cell? ⟨w.heap.size, 1, none⟩ = some (.int .i64 mi) ∧ w1.cell? ⟨w.heap.size, 2, none⟩ = some (.string ⟨tk.toArray⟩) ∧ w1.cell? ⟨w.heap.size, 3, none⟩ = some (.int .i64 wi) ∧ w1.cell? ⟨w.heap.size, 4, none⟩ = some (.int .u64 (pw : Int)) ∧ w1.cell? ⟨w.heap.size, 5, none⟩ = some (.slice ao n cap) ∧ w1.cell? ⟨w.heap.size, 6, none⟩ = some (.int .i64 sa)) := Lib.hid (by
    intro bs w1 h1
    have hh := (h1.below.block _ hgb).trans hbox
    have hc := fun i => cell_of_row w1 w.heap.size i _ 69 (0, 0) hh
    exact ⟨hc 0, hc 1, hc 2, hc 3, hc 4, hc 5, hc 6⟩)
  have hrd : Hid (∀ (bs : List UInt8) (w1 : World), OutSt W0 b bs w1 → Rd encN w1 ao ps ∧ Below w.heap.size w w1) := Lib.hid (by
    intro bs w1 h1
    have h2 : Below w.heap.size w w1 := hbw.trans (h1.below.mono (Nat.le_of_lt hgb))
    exact ⟨hL.old h2, h2⟩)
  have HB1 := Lib.hid hB1
  have HB2 := Lib.hid hB2
  have HB3 := Lib.hid hB3
  have HB4 := Lib.hid hB4
  have HB5 := Lib.hid hB5
  have HB6 := Lib.hid hB6
  have HF := Lib.hid hF
  have Hnp := Lib.hid hnp
  have HW0 := Lib.hid hW0
  have Hb2 : Hid (w.heap.size + 1 = b) := Lib.hid (by rw [hb, hW0, World.size_alloc])
  clear hB1 hB2 hB3 hB4 hB5 hB6 hF hnp hfin hbox hbw hW0 hb hL n1 n2 n3 n4 n5 n6
  go_enter Tryz.func38, Tryz.ntmps38
  go_wp2_with fail
  rw [← HW0.out, Hb2.out]
  have HG0 : Hid ((fun (j : Nat) (_ : Value) (w1 : World) => OutSt W0 b (match j with | 0 => [] | 1 => B1 | 2 => B2 | 3 => B3 | 4 => B4 | _ => B5) w1) 0 undef (W0.alloc (.cells #[.slice none 0 0] 122)).drew) := Lib.hid (by
    obtain ⟨v, h1, h2, h3⟩ := hmade
    exact ⟨v, h1.kept (Mod.drew (Mod.refl (fun _ => False) _)) (fun h => h) (fun _ _ h => h), h2, h3.drew⟩)
  clear hmade
  generalize W0.alloc (.cells #[.slice none 0 0] 122) = W1 at HG0 ⊢
  generalize hgg : w.heap.size = g at hread hrd hgb ⊢
  have HGG : Hid (g = w.heap.size) := Lib.hid hgg.symm
  clear hgg
  refine wp_region_chain (fun t v => match t with
    | 6 => v = .pointer (some ⟨g, 0, none⟩)
    | 7 => v = .int .i64 ht
    | 8 => v = .pointer (some ⟨b, 0, none⟩)
    | 9 => v = .pointer (some ⟨g, 1, none⟩)
    | 10 => v = .int .i64 mi
    | 11 => v = .pointer (some ⟨b, 0, none⟩)
    | 12 => v = .pointer (some ⟨g, 2, none⟩)
    | 13 => v = .string ⟨tk.toArray⟩
    | 14 => v = .pointer (some ⟨b, 0, none⟩)
    | 15 => v = .pointer (some ⟨g, 3, none⟩)
    | 16 => v = .int .i64 wi
    | 17 => v = .pointer (some ⟨b, 0, none⟩)
    | 18 => v = .pointer (some ⟨g, 4, none⟩)
    | 19 => v = .int .u64 (pw : Int)
    | 20 => v = .int .i64 (pwN pw)
    | 21 => v = .pointer (some ⟨b, 0, none⟩)
    | _ => True) (fun (j : Nat) (_ : Value) (w1 : World) => OutSt W0 b (match j with | 0 => [] | 1 => B1 | 2 => B2 | 3 => B3 | 4 => B4 | _ => B5) w1) [2, 5, 8, 11, 15] 41 (by kernel_rfl) (by decide +kernel) rfl (by decide +kernel) (by decide) (by decide) HG0.out (by
    refine OweAllC.cons (owesC_val 0 (by decide +kernel) (by decide) rfl rfl fun k' a w1 x hk ha hG hV => ?_) ?_
    · skip
      have h1 := ha.outer 1 (by decide +kernel)
      simp only [Act.eval] at h1
      exact ⟨.pointer (some ⟨g, 0, none⟩), wanted_free rfl, by simp [execOp, go_sem, h1], rfl⟩
    refine OweAllC.cons (owesC_val 0 (by decide +kernel) (by decide) rfl rfl fun k' a w1 x hk ha hG hV => ?_) ?_
    · skip
      have h6 : a.tmps.getD 6 undef = .pointer (some ⟨g, 0, none⟩) := hV.get 6 (by decide +kernel)
      have cc := hread.out _ w1 hG
      exact ⟨.int .i64 ht, wanted_free rfl, by simp [execOp, go_sem, h6, cc.1], rfl⟩
    refine OweAllC.cons (owesC_call 0 rfl rfl rfl 68 fun a w1 x ha hG hx hV => ?_) ?_
    · skip
      have h3 := ha.outer 3 (by decide +kernel)
      simp only [Act.eval] at h3
      have h7 : a.tmps.getD 7 undef = .int .i64 ht := hV.get 7 (by decide +kernel)
      refine ⟨#[.pointer (some ⟨b, 0, none⟩), .int .i64 ht], wanted_free rfl, by simp [execOp, resolve, invoke, go_sem, h3, h7], ?_⟩
      refine (out_num W0 b [] ht w1 hG (by simp) b1.1 b1.2).mono ?_
      rintro r u2 ⟨rfl, hO⟩; exact ⟨_, rfl, rfl, by rw [List.nil_append, ← HB1.out] at hO; exact hO⟩
    refine OweAllC.cons (owesC_val 1 (by decide +kernel) (by decide) rfl rfl fun k' a w1 x hk ha hG hV => ?_) ?_
    · skip
      have h1 := ha.outer 1 (by decide +kernel)
      simp only [Act.eval] at h1
      exact ⟨.pointer (some ⟨g, 1, none⟩), wanted_free rfl, by simp [execOp, go_sem, h1], rfl⟩
    refine OweAllC.cons (owesC_val 1 (by decide +kernel) (by decide) rfl rfl fun k' a w1 x hk ha hG hV => ?_) ?_
    · skip
      have h9 : a.tmps.getD 9 undef = .pointer (some ⟨g, 1, none⟩) := hV.get 9 (by decide +kernel)
      have cc := hread.out _ w1 hG
      exact ⟨.int .i64 mi, wanted_free rfl, by simp [execOp, go_sem, h9, cc.2.1], rfl⟩
    refine OweAllC.cons (owesC_call 1 rfl rfl rfl 68 fun a w1 x ha hG hx hV => ?_) ?_
    · skip
      have h8 : a.tmps.getD 8 undef = .pointer (some ⟨b, 0, none⟩) := hV.get 8 (by decide +kernel)
      have h10 : a.tmps.getD 10 undef = .int .i64 mi := hV.get 10 (by decide +kernel)
      refine ⟨#[.pointer (some ⟨b, 0, none⟩), .int .i64 mi], wanted_free rfl, by simp [execOp, resolve, invoke, go_sem, h8, h10], ?_⟩
      refine (out_num W0 b B1 mi w1 hG (by omega) b2.1 b2.2).mono ?_
      rintro r u2 ⟨rfl, hO⟩; exact ⟨_, rfl, rfl, by rw [← HB2.out] at hO; exact hO⟩
    refine OweAllC.cons (owesC_val 2 (by decide +kernel) (by decide) rfl rfl fun k' a w1 x hk ha hG hV => ?_) ?_
    · skip
      have h1 := ha.outer 1 (by decide +kernel)
      simp only [Act.eval] at h1
      exact ⟨.pointer (some ⟨g, 2, none⟩), wanted_free rfl, by simp [execOp, go_sem, h1], rfl⟩
    refine OweAllC.cons (owesC_val 2 (by decide +kernel) (by decide) rfl rfl fun k' a w1 x hk ha hG hV => ?_) ?_
    · skip
      have h12 : a.tmps.getD 12 undef = .pointer (some ⟨g, 2, none⟩) := hV.get 12 (by decide +kernel)
      have cc := hread.out _ w1 hG
      exact ⟨.string ⟨tk.toArray⟩, wanted_free rfl, by simp [execOp, go_sem, h12, cc.2.2.1], rfl⟩
    refine OweAllC.cons (owesC_call 2 rfl rfl rfl 69 fun a w1 x ha hG hx hV => ?_) ?_
    · skip
      have h11 : a.tmps.getD 11 undef = .pointer (some ⟨b, 0, none⟩) := hV.get 11 (by decide +kernel)
      have h13 : a.tmps.getD 13 undef = .string ⟨tk.toArray⟩ := hV.get 13 (by decide +kernel)
      refine ⟨#[.pointer (some ⟨b, 0, none⟩), .string ⟨tk.toArray⟩], wanted_free rfl, by simp [execOp, resolve, invoke, go_sem, h11, h13], ?_⟩
      refine (out_text W0 b B2 tk w1 hG (by omega) (by omega)).mono ?_
      rintro r u2 ⟨rfl, hO⟩; exact ⟨_, rfl, rfl, by rw [← HB3.out] at hO; exact hO⟩
    refine OweAllC.cons (owesC_val 3 (by decide +kernel) (by decide) rfl rfl fun k' a w1 x hk ha hG hV => ?_) ?_
    · skip
      have h1 := ha.outer 1 (by decide +kernel)
      simp only [Act.eval] at h1
      exact ⟨.pointer (some ⟨g, 3, none⟩), wanted_free rfl, by simp [execOp, go_sem, h1], rfl⟩
    refine OweAllC.cons (owesC_val 3 (by decide +kernel) (by decide) rfl rfl fun k' a w1 x hk ha hG hV => ?_) ?_
    · skip
      have h15 : a.tmps.getD 15 undef = .pointer (some ⟨g, 3, none⟩) := hV.get 15 (by decide +kernel)
      have cc := hread.out _ w1 hG
      exact ⟨.int .i64 wi, wanted_free rfl, by simp [execOp, go_sem, h15, cc.2.2.2.1], rfl⟩
    refine OweAllC.cons (owesC_call 3 rfl rfl rfl 68 fun a w1 x ha hG hx hV => ?_) ?_
    · skip
      have h14 : a.tmps.getD 14 undef = .pointer (some ⟨b, 0, none⟩) := hV.get 14 (by decide +kernel)
      have h16 : a.tmps.getD 16 undef = .int .i64 wi := hV.get 16 (by decide +kernel)
      refine ⟨#[.pointer (some ⟨b, 0, none⟩), .int .i64 wi], wanted_free rfl, by simp [execOp, resolve, invoke, go_sem, h14, h16], ?_⟩
      refine (out_num W0 b B3 wi w1 hG (by omega) b3.1 b3.2).mono ?_
      rintro r u2 ⟨rfl, hO⟩; exact ⟨_, rfl, rfl, by rw [← HB4.out] at hO; exact hO⟩
    refine OweAllC.cons (owesC_val 4 (by decide +kernel) (by decide) rfl rfl fun k' a w1 x hk ha hG hV => ?_) ?_
    · skip
      have h1 := ha.outer 1 (by decide +kernel)
      simp only [Act.eval] at h1
      exact ⟨.pointer (some ⟨g, 4, none⟩), wanted_free rfl, by simp [execOp, go_sem, h1], rfl⟩
    refine OweAllC.cons (owesC_val 4 (by decide +kernel) (by decide) rfl rfl fun k' a w1 x hk ha hG hV => ?_) ?_
    · skip
      have h18 : a.tmps.getD 18 undef = .pointer (some ⟨g, 4, none⟩) := hV.get 18 (by decide +kernel)
      have cc := hread.out _ w1 hG
      exact ⟨.int .u64 (pw : Int), wanted_free rfl, by simp [execOp, go_sem, h18, cc.2.2.2.2.1], rfl⟩
    refine OweAllC.cons (owesC_side 4 (by decide +kernel) (by decide) rfl rfl 70 fun k' a w1 x hk ha hG hV => ?_) ?_
    · skip
      have h19 : a.tmps.getD 19 undef = .int .u64 (pw : Int) := hV.get 19 (by decide +kernel)
      refine ⟨#[.int .u64 (pw : Int)], wanted_free rfl, by simp [execOp, resolve, invoke, go_sem, h19], ?_⟩
      refine (hnum.out w1).mono ?_
      rintro r u2 ⟨rfl, rfl⟩; exact ⟨_, rfl, rfl, hG⟩
    refine OweAllC.cons (owesC_call 4 rfl rfl rfl 68 fun a w1 x ha hG hx hV => ?_) ?_
    · skip
      have h17 : a.tmps.getD 17 undef = .pointer (some ⟨b, 0, none⟩) := hV.get 17 (by decide +kernel)
      have h20 : a.tmps.getD 20 undef = .int .i64 (pwN pw) := hV.get 20 (by decide +kernel)
      refine ⟨#[.pointer (some ⟨b, 0, none⟩), .int .i64 (pwN pw)], wanted_free rfl, by simp [execOp, resolve, invoke, go_sem, h17, h20], ?_⟩
      refine (out_num W0 b B4 (pwN pw) w1 hG (by omega) (by omega) (by omega)).mono ?_
      rintro r u2 ⟨rfl, hO⟩; exact ⟨_, rfl, rfl, by rw [← HB5.out] at hO; exact hO⟩
    exact OweAllC.nil
    ) ?_
  intro f wz xz hG hx hv
  have e21 : f 21 = .pointer (some ⟨b, 0, none⟩) := hv 15 _ 21 rfl rfl
  first | (rename_i hK; refine hK _ _ ?_; clear hK) | (rename_i hK _; refine hK _ _ ?_; clear hK) | (rename_i hK _ _; refine hK _ _ ?_; clear hK) | (rename_i hK _ _ _; refine hK _ _ ?_; clear hK)
  clear hv hx
  simp only [dsts, puts, List.filterMap_cons, List.filterMap_nil, List.foldl_cons, List.foldl_nil, Act.put, List.setIfInBounds_toArray, List.set_cons_succ, List.set_cons_zero, e21]
  clear e21
  have hG5 : OutSt W0 b B5 wz := hG
  have c5 := (hread.out _ wz hG5).2.2.2.2.2.1
  clear hG HG0
  go_wp2_with fail
  refine (out_num W0 b B5 (n : Int) wz hG5 (by omega) (by omega) (by have := Hnp.out; omega)).mono ?_
  rintro r w3 ⟨rfl, hG6⟩
  rw [Hnp.out, ← HB6.out] at hG6
  have c6 := (hread.out _ w3 hG6).2.2.2.2.2.1
  clear hG5 c5
  have HG6 := Lib.hid hG6
  clear hG6
  go_wp2_with fail
  go_loopw [29] (fun s29 wr => ∃ (k : Nat) (bs : List UInt8), k ≤ n ∧ s29 = .int .i64 (k : Int) ∧ Hid (bs = B6 ++ ((ps.take k).map (·.1)).flatten) ∧ OutSt W0 b bs wr) (fun i _ => n - (intOf i).toNat)
  case atStart => exact ⟨0, B6, by omega, rfl, Lib.hid (by simp), HG6.out⟩
  case round =>
    clear HG6 c6
    obtain ⟨k, bs, hk, rfl, hbs, hO⟩ := hrel
    have hbl : bs.length ≤ 33000054 := by
      have e := hbs.out
      have := flat_lenH (ps.take k)
      rw [e, List.length_append, this, List.length_take]; omega
    by_cases hkn : k < n
    · have hkl : k < ps.length := by rw [← Hnp.out]; exact hkn
      obtain ⟨bb, off, rfl, hlt, c1⟩ := (hrd.out _ wr hO).1 k hkl
      obtain ⟨x, hx⟩ : ∃ x, x = ps[k] := ⟨_, rfl⟩
      have hnx : Hid (bs ++ x.1 = B6 ++ ((ps.take (k + 1)).map (·.1)).flatten) := Lib.hid (by rw [hbs.out, flat_succ ps k hkl, hx, List.append_assoc])
      rw [← hx] at c1
      have c1' : ∀ i u, (encN.f x)[i]? = some u → wr.cell? ⟨bb, off + k * 32 + i, none⟩ = some u := c1
      have C1 := Lib.hid c1'
      have k1 : (k : Int) < n := by omega
      have k0 : (0 : Int) ≤ k := by omega
      have hz := zid_run
      have q2 := zid_len.trans (id_size x.2).symm
      have q3 := id_info x.2
      have q4 := id_one x.1
      have hI := IdAt.stored (w := wr) (A := (vals zid).toArray) x.2
      have hBz := stored_below (w := wr) (A := (vals zid).toArray) (C := (vals x.1).toArray) (T := 36)
      have htx := Lib.hid hI.text
      have HO := Lib.hid (hO.old hBz)
      have hxl : x.1.length = 32 := x.2
      have Hxl := Lib.hid hxl
      clear hx c1 c1' hI hBz hxl hbs hO
      generalize (vals zid).toArray = ZA at hz q2 htx HO
      go_upto_region 7 with (first | (refine wpList_load_mid rfl (.tmp 31) rfl bb (off + k * 32) rfl x C1.out ?_) | (refine wpList_store_row rfl rfl 36 (.tmp 5) (.tmp 32) rfl wr.heap.size rfl 36 ZA (vals x.1).toArray rfl (heap_alloc_new _ _) q2 q3 q4 ?_))
      have ht := htx.out
      generalize (wr.alloc (.cells ZA 36)).setRow wr.heap.size (vals x.1).toArray = W2 at ht HO ⊢
      clear htx C1 hz q2 q3 q4
      go_wp2_with fail
      refine (out_raw W0 b bs x.1 _ HO.out (by have := Hxl.out; omega)).mono ?_
      rintro r w4 ⟨rfl, hO4⟩
      clear ht HO
      go_wp2_with fail
      go_roundw
      case rel => exact ⟨k + 1, bs ++ x.1, by omega, by go_num, hnx, hO4⟩
      case measure => simp [intOf]; omega
    · obtain rfl : k = n := by omega
      have c6 := (hread.out _ wr hO).2.2.2.2.2.2
      have hbF : Hid (bs ++ numL sa = F) := Lib.hid (by rw [hbs.out, HF.out, Hnp.out, List.take_of_length_le (Nat.le_refl _)])
      clear hbs
      go_wp2_with fail
      refine (out_num W0 b bs sa wr hO (by omega) b4.1 b4.2).mono ?_
      rintro r w5 ⟨rfl, hO5⟩
      rw [hbF.out] at hO5
      have hB5 := Lib.hid (hrd.out _ w5 hO5).2
      clear hO c6
      go_wp2_with fail
      refine (out_bytes W0 b F w5 hO5).mono ?_
      rintro r w6 ⟨rfl, rfl⟩
      clear hO5
      go_wp2_with fail
      go_ret
      exact ⟨rfl, HGG.out ▸ hB5.out⟩
end Go.Proofs.YtjjkobbajbbgdaaGreatDoor

namespace Go.Proofs.YtjjkobbajbbgdaaGreatDoor
open Go.RowKit

/-- A header whose numbers are ints, and which isn't great. -/
structure HOk {α : Type} (h : Hd α) : Prop where
  n : h.ps.length ≤ 1000000
  k : h.tk.length ≤ 1000000
  pw : h.pw < 18446744073709551616
  b1 : -9223372036854775808 ≤ h.ht ∧ h.ht ≤ 9223372036854775807
  b2 : -9223372036854775808 ≤ h.mi ∧ h.mi ≤ 9223372036854775807
  b3 : -9223372036854775808 ≤ h.wi ∧ h.wi ≤ 9223372036854775807
  b4 : -9223372036854775808 ≤ h.sa ∧ h.sa ≤ 9223372036854775807
theorem hbytes_len (h : Hd Nm) (ok : HOk h) : (hbytes (·.1) h).length ≤ 33000063 := by
  have n1 := numL_len h.ht (by have := ok.b1.2; omega)
  have n2 := numL_len h.mi (by have := ok.b2.2; omega)
  have n3 := numL_len (h.tk.length : Int) (by have := ok.k; omega)
  have n4 := numL_len h.wi (by have := ok.b3.2; omega)
  have n5 := numL_len (pwN h.pw) (by have := pwN_bd h.pw; omega)
  have n6 := numL_len (h.ps.length : Int) (by have := ok.n; omega)
  have n7 := numL_len h.sa (by have := ok.b4.2; omega)
  have n8 := flat_lenH h.ps
  have hn := ok.n
  have hk := ok.k
  simp only [hbytes, hhead, List.length_append]
  rw [n8]
  omega

set_option maxRecDepth 20000 in
set_option maxHeartbeats 4000000 in
theorem hid_any (h : Hd Nm) (ao : Option Addr) (cap : Nat) (w : World) (hL : Rd encN w ao h.ps) (ok : HOk h) (hT : TabAt w) :
    Calls Tryz.prog 24 #[.agg (hcells h ao cap)] w fun r w' => r = .returned (.agg (vals (shaB (hbytes (·.1) h))).toArray) ∧ Below w.heap.size w w' := by
  have hlen := hbytes_len h ok
  have hby := Lib.hid (fun w' (hb : Below w.heap.size w w') => hbytes_any h ao cap w' (hL.old hb) ok.n ok.k ok.pw ok.b1 ok.b2 ok.b3 ok.b4)
  obtain ⟨C, hC⟩ : ∃ C, C = hcells h ao cap := ⟨_, rfl⟩
  have hCs : C.size = 7 := by rw [hC]; rfl
  rw [← hC] at hby ⊢
  obtain ⟨S, hS⟩ : ∃ S, S = hbytes (·.1) h := ⟨_, rfl⟩
  rw [← hS] at hby hlen ⊢
  have hof := Lib.hid (fun (w : World) hT => dofB (.slice (some ⟨w.heap.size, 0, none⟩) 1 1) [S] (w.alloc (.cells #[.string ⟨S.toArray⟩] 9)) (StrsAt.made w 9 [S]) (by simp; omega) (by simp) hT)
  rw [show ([S] : List (List UInt8)).flatten = S from by simp] at hof
  have hZl := shaB_len S
  generalize shaB S = Z at hof hZl ⊢
  have hci : (Tryz.prog.info? 69).map (·.size) = some C.size := by rw [hCs]; kernel_rfl
  have hz := zid_run
  have q2 := zid_len.trans (id_size hZl).symm
  have q3 := id_info hZl
  have q4 := id_one Z
  generalize (vals zid).toArray = ZA at hz q2
  obtain ⟨Y, hY⟩ : ∃ Y, Y = (vals Z).toArray := ⟨_, rfl⟩
  rw [← hY] at q2 q3 q4 hof ⊢
  obtain ⟨W0, hW0⟩ : ∃ W0, W0 = (w.alloc (.cells C 69)).alloc (.cells ZA 36) := ⟨_, rfl⟩
  have hb0 : Below w.heap.size w W0 := by rw [hW0]; exact ((Below.refl _ w).alloc (Nat.le_refl _) _).alloc (by simp) _
  have hbox : W0.heap[w.heap.size]? = some (.cells C 69 (0, 0)) := by rw [hW0, Below.heap_alloc _ _ _ (by simp)]; exact heap_alloc_new w _
  have hres : W0.heap[w.heap.size + 1]? = some (.cells ZA 36 (0, 0)) := by rw [hW0]; have := heap_alloc_new (w.alloc (.cells C 69)) (.cells ZA 36); simpa using this
  have HW0 := Lib.hid hW0
  have Hres := Lib.hid hres
  have Hb0 := Lib.hid hb0
  have HT := Lib.hid hT
  clear hY hZl hS hC hCs hlen hW0 hres hb0 hT hL
  go_enter Tryz.func24, Tryz.ntmps24
  go_wp2_with (first | (rw [← HW0.out]; refine wpList_load_row rfl 69 (.tmp 1) rfl w.heap.size rfl 69 C (0, 0) _ hbox Tryz.underlying69 rfl hci ?_) | fail)
  refine (hby.out W0 Hb0.out).mono ?_
  rintro r w1 ⟨rfl, hb1⟩
  have HB1 := Lib.hid (Hb0.out.trans (hb1.mono Hb0.out.size))
  have Hres1 := Lib.hid ((hb1.block _ (Array.getElem?_eq_some_iff.1 Hres.out).1).trans Hres.out)
  have hT1 := Lib.hid (HT.out.old (HB1.out.trans (((Below.refl _ w1).alloc (Nat.le_refl _) (.cells #[.string ⟨S.toArray⟩] 9)).mono HB1.out.size)))
  clear hb1 hbox
  go_wp2_with fail
  refine (hof.out w1 hT1.out).mono ?_
  rintro r w2 ⟨rfl, hb2⟩
  have hb2' : Below w1.heap.size w1 w2 := ((Below.refl _ w1).alloc (Nat.le_refl _) (.cells #[.string ⟨S.toArray⟩] 9)).trans (hb2.mono (by simp))
  have hres2 : w2.heap[w.heap.size + 1]? = some (.cells ZA 36 (0, 0)) := (hb2'.block _ (Array.getElem?_eq_some_iff.1 Hres1.out).1).trans Hres1.out
  have hB2 := HB1.out.trans (hb2'.mono HB1.out.size)
  have L0 := Lib.hid (setRow_heap w2 (w.heap.size + 1) ZA Y 36 (0, 0) hres2)
  have LB := Lib.hid (hB2.trans (((Mod.refl (fun _ => False) w2).setRow (g := w.heap.size + 1) Y).to_below (by have := hB2.size; exact this) (by rintro k hk (h | h) <;> first | exact h | omega)))
  clear hb2 hb2' hB2
  go_wp2_with (refine wpList_store_row rfl rfl 36 (.tmp 2) (.tmp 6) rfl (w.heap.size + 1) rfl 36 ZA Y rfl hres2 q2 q3 q4 ?_)
  exact bodyPost_ret (v := .agg Y) (results_cell_row Tryz.results24 _ _ (w.heap.size + 1) 36 Y (0, 0) _ rfl L0.out Tryz.underlying36 rfl q3) rfl ⟨rfl, LB.out⟩
end Go.Proofs.YtjjkobbajbbgdaaGreatDoor

namespace Go.Proofs.YtjjkobbajbbgdaaGreatDoor
open Go.RowKit

theorem hinfo : (Tryz.prog.info? 69).map (·.size) = some 7 := by kernel_rfl
theorem hcells_one (h : Hd Nm) (q : Option Addr) (c : Nat) : ∀ v ∈ (hcells h q c).toList, v.oneCell' = true := by
  unfold hcells; intro v hv
  simp only [List.mem_cons, List.not_mem_nil, or_false] at hv
  rcases hv with rfl | rfl | rfl | rfl | rfl | rfl | rfl <;> rfl
/-- The first header. -/
def ghd : Hd Nm := ⟨0, 0, [], 0, 2, [], 0⟩
theorem ghd_ok : HOk ghd := ⟨by decide, by decide, by decide, by decide, by decide, by decide, by decide⟩
set_option maxRecDepth 20000 in
set_option maxHeartbeats 1000000 in
theorem genesis_any (w : World) : Calls Tryz.prog 23 #[] w fun r w' => r = .returned (.agg (hcells ghd none 0)) ∧ Below w.heap.size w w' := by
  have hg := heap_alloc_new w (.cells #[.int .i64 0, .int .i64 0, .string ⟨#[]⟩, .int .i64 0, .int .u64 0, .slice none 0 0, .int .i64 0] 69)
  have L0 := Lib.hid (setRow_heap _ w.heap.size _ #[.int .i64 0, .int .i64 0, .string ⟨#[]⟩, .int .i64 0, .int .u64 2, .slice none 0 0, .int .i64 0] 69 (0, 0) hg)
  go_enter Tryz.func23, Tryz.ntmps23
  go_wp2_with (refine wpList_store_row rfl rfl 69 (.tmp 0) (.tmp 1) rfl w.heap.size rfl 69 _ #[.int .i64 0, .int .i64 0, .string ⟨#[]⟩, .int .i64 0, .int .u64 2, .slice none 0 0, .int .i64 0] rfl hg rfl hinfo (hcells_one ghd none 0) ?_)
  exact bodyPost_ret (v := .agg (hcells ghd none 0)) (results_cell_row Tryz.results23 _ _ w.heap.size 69 _ (0, 0) _ rfl L0.out Tryz.underlying69 rfl hinfo) rfl ⟨rfl, stored_below⟩

/-- The first header's name. -/
def rootB : List UInt8 := shaB (hbytes (·.1) ghd)
theorem rootB_len : rootB.length = 32 := shaB_len _
set_option maxRecDepth 20000 in
set_option maxHeartbeats 1000000 in
theorem root_any (w : World) (hT : TabAt w) : Calls Tryz.prog 8 #[] w fun r w' => r = .returned (.agg (vals rootB).toArray) ∧ Below w.heap.size w w' := by
  have hz := zid_run
  have hZl := rootB_len
  have q2 := zid_len.trans (id_size hZl).symm
  have q3 := id_info hZl
  have q4 := id_one rootB
  have hid := Lib.hid (fun w (hT : TabAt w) => hid_any ghd none 0 w (Rd.nil _ _) ghd_ok hT)
  have hgen := Lib.hid genesis_any
  unfold ghd at hid hgen
  unfold hcells at hid hgen
  rw [show shaB (hbytes (·.1) (⟨0, 0, [], 0, 2, [], 0⟩ : Hd Nm)) = rootB from rfl] at hid
  generalize (vals zid).toArray = ZA at hz q2
  obtain ⟨Y, hY⟩ : ∃ Y, Y = (vals rootB).toArray := ⟨_, rfl⟩
  rw [← hY] at q2 q3 q4 hid ⊢
  clear hY hZl
  obtain ⟨W0, hW0⟩ : ∃ W0, W0 = w.alloc (.cells ZA 36) := ⟨_, rfl⟩
  have hb0 : Hid (Below w.heap.size w W0) := Lib.hid (by rw [hW0]; exact (Below.refl _ w).alloc (Nat.le_refl _) _)
  have hres : Hid (W0.heap[w.heap.size]? = some (.cells ZA 36 (0, 0))) := Lib.hid (by rw [hW0]; exact heap_alloc_new w _)
  have HT := Lib.hid hT
  have HW0 := Lib.hid hW0
  clear hW0 hT
  go_enter Tryz.func8, Tryz.ntmps8
  go_wp2_with fail
  rw [← HW0.out]
  refine (hgen.out W0).mono ?_
  rintro r w1 ⟨rfl, hb1⟩
  have B1 := Lib.hid (hb0.out.trans (hb1.mono hb0.out.size))
  have res1 := Lib.hid ((hb1.block _ (Array.getElem?_eq_some_iff.1 hres.out).1).trans hres.out)
  clear hb1
  go_wp2_with fail
  refine (hid.out w1 (HT.out.old B1.out)).mono ?_
  rintro r w2 ⟨rfl, hb2⟩
  have res2 := (hb2.block _ (Array.getElem?_eq_some_iff.1 res1.out).1).trans res1.out
  have B2 := B1.out.trans (hb2.mono B1.out.size)
  have L0 := Lib.hid (setRow_heap w2 w.heap.size ZA Y 36 (0, 0) res2)
  have LB := Lib.hid (B2.trans (((Mod.refl (fun _ => False) w2).setRow (g := w.heap.size) Y).to_below B2.size (by rintro k hk (h | h) <;> first | exact h | omega)))
  clear hb2 B2
  go_wp2_with (refine wpList_store_row rfl rfl 36 (.tmp 0) (.tmp 2) rfl w.heap.size rfl 36 ZA Y rfl res2 q2 q3 q4 ?_)
  exact bodyPost_ret (v := .agg Y) (results_cell_row Tryz.results8 _ _ w.heap.size 36 Y (0, 0) _ rfl L0.out Tryz.underlying36 rfl q3) rfl ⟨rfl, LB.out⟩
end Go.Proofs.YtjjkobbajbbgdaaGreatDoor

namespace Go.Proofs.YtjjkobbajbbgdaaGreatDoor
open Go.RowKit

/-- 'make([]byte, 32)'. -/
theorem wpList_makeB {ops : Array Oper} {rest : List Oper} {o : Oper} {a : Act} {Q : Exit → Act → World → Prop} {w : World} (hgd : o.guard = none) (l c : Operand) (hop : o.op = Op.makeSlice 66 l c)
    (hl : a.eval l = .int .i64 32) (hc : a.eval c = .int .i64 32)
    (hK : ∀ w', w'.heap[w.heap.size]? = some (.cells (vals zid).toArray 5 (0, 0)) → Below w.heap.size w w' → wpList Tryz.prog ops Q rest (a.put o.dst (.slice (some ⟨w.heap.size, 0, none⟩) 32 32)) w') :
    wpList Tryz.prog ops Q (o :: rest) a w := by
  obtain ⟨i, hi, hzz⟩ := Option.map_eq_some_iff.1 info_u8k
  simp only [Prod.mk.injEq] at hzz
  obtain ⟨hz, h1, h2⟩ := hzz
  refine wpList_make_full w hgd l c 66 hop 0 5 i (.int .u8 0) 1 Tryz.underlying66 hi hz h1 .i64 .i64 32 32 32 hl hc rfl rfl (by rw [h2]; decide) (by unfold maxLen; decide) (Nat.zero_le _) ?_
  intro w' hown hgrow
  refine hK w' ?_ ((Below.refl _ _).grown hgrow (Nat.le_refl _) (by intro k h; cases h))
  rcases hown.2 with ⟨h, _⟩ | ⟨g, cap, cur, h, _, hh, h3, h4, h5, h6⟩
  · cases h
  · simp only [Value.slice.injEq, Option.some.injEq, Addr.mk.injEq] at h
    obtain ⟨⟨rfl, _⟩, _, rfl⟩ := h
    rw [hh]
    have e : cur.toList = vals zid := by
      rw [List.take_of_length_le (by rw [Array.length_toList, h5]; exact Nat.le_refl _)] at h6
      rw [h6]; kernel_rfl
    rw [← e]

/-- A number's name. -/
def nameL (x : UInt8) : List UInt8 := (zid.set 0 x).set 31 (~~~x)
theorem nameL_len (x : UInt8) : (nameL x).length = 32 := by simp [nameL, zid]
theorem vals_set (L : List UInt8) (i : Nat) (x : UInt8) : (vals L).set i (.int .u8 (x.toNat : Int)) = vals (L.set i x) := by simp [vals, List.map_set]

theorem not_bits (x : UInt8) : bits BinOp.xor IntKind.u8 IntKind.u8.max (x.toNat : Int) = ((~~~x).toNat : Int) := by
  have h : ∀ n : Fin 256, bits BinOp.xor IntKind.u8 IntKind.u8.max (n.val : Int) = ((~~~(UInt8.ofNat n.val)).toNat : Int) := by decide +kernel
  have := h ⟨x.toNat, x.toNat_lt⟩
  simpa using this
theorem text_row {w : World} {g : Nat} {s : List UInt8} (hl : s.length = 32) (h : w.heap[g]? = some (.cells (vals s).toArray 5 (0, 0))) : (convert 66 9 (.slice (some ⟨g, 0, none⟩) 32 32)).run Tryz.prog w = .ok (.string ⟨s.toArray⟩) w := by
  rw [run_convert_bytes_arg w 66 5 Tryz.underlying66 Tryz.underlying5 g 0 32 32 (s.map fun x => (x.toNat : Int)) (by simpa using hl) (fun i hi => by
    rw [Nat.zero_add, cell_of_row w g i _ 5 (0, 0) h]
    simp [vals, List.getD, hl, hi]) 9 Tryz.underlying9]
  simp [strOfNums, Function.comp_def]
theorem name_row {w1 : World} {g : Nat} (x : UInt8) (h : w1.heap[g]? = some (.cells (vals zid).toArray 5 (0, 0))) : ((w1.setCell ⟨g, 0, none⟩ (.int .u8 (x.toNat : Int))).setCell ⟨g, 31, none⟩ (.int .u8 ((~~~x).toNat : Int))).heap[g]? = some (.cells (vals (nameL x)).toArray 5 (0, 0)) := by
  have h1 := heap_setCell_same w1 g 0 _ 5 (.int .u8 (x.toNat : Int)) h
  have e1 : (vals zid).toArray.setIfInBounds 0 (.int .u8 (x.toNat : Int)) = (vals (zid.set 0 x)).toArray := by rw [← vals_set]; exact List.setIfInBounds_toArray _ _ _
  rw [e1] at h1
  have h2 := heap_setCell_same _ g 31 _ 5 (.int .u8 ((~~~x).toNat : Int)) h1
  have e2 : (vals (zid.set 0 x)).toArray.setIfInBounds 31 (.int .u8 ((~~~x).toNat : Int)) = (vals (nameL x)).toArray := by unfold nameL; rw [← vals_set]; exact List.setIfInBounds_toArray _ _ _
  rw [e2] at h2
  exact h2

set_option maxRecDepth 20000 in
set_option maxHeartbeats 4000000 in
theorem lawname_any (x : UInt8) (w : World) : Calls Tryz.prog 9 #[.int .u8 (x.toNat : Int)] w fun r w' => r = .returned (.string ⟨(nameL x).toArray⟩) ∧ Below w.heap.size w w' := by
  have hx := x.toNat_lt
  have hnb := not_bits x
  have HN := Lib.hid (fun (w1 : World) (h : w1.heap[w.heap.size]? = some (.cells (vals zid).toArray 5 (0, 0))) => text_row (nameL_len x) (name_row x h))
  obtain ⟨y, hy⟩ : ∃ y : Int, y = ((~~~x).toNat : Int) := ⟨_, rfl⟩
  rw [← hy] at hnb HN
  clear hy
  generalize nameL x = N at HN ⊢
  go_enter Tryz.func9, Tryz.ntmps9
  go_wp2_with (at_make; refine wpList_makeB rfl _ _ rfl rfl rfl ?_; intro w1 hh hb; have HB := Lib.hid hb; have c0 : w1.cell? ⟨w.heap.size, 0, none⟩ = some (.int .u8 0) := cell_of_row w1 w.heap.size 0 _ 5 (0, 0) hh; have f0 := frozen_of_row w1 w.heap.size 0 _ 5 hh; have c31 : w1.cell? ⟨w.heap.size, 31, none⟩ = some (.int .u8 0) := cell_of_row w1 w.heap.size 31 _ 5 (0, 0) hh; have f31 := frozen_of_row w1 w.heap.size 31 _ 5 hh; have hcv := HN.out w1 hh; clear hh hb)
  go_ret
  exact ⟨rfl, (HB.out.setCell (by exact Nat.le_refl _) _).setCell (by exact Nat.le_refl _) _⟩
end Go.Proofs.YtjjkobbajbbgdaaGreatDoor
