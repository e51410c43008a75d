/- A few parents, with whole names. -/
import Derived.Test.YtkejidmomnmdbaaDoorH14
namespace Go.Proofs.YtkejidmomnmdbaaDoor
open Go.RowKit

theorem rhinfo : (Tryd.prog.info? 39).map (·.size) = some 7 := by kernel_rfl
theorem info_strH : (Tryd.prog.info? 9).map (fun i => (i.zero, i.size, i.bytes)) = some (some (.string ⟨#[]⟩), 1, 16) := by kernel_rfl
def fewH (h : Hd (List UInt8)) : Hd (List UInt8) := ⟨h.ht, h.mi, h.tk.take 10, h.wi, h.pw, (h.ps.take 7).map idL, h.sa⟩

set_option maxRecDepth 20000 in
set_option maxHeartbeats 4000000 in
theorem few_any (h : Hd (List UInt8)) (ao : Option Addr) (cap : Nat) (w : World) (hL : Rd encS w ao h.ps) (hk : (h.tk.length : Int) ≤ 9223372036854775807) :
    Calls Tryd.prog 27 #[.agg (hcells h ao cap)] w fun r w' => ∃ q c, r = .returned (.agg (hcells (fewH h) q c)) ∧ Rw encS 9 w' q c (fewH h).ps ∧ Below w.heap.size w w' ∧ ∀ a, q = some a → w.heap.size ≤ a.block := by
  obtain ⟨ht, mi, tk, wi, pw, ps, sa⟩ := h
  unfold fewH
  unfold hcells
  simp only at hL hk ⊢
  obtain ⟨n, hnp⟩ : ∃ n, n = ps.length := ⟨_, rfl⟩
  rw [← hnp]
  have HL := Lib.hid hL
  obtain ⟨W0, hW0⟩ : ∃ W0, W0 = (w.alloc (.cells #[.int .i64 ht, .int .i64 mi, .string ⟨tk.toArray⟩, .int .i64 wi, .int .u64 (pw : Int), .slice ao n cap, .int .i64 sa] 39)).alloc (.cells #[.int .i64 0, .int .i64 0, .string ⟨#[]⟩, .int .i64 0, .int .u64 0, .slice none 0 0, .int .i64 0] 39) := ⟨_, rfl⟩
  have b0 : Below w.heap.size w W0 := by rw [hW0]; exact ((Below.refl _ w).alloc (Nat.le_refl _) _).alloc (by simp) _
  have bx0 : W0.heap[w.heap.size]? = some (.cells #[.int .i64 ht, .int .i64 mi, .string ⟨tk.toArray⟩, .int .i64 wi, .int .u64 (pw : Int), .slice ao n cap, .int .i64 sa] 39 (0, 0)) := by rw [hW0, Below.heap_alloc _ _ _ (by simp)]; exact heap_alloc_new w _
  have rs0 : W0.heap[w.heap.size + 1]? = some (.cells #[.int .i64 0, .int .i64 0, .string ⟨#[]⟩, .int .i64 0, .int .u64 0, .slice none 0 0, .int .i64 0] 39 (0, 0)) := by rw [hW0]; have := heap_alloc_new (w.alloc (.cells #[.int .i64 ht, .int .i64 mi, .string ⟨tk.toArray⟩, .int .i64 wi, .int .u64 (pw : Int), .slice ao n cap, .int .i64 sa] 39)) (.cells #[.int .i64 0, .int .i64 0, .string ⟨#[]⟩, .int .i64 0, .int .u64 0, .slice none 0 0, .int .i64 0] 39); simpa using this
  have st : HvSt w (w.heap.size + 1) w.heap.size 39 #[.int .i64 ht, .int .i64 mi, .string ⟨tk.toArray⟩, .int .i64 wi, .int .u64 (pw : Int), .slice ao n cap, .int .i64 sa] W0 := ⟨bx0, b0, by omega, by omega, by omega, #[.int .i64 0, .int .i64 0, .string ⟨#[]⟩, .int .i64 0, .int .u64 0, .slice none 0 0, .int .i64 0], rfl, rs0⟩
  have hcut : Hid (∀ w, Calls Tryd.prog 20 #[.string ⟨tk.toArray⟩, .int .i64 10] w fun r w' => r = .returned (.string ⟨(tk.take 10).toArray⟩) ∧ w = w') := Lib.hid (fun w => cut_any tk 10 w hk (by omega))
  obtain ⟨tk2, htk⟩ : ∃ t, t = tk.take 10 := ⟨_, rfl⟩
  obtain ⟨P7, hP7⟩ : ∃ P, P = (ps.take 7).map idL := ⟨_, rfl⟩
  rw [← htk] at hcut ⊢
  rw [← hP7]
  have HP7 := Lib.hid hP7
  clear hP7
  have HW0 := Lib.hid hW0
  have Hnp := Lib.hid hnp
  clear hL hnp hW0 b0 bx0 rs0 htk hk
  go_enter Tryd.func27, Tryd.ntmps27
  go_wp2_with fail
  rw [← HW0.out]
  refine (hcut.out W0).mono ?_
  rintro r w1 ⟨rfl, rfl⟩
  have c2 : W0.cell? ⟨w.heap.size, 2, none⟩ = some (.string ⟨tk.toArray⟩) := st.cell 2
  have f2 := st.froz 2
  have st2 : HvSt w (w.heap.size + 1) w.heap.size 39 #[.int .i64 ht, .int .i64 mi, .string ⟨tk2.toArray⟩, .int .i64 wi, .int .u64 (pw : Int), .slice ao n cap, .int .i64 sa] (W0.setCell ⟨w.heap.size, 2, none⟩ (.string ⟨tk2.toArray⟩)) := st.put 2 _
  have ST := Lib.hid st2
  clear st st2 hcut
  go_wp2_with fail
  clear c2 f2
  go_loopw [3, 4] (fun s3 s4 wr => ∃ k q c, k ≤ n ∧ k ≤ 7 ∧ s3 = .slice q k c ∧ s4 = .int .i64 (k : Int) ∧ Hid (HvSt w (w.heap.size + 1) w.heap.size 39 #[.int .i64 ht, .int .i64 mi, .string ⟨tk2.toArray⟩, .int .i64 wi, .int .u64 (pw : Int), .slice ao n cap, .int .i64 sa] wr ∧ Rw encS 9 wr q c ((ps.map idL).take k) ∧ ∀ a, q = some a → w.heap.size + 1 < a.block)) (fun _ i _ => 7 - (intOf i).toNat)
  case atStart => exact ⟨0, none, 0, Nat.zero_le _, by omega, rfl, rfl, Lib.hid ⟨ST.out, Rw.empty _ _, fun a e => by cases e⟩⟩
  case round =>
    clear ST
    obtain ⟨k, q, c, hk, hk7, rfl, rfl, hst⟩ := hrel
    by_cases hlt : k < n
    · by_cases hl7 : k < 7
      · obtain ⟨st0, rw0, fr0⟩ := hst.out
        clear hst
        have hkp : k < ps.length := by rw [← Hnp.out]; exact hlt
        obtain ⟨bs, off, rfl, hbs, cx⟩ := (HL.out.old st0.m).str k hkp
        have c5 : wr.cell? ⟨w.heap.size, 5, none⟩ = some (.slice (some ⟨bs, off, none⟩) n cap) := st0.cell 5
        have hnx : (ps.map idL).take (k + 1) = (ps.map idL).take k ++ [idL ps[k]] := by rw [List.take_succ_eq_append_getElem (by simpa using hkp), List.getElem_map]
        have hDl : ((ps.map idL).take k).length = k := by rw [List.length_take, List.length_map]; omega
        obtain ⟨xx, hx⟩ : ∃ x, x = ps[k] := ⟨_, rfl⟩
        rw [← hx] at cx hnx
        have hyl := idL_len xx
        have hidof : Hid (∀ w, Calls Tryd.prog 40 #[.string ⟨xx.toArray⟩] w fun r w' => r = .returned (.agg (vals (idL xx)).toArray) ∧ Below w.heap.size w w') := Lib.hid (fun w => idof_any xx w)
        generalize idL xx = y at hnx hyl hidof
        generalize (ps.map idL).take k = D at rw0 hDl hnx
        have Hnx := Lib.hid hnx
        have HDl := Lib.hid hDl
        have Hst := Lib.hid st0
        have Hrw := Lib.hid rw0
        have Hfr := Lib.hid fr0
        have Hyl := Lib.hid hyl
        have i0 : (0 : Int) ≤ k := by omega
        have i1 : (k : Int) < n := by omega
        have i7 : (k : Int) < 7 := by omega
        clear hnx hDl st0 rw0 fr0 hkp hx hyl
        go_wp2_with fail
        refine (hidof.out wr).mono ?_
        rintro r w2 ⟨rfl, hb2⟩
        clear cx c5 hidof
        have hz := zid_run
        have q2 := zid_len.trans (id_size Hyl.out).symm
        have q3 := id_info Hyl.out
        have q4 := id_one y
        have hI := IdAt.stored (w := w2) (A := (vals zid).toArray) Hyl.out
        have hBz := stored_below (w := w2) (A := (vals zid).toArray) (C := (vals y).toArray) (T := 25)
        have htx := Lib.hid hI.text
        have HB := Lib.hid (hb2.trans (hBz.mono hb2.size))
        clear hI hBz hb2
        generalize (vals zid).toArray = ZA at hz q2 htx HB
        go_upto_region 7 with (refine wpList_store_row rfl rfl 25 (.tmp 5) (.tmp 26) rfl w2.heap.size rfl 25 ZA (vals y).toArray rfl (heap_alloc_new _ _) q2 q3 q4 ?_)
        have htc := htx.out
        generalize (w2.alloc (.cells ZA 25)).setRow w2.heap.size (vals y).toArray = W3 at htc HB ⊢
        clear htx hz q2 q3 q4
        have hY : Rd encS (W3.alloc (.cells #[.string ⟨y.toArray⟩] 9)) (some ⟨W3.heap.size, 0, none⟩) [y] := Rd.made encS W3 9 [y] (by simp [maxLen])
        have hb3 := HB.out.trans (((Below.refl _ W3).alloc (Nat.le_refl _) (.cells #[.string ⟨y.toArray⟩] 9)).mono HB.out.size)
        have st4 := Lib.hid (Hst.out.grow hb3)
        have rw4 := Hrw.out.old hb3
        clear hb3 Hst Hrw
        go_wp2_with (at_builtin; refine wpList_pushR encS rfl _ _ 35 9 (.string ⟨#[]⟩) 16 rfl Tryd.underlying35 info_strH rfl (by decide) q c k D HDl.out rfl rw4 (some ⟨W3.heap.size, 0, none⟩) 1 1 [y] rfl rfl hY (by omega) ?_; intro q' c' W5 hP)
        have S5 : Hid (HvSt w (w.heap.size + 1) w.heap.size 39 #[.int .i64 ht, .int .i64 mi, .string ⟨tk2.toArray⟩, .int .i64 wi, .int .u64 (pw : Int), .slice (some ⟨bs, off, none⟩) n cap, .int .i64 sa] W5 ∧ Rw encS 9 W5 q' c' (D ++ [y]) ∧ ∀ a, q' = some a → w.heap.size + 1 < a.block) := Lib.hid (by
          obtain ⟨hR, hM, hor⟩ := hP
          refine ⟨st4.out.kept hM (by rintro i ⟨a, e, rfl⟩; have := Hfr.out a e; omega), hR, ?_⟩
          intro a e
          rcases hor a e with h | h
          · exact Hfr.out a h
          · obtain ⟨Z, _, hZ⟩ := st4.out.res
            exact Nat.lt_of_lt_of_le (Array.getElem?_eq_some_iff.1 hZ).1 h)
        clear hP hY rw4 st4 htc
        go_wp2_with fail
        go_roundw
        case rel => exact ⟨k + 1, q', c', by omega, by omega, rfl, by go_num, Lib.hid (by rw [Hnx.out]; exact S5.out)⟩
        case measure => simp [intOf]; omega
      · have i1 : (k : Int) < n := by omega
        have i7 : ¬ (k : Int) < 7 := by omega
        obtain ⟨st0, rw0, fr0⟩ := hst.out
        clear hst
        have c5 : wr.cell? ⟨w.heap.size, 5, none⟩ = some (.slice ao n cap) := st0.cell 5
        have f5 := st0.froz 5
        have st3 : HvSt w (w.heap.size + 1) w.heap.size 39 #[.int .i64 ht, .int .i64 mi, .string ⟨tk2.toArray⟩, .int .i64 wi, .int .u64 (pw : Int), .slice q k c, .int .i64 sa] (wr.setCell ⟨w.heap.size, 5, none⟩ (.slice q k c)) := st0.put 5 _
        have rw3 : Rw encS 9 (wr.setCell ⟨w.heap.size, 5, none⟩ (.slice q k c)) q c ((ps.map idL).take k) := rw0.kept ((Mod.refl (· = w.heap.size) wr).setCell (p := ⟨w.heap.size, 5, none⟩) (fun _ => rfl) _) (fun a e h => by have := fr0 a e; omega)
        obtain ⟨W9, hW9⟩ : ∃ W, W = wr.setCell ⟨w.heap.size, 5, none⟩ (.slice q k c) := ⟨_, rfl⟩
        rw [← hW9] at st3 rw3
        have box := st3.box
        obtain ⟨Z, hZs, hZ⟩ := st3.res
        obtain ⟨Y, hY⟩ : ∃ Y : Array Value, Y = #[.int .i64 ht, .int .i64 mi, .string ⟨tk2.toArray⟩, .int .i64 wi, .int .u64 (pw : Int), .slice q k c, .int .i64 sa] := ⟨_, rfl⟩
        rw [← hY] at box
        have hYs : Y.size = 7 := by rw [hY]; rfl
        have q3 : (Tryd.prog.info? 39).map (·.size) = some Y.size := by rw [hYs]; exact rhinfo
        have q2 : Z.size = Y.size := by rw [hZs, hYs]
        have q4 : ∀ v ∈ Y.toList, v.oneCell' = true := by
          rw [hY]; intro v hv
          simp only [List.mem_cons, List.not_mem_nil, or_false] at hv
          rcases hv with rfl | rfl | rfl | rfl | rfl | rfl | rfl <;> rfl
        have L0 := Lib.hid (setRow_heap W9 (w.heap.size + 1) Z Y 39 (0, 0) hZ)
        have LM : Hid (Below w.heap.size w (W9.setRow (w.heap.size + 1) Y)) := Lib.hid (st3.m.trans (((Mod.refl (fun _ => False) W9).setRow (g := w.heap.size + 1) Y).to_below st3.m.size (by rintro i hi (h | h) <;> first | exact h | omega)))
        have LR : Hid (Rw encS 9 (W9.setRow (w.heap.size + 1) Y) q c ((ps.map idL).take k)) := Lib.hid (rw3.kept ((Mod.refl (fun _ => False) W9).setRow (g := w.heap.size + 1) Y) (fun a e h => by have := fr0 a e; rcases h with h | h; exact h; omega))
        have Hfr := Lib.hid (fun a (e : q = some a) => by have := fr0 a e; (show w.heap.size ≤ a.block); omega)
        have HY := Lib.hid hY
        have hke : Hid ((ps.map idL).take k = P7 ∧ k = P7.length) := Lib.hid (by rw [HP7.out, List.length_map, List.map_take]; have e := Hnp.out; refine ⟨?_, by rw [List.length_take]; omega⟩; by_cases h7 : k = 7; rw [h7]; rw [List.take_of_length_le (by rw [List.length_map]; omega), List.take_of_length_le (by rw [List.length_map]; omega)])
        have HW9 := Lib.hid hW9
        clear st0 st3 hY rw0 rw3 fr0 hW9
        go_wp2_with (first | (rw [← HW9.out]; refine wpList_load_row rfl 39 (.tmp 1) rfl w.heap.size rfl 39 Y (0, 0) _ box Tryd.underlying39 rfl q3 ?_) | (refine wpList_store_row rfl rfl 39 (.tmp 2) (.tmp 34) rfl (w.heap.size + 1) rfl 39 Z Y rfl hZ q2 q3 q4 ?_))
        exact bodyPost_ret (v := .agg Y) (results_cell_row Tryd.results27 _ _ (w.heap.size + 1) 39 Y (0, 0) _ rfl L0.out Tryd.underlying39 rfl q3) rfl ⟨q, c, by rw [HY.out, ← hke.out.2], by rw [← hke.out.1]; exact LR.out, LM.out, Hfr.out⟩
    · have i1 : ¬ (k : Int) < n := by omega
      obtain ⟨st0, rw0, fr0⟩ := hst.out
      clear hst
      have c5 : wr.cell? ⟨w.heap.size, 5, none⟩ = some (.slice ao n cap) := st0.cell 5
      have f5 := st0.froz 5
      have st3 : HvSt w (w.heap.size + 1) w.heap.size 39 #[.int .i64 ht, .int .i64 mi, .string ⟨tk2.toArray⟩, .int .i64 wi, .int .u64 (pw : Int), .slice q k c, .int .i64 sa] (wr.setCell ⟨w.heap.size, 5, none⟩ (.slice q k c)) := st0.put 5 _
      have rw3 : Rw encS 9 (wr.setCell ⟨w.heap.size, 5, none⟩ (.slice q k c)) q c ((ps.map idL).take k) := rw0.kept ((Mod.refl (· = w.heap.size) wr).setCell (p := ⟨w.heap.size, 5, none⟩) (fun _ => rfl) _) (fun a e h => by have := fr0 a e; omega)
      obtain ⟨W9, hW9⟩ : ∃ W, W = wr.setCell ⟨w.heap.size, 5, none⟩ (.slice q k c) := ⟨_, rfl⟩
      rw [← hW9] at st3 rw3
      have box := st3.box
      obtain ⟨Z, hZs, hZ⟩ := st3.res
      obtain ⟨Y, hY⟩ : ∃ Y : Array Value, Y = #[.int .i64 ht, .int .i64 mi, .string ⟨tk2.toArray⟩, .int .i64 wi, .int .u64 (pw : Int), .slice q k c, .int .i64 sa] := ⟨_, rfl⟩
      rw [← hY] at box
      have hYs : Y.size = 7 := by rw [hY]; rfl
      have q3 : (Tryd.prog.info? 39).map (·.size) = some Y.size := by rw [hYs]; exact rhinfo
      have q2 : Z.size = Y.size := by rw [hZs, hYs]
      have q4 : ∀ v ∈ Y.toList, v.oneCell' = true := by
        rw [hY]; intro v hv
        simp only [List.mem_cons, List.not_mem_nil, or_false] at hv
        rcases hv with rfl | rfl | rfl | rfl | rfl | rfl | rfl <;> rfl
      have L0 := Lib.hid (setRow_heap W9 (w.heap.size + 1) Z Y 39 (0, 0) hZ)
      have LM : Hid (Below w.heap.size w (W9.setRow (w.heap.size + 1) Y)) := Lib.hid (st3.m.trans (((Mod.refl (fun _ => False) W9).setRow (g := w.heap.size + 1) Y).to_below st3.m.size (by rintro i hi (h | h) <;> first | exact h | omega)))
      have LR : Hid (Rw encS 9 (W9.setRow (w.heap.size + 1) Y) q c ((ps.map idL).take k)) := Lib.hid (rw3.kept ((Mod.refl (fun _ => False) W9).setRow (g := w.heap.size + 1) Y) (fun a e h => by have := fr0 a e; rcases h with h | h; exact h; omega))
      have Hfr := Lib.hid (fun a (e : q = some a) => by have := fr0 a e; (show w.heap.size ≤ a.block); omega)
      have HY := Lib.hid hY
      have hke : Hid ((ps.map idL).take k = P7 ∧ k = P7.length) := Lib.hid (by rw [HP7.out, List.length_map, List.map_take]; have e := Hnp.out; refine ⟨?_, by rw [List.length_take]; omega⟩; by_cases h7 : k = 7; rw [h7]; rw [List.take_of_length_le (by rw [List.length_map]; omega), List.take_of_length_le (by rw [List.length_map]; omega)])
      have HW9 := Lib.hid hW9
      clear st0 st3 hY rw0 rw3 fr0 hW9
      go_wp2_with (first | (rw [← HW9.out]; refine wpList_load_row rfl 39 (.tmp 1) rfl w.heap.size rfl 39 Y (0, 0) _ box Tryd.underlying39 rfl q3 ?_) | (refine wpList_store_row rfl rfl 39 (.tmp 2) (.tmp 34) rfl (w.heap.size + 1) rfl 39 Z Y rfl hZ q2 q3 q4 ?_))
      exact bodyPost_ret (v := .agg Y) (results_cell_row Tryd.results27 _ _ (w.heap.size + 1) 39 Y (0, 0) _ rfl L0.out Tryd.underlying39 rfl q3) rfl ⟨q, c, by rw [HY.out, ← hke.out.2], by rw [← hke.out.1]; exact LR.out, LM.out, Hfr.out⟩
end Go.Proofs.YtkejidmomnmdbaaDoor
