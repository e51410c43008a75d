/- Texts 4: what the laws lean on. -/
import Derived.Test.YtemnebbdaljfbaaGreatDoorZ3
import Derived.OwnWalk
import Derived.Test.YtemnebbdaljfbaaGreatDoorSort
import Derived.Test.YtemnebbdaljfbaaGreatDoorShelf
import Derived.Great.FillDense
import Derived.Great.BuildSlice
set_option linter.unusedVariables false
set_option linter.unusedSimpArgs false
namespace Go.Proofs.YtemnebbdaljfbaaGreatDoor
open Go.RowKit

theorem rhinfo : (Tryz.prog.info? 29).map (·.size) = some 7 := by kernel_rfl
theorem info_strH : (Tryz.prog.info? 9).map (fun i => (i.zero, i.size, i.bytes)) = some (some (.string ⟨#[]⟩), 1, 16) := by kernel_rfl
def fewH (h : Hd (List UInt8)) : Hd (List UInt8) := ⟨h.ht, h.mi, h.tk.take 10, h.wi, h.pw, (h.ps.take 7).map idL, h.sa⟩

set_option maxRecDepth 20000 in
set_option maxHeartbeats 4000000 in
theorem few_any (h : Hd (List UInt8)) (ao : Option Addr) (cap : Nat) (w : World) (hL : Rd encS w ao h.ps) (hk : (h.tk.length : Int) ≤ 9223372036854775807) :
    Calls Tryz.prog 84 #[.agg (hcells h ao cap)] w fun r w' => ∃ q c, r = .returned (.agg (hcells (fewH h) q c)) ∧ Rw encS 9 w' q c (fewH h).ps ∧ Below w.heap.size w w' ∧ ∀ a, q = some a → w.heap.size ≤ a.block := by
  obtain ⟨ht, mi, tk, wi, pw, ps, sa⟩ := h
  unfold fewH
  unfold hcells
  simp only at hL hk ⊢
  obtain ⟨n, hnp⟩ : ∃ n, n = ps.length := ⟨_, rfl⟩
  rw [← hnp]
  have HL := Lib.hid hL
  obtain ⟨W0, hW0⟩ : ∃ W0, W0 = (w.alloc (.cells #[.int .i64 ht, .int .i64 mi, .string ⟨tk.toArray⟩, .int .i64 wi, .int .u64 (pw : Int), .slice ao n cap, .int .i64 sa] 29)).alloc (.cells #[.int .i64 0, .int .i64 0, .string ⟨#[]⟩, .int .i64 0, .int .u64 0, .slice none 0 0, .int .i64 0] 29) := ⟨_, rfl⟩
  have b0 : Below w.heap.size w W0 := by rw [hW0]; exact ((Below.refl _ w).alloc (Nat.le_refl _) _).alloc (by simp) _
  have bx0 : W0.heap[w.heap.size]? = some (.cells #[.int .i64 ht, .int .i64 mi, .string ⟨tk.toArray⟩, .int .i64 wi, .int .u64 (pw : Int), .slice ao n cap, .int .i64 sa] 29 (0, 0)) := by rw [hW0, Below.heap_alloc _ _ _ (by simp)]; exact heap_alloc_new w _
  have rs0 : W0.heap[w.heap.size + 1]? = some (.cells #[.int .i64 0, .int .i64 0, .string ⟨#[]⟩, .int .i64 0, .int .u64 0, .slice none 0 0, .int .i64 0] 29 (0, 0)) := by rw [hW0]; have := heap_alloc_new (w.alloc (.cells #[.int .i64 ht, .int .i64 mi, .string ⟨tk.toArray⟩, .int .i64 wi, .int .u64 (pw : Int), .slice ao n cap, .int .i64 sa] 29)) (.cells #[.int .i64 0, .int .i64 0, .string ⟨#[]⟩, .int .i64 0, .int .u64 0, .slice none 0 0, .int .i64 0] 29); simpa using this
  have st : HvSt w (w.heap.size + 1) w.heap.size 29 #[.int .i64 ht, .int .i64 mi, .string ⟨tk.toArray⟩, .int .i64 wi, .int .u64 (pw : Int), .slice ao n cap, .int .i64 sa] W0 := ⟨bx0, b0, by omega, by omega, by omega, #[.int .i64 0, .int .i64 0, .string ⟨#[]⟩, .int .i64 0, .int .u64 0, .slice none 0 0, .int .i64 0], rfl, rs0⟩
  have hcut : Hid (∀ w, Calls Tryz.prog 25 #[.string ⟨tk.toArray⟩, .int .i64 10] w fun r w' => r = .returned (.string ⟨(tk.take 10).toArray⟩) ∧ w = w') := Lib.hid (fun w => cut_any tk 10 w hk (by omega))
  obtain ⟨tk2, htk⟩ : ∃ t, t = tk.take 10 := ⟨_, rfl⟩
  obtain ⟨P7, hP7⟩ : ∃ P, P = (ps.take 7).map idL := ⟨_, rfl⟩
  rw [← htk] at hcut ⊢
  rw [← hP7]
  have HP7 := Lib.hid hP7
  clear hP7
  have HW0 := Lib.hid hW0
  have Hnp := Lib.hid hnp
  clear hL hnp hW0 b0 bx0 rs0 htk hk
  go_enter Tryz.func84, Tryz.ntmps84
  go_wp2_with fail
  rw [← HW0.out]
  refine (hcut.out W0).mono ?_
  rintro r w1 ⟨rfl, rfl⟩
  have c2 : W0.cell? ⟨w.heap.size, 2, none⟩ = some (.string ⟨tk.toArray⟩) := st.cell 2
  have f2 := st.froz 2
  have st2 : HvSt w (w.heap.size + 1) w.heap.size 29 #[.int .i64 ht, .int .i64 mi, .string ⟨tk2.toArray⟩, .int .i64 wi, .int .u64 (pw : Int), .slice ao n cap, .int .i64 sa] (W0.setCell ⟨w.heap.size, 2, none⟩ (.string ⟨tk2.toArray⟩)) := st.put 2 _
  have ST := Lib.hid st2
  clear st st2 hcut
  go_wp2_with fail
  clear c2 f2
  go_loopw [3, 4] (fun s3 s4 wr => ∃ k q c, k ≤ n ∧ k ≤ 7 ∧ s3 = .slice q k c ∧ s4 = .int .i64 (k : Int) ∧ Hid (HvSt w (w.heap.size + 1) w.heap.size 29 #[.int .i64 ht, .int .i64 mi, .string ⟨tk2.toArray⟩, .int .i64 wi, .int .u64 (pw : Int), .slice ao n cap, .int .i64 sa] wr ∧ Rw encS 9 wr q c ((ps.map idL).take k) ∧ ∀ a, q = some a → w.heap.size + 1 < a.block)) (fun _ i _ => 7 - (intOf i).toNat)
  case atStart => exact ⟨0, none, 0, Nat.zero_le _, by omega, rfl, rfl, Lib.hid ⟨ST.out, Rw.empty _ _, fun a e => by cases e⟩⟩
  case round =>
    clear ST
    obtain ⟨k, q, c, hk, hk7, rfl, rfl, hst⟩ := hrel
    by_cases hlt : k < n
    · by_cases hl7 : k < 7
      · obtain ⟨st0, rw0, fr0⟩ := hst.out
        clear hst
        have hkp : k < ps.length := by rw [← Hnp.out]; exact hlt
        obtain ⟨bs, off, rfl, hbs, cx⟩ := (HL.out.old st0.m).str k hkp
        have c5 : wr.cell? ⟨w.heap.size, 5, none⟩ = some (.slice (some ⟨bs, off, none⟩) n cap) := st0.cell 5
        have hnx : (ps.map idL).take (k + 1) = (ps.map idL).take k ++ [idL ps[k]] := by rw [List.take_succ_eq_append_getElem (by simpa using hkp), List.getElem_map]
        have hDl : ((ps.map idL).take k).length = k := by rw [List.length_take, List.length_map]; omega
        obtain ⟨xx, hx⟩ : ∃ x, x = ps[k] := ⟨_, rfl⟩
        rw [← hx] at cx hnx
        have hyl := idL_len xx
        have hidof : Hid (∀ w, Calls Tryz.prog 48 #[.string ⟨xx.toArray⟩] w fun r w' => r = .returned (.agg (vals (idL xx)).toArray) ∧ Below w.heap.size w w') := Lib.hid (fun w => idof_any xx w)
        generalize idL xx = y at hnx hyl hidof
        generalize (ps.map idL).take k = D at rw0 hDl hnx
        have Hnx := Lib.hid hnx
        have HDl := Lib.hid hDl
        have Hst := Lib.hid st0
        have Hrw := Lib.hid rw0
        have Hfr := Lib.hid fr0
        have Hyl := Lib.hid hyl
        have i0 : (0 : Int) ≤ k := by omega
        have i1 : (k : Int) < n := by omega
        have i7 : (k : Int) < 7 := by omega
        clear hnx hDl st0 rw0 fr0 hkp hx hyl
        go_wp2_with fail
        refine (hidof.out wr).mono ?_
        rintro r w2 ⟨rfl, hb2⟩
        clear cx c5 hidof
        have hz := zid_run
        have q2 := zid_len.trans (id_size Hyl.out).symm
        have q3 := id_info Hyl.out
        have q4 := id_one y
        have hI := IdAt.stored (w := w2) (A := (vals zid).toArray) Hyl.out
        have hBz := stored_below (w := w2) (A := (vals zid).toArray) (C := (vals y).toArray) (T := 70)
        have htx := Lib.hid hI.text
        have HB := Lib.hid (hb2.trans (hBz.mono hb2.size))
        clear hI hBz hb2
        generalize (vals zid).toArray = ZA at hz q2 htx HB
        go_upto_region 7 with (refine wpList_store_row rfl rfl 70 (.tmp 5) (.tmp 26) rfl w2.heap.size rfl 70 ZA (vals y).toArray rfl (heap_alloc_new _ _) q2 q3 q4 ?_)
        have htc := htx.out
        generalize (w2.alloc (.cells ZA 70)).setRow w2.heap.size (vals y).toArray = W3 at htc HB ⊢
        clear htx hz q2 q3 q4
        have hY : Rd encS (W3.alloc (.cells #[.string ⟨y.toArray⟩] 9)) (some ⟨W3.heap.size, 0, none⟩) [y] := Rd.made encS W3 9 [y] (by simp [maxLen])
        have hb3 := HB.out.trans (((Below.refl _ W3).alloc (Nat.le_refl _) (.cells #[.string ⟨y.toArray⟩] 9)).mono HB.out.size)
        have st4 := Lib.hid (Hst.out.grow hb3)
        have rw4 := Hrw.out.old hb3
        clear hb3 Hst Hrw
        go_wp2_with (at_builtin; refine wpList_pushR encS rfl _ _ 27 9 (.string ⟨#[]⟩) 16 rfl Tryz.underlying27 info_strH rfl (by decide) q c k D HDl.out rfl rw4 (some ⟨W3.heap.size, 0, none⟩) 1 1 [y] rfl rfl hY (by omega) ?_; intro q' c' W5 hP)
        have S5 : Hid (HvSt w (w.heap.size + 1) w.heap.size 29 #[.int .i64 ht, .int .i64 mi, .string ⟨tk2.toArray⟩, .int .i64 wi, .int .u64 (pw : Int), .slice (some ⟨bs, off, none⟩) n cap, .int .i64 sa] W5 ∧ Rw encS 9 W5 q' c' (D ++ [y]) ∧ ∀ a, q' = some a → w.heap.size + 1 < a.block) := Lib.hid (by
          obtain ⟨hR, hM, hor⟩ := hP
          refine ⟨st4.out.kept hM (by rintro i ⟨a, e, rfl⟩; have := Hfr.out a e; omega), hR, ?_⟩
          intro a e
          rcases hor a e with h | h
          · exact Hfr.out a h
          · obtain ⟨Z, _, hZ⟩ := st4.out.res
            exact Nat.lt_of_lt_of_le (Array.getElem?_eq_some_iff.1 hZ).1 h)
        clear hP hY rw4 st4 htc
        go_wp2_with fail
        go_roundw
        case rel => exact ⟨k + 1, q', c', by omega, by omega, rfl, by go_num, Lib.hid (by rw [Hnx.out]; exact S5.out)⟩
        case measure => simp [intOf]; omega
      · have i1 : (k : Int) < n := by omega
        have i7 : ¬ (k : Int) < 7 := by omega
        obtain ⟨st0, rw0, fr0⟩ := hst.out
        clear hst
        have c5 : wr.cell? ⟨w.heap.size, 5, none⟩ = some (.slice ao n cap) := st0.cell 5
        have f5 := st0.froz 5
        have st3 : HvSt w (w.heap.size + 1) w.heap.size 29 #[.int .i64 ht, .int .i64 mi, .string ⟨tk2.toArray⟩, .int .i64 wi, .int .u64 (pw : Int), .slice q k c, .int .i64 sa] (wr.setCell ⟨w.heap.size, 5, none⟩ (.slice q k c)) := st0.put 5 _
        have rw3 : Rw encS 9 (wr.setCell ⟨w.heap.size, 5, none⟩ (.slice q k c)) q c ((ps.map idL).take k) := rw0.kept ((Mod.refl (· = w.heap.size) wr).setCell (p := ⟨w.heap.size, 5, none⟩) (fun _ => rfl) _) (fun a e h => by have := fr0 a e; omega)
        obtain ⟨W9, hW9⟩ : ∃ W, W = wr.setCell ⟨w.heap.size, 5, none⟩ (.slice q k c) := ⟨_, rfl⟩
        rw [← hW9] at st3 rw3
        have box := st3.box
        obtain ⟨Z, hZs, hZ⟩ := st3.res
        obtain ⟨Y, hY⟩ : ∃ Y : Array Value, Y = #[.int .i64 ht, .int .i64 mi, .string ⟨tk2.toArray⟩, .int .i64 wi, .int .u64 (pw : Int), .slice q k c, .int .i64 sa] := ⟨_, rfl⟩
        rw [← hY] at box
        have hYs : Y.size = 7 := by rw [hY]; rfl
        have q3 : (Tryz.prog.info? 29).map (·.size) = some Y.size := by rw [hYs]; exact rhinfo
        have q2 : Z.size = Y.size := by rw [hZs, hYs]
        have q4 : ∀ v ∈ Y.toList, v.oneCell' = true := by
          rw [hY]; intro v hv
          simp only [List.mem_cons, List.not_mem_nil, or_false] at hv
          rcases hv with rfl | rfl | rfl | rfl | rfl | rfl | rfl <;> rfl
        have L0 := Lib.hid (setRow_heap W9 (w.heap.size + 1) Z Y 29 (0, 0) hZ)
        have LM : Hid (Below w.heap.size w (W9.setRow (w.heap.size + 1) Y)) := Lib.hid (st3.m.trans (((Mod.refl (fun _ => False) W9).setRow (g := w.heap.size + 1) Y).to_below st3.m.size (by rintro i hi (h | h) <;> first | exact h | omega)))
        have LR : Hid (Rw encS 9 (W9.setRow (w.heap.size + 1) Y) q c ((ps.map idL).take k)) := Lib.hid (rw3.kept ((Mod.refl (fun _ => False) W9).setRow (g := w.heap.size + 1) Y) (fun a e h => by have := fr0 a e; rcases h with h | h; exact h; omega))
        have Hfr := Lib.hid (fun a (e : q = some a) => by have := fr0 a e; (show w.heap.size ≤ a.block); omega)
        have HY := Lib.hid hY
        have hke : Hid ((ps.map idL).take k = P7 ∧ k = P7.length) := Lib.hid (by rw [HP7.out, List.length_map, List.map_take]; have e := Hnp.out; refine ⟨?_, by rw [List.length_take]; omega⟩; by_cases h7 : k = 7; rw [h7]; rw [List.take_of_length_le (by rw [List.length_map]; omega), List.take_of_length_le (by rw [List.length_map]; omega)])
        have HW9 := Lib.hid hW9
        clear st0 st3 hY rw0 rw3 fr0 hW9
        go_wp2_with (first | (rw [← HW9.out]; refine wpList_load_row rfl 29 (.tmp 1) rfl w.heap.size rfl 29 Y (0, 0) _ box Tryz.underlying29 rfl q3 ?_) | (refine wpList_store_row rfl rfl 29 (.tmp 2) (.tmp 34) rfl (w.heap.size + 1) rfl 29 Z Y rfl hZ q2 q3 q4 ?_))
        exact bodyPost_ret (v := .agg Y) (results_cell_row Tryz.results84 _ _ (w.heap.size + 1) 29 Y (0, 0) _ rfl L0.out Tryz.underlying29 rfl q3) rfl ⟨q, c, by rw [HY.out, ← hke.out.2], by rw [← hke.out.1]; exact LR.out, LM.out, Hfr.out⟩
    · have i1 : ¬ (k : Int) < n := by omega
      obtain ⟨st0, rw0, fr0⟩ := hst.out
      clear hst
      have c5 : wr.cell? ⟨w.heap.size, 5, none⟩ = some (.slice ao n cap) := st0.cell 5
      have f5 := st0.froz 5
      have st3 : HvSt w (w.heap.size + 1) w.heap.size 29 #[.int .i64 ht, .int .i64 mi, .string ⟨tk2.toArray⟩, .int .i64 wi, .int .u64 (pw : Int), .slice q k c, .int .i64 sa] (wr.setCell ⟨w.heap.size, 5, none⟩ (.slice q k c)) := st0.put 5 _
      have rw3 : Rw encS 9 (wr.setCell ⟨w.heap.size, 5, none⟩ (.slice q k c)) q c ((ps.map idL).take k) := rw0.kept ((Mod.refl (· = w.heap.size) wr).setCell (p := ⟨w.heap.size, 5, none⟩) (fun _ => rfl) _) (fun a e h => by have := fr0 a e; omega)
      obtain ⟨W9, hW9⟩ : ∃ W, W = wr.setCell ⟨w.heap.size, 5, none⟩ (.slice q k c) := ⟨_, rfl⟩
      rw [← hW9] at st3 rw3
      have box := st3.box
      obtain ⟨Z, hZs, hZ⟩ := st3.res
      obtain ⟨Y, hY⟩ : ∃ Y : Array Value, Y = #[.int .i64 ht, .int .i64 mi, .string ⟨tk2.toArray⟩, .int .i64 wi, .int .u64 (pw : Int), .slice q k c, .int .i64 sa] := ⟨_, rfl⟩
      rw [← hY] at box
      have hYs : Y.size = 7 := by rw [hY]; rfl
      have q3 : (Tryz.prog.info? 29).map (·.size) = some Y.size := by rw [hYs]; exact rhinfo
      have q2 : Z.size = Y.size := by rw [hZs, hYs]
      have q4 : ∀ v ∈ Y.toList, v.oneCell' = true := by
        rw [hY]; intro v hv
        simp only [List.mem_cons, List.not_mem_nil, or_false] at hv
        rcases hv with rfl | rfl | rfl | rfl | rfl | rfl | rfl <;> rfl
      have L0 := Lib.hid (setRow_heap W9 (w.heap.size + 1) Z Y 29 (0, 0) hZ)
      have LM : Hid (Below w.heap.size w (W9.setRow (w.heap.size + 1) Y)) := Lib.hid (st3.m.trans (((Mod.refl (fun _ => False) W9).setRow (g := w.heap.size + 1) Y).to_below st3.m.size (by rintro i hi (h | h) <;> first | exact h | omega)))
      have LR : Hid (Rw encS 9 (W9.setRow (w.heap.size + 1) Y) q c ((ps.map idL).take k)) := Lib.hid (rw3.kept ((Mod.refl (fun _ => False) W9).setRow (g := w.heap.size + 1) Y) (fun a e h => by have := fr0 a e; rcases h with h | h; exact h; omega))
      have Hfr := Lib.hid (fun a (e : q = some a) => by have := fr0 a e; (show w.heap.size ≤ a.block); omega)
      have HY := Lib.hid hY
      have hke : Hid ((ps.map idL).take k = P7 ∧ k = P7.length) := Lib.hid (by rw [HP7.out, List.length_map, List.map_take]; have e := Hnp.out; refine ⟨?_, by rw [List.length_take]; omega⟩; by_cases h7 : k = 7; rw [h7]; rw [List.take_of_length_le (by rw [List.length_map]; omega), List.take_of_length_le (by rw [List.length_map]; omega)])
      have HW9 := Lib.hid hW9
      clear st0 st3 hY rw0 rw3 fr0 hW9
      go_wp2_with (first | (rw [← HW9.out]; refine wpList_load_row rfl 29 (.tmp 1) rfl w.heap.size rfl 29 Y (0, 0) _ box Tryz.underlying29 rfl q3 ?_) | (refine wpList_store_row rfl rfl 29 (.tmp 2) (.tmp 34) rfl (w.heap.size + 1) rfl 29 Z Y rfl hZ q2 q3 q4 ?_))
      exact bodyPost_ret (v := .agg Y) (results_cell_row Tryz.results84 _ _ (w.heap.size + 1) 29 Y (0, 0) _ rfl L0.out Tryz.underlying29 rfl q3) rfl ⟨q, c, by rw [HY.out, ← hke.out.2], by rw [← hke.out.1]; exact LR.out, LM.out, Hfr.out⟩
end Go.Proofs.YtemnebbdaljfbaaGreatDoor

namespace Go.Proofs.YtemnebbdaljfbaaGreatDoor
open Go.RowKit

theorem id_neq (x y : List UInt8) (hx : x.length = 32) (hy : y.length = 32) (w : World) : (binOp .neq 70 (.agg (vals x).toArray) (.agg (vals y).toArray)).run Tryz.prog w = .ok (.bool (!(x == y))) w := by
  have h := id_eql x y hx hy w
  simp only [binOp, Sem.run_bind] at h ⊢
  cases hr : (Op.equal 70 (.agg (vals x).toArray) (.agg (vals y).toArray)).run Tryz.prog w with
  | ok b w1 =>
    rw [hr] at h
    simp only [Result.andThen_ok, Sem.run_pure, Result.ok.injEq, Value.bool.injEq] at h ⊢
    exact ⟨by rw [h.1], h.2⟩
  | _ => rw [hr] at h; simp [Result.andThen] at h
open Classical in
noncomputable def sameB (H : Hd Nm) (X : Hd (List UInt8)) : Bool := decide (H = ownH X)
theorem sameB_iff (H : Hd Nm) (X : Hd (List UInt8)) : sameB H X = true ↔ H = ownH X := by unfold sameB; exact @decide_eq_true_iff _ (Classical.propDecidable _)
theorem Hd.ext_iff' {α : Type} (a b : Hd α) : a = b ↔ a.ht = b.ht ∧ a.mi = b.mi ∧ a.tk = b.tk ∧ a.wi = b.wi ∧ a.pw = b.pw ∧ a.sa = b.sa ∧ a.ps = b.ps := by
  cases a; cases b; simp only [Hd.mk.injEq]
  exact ⟨fun ⟨a, b, c, d, e, f, g⟩ => ⟨a, b, c, d, e, g, f⟩, fun ⟨a, b, c, d, e, f, g⟩ => ⟨a, b, c, d, e, g, f⟩⟩
theorem names_eq (L : List Nm) (M : List (List UInt8)) : L = M.map nmOf ↔ L.map (·.1) = M.map idL := by
  constructor
  · rintro rfl; rw [List.map_map]; rfl
  · intro h
    induction L generalizing M with
    | nil => cases M with
      | nil => rfl
      | cons a m => simp at h
    | cons x l ih => cases M with
      | nil => simp at h
      | cons a m =>
        simp only [List.map_cons, List.cons.injEq] at h ⊢
        exact ⟨Subtype.ext h.1, ih m h.2⟩

end Go.Proofs.YtemnebbdaljfbaaGreatDoor

namespace Go.Proofs.YtemnebbdaljfbaaGreatDoor
open Go.RowKit

theorem wpList_load_rowG {P : Program} {ops : Array Oper} {rest : List Oper} {o : Oper} {a : Act} {w : World} {Q : Exit → Act → World → Prop} (hw : Region.wanted o (yielded ops a.tmps) = true) (ty : TypeId) (x : Operand) (ho : o.op = .load ty x)
    (g : Nat) (hx : a.eval x = .pointer (some ⟨g, 0, none⟩)) (t : TypeId) (cs : Array Value) (fr : Nat × Nat) (d : TypeDesc) (hg : w.heap[g]? = some (.cells cs t fr))
    (hu : P.underlying ty = some d) (hd : (match d with | .struct _ | .array _ _ => true | _ => false) = true) (hi : (P.info? ty).map (·.size) = some cs.size)
    (h : wpList P ops Q rest (a.put o.dst (.agg cs)) w) : wpList P ops Q (o :: rest) a w :=
  wpList_step fun _ hK => by rw [if_pos hw]; exact wp_load_row ty x ho g hx t cs fr d hg hu hd hi (hK _ _ h)
theorem exec_store_row {P : Program} {o : Oper} {a : Act} {w : World} (ty : TypeId) (x y : Operand) (ho : o.op = .store ty x y)
    (g : Nat) (hx : a.eval x = .pointer (some ⟨g, 0, none⟩)) (t : TypeId) (old cs : Array Value) (hy : a.eval y = .agg cs) (hg : w.heap[g]? = some (.cells old t (0, 0))) (hsz : old.size = cs.size)
    (hi : (P.info? ty).map (·.size) = some cs.size) (h1 : ∀ v ∈ cs.toList, v.oneCell' = true) : (execOp a.eval o).run P w = .ok .skip (w.setRow g cs) := by
  have hst := run_storeCells_at P g 0 t cs.toList 0 old w hg (by simp; omega) h1
  have e : (old.toList.take (0 + 0) ++ cs.toList ++ old.toList.drop (0 + 0 + cs.toList.length)).toArray = cs := by
    have : old.toList.drop (0 + 0 + cs.toList.length) = [] := List.drop_eq_nil_of_le (by simp; omega)
    rw [this]; simp
  rw [e] at hst
  cases hq : P.info? ty with
  | none => simp [hq] at hi
  | some i =>
    have hs : i.size = cs.size := by simpa [hq] using hi
    have hv : (storeVar ty ⟨g, 0, none⟩ (.agg cs)).run P w = .ok () (w.setRow g cs) := by
      simp [storeVar, sizeOf, typeInfo, hq, hs, Value.cells, hst]
    unfold execOp
    simp only [ho, hx, hy, Instr.storeAt, Instr.sureAddr, Sem.run_bind, Sem.run_pure, Result.andThen_ok, hv]
theorem hcells_size {α : Type} (h : Hd α) (q : Option Addr) (c : Nat) : (hcells h q c).size = 7 := rfl
theorem hcells_oneA {α : Type} (h : Hd α) (q : Option Addr) (c : Nat) : ∀ v ∈ (hcells h q c).toList, v.oneCell' = true := by
  unfold hcells; intro v hv
  simp only [List.mem_cons, List.not_mem_nil, or_false] at hv
  rcases hv with rfl | rfl | rfl | rfl | rfl | rfl | rfl <;> rfl
end Go.Proofs.YtemnebbdaljfbaaGreatDoor

namespace Go.Proofs.YtemnebbdaljfbaaGreatDoor
open Go.RowKit

/-- Is the j-th another than the one ahead of it? -/
def kp (L : List Nm) : Nat → Bool
  | 0 => true
  | j + 1 => !((L[j + 1]?.map (·.1)) == (L[j]?.map (·.1)))
theorem kp_succ (L : List Nm) (j : Nat) (h : j + 1 < L.length) : kp L (j + 1) = !(L[j + 1].1 == L[j].1) := by
  show (!((L[j + 1]?.map (·.1)) == (L[j]?.map (·.1)))) = _
  rw [List.getElem?_eq_getElem h, List.getElem?_eq_getElem (by omega)]
  simp
/-- Of the first n those that are. -/
def cpt (L : List Nm) : Nat → List Nm
  | 0 => []
  | n + 1 => if kp L n then cpt L n ++ (L[n]?).toList else cpt L n
theorem cpt_keep {L : List Nm} {n : Nat} (h : n < L.length) (hk : kp L n = true) : cpt L (n + 1) = cpt L n ++ [L[n]] := by
  rw [cpt, if_pos hk, List.getElem?_eq_getElem h]; rfl
theorem cpt_skip {L : List Nm} {n : Nat} (hk : kp L n = false) : cpt L (n + 1) = cpt L n := by
  rw [cpt, if_neg (by rw [hk]; decide)]
theorem cpt_len (L : List Nm) (n : Nat) (h : n ≤ L.length) : (cpt L n).length ≤ n := by
  induction n with
  | zero => exact Nat.le_refl _
  | succ n ih =>
    have := ih (by omega)
    cases hk : kp L n with
    | true => rw [cpt_keep (by omega) hk, List.length_append]; simp; omega
    | false => rw [cpt_skip hk]; omega
theorem cpt_all {L : List Nm} {n : Nat} (hn : n ≤ L.length) (h : ∀ j, j < n → kp L j = true) : cpt L n = L.take n := by
  induction n with
  | zero => simp [cpt]
  | succ n ih => rw [cpt_keep (by omega) (h n (by omega)), ih (by omega) (fun j hj => h j (by omega)), ← List.take_succ_eq_append_getElem (by omega)]

section
variable {α : Type} {E : Enc α}
theorem Rw.parts {T : TypeId} {w : World} {g cap : Nat} {M : List α} (h : Rw E T w (some ⟨g, 0, none⟩) cap M) :
    ∃ cur : Array Value, w.heap[g]? = some (.cells cur T (0, 0)) ∧ cur.size = cap * E.k ∧ M.length ≤ cap ∧ cap ≤ maxLen ∧ ∃ R, cur.toList = E.all M ++ R := by
  rcases h.shape with ⟨e, _⟩ | ⟨g', e, hl, h1, h2, cur, hh, h3, h4⟩
  · cases e
  · cases e
    exact ⟨cur, hh, h3, h1, h2, cur.toList.drop (M.length * E.k), by rw [← h4, List.take_append_drop]⟩
/-- One is set. -/
theorem Rw.setAt {T : TypeId} {w : World} {g cap : Nat} {M : List α} (h : Rw E T w (some ⟨g, 0, none⟩) cap M) (i : Nat) (hi : i < M.length) (x : α) :
    ∃ cur : Array Value, w.heap[g]? = some (.cells cur T (0, 0)) ∧ i * E.k + E.k ≤ cur.size ∧
      Rw E T (w.setRow g (cur.toList.take (i * E.k) ++ E.f x ++ cur.toList.drop (i * E.k + E.k)).toArray) (some ⟨g, 0, none⟩) cap (M.set i x) := by
  obtain ⟨cur, hh, h3, h1, h2, R, hR⟩ := h.parts
  have hik : i * E.k + E.k ≤ M.length * E.k := by have := Nat.mul_le_mul_right E.k (show i + 1 ≤ M.length from hi); rwa [Nat.add_mul, Nat.one_mul] at this
  have hlen : (E.all M ++ R).length = cap * E.k := by rw [← hR, Array.length_toList, h3]
  have hM : M = M.take i ++ M[i] :: M.drop (i + 1) := by rw [← List.drop_eq_getElem_cons hi, List.take_append_drop]
  have hA : (E.all (M.take i)).length = i * E.k := by rw [E.all_len, List.length_take, Nat.min_eq_left (by omega)]
  have hall : E.all M = E.all (M.take i) ++ (E.f M[i] ++ E.all (M.drop (i + 1))) := by
    conv => lhs; rw [hM]
    rw [E.all_app]; rfl
  have hset : E.all (M.set i x) = E.all (M.take i) ++ (E.f x ++ E.all (M.drop (i + 1))) := by
    rw [List.set_eq_take_append_cons_drop, if_pos hi, E.all_app]; rfl
  have hnew : cur.toList.take (i * E.k) ++ E.f x ++ cur.toList.drop (i * E.k + E.k) = E.all (M.set i x) ++ R := by
    rw [hR, hall, hset]
    rw [List.append_assoc (E.all (M.take i)), List.append_assoc (E.f M[i]), List.take_left' hA, ← List.drop_drop, List.drop_left' hA, List.drop_left' (E.len _)]
    simp
  refine ⟨cur, hh, by rw [h3]; have := Nat.mul_le_mul_right E.k h1; omega, ?_⟩
  rw [hnew]
  refine Rw.of_row (setRow_heap w g cur _ T (0, 0) hh) (by rw [List.length_set]; exact h1) h2 ?_ ?_
  · rw [List.size_toArray, ← hlen, List.length_append, List.length_append, E.all_len, E.all_len, List.length_set]
  · rw [List.toList_toArray, List.take_left' (by rw [E.all_len])]
/-- The end is overwritten. -/
theorem Rw.clearAt {T : TypeId} {w : World} {g cap : Nat} {M : List α} (h : Rw E T w (some ⟨g, 0, none⟩) cap M) (i : Nat) (hi : i ≤ M.length) (Z : List Value) (hZ : Z.length = (M.length - i) * E.k) :
    ∃ cur : Array Value, w.heap[g]? = some (.cells cur T (0, 0)) ∧ i * E.k + Z.length ≤ cur.size ∧
      Rw E T (w.setRow g (cur.toList.take (i * E.k) ++ Z ++ cur.toList.drop (i * E.k + Z.length)).toArray) (some ⟨g, 0, none⟩) cap (M.take i) := by
  obtain ⟨cur, hh, h3, h1, h2, R, hR⟩ := h.parts
  have hik : i * E.k + Z.length = M.length * E.k := by rw [hZ, ← Nat.add_mul]; congr 1; omega
  have hlen : (E.all M ++ R).length = cap * E.k := by rw [← hR, Array.length_toList, h3]
  have hA : (E.all (M.take i)).length = i * E.k := by rw [E.all_len, List.length_take, Nat.min_eq_left (by omega)]
  have hall : E.all M = E.all (M.take i) ++ E.all (M.drop i) := by rw [← E.all_app, List.take_append_drop]
  have hm := Nat.mul_le_mul_right E.k h1
  have htk : cur.toList.take (i * E.k) = E.all (M.take i) := by rw [hR, hall, List.append_assoc, List.take_left' hA]
  refine ⟨cur, hh, by rw [h3]; omega, ?_⟩
  refine Rw.of_row (setRow_heap w g cur _ T (0, 0) hh) (by rw [List.length_take]; omega) h2 ?_ ?_
  · rw [List.size_toArray, List.length_append, List.length_append, List.length_take, List.length_drop, Array.length_toList, h3]; omega
  · rw [List.toList_toArray, htk, List.append_assoc, List.take_left' (by rw [hA, List.length_take, Nat.min_eq_left hi])]
end
theorem exec_store_at {P : Program} {o : Oper} {a : Act} {w : World} (ty : TypeId) (x y : Operand) (ho : o.op = .store ty x y)
    (g off : Nat) (hx : a.eval x = .pointer (some ⟨g, off, none⟩)) (t : TypeId) (old : Array Value) (vs : List Value) (hy : a.eval y = .agg vs.toArray) (hg : w.heap[g]? = some (.cells old t (0, 0))) (hsz : off + vs.length ≤ old.size)
    (hi : (P.info? ty).map (·.size) = some vs.length) (h1 : ∀ v ∈ vs, v.oneCell' = true) : (execOp a.eval o).run P w = .ok .skip (w.setRow g (old.toList.take off ++ vs ++ old.toList.drop (off + vs.length)).toArray) := by
  have hst := run_storeCells_at P g off t vs 0 old w hg (by omega) h1
  rw [Nat.add_zero] at hst
  cases hq : P.info? ty with
  | none => simp [hq] at hi
  | some i =>
    have hs : i.size = vs.length := by simpa [hq] using hi
    have hv : (storeVar ty ⟨g, off, none⟩ (.agg vs.toArray)).run P w = .ok () (w.setRow g (old.toList.take off ++ vs ++ old.toList.drop (off + vs.length)).toArray) := by
      simp [storeVar, sizeOf, typeInfo, hq, hs, Value.cells, hst]
    unfold execOp
    simp only [ho, hx, hy, Instr.storeAt, Instr.sureAddr, Sem.run_bind, Sem.run_pure, Result.andThen_ok, hv]
theorem wpList_skip {P : Program} {ops : Array Oper} {rest : List Oper} {o : Oper} {a : Act} {w w' : World} {Q : Exit → Act → World → Prop} (hgd : o.guard = none) (hdst : o.dst = none) (hr : (execOp a.eval o).run P w = .ok .skip w') (h : wpList P ops Q rest a w') : wpList P ops Q (o :: rest) a w := by
  refine wpList_plain hgd fun K hK => ?_
  unfold Oper.wp
  rw [hr]
  exact hK _ _ (by rw [hdst]; exact h)
/-- clear of a slice of names. -/
theorem clear_names (g off n c : Nat) (w : World) (cur : Array Value) (hg : w.heap[g]? = some (.cells cur 70 (0, 0))) (hn : 0 < n) (hsz : off + n * 32 ≤ cur.size) : ∃ Z : List Value, Z.length = n * 32 ∧ ∀ ty,
    (Builtin.clear_ #[39] ty #[.slice (some ⟨g, off, none⟩) n c]).run Tryz.prog w = .ok (.tuple #[]) (w.setRow g (cur.toList.take off ++ Z ++ cur.toList.drop (off + Z.length)).toArray) := by
  obtain ⟨m, rfl⟩ : ∃ m, n = m + 1 := ⟨n - 1, by omega⟩
  refine ⟨(Builtin.zeroCells (vals zid).toArray (m + 1)).toList, ?_, fun ty => ?_⟩
  · simp [Builtin.zeroCells, vals_len, zid]
  have hl : (Builtin.zeroCells (vals zid).toArray (m + 1)).toList.length = (m + 1) * 32 := by simp [Builtin.zeroCells, vals_len, zid]
  have h1 : ∀ v ∈ (Builtin.zeroCells (vals zid).toArray (m + 1)).toList, v.oneCell' = true := by
    intro v hv
    simp [Builtin.zeroCells] at hv
    obtain ⟨j, hj, rfl⟩ := hv
    cases hq : (vals zid)[j % (vals zid).length]? with
    | none => rfl
    | some u => exact vals_one _ _ (List.mem_of_getElem? hq)
  have hst := run_storeCells_at Tryz.prog g off 70 _ 0 cur w hg (by rw [hl]; omega) h1
  rw [Nat.add_zero] at hst
  have hz := zid_run
  generalize vals zid = V at hst hz ⊢
  simp [Builtin.clear_, run_underlying (Tryz.underlying39), hz, Value.cells, hst]
end Go.Proofs.YtemnebbdaljfbaaGreatDoor

namespace Go.Proofs.YtemnebbdaljfbaaGreatDoor
open Go.RowKit

theorem mid_len {L C : List Nm} (h : C.length ≤ L.length) : (C ++ L.drop C.length).length = L.length := by simp; omega
theorem mid_get {L C : List Nm} (j : Nat) (h : C.length ≤ j) (hj : j < L.length) (hj2 : j < (C ++ L.drop C.length).length) : (C ++ L.drop C.length)[j] = L[j] := by
  rw [List.getElem_append_right h, List.getElem_drop]; congr 1; omega
theorem mid_set {L C : List Nm} (x : Nm) (h : C.length < L.length) : (C ++ L.drop C.length).set C.length x = (C ++ [x]) ++ L.drop (C ++ [x]).length := by
  rw [List.set_append_right _ _ (Nat.le_refl _), Nat.sub_self, List.drop_eq_getElem_cons h, List.set_cons_zero]; simp
theorem Rw.at {T : TypeId} {w : World} {g cap : Nat} {M : List Nm} (h : Rw encN T w (some ⟨g, 0, none⟩) cap M) (j : Nat) (hj : j < M.length) (o : Nat) (ho : o = j * 32) :
    ∀ i u, (encN.f M[j])[i]? = some u → w.cell? ⟨g, o + i, none⟩ = some u := by
  obtain ⟨b, off, e, _, hc⟩ := h.rd j hj
  cases e
  intro i u hu
  have := hc i u hu
  rw [ho]; simpa [encN] using this

/-- Fewer than two. -/
theorem compact_few (p : Option Addr) (n cap : Nat) (w : World) (h : n < 2) : Calls Tryz.prog 67 #[.slice p n cap] w fun r w' => r = .returned (.slice p n cap) ∧ w' = w := by
  have h1 : (n : Int) < 2 := by omega
  clear h
  go_enter Tryz.func67, Tryz.ntmps67
  go_wp2_with fail
  go_ret
  exact ⟨rfl, rfl⟩

set_option maxRecDepth 20000 in
set_option maxHeartbeats 4000000 in
theorem compact_any (g cap : Nat) (L : List Nm) (w : World) (hL : Rw encN 70 w (some ⟨g, 0, none⟩) cap L) (hn : L.length ≤ 1000000) (h2 : 2 ≤ L.length) :
    Calls Tryz.prog 67 #[.slice (some ⟨g, 0, none⟩) L.length cap] w fun r w' => r = .returned (.slice (some ⟨g, 0, none⟩) (cpt L L.length).length cap) ∧ Rw encN 70 w' (some ⟨g, 0, none⟩) cap (cpt L L.length) ∧ Mod (fun i => i = g) w w' := by
  have hcap := hL.cap_le
  obtain ⟨n, hnL⟩ : ∃ n, n = L.length := ⟨_, rfl⟩
  obtain ⟨o, ho⟩ : ∃ o, o = 0 := ⟨_, rfl⟩
  rw [← hnL] at hn h2 hcap ⊢
  have Hn := Lib.hid hnL
  have HL := Lib.hid hL
  have Ho := Lib.hid ho
  have HM := Lib.hid (Mod.refl (fun i => i = g) w)
  obtain ⟨F, hF⟩ : ∃ F : Ending → World → Prop, F = fun r w' => r = .returned (.slice (some ⟨g, 0, none⟩) (cpt L n).length cap) ∧ Rw encN 70 w' (some ⟨g, 0, none⟩) cap (cpt L n) ∧ Mod (fun i => i = g) w w' := ⟨_, rfl⟩
  have HF := Lib.hid hF
  show Calls _ _ _ _ (fun r w' => r = .returned (.slice (some ⟨g, 0, none⟩) (cpt L n).length cap) ∧ Rw encN 70 w' (some ⟨g, 0, none⟩) cap (cpt L n) ∧ Mod (fun i => i = g) w w')
  rw [← hF, ← ho]
  clear hnL hL ho hF
  have i2 : ¬ (n : Int) < 2 := by omega
  go_enter Tryz.func67, Tryz.ntmps67
  go_wp2_with fail
  go_loopw [3] (fun s3 wr => ∃ k : Nat, k + 1 ≤ n ∧ s3 = .int .i64 ((k : Int) + 1) ∧ Hid (∀ j, j < k + 1 → kp L j = true) ∧ Hid (Rw encN 70 wr (some ⟨g, 0, none⟩) cap L ∧ Mod (fun i => i = g) w wr)) (fun i _ => n + 1 - (intOf i).toNat)
  case atStart => exact ⟨0, by omega, by go_num, Lib.hid (fun j hj => by obtain rfl : j = 0 := (by omega); rfl), Lib.hid ⟨HL.out, HM.out⟩⟩
  case round =>
    clear HL HM
    obtain ⟨k, hk, rfl, hkp, HB⟩ := hrel
    by_cases hlt : k + 1 < n
    · have h1 : k < L.length := by rw [← Hn.out]; omega
      have h3 : k + 1 < L.length := by rw [← Hn.out]; omega
      have c1 := HB.out.1.at k h1 (o + k * 32) (by rw [Ho.out, Nat.zero_add])
      have c2 := HB.out.1.at (k + 1) h3 (o + (k + 1) * 32) (by rw [Ho.out, Nat.zero_add])
      have hgl : g < wr.heap.size := HB.out.1.lt
      have hkk := kp_succ L k h3
      obtain ⟨y, hy⟩ : ∃ y, y = L[k] := ⟨_, rfl⟩
      obtain ⟨x, hx⟩ : ∃ x, x = L[k + 1] := ⟨_, rfl⟩
      rw [← hy] at c1 hkk
      rw [← hx] at c2 hkk
      have C1 : Hid (∀ w', Below wr.heap.size wr w' → ∀ i u, (encN.f y)[i]? = some u → w'.cell? ⟨g, o + k * 32 + i, none⟩ = some u) := Lib.hid (fun w' hb i u hu => (World.cell?_of_block (hb.block g hgl)).trans (c1 i u hu))
      have C2 : Hid (∀ w', Below wr.heap.size wr w' → ∀ i u, (encN.f x)[i]? = some u → w'.cell? ⟨g, o + (k + 1) * 32 + i, none⟩ = some u) := Lib.hid (fun w' hb i u hu => (World.cell?_of_block (hb.block g hgl)).trans (c2 i u hu))
      obtain ⟨D, hD⟩ : ∃ D, D = (x.1 == y.1) := ⟨_, rfl⟩
      have Heq : Hid (∀ w, (binOp .eql 70 (.agg (vals x.1).toArray) (.agg (vals y.1).toArray)).run Tryz.prog w = .ok (.bool D) w) := Lib.hid (fun w => by rw [hD]; exact id_eql x.1 y.1 x.2 y.2 w)
      rw [← hD] at hkk
      have Hkk := Lib.hid hkk
      have Hlt := Lib.hid hlt
      have i0 : (0 : Int) ≤ k := by omega
      have i1 : (k : Int) < n := by omega
      have i3 : (k : Int) + 1 < n := by omega
      have e1 : IntKind.i64.wrap ((k : Int) + 1 - 1) = (k : Int) := by rw [IntWalk.i64_in _ (by omega)]; omega
      have e0 : IntKind.i64.wrap (k : Int) = (k : Int) := IntWalk.i64_in _ (by omega)
      have e2 : ((k : Int) + 1).toNat = k + 1 := by omega
      have e3 : (0 : Int) ≤ (k : Int) + 1 := by omega
      clear hy hx c1 c2 hkk hD h1 h3 hlt
      go_wp2_with fail
      refine wp_region_puts (fun t v w => VK (match t with
        | 16 => .eq (.slice (some ⟨g, o, none⟩) n cap)
        | 17 => .eq (.int .i64 ((k : Int) + 1))
        | 18 => .eq (.pointer (some ⟨g, o + (k + 1) * 32, none⟩))
        | 19 => .eq (.agg (vals x.1).toArray)
        | 20 => .eq (.slice (some ⟨g, o, none⟩) n cap)
        | 21 => .eq (.int .i64 ((k : Int) + 1))
        | 22 => .eq (.int .i64 (k : Int))
        | 23 => .eq (.pointer (some ⟨g, o + k * 32, none⟩))
        | 24 => .eq (.agg (vals y.1).toArray)
        | 25 => .eq (.bool D)
        | _ => .any) v w) (fun w' => Below wr.heap.size wr w') 61 (by kernel_rfl) (by decide +kernel) rfl (Below.refl _ _).drew (by
        refine OweAll.cons (owesK rfl rfl fun a w1 ha hG hV => ?_) ?_
        · skip
          have h0 := ha.outer 0 (by decide +kernel)
          simp only [Act.eval] at h0
          exact ⟨.slice (some ⟨g, o, none⟩) n cap, w1, wanted_free rfl, by simp [execOp, go_sem, h0], Below.refl _ _, rfl⟩
        refine OweAll.cons (owesK rfl rfl fun a w1 ha hG hV => ?_) ?_
        · skip
          have h3 := ha.outer 3 (by decide +kernel)
          simp only [Act.eval] at h3
          exact ⟨.int .i64 ((k : Int) + 1), w1, wanted_free rfl, by simp [execOp, go_sem, h3], Below.refl _ _, rfl⟩
        refine OweAll.cons (owesK rfl rfl fun a w1 ha hG hV => ?_) ?_
        · skip
          have h16 : a.tmps.getD 16 undef = .slice (some ⟨g, o, none⟩) n cap := hV.get 16 (by decide +kernel)
          have h17 : a.tmps.getD 17 undef = .int .i64 ((k : Int) + 1) := hV.get 17 (by decide +kernel)
          exact ⟨.pointer (some ⟨g, o + (k + 1) * 32, none⟩), w1, wanted_free rfl, by simp [execOp, go_sem, h16, h17, e2, e3, i3], Below.refl _ _, rfl⟩
        refine OweAll.cons (owesK rfl rfl fun a w1 ha hG hV => ?_) ?_
        · skip
          have h18 : a.tmps.getD 18 undef = .pointer (some ⟨g, o + (k + 1) * 32, none⟩) := hV.get 18 (by decide +kernel)
          exact ⟨.agg (vals x.1).toArray, w1, wanted_free rfl, exec_load_mid (.tmp 18) rfl g (o + (k + 1) * 32) h18 x (C2.out w1 hG), Below.refl _ _, rfl⟩
        refine OweAll.cons (owesK rfl rfl fun a w1 ha hG hV => ?_) ?_
        · skip
          have h0 := ha.outer 0 (by decide +kernel)
          simp only [Act.eval] at h0
          exact ⟨.slice (some ⟨g, o, none⟩) n cap, w1, wanted_free rfl, by simp [execOp, go_sem, h0], Below.refl _ _, rfl⟩
        refine OweAll.cons (owesK rfl rfl fun a w1 ha hG hV => ?_) ?_
        · skip
          have h3 := ha.outer 3 (by decide +kernel)
          simp only [Act.eval] at h3
          exact ⟨.int .i64 ((k : Int) + 1), w1, wanted_free rfl, by simp [execOp, go_sem, h3], Below.refl _ _, rfl⟩
        refine OweAll.cons (owesK rfl rfl fun a w1 ha hG hV => ?_) ?_
        · skip
          have h21 : a.tmps.getD 21 undef = .int .i64 ((k : Int) + 1) := hV.get 21 (by decide +kernel)
          exact ⟨.int .i64 (k : Int), w1, wanted_free rfl, by simp [execOp, go_sem, h21, e0], Below.refl _ _, rfl⟩
        refine OweAll.cons (owesK rfl rfl fun a w1 ha hG hV => ?_) ?_
        · skip
          have h20 : a.tmps.getD 20 undef = .slice (some ⟨g, o, none⟩) n cap := hV.get 20 (by decide +kernel)
          have h22 : a.tmps.getD 22 undef = .int .i64 (k : Int) := hV.get 22 (by decide +kernel)
          exact ⟨.pointer (some ⟨g, o + k * 32, none⟩), w1, wanted_free rfl, by simp [execOp, go_sem, h20, h22, i0, i1], Below.refl _ _, rfl⟩
        refine OweAll.cons (owesK rfl rfl fun a w1 ha hG hV => ?_) ?_
        · skip
          have h23 : a.tmps.getD 23 undef = .pointer (some ⟨g, o + k * 32, none⟩) := hV.get 23 (by decide +kernel)
          exact ⟨.agg (vals y.1).toArray, w1, wanted_free rfl, exec_load_mid (.tmp 23) rfl g (o + k * 32) h23 y (C1.out w1 hG), Below.refl _ _, rfl⟩
        refine OweAll.cons (owesK rfl rfl fun a w1 ha hG hV => ?_) ?_
        · skip
          have h19 : a.tmps.getD 19 undef = .agg (vals x.1).toArray := hV.get 19 (by decide +kernel)
          have h24 : a.tmps.getD 24 undef = .agg (vals y.1).toArray := hV.get 24 (by decide +kernel)
          exact ⟨.bool D, w1, wanted_free rfl, by simp [execOp, go_sem, h19, h24, Heq.out], Below.refl _ _, rfl⟩
        exact OweAll.nil
        ) ?_
      intro f wz hG hv
      have e25 : f 25 = .bool D := hv 9 _ 25 rfl rfl
      rename_i hK
      refine hK _ _ ?_
      clear hK hv
      simp only [dsts, puts, List.filterMap_cons, List.filterMap_nil, List.foldl_cons, List.foldl_nil, Act.put, List.setIfInBounds_toArray, List.set_cons_succ, List.set_cons_zero, e25]
      clear e25
      have HG : Hid (Rw encN 70 wz (some ⟨g, 0, none⟩) cap L ∧ Mod (fun i => i = g) w wz) := Lib.hid ⟨HB.out.1.old hG, HB.out.2.trans (Mod.of_below hG) (fun i hi h => by have := HB.out.2.size; omega)⟩
      clear hG HB
      have hkl := Hlt.out
      cases D with
      | false =>
        have hnx : Hid (∀ j, j < k + 1 + 1 → kp L j = true) := Lib.hid (fun j hj => by
          by_cases e : j = k + 1
          · rw [e]; exact Hkk.out
          · exact hkp.out j (by omega))
        go_wp2_with fail
        go_roundw
        case rel => exact ⟨k + 1, by omega, by go_num, hnx, HG⟩
        case measure => simp [intOf]; omega
      | true =>
        have C0 : Hid (cpt L (k + 1 + 0 + 1) = L.take (k + 1) ∧ (L.take (k + 1)).length = k + 1) := Lib.hid ⟨by
          rw [Nat.add_zero, cpt_skip Hkk.out, cpt_all (by have := Hn.out; omega) hkp.out], by rw [List.length_take]; have := Hn.out; omega⟩
        go_wp2_with fail
        clear C1 C2 hkp Heq Hkk i0 i1 e0 e1 hgl
        obtain ⟨o4, ho4⟩ : ∃ o4, o4 = o + (k + 1) * 32 := ⟨_, rfl⟩
        obtain ⟨n4, hn4⟩ : ∃ n4, n4 = n - (k + 1) := ⟨_, rfl⟩
        obtain ⟨c4, hc4⟩ : ∃ c4, c4 = cap - (k + 1) := ⟨_, rfl⟩
        rw [← ho4, ← hn4, ← hc4]
        have Ho4 := Lib.hid ho4
        have Hn4 := Lib.hid hn4
        have Hc4 := Lib.hid hc4
        have n4p : 1 ≤ n4 := by omega
        have c4p : n4 ≤ c4 := by omega
        clear ho4 hn4 hc4
        go_loopw [3, 5] (fun s3 s5 wr => ∃ (m c : Nat) (C : List Nm), m + 1 ≤ n4 ∧ s5 = .int .i64 ((m : Int) + 1) ∧ s3 = .int .i64 (c : Int) ∧ c ≤ k + 1 + m ∧ Hid (C.length = c ∧ C = cpt L (k + 1 + m + 1)) ∧ Hid (Rw encN 70 wr (some ⟨g, 0, none⟩) cap (C ++ L.drop C.length) ∧ Mod (fun i => i = g) w wr)) (fun _ i _ => n4 + 1 - (intOf i).toNat)
        case atStart => exact ⟨0, k + 1, L.take (k + 1), n4p, by go_num, by go_num, by omega, Lib.hid ⟨C0.out.2, C0.out.1.symm⟩, Lib.hid ⟨by rw [C0.out.2, List.take_append_drop]; exact HG.out.1, HG.out.2⟩⟩
        case round =>
          clear HG C0
          obtain ⟨m, c, C, hm, rfl, rfl, hc, HC, HB⟩ := hrel
          have Hcn : Hid (C.length ≤ L.length) := Lib.hid (by rw [HC.out.1, ← Hn.out]; have := Hn4.out; omega)
          by_cases hlm : m + 1 < n4
          · have j1 : k + 1 + m < L.length := by have := Hn4.out; have := Hn.out; omega
            have j2 : k + 1 + m + 1 < L.length := by have := Hn4.out; have := Hn.out; omega
            have hml := mid_len Hcn.out
            have c1 := HB.out.1.at (k + 1 + m) (by rw [hml]; exact j1) (o4 + m * 32) (by rw [Ho4.out, Ho.out]; omega)
            have c2 := HB.out.1.at (k + 1 + m + 1) (by rw [hml]; exact j2) (o4 + (m + 1) * 32) (by rw [Ho4.out, Ho.out]; omega)
            rw [mid_get (k + 1 + m) (by rw [HC.out.1]; exact hc) j1] at c1
            rw [mid_get (k + 1 + m + 1) (by rw [HC.out.1]; omega) j2] at c2
            have hgl : g < wr.heap.size := HB.out.1.lt
            have hkk := kp_succ L (k + 1 + m) j2
            obtain ⟨y, hy⟩ : ∃ y, y = L[k + 1 + m] := ⟨_, rfl⟩
            obtain ⟨x, hx⟩ : ∃ x, x = L[k + 1 + m + 1] := ⟨_, rfl⟩
            rw [← hy] at c1 hkk
            rw [← hx] at c2 hkk
            have C1 : Hid (∀ w', Below wr.heap.size wr w' → ∀ i u, (encN.f y)[i]? = some u → w'.cell? ⟨g, o4 + m * 32 + i, none⟩ = some u) := Lib.hid (fun w' hb i u hu => (World.cell?_of_block (hb.block g hgl)).trans (c1 i u hu))
            have C2 : Hid (∀ w', Below wr.heap.size wr w' → ∀ i u, (encN.f x)[i]? = some u → w'.cell? ⟨g, o4 + (m + 1) * 32 + i, none⟩ = some u) := Lib.hid (fun w' hb i u hu => (World.cell?_of_block (hb.block g hgl)).trans (c2 i u hu))
            obtain ⟨D, hD⟩ : ∃ D, D = (x.1 == y.1) := ⟨_, rfl⟩
            have Hne : Hid (∀ w, (binOp .neq 70 (.agg (vals x.1).toArray) (.agg (vals y.1).toArray)).run Tryz.prog w = .ok (.bool (!D)) w) := Lib.hid (fun w => by rw [hD]; exact id_neq x.1 y.1 x.2 y.2 w)
            rw [← hD] at hkk
            have Hkk := Lib.hid hkk
            have Hx : Hid (∀ h : k + 1 + m + 1 < L.length, L[k + 1 + m + 1] = x) := Lib.hid (fun _ => hx.symm)
            have Hlm := Lib.hid hlm
            have i0 : (0 : Int) ≤ m := by omega
            have i1 : (m : Int) < n4 := by omega
            have i4 : (m : Int) + 1 < n4 := by omega
            have e0 : IntKind.i64.wrap (m : Int) = (m : Int) := IntWalk.i64_in _ (by have := Hn4.out; omega)
            have e4 : ((m : Int) + 1).toNat = m + 1 := by omega
            have e5 : (0 : Int) ≤ (m : Int) + 1 := by omega
            have hkn : k + 1 + m + 1 < n := by have := Hn.out; omega
            clear hy hx c1 c2 hkk hD j1 j2 hml hlm
            go_wp2_with fail
            refine wp_region_puts (fun t v w => VK (match t with
              | 35 => .eq (.slice (some ⟨g, o4, none⟩) n4 c4)
              | 36 => .eq (.int .i64 ((m : Int) + 1))
              | 37 => .eq (.pointer (some ⟨g, o4 + (m + 1) * 32, none⟩))
              | 38 => .eq (.agg (vals x.1).toArray)
              | 39 => .eq (.slice (some ⟨g, o4, none⟩) n4 c4)
              | 40 => .eq (.int .i64 ((m : Int) + 1))
              | 41 => .eq (.int .i64 (m : Int))
              | 42 => .eq (.pointer (some ⟨g, o4 + m * 32, none⟩))
              | 43 => .eq (.agg (vals y.1).toArray)
              | 44 => .eq (.bool (!D))
              | _ => .any) v w) (fun w' => Below wr.heap.size wr w') 61 (by kernel_rfl) (by decide +kernel) rfl (Below.refl _ _).drew (by
              refine OweAll.cons (owesK rfl rfl fun a w1 ha hG hV => ?_) ?_
              · skip
                have h4 := ha.outer 4 (by decide +kernel)
                simp only [Act.eval] at h4
                exact ⟨.slice (some ⟨g, o4, none⟩) n4 c4, w1, wanted_free rfl, by simp [execOp, go_sem, h4], Below.refl _ _, rfl⟩
              refine OweAll.cons (owesK rfl rfl fun a w1 ha hG hV => ?_) ?_
              · skip
                have h5 := ha.outer 5 (by decide +kernel)
                simp only [Act.eval] at h5
                exact ⟨.int .i64 ((m : Int) + 1), w1, wanted_free rfl, by simp [execOp, go_sem, h5], Below.refl _ _, rfl⟩
              refine OweAll.cons (owesK rfl rfl fun a w1 ha hG hV => ?_) ?_
              · skip
                have h35 : a.tmps.getD 35 undef = .slice (some ⟨g, o4, none⟩) n4 c4 := hV.get 35 (by decide +kernel)
                have h36 : a.tmps.getD 36 undef = .int .i64 ((m : Int) + 1) := hV.get 36 (by decide +kernel)
                exact ⟨.pointer (some ⟨g, o4 + (m + 1) * 32, none⟩), w1, wanted_free rfl, by simp [execOp, go_sem, h35, h36, e4, e5, i4], Below.refl _ _, rfl⟩
              refine OweAll.cons (owesK rfl rfl fun a w1 ha hG hV => ?_) ?_
              · skip
                have h37 : a.tmps.getD 37 undef = .pointer (some ⟨g, o4 + (m + 1) * 32, none⟩) := hV.get 37 (by decide +kernel)
                exact ⟨.agg (vals x.1).toArray, w1, wanted_free rfl, exec_load_mid (.tmp 37) rfl g (o4 + (m + 1) * 32) h37 x (C2.out w1 hG), Below.refl _ _, rfl⟩
              refine OweAll.cons (owesK rfl rfl fun a w1 ha hG hV => ?_) ?_
              · skip
                have h4 := ha.outer 4 (by decide +kernel)
                simp only [Act.eval] at h4
                exact ⟨.slice (some ⟨g, o4, none⟩) n4 c4, w1, wanted_free rfl, by simp [execOp, go_sem, h4], Below.refl _ _, rfl⟩
              refine OweAll.cons (owesK rfl rfl fun a w1 ha hG hV => ?_) ?_
              · skip
                have h5 := ha.outer 5 (by decide +kernel)
                simp only [Act.eval] at h5
                exact ⟨.int .i64 ((m : Int) + 1), w1, wanted_free rfl, by simp [execOp, go_sem, h5], Below.refl _ _, rfl⟩
              refine OweAll.cons (owesK rfl rfl fun a w1 ha hG hV => ?_) ?_
              · skip
                have h40 : a.tmps.getD 40 undef = .int .i64 ((m : Int) + 1) := hV.get 40 (by decide +kernel)
                exact ⟨.int .i64 (m : Int), w1, wanted_free rfl, by simp [execOp, go_sem, h40, e0], Below.refl _ _, rfl⟩
              refine OweAll.cons (owesK rfl rfl fun a w1 ha hG hV => ?_) ?_
              · skip
                have h39 : a.tmps.getD 39 undef = .slice (some ⟨g, o4, none⟩) n4 c4 := hV.get 39 (by decide +kernel)
                have h41 : a.tmps.getD 41 undef = .int .i64 (m : Int) := hV.get 41 (by decide +kernel)
                exact ⟨.pointer (some ⟨g, o4 + m * 32, none⟩), w1, wanted_free rfl, by simp [execOp, go_sem, h39, h41, i0, i1], Below.refl _ _, rfl⟩
              refine OweAll.cons (owesK rfl rfl fun a w1 ha hG hV => ?_) ?_
              · skip
                have h42 : a.tmps.getD 42 undef = .pointer (some ⟨g, o4 + m * 32, none⟩) := hV.get 42 (by decide +kernel)
                exact ⟨.agg (vals y.1).toArray, w1, wanted_free rfl, exec_load_mid (.tmp 42) rfl g (o4 + m * 32) h42 y (C1.out w1 hG), Below.refl _ _, rfl⟩
              refine OweAll.cons (owesK rfl rfl fun a w1 ha hG hV => ?_) ?_
              · skip
                have h38 : a.tmps.getD 38 undef = .agg (vals x.1).toArray := hV.get 38 (by decide +kernel)
                have h43 : a.tmps.getD 43 undef = .agg (vals y.1).toArray := hV.get 43 (by decide +kernel)
                exact ⟨.bool (!D), w1, wanted_free rfl, by simp [execOp, go_sem, h38, h43, Hne.out], Below.refl _ _, rfl⟩
              exact OweAll.nil
              ) ?_
            intro f wz hG hv
            have e44 : f 44 = .bool (!D) := hv 9 _ 44 rfl rfl
            rename_i hK
            refine hK _ _ ?_
            clear hK hv
            simp only [dsts, puts, List.filterMap_cons, List.filterMap_nil, List.foldl_cons, List.foldl_nil, Act.put, List.setIfInBounds_toArray, List.set_cons_succ, List.set_cons_zero, e44]
            clear e44
            have HG : Hid (Rw encN 70 wz (some ⟨g, 0, none⟩) cap (C ++ L.drop C.length) ∧ Mod (fun i => i = g) w wz) := Lib.hid ⟨HB.out.1.old hG, HB.out.2.trans (Mod.of_below hG) (fun i hi h => by have := HB.out.2.size; omega)⟩
            have C3 : Hid (∀ i u, (encN.f x)[i]? = some u → wz.cell? ⟨g, o4 + (m + 1) * 32 + i, none⟩ = some u) := Lib.hid (C2.out wz hG)
            clear hG HB C1 C2 Hne
            have hml := Hlm.out
            cases D with
            | true =>
              have hnx : Hid (C = cpt L (k + 1 + (m + 1) + 1)) := Lib.hid (by rw [← Nat.add_assoc, cpt_skip Hkk.out]; exact HC.out.2)
              go_wp2_with fail
              go_roundw
              case rel => exact ⟨m + 1, c, C, by omega, by go_num, rfl, by omega, Lib.hid ⟨HC.out.1, hnx.out⟩, HG⟩
              case measure => simp [intOf]; omega
            | false =>
              have hcL : C.length < L.length := by rw [HC.out.1, ← Hn.out]; omega
              obtain ⟨cur, hh, hsz, hrw⟩ := HG.out.1.setAt C.length (by rw [mid_len Hcn.out]; exact hcL) x
              rw [mid_set x hcL] at hrw
              have HGM := HG.out.2.setRow (g := g) (cur.toList.take (C.length * encN.k) ++ encN.f x ++ cur.toList.drop (C.length * encN.k + encN.k)).toArray
              have hof : o + c * 32 = C.length * 32 := by rw [Ho.out, HC.out.1, Nat.zero_add]
              obtain ⟨W1, hW1⟩ : ∃ W1, W1 = wz.setRow g (cur.toList.take (C.length * encN.k) ++ encN.f x ++ cur.toList.drop (C.length * encN.k + encN.k)).toArray := ⟨_, rfl⟩
              rw [← hW1] at hrw HGM
              have hst : Hid (∀ (oo : Oper) (a : Act), oo.op = .store 70 (.tmp 51) (.tmp 50) → a.eval (.tmp 51) = .pointer (some ⟨g, o + c * 32, none⟩) → a.eval (.tmp 50) = .agg (vals x.1).toArray → (execOp a.eval oo).run Tryz.prog wz = .ok .skip W1) := Lib.hid (fun oo a ho hx hy => by
                rw [hW1]
                have h := exec_store_at (P := Tryz.prog) (w := wz) 70 (.tmp 51) (.tmp 50) ho g (o + c * 32) hx 70 cur (vals x.1) hy hh (by rw [hof, vals_len, x.2]; exact hsz) (by rw [vals_len, x.2]; kernel_rfl) (vals_one x.1)
                rw [hof, vals_len, x.2] at h
                exact h)
              have hnx : Hid (C ++ [x] = cpt L (k + 1 + (m + 1) + 1)) := Lib.hid (by
                have hl : k + 1 + m + 1 < L.length := by rw [← Hn.out]; exact hkn
                rw [← Nat.add_assoc, cpt_keep hl Hkk.out, Hx.out hl, ← HC.out.2])
              have Hw1 := Lib.hid (And.intro hrw (HGM.mono (T := fun i => i = g) (fun i _ h => h.elim id id)))
              have k0 : (0 : Int) ≤ c := by omega
              have k1 : (c : Int) < n := by omega
              clear hh hsz hrw HGM hof hW1 hcL HG
              go_wp2_with (first | (refine wpList_exec rfl (exec_load_mid (.tmp 49) rfl g (o4 + (m + 1) * 32) rfl x C3.out) ?_) | (refine wpList_skip rfl rfl (hst.out _ _ rfl rfl rfl) ?_))
              go_roundw
              case rel => exact ⟨m + 1, c + 1, C ++ [x], by omega, by go_num, by go_num, by omega, Lib.hid ⟨by rw [List.length_append, HC.out.1]; rfl, hnx.out⟩, Hw1⟩
              case measure => simp [intOf]; omega
          · have hend : k + 1 + m + 1 = n := by have := Hn4.out; omega
            have i4 : ¬ (m : Int) + 1 < n4 := by omega
            have hcn : c < n := by omega
            have hmn : (C ++ L.drop C.length).length = n := by rw [mid_len Hcn.out, Hn.out]
            obtain ⟨cur, hh, hrow⟩ : ∃ cur : Array Value, wr.heap[g]? = some (.cells cur 70 (0, 0)) ∧ ∀ Z : List Value, Z.length = (n - c) * 32 → c * 32 + Z.length ≤ cur.size ∧ Rw encN 70 (wr.setRow g (cur.toList.take (c * 32) ++ Z ++ cur.toList.drop (c * 32 + Z.length)).toArray) (some ⟨g, 0, none⟩) cap C := by
              obtain ⟨cur, hh, h3, h4, _, _⟩ := HB.out.1.parts
              refine ⟨cur, hh, fun Z hZ => ?_⟩
              obtain ⟨cur', hh', h5, h6⟩ := HB.out.1.clearAt C.length (by rw [hmn, HC.out.1]; omega) Z (by rw [hmn, HC.out.1]; exact hZ)
              obtain rfl : cur' = cur := by rw [hh] at hh'; cases hh'; rfl
              rw [HC.out.1, List.take_left' HC.out.1] at h6
              rw [HC.out.1] at h5
              exact ⟨h5, h6⟩
            have hz : (List.replicate ((n - c) * 32) undef).length = (n - c) * 32 := List.length_replicate
            have hb := (hrow _ hz).1
            rw [hz] at hb
            obtain ⟨Z, hZ, hcl⟩ := clear_names g (c * 32) (n - c) (cap - c) wr cur hh (by omega) hb
            have hof : o + c * 32 = c * 32 := by rw [Ho.out, Nat.zero_add]
            rw [← hof] at hcl
            obtain ⟨W1, hW1⟩ : ∃ W1, W1 = wr.setRow g (cur.toList.take (c * 32) ++ Z ++ cur.toList.drop (c * 32 + Z.length)).toArray := ⟨_, rfl⟩
            rw [hof, ← hW1] at hcl
            rw [← hof] at hcl
            have Hw1 : Hid (Rw encN 70 W1 (some ⟨g, 0, none⟩) cap C ∧ Mod (fun i => i = g) w W1) := Lib.hid ⟨by rw [hW1]; exact (hrow Z hZ).2, by rw [hW1]; exact (HB.out.2.setRow _).mono (fun i _ h => h.elim id id)⟩
            have hfin : Hid (C = cpt L n) := Lib.hid (by rw [← hend]; exact HC.out.2)
            have k0 : (0 : Int) ≤ c := by omega
            have k1 : (c : Int) ≤ n := by omega
            have k2 : (c : Int) ≤ cap := by omega
            clear hh hrow hz hb hof hW1 hZ hmn HB
            go_wp2_with fail
            rw [HF.out]
            exact ⟨by rw [Ho.out, ← hfin.out, HC.out.1], by rw [← hfin.out]; exact Hw1.out.1, Hw1.out.2⟩
    · have hfin : Hid (cpt L n = L) := Lib.hid (by
        have e : n = k + 1 := by omega
        rw [e, cpt_all (by rw [← Hn.out]; omega) hkp.out, List.take_of_length_le (by rw [← Hn.out]; omega)])
      have i3 : ¬ (k : Int) + 1 < n := by omega
      go_wp2_with fail
      rw [HF.out]
      exact ⟨by rw [Ho.out, hfin.out, ← Hn.out], by rw [hfin.out]; exact HB.out.1, HB.out.2⟩
end Go.Proofs.YtemnebbdaljfbaaGreatDoor

namespace Go.Proofs.YtemnebbdaljfbaaGreatDoor
open Go.RowKit

def zN : Nm := ⟨zid, rfl⟩
theorem info_name : (Tryz.prog.info? 70).map (fun i => (i.zero, i.size, i.bytes)) = some (some (.agg (vals zid).toArray), 32, 32) := by kernel_rfl
theorem all_rep (n : Nat) : (madeCells (vals zid).toArray (n * 32)).toList = encN.all (List.replicate n zN) := by
  have hzl : (vals zid).length = 32 := by rw [vals_len]; rfl
  apply List.ext_getElem?
  intro t
  by_cases ht : t < n * 32
  · have hd : t / 32 < n := by omega
    have hr : t % 32 < 32 := Nat.mod_lt _ (by decide)
    have he : t / 32 * 32 + t % 32 = t := by omega
    have h := encN.all_get (List.replicate n zN) (t / 32) (t % 32) (by simpa using hd) hr
    rw [show encN.k = 32 from rfl, he] at h
    rw [h, List.getElem_replicate, show encN.f zN = vals zid from rfl]
    generalize vals zid = V at hzl
    simp [madeCells, ht, hzl, hr]
  · have h2 : (encN.all (List.replicate n zN)).length = n * 32 := by rw [encN.all_len, List.length_replicate]; rfl
    rw [List.getElem?_eq_none (by simp [madeCells]; omega), List.getElem?_eq_none (by rw [h2]; omega)]
/-- 'make([]api.ID, n)'. -/
theorem wpList_makeN {ops : Array Oper} {rest : List Oper} {o : Oper} {a : Act} {Q : Exit → Act → World → Prop} {w : World} (hgd : o.guard = none) (l c : Operand) (hop : o.op = Op.makeSlice 39 l c)
    (n : Nat) (L C : Int) (hl : a.eval l = .int .i64 L) (hc : a.eval c = .int .i64 C) (hL : L = (n : Int)) (hC : C = (n : Int)) (hn : n ≤ 1000000)
    (hK : ∀ w', Rw encN 70 w' (some ⟨w.heap.size, 0, none⟩) n (List.replicate n zN) → Below w.heap.size w w' → w.heap.size < w'.heap.size → wpList Tryz.prog ops Q rest (a.put o.dst (.slice (some ⟨w.heap.size, 0, none⟩) n n)) w') :
    wpList Tryz.prog ops Q (o :: rest) a w := by
  obtain ⟨i, hi, hzz⟩ := Option.map_eq_some_iff.1 info_name
  simp only [Prod.mk.injEq] at hzz
  obtain ⟨hz, h1, h2⟩ := hzz
  refine wpList_make_full w hgd l c 39 hop 0 70 i (.agg (vals zid).toArray) 32 Tryz.underlying39 hi hz h1 .i64 .i64 L C n hl hc hL hC (by rw [h2]; omega) (by unfold maxLen; omega) (Nat.zero_le _) ?_
  intro w' hown hgrow
  rw [show (Value.agg (vals zid).toArray).cells = (vals zid).toArray from rfl, all_rep] at hown
  refine hK w' ?_ ((Below.refl _ _).grown hgrow (Nat.le_refl _) (by intro k h; cases h)) ?_
  · unfold Rw; rw [List.length_replicate]; exact hown
  · rcases hown.2 with ⟨h, _⟩ | ⟨g, cap, cur, h, _, hh, _⟩
    · cases h
    · simp only [Value.slice.injEq, Option.some.injEq, Addr.mk.injEq] at h
      obtain ⟨⟨rfl, _⟩, _⟩ := h
      exact (Array.getElem?_eq_some_iff.1 hh).1
theorem ext_bytes (K : List UInt8) (a b : Nat) : (⟨K.toArray⟩ : ByteArray).extract a b = ⟨((K.drop a).take (b - a)).toArray⟩ := by
  apply ByteArray.ext
  simp [List.extract_eq_take_drop]
/-- The i-th 32 bytes. -/
def pc (K : List UInt8) (i : Nat) : Nm := nmOf ((K.drop (i * 32)).take 32)
/-- The pieces of 32 bytes. -/
def pcs (K : List UInt8) : List Nm := (List.range (K.length / 32)).map (pc K)
/-- The first i are written. -/
def mid (K : List UInt8) (m i : Nat) : List Nm := (List.range i).map (pc K) ++ List.replicate (m - i) zN
theorem mid_l (K : List UInt8) (m i : Nat) (h : i ≤ m) : (mid K m i).length = m := by simp [mid]; omega
theorem mid_s (K : List UInt8) (m i : Nat) (h : i < m) : (mid K m i).set i (pc K i) = mid K m (i + 1) := by
  unfold mid
  rw [List.set_append_right _ _ (by simp), List.length_map, List.length_range, Nat.sub_self, show m - i = (m - (i + 1)) + 1 by omega, List.replicate_succ, List.set_cons_zero, List.range_succ, List.map_append, List.append_assoc]
  simp
/-- Are these one to five names, rising? -/
def nmsOk (K : List UInt8) : Bool := decide (K.length % 32 = 0 ∧ 1 ≤ K.length / 32 ∧ K.length / 32 ≤ 5) && rs ((pcs K).map (·.1)) (K.length / 32 - 1)
def NPost (K : List UInt8) (w : World) (r : Ending) (w' : World) : Prop :=
  ∃ q c L, r = .returned (.tuple #[.slice q L.length c, .bool (nmsOk K)]) ∧ L = (if nmsOk K then pcs K else []) ∧ Rw encN 70 w' q c L ∧ (∀ a, q = some a → w.heap.size ≤ a.block) ∧ Below w.heap.size w w'
theorem NPost.no {K : List UInt8} {w w' : World} (h : nmsOk K = false) (hb : Below w.heap.size w w') : NPost K w (.returned (.tuple #[.slice none 0 0, .bool false])) w' :=
  ⟨none, 0, [], by rw [h]; rfl, by rw [h]; rfl, Rw.empty _ _, (fun a e => by cases e), hb⟩
theorem NPost.of {K : List UInt8} {w w' : World} {r : Ending} (h : NPost K w r w') {P : Ending → World → Prop} (hP : P = NPost K w) : P r w' := by rw [hP]; exact h

set_option maxRecDepth 20000 in
set_option maxHeartbeats 4000000 in
theorem hnames_any (K : List UInt8) (w : World) (hK : K.length ≤ 1000000) : Calls Tryz.prog 26 #[.string ⟨K.toArray⟩] w (NPost K w) := by
  obtain ⟨F, hF⟩ : ∃ F, F = NPost K w := ⟨_, rfl⟩
  have HF := Lib.hid hF
  rw [← hF]
  clear hF
  by_cases h1 : K.length % 32 = 0
  · have e1 : (K.length : Int) % 32 = 0 := by omega
    by_cases h2 : 1 ≤ K.length / 32
    · have e2 : ¬ (K.length : Int) / 32 < 1 := by omega
      by_cases h3 : K.length / 32 ≤ 5
      · have e3 : ¬ 5 < (K.length : Int) / 32 := by omega
        obtain ⟨m, hm⟩ : ∃ m, m = K.length / 32 := ⟨_, rfl⟩
        have HM : Hid ((K.length : Int) / 32 = (m : Int)) := Lib.hid (by omega)
        have H5 : Hid (m ≤ 1000000) := Lib.hid (by omega)
        have h5 : m ≤ 5 := by omega
        have Hm := Lib.hid hm
        have Hk : Hid (m * 32 = K.length ∧ nmsOk K = rs ((pcs K).map (·.1)) (m - 1)) := Lib.hid ⟨by omega, by unfold nmsOk; rw [decide_eq_true ⟨h1, h2, h3⟩, Bool.true_and, ← hm]⟩
        clear h1 h2 h3 hm
        go_enter Tryz.func26, Tryz.ntmps26
        go_wp2_with (at_make; refine wpList_makeN rfl _ _ rfl m _ _ rfl rfl HM.out HM.out H5.out ?_; intro w1 hrw hb1 hlt1)
        obtain ⟨g, hg⟩ : ∃ g, g = w.heap.size := ⟨_, rfl⟩
        obtain ⟨o, ho⟩ : ∃ o, o = 0 := ⟨_, rfl⟩
        rw [← hg] at hrw hlt1 ⊢
        rw [show (some (⟨g, 0, none⟩ : Addr)) = some ⟨g, o, none⟩ by rw [ho]]
        have Hg := Lib.hid hg
        have Ho := Lib.hid ho
        have HR1 : Hid (Rw encN 70 w1 (some ⟨g, 0, none⟩) m (mid K m 0) ∧ Below w.heap.size w w1) := Lib.hid ⟨by simpa [mid] using hrw, hb1⟩
        clear hg ho hrw hb1 hlt1
        go_loopw [6, 26] (fun _ s26 wr => ∃ i : Nat, i ≤ m ∧ s26 = .int .i64 (i : Int) ∧ Hid (Rw encN 70 wr (some ⟨g, 0, none⟩) m (mid K m i) ∧ Below w.heap.size w wr)) (fun _ i _ => m - (intOf i).toNat)
        case atStart => exact ⟨0, Nat.zero_le _, rfl, HR1⟩
        case round =>
          clear HR1
          obtain ⟨i, hi, rfl, HB⟩ := hrel
          by_cases hlt : i < m
          · have i0 : (0 : Int) ≤ i := by omega
            have i1 : (i : Int) < m := by omega
            have hk5 : m * 32 = K.length := Hk.out.1
            have e5 : IntKind.i64.wrap ((i : Int) * 32) = (i : Int) * 32 := IntWalk.i64_in _ (by omega)
            have e6 : IntKind.i64.wrap ((i : Int) + 1) = (i : Int) + 1 := IntWalk.i64_in _ (by omega)
            have e7 : IntKind.i64.wrap (((i : Int) + 1) * 32) = ((i : Int) + 1) * 32 := IntWalk.i64_in _ (by omega)
            have e8 : ((i : Int) * 32).toNat = i * 32 := by omega
            have e9 : (((i : Int) + 1) * 32).toNat = (i + 1) * 32 := by omega
            have e10 : (0 : Int) ≤ (i : Int) * 32 := by omega
            have e11 : (i : Int) * 32 ≤ ((i : Int) + 1) * 32 := by omega
            have e12 : ((i : Int) + 1) * 32 ≤ (K.length : Int) := by omega
            have Hlt := Lib.hid hlt
            obtain ⟨x, hx⟩ : ∃ x, x = pc K i := ⟨_, rfl⟩
            have hname : Hid (∀ w, Calls Tryz.prog 61 #[.string ((⟨K.toArray⟩ : ByteArray).extract (i * 32) ((i + 1) * 32))] w fun r w' => r = .returned (.agg (vals x.1).toArray) ∧ Below w.heap.size w w') := Lib.hid (fun w => by
              rw [hx, ext_bytes, show (i + 1) * 32 - i * 32 = 32 by omega]; exact name_any _ w)
            have HST : Hid (∀ w3, Below wr.heap.size wr w3 → ∃ W4, (Rw encN 70 W4 (some ⟨g, 0, none⟩) m (mid K m (i + 1)) ∧ Below w.heap.size w W4) ∧
                ∀ (oo : Oper) (a : Act), oo.op = .store 70 (.tmp 39) (.tmp 38) → a.eval (.tmp 39) = .pointer (some ⟨g, o + i * 32, none⟩) → a.eval (.tmp 38) = .agg (vals x.1).toArray → (execOp a.eval oo).run Tryz.prog w3 = .ok .skip W4) := Lib.hid (fun w3 hb3 => by
              obtain ⟨cur, hh, hsz, hrw⟩ := (HB.out.1.old hb3).setAt i (by rw [mid_l K m i hi]; exact hlt) x
              rw [hx, mid_s K m i hlt] at hrw
              have hm : Below w.heap.size w w3 := HB.out.2.trans (hb3.mono HB.out.2.size)
              refine ⟨_, ⟨hrw, ((Mod.of_below hm).setRow _).to_below (Nat.le_refl _) (by rintro k hk (h | h) <;> (have := Hg.out; omega))⟩, fun oo a h1 h2 h3 => ?_⟩
              have hof : o + i * 32 = i * 32 := by rw [Ho.out, Nat.zero_add]
              rw [hof] at h2
              have h := exec_store_at (P := Tryz.prog) (w := w3) 70 (.tmp 39) (.tmp 38) h1 g (i * 32) h2 70 cur (vals x.1) h3 hh (by rw [vals_len, x.2]; exact hsz) (by rw [vals_len, x.2]; kernel_rfl) (vals_one x.1)
              rw [vals_len, x.2] at h
              rw [← hx]
              exact h)
            clear hk5 hlt hx HB
            go_wp2_with (first | (refine (hname.out _).mono ?_; rintro r w3 ⟨rfl, hb3⟩; obtain ⟨W4, hw4, hst⟩ := HST.out w3 hb3) | (refine wpList_skip rfl rfl (hst _ _ rfl rfl rfl) ?_))
            have HW4 := Lib.hid hw4
            have hlt := Hlt.out
            clear hst hw4 HST hb3
            go_roundw
            case rel => exact ⟨i + 1, by omega, by go_num, HW4⟩
            case measure => simp [intOf]; omega
          · have hend : mid K m i = pcs K := by
              have e : i = m := by omega
              rw [e]; unfold mid pcs; rw [Nat.sub_self, Hm.out]; simp
            have hpl : (pcs K).length = m := by unfold pcs; rw [List.length_map, List.length_range, Hm.out]
            have i1 : ¬ (i : Int) < m := by omega
            obtain ⟨R, hR⟩ : ∃ R, R = rs ((pcs K).map (·.1)) (m - 1) := ⟨_, rfl⟩
            have HW : Hid (Rw encN 70 wr (some ⟨g, 0, none⟩) m (pcs K) ∧ Below w.heap.size w wr) := Lib.hid ⟨by rw [← hend]; exact HB.out.1, HB.out.2⟩
            have hris : Hid (Calls Tryz.prog 62 #[.slice (some ⟨g, o, none⟩) m m] wr fun r w' => r = .returned (.bool R) ∧ Below wr.heap.size wr w') := Lib.hid (by
              have h := rising_any (some ⟨g, 0, none⟩) m (pcs K) wr HW.out.1.rd (by rw [hpl]; exact H5.out)
              rw [hpl, ← hR] at h
              rw [Ho.out]; exact h)
            have HR : Hid (nmsOk K = R) := Lib.hid (by rw [Hk.out.2, hR])
            have Hpl := Lib.hid hpl
            clear hend hpl hR HB
            cases R with
            | true =>
              go_wp2_with (refine hris.out.mono ?_; rintro r w3 ⟨rfl, hb3⟩)
              rw [HF.out]
              exact ⟨some ⟨g, 0, none⟩, m, pcs K, by rw [HR.out, Hpl.out, Ho.out]; rfl, by rw [HR.out]; rfl, HW.out.1.old hb3, (fun a e => by cases e; exact Nat.le_of_eq Hg.out.symm), HW.out.2.trans (hb3.mono HW.out.2.size)⟩
            | false =>
              go_wp2_with (refine hris.out.mono ?_; rintro r w3 ⟨rfl, hb3⟩)
              rw [HF.out]
              exact NPost.no HR.out (HW.out.2.trans (hb3.mono HW.out.2.size))
      · have hno : Hid (nmsOk K = false) := Lib.hid (by unfold nmsOk; rw [decide_eq_false (by omega)]; rfl)
        have e3 : 5 < (K.length : Int) / 32 := by omega
        clear h1 h2 h3
        go_enter Tryz.func26, Tryz.ntmps26
        go_wp2_with fail
        rw [HF.out]
        exact NPost.no hno.out (Below.refl _ _)
    · have hno : Hid (nmsOk K = false) := Lib.hid (by unfold nmsOk; rw [decide_eq_false (by omega)]; rfl)
      have e2 : (K.length : Int) / 32 < 1 := by omega
      clear h1 h2
      go_enter Tryz.func26, Tryz.ntmps26
      go_wp2_with fail
      rw [HF.out]
      exact NPost.no hno.out (Below.refl _ _)
  · have hno : Hid (nmsOk K = false) := Lib.hid (by unfold nmsOk; rw [decide_eq_false (by omega)]; rfl)
    have e1 : ((K.length : Int) % 32 == 0) = false := by simp; omega
    go_enter Tryz.func26, Tryz.ntmps26
    go_wp2_with fail
    rw [HF.out]
    exact NPost.no hno.out (Below.refl _ _)
end Go.Proofs.YtemnebbdaljfbaaGreatDoor

namespace Go.Proofs.YtemnebbdaljfbaaGreatDoor
open Go.RowKit

theorem cmpB_self (a : List UInt8) : Lib.compareBytes a a = 0 := by
  induction a with
  | nil => rfl
  | cons x l ih => simp [Lib.compareBytes, ih]
theorem cmpB_eq : ∀ (a b : List UInt8), ¬ Lib.compareBytes a b < 0 → ¬ Lib.compareBytes b a < 0 → a = b
  | [], [], _, _ => rfl
  | [], _ :: _, h, _ => absurd (by simp [Lib.compareBytes]) h
  | _ :: _, [], _, h => absurd (by simp [Lib.compareBytes]) h
  | a :: l, b :: m, h1, h2 => by
    simp only [Lib.compareBytes] at h1 h2
    by_cases e : a < b
    · rw [if_pos e] at h1; exact absurd (by decide) h1
    · by_cases e2 : b < a
      · rw [if_pos e2] at h2; exact absurd (by decide) h2
      · rw [if_neg e, if_neg e2] at h1
        rw [if_neg e2, if_neg e] at h2
        have : a = b := UInt8.toNat_inj.1 (by rw [UInt8.lt_iff_toNat_lt] at e e2; omega)
        rw [this, cmpB_eq l m h1 h2]
theorem cmpB_trans : ∀ (a b c : List UInt8), Lib.compareBytes a b < 0 → Lib.compareBytes b c < 0 → Lib.compareBytes a c < 0
  | [], [], _, h, _ => by exact absurd h (by decide)
  | [], _ :: _, [], _, h => by exact absurd h (by simp [Lib.compareBytes])
  | [], _ :: _, _ :: _, _, _ => by simp [Lib.compareBytes]
  | _ :: _, [], _, h, _ => by exact absurd h (by simp [Lib.compareBytes])
  | _ :: _, _ :: _, [], _, h => by exact absurd h (by simp [Lib.compareBytes])
  | a :: l, b :: m, c :: n, h1, h2 => by
    simp only [Lib.compareBytes] at h1 h2 ⊢
    simp only [UInt8.lt_iff_toNat_lt] at h1 h2 ⊢
    by_cases e1 : a.toNat < b.toNat
    · by_cases e2 : b.toNat < c.toNat
      · rw [if_pos (by omega)]; decide
      · rw [if_neg e2] at h2
        by_cases e3 : c.toNat < b.toNat
        · rw [if_pos e3] at h2; exact absurd h2 (by decide)
        · rw [if_pos (by omega)]; decide
    · rw [if_neg e1] at h1
      by_cases e4 : b.toNat < a.toNat
      · rw [if_pos e4] at h1; exact absurd h1 (by decide)
      · rw [if_neg e4] at h1
        by_cases e2 : b.toNat < c.toNat
        · rw [if_pos (by omega)]; decide
        · rw [if_neg e2] at h2
          by_cases e3 : c.toNat < b.toNat
          · rw [if_pos e3] at h2; exact absurd h2 (by decide)
          · rw [if_neg e3] at h2
            rw [if_neg (by omega), if_neg (by omega)]
            exact cmpB_trans l m n h1 h2
/-- One more text, rising, once. -/
def insB (s : List UInt8) : List (List UInt8) → List (List UInt8)
  | [] => [s]
  | t :: r => if Lib.compareBytes s t < 0 then s :: t :: r else if Lib.compareBytes t s < 0 then t :: insB s r else t :: r
/-- A round of the reference's inner loop: what is next, is s done? -/
def insR (s : List UInt8) (st : List (List UInt8) × Bool) (t : List UInt8) : List (List UInt8) × Bool :=
  ((if !st.2 && decide (Lib.compareBytes s t < 0) then st.1 ++ [s] else st.1) ++ [t], st.2 || !decide (Lib.compareBytes t s < 0))
def insE (s : List UInt8) (st : List (List UInt8) × Bool) : List (List UInt8) := if st.2 then st.1 else st.1 ++ [s]
theorem insR_true (s : List UInt8) (l A : List (List UInt8)) : insE s (l.foldl (insR s) (A, true)) = A ++ l := by
  induction l generalizing A with
  | nil => simp [insE]
  | cons t r ih => rw [List.foldl_cons, show insR s (A, true) t = (A ++ [t], true) by simp [insR], ih]; simp
theorem insR_false (s : List UInt8) (l A : List (List UInt8)) : insE s (l.foldl (insR s) (A, false)) = A ++ insB s l := by
  induction l generalizing A with
  | nil => simp [insE, insB]
  | cons t r ih =>
    rw [List.foldl_cons]
    by_cases h1 : Lib.compareBytes s t < 0
    · have h2 : ¬ Lib.compareBytes t s < 0 := fun h => by have := cmpB_trans s t s h1 h; rw [cmpB_self] at this; exact absurd this (by decide)
      rw [show insR s (A, false) t = (A ++ [s] ++ [t], true) by simp [insR, h1, h2], insR_true, insB, if_pos h1]; simp
    · by_cases h2 : Lib.compareBytes t s < 0
      · rw [show insR s (A, false) t = (A ++ [t], false) by simp [insR, h1, h2], ih, insB, if_neg h1, if_pos h2]; simp
      · rw [show insR s (A, false) t = (A ++ [t], true) by simp [insR, h1, h2], insR_true, insB, if_neg h1, if_neg h2]; simp
/-- The reference's Sort. -/
def rsort (L : List (List UInt8)) : List (List UInt8) := L.foldl (fun out s => insB s out) []
theorem rsort_snoc (L : List (List UInt8)) (s : List UInt8) : rsort (L ++ [s]) = insB s (rsort L) := by simp [rsort, List.foldl_append]
end Go.Proofs.YtemnebbdaljfbaaGreatDoor

namespace Go.Proofs.YtemnebbdaljfbaaGreatDoor
open Go.RowKit Go.Sort

instance : Inhabited Nm := ⟨zN⟩
/-- Two names against each other. -/
def cfN (x y : Nm) : Int := Lib.compareBytes x.1 y.1
theorem cfN_lt (x y : Nm) : ltOf cfN x y = decide (Lib.compareBytes x.1 y.1 < 0) := rfl
theorem cfN_total (x y : Nm) (h1 : ltOf cfN x y = false) (h2 : ltOf cfN y x = false) : x = y := by
  rw [cfN_lt, decide_eq_false_iff_not] at h1 h2
  exact Subtype.ext (cmpB_eq _ _ h1 h2)
theorem cfN_trans (x y z : Nm) (h1 : ltOf cfN x y = true) (h2 : ltOf cfN y z = true) : ltOf cfN x z = true := by
  rw [cfN_lt, decide_eq_true_iff] at *
  exact cmpB_trans _ _ _ h1 h2
theorem cfN_swo : SWO (ltOf cfN) where
  irrefl x := by rw [cfN_lt, cmpB_self]; rfl
  trans := cfN_trans
  ntrans x y z h1 h2 := by
    cases h : ltOf cfN x z with
    | false => rfl
    | true =>
      cases h3 : ltOf cfN y x with
      | true => rw [cfN_trans y x z h3 h] at h2; cases h2
      | false => rw [cfN_total x y h1 h3, h2] at h; cases h
/-- The names sorted. -/
def ksort (L : List Nm) : List Nm := L.mergeSort fun x y => !(ltOf cfN) y x

section
variable {P : Program} {ops : Array Oper} {Q : Exit → Act → World → Prop} {md : Region.Mode} {K : Tmp → Kd} {W : World} {a0 : Act}
/-- An operation that reads. -/
theorem owesQ {i : Nat} {o : Oper} {t : Tmp} (hi : ops[i]? = some o) (ht : o.dst = some t) (h : ∀ a w, Agree ops a0 a → (∃ q, w = W.drewN q) → AllV (fun t v w => VK (K t) v w) a w (waits md ops o) →
    ∃ v, Region.wanted o (yielded ops a.tmps) = true ∧ (execOp a.eval o).run P w = .ok (.value v) w ∧ VK (K t) v w) : Owes P md ops Q (fun t v w => VK (K t) v w) (fun w => ∃ q, w = W.drewN q) a0 i o := by
  intro a w ha hG hV
  obtain ⟨v, hw, hr, hv⟩ := h a w ha hG hV
  unfold wpOp
  rw [hi]
  simp only [hw, if_true, Oper.wp, hr, Oper.upon]
  exact .inl ⟨v, rfl, fun u hu => by rw [ht] at hu; cases hu; exact hv, hG, fun _ _ h => h⟩
theorem owesQ_call {i : Nat} {o : Oper} {t : Tmp} (hi : ops[i]? = some o) (ht : o.dst = some t) (f : FuncId) (h : ∀ a w, Agree ops a0 a → (∃ q, w = W.drewN q) → AllV (fun t v w => VK (K t) v w) a w (waits md ops o) →
    ∃ args, Region.wanted o (yielded ops a.tmps) = true ∧ (execOp a.eval o).run P w = .ok (.enter f args) w ∧
      Calls P f args w fun e w' => ∃ v, e = .returned v ∧ VK (K t) v w' ∧ w = w') : Owes P md ops Q (fun t v w => VK (K t) v w) (fun w => ∃ q, w = W.drewN q) a0 i o := by
  intro a w ha hG hV
  obtain ⟨args, hw, hr, hc⟩ := h a w ha hG hV
  unfold wpOp
  rw [hi]
  simp only [hw, if_true, Oper.wp, hr, Oper.upon]
  refine .inl (hc.mono ?_)
  rintro e w' ⟨v, rfl, h1, rfl⟩
  exact ⟨v, rfl, fun u hu => by rw [ht] at hu; cases hu; exact h1, hG, fun _ _ h => h⟩
end

set_option maxHeartbeats 1000000 in
set_option maxRecDepth 20000 in
/-- compare lays two blocks, and draws. -/
theorem hcompare_grow (n1 n2 : List UInt8) (w : World) (hs : n1.length = 32) (ht : n2.length = 32) :
    Calls Tryz.prog 79 #[.agg (vals n1).toArray, .agg (vals n2).toArray] w fun r w' => r = .returned (.int .i64 (Lib.compareBytes n1 n2)) ∧ ∃ q os', w' = grow (w.drewN q) os' := by
  have hA : IdAt ((w.alloc (.cells (vals n1).toArray 70)).alloc (.cells (vals n2).toArray 70)) w.heap.size n1 := ⟨hs, by rw [Below.heap_alloc _ _ _ (by simp)]; exact heap_alloc_new w _⟩
  have hB : IdAt ((w.alloc (.cells (vals n1).toArray 70)).alloc (.cells (vals n2).toArray 70)) (w.heap.size + 1) n2 := ⟨ht, by have := heap_alloc_new (w.alloc (.cells (vals n1).toArray 70)) (.cells (vals n2).toArray 70); simpa using this⟩
  have hb : ∃ os, (w.alloc (.cells (vals n1).toArray 70)).alloc (.cells (vals n2).toArray 70) = grow w os := ⟨_, by rw [alloc_eq_grow, alloc_eq_grow, grow_grow]⟩
  have s1 := id_size hs
  have s2 := id_size ht
  have HA := Lib.hid hA
  have HB := Lib.hid hB
  have Hb := Lib.hid hb
  clear hA hB hb
  generalize (vals n1).toArray = S at s1 HA HB Hb ⊢
  generalize (vals n2).toArray = T at s2 HA HB Hb ⊢
  go_enter Tryz.func79, Tryz.ntmps79
  go_wp2_with fail
  generalize (w.alloc (.cells S 70)).alloc (.cells T 70) = W at HA HB Hb ⊢
  generalize w.heap.size = n0 at HA HB ⊢
  have Hq : Hid (∀ w' q, w' = W.drewN q → Below W.heap.size W w') := Lib.hid (fun w' q e => by rw [e]; exact ⟨rfl, rfl, rfl, Nat.le_refl _, fun _ _ => rfl⟩)
  refine wp_region_puts (fun t v w => VK (match t with
    | 5 => .eq (.slice (some ⟨n0, 0, none⟩) 32 32)
    | 6 => .eq (.slice (some ⟨n0 + 1, 0, none⟩) 32 32)
    | 7 => .eq (.int .i64 (Lib.compareBytes n1 n2))
    | 4 => .eq (.int .i64 (Lib.compareBytes n1 n2))
    | _ => .any) v w) (fun w' => ∃ q, w' = W.drewN q) 8 (by kernel_rfl) (by decide +kernel) rfl ⟨1, rfl⟩ (by
    refine OweAll.cons (owesQ rfl rfl fun a w1 ha hG hV => ?_) ?_
    · skip
      have h2 := ha.outer 2 (by decide +kernel)
      simp only [Act.eval] at h2
      exact ⟨.slice (some ⟨n0, 0, none⟩) 32 32, wanted_free rfl, by simp [execOp, go_sem, h2], rfl⟩
    refine OweAll.cons (owesQ rfl rfl fun a w1 ha hG hV => ?_) ?_
    · skip
      have h3 := ha.outer 3 (by decide +kernel)
      simp only [Act.eval] at h3
      exact ⟨.slice (some ⟨n0 + 1, 0, none⟩) 32 32, wanted_free rfl, by simp [execOp, go_sem, h3], rfl⟩
    refine OweAll.cons (owesQ_call rfl rfl 93 fun a w1 ha hG hV => ?_) ?_
    · skip
      have h5 : a.tmps.getD 5 undef = .slice (some ⟨n0, 0, none⟩) 32 32 := hV.get 5 (by decide +kernel)
      have h6 : a.tmps.getD 6 undef = .slice (some ⟨n0 + 1, 0, none⟩) 32 32 := hV.get 6 (by decide +kernel)
      refine ⟨#[.slice (some ⟨n0, 0, none⟩) 32 32, .slice (some ⟨n0 + 1, 0, none⟩) 32 32], wanted_free rfl, by simp [execOp, resolve, invoke, go_sem, h5, h6], ?_⟩
      obtain ⟨q, hq⟩ := hG
      have hG := Hq.out w1 q hq
      refine (bcompare_any _ _ n1 n2 w1 (HA.out.old hG) (HB.out.old hG)).mono ?_
      rintro r u2 ⟨rfl, rfl⟩; exact ⟨_, rfl, rfl, rfl⟩
    refine OweAll.cons (owesQ rfl rfl fun a w1 ha hG hV => ?_) ?_
    · skip
      have h7 : a.tmps.getD 7 undef = .int .i64 (Lib.compareBytes n1 n2) := hV.get 7 (by decide +kernel)
      exact ⟨.int .i64 (Lib.compareBytes n1 n2), wanted_free rfl, by simp [execOp, go_sem, h7], rfl⟩
    exact OweAll.nil
    ) ?_
  intro f wz hG hv
  have e4 : f 4 = .int .i64 (Lib.compareBytes n1 n2) := hv 3 _ 4 rfl rfl
  rename_i hK
  refine hK _ _ ?_
  clear hK hv
  simp only [dsts, puts, List.filterMap_cons, List.filterMap_nil, List.foldl_cons, List.foldl_nil, Act.put, List.setIfInBounds_toArray, List.set_cons_succ, List.set_cons_zero, e4]
  clear e4
  have HG : Hid (∃ q os', wz = grow (w.drewN q) os') := Lib.hid (by
    obtain ⟨q, rfl⟩ := hG
    obtain ⟨os, rfl⟩ := Hb.out
    exact ⟨q, os, rfl⟩)
  clear hG
  go_wp2_with fail
  go_ret
  exact ⟨rfl, HG.out⟩

theorem flat_get (M : Array Nm) (t : Nat) (h : t < M.size * 32) : (encN.all M.toList)[t]? = some ((flatK encN.f 32 M)[t]!) := by
  have hd : t / 32 < M.toList.length := by rw [Array.length_toList]; omega
  have hr : t % 32 < 32 := Nat.mod_lt _ (by decide)
  have he : t / 32 * 32 + t % 32 = t := by omega
  have h1 := encN.all_get M.toList (t / 32) (t % 32) hd hr
  rw [show encN.k = 32 from rfl, he] at h1
  rw [h1, get_flatK _ _ _ _ h]
  have hd2 : t / 32 < M.size := by simpa using hd
  rw [getElem!_pos M _ hd2, Array.getElem_toList]
  have hl : t % 32 < (encN.f M[t / 32]).length := by rw [encN.len]; exact hr
  rw [List.getElem?_eq_getElem hl, getElem!_pos (encN.f M[t / 32]) (t % 32) hl]
theorem Rw.holds {w : World} {g c : Nat} {L : List Nm} (h : Rw encN 70 w (some ⟨g, 0, none⟩) c L) : HoldsK encN.f 32 w g 0 L.toArray := by
  obtain ⟨cur, hh, h3, h1, h2, R, hR⟩ := h.parts
  intro j hj
  have hj2 : j < L.toArray.size * 32 := by simpa using hj
  refine ⟨?_, frozen_of_row w g _ _ 70 hh⟩
  rw [cell_of_row w g _ _ 70 (0, 0) hh, Nat.zero_add]
  have hl : j < (encN.all L).length := by rw [encN.all_len, show encN.k = 32 from rfl]; simpa using hj2
  have e := flat_get L.toArray j hj2
  rw [List.toList_toArray] at e
  rw [← Array.getElem?_toList, hR, List.getElem?_append_left hl, e]; rfl
theorem Rw.sorted {w : World} {g c : Nat} {L : List Nm} (h : Rw encN 70 w (some ⟨g, 0, none⟩) c L) (d : Array Nm) (hd : d.size = L.length) (m : Nat) (os : Array Obj) :
    Rw encN 70 (sortWorldK encN.f 32 w g 0 m d os) (some ⟨g, 0, none⟩) c d.toList ∧ Mod (fun i => i = g) w (sortWorldK encN.f 32 w g 0 m d os) := by
  obtain ⟨cur, hh, h3, h1, h2, R, hR⟩ := h.parts
  have hgl : g < w.heap.size := h.lt
  have hk : ∀ k, k < w.heap.size → (sortWorldK encN.f 32 w g 0 m d os).heap[k]? = if g = k then some (.cells (putCells id 0 (flatK encN.f 32 d) cur) 70 (0, 0)) else w.heap[k]? := by
    intro k hk
    have e : (sortWorldK encN.f 32 w g 0 m d os).heap = (w.heap.modify g (onCells (putCells id 0 (flatK encN.f 32 d)))) ++ os := rfl
    rw [e, Array.getElem?_append_left (by rw [Array.size_modify]; exact hk), Array.getElem?_modify]
    by_cases e1 : g = k
    · subst e1; rw [if_pos rfl, if_pos rfl, hh]; rfl
    · rw [if_neg e1, if_neg e1]
  refine ⟨Rw.of_row (by rw [hk g hgl, if_pos rfl]) (by rw [Array.length_toList, hd]; exact h1) h2 (by rw [← h3]; simp [putCells]) ?_, rfl, rfl, rfl, size_sortWorldK_c encN.f 32 w g 0 m d os, fun k hk1 hn => by rw [hk k hk1, if_neg (fun e => hn e.symm)]⟩
  have hcl : d.size * 32 ≤ cur.size := by rw [h3, hd]; exact Nat.mul_le_mul_right 32 h1
  apply List.ext_getElem?
  intro t
  by_cases ht : t < d.size * 32
  · rw [flat_get d t ht, List.getElem?_take_of_lt (by rw [Array.length_toList]; exact ht), Array.getElem?_toList]
    have htc : t < cur.size := by omega
    simp [putCells, htc, ht]
  · have h5 : (encN.all d.toList).length = d.size * 32 := by rw [encN.all_len, Array.length_toList]; rfl
    rw [List.getElem?_eq_none (by rw [List.length_take, Array.length_toList]; exact Nat.le_trans (Nat.min_le_left _ _) (Nat.le_of_not_lt ht)), List.getElem?_eq_none (by rw [h5]; omega)]

theorem sort_any (p : Option Addr) (c : Nat) (L : List Nm) (w : World) (hL : Rw encN 70 w p c L) (hn : L.length ≤ 1000000) :
    Calls Tryz.prog 65 #[.slice p L.length c, .func (.func 79) #[] #[]] w fun r w' => r = .returned (.tuple #[]) ∧ Rw encN 70 w' p c (ksort L) ∧ Mod (fun i => ∃ a, p = some a ∧ i = a.block) w w' := by
  by_cases h0 : L = []
  · subst h0
    have h := AnyF.slices_SortFunc_none Tryz.sortID p c (.func (.func 79) #[] #[]) w
    refine Calls.mono (show Calls Tryz.prog 65 _ _ _ from h) ?_
    rintro r w' ⟨rfl, rfl⟩
    refine ⟨rfl, ?_, Mod.refl _ _⟩
    rw [show ksort [] = [] by simp [ksort]]; exact hL
  · rcases hL.shape with ⟨_, e, _⟩ | ⟨g, rfl, hgl, _⟩
    · exact absurd e h0
    · have eg : ∀ args w, (callFunc 79 args).run Tryz.prog w = .ok (.enter 79 args) w := enters_of Tryz.func79 (by kernel_rfl) rfl
      have h := AnyQ.slices_SortFunc_total Tryz.sortID 32 Tryz.isAgg70 Tryz.sizeOf70 encN.f encN.len encN.one cfN cfN_swo 79 #[] g 0 c L.toArray w eg
        (fun _ _ _ _ x y => hcompare_grow x.1 y.1 _ x.2 y.2) hL.holds hgl (by rw [List.size_toArray]; omega) cfN_total
      rw [List.size_toArray] at h
      refine Calls.mono (show Calls Tryz.prog 65 _ _ _ from h) ?_
      rintro r w' ⟨rfl, m, os, rfl⟩
      have hs := hL.sorted (ksort L).toArray (by rw [List.size_toArray]; exact List.length_mergeSort _) m os
      rw [List.toList_toArray] at hs
      exact ⟨rfl, hs.1, hs.2.mono (fun i _ e => ⟨_, rfl, e⟩)⟩
end Go.Proofs.YtemnebbdaljfbaaGreatDoor

namespace Go.Proofs.YtemnebbdaljfbaaGreatDoor
open Go.RowKit Go.Sort

/-- Bytes. -/
def encB : Enc UInt8 := ⟨fun x => [.int .u8 (x.toNat : Int)], 1, fun _ => rfl, fun _ v hv => by rw [List.mem_singleton.1 hv]; rfl, Nat.one_pos⟩
theorem encB_all (l : List UInt8) : encB.all l = vals l := by
  induction l with
  | nil => rfl
  | cons a l ih => rw [show encB.all (a :: l) = encB.f a ++ encB.all l from rfl, ih]; rfl
theorem IdAt.rd {w : World} {g : Nat} {s : List UInt8} (h : IdAt w g s) : Rd encB w (some ⟨g, 0, none⟩) s := by
  intro j hj
  refine ⟨g, 0, rfl, h.lt, fun i u hu => ?_⟩
  have hi : i < 1 := by have := (List.getElem?_eq_some_iff.1 hu).1; rwa [encB.len] at this
  obtain rfl : i = 0 := by omega
  have e : u = .int .u8 (s[j].toNat : Int) := by simpa [encB] using hu.symm
  rw [e, show 0 + j * encB.k + 0 = j by simp [encB]]
  exact h.cell j hj
theorem Rw.text {w : World} {q : Option Addr} {c : Nat} {D : List UInt8} (h : Rw encB 5 w q c D) : (convert 68 9 (.slice q D.length c)).run Tryz.prog w = .ok (.string ⟨D.toArray⟩) w := by
  rcases h.shape with ⟨rfl, rfl, rfl⟩ | ⟨g, rfl, _⟩
  · exact run_convert_bytes_nil w 68 5 Tryz.underlying68 Tryz.underlying5 0 0 9 Tryz.underlying9
  · rw [run_convert_bytes_arg w 68 5 Tryz.underlying68 Tryz.underlying5 g 0 D.length c (D.map fun x => (x.toNat : Int)) (by simp) (fun i hi => by
      obtain ⟨b, off, e, _, hc⟩ := h.rd i hi
      cases e
      have := hc 0 _ rfl
      rw [show 0 + i * encB.k + 0 = i by simp [encB]] at this
      rw [Nat.zero_add, this]
      simp [List.getD, hi]) 9 Tryz.underlying9]
    simp [strOfNums, Function.comp_def]

theorem cloneN_any (ao : Option Addr) (cap : Nat) (L : List Nm) (w : World) (hL : Rd encN w ao L) (hao : ao = none ∨ ∃ b off, ao = some ⟨b, off, none⟩) (hn : L.length ≤ 1000000) :
    Calls Tryz.prog 64 #[.slice ao L.length cap] w fun r w' => ∃ p c, r = .returned (.slice p L.length c) ∧ Rw encN 70 w' p c L ∧ (∀ a, p = some a → w.heap.size ≤ a.block) ∧ Below w.heap.size w w' := by
  rcases hao with rfl | ⟨b, off, rfl⟩
  · have h0 : L = [] := by
      cases L with
      | nil => rfl
      | cons x l => obtain ⟨_, _, e, _⟩ := hL 0 (by simp); cases e
    subst h0
    refine Calls.mono (show Calls Tryz.prog 64 _ _ _ from AnyE.slices_Clone_nil Tryz.cloneID 0 cap w) ?_
    rintro r w' ⟨rfl, rfl⟩
    exact ⟨none, 0, rfl, Rw.empty _ _, (fun a e => by cases e), Below.refl _ _⟩
  · obtain ⟨i, hi, hzz⟩ := Option.map_eq_some_iff.1 info_name
    simp only [Prod.mk.injEq] at hzz
    obtain ⟨hz, h1, h2⟩ := hzz
    have h := AnyE.slices_Clone Tryz.cloneID i (.agg (vals zid).toArray) 32 32 hi hz h1 h2 rfl (by decide) Tryz.sizeOf70 b off L.length cap (encN.all L) w (encN.all_len L) (by unfold maxLen; omega) (by omega)
      (fun j u hj => by
        have hjl : j < L.length * 32 := by
          have := (List.getElem?_eq_some_iff.1 hj).1
          rwa [encN.all_len] at this
        have hd : j / 32 < L.length := by omega
        have hr : j % 32 < 32 := Nat.mod_lt _ (by decide)
        have he : j / 32 * 32 + j % 32 = j := by omega
        obtain ⟨bs', off', e, _, c1⟩ := hL (j / 32) hd
        cases e
        have e2 := encN.all_get L (j / 32) (j % 32) hd hr
        rw [show encN.k = 32 from rfl, he, hj] at e2
        have e3 := c1 _ _ e2.symm
        rw [Nat.add_assoc, show j / 32 * encN.k + j % 32 = j from he] at e3
        exact e3) (encN.all_one L)
    refine Calls.mono (show Calls Tryz.prog 64 _ _ _ from h) ?_
    rintro r w' ⟨v, rfl, hown, hne, hb⟩
    rcases hown.2 with ⟨e, h0⟩ | ⟨g, c', cur, e, hg, hh, h3, h4, h5, h6⟩
    · exact absurd e hne
    · refine ⟨some ⟨g, 0, none⟩, c', by rw [e], Rw.of_row hh h3 h4 h5 h6, (fun a e => by cases e; exact hg), hb⟩
end Go.Proofs.YtemnebbdaljfbaaGreatDoor

namespace Go.Proofs.YtemnebbdaljfbaaGreatDoor
open Go.RowKit

theorem tsclone_any (k : List UInt8) (w : World) (hk : k.length ≤ 1000000000) :
    Calls Tryz.prog 72 #[.string ⟨k.toArray⟩] w fun r w' => r = .returned (.string ⟨k.toArray⟩) ∧ Below w.heap.size w w' := by
  have h := fun w => Tryz.stringslite_Clone ⟨k.toArray⟩ w (by simp [ByteArray.size]; omega)
  have H := Lib.hid h
  clear h
  go_enter Tryz.func72, Tryz.ntmps72
  go_wp2_with fail
  refine (H.out w).mono ?_
  rintro e w2 ⟨rfl, hb⟩
  have HB := Lib.hid hb
  clear hb
  go_wp2_with fail
  go_ret
  exact ⟨rfl, HB.out⟩
set_option maxRecDepth 20000 in
set_option maxHeartbeats 2000000 in
theorem tsown_any (h : Hd Nm) (ao : Option Addr) (cap : Nat) (w : World) (hL : Rd encN w ao h.ps) (hao : ao = none ∨ ∃ b off, ao = some ⟨b, off, none⟩) (hn : h.ps.length ≤ 1000000) (hk : h.tk.length ≤ 1000000000) :
    Calls Tryz.prog 73 #[.agg (hcells h ao cap)] w fun r w' => ∃ q c, r = .returned (.agg (hcells h q c)) ∧ Rw encN 70 w' q c h.ps ∧ (∀ a, q = some a → w.heap.size ≤ a.block) ∧ Below w.heap.size w w' := by
  obtain ⟨ht, mi, tk, wi, pw, ps, sa⟩ := h
  unfold hcells
  simp only at hL hn hk ⊢
  obtain ⟨n, hnp⟩ : ∃ n, n = ps.length := ⟨_, rfl⟩
  have HSC := Lib.hid (fun w => tsclone_any tk w hk)
  have HCL : Hid (∀ w', Below w.heap.size w w' → Calls Tryz.prog 64 #[.slice ao n cap] w' fun r w'' => ∃ p c, r = .returned (.slice p n c) ∧ Rw encN 70 w'' p c ps ∧ (∀ a, p = some a → w'.heap.size ≤ a.block) ∧ Below w'.heap.size w' w'') := Lib.hid (fun w' hb => by rw [hnp]; exact cloneN_any ao cap ps w' (hL.old hb) hao hn)
  rw [← hnp] at hn ⊢
  obtain ⟨W0, hW0⟩ : ∃ W0, W0 = (w.alloc (.cells #[.int .i64 ht, .int .i64 mi, .string ⟨tk.toArray⟩, .int .i64 wi, .int .u64 (pw : Int), .slice ao n cap, .int .i64 sa] 41)).alloc (.cells #[.int .i64 0, .int .i64 0, .string ⟨#[]⟩, .int .i64 0, .int .u64 0, .slice none 0 0, .int .i64 0] 41) := ⟨_, rfl⟩
  have b0 : Below w.heap.size w W0 := by rw [hW0]; exact ((Below.refl _ w).alloc (Nat.le_refl _) _).alloc (by simp) _
  have st : HvSt w (w.heap.size + 1) w.heap.size 41 #[.int .i64 ht, .int .i64 mi, .string ⟨tk.toArray⟩, .int .i64 wi, .int .u64 (pw : Int), .slice ao n cap, .int .i64 sa] W0 := by
    refine ⟨?_, b0, by omega, by omega, by omega, #[.int .i64 0, .int .i64 0, .string ⟨#[]⟩, .int .i64 0, .int .u64 0, .slice none 0 0, .int .i64 0], rfl, ?_⟩
    · rw [hW0, Below.heap_alloc _ _ _ (by simp)]; exact heap_alloc_new w _
    · rw [hW0]; have := heap_alloc_new (w.alloc (.cells #[.int .i64 ht, .int .i64 mi, .string ⟨tk.toArray⟩, .int .i64 wi, .int .u64 (pw : Int), .slice ao n cap, .int .i64 sa] 41)) (.cells #[.int .i64 0, .int .i64 0, .string ⟨#[]⟩, .int .i64 0, .int .u64 0, .slice none 0 0, .int .i64 0] 41); simpa using this
  have HNP := Lib.hid hnp
  have HW0 := Lib.hid hW0
  have ST := Lib.hid st
  obtain ⟨g, hg⟩ : ∃ g, g = w.heap.size := ⟨_, rfl⟩
  have HG := Lib.hid hg
  clear hL hnp hao hk hW0 b0 st hg
  go_enter Tryz.func73, Tryz.ntmps73
  go_wp2_with fail
  rw [← HW0.out]
  refine (HSC.out W0).mono ?_
  rintro e w1 ⟨rfl, hb1⟩
  have st1 := ST.out.grow hb1
  have f2 := st1.froz 2
  have c2 : w1.cell? ⟨w.heap.size, 2, none⟩ = some (.string ⟨tk.toArray⟩) := st1.cell 2
  have st2 := st1.put 2 (.string ⟨tk.toArray⟩)
  have c5 : (w1.setCell ⟨w.heap.size, 2, none⟩ (.string ⟨tk.toArray⟩)).cell? ⟨w.heap.size, 5, none⟩ = some (.slice ao n cap) := st2.cell 5
  have S2 := Lib.hid st2
  have HC2 := Lib.hid (HCL.out _ st2.m)
  clear st1 hb1 ST HSC HCL st2
  go_wp2_with fail
  refine HC2.out.mono ?_
  rintro e w3 ⟨q, c, rfl, hR, hq, hb3⟩
  have st3 := S2.out.grow hb3
  have f5 := st3.froz 5
  have c5 : w3.cell? ⟨w.heap.size, 5, none⟩ = some (.slice ao n cap) := st3.cell 5
  have st4 := st3.put 5 (.slice q n c)
  have fr0 : ∀ a, q = some a → w.heap.size + 1 < a.block := fun a e => by
    have h1 := hq a e
    have h2 := S2.out.lt
    obtain ⟨Z, _, hZ⟩ := S2.out.res
    have h3 := (Array.getElem?_eq_some_iff.1 hZ).1
    omega
  have S4 : Hid (HvSt w (w.heap.size + 1) w.heap.size 41 #[.int .i64 ht, .int .i64 mi, .string ⟨tk.toArray⟩, .int .i64 wi, .int .u64 (pw : Int), .slice q n c, .int .i64 sa] (w3.setCell ⟨w.heap.size, 5, none⟩ (.slice q n c))) := Lib.hid st4
  have HR4 : Hid (Rw encN 70 (w3.setCell ⟨w.heap.size, 5, none⟩ (.slice q n c)) q c ps) := Lib.hid (hR.kept (((Mod.refl (· = w.heap.size) w3).setCell (p := ⟨w.heap.size, 5, none⟩) (fun _ => rfl) (.slice q n c))) (fun a e h => by have := fr0 a e; omega))
  have HFR := Lib.hid fr0
  clear hR hq hb3 st3 st4 fr0 S2 HC2
  have st0 := S4.out
  have box := st0.box
  obtain ⟨Z, hZs, hZ⟩ := st0.res
  obtain ⟨w4, hw4⟩ : ∃ x, x = w3.setCell ⟨w.heap.size, 5, none⟩ (.slice q n c) := ⟨_, rfl⟩
  rw [← hw4] at box hZ st0 HR4
  have HW4 := Lib.hid hw4
  obtain ⟨Y, hY⟩ : ∃ Y : Array Value, Y = #[.int .i64 ht, .int .i64 mi, .string ⟨tk.toArray⟩, .int .i64 wi, .int .u64 (pw : Int), .slice q n c, .int .i64 sa] := ⟨_, rfl⟩
  rw [← hY] at box
  have hYs : Y.size = 7 := by rw [hY]; rfl
  have q3 : (Tryz.prog.info? 41).map (·.size) = some Y.size := by rw [hYs]; exact hinfo
  have q2 : Z.size = Y.size := by rw [hZs, hYs]
  have q4 : ∀ v ∈ Y.toList, v.oneCell' = true := by
    rw [hY]; intro v hv
    simp only [List.mem_cons, List.not_mem_nil, or_false] at hv
    rcases hv with rfl | rfl | rfl | rfl | rfl | rfl | rfl <;> rfl
  have L0 := Lib.hid (setRow_heap w4 (w.heap.size + 1) Z Y 41 (0, 0) hZ)
  have LM : Hid (Below w.heap.size w (w4.setRow (w.heap.size + 1) Y)) := Lib.hid (st0.m.trans (((Mod.refl (fun _ => False) w4).setRow (g := w.heap.size + 1) Y).to_below st0.m.size (by rintro i hi (h | h) <;> first | exact h | omega)))
  have LR : Hid (Rw encN 70 (w4.setRow (w.heap.size + 1) Y) q c ps) := Lib.hid (HR4.out.kept ((Mod.refl (fun _ => False) w4).setRow (g := w.heap.size + 1) Y) (fun a e h => by have := HFR.out a e; rcases h with h | h; exact h; omega))
  have HF2 := Lib.hid (fun a (e : q = some a) => by have := HFR.out a e; (show w.heap.size ≤ a.block); omega)
  have HY := Lib.hid hY
  have HB := Lib.hid box
  have HZ := Lib.hid hZ
  clear st0 hY hw4 HR4 S4 HFR box hZ
  go_upto_region 3 with fail
  rw [← HW4.out]
  have hZ := HZ.out
  have box := HB.out
  go_wp2_with (first | (refine wpList_load_row rfl 41 (.tmp 1) rfl w.heap.size rfl 41 Y (0, 0) _ box Tryz.underlying41 rfl q3 ?_) | (refine wpList_store_row rfl rfl 41 (.tmp 2) (.tmp 11) rfl (w.heap.size + 1) rfl 41 Z Y rfl hZ q2 q3 q4 ?_))
  exact bodyPost_ret (v := .agg Y) (results_cell_row Tryz.results73 _ _ (w.heap.size + 1) 41 Y (0, 0) _ rfl L0.out Tryz.underlying41 rfl q3) rfl ⟨q, c, by rw [HY.out], LR.out, HF2.out, LM.out⟩
end Go.Proofs.YtemnebbdaljfbaaGreatDoor

namespace Go.Proofs.YtemnebbdaljfbaaGreatDoor
open Go.RowKit

/-- A block: its name, its header, where its header's parents lie. -/
structure Blk where
  id : Nm
  h : Hd Nm
  q : Option Addr
  c : Nat
instance : Inhabited Blk := ⟨⟨⟨zid, rfl⟩, ⟨0, 0, [], 0, 0, [], 0⟩, none, 0⟩⟩
def Blk.cells (b : Blk) : List Value := vals b.id.1 ++ (hcells b.h b.q b.c).toList
theorem Blk.len (b : Blk) : b.cells.length = 39 := by
  unfold Blk.cells hcells
  rw [List.length_append, vals_len, b.id.2]; rfl
theorem Blk.one (b : Blk) : ∀ v ∈ b.cells, v.oneCell' = true := by
  intro v hv
  rcases List.mem_append.1 hv with h | h
  · exact vals_one _ v h
  · simp only [hcells, List.mem_cons, List.not_mem_nil, or_false] at h
    rcases h with rfl | rfl | rfl | rfl | rfl | rfl | rfl <;> rfl
def encK : Enc Blk := ⟨Blk.cells, 39, Blk.len, fun b => b.one, by decide⟩
/-- A block whose parents lie in memory. -/
structure okK (w : World) (b : Blk) : Prop where
  rd : Rd encN w b.q b.h.ps
  ad : b.q = none ∨ ∃ g off, b.q = some ⟨g, off, none⟩
  n : b.h.ps.length ≤ 1000000
  k : b.h.tk.length ≤ 1000000000
theorem okK.old {w w' : World} {b : Blk} (h : okK w b) (hb : Below w.heap.size w w') : okK w' b := ⟨h.rd.old hb, h.ad, h.n, h.k⟩
/-- What a block is, wherever it lies. -/
def Blk.is (b : Blk) : Nm × Hd Nm := (b.id, b.h)
theorem wpList_load_blk {ops : Array Oper} {rest : List Oper} {o : Oper} {a : Act} {w : World} {Q : Exit → Act → World → Prop} (hgd : o.guard = none) (x : Operand) (ho : o.op = .load 72 x) (b off : Nat) (hx : a.eval x = .pointer (some ⟨b, off, none⟩)) (s : Blk)
    (hc : ∀ i u, s.cells[i]? = some u → w.cell? ⟨b, off + i, none⟩ = some u) (h : wpList Tryz.prog ops Q rest (a.put o.dst (.agg s.cells.toArray)) w) : wpList Tryz.prog ops Q (o :: rest) a w := by
  refine wpList_plain hgd fun K hK => ?_
  have hl := run_loadVar_mid (P := Tryz.prog) w b off 72 s.cells _ (fun j v hv => hc j v hv) Tryz.underlying72 rfl (by rw [s.len]; kernel_rfl)
  unfold Oper.wp execOp
  simp only [ho, hx, Instr.loadAt, Instr.sureAddr, Sem.run_bind, Sem.run_pure, Result.andThen_ok, hl]
  exact hK _ _ h
theorem foldl_setA (off : Nat) (v cs : Array Value) : (v.zipIdx.foldl (fun cs (x : Value × Nat) => cs.setIfInBounds (off + x.2) x.1) cs).size = cs.size ∧ ∀ k, (v.zipIdx.foldl (fun cs (x : Value × Nat) => cs.setIfInBounds (off + x.2) x.1) cs)[k]? = if off ≤ k ∧ k < off + v.size ∧ k < cs.size then v[k - off]? else cs[k]? := by
  rw [← Array.foldl_toList, Array.toList_zipIdx]
  have h := Great.foldl_set off v.toList 0 cs
  refine ⟨h.1, fun k => ?_⟩
  have := h.2 k
  simp only [Nat.add_zero, Array.length_toList, Array.getElem?_toList] at this
  exact this
theorem fill_two (u v : Value) (z : Array Value) (n m : Nat) (hu : u.cells.size = n) (hv : v.cells.size = m) (hz : z.size = n + m) : Instr.fill (fun i => [(0, n), (n, m)][i]?) z [(0, u), (1, v)] = some (u.cells ++ v.cells) := by
  have h1 := foldl_setA 0 u.cells z
  have h2 := foldl_setA n v.cells (u.cells.zipIdx.foldl (fun cs (x : Value × Nat) => cs.setIfInBounds (0 + x.2) x.1) z)
  have e : Instr.fill (fun i => [(0, n), (n, m)][i]?) z [(0, u), (1, v)] = some (v.cells.zipIdx.foldl (fun cs (x : Value × Nat) => cs.setIfInBounds (n + x.2) x.1) (u.cells.zipIdx.foldl (fun cs (x : Value × Nat) => cs.setIfInBounds (0 + x.2) x.1) z)) := by
    have q1 : (decide (u.cells.size ≠ n) || decide (0 + u.cells.size > z.size)) = false := by simp [hu]; omega
    have q2 : (decide (v.cells.size ≠ m) || decide (n + v.cells.size > (u.cells.zipIdx.foldl (fun cs (x : Value × Nat) => cs.setIfInBounds (0 + x.2) x.1) z).size)) = false := by rw [h1.1]; simp [hv]; omega
    unfold Instr.fill
    simp only [List.getElem?_cons_zero]
    rw [q1]
    simp only [Bool.false_eq_true, if_false]
    unfold Instr.fill
    simp only [List.getElem?_cons_succ, List.getElem?_cons_zero]
    rw [q2]
    simp only [Bool.false_eq_true, if_false]
    unfold Instr.fill
    rfl
  rw [e]
  congr 1
  apply Array.ext_getElem?
  intro k
  rw [h2.2 k, h1.1, h1.2 k, Array.getElem?_append]
  by_cases hk : k < n
  · rw [if_neg (by omega), if_pos (by omega), if_pos (by omega)]; simp
  · rw [if_neg (show ¬ k < u.cells.size by omega)]
    by_cases hk2 : k < n + m
    · rw [if_pos (by omega), hu]
    · rw [if_neg (by omega), if_neg (by omega), Array.getElem?_eq_none (by omega), Array.getElem?_eq_none (by omega)]
theorem build_blk {o : Oper} {a : Act} {w : World} (x y : Operand) (ho : o.op = .build 72 #[(0, x), (1, y)]) (b : Blk) (hx : a.eval x = .agg (vals b.id.1).toArray) (hy : a.eval y = .agg (hcells b.h b.q b.c)) :
    (execOp a.eval o).run Tryz.prog w = .ok (.value (.agg b.cells.toArray)) w := by
  unfold execOp
  simp only [ho, List.map_toArray, List.map_cons, List.map_nil, hx, hy]
  obtain ⟨z, hz, hzs⟩ : ∃ z : Value, (∀ w, (zeroValue 72).run Tryz.prog w = .ok z w) ∧ z.cells.size = 39 := ⟨_, Tryz.zeroValue72, rfl⟩
  have hf := fill_two (.agg (vals b.id.val).toArray) (.agg (hcells b.h b.q b.c)) z.cells 32 7 (by show (vals b.id.val).toArray.size = 32; rw [List.size_toArray, vals_len, b.id.2]) rfl hzs
  simp [Instr.build, run_underlying Tryz.underlying72, Tryz.sizeOf70, Tryz.sizeOf41, hz, hf]
  rfl
theorem exec_load_hd {o : Oper} {a : Act} {w : World} (x : Operand) (ho : o.op = .load 41 x) (b off : Nat) (hx : a.eval x = .pointer (some ⟨b, off, none⟩)) (h : Hd Nm) (q : Option Addr) (c : Nat)
    (hc : ∀ i u, (hcells h q c).toList[i]? = some u → w.cell? ⟨b, off + i, none⟩ = some u) : (execOp a.eval o).run Tryz.prog w = .ok (.value (.agg (hcells h q c))) w := by
  have hl := run_loadVar_mid (P := Tryz.prog) w b off 41 (hcells h q c).toList _ (fun j v hv => hc j v hv) Tryz.underlying41 rfl (by kernel_rfl)
  unfold execOp
  simp only [ho, hx, Instr.loadAt, Instr.sureAddr, Sem.run_bind, Sem.run_pure, Result.andThen_ok, hl]
set_option maxRecDepth 20000 in
theorem build_blks {o : Oper} {a : Act} {w : World} (x : Operand) (ho : o.op = .buildSlice 50 1 #[(0, x)]) (b : Blk) (hx : a.eval x = .agg b.cells.toArray) :
    (execOp a.eval o).run Tryz.prog w = .ok (.value (.slice (some ⟨w.heap.size, 0, none⟩) 1 1)) (w.alloc (.cells b.cells.toArray 72)) := by
  obtain ⟨i, z, hi, hz, h1, hzs⟩ : ∃ i z, Tryz.prog.info? 72 = some i ∧ i.zero = some z ∧ i.size = 39 ∧ z.cells.size = 39 := ⟨_, _, rfl, rfl, rfl, rfl⟩
  have hf := Great.fill_whole (s := 39) (by decide) [.agg b.cells.toArray] ((Array.range (1 * 39)).map (z.cells[· % z.cells.size]!)) (by
    intro v hv; rw [List.mem_singleton.1 hv]; show b.cells.toArray.size = 39; rw [List.size_toArray, b.len]) (by simp)
  have hb := run_buildSlice (P := Tryz.prog) w 50 72 1 #[(0, .agg b.cells.toArray)] b.cells.toArray i z Tryz.underlying50 hi hz (by rw [h1]; decide) (by rw [h1]; decide) (by
    rw [h1]
    refine hf.trans ?_
    simp [Value.cells])
  unfold execOp
  simp only [ho, List.map_toArray, List.map_cons, List.map_nil, hx, Sem.run_bind, hb, Result.andThen_ok, Sem.run_pure]
set_option maxRecDepth 20000 in
theorem info_blk : ∃ z : Value, (Tryz.prog.info? 72).map (fun i => (i.zero, i.size, i.bytes)) = some (some z, 39, (Tryz.prog.info? 72).elim 0 (·.bytes)) ∧ z.cells.size = 39 ∧ (Tryz.prog.info? 72).elim 0 (·.bytes) ≤ 1024 := ⟨_, rfl, rfl, by decide +kernel⟩
end Go.Proofs.YtemnebbdaljfbaaGreatDoor

namespace Go.Proofs.YtemnebbdaljfbaaGreatDoor
open Go.RowKit

/-- A block in memory that was made since W. -/
structure okW (W w : World) (b : Blk) : Prop where
  rw : Rw encN 70 w b.q b.c b.h.ps
  f : ∀ a, b.q = some a → W.heap.size ≤ a.block
  n : b.h.ps.length ≤ 1000000
  k : b.h.tk.length ≤ 1000000000
theorem okW.ok {W w : World} {b : Blk} (h : okW W w b) : okK w b := ⟨h.rw.rd, by
  rcases h.rw.shape with ⟨e, _⟩ | ⟨g, e, _⟩
  · exact .inl e
  · exact .inr ⟨g, 0, e⟩, h.n, h.k⟩
/-- Rows of two types are two. -/
theorem Rw.ne {α β : Type} {E1 : Enc α} {E2 : Enc β} {T1 T2 : TypeId} {w : World} {p q : Option Addr} {c1 c2 : Nat} {L : List α} {M : List β} (h1 : Rw E1 T1 w p c1 L) (h2 : Rw E2 T2 w q c2 M) (hT : T1 ≠ T2) : ∀ a b, p = some a → q = some b → a.block ≠ b.block := by
  rintro a b rfl rfl e
  rcases h1.shape with ⟨e1, _⟩ | ⟨g1, e1, _, _, _, cur1, hh1, _⟩
  · cases e1
  rcases h2.shape with ⟨e2, _⟩ | ⟨g2, e2, _, _, _, cur2, hh2, _⟩
  · cases e2
  cases e1; cases e2
  simp only at e
  rw [e, hh2] at hh1
  simp only [Option.some.injEq, Obj.cells.injEq] at hh1
  exact hT hh1.2.1.symm
theorem enc_oneK (b : Blk) : encK.all [b] = b.cells := by simp [Enc.all, encK]
/-- What holds while k blocks are copied. -/
structure OwR (W wr : World) (L : List Blk) (k : Nat) (q : Option Addr) (c : Nat) : Prop where
  ex : ∃ D : List Blk, D.length = k ∧ Rw encK 72 wr q c D ∧ D.map Blk.is = (L.take k).map Blk.is ∧ (∀ b ∈ D, okW W wr b)
  b : Below W.heap.size W wr
  f : ∀ a, q = some a → W.heap.size ≤ a.block
theorem wp_gen {P : Program} {s : Code} {Q : Exit → Act → World → Prop} {a : Act} {w : World} (R : World → Prop) (hR : R w) (h : ∀ w', R w' → s.wp P Q a w') : s.wp P Q a w := h w hR
theorem row_new (w : World) (o : Obj) (old cs : Array Value) (t : TypeId) (ho : o = .cells old t (0, 0)) : ((w.alloc o).setRow w.heap.size cs).heap[w.heap.size]? = some (.cells cs t (0, 0)) ∧ Below w.heap.size w ((w.alloc o).setRow w.heap.size cs) := by
  subst ho
  have hb : Below w.heap.size w (w.alloc (.cells old t)) := (Below.refl _ w).alloc (Nat.le_refl _) _
  exact ⟨setRow_heap _ _ old cs t (0, 0) (heap_alloc_new w _), hb.trans (((Mod.refl (fun _ => False) (w.alloc (.cells old t))).setRow (g := w.heap.size) cs).to_below hb.size (by rintro i hi (h | h) <;> first | exact h | omega))⟩
theorem blk_id {w : World} {g : Nat} {b : Blk} (h : w.heap[g]? = some (.cells b.cells.toArray 72 (0, 0))) {i : Nat} {u : Value} (hu : (encN.f b.id)[i]? = some u) : w.cell? ⟨g, 0 + i, none⟩ = some u := by
  rw [cell_of_row w g (0 + i) _ _ _ h, Nat.zero_add, List.getElem?_toArray]
  have hl := (List.getElem?_eq_some_iff.1 hu).1
  unfold Blk.cells
  exact (List.getElem?_append_left hl).trans hu
theorem blk_hd {w : World} {g : Nat} {b : Blk} (h : w.heap[g]? = some (.cells b.cells.toArray 72 (0, 0))) {i : Nat} {u : Value} (hu : (hcells b.h b.q b.c).toList[i]? = some u) : w.cell? ⟨g, 32 + i, none⟩ = some u := by
  rw [cell_of_row w g (32 + i) _ _ _ h, List.getElem?_toArray]
  unfold Blk.cells
  rw [List.getElem?_append_right (by rw [vals_len, b.id.2]; omega), vals_len, b.id.2, Nat.add_sub_cancel_left]
  exact hu
theorem OwR.push {W wr w1 w' : World} {L : List Blk} {k : Nat} {b : Blk} {q q' q2 : Option Addr} {c c' c2 : Nat} {D : List Blk} (h : OwR W wr L k q c) (hDl : D.length = k) (hDw : Rw encK 72 wr q c D) (hDi : D.map Blk.is = (L.take k).map Blk.is) (hDo : ∀ b ∈ D, okW W wr b)
    (hn : (L.take (k + 1)).map Blk.is = (L.take k).map Blk.is ++ [b.is]) (hb : okK wr b) (hbw : Below wr.heap.size wr w1) (hR : Rw encN 70 w1 q' c' b.h.ps) (hq : ∀ a, q' = some a → W.heap.size ≤ a.block) (hP : PushR encK 72 w1 q (D ++ [⟨b.id, b.h, q', c'⟩]) q2 c2 w') : OwR W w' L (k + 1) q2 c2 := by
  obtain ⟨hRw, hM, hor⟩ := hP
  have hT : 70 ≠ 72 := by decide
  have hD1 := hDw.old hbw
  have hbW := h.b.trans (hbw.mono h.b.size)
  refine ⟨⟨_, by rw [List.length_append, hDl]; rfl, hRw, by rw [List.map_append, hDi, hn]; rfl, ?_⟩, hbW.trans (hM.to_below hbW.size (by rintro i hi ⟨a, e, rfl⟩; have := h.f a e; omega)), fun a e => (hor a e).elim (h.f a) (fun q => Nat.le_trans hbW.size q)⟩
  intro x hx
  rcases List.mem_append.1 hx with hx | hx
  · have h1 := hDo x hx
    have h2 := h1.rw.old hbw
    exact ⟨h2.kept hM (by rintro a e ⟨a', e', q⟩; exact Rw.ne h2 hD1 hT a a' e e' q), h1.f, h1.n, h1.k⟩
  · rw [List.mem_singleton.1 hx]
    exact ⟨hR.kept hM (by rintro a e ⟨a', e', q⟩; exact Rw.ne hR hD1 hT a a' e e' q), hq, hb.n, hb.k⟩
set_option maxRecDepth 20000 in
set_option maxHeartbeats 4000000 in
theorem tsowned_any (o : Option Addr) (cap : Nat) (L : List Blk) (W : World) (hR : Rd encK W o L) (hk : ∀ b ∈ L, okK W b) (hn : L.length ≤ 1000000) :
    Calls Tryz.prog 90 #[.slice o L.length cap] W fun e w' => ∃ q c, e = .returned (.slice q L.length c) ∧ OwR W w' L L.length q c := by
  obtain ⟨n, hnl⟩ : ∃ n, n = L.length := ⟨_, rfl⟩
  rw [← hnl] at hn ⊢
  have HNL := Lib.hid hnl
  have HRD := Lib.hid hR
  have HK := Lib.hid hk
  have H0 : Hid (OwR W W L 0 none 0) := Lib.hid ⟨⟨[], rfl, Rw.empty _ _, rfl, fun b hb => by cases hb⟩, Below.refl _ _, fun a e => by cases e⟩
  clear hR hk hnl
  go_enter Tryz.func90, Tryz.ntmps90
  go_wp2_with fail
  go_loopw [3, 8] (fun s3 s8 wr => ∃ (k : Nat) (q : Option Addr) (c : Nat), k ≤ n ∧ s3 = .slice q k c ∧ s8 = .int .i64 (k : Int) ∧ Hid (OwR W wr L k q c)) (fun _ s8 _ => n - (intOf s8).toNat)
  case atStart => exact ⟨0, none, 0, by omega, rfl, rfl, H0⟩
  case round =>
    clear H0
    obtain ⟨k, q, c, hkn, rfl, rfl, HS⟩ := hrel
    have k0 : (0 : Int) ≤ k := by omega
    by_cases hlt : k < n
    · have hlt' : (k : Int) < n := by omega
      have hkl : k < L.length := by have := HNL.out; omega
      obtain ⟨bs, off, rfl, hbs, hc⟩ := (HRD.out.old HS.out.b) k hkl
      obtain ⟨b, hb⟩ : ∃ b, b = L[k] := ⟨_, rfl⟩
      rw [← hb] at hc
      have hcc : ∀ i u, b.cells[i]? = some u → wr.cell? ⟨bs, off + k * 39 + i, none⟩ = some u := hc
      have HCC := Lib.hid hcc
      have HNX : Hid ((L.take (k + 1)).map Blk.is = (L.take k).map Blk.is ++ [b.is]) := Lib.hid (by rw [List.take_succ_eq_append_getElem hkl, List.map_append, ← hb]; rfl)
      have HOK : Hid (okK wr b) := Lib.hid (hb ▸ (HK.out _ (List.getElem_mem hkl)).old HS.out.b)
      clear hb hc hcc hbs hkl
      have q3 : (Tryz.prog.info? 72).map (·.size) = some b.cells.toArray.size := by rw [List.size_toArray, b.len]; kernel_rfl
      have q4 : ∀ v ∈ b.cells.toArray.toList, v.oneCell' = true := by simpa using b.one
      have HSZ : Hid (b.cells.toArray.size = 39) := Lib.hid (by rw [List.size_toArray, b.len])
      have HQ3 := Lib.hid q3
      have HQ4 := Lib.hid q4
      clear q3 q4
      have HOW : Hid (∀ w, Below wr.heap.size wr w → Calls Tryz.prog 73 #[.agg (hcells b.h b.q b.c)] w fun r w' => ∃ q c, r = .returned (.agg (hcells b.h q c)) ∧ Rw encN 70 w' q c b.h.ps ∧ (∀ a, q = some a → w.heap.size ≤ a.block) ∧ Below w.heap.size w w') := Lib.hid (fun w hb => tsown_any b.h b.q b.c w (HOK.out.rd.old hb) HOK.out.ad HOK.out.n HOK.out.k)
      have HWR : Hid (W.heap.size ≤ wr.heap.size) := Lib.hid HS.out.b.size
      go_wp2_with (first
        | (refine wpList_load_blk rfl (.tmp 10) rfl bs (off + k * 39) rfl b HCC.out ?_; go_frame)
        | (refine wpList_store_row rfl rfl 72 (.tmp 5) (.tmp 11) rfl wr.heap.size rfl 72 _ b.cells.toArray rfl (heap_alloc_new wr _) HSZ.out.symm HQ3.out HQ4.out ?_))
      refine wp_gen (fun W1 => W1.heap[wr.heap.size]? = some (.cells b.cells.toArray 72 (0, 0)) ∧ Below wr.heap.size wr W1) (row_new wr _ _ b.cells.toArray 72 rfl) (fun W1 hW1 => ?_)
      have HRW0 := Lib.hid hW1.1
      have HB1 := Lib.hid hW1.2
      clear hW1
      obtain ⟨g, hg⟩ : ∃ g, g = wr.heap.size := ⟨_, rfl⟩
      rw [← hg]
      have HRW := Lib.hid HRW0.out
      rw [← hg] at HRW
      have HPU : Hid (∀ (D : List Blk) (w1 w' : World) (q' : Option Addr) (c' : Nat) (q2 : Option Addr) (c2 : Nat), D.length = k → Rw encK 72 wr q c D → D.map Blk.is = (L.take k).map Blk.is → (∀ b ∈ D, okW W wr b) → Below wr.heap.size wr w1 → Rw encN 70 w1 q' c' b.h.ps → (∀ a, q' = some a → W.heap.size ≤ a.block) → PushR encK 72 w1 q (D ++ [⟨b.id, b.h, q', c'⟩]) q2 c2 w' → OwR W w' L (k + 1) q2 c2) := Lib.hid (fun D w1 w' q' c' q2 c2 a1 a2 a3 a4 a5 a6 a7 a8 => OwR.push HS.out a1 a2 a3 a4 HNX.out HOK.out a5 a6 a7 a8)
      clear HRW0 hg HCC HQ3 HQ4 HSZ
      have HG0 : Hid ((fun (j : Nat) (x : Value) (w1 : World) => (j ≤ 3 → (Below wr.heap.size wr w1 ∧ w1.heap[g]? = some (.cells b.cells.toArray 72 (0, 0)))) ∧ (j = 1 → ∃ q' c', x = .agg (hcells b.h q' c') ∧ Rw encN 70 w1 q' c' b.h.ps ∧ ∀ a, q' = some a → W.heap.size ≤ a.block) ∧ (j = 2 → ∃ q' c', x = .agg (⟨b.id, b.h, q', c'⟩ : Blk).cells.toArray ∧ Rw encN 70 w1 q' c' b.h.ps ∧ ∀ a, q' = some a → W.heap.size ≤ a.block) ∧ (j = 3 → ∃ q' c', (∃ p, x = .slice (some ⟨p, 0, none⟩) 1 1 ∧ Rd encK w1 (some ⟨p, 0, none⟩) [(⟨b.id, b.h, q', c'⟩ : Blk)]) ∧ Rw encN 70 w1 q' c' b.h.ps ∧ ∀ a, q' = some a → W.heap.size ≤ a.block) ∧ (j = 4 → ∃ q2 c2, x = .slice q2 (k + 1) c2 ∧ OwR W w1 L (k + 1) q2 c2) ∧ (j = 5 → ∃ q2 c2, x = .slice q2 (k + 1) c2 ∧ OwR W w1 L (k + 1) q2 c2)) 0 undef W1.drew) := Lib.hid ⟨fun _ => ⟨HB1.out.trans (((Below.refl _ W1).drew).mono HB1.out.size), HRW.out⟩, (fun h => absurd h (by omega)), (fun h => absurd h (by omega)), (fun h => absurd h (by omega)), (fun h => absurd h (by omega)), (fun h => absurd h (by omega))⟩
      refine wp_region_chain (fun t v => match t with
        | 12 => v = .slice q k c
        | 13 => v = .pointer (some ⟨g, 0, none⟩)
        | 14 => v = .agg (vals b.id.1).toArray
        | 15 => v = .pointer (some ⟨g, 32, none⟩)
        | 16 => v = .agg (hcells b.h b.q b.c)
        | _ => True) (fun (j : Nat) (x : Value) (w1 : World) => (j ≤ 3 → (Below wr.heap.size wr w1 ∧ w1.heap[g]? = some (.cells b.cells.toArray 72 (0, 0)))) ∧ (j = 1 → ∃ q' c', x = .agg (hcells b.h q' c') ∧ Rw encN 70 w1 q' c' b.h.ps ∧ ∀ a, q' = some a → W.heap.size ≤ a.block) ∧ (j = 2 → ∃ q' c', x = .agg (⟨b.id, b.h, q', c'⟩ : Blk).cells.toArray ∧ Rw encN 70 w1 q' c' b.h.ps ∧ ∀ a, q' = some a → W.heap.size ≤ a.block) ∧ (j = 3 → ∃ q' c', (∃ p, x = .slice (some ⟨p, 0, none⟩) 1 1 ∧ Rd encK w1 (some ⟨p, 0, none⟩) [(⟨b.id, b.h, q', c'⟩ : Blk)]) ∧ Rw encN 70 w1 q' c' b.h.ps ∧ ∀ a, q' = some a → W.heap.size ≤ a.block) ∧ (j = 4 → ∃ q2 c2, x = .slice q2 (k + 1) c2 ∧ OwR W w1 L (k + 1) q2 c2) ∧ (j = 5 → ∃ q2 c2, x = .slice q2 (k + 1) c2 ∧ OwR W w1 L (k + 1) q2 c2)) [5, 6, 7, 8, 9] 23 (by kernel_rfl) (by decide +kernel) rfl (by decide +kernel) (by decide) (by decide) HG0.out (by
        refine OweAllC.cons (owesC_val 3 (by decide +kernel) (by decide) rfl rfl fun k' a w1 x hk ha hG hV => ?_) ?_
        · skip
          have h3 := ha.kp 4 9 _ 3 (by omega) rfl rfl rfl
          simp only [Act.eval] at h3
          exact ⟨.slice q k c, wanted_free rfl, by simp [execOp, go_sem, h3], rfl⟩
        refine OweAllC.cons (owesC_val 1 (by decide +kernel) (by decide) rfl rfl fun k' a w1 x hk ha hG hV => ?_) ?_
        · skip
          have h5 := ha.outer 5 (by decide +kernel)
          simp only [Act.eval] at h5
          exact ⟨.pointer (some ⟨g, 0, none⟩), wanted_free rfl, by simp [execOp, go_sem, h5], rfl⟩
        refine OweAllC.cons (owesC_val 1 (by decide +kernel) (by decide) rfl rfl fun k' a w1 x hk ha hG hV => ?_) ?_
        · skip
          have h13 : a.tmps.getD 13 undef = .pointer (some ⟨g, 0, none⟩) := hV.get 13 (by decide +kernel)
          obtain ⟨hbw, hrow⟩ := hG.1 (by omega)
          exact ⟨.agg (vals b.id.1).toArray, wanted_free rfl, exec_load_mid (.tmp 13) rfl g 0 h13 b.id (fun i u hu => blk_id hrow hu), rfl⟩
        refine OweAllC.cons (owesC_val 0 (by decide +kernel) (by decide) rfl rfl fun k' a w1 x hk ha hG hV => ?_) ?_
        · skip
          have h5 := ha.outer 5 (by decide +kernel)
          simp only [Act.eval] at h5
          exact ⟨.pointer (some ⟨g, 32, none⟩), wanted_free rfl, by simp [execOp, go_sem, h5], rfl⟩
        refine OweAllC.cons (owesC_val 0 (by decide +kernel) (by decide) rfl rfl fun k' a w1 x hk ha hG hV => ?_) ?_
        · skip
          have h15 : a.tmps.getD 15 undef = .pointer (some ⟨g, 32, none⟩) := hV.get 15 (by decide +kernel)
          obtain ⟨hbw, hrow⟩ := hG.1 (by omega)
          exact ⟨.agg (hcells b.h b.q b.c), wanted_free rfl, exec_load_hd (.tmp 15) rfl g 32 h15 b.h b.q b.c (fun i u hu => blk_hd hrow hu), rfl⟩
        refine OweAllC.cons (owesC_call 0 rfl rfl rfl 73 fun a w1 x ha hG hx hV => ?_) ?_
        · skip
          have h16 : a.tmps.getD 16 undef = .agg (hcells b.h b.q b.c) := hV.get 16 (by decide +kernel)
          refine ⟨#[.agg (hcells b.h b.q b.c)], wanted_free rfl, by simp [execOp, resolve, invoke, go_sem, h16], ?_⟩
          obtain ⟨hbw, hrow⟩ := hG.1 (by omega)
          refine (HOW.out w1 hbw).mono ?_
          rintro r u2 ⟨q', c', rfl, hR, hq, hb⟩
          exact ⟨_, rfl, trivial, (fun _ => ⟨hbw.trans (hb.mono hbw.size), (hb.block _ (Array.getElem?_eq_some_iff.1 hrow).1).trans hrow⟩), (fun _ => ⟨q', c', rfl, hR, fun a e => Nat.le_trans (Nat.le_trans HWR.out hbw.size) (hq a e)⟩), (fun h => absurd h (by omega)), (fun h => absurd h (by omega)), (fun h => absurd h (by omega)), (fun h => absurd h (by omega))⟩
        refine OweAllC.cons (owesC_mem 1 rfl rfl rfl fun a w1 x ha hG hx hV => ?_) ?_
        · skip
          have h14 : a.tmps.getD 14 undef = .agg (vals b.id.1).toArray := hV.get 14 (by decide +kernel)
          have g14 : a.tmps[14]?.getD undef = .agg (vals b.id.1).toArray := by simpa using h14
          have h17 := hx 0 5 _ 17 rfl rfl rfl rfl
          obtain ⟨hbw, hrow⟩ := hG.1 (by omega)
          obtain ⟨q', c', rfl, hR, hq⟩ := hG.2.1 rfl
          exact ⟨_, w1, wanted_free rfl, build_blk (.tmp 14) (.tmp 17) rfl (⟨b.id, b.h, q', c'⟩ : Blk) h14 h17, trivial, (fun _ => ⟨hbw, hrow⟩), (fun h => absurd h (by omega)), (fun _ => ⟨q', c', rfl, hR, hq⟩), (fun h => absurd h (by omega)), (fun h => absurd h (by omega)), (fun h => absurd h (by omega))⟩
        refine OweAllC.cons (owesC_mem 2 rfl rfl rfl fun a w1 x ha hG hx hV => ?_) ?_
        · skip
          have h18 := hx 1 6 _ 18 rfl rfl rfl rfl
          obtain ⟨hbw, hrow⟩ := hG.1 (by omega)
          obtain ⟨q', c', rfl, hR, hq⟩ := hG.2.2.1 rfl
          have hb : Below w1.heap.size w1 (w1.alloc (.cells (⟨b.id, b.h, q', c'⟩ : Blk).cells.toArray 72)) := (Below.refl _ _).alloc (Nat.le_refl _) _
          have hr : Rd encK (w1.alloc (.cells (⟨b.id, b.h, q', c'⟩ : Blk).cells.toArray 72)) (some ⟨w1.heap.size, 0, none⟩) [(⟨b.id, b.h, q', c'⟩ : Blk)] := by have := Rd.made encK w1 72 [(⟨b.id, b.h, q', c'⟩ : Blk)] (by simp [maxLen]); rw [enc_oneK] at this; exact this
          exact ⟨_, _, wanted_free rfl, build_blks (.tmp 18) rfl (⟨b.id, b.h, q', c'⟩ : Blk) h18, trivial, (fun _ => ⟨hbw.trans (hb.mono hbw.size), (hb.block _ (Array.getElem?_eq_some_iff.1 hrow).1).trans hrow⟩), (fun h => absurd h (by omega)), (fun h => absurd h (by omega)), (fun _ => ⟨q', c', ⟨_, rfl, hr⟩, hR.old hb, hq⟩), (fun h => absurd h (by omega)), (fun h => absurd h (by omega))⟩
        refine OweAllC.cons (owesC_law 3 rfl rfl fun a w1 x ha hG hx hV => ?_) ?_
        · skip
          have h12 : a.tmps.getD 12 undef = .slice q k c := hV.get 12 (by decide +kernel)
          have h19 := hx 2 7 _ 19 rfl rfl rfl rfl
          obtain ⟨hbw, hrow⟩ := hG.1 (by omega)
          obtain ⟨q', c', ⟨p, rfl, hr⟩, hR, hq⟩ := hG.2.2.2.1 rfl
          obtain ⟨D, hDl, hRw, hDi, hDo⟩ := HS.out.ex
          obtain ⟨z, hz1, hz2, hz3⟩ := info_blk
          refine ⟨wanted_free rfl, fun K hK => ?_⟩
          refine wp_pushR1 encK (.tmp 12) (.tmp 19) 50 72 z _ rfl Tryz.underlying50 hz1 hz2 hz3 q c k D hDl h12 (hRw.old hbw) (some ⟨p, 0, none⟩) 1 (⟨b.id, b.h, q', c'⟩ : Blk) h19 hr (by omega) ?_
          intro q2 c2 w' hP
          exact hK _ _ (fun t ht => by cases ht; trivial) ⟨(fun h => absurd h (by omega)), (fun h => absurd h (by omega)), (fun h => absurd h (by omega)), (fun h => absurd h (by omega)), (fun _ => ⟨q2, c2, rfl, HPU.out D w1 w' q' c' q2 c2 hDl hRw hDi hDo hbw hR hq hP⟩), (fun h => absurd h (by omega))⟩
        refine OweAllC.cons (owesC_mem 4 rfl rfl rfl fun a w1 x ha hG hx hV => ?_) ?_
        · skip
          have h20 := hx 3 8 _ 20 rfl rfl rfl rfl
          simp only [Act.eval] at h20
          obtain ⟨q2, c2, rfl, hO⟩ := hG.2.2.2.2.1 rfl
          exact ⟨_, w1, wanted_free rfl, by simp [execOp, go_sem, h20], trivial, (fun h => absurd h (by omega)), (fun h => absurd h (by omega)), (fun h => absurd h (by omega)), (fun h => absurd h (by omega)), (fun h => absurd h (by omega)), (fun _ => ⟨q2, c2, rfl, hO⟩)⟩
        exact OweAllC.nil
        ) ?_
      intro f wz xz hG hx hv
      have e3 : f 3 = xz := hx 4 9 _ 3 rfl rfl rfl rfl
      first | (rename_i hK; refine hK _ _ ?_; clear hK) | (rename_i hK _; refine hK _ _ ?_; clear hK) | (rename_i hK _ _; refine hK _ _ ?_; clear hK) | (rename_i hK _ _ _; refine hK _ _ ?_; clear hK)
      clear hv hx
      simp only [dsts, puts, List.filterMap_cons, List.filterMap_nil, List.foldl_cons, List.foldl_nil, Act.put, List.setIfInBounds_toArray, List.set_cons_succ, List.set_cons_zero, e3]
      clear e3
      obtain ⟨q2, c2, rfl, hO⟩ := hG.2.2.2.2.2 rfl
      have HO := Lib.hid hO
      clear hG HG0 hO
      go_wp2_with fail
      go_roundw
      case rel => exact ⟨k + 1, q2, c2, by omega, rfl, by go_num, HO⟩
      case measure => simp [intOf]; omega
    · obtain rfl : k = n := by omega
      have hlt' : ¬ (k : Int) < k := by omega
      clear hlt
      go_wp2_with fail
      go_ret
      exact ⟨q, c, rfl, by have := HS.out; rw [HNL.out] at this ⊢; exact this⟩
end Go.Proofs.YtemnebbdaljfbaaGreatDoor

namespace Go.Proofs.YtemnebbdaljfbaaGreatDoor
open Go.RowKit

theorem exec_store_rowK {P : Program} {o : Oper} {a : Act} {w : World} (ty : TypeId) (x y : Operand) (ho : o.op = .store ty x y)
    (g : Nat) (hx : a.eval x = .pointer (some ⟨g, 0, none⟩)) (t : TypeId) (old cs : Array Value) (hy : a.eval y = .agg cs) (hg : w.heap[g]? = some (.cells old t (0, 0))) (hsz : old.size = cs.size)
    (hi : (P.info? ty).map (·.size) = some cs.size) (h1 : ∀ v ∈ cs.toList, v.oneCell' = true) : (execOp a.eval o).run P w = .ok .skip (w.setRow g cs) := by
  have hst := run_storeCells_at P g 0 t cs.toList 0 old w hg (by simp; omega) h1
  have e : (old.toList.take (0 + 0) ++ cs.toList ++ old.toList.drop (0 + 0 + cs.toList.length)).toArray = cs := by
    have : old.toList.drop (0 + 0 + cs.toList.length) = [] := List.drop_eq_nil_of_le (by simp; omega)
    rw [this]; simp
  rw [e] at hst
  cases hq : P.info? ty with
  | none => simp [hq] at hi
  | some i =>
    have hs : i.size = cs.size := by simpa [hq] using hi
    have hv : (storeVar ty ⟨g, 0, none⟩ (.agg cs)).run P w = .ok () (w.setRow g cs) := by
      simp [storeVar, sizeOf, typeInfo, hq, hs, Value.cells, hst]
    unfold execOp
    simp only [ho, hx, hy, Instr.storeAt, Instr.sureAddr, Sem.run_bind, Sem.run_pure, Result.andThen_ok, hv]
theorem hd_cell {w : World} {g : Nat} {h : Hd Nm} {q : Option Addr} {c : Nat} (hb : w.heap[g]? = some (.cells (hcells h q c) 41 (0, 0))) {i : Nat} {u : Value} (hu : (hcells h q c).toList[i]? = some u) : w.cell? ⟨g, 0 + i, none⟩ = some u := by
  rw [cell_of_row w g (0 + i) _ _ _ hb, Nat.zero_add, ← Array.getElem?_toList]
  exact hu
theorem Blk.size (b : Blk) : b.cells.toArray.size = 39 := by rw [List.size_toArray, b.len]
set_option maxRecDepth 20000 in
theorem blk_info (b : Blk) : (Tryz.prog.info? 72).map (·.size) = some b.cells.toArray.size := by rw [b.size]; kernel_rfl
/-- The name of a header. -/
def nmH (h : Hd Nm) : Nm := ⟨shaB (hbytes (·.1) h), shaB_len _⟩
theorem two_new (w : World) (o1 o2 : Obj) (C ZB : Array Value) (t1 t2 : TypeId) (h1 : o1 = .cells C t1 (0, 0)) (h2 : o2 = .cells ZB t2 (0, 0)) (h3 : ZB.size = 39) : Below w.heap.size w ((w.alloc o1).alloc o2) ∧ ((w.alloc o1).alloc o2).heap[w.heap.size]? = some (.cells C t1 (0, 0)) ∧ ∃ ZB : Array Value, ZB.size = 39 ∧ ((w.alloc o1).alloc o2).heap[w.heap.size + 1]? = some (.cells ZB t2 (0, 0)) := by
  subst h1 h2
  refine ⟨((Below.refl _ w).alloc (Nat.le_refl _) _).alloc (by simp) _, ?_, ZB, h3, ?_⟩
  · rw [Below.heap_alloc _ _ _ (by simp)]; exact heap_alloc_new w _
  · have := heap_alloc_new (w.alloc (.cells C t1)) (.cells ZB t2); simpa using this
set_option maxRecDepth 20000 in
set_option maxHeartbeats 4000000 in
theorem tsmake_any (h : Hd Nm) (ao : Option Addr) (cap : Nat) (w : World) (hL : Rd encN w ao h.ps) (hao : ao = none ∨ ∃ b off, ao = some ⟨b, off, none⟩) (ok : HOk h) (hT : TabAt w) :
    Calls Tryz.prog 40 #[.agg (hcells h ao cap)] w fun r w' => ∃ q c, r = .returned (.agg (⟨nmH h, h, q, c⟩ : Blk).cells.toArray) ∧ Rw encN 70 w' q c h.ps ∧ (∀ a, q = some a → w.heap.size ≤ a.block) ∧ Below w.heap.size w w' := by
  have HID := Lib.hid (fun w' (hb : Below w.heap.size w w') => hid_any h ao cap w' (hL.old hb) ok (hT.old hb))
  have HOW := Lib.hid (fun w' (hb : Below w.heap.size w w') => tsown_any h ao cap w' (hL.old hb) hao ok.n (by have := ok.k; omega))
  obtain ⟨nm, hnm⟩ : ∃ nm, nm = nmH h := ⟨_, rfl⟩
  have hid' : Hid (∀ w', Below w.heap.size w w' → Calls Tryz.prog 34 #[.agg (hcells h ao cap)] w' fun r w'' => r = .returned (.agg (vals nm.1).toArray) ∧ Below w'.heap.size w' w'') := Lib.hid (by rw [hnm]; exact HID.out)
  rw [← hnm]
  clear hL hao ok hT HID hnm
  go_enter Tryz.func40, Tryz.ntmps40
  go_wp2_with fail
  refine wp_gen (fun W0 => Below w.heap.size w W0 ∧ W0.heap[w.heap.size]? = some (.cells (hcells h ao cap) 41 (0, 0)) ∧ ∃ ZB : Array Value, ZB.size = 39 ∧ W0.heap[w.heap.size + 1]? = some (.cells ZB 72 (0, 0))) (two_new w _ _ _ _ _ _ rfl rfl rfl) (fun W0 hW0 => ?_)
  obtain ⟨hb0, hbx, ZB, hZs, hZ⟩ := hW0
  have HB0 := Lib.hid hb0
  have HBX := Lib.hid hbx
  have HZS := Lib.hid hZs
  have HZ := Lib.hid hZ
  have hZl := (Array.getElem?_eq_some_iff.1 hZ).1
  obtain ⟨g, hg⟩ : ∃ g, g = w.heap.size := ⟨_, rfl⟩
  rw [← hg] at HBX HZ hZl
  rw [← hg]
  have HG := Lib.hid hg
  have HZL := Lib.hid hZl
  clear hb0 hbx hZs hZ hg hZl
  have HG0 : Hid ((fun (j : Nat) (x : Value) (w1 : World) => (j ≤ 3 → Below W0.heap.size W0 w1) ∧ (j = 2 → ∃ q' c', x = .agg (hcells h q' c') ∧ Rw encN 70 w1 q' c' h.ps ∧ ∀ a, q' = some a → W0.heap.size ≤ a.block) ∧ (j = 3 → ∃ q' c', x = .agg (⟨nm, h, q', c'⟩ : Blk).cells.toArray ∧ Rw encN 70 w1 q' c' h.ps ∧ ∀ a, q' = some a → W0.heap.size ≤ a.block) ∧ (j = 4 → ∃ q' c', Below w.heap.size w w1 ∧ w1.heap[g + 1]? = some (.cells (⟨nm, h, q', c'⟩ : Blk).cells.toArray 72 (0, 0)) ∧ Rw encN 70 w1 q' c' h.ps ∧ ∀ a, q' = some a → W0.heap.size ≤ a.block)) 0 undef W0.drew) := Lib.hid ⟨fun _ => (Below.refl _ W0).drew, (fun h => absurd h (by omega)), (fun h => absurd h (by omega)), (fun h => absurd h (by omega))⟩
  refine wp_region_chain (fun t v => match t with
    | 3 => v = .agg (hcells h ao cap)
    | 4 => v = .agg (vals nm.1).toArray
    | 5 => v = .agg (hcells h ao cap)
    | _ => True) (fun (j : Nat) (x : Value) (w1 : World) => (j ≤ 3 → Below W0.heap.size W0 w1) ∧ (j = 2 → ∃ q' c', x = .agg (hcells h q' c') ∧ Rw encN 70 w1 q' c' h.ps ∧ ∀ a, q' = some a → W0.heap.size ≤ a.block) ∧ (j = 3 → ∃ q' c', x = .agg (⟨nm, h, q', c'⟩ : Blk).cells.toArray ∧ Rw encN 70 w1 q' c' h.ps ∧ ∀ a, q' = some a → W0.heap.size ≤ a.block) ∧ (j = 4 → ∃ q' c', Below w.heap.size w w1 ∧ w1.heap[g + 1]? = some (.cells (⟨nm, h, q', c'⟩ : Blk).cells.toArray 72 (0, 0)) ∧ Rw encN 70 w1 q' c' h.ps ∧ ∀ a, q' = some a → W0.heap.size ≤ a.block)) [1, 3, 4, 5] 8 (by kernel_rfl) (by decide +kernel) rfl (by decide +kernel) (by decide) (by decide) HG0.out (by
    refine OweAllC.cons (owesC_val 0 (by decide +kernel) (by decide) rfl rfl fun k' a w1 x hk ha hG hV => ?_) ?_
    · skip
      have h1 := ha.outer 1 (by decide +kernel)
      simp only [Act.eval] at h1
      have hbw := hG.1 (by omega)
      have hrow := (hbw.block _ (by have := HZL.out; omega)).trans HBX.out
      exact ⟨.agg (hcells h ao cap), wanted_free rfl, exec_load_hd (.tmp 1) rfl g 0 h1 h ao cap (fun i u hu => hd_cell hrow hu), rfl⟩
    refine OweAllC.cons (owesC_call 0 rfl rfl rfl 34 fun a w1 x ha hG hx hV => ?_) ?_
    · skip
      have h3 : a.tmps.getD 3 undef = .agg (hcells h ao cap) := hV.get 3 (by decide +kernel)
      refine ⟨#[.agg (hcells h ao cap)], wanted_free rfl, by simp [execOp, resolve, invoke, go_sem, h3], ?_⟩
      have hbw := hG.1 (by omega)
      refine (hid'.out w1 (HB0.out.trans (hbw.mono HB0.out.size))).mono ?_
      rintro r u2 ⟨rfl, hb⟩
      exact ⟨_, rfl, rfl, (fun _ => hbw.trans (hb.mono hbw.size)), (fun h => absurd h (by omega)), (fun h => absurd h (by omega)), (fun h => absurd h (by omega))⟩
    refine OweAllC.cons (owesC_val 1 (by decide +kernel) (by decide) rfl rfl fun k' a w1 x hk ha hG hV => ?_) ?_
    · skip
      have h1 := ha.outer 1 (by decide +kernel)
      simp only [Act.eval] at h1
      have hbw := hG.1 (by omega)
      have hrow := (hbw.block _ (by have := HZL.out; omega)).trans HBX.out
      exact ⟨.agg (hcells h ao cap), wanted_free rfl, exec_load_hd (.tmp 1) rfl g 0 h1 h ao cap (fun i u hu => hd_cell hrow hu), rfl⟩
    refine OweAllC.cons (owesC_call 1 rfl rfl rfl 73 fun a w1 x ha hG hx hV => ?_) ?_
    · skip
      have h5 : a.tmps.getD 5 undef = .agg (hcells h ao cap) := hV.get 5 (by decide +kernel)
      refine ⟨#[.agg (hcells h ao cap)], wanted_free rfl, by simp [execOp, resolve, invoke, go_sem, h5], ?_⟩
      have hbw := hG.1 (by omega)
      refine (HOW.out w1 (HB0.out.trans (hbw.mono HB0.out.size))).mono ?_
      rintro r u2 ⟨q', c', rfl, hR, hq, hb⟩
      exact ⟨_, rfl, trivial, (fun _ => hbw.trans (hb.mono hbw.size)), (fun _ => ⟨q', c', rfl, hR, fun a e => Nat.le_trans hbw.size (hq a e)⟩), (fun h => absurd h (by omega)), (fun h => absurd h (by omega))⟩
    refine OweAllC.cons (owesC_mem 2 rfl rfl rfl fun a w1 x ha hG hx hV => ?_) ?_
    · skip
      have h4 : a.tmps.getD 4 undef = .agg (vals nm.1).toArray := hV.get 4 (by decide +kernel)
      have g4 : a.tmps[4]?.getD undef = .agg (vals nm.1).toArray := by simpa using h4
      have h6 := hx 1 3 _ 6 rfl rfl rfl rfl
      have hbw := hG.1 (by omega)
      obtain ⟨q', c', rfl, hR, hq⟩ := hG.2.1 rfl
      exact ⟨_, w1, wanted_free rfl, build_blk (.tmp 4) (.tmp 6) rfl (⟨nm, h, q', c'⟩ : Blk) h4 h6, trivial, (fun _ => hbw), (fun h => absurd h (by omega)), (fun _ => ⟨q', c', rfl, hR, hq⟩), (fun h => absurd h (by omega))⟩
    refine OweAllC.cons (owesC_store 3 rfl rfl rfl fun a w1 x ha hG hx hV => ?_) ?_
    · skip
      have h2 := ha.outer 2 (by decide +kernel)
      simp only [Act.eval] at h2
      have h7 := hx 2 4 _ 7 rfl rfl rfl rfl
      have hbw := hG.1 (by omega)
      obtain ⟨q', c', rfl, hR, hq⟩ := hG.2.2.1 rfl
      have hz1 := (hbw.block _ HZL.out).trans HZ.out
      refine ⟨w1.setRow (g + 1) (⟨nm, h, q', c'⟩ : Blk).cells.toArray, wanted_free rfl, exec_store_rowK 72 (.tmp 2) (.tmp 7) rfl (g + 1) h2 72 ZB (⟨nm, h, q', c'⟩ : Blk).cells.toArray h7 hz1 (by rw [HZS.out, Blk.size]) (blk_info _) (by simpa using Blk.one (⟨nm, h, q', c'⟩ : Blk)), (fun h => absurd h (by omega)), (fun h => absurd h (by omega)), (fun h => absurd h (by omega)), (fun _ => ⟨q', c', ?_, setRow_heap _ _ ZB _ 72 (0, 0) hz1, hR.kept ((Mod.refl (fun _ => False) w1).setRow (g := g + 1) (⟨nm, h, q', c'⟩ : Blk).cells.toArray) (fun a e h => by have := hq a e; have := HZL.out; rcases h with h | h; exact h; omega), hq⟩)⟩
      have hbW := HB0.out.trans (hbw.mono HB0.out.size)
      exact hbW.trans (((Mod.refl (fun _ => False) w1).setRow (g := g + 1) (⟨nm, h, q', c'⟩ : Blk).cells.toArray).to_below hbW.size (by rintro i hi (h | h); exact h; have := HG.out; omega))
    exact OweAllC.nil
    ) ?_
  intro f wz xz hG hx hv
  first | (rename_i hK; refine hK _ _ ?_; clear hK) | (rename_i hK _; refine hK _ _ ?_; clear hK) | (rename_i hK _ _; refine hK _ _ ?_; clear hK) | (rename_i hK _ _ _; refine hK _ _ ?_; clear hK)
  clear hv hx
  simp only [dsts, puts, List.filterMap_cons, List.filterMap_nil, List.foldl_cons, List.foldl_nil, Act.put, List.setIfInBounds_toArray, List.set_cons_succ, List.set_cons_zero]
  obtain ⟨q', c', hb, hrow, hR, hq⟩ := hG.2.2.2 rfl
  have HBB := Lib.hid hb
  have HRO := Lib.hid hrow
  have HRR := Lib.hid hR
  have HQQ := Lib.hid hq
  clear hG HG0 hb hrow hR hq
  go_wp2_with fail
  exact bodyPost_ret (v := .agg (⟨nm, h, q', c'⟩ : Blk).cells.toArray) (results_cell_row Tryz.results40 _ _ (g + 1) 72 _ (0, 0) _ rfl HRO.out Tryz.underlying72 rfl (blk_info _)) rfl ⟨q', c', rfl, HRR.out, fun a e => Nat.le_trans HB0.out.size (HQQ.out a e), HBB.out⟩
end Go.Proofs.YtemnebbdaljfbaaGreatDoor

namespace Go.Proofs.YtemnebbdaljfbaaGreatDoor
open Go.RowKit

theorem calls_gen {P : Program} {f : FuncId} {args : Array Value} {w : World} {Q : Ending → World → Prop} (R : World → Prop) (hR : R w) (h : ∀ w', R w' → Calls P f args w' Q) : Calls P f args w Q := h w hR
theorem alloc1 (w : World) (o : Obj) : Below w.heap.size w (w.alloc o) := (Below.refl _ w).alloc (Nat.le_refl _) _
theorem OwR.lower {W W0 w' : World} {L : List Blk} {k : Nat} {q : Option Addr} {c : Nat} (h : OwR W0 w' L k q c) (hb : Below W.heap.size W W0) : OwR W w' L k q c := by
  obtain ⟨D, h1, h2, h3, h4⟩ := h.ex
  exact ⟨⟨D, h1, h2, h3, fun b hb' => ⟨(h4 b hb').rw, fun a e => Nat.le_trans hb.size ((h4 b hb').f a e), (h4 b hb').n, (h4 b hb').k⟩⟩, hb.trans (h.b.mono hb.size), fun a e => Nat.le_trans hb.size (h.f a e)⟩
set_option maxRecDepth 20000 in
theorem tszero_any (p : Option Addr) (c n : Nat) (w : World) (hn : n ≤ 1000000) :
    Calls Tryz.prog 24 #[.agg #[.slice p n c]] w fun r w' => r = .returned (.bool (decide (n = 0))) ∧ Below w.heap.size w w' := by
  have hb := Lib.hid (alloc1 w (.cells #[.slice p n c] 52))
  by_cases h : n = 0
  · subst h
    go_enter Tryz.func24, Tryz.ntmps24
    go_wp2_with fail
    go_ret
    exact ⟨rfl, hb.out⟩
  · have e : (decide (n = 0)) = false := by simp [h]
    have e2 : ((n : Int) == 0) = false := by simp; omega
    rw [e]
    clear e h
    go_enter Tryz.func24, Tryz.ntmps24
    go_wp2_with fail
    go_ret
    exact ⟨rfl, hb.out⟩
set_option maxRecDepth 20000 in
set_option maxHeartbeats 2000000 in
theorem tsblocks_any (p : Option Addr) (c : Nat) (L : List Blk) (w : World) (hR : Rd encK w p L) (hk : ∀ b ∈ L, okK w b) (hn : L.length ≤ 1000000) :
    Calls Tryz.prog 56 #[.agg #[.slice p L.length c]] w fun e w' => ∃ q c, e = .returned (.slice q L.length c) ∧ OwR w w' L L.length q c := by
  have hb := alloc1 w (.cells #[.slice p L.length c] 52)
  have HB := Lib.hid hb
  have HO := Lib.hid (tsowned_any p c L _ (hR.old hb) (fun b h => (hk b h).old hb) hn)
  obtain ⟨n, hnl⟩ : ∃ n, n = L.length := ⟨_, rfl⟩
  rw [← hnl] at HO HB ⊢
  clear hR hk hb hn hnl
  go_enter Tryz.func56, Tryz.ntmps56
  go_wp2_with fail
  refine HO.out.mono ?_
  rintro e w2 ⟨q, c2, rfl, hO⟩
  have HO2 := Lib.hid hO
  clear hO
  go_wp2_with fail
  go_ret
  refine ⟨q, c2, rfl, HO2.out.lower HB.out⟩
set_option maxRecDepth 20000 in
set_option maxHeartbeats 2000000 in
theorem tsfirst_any (p : Option Addr) (c : Nat) (b : Blk) (L : List Blk) (w : World) (hR : Rd encK w p (b :: L)) (hn : L.length ≤ 900000) :
    Calls Tryz.prog 80 #[.agg #[.slice p (L.length + 1) c]] w fun r w' => r = .returned (.agg b.cells.toArray) ∧ Below w.heap.size w w' := by
  have HZ := Lib.hid (fun w => tszero_any p c (L.length + 1) w (by omega))
  obtain ⟨bs, off, rfl, hbs, hc⟩ := hR 0 (by simp)
  have hcc : ∀ i u, b.cells[i]? = some u → w.cell? ⟨bs, off + i, none⟩ = some u := fun i u hu => by have := hc i u hu; simpa using this
  have HCC := Lib.hid hcc
  have HBS := Lib.hid hbs
  obtain ⟨n, hnl⟩ : ∃ n, n = L.length + 1 := ⟨_, rfl⟩
  have hn1 : (1 : Int) ≤ n := by omega
  have hnz : (0 : Int) < n := by omega
  rw [← hnl] at HZ ⊢
  have e : decide (n = 0) = false := decide_eq_false (by omega)
  rw [e] at HZ
  clear hR hc hcc hbs hn hnl e
  go_enter Tryz.func80, Tryz.ntmps80
  go_wp2_with fail
  refine calls_gen (fun W0 => Below w.heap.size w W0 ∧ W0.heap[w.heap.size]? = some (.cells #[.slice (some ⟨bs, off, none⟩) n c] 52 (0, 0)) ∧ ∃ ZB : Array Value, ZB.size = 39 ∧ W0.heap[w.heap.size + 1]? = some (.cells ZB 72 (0, 0))) (two_new w _ _ _ _ _ _ rfl rfl rfl) (fun W0 hW0 => ?_)
  obtain ⟨hb0, hbx, ZB, hZs, hZ⟩ := hW0
  refine (HZ.out W0).mono ?_
  rintro e w1 ⟨rfl, hb1⟩
  have hl := (Array.getElem?_eq_some_iff.1 hZ).1
  have hbw := hb0.trans (hb1.mono hb0.size)
  have hbx1 := (hb1.block _ (by omega)).trans hbx
  have hZ1 := (hb1.block _ hl).trans hZ
  have c0 : w1.cell? ⟨w.heap.size, 0, none⟩ = some (.slice (some ⟨bs, off, none⟩) n c) := cell_of_row w1 _ 0 _ _ _ hbx1
  have hc1 : ∀ i u, b.cells[i]? = some u → w1.cell? ⟨bs, off + i, none⟩ = some u := fun i u hu => (hbw.cell HBS.out).trans (HCC.out i u hu)
  have HC1 := Lib.hid hc1
  have HZ1 := Lib.hid hZ1
  have HZS := Lib.hid hZs
  have HBW := Lib.hid hbw
  have L0 := Lib.hid (setRow_heap w1 (w.heap.size + 1) ZB b.cells.toArray 72 (0, 0) hZ1)
  have LM : Hid (Below w.heap.size w (w1.setRow (w.heap.size + 1) b.cells.toArray)) := Lib.hid (hbw.trans (((Mod.refl (fun _ => False) w1).setRow (g := w.heap.size + 1) b.cells.toArray).to_below hbw.size (by rintro i hi (h | h); exact h; omega)))
  clear hb0 hbx hZs hZ hb1 hl hbw hbx1 hZ1 hc1
  go_wp2_with (first
    | (refine wpList_load_blk rfl (.tmp 8) rfl bs off rfl b HC1.out ?_; go_frame)
    | (refine wpList_store_row rfl rfl 72 (.tmp 2) (.tmp 9) rfl (w.heap.size + 1) rfl 72 ZB b.cells.toArray rfl HZ1.out (by rw [HZS.out, Blk.size]) (blk_info b) (by simpa using b.one) ?_))
  exact bodyPost_ret (v := .agg b.cells.toArray) (results_cell_row Tryz.results80 _ _ (w.heap.size + 1) 72 _ (0, 0) _ rfl L0.out Tryz.underlying72 rfl (blk_info _)) rfl ⟨rfl, LM.out⟩
end Go.Proofs.YtemnebbdaljfbaaGreatDoor
