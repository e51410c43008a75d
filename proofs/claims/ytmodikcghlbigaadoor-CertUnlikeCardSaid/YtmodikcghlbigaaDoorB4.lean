/- Texts 4: what the laws lean on. -/
import Derived.Test.YtmodikcghlbigaaDoorB3
import Derived.Stop.BytesEq
import Derived.Test.YtmodikcghlbigaaDoorB2
import Derived.Test.YtmodikcghlbigaaDoorB1
import Derived.Deep.AppendLies
import Derived.Deep.RegionLaw
import Derived.Deep.DeepCutAuto
import Derived.Deep.CutBlock
import Derived.Deep.QuietTactic
import Derived.BigQuiet
import Derived.StillTailTactics
import Derived.BigRegion
namespace Go.Proofs.YtmodikcghlbigaaDoor
open Go.RowKit

theorem all_nat_eq : ∀ (xs ys : List Nat), xs.length = ys.length → ((List.range xs.length).all fun i => xs.getD i 0 == ys.getD i 0) = (xs == ys)
  | [], [], _ => rfl
  | x :: xs, y :: ys, h => by
    have ih := all_nat_eq xs ys (by simpa using h)
    rw [List.length_cons, List.range_succ_eq_map, List.all_cons, List.all_map]
    simp only [List.getD_cons_zero, Function.comp_def, List.getD_cons_succ, ih]
    simp [List.cons_beq_cons]
  | [], _ :: _, h => by simp at h
  | _ :: _, [], h => by simp at h
theorem run_equalIn_nums {P : Program} (w : World) (d : Nat) (t e : TypeId) (n : Nat) (ht : P.underlying t = some (.array n e)) (he : P.underlying e = some (.int .i64)) (hsz : ∀ w, (sizeOf e).run P w = .ok 1 w)
    (xs ys : List Nat) (hx : xs.length = n) (hy : ys.length = n) :
    (Op.equalIn (d + 2) t (.agg (nums .i64 xs).toArray) (.agg (nums .i64 ys).toArray)).run P w = .ok (xs == ys) w := by
  rw [← all_nat_eq xs ys (hx.trans hy.symm), hx, List.range_eq_range', Op.equalIn]
  simp only [Sem.run_bind, run_underlying ht, Result.andThen_ok, hsz, Std.Legacy.Range.forIn_eq_forIn_range', Std.Legacy.Range.size, Nat.sub_zero, Nat.add_sub_cancel, Nat.div_one]
  have hl : ∀ i ∈ List.range' 0 n 1, i < n := fun i hi => by simpa using (List.mem_range'_1.1 hi).2
  generalize List.range' 0 n 1 = l at hl ⊢
  induction l with
  | nil => simp
  | cons i l ih =>
    have hi : i < n := hl i (by simp)
    have px : (part e (nums .i64 xs).toArray (i * 1)).run P w = .ok (.int .i64 (xs.getD i 0 : Nat)) w := by
      simp [part, isAgg, run_underlying he, nums, List.getD, List.getElem?_eq_getElem (show i < xs.length by omega)]
    have py : (part e (nums .i64 ys).toArray (i * 1)).run P w = .ok (.int .i64 (ys.getD i 0 : Nat)) w := by
      simp [part, isAgg, run_underlying he, nums, List.getD, List.getElem?_eq_getElem (show i < ys.length by omega)]
    have pe : (Op.equalIn (d + 1) e (.int .i64 (xs.getD i 0 : Nat)) (.int .i64 (ys.getD i 0 : Nat))).run P w = .ok (xs.getD i 0 == ys.getD i 0) w := by
      rw [run_equalIn_int w d e .i64 .i64 _ _ he]
      congr 1
      rw [Bool.eq_iff_iff]
      simp only [beq_iff_eq]; omega
    simp only [List.forIn_cons, Sem.run_bind, px, py, pe, Result.andThen_ok, List.all_cons]
    cases hb : (xs.getD i 0 == ys.getD i 0)
    · simp
    · simp only [Bool.not_true, Bool.false_eq_true, if_false, Sem.run_pure, Result.andThen_ok, Bool.true_and]
      exact ih fun j hj => hl j (by simp [hj])
/-- Two structs of one row of numbers compared. -/
theorem run_eql_one {P : Program} (w : World) (t u e : TypeId) (n : Nat) (nm : String) (ht : P.underlying t = some (.struct (P.fieldsOf t))) (hp : P.stoodInHeld t = false)
    (hl : (P.fieldsOf t).toList.map (fun f => (f.name, f.type, f.offset)) = [(nm, u, 0)]) (hnm : nm ≠ "_") (hu : P.underlying u = some (.array n e)) (he : P.underlying e = some (.int .i64)) (hsz : ∀ w, (sizeOf e).run P w = .ok 1 w)
    (hun : (sizeOf u).run P w = .ok n w) (ha : (isAgg u).run P w = .ok true w) (xs ys : List Nat) (hx : xs.length = n) (hy : ys.length = n) :
    (binOp .eql t (.agg (nums .i64 xs).toArray) (.agg (nums .i64 ys).toArray)).run P w = .ok (.bool (xs == ys)) w := by
  have hs : ∀ zs : List Nat, zs.length = n → (part u (nums .i64 zs).toArray 0).run P w = .ok (.agg (nums .i64 zs).toArray) w := fun zs hz => by
    have e : (nums .i64 zs).toArray.extract 0 (0 + n) = (nums .i64 zs).toArray := by
      apply Array.ext'
      simp only [Array.toList_extract, Nat.zero_add, List.extract_eq_take_drop, List.drop_zero, Nat.sub_zero]
      exact List.take_of_length_le (by simp [nums_len, hz])
    simp only [part, Sem.run_bind, ha, Result.andThen_ok, if_true, hun, Sem.run_pure, e]
  have key : ∀ d, (Op.equalIn (d + 3) t (.agg (nums .i64 xs).toArray) (.agg (nums .i64 ys).toArray)).run P w = .ok (xs == ys) w := by
    intro d
    rw [run_equalIn_struct (w := w) (d + 2) t _ _ ht hp]
    generalize (P.fieldsOf t).toList = L at hl ⊢
    match L, hl with
    | [], hl => cases hl
    | _ :: _ :: _, hl => simp at hl
    | [f], hl =>
      simp only [List.map_cons, List.map_nil, List.cons.injEq, Prod.mk.injEq, and_true] at hl
      obtain ⟨h1, h2, h3⟩ := hl
      simp only [Op.eqFields, h1, h2, h3]
      rw [if_pos hnm]
      simp only [Sem.run_bind, hs xs hx, hs ys hy, Result.andThen_ok, run_equalIn_nums w d u e n hu he hsz xs ys hx hy]
      cases xs == ys <;> simp
  rw [run_eql_struct, key 9997]; rfl
/-- Two tables compared. -/
theorem table_eql (xs ys : List Nat) (hx : xs.length = 64) (hy : ys.length = 64) (w : World) : (binOp .eql 53 (.agg (nums .i64 xs).toArray) (.agg (nums .i64 ys).toArray)).run Tryd.prog w = .ok (.bool (xs == ys)) w :=
  run_eql_one w 53 51 3 64 "powers" (by kernel_rfl) (by kernel_rfl) (by kernel_rfl) (by decide) Tryd.underlying51 Tryd.underlying3 (fun w => Tryd.sizeOf3 w) (Tryd.sizeOf51 w) (Tryd.isAgg51 w) xs ys hx hy

def natE (E : List (Int × Int)) : List (Nat × Nat) := E.map fun e => (e.1.toNat, e.2.toNat)
theorem natE_at {w : World} {ao : Option Addr} {E : List (Int × Int)} (h : Rd encP w ao E) (hg : good 0 (-1) E = true) : EntsAt w ao (natE E) := by
  intro j hj
  have hj2 : j < E.length := by simpa [natE] using hj
  obtain ⟨bs, off, e, hlt, c1, c2⟩ := h.pair j hj2
  have hm := good_mem hg (by decide) _ (List.getElem_mem hj2)
  refine ⟨bs, off, e, hlt, ?_, ?_⟩
  · rw [c1]; simp only [natE, List.getElem_map]; congr 2; omega
  · rw [c2]; simp only [natE, List.getElem_map]; congr 2; omega
theorem natE_ok {E : List (Int × Int)} (hg : good 0 (-1) E = true) : EntsOk (natE E) 0 := by
  refine ⟨?_, ?_, ?_⟩
  · intro e he
    obtain ⟨x, hx, rfl⟩ := List.mem_map.1 he
    have := good_mem hg (by decide) x hx
    simp only; omega
  · intro e he
    obtain ⟨x, hx, rfl⟩ := List.mem_map.1 he
    have := good_mem hg (by decide) x hx
    simp only; omega
  · intro j hj
    have hj2 : j + 1 < E.length := by simpa [natE] using hj
    have h1 := (goodI_iff hj2).1 (good_at.1 hg (j + 1) hj2)
    have h0 := good_mem hg (by decide) _ (List.getElem_mem (by omega : j < E.length))
    rw [bef_succ (by omega : j < E.length)] at h1
    simp only [natE, List.getElem_map]; omega
open Classical in
/-- What Change answers. -/
noncomputable def chgE (P : List Nat) (E : List (Int × Int)) : Int := if 64 < E.length then 4 else if good 0 (-1) E = false then 1 else if wth P (natE E) = List.replicate 64 0 then 7 else 0
noncomputable def chgT (P : List Nat) (E : List (Int × Int)) : List Nat := if chgE P E = 0 then wth P (natE E) else List.replicate 64 0
theorem chgT_tab {P : List Nat} {E : List (Int × Int)} (hP : IsTab P) : IsTab (chgT P E) := by
  unfold chgT
  by_cases h : chgE P E = 0
  · rw [if_pos h]
    have hg : good 0 (-1) E = true := by
      unfold chgE at h
      by_cases h1 : 64 < E.length
      · rw [if_pos h1] at h; cases h
      · rw [if_neg h1] at h
        cases hg : good 0 (-1) E with
        | true => rfl
        | false => rw [if_pos hg] at h; cases h
    exact hP.wth (natE_ok hg)
  · rw [if_neg h]; exact isTab_zero
theorem tab_one {A : Array Value} {P : List Nat} (hA : A = (nums .i64 P).toArray) : Hid (∀ v ∈ A.toList, v.oneCell' = true) := Lib.hid (by rw [hA]; intro v hv; exact nums_one .i64 _ v (by simpa using hv))
theorem tab_res {w : World} {g : Nat} {A : Array Value} (hg : w.heap[g]? = some (.cells A 53 (0, 0))) (hs : A.size = 64) : (Go.loadVar 53 ⟨g, 0, none⟩).run Tryd.prog w = .ok (.agg A) w :=
  run_loadVar_row (P := Tryd.prog) w g 53 53 A (0, 0) _ hg Tryd.underlying53 rfl (by rw [hs]; kernel_rfl)
end Go.Proofs.YtmodikcghlbigaaDoor

namespace Go.Proofs.YtmodikcghlbigaaDoor
open Go.RowKit

set_option maxRecDepth 20000 in
set_option maxHeartbeats 8000000 in
theorem tchange_any (P : List Nat) (ao : Option Addr) (cap : Nat) (E : List (Int × Int)) (w : World) (hP : IsTab P) (hS : Rd encP w ao E) (hl : E.length ≤ 1000000) :
    Calls Tryd.prog 44 #[tval P, .slice ao E.length cap] w fun r w' => r = .returned (.tuple #[tval (chgT P E), .int .i64 (chgE P E)]) ∧ Below w.heap.size w w' := by
  have htab := chgT_tab (E := E) hP
  have hgd : chgE P E = 0 → chgT P E = wth P (natE E) := fun h => by unfold chgT; rw [if_pos h]
  have hbd : chgE P E ≠ 0 → chgT P E = List.replicate 64 0 := fun h => by unfold chgT; rw [if_neg h]
  unfold tval
  obtain ⟨A, hA⟩ : ∃ A, A = (nums .i64 P).toArray := ⟨_, rfl⟩
  obtain ⟨AQ, hAQ⟩ : ∃ AQ, AQ = (nums .i64 (chgT P E)).toArray := ⟨_, rfl⟩
  obtain ⟨Z, hZ⟩ : ∃ Z, Z = (nums .i64 (List.replicate 64 0)).toArray := ⟨_, rfl⟩
  obtain ⟨RE, hRE⟩ : ∃ RE, RE = chgE P E := ⟨_, rfl⟩
  have hz : ∀ w : World, (zeroValue 53).run Tryd.prog w = .ok (.agg Z) w := by rw [hZ]; exact fun _ => by kernel_rfl
  have hAs := hP.row hA
  have hZs : Z.size = 64 := by rw [hZ]; simp [nums_len]
  have hQs : AQ.size = 64 := htab.row hAQ
  have h1Z := tab_one hZ
  rw [← hA, ← hAQ, ← hRE]
  rw [← hRE] at hgd hbd
  obtain ⟨n, hn⟩ : ∃ n, E.length = n := ⟨_, rfl⟩
  have hmay := Lib.hid (fun w h => pmay_any ao cap 0 E w h hl)
  rw [hn] at hl hmay ⊢
  obtain ⟨W0, hW0⟩ : ∃ W0, W0 = (w.alloc (.cells A 53)).alloc (.cells Z 53) := ⟨_, rfl⟩
  have hB : Hid (Below w.heap.size w W0) := Lib.hid (by rw [hW0]; exact ((Below.refl _ _).alloc (Nat.le_refl _) _).alloc (by simp) _)
  have hbx : W0.heap[w.heap.size]? = some (.cells A 53 (0, 0)) := by rw [hW0, Below.heap_alloc _ _ _ (by simp)]; exact heap_alloc_new w _
  have hrs : W0.heap[w.heap.size + 1]? = some (.cells Z 53 (0, 0)) := by rw [hW0]; have := heap_alloc_new (w.alloc (.cells A 53)) (.cells Z 53); simpa using this
  have HW0 := Lib.hid hW0
  by_cases h64 : 64 < n
  · have HR : Hid (RE = 4) := Lib.hid (by rw [hRE]; unfold chgE; rw [if_pos (by rw [hn]; exact h64)])
    have HZA : Hid (AQ = Z) := Lib.hid (by rw [hAQ, hbd (by rw [HR.out]; decide), hZ])
    have b1 : (64 : Int) < n := by omega
    obtain rfl := HZA.out
    obtain rfl := HR.out
    have hg := setRow_heap W0 (w.heap.size + 1) AQ AQ 53 (0, 0) hrs
    have hl2 := Lib.hid (tab_res hg hZs)
    clear hgd hbd hRE hA hAQ hZ htab hmay hn h64 hW0 hg
    go_enter Tryd.func44, Tryd.ntmps44
    go_upto_region 1 with fail
    rw [← HW0.out]
    go_wp2_with (refine wpList_store_row rfl rfl 53 (.tmp 4) (.tmp 11) rfl (w.heap.size + 1) rfl 53 AQ AQ rfl hrs rfl (by rw [hZs]; kernel_rfl) h1Z.out ?_)
    refine bodyPost_ret (v := .tuple #[.agg AQ, .int .i64 4]) (by simp [results, Tryd.results44, asAddr, hl2.out]) rfl ⟨rfl, ?_⟩
    exact ((Mod.of_below hB.out).setRow AQ).to_below (Nat.le_refl _) (by rintro k hk (h | h) <;> omega)
  have b1 : ¬ (64 : Int) < n := by omega
  by_cases hg0 : good 0 (-1) E = true
  case neg =>
    have hgf : good 0 (-1) E = false := by simpa using hg0
    have HR : Hid (RE = 1) := Lib.hid (by rw [hRE]; unfold chgE; rw [if_neg (by rw [hn]; exact h64), if_pos hgf])
    have HZA : Hid (AQ = Z) := Lib.hid (by rw [hAQ, hbd (by rw [HR.out]; decide), hZ])
    rw [hgf] at hmay
    obtain rfl := HZA.out
    obtain rfl := HR.out
    have HS := Lib.hid hS
    clear hgd hbd hRE hA hAQ hZ htab hn h64 hW0 hg0 hgf hS
    go_enter Tryd.func44, Tryd.ntmps44
    go_upto_region 1 with fail
    rw [← HW0.out]
    go_wp2_with fail
    refine (hmay.out W0 (HS.out.old hB.out)).mono ?_
    rintro r w2 ⟨rfl, hb⟩
    have hrs2 := (hb.block _ (Array.getElem?_eq_some_iff.1 hrs).1).trans hrs
    have HB2 := Lib.hid (hB.out.trans (hb.mono hB.out.size))
    have hg := setRow_heap w2 (w.heap.size + 1) AQ AQ 53 (0, 0) hrs2
    have hl2 := Lib.hid (tab_res hg hZs)
    clear hb hrs hg hbx
    go_wp2_with (refine wpList_store_row rfl rfl 53 (.tmp 4) (.tmp 16) rfl (w.heap.size + 1) rfl 53 AQ AQ rfl hrs2 rfl (by rw [hZs]; kernel_rfl) h1Z.out ?_)
    refine bodyPost_ret (v := .tuple #[.agg AQ, .int .i64 1]) (by simp [results, Tryd.results44, asAddr, hl2.out]) rfl ⟨rfl, ?_⟩
    exact ((Mod.of_below HB2.out).setRow AQ).to_below (Nat.le_refl _) (by rintro k hk (h | h) <;> omega)
  have hok := natE_ok hg0
  have hnl : (natE E).length = n := by simp [natE, hn]
  have hwith : Hid (∀ w, Rd encP w ao E → Calls Tryd.prog 42 #[.agg A, .slice ao n cap] w fun r w' => r = .returned (.agg (nums .i64 (wth P (natE E))).toArray) ∧ Below w.heap.size w w') := Lib.hid (fun w h => by
    have := with_any P ao cap 0 (natE E) w hP (natE_at h hg0) hok (by rw [hnl]; omega)
    rw [hnl] at this
    unfold tval at this
    rw [← hA] at this
    exact this)
  have htw := hP.wth hok
  obtain ⟨AW, hAW⟩ : ∃ A, A = (nums .i64 (wth P (natE E))).toArray := ⟨_, rfl⟩
  have hWs : AW.size = 64 := htw.row hAW
  have h1W := tab_one hAW
  have heq : ∀ w, (binOp .eql 53 (.agg AW) (.agg Z)).run Tryd.prog w = .ok (.bool (wth P (natE E) == List.replicate 64 0)) w := fun w => by
    rw [hAW, hZ]; exact table_eql _ _ htw.len (by simp) w
  rw [← hAW] at hwith
  rw [hg0] at hmay
  have HS := Lib.hid hS
  obtain ⟨D, hD⟩ : ∃ D, D = (wth P (natE E) == List.replicate 64 0) := ⟨_, rfl⟩
  rw [← hD] at heq
  cases D with
  | true =>
    have e := beq_iff_eq.1 hD.symm
    have HR : Hid (RE = 7) := Lib.hid (by rw [hRE]; unfold chgE; rw [if_neg (by rw [hn]; exact h64), if_neg (by rw [hg0]; decide), if_pos e])
    have HZA : Hid (AQ = Z) := Lib.hid (by rw [hAQ, hbd (by rw [HR.out]; decide), hZ])
    obtain rfl := HZA.out
    obtain rfl := HR.out
    clear hgd hbd hRE hA hAQ hZ htab hn h64 hW0 hg0 hS hok hnl htw hAW hD e
    go_enter Tryd.func44, Tryd.ntmps44
    go_upto_region 1 with fail
    rw [← HW0.out]
    go_wp2_with fail
    refine (hmay.out W0 (HS.out.old hB.out)).mono ?_
    rintro r w2 ⟨rfl, hb⟩
    have hbx2 := (hb.block _ (Array.getElem?_eq_some_iff.1 hbx).1).trans hbx
    have hrs2 := (hb.block _ (Array.getElem?_eq_some_iff.1 hrs).1).trans hrs
    have HB2 := Lib.hid (hB.out.trans (hb.mono hB.out.size))
    clear hb hrs hbx hB
    go_wp2_with (refine wpList_load_row rfl 53 (.tmp 2) rfl w.heap.size rfl 53 A (0, 0) _ hbx2 Tryd.underlying53 rfl (by rw [hAs]; kernel_rfl) ?_)
    refine (hwith.out w2 (HS.out.old HB2.out)).mono ?_
    rintro r w3 ⟨rfl, hb⟩
    have hrs3 := (hb.block _ (Array.getElem?_eq_some_iff.1 hrs2).1).trans hrs2
    have HB3 := Lib.hid (HB2.out.trans (hb.mono HB2.out.size))
    have hl3 := Lib.hid (Array.getElem?_eq_some_iff.1 hrs3).1
    have ha3 : (w3.alloc (.cells AQ 53)).heap[w3.heap.size]? = some (.cells AQ 53 (0, 0)) := heap_alloc_new _ _
    clear hb hrs2 hbx2 HB2
    go_upto_region 6 with (refine wpList_store_row rfl rfl 53 (.tmp 6) (.tmp 19) rfl w3.heap.size rfl 53 AQ AW rfl ha3 ?s2 ?s3 ?s4 ?_)
    case s2 => rw [hZs, hWs]
    case s3 => rw [hWs]; kernel_rfl
    case s4 => exact h1W.out
    have hg6 := setRow_heap (w3.alloc (.cells AQ 53)) w3.heap.size AQ AW 53 (0, 0) ha3
    have hrs4 : ((w3.alloc (.cells AQ 53)).setRow w3.heap.size AW).heap[w.heap.size + 1]? = some (.cells AQ 53 (0, 0)) := by
      rw [setRow_other _ _ _ _ (by have := hl3.out; omega), Below.heap_alloc _ _ _ hl3.out]; exact hrs3
    have HB4 : Hid (Below w.heap.size w ((w3.alloc (.cells AQ 53)).setRow w3.heap.size AW)) := Lib.hid (by
      have h := HB3.out.alloc HB3.out.size (.cells AQ 53)
      have hlt := HB3.out.size
      exact ((Mod.of_below h).setRow AW).to_below (Nat.le_refl _) (by rintro k hk (h | h) <;> omega))
    generalize (w3.alloc (.cells AQ 53)).setRow w3.heap.size AW = W5 at *
    generalize w3.heap.size = g6 at *
    clear ha3 hrs3
    go_wp2_with (first | (refine wpList_load_rowG rfl 53 (.tmp 6) rfl g6 rfl 53 AW (0, 0) _ hg6 Tryd.underlying53 rfl (by rw [hWs]; kernel_rfl) ?_) | (refine wpList_store_row rfl rfl 53 (.tmp 4) (.tmp 23) rfl (w.heap.size + 1) rfl 53 AQ AQ rfl hrs4 rfl (by rw [hZs]; kernel_rfl) h1Z.out ?_))
    have hg := setRow_heap W5 (w.heap.size + 1) AQ AQ 53 (0, 0) hrs4
    have hl2 := tab_res hg hZs
    refine bodyPost_ret (v := .tuple #[.agg AQ, .int .i64 7]) (by simp [results, Tryd.results44, asAddr, hl2]) rfl ⟨rfl, ?_⟩
    exact ((Mod.of_below HB4.out).setRow AQ).to_below (Nat.le_refl _) (by rintro k hk (h | h) <;> omega)
  | false =>
    have e : wth P (natE E) ≠ List.replicate 64 0 := by intro e; rw [e] at hD; simp at hD
    have HR : Hid (RE = 0) := Lib.hid (by rw [hRE]; unfold chgE; rw [if_neg (by rw [hn]; exact h64), if_neg (by rw [hg0]; decide), if_neg e])
    have HZA : Hid (AQ = AW) := Lib.hid (by rw [hAQ, hgd HR.out, hAW])
    obtain rfl := HZA.out
    obtain rfl := HR.out
    clear hgd hbd hRE hA hAQ hZ htab hn h64 hW0 hg0 hS hok hnl htw hAW hD e
    go_enter Tryd.func44, Tryd.ntmps44
    go_upto_region 1 with fail
    rw [← HW0.out]
    go_wp2_with fail
    refine (hmay.out W0 (HS.out.old hB.out)).mono ?_
    rintro r w2 ⟨rfl, hb⟩
    have hbx2 := (hb.block _ (Array.getElem?_eq_some_iff.1 hbx).1).trans hbx
    have hrs2 := (hb.block _ (Array.getElem?_eq_some_iff.1 hrs).1).trans hrs
    have HB2 := Lib.hid (hB.out.trans (hb.mono hB.out.size))
    clear hb hrs hbx hB
    go_wp2_with (refine wpList_load_row rfl 53 (.tmp 2) rfl w.heap.size rfl 53 A (0, 0) _ hbx2 Tryd.underlying53 rfl (by rw [hAs]; kernel_rfl) ?_)
    refine (hwith.out w2 (HS.out.old HB2.out)).mono ?_
    rintro r w3 ⟨rfl, hb⟩
    have hrs3 := (hb.block _ (Array.getElem?_eq_some_iff.1 hrs2).1).trans hrs2
    have HB3 := Lib.hid (HB2.out.trans (hb.mono HB2.out.size))
    have hl3 := Lib.hid (Array.getElem?_eq_some_iff.1 hrs3).1
    have ha3 : (w3.alloc (.cells Z 53)).heap[w3.heap.size]? = some (.cells Z 53 (0, 0)) := heap_alloc_new _ _
    clear hb hrs2 hbx2 HB2
    go_upto_region 6 with (refine wpList_store_row rfl rfl 53 (.tmp 6) (.tmp 19) rfl w3.heap.size rfl 53 Z AQ rfl ha3 ?s2 ?s3 ?s4 ?_)
    case s2 => rw [hZs, hWs]
    case s3 => rw [hWs]; kernel_rfl
    case s4 => exact h1W.out
    have hg6 := setRow_heap (w3.alloc (.cells Z 53)) w3.heap.size Z AQ 53 (0, 0) ha3
    have hrs4 : ((w3.alloc (.cells Z 53)).setRow w3.heap.size AQ).heap[w.heap.size + 1]? = some (.cells Z 53 (0, 0)) := by
      rw [setRow_other _ _ _ _ (by have := hl3.out; omega), Below.heap_alloc _ _ _ hl3.out]; exact hrs3
    have HB4 : Hid (Below w.heap.size w ((w3.alloc (.cells Z 53)).setRow w3.heap.size AQ)) := Lib.hid (by
      have h := HB3.out.alloc HB3.out.size (.cells Z 53)
      have hlt := HB3.out.size
      exact ((Mod.of_below h).setRow AQ).to_below (Nat.le_refl _) (by rintro k hk (h | h) <;> omega))
    generalize (w3.alloc (.cells Z 53)).setRow w3.heap.size AQ = W5 at *
    generalize w3.heap.size = g6 at *
    clear ha3 hrs3
    go_wp2_with (first | (refine wpList_load_rowG rfl 53 (.tmp 6) rfl g6 rfl 53 AQ (0, 0) _ hg6 Tryd.underlying53 rfl (by rw [hWs]; kernel_rfl) ?_) | (refine wpList_store_row rfl rfl 53 (.tmp 4) (.tmp 24) rfl (w.heap.size + 1) rfl 53 Z AQ rfl hrs4 (by rw [hZs, hWs]) (by rw [hWs]; kernel_rfl) h1W.out ?_))
    have hg := setRow_heap W5 (w.heap.size + 1) Z AQ 53 (0, 0) hrs4
    have hl2 := tab_res hg hWs
    refine bodyPost_ret (v := .tuple #[.agg AQ, .int .i64 0]) (by simp [results, Tryd.results44, asAddr, hl2]) rfl ⟨rfl, ?_⟩
    exact ((Mod.of_below HB4.out).setRow AQ).to_below (Nat.le_refl _) (by rintro k hk (h | h) <;> omega)
end Go.Proofs.YtmodikcghlbigaaDoor

namespace Go.Proofs.YtmodikcghlbigaaDoor
open Go.RowKit

set_option maxRecDepth 20000 in
set_option maxHeartbeats 4000000 in
theorem kiskey_any (K : List UInt8) (w : World) (hK : K.length ≤ 1000000) : Calls Tryd.prog 24 #[.string ⟨K.toArray⟩] w fun r w' => r = .returned (.bool (nmsOk K)) ∧ Below w.heap.size w w' := by
  have hn := Lib.hid (hnames_any K w hK)
  go_enter Tryd.func24, Tryd.ntmps24
  go_wp2_with fail
  refine hn.out.mono ?_
  rintro r w2 ⟨q, c, L, rfl, -, -, -, hb⟩
  go_wp2_with fail
  go_ret
  exact ⟨rfl, hb⟩
theorem chgE_ok (E : List (Int × Int)) (hl : E.length ≤ 64) (P : List Nat) : (chgE P E == 0 || chgE P E == 7) = good 0 (-1) E := by
  unfold chgE
  rw [if_neg (by omega)]
  cases hg : good 0 (-1) E with
  | false => rw [if_pos rfl]; rfl
  | true =>
    rw [if_neg (by decide)]
    split <;> rfl

set_option maxRecDepth 20000 in
set_option maxHeartbeats 4000000 in
theorem kischange_any (ao : Option Addr) (cap : Nat) (E : List (Int × Int)) (w : World) (hS : Rd encP w ao E) (hl : E.length ≤ 64) :
    Calls Tryd.prog 26 #[.slice ao E.length cap] w fun r w' => r = .returned (.bool (good 0 (-1) E)) ∧ Below w.heap.size w w' := by
  have hc := Lib.hid (tchange_any (List.replicate 64 0) ao cap E w isTab_zero hS (by omega))
  have htab := chgT_tab (E := E) isTab_zero
  rw [← chgE_ok E hl (List.replicate 64 0)]
  unfold tval at hc
  obtain ⟨Z, hZ⟩ : ∃ Z, Z = (nums .i64 (List.replicate 64 0)).toArray := ⟨_, rfl⟩
  obtain ⟨AQ, hAQ⟩ : ∃ AQ, AQ = (nums .i64 (chgT (List.replicate 64 0) E)).toArray := ⟨_, rfl⟩
  have hQs : AQ.size = 64 := htab.row hAQ
  have h1Q := tab_one hAQ
  have hZs : Z.size = 64 := by rw [hZ]; simp [nums_len]
  have hz : ∀ w : World, (zeroValue 53).run Tryd.prog w = .ok (.agg Z) w := by rw [hZ]; exact fun _ => by kernel_rfl
  rw [← hZ, ← hAQ] at hc
  generalize chgE (List.replicate 64 0) E = e at hc ⊢
  generalize E.length = n at hc hl ⊢
  clear hS htab hZ hAQ
  have hsplit : ∀ e : Int, e = 0 ∨ ((e == 0) = false ∧ e = 7) ∨ ((e == 0) = false ∧ (e == 7) = false) := fun e => by
    by_cases h0 : e = 0
    · exact .inl h0
    · by_cases h7 : e = 7
      · exact .inr (.inl ⟨by simp [h0], h7⟩)
      · exact .inr (.inr ⟨by simp [h0], by simp [h7]⟩)
  have hst := fun w2 : World => heap_alloc_new w2 (.cells Z 53)
  rcases hsplit e with rfl | ⟨h0, rfl⟩ | ⟨h0, h7⟩
  all_goals
    clear hsplit
    go_enter Tryd.func26, Tryd.ntmps26
    go_wp2_with fail
    refine hc.out.mono ?_
    rintro r w2 ⟨rfl, hb⟩
    have ha := heap_alloc_new w2 (.cells Z 53)
    have HB : Hid (Below w.heap.size w ((w2.alloc (.cells Z 53)).setRow w2.heap.size AQ)) := Lib.hid (by
      have h := hb.alloc hb.size (.cells Z 53)
      have hlt := hb.size
      exact ((Mod.of_below h).setRow AQ).to_below (Nat.le_refl _) (by rintro k hk (h | h) <;> omega))
    clear hb hst
    go_wp2_with (refine wpList_store_row rfl rfl 53 (.tmp 3) (.tmp 9) rfl w2.heap.size rfl 53 Z AQ rfl ha (by rw [hZs, hQs]) (by rw [hQs]; kernel_rfl) h1Q.out ?_)
    go_ret
    exact ⟨by simp [*], HB.out⟩
/-- A certificate's cells. -/
theorem ct_info : (Tryd.prog.info? 30).map (·.size) = some 5 := by kernel_rfl
theorem rct_info : (Tryd.prog.info? 25).map (·.size) = some 5 := by kernel_rfl

set_option maxRecDepth 20000 in
set_option maxHeartbeats 8000000 in
theorem kcheck_any (c : Ct) (p q : Option Addr) (cp cq : Nat) (w : World) (hS : CtAt w c p q) (h1 : c.sg.length ≤ 1000000) (h2 : c.ch.length ≤ 1000000) (h3 : c.base.length ≤ 1000000) (h4 : c.fin.length ≤ 1000000) :
    Calls Tryd.prog 9 #[.agg (ctc c p q cp cq)] w fun r w' => r = .returned (.int .i64 (ck c)) ∧ Below w.heap.size w w' := by
  obtain ⟨inst, base, fin, sg, ch⟩ := c
  obtain ⟨hS1, hS2⟩ := hS
  simp only at hS1 hS2 h1 h2 h3 h4
  have hkb := Lib.hid (fun w => kiskey_any base w h3)
  have hkf := Lib.hid (fun w => kiskey_any fin w h4)
  have hri := Lib.hid (fun w h => krising_any p cp sg w h h1)
  have hch := Lib.hid (fun w h => kischange_any q cq ch w h)
  obtain ⟨res, hres⟩ : ∃ r, r = ck ⟨inst, base, fin, sg, ch⟩ := ⟨_, rfl⟩
  rw [← hres]
  unfold ck at hres
  simp only at hres
  unfold ctc
  simp only
  have HS1 := Lib.hid hS1
  have HS2 := Lib.hid hS2
  generalize hn : sg.length = n at *
  generalize hm : ch.length = m at *
  generalize nmsOk base = kb at *
  generalize nmsOk fin = kf at *
  generalize good 0 (-1) ch = gd at *
  generalize rise (-1) sg = rz at *
  obtain ⟨W, hW⟩ : ∃ W, W = w.alloc (.cells #[.int .i64 inst, .string ⟨base.toArray⟩, .string ⟨fin.toArray⟩, .slice p n cp, .slice q m cq] 30) := ⟨_, rfl⟩
  have hB : Below w.heap.size w W := by rw [hW]; exact (Below.refl _ _).alloc (Nat.le_refl _) _
  have hbx : W.heap[w.heap.size]? = some (.cells #[.int .i64 inst, .string ⟨base.toArray⟩, .string ⟨fin.toArray⟩, .slice p n cp, .slice q m cq] 30 (0, 0)) := by rw [hW]; exact heap_alloc_new _ _
  have HW := Lib.hid hW
  have hc : ∀ w2, Below W.heap.size W w2 → ∀ k : Nat, w2.cell? ⟨w.heap.size, k, none⟩ = #[.int .i64 inst, .string ⟨base.toArray⟩, .string ⟨fin.toArray⟩, .slice p n cp, .slice q m cq][k]? := fun w2 hb k =>
    cell_of_row w2 _ k _ 30 (0, 0) ((hb.block _ (Array.getElem?_eq_some_iff.1 hbx).1).trans hbx)
  have Hc := Lib.hid hc
  have HB := Lib.hid hB
  have HR := Lib.hid hres
  clear hS1 hS2 hW hB hbx hc hres
  have ini : ∀ w2, Below W.heap.size W w2 → w2.cell? ⟨w.heap.size, 0, none⟩ = some (.int .i64 inst) ∧ w2.cell? ⟨w.heap.size, 1, none⟩ = some (.string ⟨base.toArray⟩) ∧ w2.cell? ⟨w.heap.size, 2, none⟩ = some (.string ⟨fin.toArray⟩) ∧ w2.cell? ⟨w.heap.size, 3, none⟩ = some (.slice p n cp) ∧ w2.cell? ⟨w.heap.size, 4, none⟩ = some (.slice q m cq) :=
    fun w2 hb => ⟨Hc.out w2 hb 0, Hc.out w2 hb 1, Hc.out w2 hb 2, Hc.out w2 hb 3, Hc.out w2 hb 4⟩
  have HI := Lib.hid ini
  obtain ⟨c0, c1, c2, c3, c4⟩ := ini W (Below.refl _ _)
  clear ini
  by_cases b1 : (64 : Int) < n
  · have hr : Hid (res = 4) := Lib.hid (by rw [HR.out, if_pos (.inl (by omega))])
    obtain rfl := hr.out
    clear HR
    go_enter Tryd.func9, Tryd.ntmps9
    go_upto_region 1 with fail
    rw [← HW.out]
    go_wp2_with fail
    go_ret
    exact ⟨rfl, HB.out⟩
  by_cases b2 : (64 : Int) < m
  · have hr : Hid (res = 4) := Lib.hid (by rw [HR.out, if_pos (.inr (by omega))])
    obtain rfl := hr.out
    clear HR
    go_enter Tryd.func9, Tryd.ntmps9
    go_upto_region 1 with fail
    rw [← HW.out]
    go_wp2_with fail
    go_ret
    exact ⟨rfl, HB.out⟩
  have HR2 : Hid (res = if inst < 0 ∨ 1073741824 < inst ∨ kb = false ∨ kf = false ∨ gd = false ∨ rz = false then 1 else 0) := Lib.hid (by rw [HR.out, if_neg (by omega)])
  have hm64 : m ≤ 64 := by omega
  clear HR
  by_cases b3 : inst < 0
  · have hr : Hid (res = 1) := Lib.hid (by rw [HR2.out, if_pos (.inl b3)])
    obtain rfl := hr.out
    clear HR2
    go_enter Tryd.func9, Tryd.ntmps9
    go_upto_region 1 with fail
    rw [← HW.out]
    go_wp2_with fail
    go_ret
    exact ⟨rfl, HB.out⟩
  by_cases b4 : (1073741824 : Int) < inst
  · have hr : Hid (res = 1) := Lib.hid (by rw [HR2.out, if_pos (.inr (.inl b4))])
    obtain rfl := hr.out
    clear HR2
    go_enter Tryd.func9, Tryd.ntmps9
    go_upto_region 1 with fail
    rw [← HW.out]
    go_wp2_with fail
    go_ret
    exact ⟨rfl, HB.out⟩
  have HR3 : Hid (res = if kb = false ∨ kf = false ∨ gd = false ∨ rz = false then 1 else 0) := Lib.hid (by rw [HR2.out]; simp only [b3, b4, false_or])
  clear HR2
  go_enter Tryd.func9, Tryd.ntmps9
  go_upto_region 1 with fail
  rw [← HW.out]
  go_wp2_with fail
  refine (hkb.out W).mono ?_
  rintro r w2 ⟨rfl, hb2⟩
  obtain ⟨d0, d1, d2, d3, d4⟩ := HI.out w2 hb2
  have HB2 := Lib.hid hb2
  clear hb2 c0 c1 c2 c3 c4
  cases kb with
  | false =>
    have hr : Hid (res = 1) := Lib.hid (by rw [HR3.out, if_pos (.inl rfl)])
    obtain rfl := hr.out
    clear HR3
    go_wp2_with fail
    go_ret
    exact ⟨rfl, HB.out.trans (HB2.out.mono HB.out.size)⟩
  | true =>
  go_wp2_with fail
  refine (hkf.out w2).mono ?_
  rintro r w3 ⟨rfl, hb3⟩
  have HB3 := Lib.hid (HB2.out.trans (hb3.mono HB2.out.size))
  obtain ⟨e0, e1, e2, e3, e4⟩ := HI.out w3 HB3.out
  clear hb3 d0 d1 d2 d3 d4 HB2
  cases kf with
  | false =>
    have hr : Hid (res = 1) := Lib.hid (by rw [HR3.out, if_pos (.inr (.inl rfl))])
    obtain rfl := hr.out
    clear HR3
    go_wp2_with fail
    go_ret
    exact ⟨rfl, HB.out.trans (HB3.out.mono HB.out.size)⟩
  | true =>
  go_wp2_with fail
  refine (hri.out w3 (HS1.out.old (HB.out.trans (HB3.out.mono HB.out.size)))).mono ?_
  rintro r w4 ⟨rfl, hb4⟩
  have HB4 := Lib.hid (HB3.out.trans (hb4.mono HB3.out.size))
  obtain ⟨f0, f1, f2, f3, f4⟩ := HI.out w4 HB4.out
  clear hb4 e0 e1 e2 e3 e4 HB3
  cases rz with
  | false =>
    have hr : Hid (res = 1) := Lib.hid (by rw [HR3.out, if_pos (.inr (.inr (.inr rfl)))])
    obtain rfl := hr.out
    clear HR3
    go_wp2_with fail
    go_ret
    exact ⟨rfl, HB.out.trans (HB4.out.mono HB.out.size)⟩
  | true =>
  go_wp2_with fail
  refine (hch.out w4 (HS2.out.old (HB.out.trans (HB4.out.mono HB.out.size))) (by omega)).mono ?_
  rintro r w5 ⟨rfl, hb5⟩
  have HB5 := Lib.hid (HB4.out.trans (hb5.mono HB4.out.size))
  clear hb5 f0 f1 f2 f3 f4 HB4
  cases gd with
  | false =>
    have hr : Hid (res = 1) := Lib.hid (by rw [HR3.out, if_pos (.inr (.inr (.inl rfl)))])
    obtain rfl := hr.out
    clear HR3
    go_wp2_with fail
    go_ret
    exact ⟨rfl, HB.out.trans (HB5.out.mono HB.out.size)⟩
  | true =>
    have hr : Hid (res = 0) := Lib.hid (by rw [HR3.out, if_neg (by simp)])
    obtain rfl := hr.out
    clear HR3
    go_wp2_with fail
    go_ret
    exact ⟨rfl, HB.out.trans (HB5.out.mono HB.out.size)⟩
end Go.Proofs.YtmodikcghlbigaaDoor

namespace Go.Proofs.YtmodikcghlbigaaDoor
open Go.RowKit

theorem Gs.lo {E : List Int} : ∀ i, i ≤ E.length → Gs E i → -1 ≤ befS E i := by
  intro i
  induction i with
  | zero => intro _ _; exact Int.le_refl _
  | succ i ih =>
    intro hi h
    have h1 := ih (by omega) (fun j hj => h j (by omega))
    have h2 := (riseI_iff (by omega : i < E.length)).1 (h i (by omega))
    rw [befS_succ (by omega : i < E.length)]; omega

set_option maxRecDepth 20000 in
set_option maxHeartbeats 8000000 in
theorem rcheck_any (c : Ct) (p q : Option Addr) (cp cq : Nat) (w : World) (hS : CtAt w c p q) (h1 : c.sg.length ≤ 1000000) (h2 : c.ch.length ≤ 1000000) (h3 : c.base.length ≤ 1000000) (h4 : c.fin.length ≤ 1000000) :
    Calls Tryd.prog 10 #[.agg (ctc c p q cp cq)] w fun r w' => r = .returned (.int .i64 (ck c)) ∧ Below w.heap.size w w' := by
  obtain ⟨inst, base, fin, sg, ch⟩ := c
  obtain ⟨hS1, hS2⟩ := hS
  simp only at hS1 hS2 h1 h2 h3 h4
  have hkb := Lib.hid (fun w => rkey_any base w h3)
  have hkf := Lib.hid (fun w => rkey_any fin w h4)
  have hch := Lib.hid (fun w h => pchk_any q cq 0 ch w h h2)
  have hrn := Lib.hid (fun (i : Nat) (hi : i < sg.length) h => rise_no hi h)
  have hry := Lib.hid (fun (h : Gs sg sg.length) => rise_yes h)
  obtain ⟨res, hres⟩ : ∃ r, r = ck ⟨inst, base, fin, sg, ch⟩ := ⟨_, rfl⟩
  rw [← hres]
  unfold ck at hres
  simp only at hres
  unfold ctc
  simp only
  have HS1 := Lib.hid hS1
  have HS2 := Lib.hid hS2
  have Hn : Hid (sg.length = sg.length) := Lib.hid rfl
  obtain ⟨n, hn⟩ : ∃ n, sg.length = n := ⟨_, rfl⟩
  generalize hm : ch.length = m at *
  generalize nmsOk base = kb at *
  generalize nmsOk fin = kf at *
  generalize good 0 (-1) ch = gd at *
  generalize rise (-1) sg = rz at *
  rw [hn] at hres h1 ⊢
  replace Hn := Lib.hid hn
  obtain ⟨W, hW⟩ : ∃ W, W = w.alloc (.cells #[.int .i64 inst, .string ⟨base.toArray⟩, .string ⟨fin.toArray⟩, .slice p n cp, .slice q m cq] 25) := ⟨_, rfl⟩
  have hB : Below w.heap.size w W := by rw [hW]; exact (Below.refl _ _).alloc (Nat.le_refl _) _
  have hbx : W.heap[w.heap.size]? = some (.cells #[.int .i64 inst, .string ⟨base.toArray⟩, .string ⟨fin.toArray⟩, .slice p n cp, .slice q m cq] 25 (0, 0)) := by rw [hW]; exact heap_alloc_new _ _
  have HW := Lib.hid hW
  have hc : ∀ w2, Below W.heap.size W w2 → ∀ k : Nat, w2.cell? ⟨w.heap.size, k, none⟩ = #[.int .i64 inst, .string ⟨base.toArray⟩, .string ⟨fin.toArray⟩, .slice p n cp, .slice q m cq][k]? := fun w2 hb k =>
    cell_of_row w2 _ k _ 25 (0, 0) ((hb.block _ (Array.getElem?_eq_some_iff.1 hbx).1).trans hbx)
  have Hc := Lib.hid hc
  have HB := Lib.hid hB
  have HR := Lib.hid hres
  clear hS1 hS2 hW hB hbx hc hres hn
  have ini : ∀ w2, Below W.heap.size W w2 → w2.cell? ⟨w.heap.size, 0, none⟩ = some (.int .i64 inst) ∧ w2.cell? ⟨w.heap.size, 1, none⟩ = some (.string ⟨base.toArray⟩) ∧ w2.cell? ⟨w.heap.size, 2, none⟩ = some (.string ⟨fin.toArray⟩) ∧ w2.cell? ⟨w.heap.size, 3, none⟩ = some (.slice p n cp) ∧ w2.cell? ⟨w.heap.size, 4, none⟩ = some (.slice q m cq) :=
    fun w2 hb => ⟨Hc.out w2 hb 0, Hc.out w2 hb 1, Hc.out w2 hb 2, Hc.out w2 hb 3, Hc.out w2 hb 4⟩
  have HI := Lib.hid ini
  obtain ⟨c0, c1, c2, c3, c4⟩ := ini W (Below.refl _ _)
  clear ini
  by_cases b1 : (64 : Int) < n
  · have hr : Hid (res = 4) := Lib.hid (by rw [HR.out, if_pos (.inl (by omega))])
    obtain rfl := hr.out
    clear HR
    go_enter Tryd.func10, Tryd.ntmps10
    go_upto_region 1 with fail
    rw [← HW.out]
    go_wp2_with fail
    go_ret
    exact ⟨rfl, HB.out⟩
  by_cases b2 : (64 : Int) < m
  · have hr : Hid (res = 4) := Lib.hid (by rw [HR.out, if_pos (.inr (by omega))])
    obtain rfl := hr.out
    clear HR
    go_enter Tryd.func10, Tryd.ntmps10
    go_upto_region 1 with fail
    rw [← HW.out]
    go_wp2_with fail
    go_ret
    exact ⟨rfl, HB.out⟩
  have HR2 : Hid (res = if inst < 0 ∨ 1073741824 < inst ∨ kb = false ∨ kf = false ∨ gd = false ∨ rz = false then 1 else 0) := Lib.hid (by rw [HR.out, if_neg (by omega)])
  have hm64 : m ≤ 64 := by omega
  rw [if_neg (by omega : ¬ 64 < m)] at hch
  clear HR
  by_cases b3 : inst < 0
  · have hr : Hid (res = 1) := Lib.hid (by rw [HR2.out, if_pos (.inl b3)])
    obtain rfl := hr.out
    clear HR2
    go_enter Tryd.func10, Tryd.ntmps10
    go_upto_region 1 with fail
    rw [← HW.out]
    go_wp2_with fail
    go_ret
    exact ⟨rfl, HB.out⟩
  by_cases b4 : (1073741824 : Int) < inst
  · have hr : Hid (res = 1) := Lib.hid (by rw [HR2.out, if_pos (.inr (.inl b4))])
    obtain rfl := hr.out
    clear HR2
    go_enter Tryd.func10, Tryd.ntmps10
    go_upto_region 1 with fail
    rw [← HW.out]
    go_wp2_with fail
    go_ret
    exact ⟨rfl, HB.out⟩
  have HR3 : Hid (res = if kb = false ∨ kf = false ∨ gd = false ∨ rz = false then 1 else 0) := Lib.hid (by rw [HR2.out]; simp only [b3, b4, false_or])
  clear HR2
  go_enter Tryd.func10, Tryd.ntmps10
  go_upto_region 1 with fail
  rw [← HW.out]
  go_wp2_with fail
  refine (hkb.out W).mono ?_
  rintro r w2 ⟨rfl, hb2⟩
  obtain ⟨d0, d1, d2, d3, d4⟩ := HI.out w2 hb2
  have HB2 := Lib.hid hb2
  clear hb2 c0 c1 c2 c3 c4
  cases kb with
  | false =>
    have hr : Hid (res = 1) := Lib.hid (by rw [HR3.out, if_pos (.inl rfl)])
    obtain rfl := hr.out
    clear HR3
    go_wp2_with fail
    go_ret
    exact ⟨rfl, HB.out.trans (HB2.out.mono HB.out.size)⟩
  | true =>
  go_wp2_with fail
  refine (hkf.out w2).mono ?_
  rintro r w3 ⟨rfl, hb3⟩
  have HB3 := Lib.hid (HB2.out.trans (hb3.mono HB2.out.size))
  obtain ⟨e0, e1, e2, e3, e4⟩ := HI.out w3 HB3.out
  clear hb3 d0 d1 d2 d3 d4 HB2
  cases kf with
  | false =>
    have hr : Hid (res = 1) := Lib.hid (by rw [HR3.out, if_pos (.inr (.inl rfl))])
    obtain rfl := hr.out
    clear HR3
    go_wp2_with fail
    go_ret
    exact ⟨rfl, HB.out.trans (HB3.out.mono HB.out.size)⟩
  | true =>
  go_wp2_with fail
  refine (hch.out w3 (HS2.out.old (HB.out.trans (HB3.out.mono HB.out.size)))).mono ?_
  rintro r w4 ⟨rfl, hb4⟩
  have HB4 := Lib.hid (HB3.out.trans (hb4.mono HB3.out.size))
  obtain ⟨f0, f1, f2, f3, f4⟩ := HI.out w4 HB4.out
  clear hb4 e0 e1 e2 e3 e4 HB3
  cases gd with
  | false =>
    have hr : Hid (res = 1) := Lib.hid (by rw [HR3.out, if_pos (.inr (.inr (.inl rfl)))])
    obtain rfl := hr.out
    clear HR3
    simp only [Bool.false_eq_true, if_false]
    go_wp2_with fail
    go_ret
    exact ⟨rfl, HB.out.trans (HB4.out.mono HB.out.size)⟩
  | true =>
  have HR4 : Hid (res = if rz = false then 1 else 0) := Lib.hid (by rw [HR3.out]; simp)
  clear HR3
  simp only [if_true]
  go_wp2_with fail
  go_loopw [44] (fun s44 wr => ∃ i : Nat, i ≤ n ∧ s44 = .int .i64 (i : Int) ∧ Hid (Gs sg i ∧ Below W.heap.size W wr)) (fun i _ => n - (intOf i).toNat)
  case atStart => exact ⟨0, by omega, rfl, Lib.hid ⟨(fun j hj => by omega), HB4.out⟩⟩
  case round =>
    clear f0 f1 f2 f3 f4
    obtain ⟨i, hi, rfl, hG⟩ := hrel
    by_cases hin : i < n
    · have hil : i < sg.length := by rw [Hn.out]; exact hin
      have HBw : Hid (Below w.heap.size w wr) := Lib.hid (HB.out.trans (hG.out.2.mono HB.out.size))
      obtain ⟨bs, off, rfl, hbs, g1⟩ := (HS1.out.old HBw.out).int i hil
      have hif := riseI_iff hil
      have hprev : Hid (∀ (j : Nat) (e : i = j + 1), ∃ m' : Int, befS sg i = m' ∧ wr.cell? ⟨bs, off + j, none⟩ = some (.int .i64 m')) := Lib.hid (fun j e => by
        obtain ⟨bs', off', e', _, d1⟩ := (HS1.out.old HBw.out).int j (by omega)
        cases e'
        exact ⟨sg[j], by subst e; exact befS_succ (by omega), d1⟩)
      have hb0 : Hid (i = 0 → befS sg i = -1) := Lib.hid (fun e => by unfold befS; rw [if_pos e])
      have hzl : -1 ≤ befS sg i := Gs.lo i (by omega) hG.out.1
      obtain ⟨x, hm0⟩ : ∃ m, m = sg[i] := ⟨_, rfl⟩
      obtain ⟨z, hz⟩ : ∃ z, z = befS sg i := ⟨_, rfl⟩
      rw [← hm0] at g1
      rw [← hm0, ← hz] at hif
      rw [← hz] at hprev hb0 hzl
      have HI2 := Lib.hid hif
      have HF : Hid (¬ (z < x ∧ x < 64) → res = 1) := Lib.hid (fun h => by
        have hf : rz = false := by
          refine hrn.out i hil ?_
          cases hg : riseI sg i with
          | false => rfl
          | true => exact absurd (hif.1 hg) h
        rw [HR4.out, hf]; rfl)
      have i1 : (i : Int) < n := by omega
      have i0 : (0 : Int) ≤ i := by omega
      have HG := Lib.hid hG.out.1
      have HBW := Lib.hid hG.out.2
      obtain ⟨f0, f1, f2, f3, f4⟩ := HI.out wr hG.out.2
      clear hm0 hz hG hif
      by_cases q1 : x < 0
      · obtain rfl := HF.out (by omega)
        clear hprev hb0
        go_wp2_with fail
        go_ret
        exact ⟨rfl, HBw.out⟩
      · by_cases q2 : (63 : Int) < x
        · obtain rfl := HF.out (by omega)
          clear hprev hb0
          go_wp2_with fail
          go_ret
          exact ⟨rfl, HBw.out⟩
        · by_cases hi0 : i = 0
          · have hz0 := hb0.out hi0
            have hgn : Hid (Gs sg (i + 1)) := Lib.hid (HG.out.next (HI2.out.2 ⟨by omega, by omega⟩))
            have d0 : ¬ ((0 : Int) < (i : Int)) := by omega
            clear hprev hb0 HI2 hi0 hz0
            go_wp2_with fail
            go_roundw
            case rel => exact ⟨i + 1, by omega, by go_num, Lib.hid ⟨hgn.out, HBW.out⟩⟩
            case measure => simp [intOf]; omega
          · obtain ⟨j, hj⟩ : ∃ j, i = j + 1 := ⟨i - 1, by omega⟩
            obtain ⟨m', hbe, cP⟩ := hprev.out j hj
            have d0 : (0 : Int) < (i : Int) := by omega
            have f6 : IntKind.i64.wrap ((i : Int) - 1) = (j : Int) := by rw [IntKind.wrap_i64]; omega
            have j0 : (0 : Int) ≤ j := by omega
            have j1 : (j : Int) < n := by omega
            by_cases q3 : x ≤ m'
            · obtain rfl := HF.out (by omega)
              clear hprev hb0 hj hbe hi0
              go_wp2_with fail
              go_ret
              exact ⟨rfl, HBw.out⟩
            · have hgn : Hid (Gs sg (i + 1)) := Lib.hid (HG.out.next (HI2.out.2 ⟨by omega, by omega⟩))
              clear hprev hb0 HI2 hj hbe hi0
              go_wp2_with fail
              go_roundw
              case rel => exact ⟨i + 1, by omega, by go_num, Lib.hid ⟨hgn.out, HBW.out⟩⟩
              case measure => simp [intOf]; omega
    · have e : i = n := by omega
      have HT : Hid (res = 0) := Lib.hid (by
        have := hry.out (by rw [Hn.out, ← e]; exact hG.out.1)
        rw [HR4.out, this]; rfl)
      have HBw : Hid (Below w.heap.size w wr) := Lib.hid (HB.out.trans (hG.out.2.mono HB.out.size))
      have i1 : ¬ (i : Int) < n := by omega
      obtain rfl := HT.out
      clear hG
      go_wp2_with fail
      go_ret
      exact ⟨rfl, HBw.out⟩
end Go.Proofs.YtmodikcghlbigaaDoor

namespace Go.Proofs.YtmodikcghlbigaaDoor
open Go.RowKit

/-- What has turned of what was there is the writer's. -/
def Wr (w w' : World) : Prop := Mod (fun k => ∃ cs T fr, w.heap[k]? = some (.cells cs T fr) ∧ (T = 68 ∨ T = 5)) w w'
theorem Wr.row {w w' : World} (h : Wr w w') {g : Nat} {cs : Array Value} {T : TypeId} {fr : Nat × Nat} (hg : w.heap[g]? = some (.cells cs T fr)) (h1 : T ≠ 68) (h2 : T ≠ 5) (_ : True) : w'.heap[g]? = some (.cells cs T fr) := by
  refine (h.block g (Array.getElem?_eq_some_iff.1 hg).1 ?_).trans hg
  rintro ⟨cs', T', fr', e, ht⟩
  rw [hg] at e
  simp only [Option.some.injEq, Obj.cells.injEq] at e
  obtain ⟨_, rfl, _⟩ := e
  rcases ht with ht | ht
  · exact h1 ht
  · exact h2 ht
theorem wr_of_num {w w' : World} {b : Nat} {v : Value} {bs bs' : List UInt8} {r : Ending} (hO : OutAt 68 5 w b v bs) (h : NumPost b v bs' w r w') : Wr w w' := by
  obtain ⟨_, v', _, hM, _⟩ := h
  refine hM.mono ?_
  rintro i hi (rfl | h)
  · exact ⟨_, _, _, hO.blk, .inl rfl⟩
  · rcases hO.own.2 with ⟨rfl, _⟩ | ⟨g, cap, cur, rfl, _, hh, _⟩
    · simp [Value.ownBlock] at h
    · simp [Value.ownBlock] at h
      subst h
      exact ⟨_, _, _, hh, .inr rfl⟩
theorem out_numW (W0 : World) (b : Nat) (bs : List UInt8) (x : Int) (w : World) (h : OutSt W0 b bs w) (hl : bs.length ≤ 1099511627776) (h0 : -9223372036854775808 ≤ x) (h1 : x ≤ 9223372036854775807) :
    Calls Tryd.prog 32 #[.pointer (some ⟨b, 0, none⟩), .int .i64 x] w fun r w' => r = .returned (.pointer (some ⟨b, 0, none⟩)) ∧ OutSt W0 b (bs ++ numL x) w' ∧ Wr w w' := by
  obtain ⟨v, hO, hv, hB⟩ := h
  exact (num_any x b v bs w h0 h1 hO hl).mono fun _ _ hp => ⟨(OutSt.of_post hO hv hB hp).1, (OutSt.of_post hO hv hB hp).2, wr_of_num hO hp⟩

set_option maxRecDepth 20000 in
set_option maxHeartbeats 8000000 in
theorem kbytes_any (c : Ct) (p q : Option Addr) (cp cq : Nat) (w : World) (hS : CtAt w c p q) (ok : CtOk c) :
    Calls Tryd.prog 12 #[.agg (ctc c p q cp cq)] w fun r w' => r = .returned (.string ⟨(ctB c).toArray⟩) ∧ Below w.heap.size w w' := by
  have hlen := ctB_len ok
  obtain ⟨F, hF⟩ : ∃ F, F = ctB c := ⟨_, rfl⟩
  rw [← hF] at hlen ⊢
  obtain ⟨inst, base, fin, sg, ch⟩ := c
  obtain ⟨hS1, hS2⟩ := hS
  obtain ⟨ns, nc, i0, i1, kb, kf, hg, hr⟩ := ok
  have kb := CtOk.key kb
  have kf := CtOk.key kf
  unfold ctB at hF
  simp only at hS1 hS2 ns nc i0 i1 kb kf hg hr hF
  unfold ctc
  simp only
  have hrm := Lib.hid (fun x hx => rise_mem hr (by decide) x hx)
  have hgm := Lib.hid (fun x hx => good_mem hg (by decide) x hx)
  obtain ⟨n, hn⟩ : ∃ n, n = sg.length := ⟨_, rfl⟩
  obtain ⟨m0, hm0⟩ : ∃ n, n = ch.length := ⟨_, rfl⟩
  rw [← hn, ← hm0] at hF ⊢
  rw [← hn] at ns
  rw [← hm0] at nc
  have Hn := Lib.hid hn
  have Hm := Lib.hid hm0
  have HS1 := Lib.hid hS1
  have HS2 := Lib.hid hS2
  obtain ⟨B1, hB1⟩ : ∃ B, B = ([] : List UInt8) ++ numL inst := ⟨_, rfl⟩
  obtain ⟨B2, hB2⟩ : ∃ B, B = B1 ++ (numL base.length ++ base) := ⟨_, rfl⟩
  obtain ⟨B3, hB3⟩ : ∃ B, B = B2 ++ (numL fin.length ++ fin) := ⟨_, rfl⟩
  obtain ⟨B4, hB4⟩ : ∃ B, B = B3 ++ numL (n : Int) := ⟨_, rfl⟩
  obtain ⟨B5, hB5⟩ : ∃ B, B = B4 ++ sB sg := ⟨_, rfl⟩
  obtain ⟨B6, hB6⟩ : ∃ B, B = B5 ++ numL (m0 : Int) := ⟨_, rfl⟩
  have hFB : F = B6 ++ eB ch := by rw [hF, hB6, hB5, hB4, hB3, hB2, hB1]; simp [List.append_assoc]
  have l6 : B6.length ≤ 4000 := by have := congrArg List.length hFB; rw [List.length_append] at this; omega
  have l5 : B5.length ≤ 4000 := by have := congrArg List.length hB6; rw [List.length_append] at this; omega
  have l4 : B4.length ≤ 4000 := by have := congrArg List.length hB5; rw [List.length_append] at this; omega
  have l3 : B3.length ≤ 4000 := by have := congrArg List.length hB4; rw [List.length_append] at this; omega
  have l2 : B2.length ≤ 4000 := by have := congrArg List.length hB3; rw [List.length_append] at this; omega
  have l1 : B1.length ≤ 4000 := by have := congrArg List.length hB2; rw [List.length_append] at this; omega
  have HB1 := Lib.hid hB1
  have HB2 := Lib.hid hB2
  have HB3 := Lib.hid hB3
  have HB4 := Lib.hid hB4
  have HB5 := Lib.hid hB5
  have HB6 := Lib.hid hB6
  have HF := Lib.hid hFB
  clear hF hFB hB1 hB2 hB3 hB4 hB5 hB6 hn hm0 hS1 hS2 hg hr
  obtain ⟨W0, hW0⟩ : ∃ W, W = w.alloc (.cells #[.int .i64 inst, .string ⟨base.toArray⟩, .string ⟨fin.toArray⟩, .slice p n cp, .slice q m0 cq] 30) := ⟨_, rfl⟩
  have hB : Hid (Below w.heap.size w W0) := Lib.hid (by rw [hW0]; exact (Below.refl _ _).alloc (Nat.le_refl _) _)
  obtain ⟨g, hg⟩ : ∃ g, g = w.heap.size := ⟨_, rfl⟩
  have hbx0 : W0.heap[g]? = some (.cells #[.int .i64 inst, .string ⟨base.toArray⟩, .string ⟨fin.toArray⟩, .slice p n cp, .slice q m0 cq] 30 (0, 0)) := by rw [hW0, hg]; exact heap_alloc_new _ _
  have hsz : W0.heap.size = w.heap.size + 1 := by rw [hW0]; simp
  obtain ⟨b, hb⟩ : ∃ b, b = W0.heap.size := ⟨_, rfl⟩
  have hbx : ∀ w2, Below b W0 w2 → w2.cell? ⟨g, 0, none⟩ = some (.int .i64 inst) ∧ w2.cell? ⟨g, 1, none⟩ = some (.string ⟨base.toArray⟩) ∧ w2.cell? ⟨g, 2, none⟩ = some (.string ⟨fin.toArray⟩) ∧ w2.cell? ⟨g, 3, none⟩ = some (.slice p n cp) ∧ w2.cell? ⟨g, 4, none⟩ = some (.slice q m0 cq) := fun w2 h2 => by
    have e := (h2.block g (by omega)).trans hbx0
    exact ⟨cell_of_row w2 g 0 _ 30 (0, 0) e, cell_of_row w2 g 1 _ 30 (0, 0) e, cell_of_row w2 g 2 _ 30 (0, 0) e, cell_of_row w2 g 3 _ 30 (0, 0) e, cell_of_row w2 g 4 _ 30 (0, 0) e⟩
  have hlow : Hid (∀ w2, Below b W0 w2 → Below w.heap.size w w2) := Lib.hid (fun w2 h2 => hB.out.trans (h2.mono (by omega)))
  have HO0 : Hid (OutSt W0 b [] (W0.alloc (.cells #[.slice none 0 0] 68))) := Lib.hid (by rw [hb]; exact OutSt.made W0)
  have HW := Lib.hid hW0
  have Hg := Lib.hid hg
  have Hb : Hid (b = w.heap.size + 1) := Lib.hid (by omega)
  clear hW0 hg hb hbx0 hsz
  go_enter Tryd.func12, Tryd.ntmps12
  go_upto_region 2 with fail
  rw [← HW.out, ← Hb.out, ← Hg.out]
  generalize W0.alloc (.cells #[.slice none 0 0] 68) = W1 at HO0 ⊢
  have HG0 : Hid ((fun (j : Nat) (_ : Value) (w' : World) => OutSt W0 b (match j with | 0 => [] | 1 => B1 | 2 => B2 | _ => B3) w') 0 undef W1.drew) := Lib.hid (HO0.out.old (Below.refl _ _).drew)
  clear HO0
  refine wp_region_chain (fun t v => match t with
    | 8 => v = .pointer (some ⟨g, 0, none⟩)
    | 9 => v = .int .i64 inst
    | 10 => v = .pointer (some ⟨b, 0, none⟩)
    | 11 => v = .pointer (some ⟨g, 1, none⟩)
    | 12 => v = .string ⟨base.toArray⟩
    | 13 => v = .pointer (some ⟨b, 0, none⟩)
    | 14 => v = .pointer (some ⟨g, 2, none⟩)
    | 15 => v = .string ⟨fin.toArray⟩
    | 16 => v = .pointer (some ⟨b, 0, none⟩)
    | _ => True) (fun (j : Nat) (_ : Value) (w' : World) => OutSt W0 b (match j with | 0 => [] | 1 => B1 | 2 => B2 | _ => B3) w') [2, 5, 8] 50 (by kernel_rfl) (by decide +kernel) rfl (by decide +kernel) (by decide) (by decide) HG0.out (by
    refine OweAllC.cons (owesC_val 0 (by decide +kernel) (by decide) rfl rfl fun k' a w1 x hk ha hG hV => ?_) ?_
    · skip
      have h1 := ha.outer 1 (by decide +kernel)
      simp only [Act.eval] at h1
      exact ⟨.pointer (some ⟨g, 0, none⟩), wanted_free rfl, by simp [execOp, go_sem, h1], rfl⟩
    refine OweAllC.cons (owesC_val 0 (by decide +kernel) (by decide) rfl rfl fun k' a w1 x hk ha hG hV => ?_) ?_
    · skip
      have h8 : a.tmps.getD 8 undef = .pointer (some ⟨g, 0, none⟩) := hV.get 8 (by decide +kernel)
      have cc := (hbx _ hG.below).1
      exact ⟨.int .i64 inst, wanted_free rfl, by simp [execOp, go_sem, h8, cc], rfl⟩
    refine OweAllC.cons (owesC_call 0 rfl rfl rfl 32 fun a w1 x ha hG hx hV => ?_) ?_
    · skip
      have h3 := ha.outer 3 (by decide +kernel)
      simp only [Act.eval] at h3
      have h9 : a.tmps.getD 9 undef = .int .i64 inst := hV.get 9 (by decide +kernel)
      refine ⟨#[.pointer (some ⟨b, 0, none⟩), .int .i64 inst], wanted_free rfl, by simp [execOp, resolve, invoke, go_sem, h3, h9], ?_⟩
      refine (out_num W0 b [] inst w1 hG (by first | (simp; done) | omega) (by omega) (by omega)).mono ?_
      rintro r u2 ⟨rfl, hO⟩; exact ⟨_, rfl, rfl, by rw [HB1.out]; exact hO⟩
    refine OweAllC.cons (owesC_val 1 (by decide +kernel) (by decide) rfl rfl fun k' a w1 x hk ha hG hV => ?_) ?_
    · skip
      have h1 := ha.outer 1 (by decide +kernel)
      simp only [Act.eval] at h1
      exact ⟨.pointer (some ⟨g, 1, none⟩), wanted_free rfl, by simp [execOp, go_sem, h1], rfl⟩
    refine OweAllC.cons (owesC_val 1 (by decide +kernel) (by decide) rfl rfl fun k' a w1 x hk ha hG hV => ?_) ?_
    · skip
      have h11 : a.tmps.getD 11 undef = .pointer (some ⟨g, 1, none⟩) := hV.get 11 (by decide +kernel)
      have cc := (hbx _ hG.below).2.1
      exact ⟨.string ⟨base.toArray⟩, wanted_free rfl, by simp [execOp, go_sem, h11, cc], rfl⟩
    refine OweAllC.cons (owesC_call 1 rfl rfl rfl 33 fun a w1 x ha hG hx hV => ?_) ?_
    · skip
      have h10 : a.tmps.getD 10 undef = .pointer (some ⟨b, 0, none⟩) := hV.get 10 (by decide +kernel)
      have h12 : a.tmps.getD 12 undef = .string ⟨base.toArray⟩ := hV.get 12 (by decide +kernel)
      refine ⟨#[.pointer (some ⟨b, 0, none⟩), .string ⟨base.toArray⟩], wanted_free rfl, by simp [execOp, resolve, invoke, go_sem, h10, h12], ?_⟩
      refine (out_text W0 b B1 base w1 hG (by omega) (by omega)).mono ?_
      rintro r u2 ⟨rfl, hO⟩; exact ⟨_, rfl, rfl, by rw [HB2.out]; exact hO⟩
    refine OweAllC.cons (owesC_val 2 (by decide +kernel) (by decide) rfl rfl fun k' a w1 x hk ha hG hV => ?_) ?_
    · skip
      have h1 := ha.outer 1 (by decide +kernel)
      simp only [Act.eval] at h1
      exact ⟨.pointer (some ⟨g, 2, none⟩), wanted_free rfl, by simp [execOp, go_sem, h1], rfl⟩
    refine OweAllC.cons (owesC_val 2 (by decide +kernel) (by decide) rfl rfl fun k' a w1 x hk ha hG hV => ?_) ?_
    · skip
      have h14 : a.tmps.getD 14 undef = .pointer (some ⟨g, 2, none⟩) := hV.get 14 (by decide +kernel)
      have cc := (hbx _ hG.below).2.2.1
      exact ⟨.string ⟨fin.toArray⟩, wanted_free rfl, by simp [execOp, go_sem, h14, cc], rfl⟩
    refine OweAllC.cons (owesC_call 2 rfl rfl rfl 33 fun a w1 x ha hG hx hV => ?_) ?_
    · skip
      have h13 : a.tmps.getD 13 undef = .pointer (some ⟨b, 0, none⟩) := hV.get 13 (by decide +kernel)
      have h15 : a.tmps.getD 15 undef = .string ⟨fin.toArray⟩ := hV.get 15 (by decide +kernel)
      refine ⟨#[.pointer (some ⟨b, 0, none⟩), .string ⟨fin.toArray⟩], wanted_free rfl, by simp [execOp, resolve, invoke, go_sem, h13, h15], ?_⟩
      refine (out_text W0 b B2 fin w1 hG (by omega) (by omega)).mono ?_
      rintro r u2 ⟨rfl, hO⟩; exact ⟨_, rfl, rfl, by rw [HB3.out]; exact hO⟩
    exact OweAllC.nil
    ) ?_
  intro f wz xz hG hx hv
  first | (rename_i hK; refine hK _ _ ?_; clear hK) | (rename_i hK _; refine hK _ _ ?_; clear hK) | (rename_i hK _ _; refine hK _ _ ?_; clear hK) | (rename_i hK _ _ _; refine hK _ _ ?_; clear hK)
  clear hv hx
  simp only [dsts, puts, List.filterMap_cons, List.filterMap_nil, List.foldl_cons, List.foldl_nil, Act.put, List.setIfInBounds_toArray, List.set_cons_succ, List.set_cons_zero]
  have HO3 : Hid (OutSt W0 b B3 wz) := Lib.hid hG
  clear HG0 hG
  obtain ⟨c0, c1, c2, c3, c4⟩ := hbx wz HO3.out.below
  go_wp2_with fail
  refine (out_num W0 b B3 (n : Int) wz HO3.out (by omega) (by omega) (by omega)).mono ?_
  rintro r w3 ⟨rfl, hO⟩
  have HO4 : Hid (OutSt W0 b (B4 ++ sB (sg.take 0)) w3) := Lib.hid (by rw [HB4.out]; simpa [sB] using hO)
  clear hO HO3 c0 c1 c2 c3 c4
  obtain ⟨c0, c1, c2, c3, c4⟩ := hbx w3 HO4.out.below
  go_wp2_with fail
  clear c0 c1 c2 c3 c4
  go_loopw [24] (fun s24 wr => ∃ i : Nat, i ≤ n ∧ s24 = .int .i64 (i : Int) ∧ Hid (OutSt W0 b (B4 ++ sB (sg.take i)) wr)) (fun i _ => n - (intOf i).toNat)
  case atStart => exact ⟨0, Nat.zero_le _, rfl, HO4⟩
  case round =>
    clear HO4
    obtain ⟨i, hi, rfl, HO⟩ := hrel
    by_cases hlt : i < n
    · have hil : i < sg.length := by rw [← Hn.out]; exact hlt
      obtain ⟨bs, off, rfl, hbs, c1⟩ := (HS1.out.old (hlow.out _ HO.out.below)).int i hil
      have ht := sB_take sg i hil
      have hx := hrm.out _ (List.getElem_mem hil)
      have hln := sB_len (sg.take i) (fun x hx => by have := hrm.out x (List.mem_of_mem_take hx); omega)
      rw [List.length_take] at hln
      obtain ⟨x, hxe⟩ : ∃ x, x = sg[i] := ⟨_, rfl⟩
      rw [← hxe] at c1 ht hx
      obtain ⟨C, hC⟩ : ∃ C, C = B4 ++ sB (sg.take i) := ⟨_, rfl⟩
      have lC : C.length ≤ 5000 := by rw [hC, List.length_append]; omega
      have HN : Hid (B4 ++ sB (sg.take (i + 1)) = C ++ numL x) := Lib.hid (by rw [ht, hC, List.append_assoc])
      rw [← hC] at HO
      have i0' : (0 : Int) ≤ i := by omega
      have i1' : (i : Int) < n := by omega
      clear ht hln hxe hC hbs
      go_wp2_with fail
      refine (out_num W0 b C x wr HO.out (by omega) (by omega) (by omega)).mono ?_
      rintro r w4 ⟨rfl, hO⟩
      have HO5 : Hid (OutSt W0 b (B4 ++ sB (sg.take (i + 1))) w4) := Lib.hid (by rw [HN.out]; exact hO)
      clear hO HO HN
      go_wp2_with fail
      go_roundw
      case rel => exact ⟨i + 1, by omega, by go_num, HO5⟩
      case measure => simp [intOf]; omega
    · have e : i = n := by omega
      have i1' : ¬ (i : Int) < n := by omega
      have HO5 : Hid (OutSt W0 b B5 wr) := Lib.hid (by
        have h := HO.out
        rw [e, Hn.out, List.take_length, ← HB5.out] at h
        exact h)
      clear HO e
      obtain ⟨c0, c1, c2, c3, c4⟩ := hbx wr HO5.out.below
      go_wp2_with fail
      refine (out_num W0 b B5 (m0 : Int) wr HO5.out (by omega) (by omega) (by omega)).mono ?_
      rintro r w5 ⟨rfl, hO⟩
      have HO6 : Hid (OutSt W0 b (B6 ++ eB (ch.take 0)) w5) := Lib.hid (by rw [HB6.out]; simpa [eB] using hO)
      clear hO HO5 c0 c1 c2 c3 c4
      obtain ⟨c0, c1, c2, c3, c4⟩ := hbx w5 HO6.out.below
      go_wp2_with fail
      clear c0 c1 c2 c3 c4
      clear hlt hi i1'
      go_loopw [38] (fun s38 wr => ∃ i : Nat, i ≤ m0 ∧ s38 = .int .i64 (i : Int) ∧ Hid (OutSt W0 b (B6 ++ eB (ch.take i)) wr)) (fun i _ => m0 - (intOf i).toNat)
      case atStart => exact ⟨0, Nat.zero_le _, rfl, HO6⟩
      case round =>
        clear HO6
        obtain ⟨i, hi, rfl, HO⟩ := hrel
        by_cases hlt : i < m0
        · have hil : i < ch.length := by rw [← Hm.out]; exact hlt
          obtain ⟨bs, off, rfl, hbs, c1, c2⟩ := (HS2.out.old (hlow.out _ HO.out.below)).pair i hil
          have ht := eB_take ch i hil
          have hx := hgm.out _ (List.getElem_mem hil)
          have hln := eB_len (ch.take i) (fun x hx => by have := hgm.out x (List.mem_of_mem_take hx); omega)
          rw [List.length_take] at hln
          obtain ⟨m, hme⟩ : ∃ x, x = ch[i].1 := ⟨_, rfl⟩
          obtain ⟨y, hve⟩ : ∃ x, x = ch[i].2 := ⟨_, rfl⟩
          rw [← hme] at c1 ht hx
          rw [← hve] at c2 ht hx
          obtain ⟨C0, hC0⟩ : ∃ C, C = B6 ++ eB (ch.take i) := ⟨_, rfl⟩
          have lC : C0.length ≤ 6000 := by rw [hC0, List.length_append]; omega
          obtain ⟨C1, hC1⟩ : ∃ C, C = C0 ++ numL m := ⟨_, rfl⟩
          have lC1 : C1.length ≤ 6100 := by have := numL_len m (by omega); rw [hC1, List.length_append]; omega
          obtain ⟨C2, hC2⟩ : ∃ C, C = C1 ++ numL y := ⟨_, rfl⟩
          have HN : Hid (B6 ++ eB (ch.take (i + 1)) = C2) := Lib.hid (by rw [ht, hC2, hC1, hC0]; simp [List.append_assoc])
          rw [← hC0] at HO
          have HC1 := Lib.hid hC1
          have HC2 := Lib.hid hC2
          have i0' : (0 : Int) ≤ i := by omega
          have i1' : (i : Int) < m0 := by omega
          clear ht hln hme hve hC0 hC1 hC2 hbs
          go_upto_region 13 with fail
          obtain ⟨k, hk⟩ : ∃ k, k = wr.heap.size := ⟨_, rfl⟩
          have hrw : (wr.alloc (.cells #[.int .i64 m, .int .i64 y] 57)).heap[k]? = some (.cells #[.int .i64 m, .int .i64 y] 57 (0, 0)) := by rw [hk]; exact heap_alloc_new _ _
          rw [← hk]
          have HS3 := HO.out.old ((Below.refl wr.heap.size wr).alloc (Nat.le_refl _) (.cells #[.int .i64 m, .int .i64 y] 57))
          generalize wr.alloc (.cells #[.int .i64 m, .int .i64 y] 57) = WA at hrw HS3 ⊢
          have HG0 : Hid ((fun (j : Nat) (_ : Value) (w' : World) => OutSt W0 b (match j with | 0 => C0 | 1 => C1 | _ => C2) w' ∧ w'.heap[k]? = some (.cells #[.int .i64 m, .int .i64 y] 57 (0, 0))) 0 undef WA.drew) := Lib.hid ⟨HS3.old (Below.refl _ _).drew, ((Below.refl WA.heap.size WA).drew.block k (Array.getElem?_eq_some_iff.1 hrw).1).trans hrw⟩
          clear hrw HS3 HO hk
          refine wp_region_chain (fun t v => match t with
            | 42 => v = .pointer (some ⟨k, 0, none⟩)
            | 43 => v = .int .i64 m
            | 44 => v = .pointer (some ⟨b, 0, none⟩)
            | 45 => v = .pointer (some ⟨k, 1, none⟩)
            | 46 => v = .int .i64 y
            | 47 => v = .pointer (some ⟨b, 0, none⟩)
            | _ => True) (fun (j : Nat) (_ : Value) (w' : World) => OutSt W0 b (match j with | 0 => C0 | 1 => C1 | _ => C2) w' ∧ w'.heap[k]? = some (.cells #[.int .i64 m, .int .i64 y] 57 (0, 0))) [2, 5] 50 (by kernel_rfl) (by decide +kernel) rfl (by decide +kernel) (by decide) (by decide) HG0.out (by
            refine OweAllC.cons (owesC_val 0 (by decide +kernel) (by decide) rfl rfl fun k' a w1 x hk ha hG hV => ?_) ?_
            · skip
              have h7 := ha.outer 7 (by decide +kernel)
              simp only [Act.eval] at h7
              exact ⟨.pointer (some ⟨k, 0, none⟩), wanted_free rfl, by simp [execOp, go_sem, h7], rfl⟩
            refine OweAllC.cons (owesC_val 0 (by decide +kernel) (by decide) rfl rfl fun k' a w1 x hk ha hG hV => ?_) ?_
            · skip
              have h42 : a.tmps.getD 42 undef = .pointer (some ⟨k, 0, none⟩) := hV.get 42 (by decide +kernel)
              have cc : w1.cell? ⟨k, 0, none⟩ = _ := cell_of_row w1 k 0 _ 57 (0, 0) hG.2
              exact ⟨.int .i64 m, wanted_free rfl, by simp [execOp, go_sem, h42, cc], rfl⟩
            refine OweAllC.cons (owesC_call 0 rfl rfl rfl 32 fun a w1 x ha hG hx hV => ?_) ?_
            · skip
              have h3 := ha.outer 3 (by decide +kernel)
              simp only [Act.eval] at h3
              have h43 : a.tmps.getD 43 undef = .int .i64 m := hV.get 43 (by decide +kernel)
              refine ⟨#[.pointer (some ⟨b, 0, none⟩), .int .i64 m], wanted_free rfl, by simp [execOp, resolve, invoke, go_sem, h3, h43], ?_⟩
              refine (out_numW W0 b C0 m w1 hG.1 (by omega) (by omega) (by omega)).mono ?_
              rintro r u2 ⟨rfl, hO, hw⟩; exact ⟨_, rfl, rfl, by rw [HC1.out]; exact hO, hw.row hG.2 (by decide) (by decide) trivial⟩
            refine OweAllC.cons (owesC_val 1 (by decide +kernel) (by decide) rfl rfl fun k' a w1 x hk ha hG hV => ?_) ?_
            · skip
              have h7 := ha.outer 7 (by decide +kernel)
              simp only [Act.eval] at h7
              exact ⟨.pointer (some ⟨k, 1, none⟩), wanted_free rfl, by simp [execOp, go_sem, h7], rfl⟩
            refine OweAllC.cons (owesC_val 1 (by decide +kernel) (by decide) rfl rfl fun k' a w1 x hk ha hG hV => ?_) ?_
            · skip
              have h45 : a.tmps.getD 45 undef = .pointer (some ⟨k, 1, none⟩) := hV.get 45 (by decide +kernel)
              have cc : w1.cell? ⟨k, 1, none⟩ = _ := cell_of_row w1 k 1 _ 57 (0, 0) hG.2
              exact ⟨.int .i64 y, wanted_free rfl, by simp [execOp, go_sem, h45, cc], rfl⟩
            refine OweAllC.cons (owesC_call 1 rfl rfl rfl 32 fun a w1 x ha hG hx hV => ?_) ?_
            · skip
              have h44 : a.tmps.getD 44 undef = .pointer (some ⟨b, 0, none⟩) := hV.get 44 (by decide +kernel)
              have h46 : a.tmps.getD 46 undef = .int .i64 y := hV.get 46 (by decide +kernel)
              refine ⟨#[.pointer (some ⟨b, 0, none⟩), .int .i64 y], wanted_free rfl, by simp [execOp, resolve, invoke, go_sem, h44, h46], ?_⟩
              refine (out_numW W0 b C1 y w1 hG.1 (by omega) (by omega) (by omega)).mono ?_
              rintro r u2 ⟨rfl, hO, hw⟩; exact ⟨_, rfl, rfl, by rw [HC2.out]; exact hO, hw.row hG.2 (by decide) (by decide) trivial⟩
            exact OweAllC.nil
            ) ?_
          intro f wz xz hG hx hv
          first | (rename_i hK; refine hK _ _ ?_; clear hK) | (rename_i hK _; refine hK _ _ ?_; clear hK) | (rename_i hK _ _; refine hK _ _ ?_; clear hK) | (rename_i hK _ _ _; refine hK _ _ ?_; clear hK)
          clear hv hx
          simp only [dsts, puts, List.filterMap_cons, List.filterMap_nil, List.foldl_cons, List.foldl_nil, Act.put, List.setIfInBounds_toArray, List.set_cons_succ, List.set_cons_zero]
          have HO7 : Hid (OutSt W0 b (B6 ++ eB (ch.take (i + 1))) wz) := Lib.hid (by rw [HN.out]; exact hG.1)
          clear HG0 hG HN HC1 HC2
          go_wp2_with fail
          go_roundw
          case rel => exact ⟨i + 1, by omega, by go_num, HO7⟩
          case measure => simp [intOf]; omega
        · have e : i = m0 := by omega
          have i1' : ¬ (i : Int) < m0 := by omega
          have HO7 : Hid (OutSt W0 b F wr) := Lib.hid (by
            have h := HO.out
            rw [e, Hm.out, List.take_length, ← HF.out] at h
            exact h)
          clear HO e
          go_wp2_with fail
          refine (out_bytes W0 b F wr HO7.out).mono ?_
          rintro r w' ⟨rfl, rfl⟩
          go_wp2_with fail
          go_ret
          exact ⟨rfl, hlow.out _ HO7.out.below⟩
end Go.Proofs.YtmodikcghlbigaaDoor

namespace Go.Proofs.YtmodikcghlbigaaDoor
open Go.RowKit

set_option maxHeartbeats 400000 in
theorem turn_any (x n : Nat) (w : World) (hx : x < 4294967296) (hn : n ≤ 32) :
    Calls Tryd.prog 55 #[.int .u64 x, .int .i64 (n : Int)] w fun r w' => r = .returned (.int .u64 (rotr x n : Int)) ∧ w = w' := by
  obtain ⟨x0, hx0⟩ : ∃ x0, x0 = x := ⟨_, rfl⟩
  have hs : x = rotr x0 0 := by rw [hx0, rotr_zero]
  rw [← hx0] at hx ⊢
  go_enter Tryd.func55, Tryd.ntmps55
  go_wp2_with fail
  go_loopw [0, 5] (fun y i wr => ∃ k : Nat, k ≤ n ∧ y = .int .u64 (rotr x0 k : Int) ∧ i = .int .i64 k ∧ w = wr) (fun _ i _ => n - (intOf i).toNat)
  case atStart => exact ⟨0, by omega, by rw [rotr_zero], rfl, rfl⟩
  case round =>
    obtain ⟨k, hk, rfl, rfl, rfl⟩ := hrel
    by_cases hlt : k < n
    · have hsu := rotr_succ x0 k (by omega)
      have hr1 := rotr_lt x0 k hx (by omega)
      generalize rotr x0 k = y at hsu hr1
      have H := Lib.hid hsu
      have h1 : (k : Int) < n := by omega
      have y0 : (0 : Int) ≤ y := by omega
      have d1 : (y : Int).tdiv 2 = ((y / 2 : Nat) : Int) := by rw [Int.tdiv_eq_ediv_of_nonneg y0]; omega
      have d2 : (y : Int).tmod 2 = ((y % 2 : Nat) : Int) := by rw [Int.tmod_eq_emod_of_nonneg y0]; omega
      have b1 : y / 2 < 2147483648 := by omega
      have b2 : y % 2 < 2 := by omega
      generalize y / 2 = p at *
      generalize y % 2 = q at *
      clear hsu
      go_wp2_with fail
      go_roundw
      case rel => exact ⟨k + 1, by omega, by rw [H.out]; go_num, by go_num, trivial⟩
      case measure => simp [intOf]; omega
    · obtain rfl : k = n := by omega
      go_wp2_with fail
      go_ret
      exact ⟨rfl, rfl⟩
theorem div_pow_succ (x k : Nat) : x / 2 ^ (k + 1) = x / 2 ^ k / 2 := by rw [Nat.pow_succ, Nat.div_div_eq_div_mul]

set_option maxHeartbeats 400000 in
theorem down_any (x n : Nat) (w : World) (hx : x < 4294967296) (hn : n ≤ 32) :
    Calls Tryd.prog 56 #[.int .u64 x, .int .i64 (n : Int)] w fun r w' => r = .returned (.int .u64 ((x / 2 ^ n : Nat) : Int)) ∧ w = w' := by
  obtain ⟨f, hf⟩ : ∃ f : Nat → Nat, f = fun k => x / 2 ^ k := ⟨_, rfl⟩
  have f0 : x = f 0 := by rw [hf]; simp
  have fs : ∀ k, f (k + 1) = f k / 2 := by intro k; rw [hf]; exact div_pow_succ x k
  have fl : ∀ k, f k < 4294967296 := by intro k; rw [hf]; exact Nat.lt_of_le_of_lt (Nat.div_le_self _ _) hx
  have fn : x / 2 ^ n = f n := by rw [hf]
  rw [fn]
  have F0 := Lib.hid f0
  have Fs := Lib.hid fs
  clear hf f0 fs fn
  go_enter Tryd.func56, Tryd.ntmps56
  go_wp2_with fail
  go_loopw [0, 5] (fun y i wr => ∃ k : Nat, k ≤ n ∧ y = .int .u64 (f k : Int) ∧ i = .int .i64 k ∧ w = wr) (fun _ i _ => n - (intOf i).toNat)
  case atStart => exact ⟨0, by omega, by rw [← F0.out], rfl, rfl⟩
  case round =>
    obtain ⟨k, hk, rfl, rfl, rfl⟩ := hrel
    by_cases hlt : k < n
    · have hsu := Fs.out k
      have hr1 := fl k
      generalize f k = y at hsu hr1
      have H := Lib.hid hsu
      have h1 : (k : Int) < n := by omega
      have y0 : (0 : Int) ≤ y := by omega
      have d1 : (y : Int).tdiv 2 = ((y / 2 : Nat) : Int) := by rw [Int.tdiv_eq_ediv_of_nonneg y0]; omega
      have b1 : y / 2 < 2147483648 := by omega
      generalize y / 2 = p at *
      clear hsu
      go_wp2_with fail
      go_roundw
      case rel => exact ⟨k + 1, by omega, by rw [H.out], by go_num, trivial⟩
      case measure => simp [intOf]; omega
    · obtain rfl : k = n := by omega
      go_wp2_with fail
      go_ret
      exact ⟨rfl, rfl⟩

set_option maxHeartbeats 400000 in
set_option maxRecDepth 100000 in
theorem keys_any (w : World) :
    Calls Tryd.prog 54 #[] w fun r w' => r = .returned (.slice (some ⟨w.heap.size, 0, none⟩) 64 64) ∧ Mod (fun _ => False) w w' ∧ RowAt .u64 97 w' w.heap.size kTab := by
  go_enter Tryd.func54, Tryd.ntmps54
  go_wp2_with fail
  generalize hW : w.alloc _ = W
  have h1 : Mod (fun _ => False) w W ∧ RowAt .u64 97 W w.heap.size kTab := by rw [← hW]; exact ⟨(Mod.refl _ _).alloc _, heap_alloc_new _ _⟩
  clear hW
  go_ret
  exact ⟨rfl, h1⟩
end Go.Proofs.YtmodikcghlbigaaDoor

namespace Go.Proofs.YtmodikcghlbigaaDoor

theorem absorb_app (a b : List Nat) : absorb (a ++ b) = b.foldl absorb1 (absorb a) := by simp [absorb]

theorem fold_part (b : List Nat) (s : List Nat × List Nat) (h : s.2.length + b.length < 64) : b.foldl absorb1 s = (s.1, s.2 ++ b) := by
  induction b generalizing s with
  | nil => simp
  | cons x b ih =>
    rw [List.length_cons] at h
    rw [List.foldl_cons, absorb1, if_neg (by omega), ih _ (by simp; omega)]
    simp

/-- A whole block more. -/
theorem fold_block (b H : List Nat) (h : b.length = 64) : b.foldl absorb1 (H, []) = (block H b, []) := by
  have hne : b ≠ [] := by intro e; rw [e] at h; simp at h
  obtain ⟨c, x, rfl⟩ : ∃ c x, b = c ++ [x] := ⟨b.dropLast, b.getLast hne, (List.dropLast_concat_getLast hne).symm⟩
  have hl : c.length = 63 := by simp at h; omega
  rw [List.foldl_append, fold_part c (H, []) (by simp; omega), List.nil_append, List.foldl_cons, List.foldl_nil, absorb1, if_pos (by simp; omega)]

theorem absorb_whole (m : List Nat) (h : m.length % 64 = 0) : (absorb m).2 = [] := by
  have := absorb_buf m; rw [h] at this; exact List.eq_nil_of_length_eq_zero this

/-- The words behind j blocks. -/
def wordsAt (m : List Nat) (j : Nat) : List Nat := (absorb (m.take (64 * j))).1
theorem wordsAt_zero (m : List Nat) : wordsAt m 0 = hTab := by simp [wordsAt, absorb]
def chunk (m : List Nat) (j : Nat) : List Nat := (m.drop (64 * j)).take 64
theorem chunk_len (m : List Nat) (j : Nat) (h : 64 * (j + 1) ≤ m.length) : (chunk m j).length = 64 := by simp [chunk]; omega
theorem chunk_at (m : List Nat) (j i : Nat) (hi : i < 64) : (chunk m j).getD i 0 = m.getD (64 * j + i) 0 := by
  simp [chunk, List.getD, List.getElem?_drop, hi]
theorem wordsAt_succ (m : List Nat) (j : Nat) (h : 64 * (j + 1) ≤ m.length) : wordsAt m (j + 1) = block (wordsAt m j) (chunk m j) := by
  have e : m.take (64 * (j + 1)) = m.take (64 * j) ++ chunk m j := by
    rw [chunk, show 64 * (j + 1) = 64 * j + 64 by omega, List.take_add]
  have hb : (absorb (m.take (64 * j))).2 = [] := absorb_whole _ (by rw [List.length_take]; omega)
  unfold wordsAt
  rw [e, absorb_app, show absorb (m.take (64 * j)) = ((absorb (m.take (64 * j))).1, []) by rw [← hb], fold_block _ _ (chunk_len m j h)]
theorem wordsAt_len (m : List Nat) (j : Nat) : (wordsAt m j).length = 8 := absorb_words _
theorem wordsAt_lt (m : List Nat) (j : Nat) : ∀ x ∈ wordsAt m j, x < 4294967296 := absorb_lt _
theorem wordsAt_end (m : List Nat) (j : Nat) (h : 64 * j = m.length) : (absorb m).1 = wordsAt m j := by
  unfold wordsAt; rw [List.take_of_length_le (by omega)]

theorem padded_len (m : List Nat) : (padded m).length % 64 = 0 := by
  simp only [padded, List.length_append, List.length_singleton, List.length_replicate, lenBytes_len, zeros]
  omega
theorem padded_lt (m : List Nat) (h : ∀ x ∈ m, x < 256) : ∀ x ∈ padded m, x < 256 := by
  intro x hx
  simp only [padded, List.mem_append, List.mem_singleton] at hx
  rcases hx with ((hx | hx) | hx) | hx
  · exact h x hx
  · omega
  · rw [List.eq_of_mem_replicate hx]; omega
  · obtain ⟨i, _, rfl⟩ := List.mem_map.1 hx; exact Nat.mod_lt _ (by decide)

/-- The length's bytes from behind. -/
theorem lenBytes_from (n k : Nat) (hk : k < 8) : (lenBytes n 8).drop (7 - k) = (n * 8 / 256 ^ k % 256) :: (lenBytes n 8).drop (8 - k) := by
  have hl := lenBytes_len n 8
  rw [List.drop_eq_getElem_cons (by omega), show 7 - k + 1 = 8 - k by omega]
  congr 1
  simp only [lenBytes, List.getElem_map, List.getElem_range]
  rw [show 7 - (7 - k) = k by omega, Nat.pow_mul]

/-- The words of a block by one sum. -/
theorem sched_next (L : List Nat) (n : Nat) (h : 16 ≤ n) : schedTo L (n + 1) = schedTo L n ++ [((schedTo L n).getD (n - 16) 0 + s0 ((schedTo L n).getD (n - 15) 0) + (schedTo L n).getD (n - 7) 0 + s1 ((schedTo L n).getD (n - 2) 0)) % 4294967296] := by
  show schedTo L n ++ [_] = _
  rw [if_neg (by omega)]
  congr 2
  generalize (schedTo L n).getD (n - 16) 0 = a
  generalize s0 _ = b
  generalize (schedTo L n).getD (n - 7) 0 = c
  generalize s1 _ = d
  omega
theorem sched_first (L : List Nat) (n : Nat) (h : n < 16) : schedTo L (n + 1) = schedTo L n ++ [w16 L n] := by
  show schedTo L n ++ [_] = _
  rw [if_pos h]

theorem tOf_sum (v : V) (k w : Nat) : tOf v k w = (v.h + S1 v.e + ch v.e v.f v.g + k + w) % 4294967296 := by
  unfold tOf
  generalize S1 _ = a
  generalize ch _ _ _ = b
  omega

/-- A word's four bytes. -/
def four (x : Nat) : List Nat := [x / 16777216 % 256, x / 65536 % 256, x / 256 % 256, x % 256]
theorem outTo_four (H : List Nat) (k : Nat) : outTo H (4 * (k + 1)) = outTo H (4 * k) ++ four (H.getD k 0) := by
  rw [show 4 * (k + 1) = 4 * k + 1 + 1 + 1 + 1 by omega, outTo_succ, outTo_succ, outTo_succ, outTo_succ]
  rw [show (4 * k + 1 + 1 + 1) / 4 = k by omega, show (4 * k + 1 + 1) / 4 = k by omega, show (4 * k + 1) / 4 = k by omega, show 4 * k / 4 = k by omega,
    show (4 * k + 1 + 1 + 1) % 4 = 3 by omega, show (4 * k + 1 + 1) % 4 = 2 by omega, show (4 * k + 1) % 4 = 1 by omega, show 4 * k % 4 = 0 by omega]
  simp [four]
end Go.Proofs.YtmodikcghlbigaaDoor

namespace Go.Proofs.YtmodikcghlbigaaDoor
open Go.RowKit

/-- A row of words, owned, from B on. -/
def W64 (B : Nat) (w : World) (g cap : Nat) (A : List Nat) : Prop := w.ownsRow B 97 1 (.slice (some ⟨g, 0, none⟩) A.length cap) A.length (nums .u64 A)

theorem W64.row {B : Nat} {w : World} {g cap : Nat} {A : List Nat} (h : W64 B w g cap A) :
    B ≤ g ∧ ∃ cur, w.heap[g]? = some (.cells cur 97 (0, 0)) ∧ A.length ≤ cap ∧ cap ≤ maxLen ∧ cur.size = cap ∧ cur.toList.take A.length = nums .u64 A := by
  rcases h.2 with ⟨h, _⟩ | ⟨g', cap', cur, e, hb, hh, h1, h2, h3, h4⟩
  · cases h
  · simp only [Value.slice.injEq, Option.some.injEq, Addr.mk.injEq] at e
    obtain ⟨⟨rfl, _, _⟩, _, rfl⟩ := e
    exact ⟨hb, cur, hh, h1, h2, by simpa using h3, by simpa using h4⟩
theorem W64.lo {B : Nat} {w : World} {g cap : Nat} {A : List Nat} (h : W64 B w g cap A) : B ≤ g := h.row.1
theorem W64.lt {B : Nat} {w : World} {g cap : Nat} {A : List Nat} (h : W64 B w g cap A) : g < w.heap.size := by
  obtain ⟨_, cur, hh, _⟩ := h.row; exact (Array.getElem?_eq_some_iff.1 hh).1
theorem W64.cell {B : Nat} {w : World} {g cap : Nat} {A : List Nat} (h : W64 B w g cap A) (i : Nat) (hi : i < A.length) : w.cell? ⟨g, i, none⟩ = some (.int .u64 (A[i]'hi)) := by
  obtain ⟨_, cur, hh, _, _, _, ht⟩ := h.row
  rw [cell_of_row w g i _ 97 (0, 0) hh]
  have := nums_get .u64 A i hi
  rw [← ht, List.getElem?_take_of_lt hi] at this
  simpa using this
theorem W64.kept {B : Nat} {w w' : World} {g cap : Nat} {A : List Nat} {S : Nat → Prop} (h : W64 B w g cap A) (hm : Mod S w w') (hg : ¬ S g) : W64 B w' g cap A := by
  obtain ⟨hb, cur, hh, h1, h2, h3, h4⟩ := h.row
  exact ⟨h.1, .inr ⟨g, cap, cur, rfl, hb, (hm.block g h.lt hg).trans hh, h1, h2, by simpa using h3, by simpa using h4⟩⟩
theorem W64.fresh {B : Nat} (w : World) (A : List Nat) (hB : B ≤ w.heap.size) (hl : A.length ≤ maxLen) : W64 B (w.alloc (.cells (nums .u64 A).toArray 97 (0, 0))) w.heap.size A.length A :=
  ⟨by simp [nums_len], .inr ⟨_, _, _, rfl, hB, heap_alloc_new _ _, Nat.le_refl _, hl, by simp [nums_len], by simp [nums, List.take_of_length_le]⟩⟩

/-- What the document's own answer has laid by: its words, and the rounds' words. -/
structure RefAt (w : World) (gh gk B : Nat) (H : List Nat) (wr : World) : Prop where
  m : Mod (fun _ => False) w wr
  h : RowAt .u64 97 wr gh H
  k : RowAt .u64 97 wr gk kTab
  lo : w.heap.size ≤ gh
  hb : gh < B
  kb : gk < B
  ne : gh ≠ gk
  b : B ≤ wr.heap.size
theorem RefAt.step {w : World} {gh gk B : Nat} {H : List Nat} {wr w' : World} (r : RefAt w gh gk B H wr) (hm : Mod (fun i => B ≤ i) wr w') : RefAt w gh gk B H w' :=
  ⟨r.m.trans hm (by intro i hi h; have := r.lo; have := r.hb; omega), r.h.kept hm (by have := r.hb; omega), r.k.kept hm (by have := r.kb; omega), r.lo, r.hb, r.kb, r.ne, Nat.le_trans r.b hm.size⟩
theorem RefAt.set {w : World} {gh gk B : Nat} {H : List Nat} {wr : World} (r : RefAt w gh gk B H wr) (i x : Nat) : RefAt w gh gk B (H.set i x) (wr.setCell ⟨gh, i, none⟩ (.int .u64 x)) := by
  have hm : Mod (· = gh) wr (wr.setCell ⟨gh, i, none⟩ (.int .u64 x)) := (Mod.refl (· = gh) _).setCell (p := ⟨gh, i, none⟩) (fun _ => rfl) _
  have := r.lo; have := r.ne
  exact ⟨r.m.trans hm (by intro i hi h; omega), r.h.set i x, r.k.kept hm (by omega), r.lo, r.hb, r.kb, r.ne, Nat.le_trans r.b hm.size⟩
/-- A word more behind an owned row. -/
theorem W64.push {B : Nat} {w w' : World} {g g' cap cap' : Nat} {A : List Nat} {x : Nat} (_ : W64 B w g cap A)
    (ho : w'.ownsRow B 97 1 (.slice (some ⟨g', 0, none⟩) (A.length + 1) cap') (A.length + 1) (nums .u64 A ++ [.int .u64 x])) : W64 B w' g' cap' (A ++ [x]) := by
  unfold W64
  rw [List.length_append, List.length_singleton, show nums .u64 (A ++ [x]) = nums .u64 A ++ [.int .u64 x] by simp [nums]]
  exact ho
/-- A word while it is read. -/
def wpart (L : List Nat) (i : Nat) : Nat → Nat
  | 0 => 0
  | t + 1 => wpart L i t * 256 + L.getD (4 * i + t) 0
theorem wpart_four (L : List Nat) (i : Nat) : wpart L i 4 = w16 L i := by
  simp only [wpart, Nat.add_zero, Nat.zero_mul, Nat.zero_add]; unfold w16; omega
theorem wpart_lt (L : List Nat) (hL : ∀ x ∈ L, x < 256) (i t : Nat) (ht : t ≤ 4) : wpart L i t < 256 ^ t := by
  induction t with
  | zero => exact Nat.one_pos
  | succ t ih =>
    have h := ih (by omega)
    have hd : L.getD (4 * i + t) 0 < 256 := by
      by_cases hj : 4 * i + t < L.length
      · rw [getD_at _ _ hj]; exact hL _ (List.getElem_mem _)
      · simp [List.getD, List.getElem?_eq_none (Nat.le_of_not_lt hj)]
    show wpart L i t * 256 + _ < _
    rw [Nat.pow_succ]; omega

theorem str_index (A : List Nat) (hA : ∀ x ∈ A, x < 256) (n : Nat) (hn : n < A.length) (z : Int) (hz : z = (n : Int)) (w : World) :
    (Instr.index 9 (.string (bytesOf A)) (.int .i64 z)).run Tryd.prog w = .ok (.int .u8 ((A.getD n 0 : Nat) : Int)) w := by
  subst hz
  have h1 : (0 : Int) ≤ n ∧ (n : Int) < ((bytesOf A).size : Nat) := by rw [bytesOf_size]; omega
  have e : (bytesOf A).data[n]? = some (UInt8.ofNat A[n]) := by simp [bytesOf, hn]
  have hb : A[n] < 256 := hA _ (List.getElem_mem _)
  unfold Instr.index
  simp only [asIntOf, Sem.run_bind, Sem.run_pure, Result.andThen_ok]
  rw [getD_at _ _ hn]
  have h0 : (0 : Int) ≤ n := by omega
  have e' : (bytesOf A)[n]? = some (UInt8.ofNat A[n]) := e
  rw [run_underlying Tryd.underlying9]
  simp only [Result.andThen_ok, if_pos h0, Int.toNat_natCast]
  rw [e']
  simp only [Sem.run_pure]
  rw [UInt8.toNat_ofNat_of_lt' hb]

set_option maxRecDepth 100000 in
theorem info39 : ∃ i z, Tryd.prog.info? 97 = some i ∧ i.zero = some z ∧ i.size = 1 ∧ i.bytes = 8 ∧ z.cells.size = 1 := by
  refine ⟨_, _, rfl, rfl, ?_, ?_, ?_⟩ <;> kernel_rfl

/-- An append of one word. -/
theorem wpList_push64 {ops : Array Oper} {rest : List Oper} {o : Oper} {a : Act} {Q : Exit → Act → World → Prop} {w : World} (hgd : o.guard = none) (s x : Operand)
    (ho : o.op = .call { callee := .builtin .append, args := #[s, x], argTypes := #[102, 102] }) (B g cap n y : Nat) (A : List Nat) (hn : A.length = n)
    (hs : a.eval s = .slice (some ⟨g, 0, none⟩) n cap) (hV : W64 B w g cap A) (hx : a.eval x = .slice (some ⟨w.heap.size, 0, none⟩) 1 1) (hl : n ≤ 1000) (hB : B ≤ w.heap.size)
    (h : ∀ g' cap' w', W64 B w' g' cap' (A ++ [y]) → Mod (fun i => B ≤ i) w w' → wpList Tryd.prog ops Q rest (a.put o.dst (.slice (some ⟨g', 0, none⟩) (n + 1) cap')) w') :
    wpList Tryd.prog ops Q (o :: rest) a (w.alloc (.cells #[.int .u64 (y : Int)] 97)) := by
  obtain ⟨i, z, hi, hz, h1, h2, h3⟩ := info39
  subst hn
  have hVo := (hV.kept ((Mod.refl (fun _ => False) w).alloc (.cells #[.int .u64 (y : Int)] 97)) (fun h => h))
  refine wpList_append_lies _ hgd s x 102 ho B 97 i z 1 8 Tryd.underlying102 hi hz h1 h2 h3 (by decide) _ A.length (nums .u64 A) hs hVo ⟨w.heap.size, 0, none⟩ 1 1 [.int .u64 (y : Int)] hx rfl (cell_one_new _ _ _) (by intro u hu; simp at hu; subst hu; rfl) (by omega) (by unfold maxLen; omega) (by omega) (by simp; omega) _ rfl ?_
  intro g' cap' w' hown hgrow hg' hlt
  have hlo := hV.lo
  refine h g' cap' w' (hV.push hown) (((Mod.refl (fun i => B ≤ i) w).alloc _).grown hgrow ?_)
  intro k hk _
  simp [Value.ownBlock] at hk
  omega

theorem turn_q (x n : Nat) (w : World) (hx : x < 4294967296) (h2 : n ≤ 32) :
    Calls Tryd.prog 55 #[.int .u64 x, .int .i64 (n : Int)] w fun r w' => r = .returned (.int .u64 (rotr x n : Int)) ∧ w' = w :=
  (turn_any x n w hx h2).mono fun _ _ ⟨a, b⟩ => ⟨a, b.symm⟩
theorem down3_q (x : Nat) (w : World) (hx : x < 4294967296) :
    Calls Tryd.prog 56 #[.int .u64 x, .int .i64 3] w fun r w' => r = .returned (.int .u64 ((x / 8 : Nat) : Int)) ∧ w' = w :=
  (down_any x 3 w hx (by omega)).mono fun _ _ ⟨a, b⟩ => ⟨a, b.symm⟩
theorem down10_q (x : Nat) (w : World) (hx : x < 4294967296) :
    Calls Tryd.prog 56 #[.int .u64 x, .int .i64 10] w fun r w' => r = .returned (.int .u64 ((x / 1024 : Nat) : Int)) ∧ w' = w :=
  (down_any x 10 w hx (by omega)).mono fun _ _ ⟨a, b⟩ => ⟨a, b.symm⟩

theorem x64 (a b : Nat) (ha : a < 4294967296) (hb : b < 4294967296) : bits BinOp.xor IntKind.u64 (a : Int) (b : Int) = ((a ^^^ b : Nat) : Int) := u64_xor_nat _ _ (by omega) (by omega)
theorem n64 (a b : Nat) (ha : a < 4294967296) (hb : b < 4294967296) : bits BinOp.and IntKind.u64 (a : Int) (b : Int) = ((a &&& b : Nat) : Int) := u64_and_nat _ _ (by omega) (by omega)
theorem s0_facts (x : Nat) (hx : x < 4294967296) : ∃ r z : Nat, Hid (z = s0 x) ∧ z < 4294967296 ∧ bits BinOp.xor IntKind.u64 (rotr x 7 : Int) (rotr x 18 : Int) = (r : Int) ∧ bits BinOp.xor IntKind.u64 (r : Int) ((x : Int) / 8) = (z : Int) :=
  ⟨rotr x 7 ^^^ rotr x 18, _, rfl, s0_lt x hx, x64 _ _ (rotr_lt x 7 hx (by decide)) (rotr_lt x 18 hx (by decide)), by rw [show (x : Int) / 8 = ((x / 8 : Nat) : Int) by omega]; exact x64 _ _ (xor_lt _ _ (rotr_lt x 7 hx (by decide)) (rotr_lt x 18 hx (by decide))) (by omega)⟩
theorem s1_facts (x : Nat) (hx : x < 4294967296) : ∃ r z : Nat, Hid (z = s1 x) ∧ z < 4294967296 ∧ bits BinOp.xor IntKind.u64 (rotr x 17 : Int) (rotr x 19 : Int) = (r : Int) ∧ bits BinOp.xor IntKind.u64 (r : Int) ((x : Int) / 1024) = (z : Int) :=
  ⟨rotr x 17 ^^^ rotr x 19, _, rfl, s1_lt x hx, x64 _ _ (rotr_lt x 17 hx (by decide)) (rotr_lt x 19 hx (by decide)), by rw [show (x : Int) / 1024 = ((x / 1024 : Nat) : Int) by omega]; exact x64 _ _ (xor_lt _ _ (rotr_lt x 17 hx (by decide)) (rotr_lt x 19 hx (by decide))) (by omega)⟩

theorem step_push64 {ops : Array Oper} {o : Oper} {a : Act} {K : Act → World → Prop} {Q : Exit → Act → World → Prop} {E : Prop} {w : World} (hgd : o.guard = none) (s x : Operand)
    (ho : o.op = .call { callee := .builtin .append, args := #[s, x], argTypes := #[102, 102] }) (B g cap n y : Nat) (A : List Nat) (hn : A.length = n)
    (hs : a.eval s = .slice (some ⟨g, 0, none⟩) n cap) (hV : W64 B w g cap A) (hx : a.eval x = .slice (some ⟨w.heap.size, 0, none⟩) 1 1) (hl : n ≤ 1000) (hB : B ≤ w.heap.size)
    (h : ∀ g' cap' w', W64 B w' g' cap' (A ++ [y]) → Mod (fun i => B ≤ i) w w' → K (a.put o.dst (.slice (some ⟨g', 0, none⟩) (n + 1) cap')) w') :
    if Region.wanted o (yielded ops a.tmps) = true then Oper.wp Tryd.prog o a (w.alloc (.cells #[.int .u64 (y : Int)] 97)) K Q else E := by
  obtain ⟨i, z, hi, hz, h1, h2, h3⟩ := info39
  subst hn
  have hVo := (hV.kept ((Mod.refl (fun _ => False) w).alloc (.cells #[.int .u64 (y : Int)] 97)) (fun h => h))
  refine step_append_lies _ hgd s x 102 ho B 97 i z 1 8 Tryd.underlying102 hi hz h1 h2 h3 (by decide) _ A.length (nums .u64 A) hs hVo ⟨w.heap.size, 0, none⟩ 1 1 [.int .u64 (y : Int)] hx rfl (cell_one_new _ _ _) (by intro u hu; simp at hu; subst hu; rfl) (by omega) (by unfold maxLen; omega) (by omega) (by simp; omega) _ rfl ?_
  intro g' cap' w' hown hgrow hg' hlt
  have hlo := hV.lo
  refine h g' cap' w' (hV.push hown) (((Mod.refl (fun i => B ≤ i) w).alloc _).grown hgrow ?_)
  intro k hk _
  simp [Value.ownBlock] at hk
  omega

end Go.Proofs.YtmodikcghlbigaaDoor

namespace Go.Proofs.YtmodikcghlbigaaDoor
open Go.RowKit

/-- A row of words appended to an owned empty row. -/
theorem wpList_clone64 {ops : Array Oper} {rest : List Oper} {o : Oper} {a : Act} {Q : Exit → Act → World → Prop} {w : World} (hgd : o.guard = none) (s x : Operand)
    (ho : o.op = .call { callee := .builtin .append, args := #[s, x], argTypes := #[102, 102] }) (B g cap gh m c : Nat) (A : List Nat) (hm : A.length = m) (h0 : 0 < m)
    (hs : a.eval s = .slice (some ⟨g, 0, none⟩) 0 cap) (hV : W64 B w g cap []) (hR : RowAt .u64 97 w gh A) (hx : a.eval x = .slice (some ⟨gh, 0, none⟩) m c) (hl : m ≤ 1000) (hB : B ≤ w.heap.size)
    (h : ∀ g' cap' w', W64 B w' g' cap' A → Mod (· = g) w w' → wpList Tryd.prog ops Q rest (a.put o.dst (.slice (some ⟨g', 0, none⟩) m cap')) w') :
    wpList Tryd.prog ops Q (o :: rest) a w := by
  obtain ⟨i, z, hi, hz, h1, h2, h3⟩ := info39
  subst hm
  have hlo := hV.lo
  have hV0 : w.ownsRow B 97 1 (.slice (some ⟨g, 0, none⟩) 0 cap) 0 [] := hV
  refine wpList_append_lies _ hgd s x 102 ho B 97 i z 1 8 Tryd.underlying102 hi hz h1 h2 h3 (by decide) _ 0 [] hs hV0 ⟨gh, 0, none⟩ A.length c (nums .u64 A) hx (by simp [nums_len]) ?_ (nums_one _ _) h0 (by unfold maxLen; omega) (by omega) hB _ rfl ?_
  · intro j u hj
    have hjl : j < A.length := by
      have := List.getElem?_eq_some_iff.1 hj
      obtain ⟨hlt, _⟩ := this
      rwa [nums_len] at hlt
    rw [nums_get .u64 A j hjl] at hj
    cases hj
    have hadd : (⟨gh, 0, none⟩ : Addr).add j = ⟨gh, j, none⟩ := by unfold Addr.add; split <;> simp_all
    rw [hadd]
    exact hR.cell j hjl
  · intro g' cap' w' hown hgrow _ _
    have e0 : 0 + A.length = A.length := Nat.zero_add _
    rw [e0, List.nil_append] at hown
    rw [e0]
    refine h g' cap' w' hown ((Mod.refl (· = g) w).grown hgrow ?_)
    intro k hk _
    simp [Value.ownBlock] at hk
    exact hk.symm

/-- An append of one word that lies somewhere. -/
theorem push64_wp {o : Oper} {a : Act} {K : Act → World → Prop} {Q : Exit → Act → World → Prop} {w : World} (s x : Operand)
    (ho : o.op = .call { callee := .builtin .append, args := #[s, x], argTypes := #[102, 102] }) (B g cap n y b : Nat) (A : List Nat) (hn : A.length = n)
    (hs : a.eval s = .slice (some ⟨g, 0, none⟩) n cap) (hV : W64 B w g cap A) (hx : a.eval x = .slice (some ⟨b, 0, none⟩) 1 1) (hc : w.cell? ⟨b, 0, none⟩ = some (.int .u64 (y : Int))) (hl : n ≤ 1000) (hB : B ≤ w.heap.size)
    (h : ∀ g' cap' w', W64 B w' g' cap' (A ++ [y]) → Mod (fun i => B ≤ i) w w' → K (a.put o.dst (.slice (some ⟨g', 0, none⟩) (n + 1) cap')) w') : o.wp Tryd.prog a w K Q := by
  obtain ⟨i, z, hi, hz, h1, h2, h3⟩ := info39
  subst hn
  have hVo : w.ownsRow B 97 1 (.slice (some ⟨g, 0, none⟩) A.length cap) A.length (nums .u64 A) := hV
  refine wp_append_lies w s x 102 ho B 97 i z 1 8 Tryd.underlying102 hi hz h1 h2 h3 (by decide) _ A.length (nums .u64 A) hs hVo ⟨b, 0, none⟩ 1 1 [.int .u64 (y : Int)] hx rfl ?_ (by intro u hu; simp at hu; subst hu; rfl) (by omega) (by unfold maxLen; omega) (by omega) hB _ rfl ?_
  · intro j u hj
    match j, hj with
    | 0, hj =>
      simp only [List.getElem?_cons_zero, Option.some.injEq] at hj
      subst hj
      exact hc
  · intro g' cap' w' hown hgrow hg' hlt
    have hlo := hV.lo
    refine h g' cap' w' (hV.push hown) ((Mod.refl (fun i => B ≤ i) w).grown hgrow ?_)
    intro k hk _
    simp [Value.ownBlock] at hk
    omega

theorem S1_facts (e : Nat) (he : e < 4294967296) : ∃ r z : Nat, Hid (z = S1 e) ∧ z < 4294967296 ∧ bits BinOp.xor IntKind.u64 (rotr e 6 : Int) (rotr e 11 : Int) = (r : Int) ∧ bits BinOp.xor IntKind.u64 (r : Int) (rotr e 25 : Int) = (z : Int) :=
  ⟨_, _, rfl, S1_lt e he, x64 _ _ (rotr_lt e 6 he (by decide)) (rotr_lt e 11 he (by decide)), x64 _ _ (xor_lt _ _ (rotr_lt e 6 he (by decide)) (rotr_lt e 11 he (by decide))) (rotr_lt e 25 he (by decide))⟩
theorem S0_facts (a : Nat) (ha : a < 4294967296) : ∃ r z : Nat, Hid (z = S0 a) ∧ z < 4294967296 ∧ bits BinOp.xor IntKind.u64 (rotr a 2 : Int) (rotr a 13 : Int) = (r : Int) ∧ bits BinOp.xor IntKind.u64 (r : Int) (rotr a 22 : Int) = (z : Int) :=
  ⟨_, _, rfl, S0_lt a ha, x64 _ _ (rotr_lt a 2 ha (by decide)) (rotr_lt a 13 ha (by decide)), x64 _ _ (xor_lt _ _ (rotr_lt a 2 ha (by decide)) (rotr_lt a 13 ha (by decide))) (rotr_lt a 22 ha (by decide))⟩
theorem ch_facts (e f g : Nat) (be : e < 4294967296) (bf : f < 4294967296) (bg : g < 4294967296) : ∃ n1 ne n2 z : Nat, Hid (z = ch e f g) ∧ z < 4294967296 ∧ bits BinOp.and IntKind.u64 (e : Int) (f : Int) = (n1 : Int) ∧
    (4294967295 - (e : Int)) = (ne : Int) ∧ IntKind.u64.wrap (4294967295 - (e : Int)) = (ne : Int) ∧ bits BinOp.and IntKind.u64 (ne : Int) (g : Int) = (n2 : Int) ∧ bits BinOp.xor IntKind.u64 (n1 : Int) (n2 : Int) = (z : Int) :=
  ⟨_, 4294967295 - e, _, _, rfl, ch_lt e f g bf bg, n64 _ _ be bf, by omega, by rw [IntKind.wrap_u64]; omega, n64 _ _ (by omega) bg, x64 _ _ (and_lt _ _ bf) (and_lt _ _ bg)⟩
theorem maj_facts (a b c : Nat) (ba : a < 4294967296) (bb : b < 4294967296) (bc : c < 4294967296) : ∃ p q r s z : Nat, Hid (z = maj a b c) ∧ z < 4294967296 ∧ bits BinOp.and IntKind.u64 (a : Int) (b : Int) = (p : Int) ∧
    bits BinOp.and IntKind.u64 (a : Int) (c : Int) = (q : Int) ∧ bits BinOp.and IntKind.u64 (b : Int) (c : Int) = (r : Int) ∧ bits BinOp.xor IntKind.u64 (p : Int) (q : Int) = (s : Int) ∧ bits BinOp.xor IntKind.u64 (s : Int) (r : Int) = (z : Int) :=
  ⟨_, _, _, _, _, rfl, maj_lt a b c bb bc, n64 _ _ ba bb, n64 _ _ ba bc, n64 _ _ bb bc, x64 _ _ (and_lt _ _ bb) (and_lt _ _ bc), x64 _ _ (xor_lt _ _ (and_lt _ _ bb) (and_lt _ _ bc)) (and_lt _ _ bc)⟩

theorem toV_list (H : List Nat) (h : H.length = 8) : (toV H).list = H := by
  apply List.ext_getElem
  · rw [h]; rfl
  · intro i h1 h2
    have hi : i < 8 := by rw [← h]; exact h2
    have key : ∀ j, j < 8 → (toV H).list[j]? = some (H.getD j 0) := by
      intro j hj
      match j, hj with
      | 0, _ => rfl
      | 1, _ => rfl
      | 2, _ => rfl
      | 3, _ => rfl
      | 4, _ => rfl
      | 5, _ => rfl
      | 6, _ => rfl
      | 7, _ => rfl
    have k := key i hi
    rw [List.getElem?_eq_getElem h1, getD_at _ _ h2] at k
    exact Option.some.inj k
theorem toV_ok (H : List Nat) (h : H.length = 8) (hb : ∀ x ∈ H, x < 4294967296) : (toV H).ok := by
  have key : ∀ j, j < 8 → H.getD j 0 < 4294967296 := by
    intro j hj; rw [getD_at _ _ (by omega)]; exact hb _ (List.getElem_mem _)
  exact ⟨key 0 (by decide), key 1 (by decide), key 2 (by decide), key 3 (by decide), key 4 (by decide), key 5 (by decide), key 6 (by decide), key 7 (by decide)⟩

/-- A round's memory. -/
structure Rel7 (w : World) (gh gk B : Nat) (HH SL : List Nat) (g2 cap2 gv capv : Nat) (v : V) (wr : World) : Prop where
  r : RefAt w gh gk B HH wr
  s : W64 B wr g2 cap2 SL
  v : W64 B wr gv capv v.list
theorem Rel7.drewN {w : World} {gh gk B : Nat} {HH SL : List Nat} {g2 cap2 gv capv : Nat} {v : V} {wr : World} (h : Rel7 w gh gk B HH SL g2 cap2 gv capv v wr) (n : Nat) : Rel7 w gh gk B HH SL g2 cap2 gv capv v (wr.drewN n) :=
  ⟨h.r.step (Mod.drewN (Mod.refl _ _) n), h.s.kept (S := fun _ => False) (Mod.drewN (Mod.refl _ _) n) (fun h => h), h.v.kept (S := fun _ => False) (Mod.drewN (Mod.refl _ _) n) (fun h => h)⟩
theorem Rel7.next {w : World} {gh gk B : Nat} {HH SL : List Nat} {g2 cap2 gv capv : Nat} {v u : V} {wr : World} (h : Rel7 w gh gk B HH SL g2 cap2 gv capv v wr) (a : List Nat) (ha : a = u.list) :
    Rel7 w gh gk B HH SL g2 cap2 wr.heap.size 8 u (wr.alloc (.cells (nums .u64 a).toArray 97 (0, 0))) := by
  subst ha
  have hm : Mod (fun i => B ≤ i) wr (wr.alloc (.cells (nums .u64 u.list).toArray 97 (0, 0))) := (Mod.refl _ _).alloc _
  exact ⟨h.r.step hm, h.s.kept (S := fun _ => False) ((Mod.refl _ _).alloc _) (fun h => h), W64.fresh wr u.list h.r.b (by simp [V.list, maxLen])⟩

theorem Rel7.cells {w : World} {gh gk B : Nat} {HH SL : List Nat} {g2 cap2 gv capv a b c d e f g h : Nat} {wr : World} (hX : Rel7 w gh gk B HH SL g2 cap2 gv capv ⟨a, b, c, d, e, f, g, h⟩ wr) :
    wr.cell? ⟨gv, 0, none⟩ = some (.int .u64 (a : Int)) ∧ wr.cell? ⟨gv, 1, none⟩ = some (.int .u64 (b : Int)) ∧ wr.cell? ⟨gv, 2, none⟩ = some (.int .u64 (c : Int)) ∧ wr.cell? ⟨gv, 3, none⟩ = some (.int .u64 (d : Int)) ∧
    wr.cell? ⟨gv, 4, none⟩ = some (.int .u64 (e : Int)) ∧ wr.cell? ⟨gv, 5, none⟩ = some (.int .u64 (f : Int)) ∧ wr.cell? ⟨gv, 6, none⟩ = some (.int .u64 (g : Int)) ∧ wr.cell? ⟨gv, 7, none⟩ = some (.int .u64 (h : Int)) :=
  ⟨hX.v.cell 0 (by simp [V.list]), hX.v.cell 1 (by simp [V.list]), hX.v.cell 2 (by simp [V.list]), hX.v.cell 3 (by simp [V.list]), hX.v.cell 4 (by simp [V.list]), hX.v.cell 5 (by simp [V.list]), hX.v.cell 6 (by simp [V.list]), hX.v.cell 7 (by simp [V.list])⟩

/-- The sum of a round. -/
theorem t_sum (e f g h k w z1 z2 : Nat) (h1 : z1 = S1 e) (h2 : z2 = ch e f g) (a b c d : Nat) : (h + z1 + z2 + k + w) % 4294967296 = tOf ⟨a, b, c, d, e, f, g, h⟩ k w := by
  rw [tOf_sum, h1, h2]
theorem u_sum (a b c z1 z2 d e f g h : Nat) (h1 : z1 = S0 a) (h2 : z2 = maj a b c) : (z1 + z2) % 4294967296 = uOf ⟨a, b, c, d, e, f, g, h⟩ := by
  simp only [uOf]; rw [h1, h2]
end Go.Proofs.YtmodikcghlbigaaDoor

namespace Go.Proofs.YtmodikcghlbigaaDoor
open Go.RowKit

theorem lit_str {P : Program} (x : Nat) (w : World) (hs : P.underlying 43 = some (.slice 5)) (he : P.underlying 5 = some (.int .u8)) (hd : P.underlying 9 = some .string) :
    (convert 43 9 (.slice (some ⟨w.heap.size, 0, none⟩) 1 1)).run P (w.alloc (.cells #[.int .u8 (x : Int)] 5)) = .ok (.string (bytesOf [x])) (w.alloc (.cells #[.int .u8 (x : Int)] 5)) := by
  rw [convLit1 43 9 5 hs he hd]; simp [bytesOf]
theorem lit_str4 {P : Program} (a b c d : Nat) (w : World) (hs : P.underlying 43 = some (.slice 5)) (he : P.underlying 5 = some (.int .u8)) (hd : P.underlying 9 = some .string) :
    (convert 43 9 (.slice (some ⟨w.heap.size, 0, none⟩) 4 4)).run P (w.alloc (.cells #[.int .u8 (a : Int), .int .u8 (b : Int), .int .u8 (c : Int), .int .u8 (d : Int)] 5)) = .ok (.string (bytesOf [a, b, c, d])) (w.alloc (.cells #[.int .u8 (a : Int), .int .u8 (b : Int), .int .u8 (c : Int), .int .u8 (d : Int)] 5)) := by
  have h := run_convert_bytes_arg (P := P) (w.alloc (.cells #[.int .u8 (a : Int), .int .u8 (b : Int), .int .u8 (c : Int), .int .u8 (d : Int)] 5)) 43 5 hs he w.heap.size 0 4 4 [(a : Int), (b : Int), (c : Int), (d : Int)] rfl (fun i hi => by
    unfold World.cell?
    rw [heap_alloc_new]
    match i, hi with
    | 0, _ => rfl
    | 1, _ => rfl
    | 2, _ => rfl
    | 3, _ => rfl) 9 hd
  rw [h]; simp [strOfNums, bytesOf]
/-- While the block's words are added. -/
def HRel (w : World) (gh gk B : Nat) (HH BL : List Nat) (k : Nat) (wr : World) : Prop := ∃ Hp, RefAt w gh gk B Hp wr ∧ Hp.length = 8 ∧ Hp.take k = BL.take k ∧ Hp.drop k = HH.drop k
theorem bytesOf_app (a b : List Nat) : bytesOf a ++ bytesOf b = bytesOf (a ++ b) := by
  apply ByteArray.ext; simp [bytesOf]
theorem bytesOf_nats (s : List UInt8) : bytesOf (nats s) = ⟨s.toArray⟩ := by simp [bytesOf, nats, Function.comp_def]

/-- While it is padded. -/
def Pad (m : List Nat) (k : Nat) : List Nat := m ++ [128] ++ List.replicate k 0
theorem Pad_len (m : List Nat) (k : Nat) : (Pad m k).length = m.length + 1 + k := by simp [Pad]; omega
theorem Pad_succ (m : List Nat) (k : Nat) : Pad m (k + 1) = Pad m k ++ [0] := by simp [Pad, List.replicate_succ']

theorem cut_bytes (N k : Nat) (hk : k < 8) : bytesOf [N * 8 / 256 ^ k % 256] ++ bytesOf ((lenBytes N 8).drop (8 - k)) = bytesOf ((lenBytes N 8).drop (8 - (k + 1))) := by
  rw [bytesOf_app, show 8 - (k + 1) = 7 - k by omega, lenBytes_from N k hk]; rfl
theorem lenBytes_drop (N k : Nat) (hk : k ≤ 8) : ((lenBytes N 8).drop (8 - k)).length = k := by rw [List.length_drop, lenBytes_len]; omega

/-- Block n of a text. -/
def blk (n : Nat) : Code → Option Code
  | .block m c => if m = n then some (.block m c) else blk n c
  | .loop c => blk n c
  | .seq a b => match blk n a with
    | some c => some c
    | none => blk n b
  | .scope c => blk n c
  | .cond _ a b => match blk n a with
    | some c => some c
    | none => blk n b
  | _ => none
noncomputable def blkOf (n : Nat) : Code := (Tryd.f38.body.bind (blk n)).getD .skip
end Go.Proofs.YtmodikcghlbigaaDoor
