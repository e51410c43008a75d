/- LineParses' walk. (tools/mk-lnz.py) -/
import Derived.Test.YtgkhnmohjidbmaaDoorZ5
import Derived.Test.YtgkhnmohjidbmaaDoorZ4
import Derived.Test.YtgkhnmohjidbmaaDoorZ2
import Derived.Deep.MidRow
set_option linter.unusedVariables false
set_option linter.unusedSimpArgs false
namespace Go.Proofs.YtgkhnmohjidbmaaDoor
open Go.RowKit Go.Shelf

theorem Rw.len_le {α : Type} {E : Enc α} {T : TypeId} {w : World} {p : Option Addr} {cap : Nat} {L : List α} (h : Rw E T w p cap L) : L.length ≤ maxLen := by
  rcases h.shape with ⟨_, rfl, _⟩ | ⟨g, _, _, h1, h2, _⟩
  · simp
  · exact Nat.le_trans h1 h2
theorem exec_loadC {P : Program} {o : Oper} {a : Act} {w : World} (T : TypeId) (x : Operand) (ho : o.op = .load T x) (b off : Nat) (hx : a.eval x = .pointer (some ⟨b, off, none⟩)) (cs : Array Value) (d : TypeDesc)
    (hc : ∀ i u, cs.toList[i]? = some u → w.cell? ⟨b, off + i, none⟩ = some u) (hu : P.underlying T = some d) (hd : d.isRow = true) (hi : (P.info? T).map (·.size) = some cs.size) : (execOp a.eval o).run P w = .ok (.value (.agg cs)) w := by
  have hl := run_loadVar_mid (P := P) w b off T cs.toList d (fun j v hv => hc j v hv) hu hd (by rw [hi, Array.length_toList])
  unfold execOp
  simp only [ho, hx, Instr.loadAt, Instr.sureAddr, Sem.run_bind, Sem.run_pure, Result.andThen_ok, hl, Array.toArray_toList]
theorem cellsV {T : TypeId} {w : World} {g c i : Nat} {V : List Sv} (h : Rw encV T w (some ⟨g, 0, none⟩) c V) (hi : i < V.length) : ∀ k u, V[i].c.toList[k]? = some u → w.cell? ⟨g, i * 4 + k, none⟩ = some u := by
  intro k u hu
  obtain ⟨bs, off, e, _, hc⟩ := h.rd i hi
  cases e
  have := hc k u hu
  rw [Nat.zero_add] at this
  exact this
set_option maxRecDepth 100000 in
set_option maxHeartbeats 8000000 in
theorem lineParses_any (s0 : List UInt8) (w : World) (_hs : s0.length ≤ 9223372036854775807) :
    Calls Tryd.prog 3 #[.string ⟨s0.toArray⟩] w fun e w' => e = .returned (.bool true) ∧ Below w.heap.size w w' := by
  have HA := Lib.hid (fun w => lawake_any w)
  have HC1 := Lib.hid (fun w => lwcut_any s0 3000 w _hs (by omega))
  obtain ⟨s, hs⟩ : ∃ s, s = s0.take 3000 := ⟨_, rfl⟩
  have hsl : s.length ≤ 1000000 := by rw [hs, List.length_take]; omega
  rw [← hs] at HC1
  have HP := Lib.hid (fun w => lparse_any s w hsl)
  have HQ := Lib.hid (fun w => rlparse_any s w hsl)
  obtain ⟨SB, hSB⟩ : ∃ B, B = ByteArray.mk s.toArray := ⟨_, rfl⟩
  rw [← hSB] at HC1 HP HQ
  have hpl : (parM s).1.length ≤ 300 := parG_len (spl 10 s) 0 [] (by simp)
  generalize parM s = pm at HP HQ hpl
  obtain ⟨Ls, kk, okk⟩ := pm
  unfold ParP at HP
  unfold ParQ at HQ
  simp only at HP HQ hpl
  obtain ⟨m, hm⟩ : ∃ m, m = Ls.length := ⟨_, rfl⟩
  rw [← hm] at hpl
  have HM := Lib.hid hm
  clear hs hSB hm hsl
  go_enter Tryd.func3, Tryd.ntmps3
  go_wp2_with fail
  refine (HA.out _).mono ?_
  rintro e w1 ⟨rfl, hb1⟩
  have M1 := Lib.hid hb1
  clear hb1
  go_wp2_with fail
  refine (HC1.out _).mono ?_
  rintro e w2 ⟨rfl, rfl⟩
  go_wp2_with fail
  refine (HP.out _).mono ?_
  rintro e w3 ⟨hb3, q1, c1, V1, rfl, hV1, hR1, hn1, hok1⟩
  have hl1 : V1.length = m := by rw [HM.out, ← hV1, List.length_map]
  rw [hl1]
  have M3 := Lib.hid (M1.out.trans (hb3.mono M1.out.size))
  have HV1 := Lib.hid hV1
  have HR1 := Lib.hid hR1
  have HK1 := Lib.hid hok1
  have HL1 := Lib.hid hl1
  clear hb3 hV1 hR1 hn1 hok1 hl1
  go_wp2_with fail
  refine (HQ.out _).mono ?_
  rintro e w5 ⟨hb5, q2, c2, V2, rfl, hV2, hR2, hn2, hok2⟩
  have hl2 : V2.length = m := by rw [HM.out, ← hV2, List.length_map]
  rw [hl2]
  have M5 := Lib.hid (M3.out.trans (hb5.mono M3.out.size))
  have HR15 := Lib.hid (HR1.out.old hb5)
  have HK15 := Lib.hid (fun v hv => (HK1.out v hv).old hb5)
  have HV2 := Lib.hid hV2
  have HR2 := Lib.hid hR2
  have HK2 := Lib.hid hok2
  have HL2 := Lib.hid hl2
  clear hb5 hV2 hR2 hn2 hok2 hl2 HR1 HK1
  have hkk : ((kk : Int) != (kk : Int)) = false := by simp
  have hoo : (okk != okk) = false := by simp
  go_wp2_with fail
  go_loopw [44] (fun s44 wr => ∃ i : Nat, i ≤ m ∧ s44 = .int .i64 i ∧ Hid (Below w5.heap.size w5 wr)) (fun s44 _ => m - (intOf s44).toNat)
  case atStart => exact ⟨0, by omega, rfl, Lib.hid (Below.refl _ _)⟩
  case round =>
    obtain ⟨i, him, rfl, HB⟩ := hrel
    by_cases hlt : i < m
    · have h1l : i < V1.length := by rw [HL1.out]; exact hlt
      have h2l : i < V2.length := by rw [HL2.out]; exact hlt
      have i0 : (0 : Int) ≤ i := by omega
      have i1 : (i : Int) < m := by omega
      have i2 : IntKind.i64.wrap ((i : Int) + 1) = (i : Int) + 1 := by rw [IntKind.wrap_i64]; omega
      obtain ⟨g1, rfl, _⟩ := shape_ne HR15.out (by omega)
      obtain ⟨g2, rfl, _⟩ := shape_ne HR2.out (by omega)
      have hst : V2[i].st = V1[i].st := by
        have e1 := congrArg (fun l => l[i]?) (HV1.out.trans HV2.out.symm)
        simp only [List.getElem?_map, List.getElem?_eq_getElem h1l, List.getElem?_eq_getElem h2l, Option.map_some, Option.some.injEq] at e1
        exact e1.symm
      have x1 := cellsV (HR15.out.old HB.out) h1l
      have x2 := cellsV (HR2.out.old HB.out) h2l
      have k1 := (HK15.out _ (List.getElem_mem h1l)).old HB.out
      have k2 := (HK2.out _ (List.getElem_mem h2l)).old HB.out
      have hg1 : g1 < wr.heap.size := (HR15.out.old HB.out).lt
      generalize V1[i] = v1 at hst x1 k1
      generalize V2[i] = v2 at hst x2 k2
      obtain ⟨C1, hC1⟩ : ∃ C, C = v1.c := ⟨_, rfl⟩
      obtain ⟨C2, hC2⟩ : ∃ C, C = v2.c := ⟨_, rfl⟩
      rw [← hC1] at x1
      rw [← hC2] at x2
      have HS1 : Hid ((Tryd.prog.info? 35).map (·.size) = some C1.size) := Lib.hid (by rw [hC1]; exact ln_size _ _ _ _ _)
      have HS2 : Hid ((Tryd.prog.info? 33).map (·.size) = some C2.size) := Lib.hid (by rw [hC2]; exact rl_size _ _ _ _ _)
      have HC1' : Hid (∀ v ∈ C2.toList, v.oneCell' = true) := Lib.hid (by rw [hC2]; exact v2.one)
      have HCZ : Hid (4 = C2.size) := Lib.hid (by rw [hC2]; rfl)
      have HX20 := Lib.hid x2
      have HX10 := Lib.hid x1
      have HSM0 : Hid (∀ w1, Below wr.heap.size wr w1 → Calls Tryd.prog 12 #[.agg C1, .agg C2] w1 fun e w' => e = .returned (.bool true) ∧ Below w1.heap.size w1 w') := Lib.hid (fun w1 hb => by
        have z1 := k1.old hb
        have z2 := k2.old hb
        have r1 := z2.rn
        have r2 := z2.ri
        rw [hst] at r1 r2
        have := lsame_any v1.st v1.na v1.nc v1.ia v1.ic v2.na v2.nc v2.ia v2.ic w1 z1.rn z1.ri r1 r2 (by have := z1.rn.len_le; unfold maxLen at this; omega) (by have := z1.ri.len_le; unfold maxLen at this; omega)
        rw [hC1, hC2]
        show Calls _ _ #[.agg (stC v1.st _ _ _ _), .agg (stC v2.st _ _ _ _)] _ _
        rw [hst]; exact this)
      clear hC1 hC2 x1 x2 k1 k2 hst h1l h2l
      obtain ⟨g4, hg4⟩ : ∃ g, g = wr.heap.size := ⟨_, rfl⟩
      have HG4' := Lib.hid hg4
      clear hg4
      go_upto_region 11 with (first
        | (refine wpList_exec rfl (exec_loadC 33 (.tmp 47) rfl g2 (i * 4) rfl C2 _ HX20.out Tryd.underlying33 rfl HS2.out) ?_)
        | (refine wpList_store_row rfl rfl 33 (.tmp 10) (.tmp 48) rfl wr.heap.size rfl 33 _ C2 rfl (heap_alloc_new wr _) HCZ.out HS2.out HC1'.out ?_
           refine wpList_gen (fun W4 => W4.heap[wr.heap.size]? = some (.cells C2 33 (0, 0)) ∧ Below wr.heap.size wr W4) (lnew_row wr _ _ C2 33 rfl) (fun W4 hW4 => ?_)
           obtain ⟨hr4, hb4⟩ := hW4
           have HR4 := Lib.hid hr4
           have HB4 := Lib.hid hb4
           clear hr4 hb4))
      rw [← HG4'.out]
      have HX1 : Hid (∀ w1, Below W4.heap.size W4 w1 → ∀ k u, C1.toList[k]? = some u → w1.cell? ⟨g1, i * 4 + k, none⟩ = some u) := Lib.hid (fun w1 hb k u hu => (World.cell?_of_block ((HB4.out.trans (hb.mono HB4.out.size)).block g1 hg1)).trans (HX10.out k u hu))
      have HX2 : Hid (∀ w1, Below W4.heap.size W4 w1 → w1.heap[g4]? = some (.cells C2 33 (0, 0))) := Lib.hid (fun w1 hb => by rw [HG4'.out]; exact (hb.block _ (Array.getElem?_eq_some_iff.1 HR4.out).1).trans HR4.out)
      have HSM : Hid (∀ w1, Below W4.heap.size W4 w1 → Calls Tryd.prog 12 #[.agg C1, .agg C2] w1 fun e w' => e = .returned (.bool true) ∧ Below w1.heap.size w1 w') := Lib.hid (fun w1 hb => HSM0.out w1 (HB4.out.trans (hb.mono HB4.out.size)))
      have HG0 : Hid ((fun (j : Nat) (v : Value) (w1 : World) => Below W4.heap.size W4 w1 ∧ (j = 1 → v = .bool true)) 0 undef W4.drew) := Lib.hid ⟨(Below.refl _ _).drew, (fun h => absurd h (by omega))⟩
      clear HX10 HX20 HSM0
      refine wp_region_chain2 (fun t v => match t with
        | 49 => v = .slice (some ⟨g1, 0, none⟩) m c1
        | 50 => v = .int .i64 (i : Int)
        | 51 => v = .pointer (some ⟨g1, i * 4, none⟩)
        | 52 => v = .agg C1
        | 53 => v = .agg C2
        | 54 => v = Value.bool true
        | 55 => v = Value.bool false
        | _ => True) (fun (j : Nat) (v : Value) (w1 : World) => Below W4.heap.size W4 w1 ∧ (j = 1 → v = .bool true)) [5] 57 (by kernel_rfl) (by decide +kernel) rfl (by decide +kernel) (by decide) (by decide) HG0.out (by
        refine OweAllC.cons (owesC_val 0 (by decide +kernel) (by decide) rfl rfl fun k' a w1 x hk ha hG hV => ?_) ?_
        · skip
          have h3 := ha.outer 3 (by decide +kernel)
          simp only [Act.eval] at h3
          exact ⟨.slice (some ⟨g1, 0, none⟩) m c1, wanted_free rfl, by simp [execOp, go_sem, h3], rfl⟩
        refine OweAllC.cons (owesC_val 0 (by decide +kernel) (by decide) rfl rfl fun k' a w1 x hk ha hG hV => ?_) ?_
        · skip
          have h9 := ha.outer 9 (by decide +kernel)
          simp only [Act.eval] at h9
          exact ⟨.int .i64 (i : Int), wanted_free rfl, by simp [execOp, go_sem, h9], rfl⟩
        refine OweAllC.cons (owesC_val 0 (by decide +kernel) (by decide) rfl rfl fun k' a w1 x hk ha hG hV => ?_) ?_
        · skip
          have h49 : a.tmps.getD 49 undef = .slice (some ⟨g1, 0, none⟩) m c1 := hV.get 49 (by decide +kernel)
          have h50 : a.tmps.getD 50 undef = .int .i64 (i : Int) := hV.get 50 (by decide +kernel)
          exact ⟨.pointer (some ⟨g1, i * 4, none⟩), wanted_free rfl, by simp [execOp, go_sem, h49, h50, i0, i1], rfl⟩
        refine OweAllC.cons (owesC_val 0 (by decide +kernel) (by decide) rfl rfl fun k' a w1 x hk ha hG hV => ?_) ?_
        · skip
          have h51 : a.tmps.getD 51 undef = .pointer (some ⟨g1, i * 4, none⟩) := hV.get 51 (by decide +kernel)
          obtain rfl : k' = 0 := by omega
          exact ⟨.agg C1, wanted_free rfl, exec_loadC 35 (.tmp 51) rfl g1 (i * 4) h51 C1 _ (HX1.out w1 hG.1) Tryd.underlying35 rfl HS1.out, rfl⟩
        refine OweAllC.cons (owesC_val 0 (by decide +kernel) (by decide) rfl rfl fun k' a w1 x hk ha hG hV => ?_) ?_
        · skip
          have h10 := ha.outer 10 (by decide +kernel)
          simp only [Act.eval] at h10
          obtain rfl : k' = 0 := by omega
          exact ⟨.agg C2, wanted_free rfl, exec_load_row 33 (.tmp 10) rfl g4 h10 33 C2 (0, 0) _ (HX2.out w1 hG.1) Tryd.underlying33 rfl HS2.out, rfl⟩
        refine OweAllC.cons (owesC_call 0 rfl rfl rfl 12 fun a w1 x ha hG hx hV => ?_) ?_
        · skip
          have h52 : a.tmps.getD 52 undef = .agg C1 := hV.get 52 (by decide +kernel)
          have h53 : a.tmps.getD 53 undef = .agg C2 := hV.get 53 (by decide +kernel)
          refine ⟨#[.agg C1, .agg C2], wanted_free rfl, by simp [execOp, resolve, invoke, go_sem, h52, h53], ?_⟩
          refine (HSM.out w1 hG.1).mono ?_
          rintro r w2 ⟨rfl, hb⟩
          exact ⟨_, rfl, rfl, hG.1.trans (hb.mono hG.1.size), fun _ => rfl⟩
        refine OweAllC.cons (owesC_val 1 (by decide +kernel) (by decide) rfl rfl fun k' a w1 x hk ha hG hV => ?_) ?_
        · skip
          have h54 : a.tmps.getD 54 undef = Value.bool true := hV.get 54 (by decide +kernel)
          exact ⟨Value.bool false, wanted_free rfl, by simp [execOp, go_sem, h54], rfl⟩
        exact OweAllC.nil
        ) ?_
      intro f wz xz hG hx hv
      have e55 : f 55 = Value.bool false := hv 6 _ 55 rfl rfl
      first | (rename_i hK; refine hK _ _ ?_; clear hK) | (rename_i hK _; refine hK _ _ ?_; clear hK) | (rename_i hK _ _; refine hK _ _ ?_; clear hK) | (rename_i hK _ _ _; refine hK _ _ ?_; clear hK)
      clear hv hx
      simp only [dsts, puts, List.filterMap_cons, List.filterMap_nil, List.foldl_cons, List.foldl_nil, Act.put, List.setIfInBounds_toArray, List.set_cons_succ, List.set_cons_zero, e55]
      clear e55
      have hF := Lib.hid hG
      clear hG HG0 HX1 HX2 HSM
      have HBZ := Lib.hid (HB.out.trans ((HB4.out.trans (hF.out.1.mono HB4.out.size)).mono HB.out.size))
      go_wp2_with fail
      go_roundw
      case rel => exact ⟨i + 1, by omega, by go_num, HBZ⟩
      case measure => simp [intOf]; omega
    · obtain rfl : i = m := by omega
      have HE := Lib.hid (M5.out.trans (HB.out.mono M5.out.size))
      go_wp2_with fail
      go_ret
      exact ⟨rfl, HE.out⟩
end Go.Proofs.YtgkhnmohjidbmaaDoor
