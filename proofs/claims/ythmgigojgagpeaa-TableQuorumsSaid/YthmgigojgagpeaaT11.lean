/- The law TableQuorums. -/
import Derived.Test.YthmgigojgagpeaaT10
namespace Go.Proofs.Ythmgigojgagpeaa
open Go.RowKit

set_option maxRecDepth 20000 in
set_option maxHeartbeats 8000000 in
theorem quorums_walk (ao : Option Addr) (cap : Nat) (L : List (Int × Int)) (bo : Option Addr) (capS : Nat) (S : List Int) (co : Option Addr) (capT : Nat) (T : List Int) (w : World) (hL : EntsI w ao L) (hcL : L.length ≤ cap) (hS : IntsAt w bo S) (hcS : S.length ≤ capS) (hT0 : IntsAt w co T) (hcT : T.length ≤ capT) :
    Calls Try.prog 3 #[.slice ao L.length cap, .slice bo S.length capS, .slice co T.length capT] w fun r w' => r = .returned (.bool true) ∧ Below w.heap.size w w' := by
  have HL := Lib.hid hL
  have HS := Lib.hid hS
  have HT := Lib.hid hT0
  obtain ⟨nS, hnS⟩ : ∃ n, n = S.length := ⟨_, rfl⟩
  obtain ⟨nL, hnL⟩ : ∃ n, n = L.length := ⟨_, rfl⟩
  have Hright := Lib.hid (fun w h => right_any ao cap L w h hcL)
  rw [← hnS] at hcS
  rw [← hnL] at Hright
  obtain ⟨nT, hnT⟩ : ∃ n, n = T.length := ⟨_, rfl⟩
  rw [← hnT] at hcT
  rw [← hnS, ← hnL, ← hnT]
  have HnT := Lib.hid hnT
  have HnS := Lib.hid hnS
  obtain ⟨Z, hZ⟩ : ∃ Z, Z = (nums .i64 (List.replicate 64 0)).toArray := ⟨_, rfl⟩
  have hz : ∀ w : World, (zeroValue 28).run Try.prog w = .ok (.agg Z) w := by rw [hZ]; exact fun _ => by kernel_rfl
  have hZs : Z.size = 64 := by rw [hZ]; simp [nums_len]
  clear hL hS hnS hnL hcL hZ hT0 hnT
  go_enter Try.func3, Try.ntmps3
  go_wp2_with fail
  refine (awake_any _).mono ?_
  rintro r w1 ⟨rfl, hb1⟩
  go_wp2_with fail
  refine (Hright.out _ (HL.out.old hb1)).mono ?_
  rintro r w2 ⟨E, q, c, rfl, hE, hok, hne, hb2⟩
  have hB2 := hb1.trans (hb2.mono hb1.size)
  have hown := fun w h => own_any q c E w h hok.len
  have htab := isTab_zero.wth hok
  have hlen := hok.len
  obtain ⟨k, hk⟩ : ∃ k, k = E.length := ⟨_, rfl⟩
  rw [← hk] at hown hlen ⊢
  have Hown := Lib.hid hown
  have Hok := Lib.hid hok
  have Hne := Lib.hid hne
  have Hk := Lib.hid hk
  have Htab := Lib.hid htab
  clear hb1 hb2 hown hok hne hk htab
  go_wp2_with fail
  refine (Hown.out _ hE.ents).mono ?_
  rintro r w3 ⟨q3, c3, rfl, hE3, hb3⟩
  have hE2 := hE.old hb3
  have hB3 := hB2.trans (hb3.mono hB2.size)
  clear hb3 hE hB2
  go_wp2_with fail
  have hnew := new_any q3 c3 E w3 hE3.ents Hok.out Hok.out.len Hne.out
  rw [← Hk.out] at hnew
  refine hnew.mono ?_
  rintro r w4 ⟨rfl, hb4⟩
  have hE4 := hE2.old hb4
  have hB4 := hB3.trans (hb4.mono hB3.size)
  clear hnew hb4 hE2 hE3 hB3 Hown
  unfold tval
  obtain ⟨A, hA⟩ : ∃ A, A = (nums .i64 (wth (List.replicate 64 0) E)).toArray := ⟨_, rfl⟩
  have hAs : A.size = 64 := Htab.out.row hA
  have h1A : Hid (∀ v ∈ A.toList, v.oneCell' = true) := Lib.hid (by rw [hA]; intro v hv; exact nums_one .i64 _ v (by simpa using hv))
  rw [← hA]
  have HA := Lib.hid hA
  clear hA
  have hr1 : (w4.alloc (.cells Z 28)).heap[w4.heap.size]? = some (.cells Z 28 (0, 0)) := heap_alloc_new _ _
  have hT : LawT w E q c w4.heap.size A ((w4.alloc (.cells Z 28)).setRow w4.heap.size A) := by
    refine ⟨?_, ?_, setRow_heap _ w4.heap.size Z A 28 (0, 0) hr1, ((Mod.of_below (hB4.alloc hB4.size (.cells Z 28))).setRow A).to_below (Nat.le_refl _) (by have := hB4.size; rintro k hk (h | h) <;> omega)⟩
    · refine (hE4.old ((Below.refl _ _).alloc (Nat.le_refl _) (.cells Z 28))).kept ((Mod.refl (fun _ => False) _).setRow (g := w4.heap.size) A) ?_
      rintro a rfl (h | h)
      · exact h
      · have h' : a.block = w4.heap.size := h
        rcases hE4.shape with ⟨e, _⟩ | ⟨g', e, hl, _⟩
        · cases e
        · cases e; exact Nat.lt_irrefl _ (h' ▸ hl)
    · rintro a rfl
      rcases hE4.shape with ⟨e, _⟩ | ⟨g', e, hl, _⟩
      · cases e
      · cases e; exact hl
  clear hE4 hB4
  go_upto_region 5 with (refine wpList_store_row rfl rfl 28 (.tmp 8) (.tmp 24) rfl w4.heap.size rfl 28 Z A rfl hr1 ?s2 ?s3 ?s4 ?_)
  case s2 => rw [hZs, hAs]
  case s3 => rw [hAs]; kernel_rfl
  case s4 => exact h1A.out
  clear hr1 hz hZs
  generalize (w4.alloc (.cells Z 28)).setRow w4.heap.size A = W at hT ⊢
  generalize w4.heap.size = g at hT ⊢
  go_upto_if 28 with fail
  go_cut [1] (fun s1 wx => ∃ S2 : List Int, s1 = .slice bo S2.length capS ∧ S2.length ≤ 70 ∧ S2.length ≤ capS ∧ Hid (IntsAt w bo S2) ∧ wx = W)
  case first =>
    by_cases h70 : 70 < nS
    · have b1 : (70 : Int) < nS := by omega
      have b2 : (70 : Int) ≤ capS := by omega
      have b3 : 70 ≤ capS := by omega
      have hS2 : Hid (IntsAt w bo (S.take 70)) := Lib.hid (HS.out.take 70)
      have hl2 : (S.take 70).length = 70 := by rw [List.length_take, ← HnS.out]; omega
      go_wp2_with fail
      go_meet
      exact ⟨S.take 70, (by rw [hl2]), by omega, by omega, hS2, rfl⟩
    · have b1 : ¬ (70 : Int) < nS := by omega
      have hl2 := HnS.out
      go_wp2_with fail
      go_meet
      exact ⟨S, rfl, by omega, by omega, HS, rfl⟩
  case rest =>
  obtain ⟨S2, rfl, h70S, hc2S, hS2, rfl⟩ := hcut
  clear HS HnS hcS
  obtain ⟨nS2, hnS2⟩ : ∃ n, n = S2.length := ⟨_, rfl⟩
  rw [← hnS2] at h70S hc2S ⊢
  have HnS2 := Lib.hid hnS2
  clear hnS2
  rename World => W1
  go_upto_if 33 with fail
  go_cut [2] (fun s1 wx => ∃ S2 : List Int, s1 = .slice co S2.length capT ∧ S2.length ≤ 70 ∧ S2.length ≤ capT ∧ Hid (IntsAt w co S2) ∧ wx = W1)
  case first =>
    by_cases h70 : 70 < nT
    · have b1 : (70 : Int) < nT := by omega
      have b2 : (70 : Int) ≤ capT := by omega
      have b3 : 70 ≤ capT := by omega
      have hS2 : Hid (IntsAt w co (T.take 70)) := Lib.hid (HT.out.take 70)
      have hl2 : (T.take 70).length = 70 := by rw [List.length_take, ← HnT.out]; omega
      go_wp2_with fail
      go_meet
      exact ⟨T.take 70, (by rw [hl2]), by omega, by omega, hS2, rfl⟩
    · have b1 : ¬ (70 : Int) < nT := by omega
      have hl2 := HnT.out
      go_wp2_with fail
      go_meet
      exact ⟨T, rfl, by omega, by omega, HT, rfl⟩
  case rest =>
  obtain ⟨T2, rfl, h70T, hc2T, hT2, rfl⟩ := hcut
  clear HT HnT hcT
  obtain ⟨nT2, hnT2⟩ : ∃ n, n = T2.length := ⟨_, rfl⟩
  rw [← hnT2] at h70T hc2T ⊢
  have HnT2 := Lib.hid hnT2
  clear hnT2
  rename World => W2
  obtain ⟨b1, hb1⟩ : ∃ b, b = decide (2 * tsum (wth (List.replicate 64 0) E) < 3 * tsum (sig (wth (List.replicate 64 0) E) S2)) := ⟨_, rfl⟩
  obtain ⟨b2, hb2⟩ : ∃ b, b = decide (2 * tsum (wth (List.replicate 64 0) E) < 3 * tsum (sig (wth (List.replicate 64 0) E) T2)) := ⟨_, rfl⟩
  have Hq1 : Hid (∀ w', Below W2.heap.size W2 w' → Calls Try.prog 10 #[.agg A, .slice bo nS2 capS] w' fun r w'' => r = .returned (.bool b1) ∧ Below w'.heap.size w' w'') := Lib.hid (by
    intro w' hb'
    have := quorum_any (wth (List.replicate 64 0) E) bo capS S2 w' Htab.out (hS2.out.old (hT.m.trans (hb'.mono hT.m.size))) (by rw [← HnS2.out]; omega)
    unfold tval at this; rw [← HA.out, ← HnS2.out, ← hb1] at this; exact this)
  have Hq2 : Hid (∀ w', Below W2.heap.size W2 w' → Calls Try.prog 10 #[.agg A, .slice co nT2 capT] w' fun r w'' => r = .returned (.bool b2) ∧ Below w'.heap.size w' w'') := Lib.hid (by
    intro w' hb'
    have := quorum_any (wth (List.replicate 64 0) E) co capT T2 w' Htab.out (hT2.out.old (hT.m.trans (hb'.mono hT.m.size))) (by rw [← HnT2.out]; omega)
    unfold tval at this; rw [← HA.out, ← HnT2.out, ← hb2] at this; exact this)
  have Hr1 : Hid (∀ w', Below W2.heap.size W2 w' → Calls Try.prog 11 #[.slice q k c, .slice bo nS2 capS] w' fun r w'' => r = .returned (.bool b1) ∧ Below w'.heap.size w' w'') := Lib.hid (by
    intro w' hb'
    have := rquorum_any q c E bo capS S2 w' (hT.row.ents.old hb') Hok.out Hok.out.len (hS2.out.old (hT.m.trans (hb'.mono hT.m.size))) (by rw [← HnS2.out]; omega)
    rw [← tot_eq Hok.out, ← sig_eq Hok.out, ← HnS2.out, ← Hk.out, ← hb1] at this; exact this)
  have Hr2 : Hid (∀ w', Below W2.heap.size W2 w' → Calls Try.prog 11 #[.slice q k c, .slice co nT2 capT] w' fun r w'' => r = .returned (.bool b2) ∧ Below w'.heap.size w' w'') := Lib.hid (by
    intro w' hb'
    have := rquorum_any q c E co capT T2 w' (hT.row.ents.old hb') Hok.out Hok.out.len (hT2.out.old (hT.m.trans (hb'.mono hT.m.size))) (by rw [← HnT2.out]; omega)
    rw [← tot_eq Hok.out, ← sig_eq Hok.out, ← HnT2.out, ← Hk.out, ← hb2] at this; exact this)
  have Hpw : Hid (∀ (m : Int) (w : World), Calls Try.prog 12 #[.agg A, .int .i64 m] w fun r w' => r = .returned (.int .i64 (pw (wth (List.replicate 64 0) E) m : Int)) ∧ Below w.heap.size w w') := Lib.hid (by
    intro m w
    have := power_any (wth (List.replicate 64 0) E) m w Htab.out
    unfold tval at this; rw [← HA.out] at this; exact this)
  have hbx := hT.box
  have hB := hT.m
  have hgl := Lib.hid (Array.getElem?_eq_some_iff.1 hbx).1
  have Hsz : Hid ((Try.prog.info? 28).map (·.size) = some A.size) := Lib.hid (by rw [hAs]; kernel_rfl)
  have HS3 : Hid (IntsAt W2 bo S2) := Lib.hid (hS2.out.old hT.m)
  have HT3 : Hid (IntsAt W2 co T2) := Lib.hid (hT2.out.old hT.m)
  have Hb1 := Lib.hid hb1
  have Hb2 := Lib.hid hb2
  clear hT hb1 hb2 hS2 hT2
  go_upto_region 9 with fail
  refine wp_region_puts (fun t v _ => match t with
    | 36 => v = .agg A
    | 37 => v = .slice bo nS2 capS
    | 38 => v = .bool b1
    | 39 => v = .agg A
    | 40 => v = .slice co nT2 capT
    | 41 => v = .bool b2
    | 10 => v = .bool b1
    | 11 => v = .bool b2
    | _ => True) (fun w' => Below W2.heap.size W2 w') 83 (by kernel_rfl) (by decide +kernel) rfl (Below.refl _ _).drew (by
      refine OweAll.cons (owes_val rfl rfl fun a u1 ha hG hV => ?_) ?_
      · skip
        have h8 : a.eval (.tmp 8) = .pointer (some ⟨g, 0, none⟩) := (ha.outer 8 (by decide +kernel)).trans rfl
        exact ⟨.agg A, wanted_free rfl, exec_load_row 28 (.tmp 8) rfl g h8 28 A (0, 0) _ ((hG.block _ hgl.out).trans hbx) Try.underlying28 rfl Hsz.out, rfl⟩
      refine OweAll.cons (owes_val rfl rfl fun a u1 ha hG hV => ?_) ?_
      · skip
        have h1 := ha.outer 1 (by decide +kernel)
        simp only [Act.eval] at h1
        exact ⟨.slice bo nS2 capS, wanted_free rfl, by simp [execOp, go_sem, h1], rfl⟩
      refine OweAll.cons (owes_call rfl rfl 10 fun a u1 ha hG hV => ?_) ?_
      · skip
        have h36 : a.tmps.getD 36 undef = .agg A := hV.get 36 (by decide +kernel)
        have h37 : a.tmps.getD 37 undef = .slice bo nS2 capS := hV.get 37 (by decide +kernel)
        refine ⟨#[.agg A, .slice bo nS2 capS], wanted_free rfl, by simp [execOp, resolve, invoke, go_sem, h36, h37], ?_⟩
        refine (Hq1.out u1 hG).mono ?_
        rintro r u2 ⟨rfl, hb⟩; exact ⟨_, rfl, rfl, hG.trans (hb.mono hG.size), fun _ _ h => h⟩
      refine OweAll.cons (owes_val rfl rfl fun a u1 ha hG hV => ?_) ?_
      · skip
        have h8 : a.eval (.tmp 8) = .pointer (some ⟨g, 0, none⟩) := (ha.outer 8 (by decide +kernel)).trans rfl
        exact ⟨.agg A, wanted_free rfl, exec_load_row 28 (.tmp 8) rfl g h8 28 A (0, 0) _ ((hG.block _ hgl.out).trans hbx) Try.underlying28 rfl Hsz.out, rfl⟩
      refine OweAll.cons (owes_val rfl rfl fun a u1 ha hG hV => ?_) ?_
      · skip
        have h2 := ha.outer 2 (by decide +kernel)
        simp only [Act.eval] at h2
        exact ⟨.slice co nT2 capT, wanted_free rfl, by simp [execOp, go_sem, h2], rfl⟩
      refine OweAll.cons (owes_call rfl rfl 10 fun a u1 ha hG hV => ?_) ?_
      · skip
        have h39 : a.tmps.getD 39 undef = .agg A := hV.get 39 (by decide +kernel)
        have h40 : a.tmps.getD 40 undef = .slice co nT2 capT := hV.get 40 (by decide +kernel)
        refine ⟨#[.agg A, .slice co nT2 capT], wanted_free rfl, by simp [execOp, resolve, invoke, go_sem, h39, h40], ?_⟩
        refine (Hq2.out u1 hG).mono ?_
        rintro r u2 ⟨rfl, hb⟩; exact ⟨_, rfl, rfl, hG.trans (hb.mono hG.size), fun _ _ h => h⟩
      refine OweAll.cons (owes_val rfl rfl fun a u1 ha hG hV => ?_) ?_
      · skip
        have h38 : a.tmps.getD 38 undef = .bool b1 := hV.get 38 (by decide +kernel)
        exact ⟨.bool b1, wanted_free rfl, by simp [execOp, go_sem, h38], rfl⟩
      refine OweAll.cons (owes_val rfl rfl fun a u1 ha hG hV => ?_) ?_
      · skip
        have h41 : a.tmps.getD 41 undef = .bool b2 := hV.get 41 (by decide +kernel)
        exact ⟨.bool b2, wanted_free rfl, by simp [execOp, go_sem, h41], rfl⟩
      exact OweAll.nil
      ) ?_
  intro f w5 hG hv
  have h10 : f 10 = .bool b1 := hv 6 _ 10 rfl rfl
  have h11 : f 11 = .bool b2 := hv 7 _ 11 rfl rfl
  rename_i hK
  refine hK _ _ ?_
  clear hK hv
  simp only [dsts, puts, List.filterMap_cons, List.filterMap_nil, List.foldl_cons, List.foldl_nil, Act.put, List.setIfInBounds_toArray, List.set_cons_succ, List.set_cons_zero, h10, h11]
  clear h10 h11
  have hx5 := (hG.block _ hgl.out).trans hbx
  have HG := Lib.hid hG
  have HB := Lib.hid hB
  clear Hq1 Hq2 hbx hG hB
  generalize f 36 = f36
  generalize f 37 = f37
  generalize f 38 = f38
  generalize f 39 = f39
  generalize f 40 = f40
  generalize f 41 = f41
  clear f
  by_cases hbb : b1 = true ∧ b2 = true
  · obtain ⟨rfl, rfl⟩ := hbb
    go_wp2_with fail
    refine (Hr1.out _ HG.out).mono ?_
    rintro r w6 ⟨rfl, hb6⟩
    have hG6 := HG.out.trans (hb6.mono HG.out.size)
    go_wp2_with fail
    refine (Hr2.out _ hG6).mono ?_
    rintro r w7 ⟨rfl, hb7⟩
    have hG7 := hG6.trans (hb7.mono hG6.size)
    have hx7 := (hG7.block _ hgl.out).trans ((HG.out.block _ hgl.out).symm.trans hx5)
    have HB7 := Lib.hid (HB.out.trans (hG7.mono HB.out.size))
    have HS7 := Lib.hid (HS3.out.old hG7)
    have HT7 := Lib.hid (HT3.out.old hG7)
    have hg7 : Hid (g < w7.heap.size) := Lib.hid (Array.getElem?_eq_some_iff.1 hx7).1
    have Hno : Hid (¬ ∀ x ∈ S2, x ∈ T2 → pw (wth (List.replicate 64 0) E) x = 0) := Lib.hid (by
      intro h
      have h1 := sig_meet Htab.out.len S2 T2 h
      have h2 := of_decide_eq_true Hb1.out.symm
      have h3 := of_decide_eq_true Hb2.out.symm
      omega)
    clear hG6 hb6 hb7 hx5 HG HB HS3 HT3 hgl Hr1 Hr2 Hb1 Hb2 hG7
    go_wp2_with fail
    go_loopw [62] (fun s62 wr => ∃ i : Nat, i ≤ nS2 ∧ s62 = .int .i64 (i : Int) ∧ Hid (∀ x ∈ S2.take i, x ∈ T2 → pw (wth (List.replicate 64 0) E) x = 0) ∧ Hid (Below w7.heap.size w7 wr)) (fun i _ => nS2 - (intOf i).toNat)
    case atStart => exact ⟨0, by omega, rfl, Lib.hid (fun x hx => by simp at hx), Lib.hid (Below.refl _ _)⟩
    case round =>
      obtain ⟨i, hi, rfl, hno, hBr⟩ := hrel
      by_cases hin : i < nS2
      · have hil : i < S2.length := by rw [← HnS2.out]; exact hin
        obtain ⟨bs, off, rfl, hbs, c1⟩ := (HS7.out.old hBr.out) i hil
        obtain ⟨x, hx⟩ : ∃ x, x = S2[i] := ⟨_, rfl⟩
        have hst : Hid ((x ∈ T2 → pw (wth (List.replicate 64 0) E) x = 0) → ∀ y ∈ S2.take (i + 1), y ∈ T2 → pw (wth (List.replicate 64 0) E) y = 0) := Lib.hid (by
          intro h y hy
          rw [← List.take_append_getElem hil, List.mem_append, List.mem_singleton] at hy
          rcases hy with hy | hy
          · exact hno.out y hy
          · rw [hy, ← hx]; exact h)
        rw [← hx] at c1
        have i1 : (i : Int) < nS2 := by omega
        have i0 : (0 : Int) ≤ i := by omega
        clear hx hno
        go_wp2_with fail
        go_loopw [68] (fun s68 wr => ∃ j : Nat, j ≤ nT2 ∧ s68 = .int .i64 (j : Int) ∧ Hid (x ∈ T2.take j → pw (wth (List.replicate 64 0) E) x = 0) ∧ Hid (Below w7.heap.size w7 wr)) (fun j _ => nT2 - (intOf j).toNat)
        case atStart => exact ⟨0, by omega, rfl, Lib.hid (fun h => by simp at h), hBr⟩
        case round =>
          clear hBr
          obtain ⟨j, hj, rfl, hno, hBr⟩ := hrel
          by_cases hjn : j < nT2
          · have hjl : j < T2.length := by rw [← HnT2.out]; exact hjn
            obtain ⟨bs2, off2, rfl, hbs2, d1⟩ := (HT7.out.old hBr.out) j hjl
            obtain ⟨y, hy⟩ : ∃ y, y = T2[j] := ⟨_, rfl⟩
            have hst2 : Hid ((x = y → pw (wth (List.replicate 64 0) E) x = 0) → x ∈ T2.take (j + 1) → pw (wth (List.replicate 64 0) E) x = 0) := Lib.hid (by
              intro h hm
              rw [← List.take_append_getElem hjl, List.mem_append, List.mem_singleton] at hm
              rcases hm with hm | hm
              · exact hno.out hm
              · exact h (by rw [hm, hy]))
            rw [← hy] at d1
            have j1 : (j : Int) < nT2 := by omega
            have j0 : (0 : Int) ≤ j := by omega
            clear hy hno
            by_cases hxy : x = y
            · subst hxy
              have hxr := (hBr.out.block _ hg7.out).trans hx7
              obtain ⟨z, hz⟩ : ∃ z, z = pw (wth (List.replicate 64 0) E) x := ⟨_, rfl⟩
              have hpm := Hpw.out x
              rw [← hz] at hpm
              have Hpm := Lib.hid hpm
              have Hz := Lib.hid hz
              clear hz hpm
              go_wp2_with (refine wpList_load_rowG rfl 28 (.tmp 8) rfl g rfl 28 A (0, 0) _ hxr Try.underlying28 rfl Hsz.out ?_)
              refine (Hpm.out _).mono ?_
              rintro r w8 ⟨rfl, hb8⟩
              have hB8 := Lib.hid (hBr.out.trans (hb8.mono hBr.out.size))
              clear hb8 hxr d1 c1
              by_cases hz0 : 0 < z
              · have z1 : (0 : Int) < z := by omega
                have hB9 := HB7.out.trans (hB8.out.mono HB7.out.size)
                go_wp2_with fail
                go_ret
                exact ⟨rfl, hB9⟩
              · have z1 : ¬ (0 : Int) < z := by omega
                have hno2 : Hid (x ∈ T2.take (j + 1) → pw (wth (List.replicate 64 0) E) x = 0) := Lib.hid (hst2.out (fun _ => by rw [← Hz.out]; omega))
                go_wp2_with fail
                go_roundw
                case rel => exact ⟨j + 1, by omega, by go_num, hno2, hB8⟩
                case measure => simp [intOf]; omega
            · have bxy : (x == y) = false := by rw [beq_eq_false_iff_ne]; exact hxy
              have hno2 : Hid (x ∈ T2.take (j + 1) → pw (wth (List.replicate 64 0) E) x = 0) := Lib.hid (hst2.out (fun e => absurd e hxy))
              clear hxy
              go_wp2_with fail
              go_roundw
              case rel => exact ⟨j + 1, by omega, by go_num, hno2, hBr⟩
              case measure => simp [intOf]; omega
          · obtain rfl : j = nT2 := by omega
            rw [List.take_of_length_le (by rw [← HnT2.out]; exact Nat.le_refl _)] at hno
            have hno2 := Lib.hid (hst.out hno.out)
            go_wp2_with fail
            go_roundw
            case rel => exact ⟨i + 1, by omega, by go_num, hno2, hBr⟩
            case measure => simp [intOf]; omega
      · obtain rfl : i = nS2 := by omega
        rw [List.take_of_length_le (by rw [← HnS2.out]; exact Nat.le_refl _)] at hno
        exact absurd hno.out Hno.out
  · cases b1 with
    | false =>
      clear Hb1 Hb2
      go_wp2_with fail
      refine (Hr1.out _ HG.out).mono ?_
      rintro r w6 ⟨rfl, hb6⟩
      have hG6 := HG.out.trans (hb6.mono HG.out.size)
      go_wp2_with fail
      refine (Hr2.out _ hG6).mono ?_
      rintro r w7 ⟨rfl, hb7⟩
      have hG7 := hG6.trans (hb7.mono hG6.size)
      have hB7 := HB.out.trans (hG7.mono HB.out.size)
      go_wp2_with fail
      go_ret
      exact ⟨rfl, hB7⟩
    | true =>
      cases b2 with
      | true => exact absurd ⟨rfl, rfl⟩ hbb
      | false =>
        clear Hb1 Hb2
        go_wp2_with fail
        refine (Hr1.out _ HG.out).mono ?_
        rintro r w6 ⟨rfl, hb6⟩
        have hG6 := HG.out.trans (hb6.mono HG.out.size)
        go_wp2_with fail
        refine (Hr2.out _ hG6).mono ?_
        rintro r w7 ⟨rfl, hb7⟩
        have hG7 := hG6.trans (hb7.mono hG6.size)
        have hB7 := HB.out.trans (hG7.mono HB.out.size)
        go_wp2_with fail
        go_ret
        exact ⟨rfl, hB7⟩
end Go.Proofs.Ythmgigojgagpeaa
