/- Texts 15: what the laws lean on. -/
import Derived.Test.YtemnebbdaljfbaaGreatDoorZ14
import Derived.Test.YtemnebbdaljfbaaGreatDoorZ7
import Derived.Test.YtemnebbdaljfbaaGreatDoorZ6
import Derived.Test.YtemnebbdaljfbaaGreatDoorZ5
import Derived.Test.YtemnebbdaljfbaaGreatDoorRows
import Derived.Test.YtemnebbdaljfbaaGreatDoorZ1
import Derived.WalkKit
import Derived.ProofKit
import Derived.OpenShut
import Derived.Deep.Slices
set_option linter.unusedVariables false
set_option linter.unusedSimpArgs false
namespace Go.Proofs.YtemnebbdaljfbaaGreatDoor
open Go.RowKit

theorem exec_load_ts {o : Oper} {a : Act} {w : World} (x : Operand) (ho : o.op = .load 52 x) (b : Nat) (hx : a.eval x = .pointer (some ⟨b, 0, none⟩)) (tv : Value) (hb : w.heap[b]? = some (.cells #[tv] 52 (0, 0))) : (execOp a.eval o).run Tryz.prog w = .ok (.value (.agg #[tv])) w := by
  have hl := run_loadVar_row (P := Tryz.prog) w b 52 52 #[tv] (0, 0) _ hb Tryz.underlying52 rfl (ts_info tv)
  unfold execOp
  simp only [ho, hx, Instr.loadAt, Instr.sureAddr, Sem.run_bind, Sem.run_pure, Result.andThen_ok, hl]
theorem winsX_R (D : List RH) : winsX (D.map blkI) = winsR D := by unfold winsX winsR; rw [List.foldl_map]; rfl
theorem tickX_R (D : List RH) : tickX (D.map blkI) = tickR D := by
  cases D with
  | nil => rfl
  | cons x l =>
    show (blkI x :: l.map blkI).foldl _ _ = _
    rw [← List.map_cons, List.foldl_map]; rfl
theorem ids_R {D : List RH} (hp : ∀ x ∈ D, ∀ p ∈ x.h.ps, p.length = 32) : ((D.map blkI).map (·.1)).map (·.1) = D.map fun x => nmR x.h := by
  rw [List.map_map, List.map_map]
  exact List.map_congr_left (fun x hx => nmR_own (hp x hx))
theorem keyX_R {D : List RH} (hp : ∀ x ∈ D, ∀ p ∈ x.h.ps, p.length = 32) : keyX (D.map blkI) = (rsort (D.map fun x => nmR x.h)).flatten := by
  unfold keyX
  rw [← ids_R hp, rsort_kset, kB_flat]
theorem okH.hk {w : World} {x : RH} (h : okH w x) : HOk (ownH x.h) := by
  have h1 := h.n
  have h2 := h.k
  have h3 := h.a
  exact ⟨by show (x.h.ps.map nmOf).length ≤ _; rw [List.length_map]; omega, by show x.h.tk.length ≤ _; omega, h3.pw, h3.b1, h3.b2, h3.b3, h3.b4⟩
set_option maxRecDepth 20000 in
set_option maxHeartbeats 16000000 in
theorem law8is_any {w : World} {tv : Value} {X : List BI} (hV : TsV w tv X) (ao : Option Addr) (cap : Nat) (D : List RH) (hL : Rd encR w ao D) (hA : ∀ x ∈ D, okH w x) (hl : D.length ≤ 5) (h0 : D ≠ []) (hX : X = D.map blkI)
    (hS : rsort (D.map fun x => nmR x.h) = D.map fun x => nmR x.h) (hP : ∀ x ∈ D, (kB (kset (ownH x.h).ps)) = x.h.ps.flatten) (hT : TabAt w) :
    Calls Tryz.prog 23 #[.agg #[tv], .slice ao D.length cap] w fun r w' => r = .returned (.bool true) ∧ Below w.heap.size w w' := by
  have hp32 : ∀ x ∈ D, ∀ p ∈ x.h.ps, p.length = 32 := fun x hx => (hA x hx).p
  have HXX := Lib.hid hX
  have HV := Lib.hid hV
  have HL := Lib.hid hL
  have HA := Lib.hid hA
  have HT := Lib.hid hT
  have HPP := Lib.hid hP
  have HS := Lib.hid hS
  obtain ⟨n, hn⟩ : ∃ n, n = D.length := ⟨_, rfl⟩
  have HN := Lib.hid hn
  have hXl : X.length = n := by rw [hX, List.length_map, hn]
  have HXL := Lib.hid hXl
  have hn5 : n ≤ 5 := by omega
  have n0 : (0 : Int) < n := by
    have : 0 < D.length := List.length_pos_iff.2 h0
    omega
  have nz : ((n : Int) == 0) = false := by simp; omega
  have hX0 : X ≠ [] := fun e => by rw [e] at hXl; simp at hXl; omega
  obtain ⟨KX, hKX⟩ : ∃ KX, KX = keyX X := ⟨_, rfl⟩
  obtain ⟨WX, hWX⟩ : ∃ WX, WX = winsX X := ⟨_, rfl⟩
  obtain ⟨TX, hTX⟩ : ∃ TX, TX = tickX X := ⟨_, rfl⟩
  obtain ⟨PN, hPN⟩ : ∃ PN, PN = D.map fun x => nmR x.h := ⟨_, rfl⟩
  have HPN := Lib.hid hPN
  have HZR : Hid (∀ u : World, Below w.heap.size w u → Calls Tryz.prog 24 #[.agg #[tv]] u fun r w' => r = .returned (.bool false) ∧ Below u.heap.size u w') := Lib.hid (fun u hb => by
    have h := (hV.old hb).zero
    rw [decide_eq_false hX0] at h; exact h)
  have HKY : Hid (∀ u : World, Below w.heap.size w u → Calls Tryz.prog 50 #[.agg #[tv]] u fun r w' => r = .returned (.string ⟨KX.toArray⟩) ∧ Below u.heap.size u w') := Lib.hid (fun u hb => by rw [hKX]; exact (hV.old hb).key)
  have HWI : Hid (∀ u : World, Below w.heap.size w u → Calls Tryz.prog 52 #[.agg #[tv]] u fun r w' => r = .returned (.int .i64 WX) ∧ Below u.heap.size u w') := Lib.hid (fun u hb => by rw [hWX]; exact (hV.old hb).wins)
  have HTI : Hid (∀ u : World, Below w.heap.size w u → Calls Tryz.prog 54 #[.agg #[tv]] u fun r w' => r = .returned (.string ⟨TX.toArray⟩) ∧ Below u.heap.size u w') := Lib.hid (fun u hb => by rw [hTX]; exact (hV.old hb).ticket)
  have HBK : Hid (∀ u : World, Below w.heap.size w u → Calls Tryz.prog 56 #[.agg #[tv]] u fun r w' => ∃ q c K, r = .returned (.slice q n c) ∧ K.map Blk.is = X ∧ TsW u w' q c K ∧ Below u.heap.size u w') := Lib.hid (fun u hb => by rw [← hXl]; exact (hV.old hb).blocks)
  have HRK : Hid (∀ u : World, Below w.heap.size w u → Calls Tryz.prog 51 #[.slice ao n cap] u fun r w' => r = .returned (.string ⟨KX.toArray⟩) ∧ Below u.heap.size u w') := Lib.hid (fun u hb => by
    have h := r8key_any ao cap D u (hL.old hb) (fun x hx => (hA x hx).old hb) (by omega)
    rw [← keyX_R hp32, ← hX, ← hKX, ← hn] at h; exact h)
  have HRW : Hid (∀ u : World, Below w.heap.size w u → Calls Tryz.prog 53 #[.slice ao n cap] u fun r w' => r = .returned (.int .i64 WX) ∧ Below u.heap.size u w') := Lib.hid (fun u hb => by
    have h := r8wins_any ao cap D u (hL.old hb) (by omega)
    rw [← winsX_R, ← hX, ← hWX, ← hn] at h; exact h)
  have HRT : Hid (∀ u : World, Below w.heap.size w u → Calls Tryz.prog 55 #[.slice ao n cap] u fun r w' => r = .returned (.string ⟨TX.toArray⟩) ∧ Below u.heap.size u w') := Lib.hid (fun u hb => by
    have h := r8ticket_any ao cap D u (hL.old hb) (by omega)
    rw [← tickX_R, ← hX, ← hTX, ← hn] at h; exact h)
  have HRN : Hid (∀ u : World, Below w.heap.size w u → Calls Tryz.prog 59 #[.slice ao n cap] u fun r w' => ∃ q c, r = .returned (.slice q n c) ∧ Rd encS w' q PN ∧ Below u.heap.size u w') := Lib.hid (fun u hb => by
    have h := r8names_any ao cap D u (hL.old hb) (fun x hx => (hA x hx).old hb) (by omega)
    rw [hS, List.length_map, ← hPN, ← hn] at h; exact h)
  have hne1 : (binOp .neq 4 (.bool false) (.bool false)).run Tryz.prog w = .ok (.bool false) w := by simp [go_sem]
  have hb0 := alloc1 w (.cells #[tv] 52)
  have HR2 : Hid ((w.alloc (.cells #[tv] 52)).heap[w.heap.size]? = some (.cells #[tv] 52 (0, 0))) := Lib.hid (heap_alloc_new w _)
  have HSIV : Hid ((Tryz.prog.info? 52).map (·.size) = some (#[tv] : Array Value).size) := Lib.hid (ts_info tv)
  obtain ⟨W0, hW0⟩ : ∃ W0, W0 = w.alloc (.cells #[tv] 52) := ⟨_, rfl⟩
  obtain ⟨g2, hg2⟩ : ∃ g2, g2 = w.heap.size := ⟨_, rfl⟩
  rw [← hW0, ← hg2] at HR2
  rw [← hW0] at hb0
  have HB0 := Lib.hid hb0
  have HW0 := Lib.hid hW0
  have HG2 := Lib.hid hg2
  rw [← hn]
  clear hV hL hA hT hP hS hX hn hXl hX0 h0 hKX hWX hTX hPN hne1 hp32 hb0 hW0 hg2
  go_enter Tryz.func23, Tryz.ntmps23
  go_upto_region 1 with fail
  rw [← HG2.out, ← HW0.out]
  go_wp2_with (refine wpList_load_rowG rfl 52 (.tmp 2) rfl g2 rfl 52 #[tv] (0, 0) _ HR2.out Tryz.underlying52 rfl HSIV.out ?_)
  refine (HZR.out _ HB0.out).mono ?_
  rintro r W1 ⟨rfl, hb1⟩
  have HB1 := Lib.hid (HB0.out.trans (hb1.mono HB0.out.size))
  have HR21 := Lib.hid ((hb1.block g2 (Array.getElem?_eq_some_iff.1 HR2.out).1).trans HR2.out)
  clear hb1
  go_wp2_with (refine wpList_load_rowG rfl 52 (.tmp 2) rfl g2 rfl 52 #[tv] (0, 0) _ HR21.out Tryz.underlying52 rfl HSIV.out ?_)
  refine (HKY.out _ HB1.out).mono ?_
  rintro r W2 ⟨rfl, hb2⟩
  have HB2 := Lib.hid (HB1.out.trans (hb2.mono HB1.out.size))
  have HR22 := Lib.hid ((hb2.block g2 (Array.getElem?_eq_some_iff.1 HR21.out).1).trans HR21.out)
  clear hb2
  go_wp2_with fail
  refine (HRK.out _ HB2.out).mono ?_
  rintro r W3 ⟨rfl, hb3⟩
  have HB3 := Lib.hid (HB2.out.trans (hb3.mono HB2.out.size))
  have HR23 := Lib.hid ((hb3.block g2 (Array.getElem?_eq_some_iff.1 HR22.out).1).trans HR22.out)
  clear hb3
  go_wp2_with (refine wpList_load_rowG rfl 52 (.tmp 2) rfl g2 rfl 52 #[tv] (0, 0) _ HR23.out Tryz.underlying52 rfl HSIV.out ?_)
  refine (HWI.out _ HB3.out).mono ?_
  rintro r W4 ⟨rfl, hb4⟩
  have HB4 := Lib.hid (HB3.out.trans (hb4.mono HB3.out.size))
  have HR24 := Lib.hid ((hb4.block g2 (Array.getElem?_eq_some_iff.1 HR23.out).1).trans HR23.out)
  clear hb4
  go_wp2_with fail
  refine (HRW.out _ HB4.out).mono ?_
  rintro r W5 ⟨rfl, hb5⟩
  have HB5 := Lib.hid (HB4.out.trans (hb5.mono HB4.out.size))
  have HR25 := Lib.hid ((hb5.block g2 (Array.getElem?_eq_some_iff.1 HR24.out).1).trans HR24.out)
  clear hb5
  go_wp2_with (refine wpList_load_rowG rfl 52 (.tmp 2) rfl g2 rfl 52 #[tv] (0, 0) _ HR25.out Tryz.underlying52 rfl HSIV.out ?_)
  refine (HTI.out _ HB5.out).mono ?_
  rintro r W6 ⟨rfl, hb6⟩
  have HB6 := Lib.hid (HB5.out.trans (hb6.mono HB5.out.size))
  have HR26 := Lib.hid ((hb6.block g2 (Array.getElem?_eq_some_iff.1 HR25.out).1).trans HR25.out)
  clear hb6
  go_wp2_with fail
  refine (HRT.out _ HB6.out).mono ?_
  rintro r W7 ⟨rfl, hb7⟩
  have HB7 := Lib.hid (HB6.out.trans (hb7.mono HB6.out.size))
  have HR27 := Lib.hid ((hb7.block g2 (Array.getElem?_eq_some_iff.1 HR26.out).1).trans HR26.out)
  clear hb7
  go_wp2_with (refine wpList_load_rowG rfl 52 (.tmp 2) rfl g2 rfl 52 #[tv] (0, 0) _ HR27.out Tryz.underlying52 rfl HSIV.out ?_)
  refine (HBK.out _ HB7.out).mono ?_
  rintro r W8 ⟨q8, c8, K8, rfl, _, _, hb8⟩
  have HB8 := Lib.hid (HB7.out.trans (hb8.mono HB7.out.size))
  have HR28 := Lib.hid ((hb8.block g2 (Array.getElem?_eq_some_iff.1 HR27.out).1).trans HR27.out)
  clear hb8
  go_wp2_with fail
  refine (HRN.out _ HB8.out).mono ?_
  rintro r W9 ⟨q5, c5, rfl, hr5, hb9⟩
  have HB9 := Lib.hid (HB8.out.trans (hb9.mono HB8.out.size))
  have HR29 := Lib.hid ((hb9.block g2 (Array.getElem?_eq_some_iff.1 HR28.out).1).trans HR28.out)
  have HP9 := Lib.hid hr5
  clear hr5 hb9
  go_wp2_with (refine wpList_load_rowG rfl 52 (.tmp 2) rfl g2 rfl 52 #[tv] (0, 0) _ HR29.out Tryz.underlying52 rfl HSIV.out ?_)
  refine (HBK.out _ HB9.out).mono ?_
  rintro r WA ⟨qK, cK, K, rfl, hK, hTK, hbA⟩
  have HBA := Lib.hid (HB9.out.trans (hbA.mono HB9.out.size))
  have HR2A := Lib.hid ((hbA.block g2 (Array.getElem?_eq_some_iff.1 HR29.out).1).trans HR29.out)
  have HPA9 := Lib.hid (HP9.out.old hbA)
  have HK := Lib.hid (hK.trans HXX.out)
  have HTK := Lib.hid hTK
  clear hbA hK hTK HZR HKY HWI HTI HBK HRK HRW HRT HRN HR2 HR21 HR22 HR23 HR24 HR25 HR26 HR27 HR28 HR29 HP9 HB0 HB1 HB2 HB3 HB4 HB5 HB6 HB7 HB8 HB9 HG2 HW0
  go_wp2_with fail
  go_loopw [64] (fun s64 wx => ∃ i : Nat, i ≤ n ∧ s64 = .int .i64 (i : Int) ∧ Hid (Below WA.heap.size WA wx)) (fun s64 _ => n - (intOf s64).toNat)
  case atStart => exact ⟨0, Nat.zero_le _, rfl, Lib.hid (Below.refl _ _)⟩
  case round =>
    obtain ⟨i, hik, rfl, HW⟩ := hrel
    have i0 : (0 : Int) ≤ (i : Int) := by omega
    by_cases hlt : i < n
    · have ik : (i : Int) < (n : Int) := by omega
      have hiD : i < D.length := by have := HN.out; omega
      have hiK : i < K.length := by have := congrArg List.length HK.out; simp only [List.length_map] at this; omega
      obtain ⟨b1, hb1⟩ : ∃ b1, b1 = K[i] := ⟨_, rfl⟩
      obtain ⟨y, hy⟩ : ∃ y, y = D[i] := ⟨_, rfl⟩
      have hbi : b1.is = blkI y := by
        have := List.getElem_of_eq HK.out (i := i) (by rw [List.length_map]; exact hiK)
        rw [List.getElem_map, List.getElem_map, ← hb1, ← hy] at this; exact this
      have hyD : y ∈ D := by rw [hy]; exact List.getElem_mem _
      have e1 : b1.id = nmH (ownH y.h) := congrArg (·.1) hbi
      have e2 : b1.h = ownH y.h := congrArg (·.2) hbi
      obtain ⟨nm, hnm⟩ : ∃ nm, nm = b1.id := ⟨_, rfl⟩
      have HNI := Lib.hid hnm
      have HNR : Hid (PN[i]? = some nm.1) := Lib.hid (by rw [HPN.out, List.getElem?_map, List.getElem?_eq_getElem hiD, ← hy, hnm, e1, nmR_own (HA.out y hyD).p]; rfl)
      have HOK : Hid (HOk b1.h) := Lib.hid (by rw [e2]; exact (HA.out y hyD).hk)
      have HNN : Hid (nmH b1.h = nm) := Lib.hid (by rw [e2, hnm, e1])
      have HBM : Hid (b1 ∈ K) := Lib.hid (by rw [hb1]; exact List.getElem_mem _)
      obtain ⟨bs8, off8, rfl, hbs8, hc⟩ := (HTK.out.rw.rd.old HW.out) i hiK
      rw [← hb1] at hc
      have hcc : ∀ j u, b1.cells[j]? = some u → wr.cell? ⟨bs8, off8 + i * 39 + j, none⟩ = some u := hc
      have HCC := Lib.hid hcc
      have HSZ : Hid (b1.cells.toArray.size = 39) := Lib.hid b1.size
      have HQB := Lib.hid (blk_info b1)
      have HQ4 : Hid (∀ v ∈ b1.cells.toArray.toList, v.oneCell' = true) := Lib.hid (by simpa using b1.one)
      clear hc hcc hbs8 hb1 hy hbi hyD e1 e2 hnm hiD hiK hlt
      go_upto_region 9 with (first
        | (refine wpList_load_blk rfl (.tmp 67) rfl bs8 (off8 + i * 39) rfl b1 HCC.out ?_; go_frame)
        | (refine wpList_store_row rfl rfl 72 (.tmp 7) (.tmp 68) rfl wr.heap.size rfl 72 _ b1.cells.toArray rfl (heap_alloc_new wr _) HSZ.out.symm HQB.out HQ4.out ?_))
      refine wp_gen (fun W => W.heap[wr.heap.size]? = some (.cells b1.cells.toArray 72 (0, 0)) ∧ Below wr.heap.size wr W) (row_new wr _ _ b1.cells.toArray 72 rfl) (fun W8 hW8 => ?_)
      obtain ⟨g7, hg7⟩ : ∃ g, g = wr.heap.size := ⟨_, rfl⟩
      rw [← hg7] at hW8
      rw [← hg7]
      have HR7 := Lib.hid hW8.1
      have HBA8 : Hid (Below WA.heap.size WA W8) := Lib.hid (HW.out.trans (by rw [hg7] at hW8; exact hW8.2.mono HW.out.size))
      have HBW8 : Hid (Below w.heap.size w W8) := Lib.hid (HBA.out.trans (HBA8.out.mono HBA.out.size))
      have hpi : i < PN.length := by
        have := HNR.out
        exact (List.getElem?_eq_some_iff.1 this).1
      obtain ⟨bs, off, rfl, hbs9, hcs⟩ := (HPA9.out.old HBA8.out).str i hpi
      have hpe : PN[i] = nm.1 := by have := HNR.out; rw [List.getElem?_eq_getElem hpi] at this; exact Option.some.inj this
      have HSC : Hid (∀ w1, Below W8.heap.size W8 w1 → w1.cell? ⟨bs, off + i, none⟩ = some (.string ⟨nm.1.toArray⟩)) := Lib.hid (fun w1 hb => by
        obtain ⟨bs', off', e, _, hcs'⟩ := ((HPA9.out.old HBA8.out).old hb).str i hpi
        cases e
        rw [hcs', hpe])
      have HIC : Hid (∀ w1, Below W8.heap.size W8 w1 → ∀ j u, (encN.f nm)[j]? = some u → w1.cell? ⟨g7, 0 + j, none⟩ = some u) := Lib.hid (fun w1 hb j u hu => by
        have hrow := (hb.block _ (Array.getElem?_eq_some_iff.1 HR7.out).1).trans HR7.out
        rw [HNI.out] at hu
        exact blk_id hrow hu)
      have HCV : Hid (∀ w1, Below W8.heap.size W8 w1 → (convert 68 9 (.slice (some ⟨g7, 0, none⟩) 32 32)).run Tryz.prog w1 = .ok (.string ⟨nm.1.toArray⟩) w1) := Lib.hid (fun w1 hb => by
        have hl := nm.2
        rw [run_convert_bytes_arg w1 68 5 Tryz.underlying68 Tryz.underlying5 g7 0 32 32 (nm.1.map fun x => (x.toNat : Int)) (by simpa using hl) (fun j hj => by
          rw [HIC.out w1 hb j _ (vals_get nm.1 j (by omega))]
          simp [List.getD, hl, hj]) 9 Tryz.underlying9]
        simp [strOfNums, Function.comp_def])
      have HSL : Hid (∀ w1, Below W8.heap.size W8 w1 → ∀ (o : Oper) (a : Act), o.op = .slice 70 (.tmp 69) none none none → a.tmps.getD 69 undef = .pointer (some ⟨g7, 0, none⟩) → (execOp a.eval o).run Tryz.prog w1 = .ok (.value (.slice (some ⟨g7, 0, none⟩) 32 32)) w1) := Lib.hid (fun w1 hb o a ho ha => by
        have hw := HIC.out w1 hb
        simp [execOp, ho, go_sem, ha])
      have HLT : Hid (∀ w1, Below W8.heap.size W8 w1 → ∀ (o : Oper) (a : Act), o.op = .load 52 (.tmp 2) → a.tmps.getD 2 undef = .pointer (some ⟨g2, 0, none⟩) → (execOp a.eval o).run Tryz.prog w1 = .ok (.value (.agg #[tv])) w1) := Lib.hid (fun w1 hb o a ho ha => exec_load_ts (.tmp 2) ho g2 ha tv (((HBA8.out.block _ (Array.getElem?_eq_some_iff.1 HR2A.out).1).trans HR2A.out) ▸ (hb.block _ (Nat.lt_of_lt_of_le (Array.getElem?_eq_some_iff.1 HR2A.out).1 HBA8.out.size))))
      have HBO8 : Hid (Rd encN W8 b1.q b1.h.ps) := Lib.hid ((HTK.out.ok b1 HBM.out).rw.rd.old HBA8.out)
      have HIDC : Hid (∀ w1, Below W8.heap.size W8 w1 → Calls Tryz.prog 34 #[.agg (hcells b1.h b1.q b1.c)] w1 fun r w' => r = .returned (.agg (vals nm.1).toArray) ∧ Below w1.heap.size w1 w') := Lib.hid (fun w1 hb => by
        have h := hid_any b1.h b1.q b1.c w1 (HBO8.out.old hb) HOK.out ((HT.out.old HBW8.out).old hb)
        have e : shaB (hbytes (·.1) b1.h) = nm.1 := congrArg (·.1) HNN.out
        rw [e] at h; exact h)
      have HHAS : Hid (∀ w1, Below W8.heap.size W8 w1 → Calls Tryz.prog 60 #[.agg #[tv], .agg (vals nm.1).toArray] w1 fun r w' => r = .returned (.bool true) ∧ Below w1.heap.size w1 w') := Lib.hid (fun w1 hb => by
        have h := ((HV.out.old HBW8.out).old hb).has nm
        have e : (X.any fun b => b.1.1 == nm.1) = true := by
          rw [List.any_eq_true]
          refine ⟨b1.is, ?_, by rw [HNI.out]; simp [Blk.is]⟩
          rw [HXX.out, ← HK.out]; exact List.mem_map_of_mem HBM.out
        rw [e] at h; exact h)
      have HNE : Hid (∀ w, (binOp .neq 70 (.agg (vals nm.1).toArray) (.agg (vals nm.1).toArray)).run Tryz.prog w = .ok (.bool false) w) := Lib.hid (fun w => by rw [id_neq nm.1 nm.1 nm.2 nm.2 w]; simp)
      clear hW8 hg7 HQ4 HQB HSZ hcs hpe hpi HCC hbs9
      refine wp_region_puts (fun t v w => VK (match t with
        | 69 => .eq (.pointer (some ⟨g7, 0, none⟩))
        | 70 => .eq (.slice (some ⟨g7, 0, none⟩) 32 32)
        | 71 => .eq (.string ⟨nm.1.toArray⟩)
        | 72 => .eq (.slice (some ⟨bs, off, none⟩) n c5)
        | 73 => .eq (.int .i64 (i : Int))
        | 74 => .eq (.pointer (some ⟨bs, off + i, none⟩))
        | 75 => .eq (.string ⟨nm.1.toArray⟩)
        | 76 => .eq (Value.bool false)
        | 77 => .eq (Value.bool false)
        | 78 => .eq (.pointer (some ⟨g7, 32, none⟩))
        | 79 => .eq (.agg (hcells b1.h b1.q b1.c))
        | 80 => .eq (.agg (vals nm.1).toArray)
        | 81 => .eq (.pointer (some ⟨g7, 0, none⟩))
        | 82 => .eq (.agg (vals nm.1).toArray)
        | 83 => .eq (Value.bool false)
        | 84 => .eq (Value.bool false)
        | 85 => .eq (Value.bool false)
        | 86 => .eq (.agg #[tv])
        | 87 => .eq (.pointer (some ⟨g7, 0, none⟩))
        | 88 => .eq (.agg (vals nm.1).toArray)
        | 89 => .eq (Value.bool true)
        | 90 => .eq (Value.bool false)
        | 91 => .eq (Value.bool false)
        | _ => .any) v w) (fun w' => Below W8.heap.size W8 w') 119 (by kernel_rfl) (by decide +kernel) rfl (Below.refl _ _).drew (by
        refine OweAll.cons (owesK rfl rfl fun a w1 ha hG hV => ?_) ?_
        · skip
          have h7 := ha.outer 7 (by decide +kernel)
          simp only [Act.eval] at h7
          exact ⟨.pointer (some ⟨g7, 0, none⟩), w1, wanted_free rfl, by simp [execOp, go_sem, h7], Below.refl _ _, rfl⟩
        refine OweAll.cons (owesK rfl rfl fun a w1 ha hG hV => ?_) ?_
        · skip
          have h69 : a.tmps.getD 69 undef = .pointer (some ⟨g7, 0, none⟩) := hV.get 69 (by decide +kernel)
          exact ⟨.slice (some ⟨g7, 0, none⟩) 32 32, w1, wanted_free rfl, HSL.out w1 hG _ _ rfl h69, Below.refl _ _, rfl⟩
        refine OweAll.cons (owesK rfl rfl fun a w1 ha hG hV => ?_) ?_
        · skip
          have h70 : a.tmps.getD 70 undef = .slice (some ⟨g7, 0, none⟩) 32 32 := hV.get 70 (by decide +kernel)
          have hcv := HCV.out w1 hG
          exact ⟨.string ⟨nm.1.toArray⟩, w1, wanted_free rfl, by simp [execOp, go_sem, h70, hcv], Below.refl _ _, rfl⟩
        refine OweAll.cons (owesK rfl rfl fun a w1 ha hG hV => ?_) ?_
        · skip
          have h5 := ha.outer 5 (by decide +kernel)
          simp only [Act.eval] at h5
          exact ⟨.slice (some ⟨bs, off, none⟩) n c5, w1, wanted_free rfl, by simp [execOp, go_sem, h5], Below.refl _ _, rfl⟩
        refine OweAll.cons (owesK rfl rfl fun a w1 ha hG hV => ?_) ?_
        · skip
          have h6 := ha.outer 6 (by decide +kernel)
          simp only [Act.eval] at h6
          exact ⟨.int .i64 (i : Int), w1, wanted_free rfl, by simp [execOp, go_sem, h6], Below.refl _ _, rfl⟩
        refine OweAll.cons (owesK rfl rfl fun a w1 ha hG hV => ?_) ?_
        · skip
          have h72 : a.tmps.getD 72 undef = .slice (some ⟨bs, off, none⟩) n c5 := hV.get 72 (by decide +kernel)
          have h73 : a.tmps.getD 73 undef = .int .i64 (i : Int) := hV.get 73 (by decide +kernel)
          exact ⟨.pointer (some ⟨bs, off + i, none⟩), w1, wanted_free rfl, by simp [execOp, go_sem, h72, h73, i0, ik], Below.refl _ _, rfl⟩
        refine OweAll.cons (owesK rfl rfl fun a w1 ha hG hV => ?_) ?_
        · skip
          have h74 : a.tmps.getD 74 undef = .pointer (some ⟨bs, off + i, none⟩) := hV.get 74 (by decide +kernel)
          have hcell := HSC.out w1 hG
          exact ⟨.string ⟨nm.1.toArray⟩, w1, wanted_free rfl, by simp [execOp, go_sem, h74, hcell], Below.refl _ _, rfl⟩
        refine OweAll.cons (owesK rfl rfl fun a w1 ha hG hV => ?_) ?_
        · skip
          have h71 : a.tmps.getD 71 undef = .string ⟨nm.1.toArray⟩ := hV.get 71 (by decide +kernel)
          have h75 : a.tmps.getD 75 undef = .string ⟨nm.1.toArray⟩ := hV.get 75 (by decide +kernel)
          exact ⟨Value.bool false, w1, wanted_free rfl, by simp [execOp, go_sem, h71, h75], Below.refl _ _, rfl⟩
        refine OweAll.cons (owesK rfl rfl fun a w1 ha hG hV => ?_) ?_
        · skip
          have h76 : a.tmps.getD 76 undef = Value.bool false := hV.get 76 (by decide +kernel)
          exact ⟨Value.bool false, w1, wanted_free rfl, by simp [execOp, go_sem, h76], Below.refl _ _, rfl⟩
        refine OweAll.cons (owesK rfl rfl fun a w1 ha hG hV => ?_) ?_
        · skip
          have h7 := ha.outer 7 (by decide +kernel)
          simp only [Act.eval] at h7
          exact ⟨.pointer (some ⟨g7, 32, none⟩), w1, (wanted_of (t := 77) rfl rfl (hV.get 77 (by decide +kernel))), by simp [execOp, go_sem, h7], Below.refl _ _, rfl⟩
        refine OweAll.cons (owesK rfl rfl fun a w1 ha hG hV => ?_) ?_
        · skip
          have h78 : a.tmps.getD 78 undef = .pointer (some ⟨g7, 32, none⟩) := hV.get 78 (by decide +kernel)
          have hrow := (hG.block _ (Array.getElem?_eq_some_iff.1 HR7.out).1).trans HR7.out
          exact ⟨.agg (hcells b1.h b1.q b1.c), w1, (wanted_of (t := 77) rfl rfl (hV.get 77 (by decide +kernel))), exec_load_hd (.tmp 78) rfl g7 32 h78 b1.h b1.q b1.c (fun i u hu => blk_hd hrow hu), Below.refl _ _, rfl⟩
        refine OweAll.cons (owesK_call rfl rfl 34 fun a w1 ha hG hV => ?_) ?_
        · skip
          have h79 : a.tmps.getD 79 undef = .agg (hcells b1.h b1.q b1.c) := hV.get 79 (by decide +kernel)
          refine ⟨#[.agg (hcells b1.h b1.q b1.c)], (wanted_of (t := 77) rfl rfl (hV.get 77 (by decide +kernel))), by simp [execOp, resolve, invoke, go_sem, h79], ?_⟩
          refine (HIDC.out w1 hG).mono ?_
          rintro r u2 ⟨rfl, hb⟩; exact ⟨_, rfl, rfl, hb⟩
        refine OweAll.cons (owesK rfl rfl fun a w1 ha hG hV => ?_) ?_
        · skip
          have h7 := ha.outer 7 (by decide +kernel)
          simp only [Act.eval] at h7
          exact ⟨.pointer (some ⟨g7, 0, none⟩), w1, (wanted_of (t := 77) rfl rfl (hV.get 77 (by decide +kernel))), by simp [execOp, go_sem, h7], Below.refl _ _, rfl⟩
        refine OweAll.cons (owesK rfl rfl fun a w1 ha hG hV => ?_) ?_
        · skip
          have h81 : a.tmps.getD 81 undef = .pointer (some ⟨g7, 0, none⟩) := hV.get 81 (by decide +kernel)
          have hrow := (hG.block _ (Array.getElem?_eq_some_iff.1 HR7.out).1).trans HR7.out
          have hni := HNI.out
          exact ⟨.agg (vals nm.1).toArray, w1, (wanted_of (t := 77) rfl rfl (hV.get 77 (by decide +kernel))), exec_load_mid (.tmp 81) rfl g7 0 h81 nm (fun _ u hu => by rw [hni] at hu; exact blk_id hrow hu), Below.refl _ _, rfl⟩
        refine OweAll.cons (owesK rfl rfl fun a w1 ha hG hV => ?_) ?_
        · skip
          have h80 : a.tmps.getD 80 undef = .agg (vals nm.1).toArray := hV.get 80 (by decide +kernel)
          have h82 : a.tmps.getD 82 undef = .agg (vals nm.1).toArray := hV.get 82 (by decide +kernel)
          have hne := HNE.out
          exact ⟨Value.bool false, w1, (wanted_of (t := 77) rfl rfl (hV.get 77 (by decide +kernel))), by simp [execOp, go_sem, h80, h82, hne], Below.refl _ _, rfl⟩
        refine OweAll.cons (owesK rfl rfl fun a w1 ha hG hV => ?_) ?_
        · skip
          have h77 : a.tmps.getD 77 undef = Value.bool false := hV.get 77 (by decide +kernel)
          have h83 : a.tmps.getD 83 undef = Value.bool false := hV.get 83 (by decide +kernel)
          exact ⟨Value.bool false, w1, wanted_free rfl, by simp [execOp, go_sem, h77, h83], Below.refl _ _, rfl⟩
        refine OweAll.cons (owesK rfl rfl fun a w1 ha hG hV => ?_) ?_
        · skip
          have h84 : a.tmps.getD 84 undef = Value.bool false := hV.get 84 (by decide +kernel)
          exact ⟨Value.bool false, w1, wanted_free rfl, by simp [execOp, go_sem, h84], Below.refl _ _, rfl⟩
        refine OweAll.cons (owesK rfl rfl fun a w1 ha hG hV => ?_) ?_
        · skip
          have h2 := ha.outer 2 (by decide +kernel)
          simp only [Act.eval] at h2
          exact ⟨.agg #[tv], w1, (wanted_of (t := 85) rfl rfl (hV.get 85 (by decide +kernel))), HLT.out w1 hG _ _ rfl h2, Below.refl _ _, rfl⟩
        refine OweAll.cons (owesK rfl rfl fun a w1 ha hG hV => ?_) ?_
        · skip
          have h7 := ha.outer 7 (by decide +kernel)
          simp only [Act.eval] at h7
          exact ⟨.pointer (some ⟨g7, 0, none⟩), w1, (wanted_of (t := 85) rfl rfl (hV.get 85 (by decide +kernel))), by simp [execOp, go_sem, h7], Below.refl _ _, rfl⟩
        refine OweAll.cons (owesK rfl rfl fun a w1 ha hG hV => ?_) ?_
        · skip
          have h87 : a.tmps.getD 87 undef = .pointer (some ⟨g7, 0, none⟩) := hV.get 87 (by decide +kernel)
          have hrow := (hG.block _ (Array.getElem?_eq_some_iff.1 HR7.out).1).trans HR7.out
          have hni := HNI.out
          exact ⟨.agg (vals nm.1).toArray, w1, (wanted_of (t := 85) rfl rfl (hV.get 85 (by decide +kernel))), exec_load_mid (.tmp 87) rfl g7 0 h87 nm (fun _ u hu => by rw [hni] at hu; exact blk_id hrow hu), Below.refl _ _, rfl⟩
        refine OweAll.cons (owesK_call rfl rfl 60 fun a w1 ha hG hV => ?_) ?_
        · skip
          have h86 : a.tmps.getD 86 undef = .agg #[tv] := hV.get 86 (by decide +kernel)
          have h88 : a.tmps.getD 88 undef = .agg (vals nm.1).toArray := hV.get 88 (by decide +kernel)
          refine ⟨#[.agg #[tv], .agg (vals nm.1).toArray], (wanted_of (t := 85) rfl rfl (hV.get 85 (by decide +kernel))), by simp [execOp, resolve, invoke, go_sem, h86, h88], ?_⟩
          refine (HHAS.out w1 hG).mono ?_
          rintro r u2 ⟨rfl, hb⟩; exact ⟨_, rfl, rfl, hb⟩
        refine OweAll.cons (owesK rfl rfl fun a w1 ha hG hV => ?_) ?_
        · skip
          have h89 : a.tmps.getD 89 undef = Value.bool true := hV.get 89 (by decide +kernel)
          exact ⟨Value.bool false, w1, (wanted_of (t := 85) rfl rfl (hV.get 85 (by decide +kernel))), by simp [execOp, go_sem, h89], Below.refl _ _, rfl⟩
        refine OweAll.cons (owesK rfl rfl fun a w1 ha hG hV => ?_) ?_
        · skip
          have h85 : a.tmps.getD 85 undef = Value.bool false := hV.get 85 (by decide +kernel)
          have h90 : a.tmps.getD 90 undef = Value.bool false := hV.get 90 (by decide +kernel)
          exact ⟨Value.bool false, w1, wanted_free rfl, by simp [execOp, go_sem, h85, h90], Below.refl _ _, rfl⟩
        exact OweAll.nil
        ) ?_
      intro f wz hG hv
      have e91 : f 91 = Value.bool false := hv 22 _ 91 rfl rfl
      rename_i hK
      refine hK _ _ ?_
      clear hK hv
      simp only [dsts, puts, List.filterMap_cons, List.filterMap_nil, List.foldl_cons, List.foldl_nil, Act.put, List.setIfInBounds_toArray, List.set_cons_succ, List.set_cons_zero, e91]
      clear e91
      have HE := Lib.hid (HBA8.out.trans (hG.mono HBA8.out.size))
      clear hG
      go_wp2_with fail
      go_roundw
      case rel => exact ⟨i + 1, by omega, by go_num, HE⟩
      case measure => simp [intOf]; omega
    · obtain rfl : i = n := by omega
      have ik : ¬ (i : Int) < i := by omega
      have hBw : Below w.heap.size w wr := HBA.out.trans (HW.out.mono HBA.out.size)
      have HBW := Lib.hid hBw
      have hiD : 0 < D.length := by have := HN.out; omega
      obtain ⟨y, hy⟩ : ∃ y, y = D[0] := ⟨_, rfl⟩
      have hyD : y ∈ D := by rw [hy]; exact List.getElem_mem _
      have hXy : ∃ l, X = blkI y :: l := by
        rw [HXX.out]
        obtain ⟨x, l, hxl⟩ : ∃ x l, D = x :: l := by cases hD : D with
          | nil => rw [hD] at hiD; simp at hiD
          | cons x l => exact ⟨x, l, rfl⟩
        subst hxl
        exact ⟨l.map blkI, by rw [hy]; rfl⟩
      have HYK := Lib.hid (HA.out y hyD)
      obtain ⟨bs, off, rfl, hbs, hc⟩ := (HL.out.old hBw) 0 hiD
      obtain ⟨PX, hPX⟩ : ∃ PX, PX = y.h.ps.flatten := ⟨_, rfl⟩
      obtain ⟨pl, hpl⟩ : ∃ pl, pl = y.h.ps.length := ⟨_, rfl⟩
      obtain ⟨hgt, hhg⟩ : ∃ hgt, hgt = y.h.ht := ⟨_, rfl⟩
      obtain ⟨pow, hpo⟩ : ∃ pow, pow = y.h.pw := ⟨_, rfl⟩
      have HCX : Hid (∀ w1, Below wr.heap.size wr w1 → ∀ j u, y.cells[j]? = some u → w1.cell? ⟨bs, off + j, none⟩ = some u) := Lib.hid (fun w1 hb j u hu => by
        obtain ⟨bs', off', e, _, hc'⟩ := ((HL.out.old HBW.out).old hb) 0 hiD
        cases e
        rw [← hy] at hc'
        have := hc' j u hu
        rw [Nat.zero_mul, Nat.add_zero] at this
        exact this)
      have HC0 : Hid (∀ w1, Below wr.heap.size wr w1 → w1.cell? ⟨bs, off, none⟩ = some (.int .i64 hgt)) := Lib.hid (fun w1 hb => by have := HCX.out w1 hb 0 (.int .i64 hgt) (by rw [hhg]; rfl); exact this)
      have HC4 : Hid (∀ w1, Below wr.heap.size wr w1 → w1.cell? ⟨bs, off + 4, none⟩ = some (.int .u64 (pow : Int))) := Lib.hid (fun w1 hb => HCX.out w1 hb 4 (.int .u64 (pow : Int)) (by rw [hpo]; rfl))
      have HC5 : Hid (∀ w1, Below wr.heap.size wr w1 → w1.cell? ⟨bs, off + 5, none⟩ = some (.slice y.q pl y.c)) := Lib.hid (fun w1 hb => HCX.out w1 hb 5 (.slice y.q pl y.c) (by rw [hpl]; rfl))
      have HPA : Hid (∀ w1, Below wr.heap.size wr w1 → Calls Tryz.prog 57 #[.agg #[tv]] w1 fun r w' => r = .returned (.string ⟨PX.toArray⟩) ∧ Below w1.heap.size w1 w') := Lib.hid (fun w1 hb => by
        have h := ((HV.out.old HBW.out).old hb).parents
        obtain ⟨l, e⟩ := hXy
        have e2 : parX X = PX := by rw [e, hPX, ← HPP.out y hyD]; rfl
        rw [e2] at h; exact h)
      have HHT : Hid (∀ w1, Below wr.heap.size wr w1 → Calls Tryz.prog 38 #[.agg #[tv]] w1 fun r w' => r = .returned (.int .i64 hgt) ∧ Below w1.heap.size w1 w') := Lib.hid (fun w1 hb => by
        have h := ((HV.out.old HBW.out).old hb).height
        obtain ⟨l, e⟩ := hXy
        have e2 : htX X = hgt := by rw [e, hhg]; rfl
        rw [e2] at h; exact h)
      have HPW : Hid (∀ w1, Below wr.heap.size wr w1 → Calls Tryz.prog 58 #[.agg #[tv]] w1 fun r w' => r = .returned (.int .u64 (pow : Int)) ∧ Below w1.heap.size w1 w') := Lib.hid (fun w1 hb => by
        have h := ((HV.out.old HBW.out).old hb).power
        obtain ⟨l, e⟩ := hXy
        have e2 : pwX X = pow := by rw [e, hpo]; rfl
        rw [e2] at h; exact h)
      have HJN : Hid (∀ w1, Below wr.heap.size wr w1 → Calls Tryz.prog 20 #[.slice y.q pl y.c] w1 fun r w' => r = .returned (.string ⟨PX.toArray⟩) ∧ Below w1.heap.size w1 w') := Lib.hid (fun w1 hb => by
        have h1 := HYK.out.n
        have h := rjoin_any y.q y.c y.h.ps w1 (((HYK.out.old HBW.out).old hb).a.rd) (by omega) (by rw [flat32 _ HYK.out.p]; omega)
        rw [← hpl, ← hPX] at h
        exact h.mono (by rintro r w' ⟨rfl, rfl⟩; exact ⟨rfl, Below.refl _ _⟩))
      have HLT : Hid (∀ w1, Below wr.heap.size wr w1 → ∀ (o : Oper) (a : Act), o.op = .load 52 (.tmp 2) → a.tmps.getD 2 undef = .pointer (some ⟨g2, 0, none⟩) → (execOp a.eval o).run Tryz.prog w1 = .ok (.value (.agg #[tv])) w1) := Lib.hid (fun w1 hb o a ho ha => exec_load_ts (.tmp 2) ho g2 ha tv (((HW.out.block _ (Array.getElem?_eq_some_iff.1 HR2A.out).1).trans HR2A.out) ▸ (hb.block _ (Nat.lt_of_lt_of_le (Array.getElem?_eq_some_iff.1 HR2A.out).1 HW.out.size))))
      have hi9 : ¬ i = 0 := by omega
      clear hc hbs hXy hyD hy hPX hpl hhg hpo hBw hiD
      go_upto_region 12 with fail
      refine wp_region_puts (fun t v w => VK (match t with
        | 93 => .eq (.agg #[tv])
        | 94 => .eq (.string ⟨PX.toArray⟩)
        | 95 => .eq (.slice (some ⟨bs, off, none⟩) i cap)
        | 96 => .eq (.pointer (some ⟨bs, off, none⟩))
        | 97 => .eq (.pointer (some ⟨bs, off + 5, none⟩))
        | 98 => .eq (.slice y.q pl y.c)
        | 99 => .eq (.string ⟨PX.toArray⟩)
        | 100 => .eq (Value.bool true)
        | 101 => .eq (Value.bool true)
        | 102 => .eq (.agg #[tv])
        | 103 => .eq (.int .i64 hgt)
        | 104 => .eq (.slice (some ⟨bs, off, none⟩) i cap)
        | 105 => .eq (.pointer (some ⟨bs, off, none⟩))
        | 106 => .eq (.pointer (some ⟨bs, off, none⟩))
        | 107 => .eq (.int .i64 hgt)
        | 108 => .eq (Value.bool true)
        | 109 => .eq (Value.bool true)
        | 110 => .eq (Value.bool true)
        | 111 => .eq (.agg #[tv])
        | 112 => .eq (.int .u64 (pow : Int))
        | 113 => .eq (.slice (some ⟨bs, off, none⟩) i cap)
        | 114 => .eq (.pointer (some ⟨bs, off, none⟩))
        | 115 => .eq (.pointer (some ⟨bs, off + 4, none⟩))
        | 116 => .eq (.int .u64 (pow : Int))
        | 117 => .eq (Value.bool true)
        | 118 => .eq (Value.bool true)
        | 4 => .eq (Value.bool true)
        | _ => .any) v w) (fun w' => Below wr.heap.size wr w') 119 (by kernel_rfl) (by decide +kernel) rfl (Below.refl _ _).drew (by
        refine OweAll.cons (owesK rfl rfl fun a w1 ha hG hV => ?_) ?_
        · skip
          have h2 := ha.outer 2 (by decide +kernel)
          simp only [Act.eval] at h2
          exact ⟨.agg #[tv], w1, wanted_free rfl, HLT.out w1 hG _ _ rfl h2, Below.refl _ _, rfl⟩
        refine OweAll.cons (owesK_call rfl rfl 57 fun a w1 ha hG hV => ?_) ?_
        · skip
          have h93 : a.tmps.getD 93 undef = .agg #[tv] := hV.get 93 (by decide +kernel)
          refine ⟨#[.agg #[tv]], wanted_free rfl, by simp [execOp, resolve, invoke, go_sem, h93], ?_⟩
          refine (HPA.out w1 hG).mono ?_
          rintro r u2 ⟨rfl, hb⟩; exact ⟨_, rfl, rfl, hb⟩
        refine OweAll.cons (owesK rfl rfl fun a w1 ha hG hV => ?_) ?_
        · skip
          have h1 := ha.outer 1 (by decide +kernel)
          simp only [Act.eval] at h1
          exact ⟨.slice (some ⟨bs, off, none⟩) i cap, w1, wanted_free rfl, by simp [execOp, go_sem, h1], Below.refl _ _, rfl⟩
        refine OweAll.cons (owesK rfl rfl fun a w1 ha hG hV => ?_) ?_
        · skip
          have h95 : a.tmps.getD 95 undef = .slice (some ⟨bs, off, none⟩) i cap := hV.get 95 (by decide +kernel)
          exact ⟨.pointer (some ⟨bs, off, none⟩), w1, wanted_free rfl, by simp [execOp, go_sem, h95, n0, hi9], Below.refl _ _, rfl⟩
        refine OweAll.cons (owesK rfl rfl fun a w1 ha hG hV => ?_) ?_
        · skip
          have h96 : a.tmps.getD 96 undef = .pointer (some ⟨bs, off, none⟩) := hV.get 96 (by decide +kernel)
          exact ⟨.pointer (some ⟨bs, off + 5, none⟩), w1, wanted_free rfl, by simp [execOp, go_sem, h96], Below.refl _ _, rfl⟩
        refine OweAll.cons (owesK rfl rfl fun a w1 ha hG hV => ?_) ?_
        · skip
          have h97 : a.tmps.getD 97 undef = .pointer (some ⟨bs, off + 5, none⟩) := hV.get 97 (by decide +kernel)
          have hc5 := HC5.out w1 hG
          exact ⟨.slice y.q pl y.c, w1, wanted_free rfl, by simp [execOp, go_sem, h97, hc5], Below.refl _ _, rfl⟩
        refine OweAll.cons (owesK_call rfl rfl 20 fun a w1 ha hG hV => ?_) ?_
        · skip
          have h98 : a.tmps.getD 98 undef = .slice y.q pl y.c := hV.get 98 (by decide +kernel)
          refine ⟨#[.slice y.q pl y.c], wanted_free rfl, by simp [execOp, resolve, invoke, go_sem, h98], ?_⟩
          refine (HJN.out w1 hG).mono ?_
          rintro r u2 ⟨rfl, hb⟩; exact ⟨_, rfl, rfl, hb⟩
        refine OweAll.cons (owesK rfl rfl fun a w1 ha hG hV => ?_) ?_
        · skip
          have h94 : a.tmps.getD 94 undef = .string ⟨PX.toArray⟩ := hV.get 94 (by decide +kernel)
          have h99 : a.tmps.getD 99 undef = .string ⟨PX.toArray⟩ := hV.get 99 (by decide +kernel)
          exact ⟨Value.bool true, w1, wanted_free rfl, by simp [execOp, go_sem, h94, h99], Below.refl _ _, rfl⟩
        refine OweAll.cons (owesK rfl rfl fun a w1 ha hG hV => ?_) ?_
        · skip
          have h100 : a.tmps.getD 100 undef = Value.bool true := hV.get 100 (by decide +kernel)
          exact ⟨Value.bool true, w1, wanted_free rfl, by simp [execOp, go_sem, h100], Below.refl _ _, rfl⟩
        refine OweAll.cons (owesK rfl rfl fun a w1 ha hG hV => ?_) ?_
        · skip
          have h2 := ha.outer 2 (by decide +kernel)
          simp only [Act.eval] at h2
          exact ⟨.agg #[tv], w1, (wanted_of (t := 101) rfl rfl (hV.get 101 (by decide +kernel))), HLT.out w1 hG _ _ rfl h2, Below.refl _ _, rfl⟩
        refine OweAll.cons (owesK_call rfl rfl 38 fun a w1 ha hG hV => ?_) ?_
        · skip
          have h102 : a.tmps.getD 102 undef = .agg #[tv] := hV.get 102 (by decide +kernel)
          refine ⟨#[.agg #[tv]], (wanted_of (t := 101) rfl rfl (hV.get 101 (by decide +kernel))), by simp [execOp, resolve, invoke, go_sem, h102], ?_⟩
          refine (HHT.out w1 hG).mono ?_
          rintro r u2 ⟨rfl, hb⟩; exact ⟨_, rfl, rfl, hb⟩
        refine OweAll.cons (owesK rfl rfl fun a w1 ha hG hV => ?_) ?_
        · skip
          have h1 := ha.outer 1 (by decide +kernel)
          simp only [Act.eval] at h1
          exact ⟨.slice (some ⟨bs, off, none⟩) i cap, w1, (wanted_of (t := 101) rfl rfl (hV.get 101 (by decide +kernel))), by simp [execOp, go_sem, h1], Below.refl _ _, rfl⟩
        refine OweAll.cons (owesK rfl rfl fun a w1 ha hG hV => ?_) ?_
        · skip
          have h104 : a.tmps.getD 104 undef = .slice (some ⟨bs, off, none⟩) i cap := hV.get 104 (by decide +kernel)
          exact ⟨.pointer (some ⟨bs, off, none⟩), w1, (wanted_of (t := 101) rfl rfl (hV.get 101 (by decide +kernel))), by simp [execOp, go_sem, h104, n0, hi9], Below.refl _ _, rfl⟩
        refine OweAll.cons (owesK rfl rfl fun a w1 ha hG hV => ?_) ?_
        · skip
          have h105 : a.tmps.getD 105 undef = .pointer (some ⟨bs, off, none⟩) := hV.get 105 (by decide +kernel)
          exact ⟨.pointer (some ⟨bs, off, none⟩), w1, (wanted_of (t := 101) rfl rfl (hV.get 101 (by decide +kernel))), by simp [execOp, go_sem, h105], Below.refl _ _, rfl⟩
        refine OweAll.cons (owesK rfl rfl fun a w1 ha hG hV => ?_) ?_
        · skip
          have h106 : a.tmps.getD 106 undef = .pointer (some ⟨bs, off, none⟩) := hV.get 106 (by decide +kernel)
          have hc0 := HC0.out w1 hG
          exact ⟨.int .i64 hgt, w1, (wanted_of (t := 101) rfl rfl (hV.get 101 (by decide +kernel))), by simp [execOp, go_sem, h106, hc0], Below.refl _ _, rfl⟩
        refine OweAll.cons (owesK rfl rfl fun a w1 ha hG hV => ?_) ?_
        · skip
          have h103 : a.tmps.getD 103 undef = .int .i64 hgt := hV.get 103 (by decide +kernel)
          have h107 : a.tmps.getD 107 undef = .int .i64 hgt := hV.get 107 (by decide +kernel)
          exact ⟨Value.bool true, w1, (wanted_of (t := 101) rfl rfl (hV.get 101 (by decide +kernel))), by simp [execOp, go_sem, h103, h107], Below.refl _ _, rfl⟩
        refine OweAll.cons (owesK rfl rfl fun a w1 ha hG hV => ?_) ?_
        · skip
          have h101 : a.tmps.getD 101 undef = Value.bool true := hV.get 101 (by decide +kernel)
          have h108 : a.tmps.getD 108 undef = Value.bool true := hV.get 108 (by decide +kernel)
          exact ⟨Value.bool true, w1, wanted_free rfl, by simp [execOp, go_sem, h101, h108], Below.refl _ _, rfl⟩
        refine OweAll.cons (owesK rfl rfl fun a w1 ha hG hV => ?_) ?_
        · skip
          have h109 : a.tmps.getD 109 undef = Value.bool true := hV.get 109 (by decide +kernel)
          exact ⟨Value.bool true, w1, wanted_free rfl, by simp [execOp, go_sem, h109], Below.refl _ _, rfl⟩
        refine OweAll.cons (owesK rfl rfl fun a w1 ha hG hV => ?_) ?_
        · skip
          have h2 := ha.outer 2 (by decide +kernel)
          simp only [Act.eval] at h2
          exact ⟨.agg #[tv], w1, (wanted_of (t := 110) rfl rfl (hV.get 110 (by decide +kernel))), HLT.out w1 hG _ _ rfl h2, Below.refl _ _, rfl⟩
        refine OweAll.cons (owesK_call rfl rfl 58 fun a w1 ha hG hV => ?_) ?_
        · skip
          have h111 : a.tmps.getD 111 undef = .agg #[tv] := hV.get 111 (by decide +kernel)
          refine ⟨#[.agg #[tv]], (wanted_of (t := 110) rfl rfl (hV.get 110 (by decide +kernel))), by simp [execOp, resolve, invoke, go_sem, h111], ?_⟩
          refine (HPW.out w1 hG).mono ?_
          rintro r u2 ⟨rfl, hb⟩; exact ⟨_, rfl, rfl, hb⟩
        refine OweAll.cons (owesK rfl rfl fun a w1 ha hG hV => ?_) ?_
        · skip
          have h1 := ha.outer 1 (by decide +kernel)
          simp only [Act.eval] at h1
          exact ⟨.slice (some ⟨bs, off, none⟩) i cap, w1, (wanted_of (t := 110) rfl rfl (hV.get 110 (by decide +kernel))), by simp [execOp, go_sem, h1], Below.refl _ _, rfl⟩
        refine OweAll.cons (owesK rfl rfl fun a w1 ha hG hV => ?_) ?_
        · skip
          have h113 : a.tmps.getD 113 undef = .slice (some ⟨bs, off, none⟩) i cap := hV.get 113 (by decide +kernel)
          exact ⟨.pointer (some ⟨bs, off, none⟩), w1, (wanted_of (t := 110) rfl rfl (hV.get 110 (by decide +kernel))), by simp [execOp, go_sem, h113, n0, hi9], Below.refl _ _, rfl⟩
        refine OweAll.cons (owesK rfl rfl fun a w1 ha hG hV => ?_) ?_
        · skip
          have h114 : a.tmps.getD 114 undef = .pointer (some ⟨bs, off, none⟩) := hV.get 114 (by decide +kernel)
          exact ⟨.pointer (some ⟨bs, off + 4, none⟩), w1, (wanted_of (t := 110) rfl rfl (hV.get 110 (by decide +kernel))), by simp [execOp, go_sem, h114], Below.refl _ _, rfl⟩
        refine OweAll.cons (owesK rfl rfl fun a w1 ha hG hV => ?_) ?_
        · skip
          have h115 : a.tmps.getD 115 undef = .pointer (some ⟨bs, off + 4, none⟩) := hV.get 115 (by decide +kernel)
          have hc4 := HC4.out w1 hG
          exact ⟨.int .u64 (pow : Int), w1, (wanted_of (t := 110) rfl rfl (hV.get 110 (by decide +kernel))), by simp [execOp, go_sem, h115, hc4], Below.refl _ _, rfl⟩
        refine OweAll.cons (owesK rfl rfl fun a w1 ha hG hV => ?_) ?_
        · skip
          have h112 : a.tmps.getD 112 undef = .int .u64 (pow : Int) := hV.get 112 (by decide +kernel)
          have h116 : a.tmps.getD 116 undef = .int .u64 (pow : Int) := hV.get 116 (by decide +kernel)
          exact ⟨Value.bool true, w1, (wanted_of (t := 110) rfl rfl (hV.get 110 (by decide +kernel))), by simp [execOp, go_sem, h112, h116], Below.refl _ _, rfl⟩
        refine OweAll.cons (owesK rfl rfl fun a w1 ha hG hV => ?_) ?_
        · skip
          have h110 : a.tmps.getD 110 undef = Value.bool true := hV.get 110 (by decide +kernel)
          have h117 : a.tmps.getD 117 undef = Value.bool true := hV.get 117 (by decide +kernel)
          exact ⟨Value.bool true, w1, wanted_free rfl, by simp [execOp, go_sem, h110, h117], Below.refl _ _, rfl⟩
        refine OweAll.cons (owesK rfl rfl fun a w1 ha hG hV => ?_) ?_
        · skip
          have h118 : a.tmps.getD 118 undef = Value.bool true := hV.get 118 (by decide +kernel)
          exact ⟨Value.bool true, w1, wanted_free rfl, by simp [execOp, go_sem, h118], Below.refl _ _, rfl⟩
        exact OweAll.nil
        ) ?_
      intro f wz hG hv
      have e4 : f 4 = Value.bool true := hv 26 _ 4 rfl rfl
      rename_i hK
      refine hK _ _ ?_
      clear hK hv
      simp only [dsts, puts, List.filterMap_cons, List.filterMap_nil, List.foldl_cons, List.foldl_nil, Act.put, List.setIfInBounds_toArray, List.set_cons_succ, List.set_cons_zero, e4]
      clear e4
      have HE := Lib.hid (HBW.out.trans (hG.mono HBW.out.size))
      clear hG
      go_wp2_with fail
      go_ret
      exact ⟨rfl, HE.out⟩
end Go.Proofs.YtemnebbdaljfbaaGreatDoor

namespace Go.Proofs.YtemnebbdaljfbaaGreatDoor
open Go.RowKit

structure AdS (w w1 w2 : World) (da : Nat) (hq : Option Addr) (D : List RH) (wr : World) (k : Nat) (L : List RBk) (q : Option Addr) : Prop where
  dg : ∃ (S R : Nat → Prop) (X : DD), DG S R wr da X ∧ KL X.K L ∧ (∀ b ∈ X.K, b.id = nmH b.h) ∧ (∀ j, R j → w.heap.size ≤ j ∧ (j < w1.heap.size ∨ w2.heap.size ≤ j)) ∧ (∀ a, q = some a → ¬ R a.block)
  rd : Rd encRB wr q L
  len : L.length ≤ 1 + k
  pos : 0 < L.length
  src : ∀ r ∈ L, r.x = grh ∨ (r.x ∈ D ∧ chkR r.x = 0)
  hd : Rd encR wr hq D
  ok : ∀ y ∈ D, okH wr y
  b : Below w.heap.size w wr
  s2 : w2.heap.size ≤ wr.heap.size
section
variable {w w1 w2 : World} {da : Nat} {hq : Option Addr} {D : List RH} {wr : World} {k : Nat} {L : List RBk} {q : Option Addr}
theorem AdS.old {w' : World} (h : AdS w w1 w2 da hq D wr k L q) (hb : Below wr.heap.size wr w') : AdS w w1 w2 da hq D w' k L q := by
  obtain ⟨S, R, X, h1, h2⟩ := h.dg
  exact ⟨⟨S, R, X, h1.old hb, h2⟩, h.rd.old hb, h.len, h.pos, h.src, h.hd.old hb, fun y hy => (h.ok y hy).old hb, h.b.trans (hb.mono h.b.size), Nat.le_trans h.s2 hb.size⟩
theorem AdS.more (h : AdS w w1 w2 da hq D wr k L q) : AdS w w1 w2 da hq D wr (k + 1) L q := ⟨h.dg, h.rd, Nat.le_trans h.len (by omega), h.pos, h.src, h.hd, h.ok, h.b, h.s2⟩
theorem grh_ok (u : World) : okH u grh := ⟨grh_arg u, by decide, (fun p hp => by cases hp), by decide, .inl rfl, (fun a e => by cases e)⟩
theorem AdS.fm (h : AdS w w1 w2 da hq D wr k L q) : ∀ r ∈ L, fmR wr r.x := fun r hr => by
  rcases h.src r hr with e | ⟨hd, hc⟩
  · rw [e]; exact ⟨grh_ok wr, by decide⟩
  · refine ⟨h.ok _ hd, ?_⟩
    have := ((chk_zero _ _).1 hc).1.2.2.2.2.1.2
    omega
theorem AdS.p32 (h : AdS w w1 w2 da hq D wr k L q) : ∀ r ∈ L, ∀ p ∈ r.x.h.ps, p.length = 32 := fun r hr => (h.fm r hr).ok.p
theorem AdS.hts (h : AdS w w1 w2 da hq D wr k L q) : ∀ r ∈ L, 0 ≤ r.x.h.ht ∧ r.x.h.ht ≤ 9223372036854775807 := fun r hr => by
  rcases h.src r hr with e | ⟨_, hc⟩
  · rw [e]; decide
  · have := ((chk_zero _ _).1 hc).1.1
    omega
end
end Go.Proofs.YtemnebbdaljfbaaGreatDoor

namespace Go.Proofs.YtemnebbdaljfbaaGreatDoor
open Go.RowKit

theorem AdS.swap {w w1 w2 : World} {da : Nat} {hq : Option Addr} {D : List RH} {wr w' : World} {k : Nat} {L : List RBk} {q q2 : Option Addr} (h : AdS w w1 w2 da hq D wr k L q) (hb : Below wr.heap.size wr w') (hrd : Rd encRB w' q2 L) (hq2 : ∀ a, q2 = some a → q = some a ∨ wr.heap.size ≤ a.block) : AdS w w1 w2 da hq D w' k L q2 := by
  obtain ⟨S, R, X, h1, h2, h3, h4, h5⟩ := h.dg
  have ho := h.old hb
  exact ⟨⟨S, R, X, h1.old hb, h2, h3, h4, fun a e hr => by
    rcases hq2 a e with h6 | h6
    · exact h5 a h6 hr
    · have := h1.rl _ hr; omega⟩, hrd, h.len, h.pos, h.src, ho.hd, ho.ok, ho.b, ho.s2⟩
theorem RkP.zero {L : List RBk} {x : RH} (h : RkP L x 0) : chkR x = 0 := by
  rcases h with ⟨h1, h2⟩ | ⟨h1, _⟩ | ⟨h1, _⟩
  · exact absurd h2.symm h1
  · exact h1
  · exact h1
def IsOk : Prop := ∀ (u : World) (S R : Nat → Prop) (da : Nat) (X : DD) (q : Option Addr) (c : Nat) (L : List RBk), DG S R u da X → KL X.K L → (∀ b ∈ X.K, b.id = nmH b.h) → Rd encRB u q L → L.length ≤ 1000 → TabAt u →
  Calls Tryz.prog 17 #[.pointer (some ⟨da, 0, none⟩), .slice q L.length c] u fun r w' => r = .returned (.bool true) ∧ Below u.heap.size u w'
end Go.Proofs.YtemnebbdaljfbaaGreatDoor

namespace Go.Proofs.YtemnebbdaljfbaaGreatDoor
open Go.RowKit

section
variable {w w1 w2 : World} {da : Nat} {hq : Option Addr} {D : List RH} {wr : World} {k : Nat} {L : List RBk} {q : Option Addr}
theorem AdS.mid {w7 w8 : World} {S R : Nat → Prop} {X : DD} {y : RH} (h : AdS w w1 w2 da hq D wr k L q) (hB : BtH w1 w2 hq D)
    (hdg : DG S R wr da X) (hR : ∀ j, R j → w.heap.size ≤ j ∧ (j < w1.heap.size ∨ w2.heap.size ≤ j)) (hnR : ∀ a, q = some a → ¬ R a.block)
    (h7 : Below wr.heap.size wr w7) (hy : y ∈ D) (hm : Mod S w7 w8) : Rd encRB w8 q L ∧ (∀ r ∈ L, fmR w8 r.x) ∧ okH w8 y := by
  have hSR : ∀ j, S j → R j := hdg.rs
  have hfr : ∀ j, S j → ¬ (w1.heap.size ≤ j ∧ j < w2.heap.size) := fun j hj hh => by have := (hR j (hSR j hj)).2; omega
  have hD : ∀ z ∈ D, okH w8 z := fun z hz => ((h.ok z hz).old h7).kept hm (fun a e hs => hfr _ hs (hB.2 z hz a e))
  refine ⟨(h.rd.old h7).mod hm (fun a e hs => hnR a e (hSR _ hs)), fun r hr => ?_, hD y hy⟩
  have hf := h.fm r hr
  rcases h.src r hr with e | ⟨hd, _⟩
  · rw [e]; exact ⟨grh_ok w8, by decide⟩
  · exact ⟨hD _ hd, hf.pw⟩
theorem AdS.add2 {w7 w8 w9 : World} {q' : Option Addr} {S R : Nat → Prop} {X : DD} {y : RH} (h : AdS w w1 w2 da hq D wr k L q) (hB : BtH w1 w2 hq D)
    (hdg : DG S R wr da X) (hkl : KL X.K L) (hid : ∀ b ∈ X.K, b.id = nmH b.h) (hR : ∀ j, R j → w.heap.size ≤ j ∧ (j < w1.heap.size ∨ w2.heap.size ≤ j)) (hnR : ∀ a, q = some a → ¬ R a.block)
    (h7 : Below wr.heap.size wr w7) (hy : y ∈ D) (hc : chkR y = 0) (ha : AddP S R w7 da X (ownH y.h) w8)
    (h9 : Below w8.heap.size w8 w9) (hL : Rd encRB w9 q' (L ++ [⟨nmR y.h, y⟩])) (hq' : ∀ a, q' = some a → q = some a ∨ w8.heap.size ≤ a.block) : AdS w w1 w2 da hq D w9 (k + 1) (L ++ [⟨nmR y.h, y⟩]) q' := by
  obtain ⟨S', R', F', b, hbi, hd, hm, hS', hR'⟩ := ha
  have hSR : ∀ j, S j → R j := hdg.rs
  have hlt : ∀ a, q = some a → a.block < wr.heap.size := fun a e => by
    obtain ⟨b', o, e2, hb', _⟩ := h.rd 0 h.pos
    rw [e] at e2; cases e2; exact hb'
  have hfr : ∀ j, S j → ¬ (w1.heap.size ≤ j ∧ j < w2.heap.size) := fun j hj hh => by have := (hR j (hSR j hj)).2; omega
  have hyp := (h.ok y hy).p
  have hb8 : Below w.heap.size w w8 := by
    have h1 : Below w.heap.size w w7 := h.b.trans (h7.mono h.b.size)
    exact h1.trans (hm.to_below h1.size (fun j hj hs => by have := (hR j (hSR j hs)).1; omega))
  refine ⟨⟨S', R', _, hd.old h9, hkl.add hyp hbi, ?_, ?_, ?_⟩, hL, ?_, ?_, ?_, ((h.hd.old h7).mod hm (fun a e hs => hfr _ hs (hB.1 a e))).old h9, ?_, ?_, ?_⟩
  · intro b' hb'
    rcases List.mem_cons.1 hb' with rfl | hb'
    · have e1 : b'.id = nmH (ownH y.h) := congrArg (·.1) hbi
      have e2 : b'.h = ownH y.h := congrArg (·.2) hbi
      rw [e1, e2]
    · exact hid b' hb'
  · intro j hj
    rcases hR' j hj with h1 | h1
    · exact hR j h1
    · have := h7.size; have := h.s2; have := h.b.size; omega
  · intro a e hr
    rcases hq' a e with h2 | h2
    · rcases hR' _ hr with h1 | h1
      · exact hnR a h2 h1
      · have := hlt a h2; have := h7.size; omega
    · have := hd.rl _ hr; omega
  · have := h.len; rw [List.length_append, List.length_singleton]; omega
  · rw [List.length_append, List.length_singleton]; omega
  · intro r hr
    rcases List.mem_append.1 hr with h1 | h1
    · exact h.src r h1
    · rw [List.mem_singleton.1 h1]; exact .inr ⟨hy, hc⟩
  · intro z hz
    exact (((h.ok z hz).old h7).kept hm (fun a e hs => hfr _ hs (hB.2 z hz a e))).old h9
  · exact hb8.trans (h9.mono hb8.size)
  · have := h.s2; have := h7.size; have := hm.size; have := h9.size; omega
end
end Go.Proofs.YtemnebbdaljfbaaGreatDoor

namespace Go.Proofs.YtemnebbdaljfbaaGreatDoor
open Go.RowKit

section
variable {S R : Nat → Prop} {w : World} {da : Nat} {X : DD}
end
end Go.Proofs.YtemnebbdaljfbaaGreatDoor

namespace Go.Proofs.YtemnebbdaljfbaaGreatDoor
open Go.RowKit

section
variable {S R : Nat → Prop} {w : World} {da : Nat} {X : DD}
def noK (X : DD) (n : Nm) : Bool := !hasE n (kE X.K)
def IdxP (X : DD) (L : List Nm) (e : Int) : Prop :=
  (e = -1 ∧ ∀ n ∈ L, noK X n = true) ∨ ∃ i, ∃ h : i < L.length, e = (i : Int) ∧ noK X L[i] = false ∧ ∀ n ∈ L.take i, noK X n = true
set_option maxRecDepth 20000 in
set_option maxHeartbeats 4000000 in
theorem indexN_any (h : DG S R w da X) (q : Option Addr) (c : Nat) (L : List Nm) (hL : Rd encN w q L) (hn : L.length ≤ 1000000) :
    Calls Tryz.prog 96 #[.slice q L.length c, .func (.func 33) #[.pointer (some ⟨da, 0, none⟩)] #[]] w fun r w' => ∃ e, r = .returned (.int .i64 e) ∧ IdxP X L e ∧ Below w.heap.size w w' := by
  obtain ⟨F, hF⟩ : ∃ F : Ending → World → Prop, F = fun r w' => ∃ e, r = .returned (.int .i64 e) ∧ IdxP X L e ∧ Below w.heap.size w w' := ⟨_, rfl⟩
  rw [← hF]
  have HF := Lib.hid hF
  have HL := Lib.hid hL
  have HDG := Lib.hid h
  obtain ⟨n, hnn⟩ : ∃ n, n = L.length := ⟨_, rfl⟩
  have HN := Lib.hid hnn
  rw [← hnn] at hn ⊢
  clear hF hL h hnn
  go_enter Tryz.func96, Tryz.ntmps96
  go_wp2_with fail
  go_loopw [8] (fun s8 wr => ∃ k : Nat, k ≤ n ∧ s8 = .int .i64 (k : Int) ∧ Hid (Below w.heap.size w wr ∧ ∀ x ∈ L.take k, noK X x = true)) (fun s8 _ => n - (intOf s8).toNat)
  case atStart => exact ⟨0, Nat.zero_le _, rfl, Lib.hid ⟨Below.refl _ _, fun x hx => by simp at hx⟩⟩
  case round =>
    obtain ⟨k, hk, rfl, HS⟩ := hrel
    have k0 : (0 : Int) ≤ k := by omega
    by_cases hlt : k < n
    · have hlt' : (k : Int) < n := by omega
      have hkl : k < L.length := by have := HN.out; omega
      obtain ⟨bs, off, rfl, hbs, hc⟩ := (HL.out.old HS.out.1) k hkl
      obtain ⟨y, hy⟩ : ∃ y, y = L[k] := ⟨_, rfl⟩
      have HTK : Hid (L.take (k + 1) = L.take k ++ [y]) := Lib.hid (by rw [List.take_succ_eq_append_getElem hkl, hy])
      have HYL : Hid (∃ h : k < L.length, L[k] = y) := Lib.hid ⟨hkl, hy.symm⟩
      rw [← hy] at hc
      have HCC : Hid (∀ i u, (encN.f y)[i]? = some u → wr.cell? ⟨bs, off + k * 32 + i, none⟩ = some u) := Lib.hid hc
      obtain ⟨b, hb⟩ : ∃ b, b = hasE y (kE X.K) := ⟨_, rfl⟩
      have HH := Lib.hid (dghas_any (HDG.out.old HS.out.1) y)
      rw [← hb] at HH
      have HNB : Hid (noK X y = !b) := Lib.hid (by rw [hb]; rfl)
      clear hy hc hbs hkl hb
      go_wp2_with (refine wpList_exec rfl (exec_load_mid (.tmp 14) rfl bs (off + k * 32) rfl y HCC.out) ?_; go_frame)
      refine HH.out.mono ?_
      rintro r w2 ⟨rfl, hb2⟩
      have HB2 := Lib.hid (HS.out.1.trans (hb2.mono HS.out.1.size))
      clear hb2 HH HCC
      cases b with
      | true =>
        go_wp2_with fail
        rw [HF.out]
        obtain ⟨h1, h2⟩ := HYL.out
        exact ⟨k, rfl, .inr ⟨k, h1, rfl, by rw [h2]; exact HNB.out, HS.out.2⟩, HB2.out⟩
      | false =>
        have HS2 : Hid (Below w.heap.size w w2 ∧ ∀ x ∈ L.take (k + 1), noK X x = true) := Lib.hid ⟨HB2.out, fun x hx => by
          rw [HTK.out, List.mem_append, List.mem_singleton] at hx
          rcases hx with hx | rfl
          · exact HS.out.2 x hx
          · exact HNB.out⟩
        go_wp2_with fail
        go_roundw
        case rel => exact ⟨k + 1, by omega, by go_num, HS2⟩
        case measure => simp [intOf]; omega
    · obtain rfl : n = k := by omega
      have hlt' : ¬ (n : Int) < n := by omega
      go_wp2_with fail
      rw [HF.out]
      exact ⟨-1, rfl, .inl ⟨rfl, fun x hx => HS.out.2 x (by rw [List.take_of_length_le (by have := HN.out; omega)]; exact hx)⟩, HS.out.1⟩
theorem filter_take {L : List Nm} {p : Nm → Bool} {i : Nat} (hi : i < L.length) (h : ∀ n ∈ L.take i, p n = true) (hn : p L[i] = false) : (L.take (i + 1)).filter p = L.take i := by
  rw [List.take_succ_eq_append_getElem hi, List.filter_append, List.filter_eq_self.2 h]
  simp [hn]
set_option maxRecDepth 20000 in
set_option maxHeartbeats 8000000 in
theorem deleteN_any (h : DG S R w da X) (q : Option Addr) (c : Nat) (L : List Nm) (hL : Rw encN 70 w q c L) (hq : ∀ a, q = some a → ¬ R a.block) (hn : L.length ≤ 1000000) :
    Calls Tryz.prog 63 #[.slice q L.length c, .func (.func 33) #[.pointer (some ⟨da, 0, none⟩)] #[]] w fun r w' => r = .returned (.slice q (L.filter (noK X)).length c) ∧ Rw encN 70 w' q c (L.filter (noK X)) ∧ Mod (fun i => ∃ a, q = some a ∧ i = a.block) w w' := by
  have hidx := indexN_any h q c L hL.rd hn
  have hcap := hL.cap_le
  obtain ⟨n, hnL⟩ : ∃ n, n = L.length := ⟨_, rfl⟩
  have Hn := Lib.hid hnL
  obtain ⟨F, hF⟩ : ∃ F : Ending → World → Prop, F = fun r w' => r = .returned (.slice q (L.filter (noK X)).length c) ∧ Rw encN 70 w' q c (L.filter (noK X)) ∧ Mod (fun i => ∃ a, q = some a ∧ i = a.block) w w' := ⟨_, rfl⟩
  have HF := Lib.hid hF
  rw [← hF]
  have HIX := Lib.hid hidx
  have HL := Lib.hid hL
  have HDG := Lib.hid h
  have HQ := Lib.hid hq
  rw [← hnL] at HIX hn hcap ⊢
  clear hidx hF hL h hq hnL
  go_enter Tryz.func63, Tryz.ntmps63
  go_wp2_with fail
  refine HIX.out.mono ?_
  rintro r w1 ⟨e, rfl, he, hb1⟩
  have HB1 := Lib.hid hb1
  have HL1 := Lib.hid (HL.out.old hb1)
  clear hb1 HIX
  rcases he with ⟨rfl, hall⟩ | ⟨i, hi, rfl, hno, hbef⟩
  · have HE : Hid (L.filter (noK X) = L) := Lib.hid (List.filter_eq_self.2 hall)
    clear hall
    go_wp2_with fail
    rw [HF.out]
    exact ⟨by rw [HE.out, ← Hn.out]; rfl, by rw [HE.out]; exact HL1.out, Mod.of_below HB1.out |>.mono (fun i hi h => absurd hi (by omega))⟩
  · obtain ⟨g, rfl⟩ : ∃ g, q = some ⟨g, 0, none⟩ := by
      rcases HL.out.shape with ⟨_, h0, _⟩ | ⟨g, e, _⟩
      · rw [h0] at hi; simp at hi
      · exact ⟨g, e⟩
    have hin : i < n := by have := Hn.out; omega
    have H0 : Hid ((L.take i).length = i ∧ L.take i = (L.take (i + 1)).filter (noK X)) := Lib.hid ⟨by rw [List.length_take]; omega, (filter_take hi hbef hno).symm⟩
    have H1 : Hid (Rw encN 70 w1 (some ⟨g, 0, none⟩) c (L.take i ++ L.drop (L.take i).length) ∧ Mod (fun k => k = g) w w1) := Lib.hid ⟨by rw [H0.out.1, List.take_append_drop]; exact HL1.out, (Mod.of_below HB1.out).mono (fun k hk h => absurd hk (by omega))⟩
    have e1 : IntKind.i64.wrap ((i : Int) + 1) = (i : Int) + 1 := IntWalk.i64_in _ (by omega)
    have e2 : ((i : Int) == -1) = false := by simp
    have e3 : ¬ (i : Int) = -1 := by omega
    clear hno hbef hi
    go_wp2_with fail
    go_loopw [5, 6] (fun s5 s6 wr => ∃ (j m : Nat) (C : List Nm), j ≤ n ∧ s6 = .int .i64 (j : Int) ∧ s5 = .int .i64 (m : Int) ∧ m < j ∧ Hid (C.length = m ∧ C = (L.take j).filter (noK X)) ∧ Hid (Rw encN 70 wr (some ⟨g, 0, none⟩) c (C ++ L.drop C.length) ∧ Mod (fun k => k = g) w wr)) (fun _ s6 _ => n - (intOf s6).toNat)
    case atStart => exact ⟨i + 1, i, L.take i, by omega, by go_num, rfl, by omega, Lib.hid ⟨H0.out.1, H0.out.2⟩, H1⟩
    case round =>
      clear H0 H1 HL1 HB1
      obtain ⟨j, m, C, hj, rfl, rfl, hmj, HC, HB⟩ := hrel
      have j0 : (0 : Int) ≤ j := by omega
      have m0 : (0 : Int) ≤ m := by omega
      have Hcn : Hid (C.length ≤ L.length) := Lib.hid (by rw [HC.out.1, ← Hn.out]; omega)
      by_cases hlt : j < n
      · have hlt' : (j : Int) < n := by omega
        have hmn' : (m : Int) < n := by omega
        have jl : j < L.length := by have := Hn.out; omega
        have hml := mid_len Hcn.out
        have c1 := HB.out.1.at j (by rw [hml]; exact jl) (j * 32) rfl
        rw [mid_get j (by rw [HC.out.1]; omega) jl] at c1
        obtain ⟨y, hy⟩ : ∃ y, y = L[j] := ⟨_, rfl⟩
        rw [← hy] at c1
        have C1 := Lib.hid c1
        have HTK : Hid ((L.take (j + 1)).filter (noK X) = C ++ if noK X y then [y] else []) := Lib.hid (by rw [List.take_succ_eq_append_getElem jl, List.filter_append, HC.out.2, hy]; congr 1; cases hp : noK X L[j] <;> simp [hp])
        obtain ⟨b, hb⟩ : ∃ b, b = hasE y (kE X.K) := ⟨_, rfl⟩
        have HNB : Hid (noK X y = !b) := Lib.hid (by rw [hb]; rfl)
        have hdgr : DG S R wr da X := HDG.out.kept HB.out.2 (fun k hk hr => HQ.out _ rfl (hk ▸ hr))
        have HH : Hid (∀ u, Below wr.heap.size wr u → Calls Tryz.prog 33 #[.pointer (some ⟨da, 0, none⟩), .agg (vals y.1).toArray] u fun r w' => r = .returned (.bool b) ∧ Below u.heap.size u w') := Lib.hid (fun u hu => by rw [hb]; exact dghas_any (hdgr.old hu) y)
        have HGL : Hid (g < wr.heap.size) := Lib.hid HB.out.1.lt
        have HSZ : Hid ((vals y.1).toArray.size = 32) := Lib.hid (id_size y.2)
        have HIN : Hid ((Tryz.prog.info? 70).map (·.size) = some (vals y.1).toArray.size) := Lib.hid (id_info y.2)
        have HON : Hid (∀ v ∈ (vals y.1).toArray.toList, v.oneCell' = true) := Lib.hid (id_one y.1)
        clear hy c1 hml jl hb hdgr
        go_upto_region 8 with (first
          | (refine wpList_exec rfl (exec_load_mid (.tmp 24) rfl g (j * 32) rfl y C1.out) ?_; go_frame)
          | (refine wpList_store_row rfl rfl 70 (.tmp 7) (.tmp 25) rfl wr.heap.size rfl 70 _ (vals y.1).toArray rfl (heap_alloc_new wr _) HSZ.out.symm HIN.out HON.out ?_))
        refine wp_gen (fun W5 => W5.heap[wr.heap.size]? = some (.cells (vals y.1).toArray 70 (0, 0)) ∧ Below wr.heap.size wr W5) (row_new wr _ _ (vals y.1).toArray 70 rfl) (fun W5 hW5 => ?_)
        obtain ⟨hr5, hb5⟩ := hW5
        obtain ⟨g7, hg7⟩ : ∃ g7, g7 = wr.heap.size := ⟨_, rfl⟩
        rw [← hg7] at hr5
        rw [← hg7]
        have HR5 := Lib.hid hr5
        have HB5 := Lib.hid hb5
        clear hr5 hb5 hg7
        go_upto_region 8 with fail
        go_upto_region 9 with (refine wpList_exec rfl (exec_load_row 70 (.tmp 7) rfl g7 rfl 70 _ (0, 0) _ HR5.out Tryz.underlying70 rfl HIN.out) ?_)
        refine (HH.out W5 HB5.out).mono ?_
        rintro r w6 ⟨rfl, hb6⟩
        have HR6 := Lib.hid ((hb6.block g7 (Array.getElem?_eq_some_iff.1 HR5.out).1).trans HR5.out)
        have hB := HB5.out.trans (hb6.mono HB5.out.size)
        have HG : Hid (Rw encN 70 w6 (some ⟨g, 0, none⟩) c (C ++ L.drop C.length) ∧ Mod (fun k => k = g) w w6) := Lib.hid ⟨HB.out.1.old hB, HB.out.2.trans (Mod.of_below hB) (fun k hk h => by have := HB.out.2.size; omega)⟩
        clear hb6 hB HH HB
        cases b with
        | true =>
          have HC2 : Hid (C.length = m ∧ C = (L.take (j + 1)).filter (noK X)) := Lib.hid ⟨HC.out.1, by rw [HTK.out, HNB.out]; simp⟩
          go_wp2_with fail
          go_roundw
          case rel => exact ⟨j + 1, m, C, by omega, by go_num, rfl, by omega, HC2, HG⟩
          case measure => simp [intOf]; omega
        | false =>
          have hcL : C.length < L.length := by rw [HC.out.1, ← Hn.out]; omega
          obtain ⟨cur, hh, hsz, hrw⟩ := HG.out.1.setAt C.length (by rw [mid_len Hcn.out]; exact hcL) y
          rw [mid_set y hcL] at hrw
          have HGM := HG.out.2.setRow (g := g) (cur.toList.take (C.length * encN.k) ++ encN.f y ++ cur.toList.drop (C.length * encN.k + encN.k)).toArray
          have hof : m * 32 = C.length * 32 := by rw [HC.out.1]
          obtain ⟨W7, hW7⟩ : ∃ W7, W7 = w6.setRow g (cur.toList.take (C.length * encN.k) ++ encN.f y ++ cur.toList.drop (C.length * encN.k + encN.k)).toArray := ⟨_, rfl⟩
          rw [← hW7] at hrw HGM
          have hst : Hid (∀ (oo : Oper) (a : Act), oo.op = .store 70 (.tmp 33) (.tmp 32) → a.eval (.tmp 33) = .pointer (some ⟨g, m * 32, none⟩) → a.eval (.tmp 32) = .agg (vals y.1).toArray → (execOp a.eval oo).run Tryz.prog w6 = .ok .skip W7) := Lib.hid (fun oo a ho hx hy => by
            rw [hW7]
            have h := exec_store_at (P := Tryz.prog) (w := w6) 70 (.tmp 33) (.tmp 32) ho g (m * 32) hx 70 cur (vals y.1) hy hh (by rw [hof, vals_len, y.2]; exact hsz) (by rw [vals_len, y.2]; kernel_rfl) (vals_one y.1)
            rw [hof, vals_len, y.2] at h
            exact h)
          have HC2 : Hid ((C ++ [y]).length = m + 1 ∧ C ++ [y] = (L.take (j + 1)).filter (noK X)) := Lib.hid ⟨by rw [List.length_append, HC.out.1]; rfl, by rw [HTK.out, HNB.out]; simp⟩
          have HG7 := Lib.hid (And.intro hrw (HGM.mono (T := fun i => i = g) (fun i _ h => h.elim id id)))
          clear hh hsz hrw HGM hof hW7 hcL HG
          go_wp2_with (first
            | (refine wpList_exec rfl (exec_load_row 70 (.tmp 7) rfl g7 rfl 70 _ (0, 0) _ HR6.out Tryz.underlying70 rfl HIN.out) ?_; go_frame)
            | (refine wpList_skip rfl rfl (hst.out _ _ rfl rfl rfl) ?_))
          go_roundw
          case rel => exact ⟨j + 1, m + 1, C ++ [y], by omega, by go_num, by go_num, by omega, HC2, HG7⟩
          case measure => simp [intOf]; omega
      · have hjn : j = n := by omega
        have i4 : ¬ (j : Int) < n := by omega
        have hmn : (C ++ L.drop C.length).length = n := by rw [mid_len Hcn.out, Hn.out]
        have hmn2 : m < n := by omega
        obtain ⟨cur, hh, hrow⟩ : ∃ cur : Array Value, wr.heap[g]? = some (.cells cur 70 (0, 0)) ∧ ∀ Z : List Value, Z.length = (n - m) * 32 → m * 32 + Z.length ≤ cur.size ∧ Rw encN 70 (wr.setRow g (cur.toList.take (m * 32) ++ Z ++ cur.toList.drop (m * 32 + Z.length)).toArray) (some ⟨g, 0, none⟩) c C := by
          obtain ⟨cur, hh, h3, h4, _, _⟩ := HB.out.1.parts
          refine ⟨cur, hh, fun Z hZ => ?_⟩
          obtain ⟨cur', hh', h5, h6⟩ := HB.out.1.clearAt C.length (by rw [hmn, HC.out.1]; omega) Z (by rw [hmn, HC.out.1]; exact hZ)
          obtain rfl : cur' = cur := by rw [hh] at hh'; cases hh'; rfl
          rw [HC.out.1, List.take_left' HC.out.1] at h6
          rw [HC.out.1] at h5
          exact ⟨h5, h6⟩
        have hz : (List.replicate ((n - m) * 32) undef).length = (n - m) * 32 := List.length_replicate
        have hb := (hrow _ hz).1
        rw [hz] at hb
        obtain ⟨Z, hZ, hcl⟩ := clear_names g (m * 32) (n - m) (c - m) wr cur hh (by omega) hb
        obtain ⟨W7, hW7⟩ : ∃ W7, W7 = wr.setRow g (cur.toList.take (m * 32) ++ Z ++ cur.toList.drop (m * 32 + Z.length)).toArray := ⟨_, rfl⟩
        rw [← hW7] at hcl
        have HG7 : Hid (Rw encN 70 W7 (some ⟨g, 0, none⟩) c C ∧ Mod (fun k => k = g) w W7) := Lib.hid ⟨by rw [hW7]; exact (hrow Z hZ).2, by rw [hW7]; exact (HB.out.2.setRow _).mono (fun i _ h => h.elim id id)⟩
        have HE : Hid (C = L.filter (noK X)) := Lib.hid (by have h := HC.out.2; rw [List.take_of_length_le (by rw [hjn, Hn.out]; exact Nat.le_refl _)] at h; exact h)
        have HCM : Hid (C.length = m) := Lib.hid HC.out.1
        have k1 : (m : Int) ≤ n := by omega
        have k2 : (m : Int) ≤ c := by omega
        clear hh hrow hz hb hW7 hZ hmn HB HC
        go_wp2_with fail
        rw [HF.out]
        exact ⟨by rw [← HE.out, HCM.out], by rw [← HE.out]; exact HG7.out.1, HG7.out.2.mono (fun k _ h => ⟨_, rfl, h⟩)⟩
set_option maxRecDepth 20000 in
set_option maxHeartbeats 4000000 in
theorem dgmissing_any (h : DG S R w da X) (ao : Option Addr) (cap : Nat) (P : List Nm) (hP : Rd encN w ao P) (hao : ao = none ∨ ∃ b off, ao = some ⟨b, off, none⟩) (hn : P.length ≤ 1000000) :
    Calls Tryz.prog 27 #[.pointer (some ⟨da, 0, none⟩), .slice ao P.length cap] w fun r w' => ∃ q c, r = .returned (.slice q (kset (P.filter (noK X))).length c) ∧ Rw encN 70 w' q c (kset (P.filter (noK X))) ∧ Below w.heap.size w w' := by
  obtain ⟨F, hF⟩ : ∃ F : Ending → World → Prop, F = fun r w' => ∃ q c, r = .returned (.slice q (kset (P.filter (noK X))).length c) ∧ Rw encN 70 w' q c (kset (P.filter (noK X))) ∧ Below w.heap.size w w' := ⟨_, rfl⟩
  have HF : Hid (∀ q c w', Rw encN 70 w' q c (kset (P.filter (noK X))) → Below w.heap.size w w' → F (.returned (.slice q (kset (P.filter (noK X))).length c)) w') := Lib.hid (fun q c w' h1 h2 => by rw [hF]; exact ⟨q, c, rfl, h1, h2⟩)
  rw [← hF]
  have HCL := Lib.hid (cloneN_any ao cap P w hP hao hn)
  have HDEL : Hid (∀ (u : World) (q : Option Addr) (c : Nat), Below w.heap.size w u → Rw encN 70 u q c P → (∀ a, q = some a → w.heap.size ≤ a.block) → Calls Tryz.prog 63 #[.slice q P.length c, .func (.func 33) #[.pointer (some ⟨da, 0, none⟩)] #[]] u fun r w' => r = .returned (.slice q (P.filter (noK X)).length c) ∧ Rw encN 70 w' q c (P.filter (noK X)) ∧ Mod (fun i => ∃ a, q = some a ∧ i = a.block) u w') := Lib.hid (fun u q c hb hr hq => deleteN_any (h.old hb) q c P hr (fun a e hR => by have := hq a e; have := h.rl _ hR; omega) hn)
  obtain ⟨M, hM⟩ : ∃ M, M = P.filter (noK X) := ⟨_, rfl⟩
  have hMl : M.length ≤ 1000000 := by rw [hM]; exact Nat.le_trans (List.length_filter_le _ _) hn
  have HSO : Hid (∀ (u : World) (q : Option Addr) (c : Nat), Rw encN 70 u q c M → Calls Tryz.prog 65 #[.slice q M.length c, .func (.func 66) #[] #[]] u fun r w' => r = .returned (.tuple #[]) ∧ Rw encN 70 w' q c (ksort M) ∧ Mod (fun i => ∃ a, q = some a ∧ i = a.block) u w') := Lib.hid (fun u q c hr => dgsort_any q c M u hr hMl)
  have HCO : Hid (∀ (u : World) (q : Option Addr) (c : Nat), Rw encN 70 u q c (ksort M) → Calls Tryz.prog 67 #[.slice q M.length c] u fun r w' => r = .returned (.slice q (kset M).length c) ∧ Rw encN 70 w' q c (kset M) ∧ Mod (fun i => ∃ a, q = some a ∧ i = a.block) u w') := Lib.hid (fun u q c hr => by
    have h := compactN_any q c (ksort M) u hr (by rw [ksort_len]; exact hMl)
    rw [ksort_len] at h
    have e : kset M = cpt (ksort M) M.length := by unfold kset; rw [ksort_len]
    rw [e]; exact h)
  rw [← hM] at HF HDEL
  obtain ⟨n, hn2⟩ : ∃ n, n = P.length := ⟨_, rfl⟩
  obtain ⟨m, hm2⟩ : ∃ m, m = M.length := ⟨_, rfl⟩
  obtain ⟨k, hk2⟩ : ∃ k, k = (kset M).length := ⟨_, rfl⟩
  rw [← hn2] at HCL HDEL
  rw [← hm2] at HDEL HSO HCO
  rw [← hk2] at HCO HF
  rw [← hn2]
  have hmf : ∀ (fn : Fn) (first cap : Array Value) (w : World), (Instr.makeFunc fn first cap).run Tryz.prog w = .ok (.func fn first cap) w := fun _ _ _ _ => rfl
  clear h hP hao hn hF hM hMl hn2 hm2 hk2
  go_enter Tryz.func27, Tryz.ntmps27
  go_wp2_with fail
  refine HCL.out.mono ?_
  rintro r w1 ⟨q, c, rfl, hr1, hq1, hb1⟩
  have HQ := Lib.hid hq1
  have HB1 := Lib.hid hb1
  have HD1 := Lib.hid (HDEL.out w1 q c hb1 hr1 hq1)
  clear hr1 hq1 hb1 HCL HDEL
  go_wp2_with fail
  refine HD1.out.mono ?_
  rintro r w2 ⟨rfl, hr2, hm2⟩
  have HB2 := Lib.hid (HB1.out.trans (hm2.to_below HB1.out.size (by rintro i hi ⟨a, e, rfl⟩; have := HQ.out a e; omega)))
  have HS2 := Lib.hid (HSO.out w2 q c hr2)
  clear hr2 hm2 HD1 HSO
  go_wp2_with fail
  refine HS2.out.mono ?_
  rintro r w3 ⟨rfl, hr3, hm3⟩
  have HB3 := Lib.hid (HB2.out.trans (hm3.to_below HB2.out.size (by rintro i hi ⟨a, e, rfl⟩; have := HQ.out a e; omega)))
  have HC3 := Lib.hid (HCO.out w3 q c hr3)
  clear hr3 hm3 HS2 HCO
  go_wp2_with fail
  refine HC3.out.mono ?_
  rintro r w4 ⟨rfl, hr4, hm4⟩
  have HB4 := Lib.hid (HB3.out.trans (hm4.to_below HB3.out.size (by rintro i hi ⟨a, e, rfl⟩; have := HQ.out a e; omega)))
  have HR4 := Lib.hid hr4
  clear hr4 hm4 HC3
  go_wp2_with fail
  exact HF.out q c _ HR4.out HB4.out
end
end Go.Proofs.YtemnebbdaljfbaaGreatDoor

namespace Go.Proofs.YtemnebbdaljfbaaGreatDoor
open Go.ChangeShapes Go.WideShapes Go.ChangeAt Go.RowKit Go.Deep

theorem cell_block9 {w : World} {a : Addr} {v : Value} (h : w.cell? a = some v) : a.block < w.heap.size := by
  unfold World.cell? at h
  apply Nat.lt_of_not_le; intro hle
  rw [Array.getElem?_eq_none hle] at h
  simp at h
set_option maxRecDepth 20000 in
theorem open_intsL {H : Type} {enc : TypeId × Value → H} {W : World} {base : Nat} {v : Value} {d : DataW H} {ps : List MemPlace} (hval : Value.okWide Tryz.prog W .any base 48 v) (h : DataW.Trod enc Tryz.prog W 0 (fun _ => true) true 48 v d ps) :
    ∃ ao cap S, v = .slice ao S.length cap ∧ Rd encI W ao S ∧ (∀ x ∈ S, -9223372036854775808 ≤ x ∧ x ≤ 9223372036854775807) ∧ S.length ≤ 9223372036854775807 ∧ S.length ≤ cap := by
  obtain ⟨a, len, cap, rfl⟩ := okWide_slice Tryz.underlying48 hval
  obtain ⟨fuel, hf⟩ := h
  rcases open_slice1 Tryz.underlying48 (by kernel_rfl) hf with ⟨hc, _⟩ | ⟨a', len', cap', m, k, V, D, Pl, hc, _, hl, hm, hmm, _, hall⟩
  · have hc2 : [Value.slice a len cap] = [Value.slice none 0 0] := hc
    simp only [List.cons.injEq, Value.slice.injEq, and_true] at hc2
    obtain ⟨rfl, rfl, rfl⟩ := hc2
    exact ⟨none, 0, [], rfl, Rd.nil _ _, (fun x hx => by simp at hx), Nat.zero_le _, Nat.le_refl _⟩
  · have hc2 : [Value.slice a len cap] = [Value.slice (some a') len' cap'] := hc
    simp only [List.cons.injEq, Value.slice.injEq, and_true] at hc2
    obtain ⟨rfl, rfl, rfl⟩ := hc2
    simp only [if_true] at hmm
    subst hmm
    have hj : ∀ i, i < len → ∃ s : Int, V i = .int .i64 s ∧ -9223372036854775808 ≤ s ∧ s ≤ 9223372036854775807 := by
      intro i hi
      obtain ⟨N, h1, _, hw⟩ := DataW.trod_int Tryz.underlying3 (hall i (by omega)).2
      simp only [List.cons.injEq, and_true] at h1
      have b := bounds_i64 hw
      exact ⟨N, h1, by omega, by omega⟩
    obtain ⟨f, hf2⟩ := choose_lt hj
    obtain ⟨bs, off, spot⟩ := a'
    by_cases h0 : 0 < m
    · have hspot : spot = none := by simpa [Addr.add] using World.cell?_spot (hall 0 (by omega)).1
      subst hspot
      refine ⟨some ⟨bs, off, none⟩, m, (List.range len).map f, by simp, ?_, ?_, by unfold maxLen at hm; rw [List.length_map, List.length_range]; omega, by rw [List.length_map, List.length_range]; exact hl⟩
      · intro j hjl
        have hjn : j < len := by simpa using hjl
        have e0 := (hf2 j hjn).1
        obtain ⟨c0, _⟩ := hall j (by omega)
        rw [e0] at c0
        have c0' : W.cell? ⟨bs, off + j, none⟩ = some (.int .i64 (f j)) := by simpa [Addr.add_lit] using c0
        refine ⟨bs, off, rfl, cell_block9 c0', fun i u hu => ?_⟩
        have hi0 : i = 0 := by
          have := (List.getElem?_eq_some_iff.1 hu).1
          simp [encI] at this; exact this
        subst hi0
        simp only [encI, List.getElem?_cons_zero, Option.some.injEq] at hu
        subst hu
        simpa [encI] using c0'
      · intro x hx
        obtain ⟨i, hi, rfl⟩ := List.mem_map.1 hx
        exact (hf2 i (List.mem_range.1 hi)).2
    · have hl0 : len = 0 := by omega
      subst hl0
      exact ⟨some ⟨bs, off, spot⟩, m, [], rfl, (fun j hj => by simp at hj), (fun x hx => by simp at hx), Nat.zero_le _, Nat.zero_le _⟩
end Go.Proofs.YtemnebbdaljfbaaGreatDoor
