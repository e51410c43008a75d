/- Texts 7: what the laws lean on. -/
import Derived.Test.YtpbcglepecojmaaVDmi5
import Derived.Test.YtpbcglepecojmaaVDmi6
namespace Go.Proofs.Ytpbcglepecojmaa
open Go.RowKit

set_option maxRecDepth 20000 in
set_option maxHeartbeats 8000000 in
theorem is09_any {w : World} {d : Nat} (S : St) {F : Nat → Prop} (h : DA w d S F) (ok : Ok S) (ao : Option Addr) (c : Nat) (hR : Rd encF w ao S.X) :
    Calls Try.prog 17 #[.pointer (some ⟨d, 0, none⟩), .agg (rdC S ao c)] w fun e w' => e = .returned (.bool true) ∧ Below w.heap.size w w' := by
  have hsyn := h.syn
  have hso := h.so
  obtain ⟨rm, dd, lf, dn, X⟩ := S
  unfold rdC
  simp only at hR hsyn hso ⊢
  have hnX : X.length ≤ 1000000 := Nat.le_trans ok.n (by decide)
  have HI := Lib.hid finfo
  have HJ := Lib.hid rinfo
  have HI2 := HI.out
  have HR := Lib.hid hR
  have HH := Lib.hid h
  have HOK := Lib.hid ok
  have HSY := Lib.hid hsyn
  have HSO := Lib.hid hso
  have huX : usedX X ≤ 1000000000000000 := by
    have h1 := usedX_le ok.f
    have h2 := ok.n
    have h3 : X.length * 2000000000 ≤ 100000 * 2000000000 := Nat.mul_le_mul_right _ h2
    simp only at h1
    omega
  have HUS : Hid (∀ w', Below w.heap.size w w' → Calls Try.prog 24 #[.pointer (some ⟨d, 0, none⟩)] w' fun e w'' => e = .returned (.int .i64 ((usedX X : Nat) : Int)) ∧ Below w'.heap.size w' w'') := Lib.hid (fun w' hb => dkused_any (h.old hb) hnX ok.f)
  have HRU : Hid (∀ w', Below w.heap.size w w' → Calls Try.prog 33 #[.agg #[.slice ao X.length c, .int .i64 rm, .int .i64 dd, .int .i64 lf, .bool dn]] w' fun e w'' => e = .returned (.int .i64 ((usedX X : Nat) : Int)) ∧ Below w'.heap.size w' w'') := Lib.hid (fun w' hb => by
    have := rkused_any ⟨rm, dd, lf, dn, X⟩ ao c (hR.old hb) hnX huX
    unfold rdC at this
    exact this)
  have HDD : Hid (∀ w', Below w.heap.size w w' → Calls Try.prog 26 #[.pointer (some ⟨d, 0, none⟩)] w' fun e w'' => e = .returned (.int .i64 dd) ∧ Below w'.heap.size w' w'') := Lib.hid (fun w' hb => (dkdeeds_any (h.old hb)).mono (by rintro e w'' ⟨rfl, rfl⟩; exact ⟨rfl, Below.refl _ _⟩))
  have HRM : Hid (∀ w', Below w.heap.size w w' → Calls Try.prog 25 #[.pointer (some ⟨d, 0, none⟩)] w' fun e w'' => e = .returned (.int .i64 rm) ∧ Below w'.heap.size w' w'') := Lib.hid (fun w' hb => (dkroom_any (h.old hb)).mono (by rintro e w'' ⟨rfl, rfl⟩; exact ⟨rfl, Below.refl _ _⟩))
  generalize usedX X = us at HUS HRU
  have HNM : Hid (∀ w', Below w.heap.size w w' → Calls Try.prog 22 #[.pointer (some ⟨d, 0, none⟩)] w' fun e w'' => ∃ q qc, e = .returned (.slice q X.length qc) ∧ Rd encS w'' q (X.map (·.1)) ∧ Below w'.heap.size w' w'') := Lib.hid (fun w' hb => (dknames_any (h.old hb) hnX ok.k).mono (by rintro e w'' ⟨q, qc, rfl, hq, _, hb2⟩; exact ⟨q, qc, rfl, hq.rd, hb2⟩))
  obtain ⟨n, hnn⟩ : ∃ n, n = X.length := ⟨_, rfl⟩
  have HNN := Lib.hid hnn
  rw [← hnn] at hnX HRU HNM ⊢
  clear h ok hR hsyn hso huX hnn
  have HB0 : Hid (Below w.heap.size w (w.alloc (.cells #[.slice ao n c, .int .i64 rm, .int .i64 dd, .int .i64 lf, .bool dn] 28))) := Lib.hid ((Below.refl _ w).alloc (Nat.le_refl _) _)
  have HX0 := Lib.hid (heap_alloc_new w (.cells #[.slice ao n c, .int .i64 rm, .int .i64 dd, .int .i64 lf, .bool dn] 28))
  go_enter Try.func17, Try.ntmps17
  go_wp2_with fail
  refine (HNM.out _ HB0.out).mono ?_
  rintro e W2 ⟨q, qc, rfl, hq, hb2⟩
  have HQ := Lib.hid hq
  have HB2 := Lib.hid (HB0.out.trans (hb2.mono HB0.out.size))
  have HX2 : Hid (W2.heap[w.heap.size]? = some (.cells #[.slice ao n c, .int .i64 rm, .int .i64 dd, .int .i64 lf, .bool dn] 28 (0, 0))) := Lib.hid ((hb2.block _ (Array.getElem?_eq_some_iff.1 HX0.out).1).trans HX0.out)
  clear hq hb2 HB0 HX0
  have HBX : Hid (∀ w', Below w.heap.size w w' ∧ Below W2.heap.size W2 w' → w'.heap[w.heap.size]? = some (.cells #[.slice ao n c, .int .i64 rm, .int .i64 dd, .int .i64 lf, .bool dn] 28 (0, 0)) ∧ w'.cell? ⟨w.heap.size, 0, none⟩ = some (.slice ao n c) ∧ w'.cell? ⟨w.heap.size, 1, none⟩ = some (.int .i64 rm) ∧ w'.cell? ⟨w.heap.size, 2, none⟩ = some (.int .i64 dd) ∧ w'.cell? ⟨w.heap.size, 4, none⟩ = some (.bool dn)) := Lib.hid (fun w' hb => by
    have hx := (hb.2.block _ (Array.getElem?_eq_some_iff.1 HX2.out).1).trans HX2.out
    refine ⟨hx, ?_, ?_, ?_, ?_⟩ <;> (rw [cell_of_row _ _ _ _ 28 (0, 0) hx]; rfl))
  have W2le : Hid (∀ w', Below W2.heap.size W2 w' → Below w.heap.size w w' ∧ Below W2.heap.size W2 w') := Lib.hid (fun w' hb => ⟨HB2.out.trans (hb.mono HB2.out.size), hb⟩)
  go_upto_region 2 with fail
  generalize hbx : w.heap.size = bx at *
  have HBXE := Lib.hid hbx
  clear hbx
  refine wp_region_puts (fun t v w => VK (match t with
    | 12 => .eq (.slice q n qc)
    | 13 => .eq (.int .i64 (n : Int))
    | 14 => .eq (.pointer (some ⟨bx, 0, none⟩))
    | 15 => .eq (.slice ao n c)
    | 16 => .eq (.int .i64 (n : Int))
    | 17 => .eq (Value.bool false)
    | 18 => .eq (Value.bool false)
    | 19 => .eq (.pointer (some ⟨d, 0, none⟩))
    | 20 => .eq (.int .i64 (us : Int))
    | 21 => .eq (.agg #[.slice ao n c, .int .i64 rm, .int .i64 dd, .int .i64 lf, .bool dn])
    | 22 => .eq (.int .i64 (us : Int))
    | 23 => .eq (Value.bool false)
    | 24 => .eq (Value.bool false)
    | 25 => .eq (Value.bool false)
    | 26 => .eq (.pointer (some ⟨d, 0, none⟩))
    | 27 => .eq (.int .i64 dd)
    | 28 => .eq (.pointer (some ⟨bx, 2, none⟩))
    | 29 => .eq (.int .i64 dd)
    | 30 => .eq (Value.bool false)
    | 31 => .eq (Value.bool false)
    | 32 => .eq (Value.bool false)
    | 33 => .eq (.pointer (some ⟨d, 0, none⟩))
    | 34 => .eq (.int .i64 rm)
    | 35 => .eq (.pointer (some ⟨bx, 1, none⟩))
    | 36 => .eq (.int .i64 rm)
    | 37 => .eq (Value.bool false)
    | 38 => .eq (Value.bool false)
    | _ => .any) v w) (fun w' => Below W2.heap.size W2 w') 100 (by kernel_rfl) (by decide +kernel) rfl (Below.refl _ _).drew (by
    refine OweAll.cons (owesK rfl rfl fun a w1 ha hG hV => ?_) ?_
    · skip
      have h5 := ha.outer 5 (by decide +kernel)
      simp only [Act.eval] at h5
      exact ⟨.slice q n qc, w1, wanted_free rfl, by simp [execOp, go_sem, h5], Below.refl _ _, rfl⟩
    refine OweAll.cons (owesK rfl rfl fun a w1 ha hG hV => ?_) ?_
    · skip
      have h12 : a.tmps.getD 12 undef = .slice q n qc := hV.get 12 (by decide +kernel)
      exact ⟨.int .i64 (n : Int), w1, wanted_free rfl, by simp [execOp, go_sem, h12], Below.refl _ _, rfl⟩
    refine OweAll.cons (owesK rfl rfl fun a w1 ha hG hV => ?_) ?_
    · skip
      have h3 := ha.outer 3 (by decide +kernel)
      simp only [Act.eval] at h3
      exact ⟨.pointer (some ⟨bx, 0, none⟩), w1, wanted_free rfl, by simp [execOp, go_sem, h3], Below.refl _ _, rfl⟩
    refine OweAll.cons (owesK rfl rfl fun a w1 ha hG hV => ?_) ?_
    · skip
      have h14 : a.tmps.getD 14 undef = .pointer (some ⟨bx, 0, none⟩) := hV.get 14 (by decide +kernel)
      have cc := (HBX.out w1 (W2le.out w1 hG)).2.1
      exact ⟨.slice ao n c, w1, wanted_free rfl, by simp [execOp, go_sem, h14, cc], Below.refl _ _, rfl⟩
    refine OweAll.cons (owesK rfl rfl fun a w1 ha hG hV => ?_) ?_
    · skip
      have h15 : a.tmps.getD 15 undef = .slice ao n c := hV.get 15 (by decide +kernel)
      exact ⟨.int .i64 (n : Int), w1, wanted_free rfl, by simp [execOp, go_sem, h15], Below.refl _ _, rfl⟩
    refine OweAll.cons (owesK rfl rfl fun a w1 ha hG hV => ?_) ?_
    · skip
      have h13 : a.tmps.getD 13 undef = .int .i64 (n : Int) := hV.get 13 (by decide +kernel)
      have h16 : a.tmps.getD 16 undef = .int .i64 (n : Int) := hV.get 16 (by decide +kernel)
      exact ⟨Value.bool false, w1, wanted_free rfl, by simp [execOp, go_sem, h13, h16], Below.refl _ _, rfl⟩
    refine OweAll.cons (owesK rfl rfl fun a w1 ha hG hV => ?_) ?_
    · skip
      have h17 : a.tmps.getD 17 undef = Value.bool false := hV.get 17 (by decide +kernel)
      exact ⟨Value.bool false, w1, wanted_free rfl, by simp [execOp, go_sem, h17], Below.refl _ _, rfl⟩
    refine OweAll.cons (owesK rfl rfl fun a w1 ha hG hV => ?_) ?_
    · skip
      have h0 := ha.outer 0 (by decide +kernel)
      simp only [Act.eval] at h0
      exact ⟨.pointer (some ⟨d, 0, none⟩), w1, (wanted_of (t := 18) rfl rfl (hV.get 18 (by decide +kernel))), by simp [execOp, go_sem, h0], Below.refl _ _, rfl⟩
    refine OweAll.cons (owesK_call rfl rfl 24 fun a w1 ha hG hV => ?_) ?_
    · skip
      have h19 : a.tmps.getD 19 undef = .pointer (some ⟨d, 0, none⟩) := hV.get 19 (by decide +kernel)
      refine ⟨#[.pointer (some ⟨d, 0, none⟩)], (wanted_of (t := 18) rfl rfl (hV.get 18 (by decide +kernel))), by simp [execOp, resolve, invoke, go_sem, h19], ?_⟩
      refine (HUS.out w1 (W2le.out w1 hG).1).mono ?_
      rintro r' u2 ⟨rfl, hb2⟩; exact ⟨_, rfl, rfl, hb2⟩
    refine OweAll.cons (owesK rfl rfl fun a w1 ha hG hV => ?_) ?_
    · skip
      have h3 := ha.outer 3 (by decide +kernel)
      simp only [Act.eval] at h3
      have hh := (HBX.out w1 (W2le.out w1 hG)).1
      exact ⟨.agg #[.slice ao n c, .int .i64 rm, .int .i64 dd, .int .i64 lf, .bool dn], w1, (wanted_of (t := 18) rfl rfl (hV.get 18 (by decide +kernel))), exec_load_row 28 (.tmp 3) rfl bx h3 28 #[.slice ao n c, .int .i64 rm, .int .i64 dd, .int .i64 lf, .bool dn] (0, 0) _ hh Try.underlying28 rfl HJ.out, Below.refl _ _, rfl⟩
    refine OweAll.cons (owesK_call rfl rfl 33 fun a w1 ha hG hV => ?_) ?_
    · skip
      have h21 : a.tmps.getD 21 undef = .agg #[.slice ao n c, .int .i64 rm, .int .i64 dd, .int .i64 lf, .bool dn] := hV.get 21 (by decide +kernel)
      refine ⟨#[.agg #[.slice ao n c, .int .i64 rm, .int .i64 dd, .int .i64 lf, .bool dn]], (wanted_of (t := 18) rfl rfl (hV.get 18 (by decide +kernel))), by simp [execOp, resolve, invoke, go_sem, h21], ?_⟩
      refine (HRU.out w1 (W2le.out w1 hG).1).mono ?_
      rintro r' u2 ⟨rfl, hb2⟩; exact ⟨_, rfl, rfl, hb2⟩
    refine OweAll.cons (owesK rfl rfl fun a w1 ha hG hV => ?_) ?_
    · skip
      have h20 : a.tmps.getD 20 undef = .int .i64 (us : Int) := hV.get 20 (by decide +kernel)
      have h22 : a.tmps.getD 22 undef = .int .i64 (us : Int) := hV.get 22 (by decide +kernel)
      exact ⟨Value.bool false, w1, (wanted_of (t := 18) rfl rfl (hV.get 18 (by decide +kernel))), by simp [execOp, go_sem, h20, h22], Below.refl _ _, rfl⟩
    refine OweAll.cons (owesK rfl rfl fun a w1 ha hG hV => ?_) ?_
    · skip
      have h18 : a.tmps.getD 18 undef = Value.bool false := hV.get 18 (by decide +kernel)
      have h23 : a.tmps.getD 23 undef = Value.bool false := hV.get 23 (by decide +kernel)
      exact ⟨Value.bool false, w1, wanted_free rfl, by simp [execOp, go_sem, h18, h23], Below.refl _ _, rfl⟩
    refine OweAll.cons (owesK rfl rfl fun a w1 ha hG hV => ?_) ?_
    · skip
      have h24 : a.tmps.getD 24 undef = Value.bool false := hV.get 24 (by decide +kernel)
      exact ⟨Value.bool false, w1, wanted_free rfl, by simp [execOp, go_sem, h24], Below.refl _ _, rfl⟩
    refine OweAll.cons (owesK rfl rfl fun a w1 ha hG hV => ?_) ?_
    · skip
      have h0 := ha.outer 0 (by decide +kernel)
      simp only [Act.eval] at h0
      exact ⟨.pointer (some ⟨d, 0, none⟩), w1, (wanted_of (t := 25) rfl rfl (hV.get 25 (by decide +kernel))), by simp [execOp, go_sem, h0], Below.refl _ _, rfl⟩
    refine OweAll.cons (owesK_call rfl rfl 26 fun a w1 ha hG hV => ?_) ?_
    · skip
      have h26 : a.tmps.getD 26 undef = .pointer (some ⟨d, 0, none⟩) := hV.get 26 (by decide +kernel)
      refine ⟨#[.pointer (some ⟨d, 0, none⟩)], (wanted_of (t := 25) rfl rfl (hV.get 25 (by decide +kernel))), by simp [execOp, resolve, invoke, go_sem, h26], ?_⟩
      refine (HDD.out w1 (W2le.out w1 hG).1).mono ?_
      rintro r' u2 ⟨rfl, hb2⟩; exact ⟨_, rfl, rfl, hb2⟩
    refine OweAll.cons (owesK rfl rfl fun a w1 ha hG hV => ?_) ?_
    · skip
      have h3 := ha.outer 3 (by decide +kernel)
      simp only [Act.eval] at h3
      exact ⟨.pointer (some ⟨bx, 2, none⟩), w1, (wanted_of (t := 25) rfl rfl (hV.get 25 (by decide +kernel))), by simp [execOp, go_sem, h3], Below.refl _ _, rfl⟩
    refine OweAll.cons (owesK rfl rfl fun a w1 ha hG hV => ?_) ?_
    · skip
      have h28 : a.tmps.getD 28 undef = .pointer (some ⟨bx, 2, none⟩) := hV.get 28 (by decide +kernel)
      have cc := (HBX.out w1 (W2le.out w1 hG)).2.2.2.1
      exact ⟨.int .i64 dd, w1, (wanted_of (t := 25) rfl rfl (hV.get 25 (by decide +kernel))), by simp [execOp, go_sem, h28, cc], Below.refl _ _, rfl⟩
    refine OweAll.cons (owesK rfl rfl fun a w1 ha hG hV => ?_) ?_
    · skip
      have h27 : a.tmps.getD 27 undef = .int .i64 dd := hV.get 27 (by decide +kernel)
      have h29 : a.tmps.getD 29 undef = .int .i64 dd := hV.get 29 (by decide +kernel)
      exact ⟨Value.bool false, w1, (wanted_of (t := 25) rfl rfl (hV.get 25 (by decide +kernel))), by simp [execOp, go_sem, h27, h29], Below.refl _ _, rfl⟩
    refine OweAll.cons (owesK rfl rfl fun a w1 ha hG hV => ?_) ?_
    · skip
      have h25 : a.tmps.getD 25 undef = Value.bool false := hV.get 25 (by decide +kernel)
      have h30 : a.tmps.getD 30 undef = Value.bool false := hV.get 30 (by decide +kernel)
      exact ⟨Value.bool false, w1, wanted_free rfl, by simp [execOp, go_sem, h25, h30], Below.refl _ _, rfl⟩
    refine OweAll.cons (owesK rfl rfl fun a w1 ha hG hV => ?_) ?_
    · skip
      have h31 : a.tmps.getD 31 undef = Value.bool false := hV.get 31 (by decide +kernel)
      exact ⟨Value.bool false, w1, wanted_free rfl, by simp [execOp, go_sem, h31], Below.refl _ _, rfl⟩
    refine OweAll.cons (owesK rfl rfl fun a w1 ha hG hV => ?_) ?_
    · skip
      have h0 := ha.outer 0 (by decide +kernel)
      simp only [Act.eval] at h0
      exact ⟨.pointer (some ⟨d, 0, none⟩), w1, (wanted_of (t := 32) rfl rfl (hV.get 32 (by decide +kernel))), by simp [execOp, go_sem, h0], Below.refl _ _, rfl⟩
    refine OweAll.cons (owesK_call rfl rfl 25 fun a w1 ha hG hV => ?_) ?_
    · skip
      have h33 : a.tmps.getD 33 undef = .pointer (some ⟨d, 0, none⟩) := hV.get 33 (by decide +kernel)
      refine ⟨#[.pointer (some ⟨d, 0, none⟩)], (wanted_of (t := 32) rfl rfl (hV.get 32 (by decide +kernel))), by simp [execOp, resolve, invoke, go_sem, h33], ?_⟩
      refine (HRM.out w1 (W2le.out w1 hG).1).mono ?_
      rintro r' u2 ⟨rfl, hb2⟩; exact ⟨_, rfl, rfl, hb2⟩
    refine OweAll.cons (owesK rfl rfl fun a w1 ha hG hV => ?_) ?_
    · skip
      have h3 := ha.outer 3 (by decide +kernel)
      simp only [Act.eval] at h3
      exact ⟨.pointer (some ⟨bx, 1, none⟩), w1, (wanted_of (t := 32) rfl rfl (hV.get 32 (by decide +kernel))), by simp [execOp, go_sem, h3], Below.refl _ _, rfl⟩
    refine OweAll.cons (owesK rfl rfl fun a w1 ha hG hV => ?_) ?_
    · skip
      have h35 : a.tmps.getD 35 undef = .pointer (some ⟨bx, 1, none⟩) := hV.get 35 (by decide +kernel)
      have cc := (HBX.out w1 (W2le.out w1 hG)).2.2.1
      exact ⟨.int .i64 rm, w1, (wanted_of (t := 32) rfl rfl (hV.get 32 (by decide +kernel))), by simp [execOp, go_sem, h35, cc], Below.refl _ _, rfl⟩
    refine OweAll.cons (owesK rfl rfl fun a w1 ha hG hV => ?_) ?_
    · skip
      have h34 : a.tmps.getD 34 undef = .int .i64 rm := hV.get 34 (by decide +kernel)
      have h36 : a.tmps.getD 36 undef = .int .i64 rm := hV.get 36 (by decide +kernel)
      exact ⟨Value.bool false, w1, (wanted_of (t := 32) rfl rfl (hV.get 32 (by decide +kernel))), by simp [execOp, go_sem, h34, h36], Below.refl _ _, rfl⟩
    refine OweAll.cons (owesK rfl rfl fun a w1 ha hG hV => ?_) ?_
    · skip
      have h32 : a.tmps.getD 32 undef = Value.bool false := hV.get 32 (by decide +kernel)
      have h37 : a.tmps.getD 37 undef = Value.bool false := hV.get 37 (by decide +kernel)
      exact ⟨Value.bool false, w1, wanted_free rfl, by simp [execOp, go_sem, h32, h37], Below.refl _ _, rfl⟩
    exact OweAll.nil
    ) ?_
  intro f wz hG hv
  have e38 : f 38 = Value.bool false := hv 26 _ 38 rfl rfl
  rename_i hK
  refine hK _ _ ?_
  clear hK hv
  simp only [dsts, puts, List.filterMap_cons, List.filterMap_nil, List.foldl_cons, List.foldl_nil, Act.put, List.setIfInBounds_toArray, List.set_cons_succ, List.set_cons_zero, e38]
  clear e38
  have HBZ := Lib.hid hG
  have cs := (HBX.out wz (W2le.out wz hG)).2.1
  clear hG
  go_wp2_with fail
  go_loopw [6, 7, 8, 9, 42] (fun _ _ _ _ s42 wr => ∃ i : Nat, i ≤ n ∧ s42 = .int .i64 (i : Int) ∧ Hid (Below W2.heap.size W2 wr)) (fun _ _ _ _ s42 _ => n - (intOf s42).toNat)
  case atStart => exact ⟨0, Nat.zero_le _, rfl, HBZ⟩
  case round =>
    obtain ⟨i, hi, rfl, HBR⟩ := hrel
    have HBW := Lib.hid (W2le.out wr HBR.out).1
    by_cases hend : i < n
    · obtain ⟨b, o, hae, _, c0, c1, c2⟩ := (HR.out.old (by have := HBW.out; rwa [← HBXE.out] at this)).fx i (by rw [← HNN.out]; exact hend)
      obtain ⟨nb, no, hqe, _, hnc⟩ := (HQ.out.old HBR.out).str i (by rw [List.length_map, ← HNN.out]; exact hend)
      rw [List.getElem_map] at hnc
      have hmem : X[i]'(by rw [← HNN.out]; exact hend) ∈ X := List.getElem_mem _
      subst hae
      subst hqe
      generalize X[i]'(by rw [← HNN.out]; exact hend) = x at *
      obtain ⟨xk, xs, xn⟩ := x
      simp only at *
      have hr1 : (wr.alloc (.cells #[.string ⟨#[]⟩, .string ⟨#[]⟩, .int .i64 0] 64)).heap[wr.heap.size]? = some (.cells #[.string ⟨#[]⟩, .string ⟨#[]⟩, .int .i64 0] 64 (0, 0)) := heap_alloc_new _ _
      have hV : ∀ v ∈ (#[.string ⟨xk.toArray⟩, .string ⟨xs.toArray⟩, .int .i64 (xn : Int)] : Array Value).toList, v.oneCell' = true := by intro v hv; simp at hv; rcases hv with rfl | rfl | rfl <;> rfl
      have HI2 := HI.out
      have HMEM := Lib.hid hmem
      have hself := fiX_self HSO.out hmem
      simp only at hself
      have HSF := Lib.hid hself
      have hsn := HSY.out _ hmem
      simp only at hsn
      have hxl := HOK.out.f _ hmem
      simp only at hxl
      have hkl : xk.length ≤ 1000000 := HOK.out.k _ hmem
      obtain ⟨lo, hlo⟩ : ∃ lo, lo = xs.length - xn := ⟨_, rfl⟩
      have hsub : IntKind.i64.wrap ((xs.length : Int) - (xn : Int)) = (lo : Int) := by rw [IntKind.wrap_i64]; omega
      have HSUB := Lib.hid hsub
      have HRD : Hid (∀ w', Below bx w w' → Calls Try.prog 10 #[.pointer (some ⟨d, 0, none⟩), .string ⟨xk.toArray⟩] w' fun e w'' => e = .returned (.tuple #[.string ⟨(if dn then ([] : List UInt8) else xs).toArray⟩, .int .i64 (if dn then 6 else 0)]) ∧ Below w'.heap.size w' w'') := Lib.hid (fun w' hb => by
        have h1 := dkread_any (HH.out.old (by rw [HBXE.out]; exact hb)) xk (by unfold maxLen; omega)
        have hhas : hasX xk X = true := by unfold hasX; rw [List.any_eq_true]; exact ⟨_, HMEM.out, by simp⟩
        have e : rdX ⟨rm, dd, lf, dn, X⟩ xk = (if dn then ([] : List UInt8) else xs, if dn then 6 else 0) := by
          unfold rdX; simp only [hhas, HSF.out, if_true]; cases dn <;> rfl
        rwa [e] at h1)
      have HLO0 : Hid (∀ w', Below bx w w' → Calls Try.prog 23 #[.pointer (some ⟨d, 0, none⟩), .string ⟨xk.toArray⟩] w' fun e w'' => e = .returned (.int .i64 (lo : Int)) ∧ Below w'.heap.size w' w'') := Lib.hid (fun w' hb => by
        have h1 := dkloose_any (HH.out.old (by rw [HBXE.out]; exact hb)) xk (by unfold maxLen; omega) HOK.out.f
        simp only [HSF.out] at h1
        rw [← hlo] at h1
        exact h1)
      clear hmem hself hsn hxl hkl hsub hlo
      go_upto_region 7 with (refine wpList_store_row rfl rfl 64 (.tmp 7) (.tmp 46) rfl wr.heap.size rfl 64 _ #[.string ⟨xk.toArray⟩, .string ⟨xs.toArray⟩, .int .i64 (xn : Int)] rfl hr1 rfl HI2 hV ?_)
      obtain ⟨W3, hW3⟩ : ∃ W, W = (wr.alloc (.cells #[.string ⟨#[]⟩, .string ⟨#[]⟩, .int .i64 0] 64)).setRow wr.heap.size #[.string ⟨xk.toArray⟩, .string ⟨xs.toArray⟩, .int .i64 (xn : Int)] := ⟨_, rfl⟩
      have hb3 : Below wr.heap.size wr W3 := by rw [hW3]; exact (((Mod.refl (fun _ => False) wr).alloc _).setRow (g := wr.heap.size) _).to_below (Nat.le_refl _) (by rintro k hk (h | h); exact h; omega)
      have h3 : W3.heap[wr.heap.size]? = some (.cells #[.string ⟨xk.toArray⟩, .string ⟨xs.toArray⟩, .int .i64 (xn : Int)] 64 (0, 0)) := by rw [hW3]; exact setRow_heap _ _ _ _ 64 (0, 0) hr1
      have k0 : W3.cell? ⟨wr.heap.size, 0, none⟩ = some (.string ⟨xk.toArray⟩) := by unfold World.cell?; rw [h3]; rfl
      have k1 : W3.cell? ⟨wr.heap.size, 1, none⟩ = some (.string ⟨xs.toArray⟩) := by unfold World.cell?; rw [h3]; rfl
      have k2 : W3.cell? ⟨wr.heap.size, 2, none⟩ = some (.int .i64 (xn : Int)) := by unfold World.cell?; rw [h3]; rfl
      rw [← hW3]
      have HB3 := Lib.hid hb3
      have H3 := Lib.hid h3
      clear hW3 hr1 hV hb3 h3
      generalize hgx : wr.heap.size = gx at *
      have HGX := Lib.hid hgx
      clear hgx
      have HB3W : Hid (Below bx w W3) := Lib.hid (by have h1 := HBW.out; have h2 := HB3.out; exact h1.trans (h2.mono (by have h3 := h1.size; have h4 := HGX.out; have h5 := HBXE.out; omega)))
      go_wp2_with fail
      refine (HRD.out W3 HB3W.out).mono ?_
      rintro e W5 ⟨rfl, hb5⟩
      have KX : Hid (∀ w', Below W5.heap.size W5 w' → w'.cell? ⟨gx, 0, none⟩ = some (.string ⟨xk.toArray⟩) ∧ w'.cell? ⟨gx, 1, none⟩ = some (.string ⟨xs.toArray⟩) ∧ w'.cell? ⟨gx, 2, none⟩ = some (.int .i64 (xn : Int))) := Lib.hid (fun w' hb => by
        have hl := (Array.getElem?_eq_some_iff.1 H3.out).1
        have hx := (hb.block gx (Nat.lt_of_lt_of_le hl hb5.size)).trans ((hb5.block gx hl).trans H3.out)
        refine ⟨?_, ?_, ?_⟩ <;> (rw [cell_of_row _ _ _ _ 64 (0, 0) hx]; rfl))
      have HNC : Hid (∀ w', Below W5.heap.size W5 w' → w'.cell? ⟨nb, no + i, none⟩ = some (.string ⟨xk.toArray⟩)) := Lib.hid (fun w' hb => by
        have hn0 := cell_block9 hnc
        have hn1 : nb < W3.heap.size := Nat.lt_of_lt_of_le hn0 HB3.out.size
        exact (World.cell?_of_block ((hb.block nb (Nat.lt_of_lt_of_le hn1 hb5.size)).trans ((hb5.block nb hn1).trans (HB3.out.block nb (by have := HGX.out; omega))))).trans hnc)
      have HB5W : Hid (Below bx w W5) := Lib.hid (HB3W.out.trans (hb5.mono (by have h1 := HB3W.out.size; have h5 := HBXE.out; omega)))
      have HLO : Hid (∀ w', Below W5.heap.size W5 w' → Calls Try.prog 23 #[.pointer (some ⟨d, 0, none⟩), .string ⟨xk.toArray⟩] w' fun e w'' => e = .returned (.int .i64 (lo : Int)) ∧ Below w'.heap.size w' w'') := Lib.hid (fun w' hb => HLO0.out w' (HB5W.out.trans (hb.mono (by have h1 := HB5W.out.size; have h5 := HBXE.out; omega))))
      have HB52 : Hid (Below W2.heap.size W2 W5) := Lib.hid (HBR.out.trans ((HB3.out.trans (hb5.mono (by have := HB3.out.size; have := HGX.out; omega))).mono (by have := HBR.out.size; have := HGX.out; omega)))
      have hsub := HSUB.out
      have hiI : (i : Int) < (n : Int) := by omega
      clear hb5 hnc HLO0 HRD c0 c1 c2 k0 k1 k2
      cases dn
      · simp only [Bool.false_eq_true, if_false]
        go_upto_region 8 with fail
        refine wp_region_puts (fun t v w => VK (match t with
          | 54 => .eq (.slice (some ⟨nb, no, none⟩) n qc)
          | 55 => .eq (.int .i64 (i : Int))
          | 56 => .eq (.pointer (some ⟨nb, no + i, none⟩))
          | 57 => .eq (.string ⟨xk.toArray⟩)
          | 58 => .eq (.pointer (some ⟨gx, 0, none⟩))
          | 59 => .eq (.string ⟨xk.toArray⟩)
          | 60 => .eq (Value.bool false)
          | 61 => .eq (Value.bool false)
          | 62 => .eq (.pointer (some ⟨d, 0, none⟩))
          | 63 => .eq (.pointer (some ⟨gx, 0, none⟩))
          | 64 => .eq (.string ⟨xk.toArray⟩)
          | 65 => .eq (.int .i64 (lo : Int))
          | 66 => .eq (.pointer (some ⟨gx, 1, none⟩))
          | 67 => .eq (.string ⟨xs.toArray⟩)
          | 68 => .eq (.int .i64 (xs.length : Int))
          | 69 => .eq (.pointer (some ⟨gx, 2, none⟩))
          | 70 => .eq (.int .i64 (xn : Int))
          | 71 => .eq (.int .i64 (lo : Int))
          | 72 => .eq (Value.bool false)
          | 73 => .eq (Value.bool false)
          | _ => .any) v w) (fun w' => Below W5.heap.size W5 w') 100 (by kernel_rfl) (by decide +kernel) rfl (Below.refl _ _).drew (by
          refine OweAll.cons (owesK rfl rfl fun a w1 ha hG hV => ?_) ?_
          · skip
            have h5 := ha.outer 5 (by decide +kernel)
            simp only [Act.eval] at h5
            exact ⟨.slice (some ⟨nb, no, none⟩) n qc, w1, wanted_free rfl, by simp [execOp, go_sem, h5], Below.refl _ _, rfl⟩
          refine OweAll.cons (owesK rfl rfl fun a w1 ha hG hV => ?_) ?_
          · skip
            have h6 := ha.outer 6 (by decide +kernel)
            simp only [Act.eval] at h6
            exact ⟨.int .i64 (i : Int), w1, wanted_free rfl, by simp [execOp, go_sem, h6], Below.refl _ _, rfl⟩
          refine OweAll.cons (owesK rfl rfl fun a w1 ha hG hV => ?_) ?_
          · skip
            have h54 : a.tmps.getD 54 undef = .slice (some ⟨nb, no, none⟩) n qc := hV.get 54 (by decide +kernel)
            have h55 : a.tmps.getD 55 undef = .int .i64 (i : Int) := hV.get 55 (by decide +kernel)
            exact ⟨.pointer (some ⟨nb, no + i, none⟩), w1, wanted_free rfl, by simp [execOp, go_sem, h54, h55, hiI, hend], Below.refl _ _, rfl⟩
          refine OweAll.cons (owesK rfl rfl fun a w1 ha hG hV => ?_) ?_
          · skip
            have h56 : a.tmps.getD 56 undef = .pointer (some ⟨nb, no + i, none⟩) := hV.get 56 (by decide +kernel)
            have cc := HNC.out w1 hG
            exact ⟨.string ⟨xk.toArray⟩, w1, wanted_free rfl, by simp [execOp, go_sem, h56, cc], Below.refl _ _, rfl⟩
          refine OweAll.cons (owesK rfl rfl fun a w1 ha hG hV => ?_) ?_
          · skip
            have h7 := ha.outer 7 (by decide +kernel)
            simp only [Act.eval] at h7
            exact ⟨.pointer (some ⟨gx, 0, none⟩), w1, wanted_free rfl, by simp [execOp, go_sem, h7], Below.refl _ _, rfl⟩
          refine OweAll.cons (owesK rfl rfl fun a w1 ha hG hV => ?_) ?_
          · skip
            have h58 : a.tmps.getD 58 undef = .pointer (some ⟨gx, 0, none⟩) := hV.get 58 (by decide +kernel)
            have cc := (KX.out w1 hG).1
            exact ⟨.string ⟨xk.toArray⟩, w1, wanted_free rfl, by simp [execOp, go_sem, h58, cc], Below.refl _ _, rfl⟩
          refine OweAll.cons (owesK rfl rfl fun a w1 ha hG hV => ?_) ?_
          · skip
            have h57 : a.tmps.getD 57 undef = .string ⟨xk.toArray⟩ := hV.get 57 (by decide +kernel)
            have h59 : a.tmps.getD 59 undef = .string ⟨xk.toArray⟩ := hV.get 59 (by decide +kernel)
            exact ⟨Value.bool false, w1, wanted_free rfl, by simp [execOp, go_sem, h57, h59], Below.refl _ _, rfl⟩
          refine OweAll.cons (owesK rfl rfl fun a w1 ha hG hV => ?_) ?_
          · skip
            have h60 : a.tmps.getD 60 undef = Value.bool false := hV.get 60 (by decide +kernel)
            exact ⟨Value.bool false, w1, wanted_free rfl, by simp [execOp, go_sem, h60], Below.refl _ _, rfl⟩
          refine OweAll.cons (owesK rfl rfl fun a w1 ha hG hV => ?_) ?_
          · skip
            have h0 := ha.outer 0 (by decide +kernel)
            simp only [Act.eval] at h0
            exact ⟨.pointer (some ⟨d, 0, none⟩), w1, (wanted_of (t := 61) rfl rfl (hV.get 61 (by decide +kernel))), by simp [execOp, go_sem, h0], Below.refl _ _, rfl⟩
          refine OweAll.cons (owesK rfl rfl fun a w1 ha hG hV => ?_) ?_
          · skip
            have h7 := ha.outer 7 (by decide +kernel)
            simp only [Act.eval] at h7
            exact ⟨.pointer (some ⟨gx, 0, none⟩), w1, (wanted_of (t := 61) rfl rfl (hV.get 61 (by decide +kernel))), by simp [execOp, go_sem, h7], Below.refl _ _, rfl⟩
          refine OweAll.cons (owesK rfl rfl fun a w1 ha hG hV => ?_) ?_
          · skip
            have h63 : a.tmps.getD 63 undef = .pointer (some ⟨gx, 0, none⟩) := hV.get 63 (by decide +kernel)
            have cc := (KX.out w1 hG).1
            exact ⟨.string ⟨xk.toArray⟩, w1, (wanted_of (t := 61) rfl rfl (hV.get 61 (by decide +kernel))), by simp [execOp, go_sem, h63, cc], Below.refl _ _, rfl⟩
          refine OweAll.cons (owesK_call rfl rfl 23 fun a w1 ha hG hV => ?_) ?_
          · skip
            have h62 : a.tmps.getD 62 undef = .pointer (some ⟨d, 0, none⟩) := hV.get 62 (by decide +kernel)
            have h64 : a.tmps.getD 64 undef = .string ⟨xk.toArray⟩ := hV.get 64 (by decide +kernel)
            refine ⟨#[.pointer (some ⟨d, 0, none⟩), .string ⟨xk.toArray⟩], (wanted_of (t := 61) rfl rfl (hV.get 61 (by decide +kernel))), by simp [execOp, resolve, invoke, go_sem, h62, h64], ?_⟩
            refine (HLO.out w1 hG).mono ?_
            rintro r' u2 ⟨rfl, hb2⟩; exact ⟨_, rfl, rfl, hb2⟩
          refine OweAll.cons (owesK rfl rfl fun a w1 ha hG hV => ?_) ?_
          · skip
            have h7 := ha.outer 7 (by decide +kernel)
            simp only [Act.eval] at h7
            exact ⟨.pointer (some ⟨gx, 1, none⟩), w1, (wanted_of (t := 61) rfl rfl (hV.get 61 (by decide +kernel))), by simp [execOp, go_sem, h7], Below.refl _ _, rfl⟩
          refine OweAll.cons (owesK rfl rfl fun a w1 ha hG hV => ?_) ?_
          · skip
            have h66 : a.tmps.getD 66 undef = .pointer (some ⟨gx, 1, none⟩) := hV.get 66 (by decide +kernel)
            have cc := (KX.out w1 hG).2.1
            exact ⟨.string ⟨xs.toArray⟩, w1, (wanted_of (t := 61) rfl rfl (hV.get 61 (by decide +kernel))), by simp [execOp, go_sem, h66, cc], Below.refl _ _, rfl⟩
          refine OweAll.cons (owesK rfl rfl fun a w1 ha hG hV => ?_) ?_
          · skip
            have h67 : a.tmps.getD 67 undef = .string ⟨xs.toArray⟩ := hV.get 67 (by decide +kernel)
            exact ⟨.int .i64 (xs.length : Int), w1, (wanted_of (t := 61) rfl rfl (hV.get 61 (by decide +kernel))), by simp [execOp, go_sem, h67], Below.refl _ _, rfl⟩
          refine OweAll.cons (owesK rfl rfl fun a w1 ha hG hV => ?_) ?_
          · skip
            have h7 := ha.outer 7 (by decide +kernel)
            simp only [Act.eval] at h7
            exact ⟨.pointer (some ⟨gx, 2, none⟩), w1, (wanted_of (t := 61) rfl rfl (hV.get 61 (by decide +kernel))), by simp [execOp, go_sem, h7], Below.refl _ _, rfl⟩
          refine OweAll.cons (owesK rfl rfl fun a w1 ha hG hV => ?_) ?_
          · skip
            have h69 : a.tmps.getD 69 undef = .pointer (some ⟨gx, 2, none⟩) := hV.get 69 (by decide +kernel)
            have cc := (KX.out w1 hG).2.2
            exact ⟨.int .i64 (xn : Int), w1, (wanted_of (t := 61) rfl rfl (hV.get 61 (by decide +kernel))), by simp [execOp, go_sem, h69, cc], Below.refl _ _, rfl⟩
          refine OweAll.cons (owesK rfl rfl fun a w1 ha hG hV => ?_) ?_
          · skip
            have h68 : a.tmps.getD 68 undef = .int .i64 (xs.length : Int) := hV.get 68 (by decide +kernel)
            have h70 : a.tmps.getD 70 undef = .int .i64 (xn : Int) := hV.get 70 (by decide +kernel)
            exact ⟨.int .i64 (lo : Int), w1, (wanted_of (t := 61) rfl rfl (hV.get 61 (by decide +kernel))), by simp [execOp, go_sem, h68, h70, hsub], Below.refl _ _, rfl⟩
          refine OweAll.cons (owesK rfl rfl fun a w1 ha hG hV => ?_) ?_
          · skip
            have h65 : a.tmps.getD 65 undef = .int .i64 (lo : Int) := hV.get 65 (by decide +kernel)
            have h71 : a.tmps.getD 71 undef = .int .i64 (lo : Int) := hV.get 71 (by decide +kernel)
            exact ⟨Value.bool false, w1, (wanted_of (t := 61) rfl rfl (hV.get 61 (by decide +kernel))), by simp [execOp, go_sem, h65, h71], Below.refl _ _, rfl⟩
          refine OweAll.cons (owesK rfl rfl fun a w1 ha hG hV => ?_) ?_
          · skip
            have h61 : a.tmps.getD 61 undef = Value.bool false := hV.get 61 (by decide +kernel)
            have h72 : a.tmps.getD 72 undef = Value.bool false := hV.get 72 (by decide +kernel)
            exact ⟨Value.bool false, w1, wanted_free rfl, by simp [execOp, go_sem, h61, h72], Below.refl _ _, rfl⟩
          exact OweAll.nil
          ) ?_
        intro f wz hG hv
        have e73 : f 73 = Value.bool false := hv 19 _ 73 rfl rfl
        rename_i hK
        refine hK _ _ ?_
        clear hK hv
        simp only [dsts, puts, List.filterMap_cons, List.filterMap_nil, List.foldl_cons, List.foldl_nil, Act.put, List.setIfInBounds_toArray, List.set_cons_succ, List.set_cons_zero, e73]
        clear e73
        have HBY := Lib.hid (HB52.out.trans (hG.mono HB52.out.size))
        have c4 := (HBX.out wz (W2le.out wz HBY.out)).2.2.2.2
        have cx := (KX.out wz hG).2.1
        clear hG hsub hiI
        go_wp2_with fail
        refine ⟨⟨i + 1, by omega, by simp, HBY⟩, ?_⟩
        show n - ((i : Int) + 1).toNat < n - ((i : Int)).toNat
        omega
      · simp only [if_true]
        go_upto_region 8 with fail
        refine wp_region_puts (fun t v w => VK (match t with
          | 54 => .eq (.slice (some ⟨nb, no, none⟩) n qc)
          | 55 => .eq (.int .i64 (i : Int))
          | 56 => .eq (.pointer (some ⟨nb, no + i, none⟩))
          | 57 => .eq (.string ⟨xk.toArray⟩)
          | 58 => .eq (.pointer (some ⟨gx, 0, none⟩))
          | 59 => .eq (.string ⟨xk.toArray⟩)
          | 60 => .eq (Value.bool false)
          | 61 => .eq (Value.bool false)
          | 62 => .eq (.pointer (some ⟨d, 0, none⟩))
          | 63 => .eq (.pointer (some ⟨gx, 0, none⟩))
          | 64 => .eq (.string ⟨xk.toArray⟩)
          | 65 => .eq (.int .i64 (lo : Int))
          | 66 => .eq (.pointer (some ⟨gx, 1, none⟩))
          | 67 => .eq (.string ⟨xs.toArray⟩)
          | 68 => .eq (.int .i64 (xs.length : Int))
          | 69 => .eq (.pointer (some ⟨gx, 2, none⟩))
          | 70 => .eq (.int .i64 (xn : Int))
          | 71 => .eq (.int .i64 (lo : Int))
          | 72 => .eq (Value.bool false)
          | 73 => .eq (Value.bool false)
          | _ => .any) v w) (fun w' => Below W5.heap.size W5 w') 100 (by kernel_rfl) (by decide +kernel) rfl (Below.refl _ _).drew (by
          refine OweAll.cons (owesK rfl rfl fun a w1 ha hG hV => ?_) ?_
          · skip
            have h5 := ha.outer 5 (by decide +kernel)
            simp only [Act.eval] at h5
            exact ⟨.slice (some ⟨nb, no, none⟩) n qc, w1, wanted_free rfl, by simp [execOp, go_sem, h5], Below.refl _ _, rfl⟩
          refine OweAll.cons (owesK rfl rfl fun a w1 ha hG hV => ?_) ?_
          · skip
            have h6 := ha.outer 6 (by decide +kernel)
            simp only [Act.eval] at h6
            exact ⟨.int .i64 (i : Int), w1, wanted_free rfl, by simp [execOp, go_sem, h6], Below.refl _ _, rfl⟩
          refine OweAll.cons (owesK rfl rfl fun a w1 ha hG hV => ?_) ?_
          · skip
            have h54 : a.tmps.getD 54 undef = .slice (some ⟨nb, no, none⟩) n qc := hV.get 54 (by decide +kernel)
            have h55 : a.tmps.getD 55 undef = .int .i64 (i : Int) := hV.get 55 (by decide +kernel)
            exact ⟨.pointer (some ⟨nb, no + i, none⟩), w1, wanted_free rfl, by simp [execOp, go_sem, h54, h55, hiI, hend], Below.refl _ _, rfl⟩
          refine OweAll.cons (owesK rfl rfl fun a w1 ha hG hV => ?_) ?_
          · skip
            have h56 : a.tmps.getD 56 undef = .pointer (some ⟨nb, no + i, none⟩) := hV.get 56 (by decide +kernel)
            have cc := HNC.out w1 hG
            exact ⟨.string ⟨xk.toArray⟩, w1, wanted_free rfl, by simp [execOp, go_sem, h56, cc], Below.refl _ _, rfl⟩
          refine OweAll.cons (owesK rfl rfl fun a w1 ha hG hV => ?_) ?_
          · skip
            have h7 := ha.outer 7 (by decide +kernel)
            simp only [Act.eval] at h7
            exact ⟨.pointer (some ⟨gx, 0, none⟩), w1, wanted_free rfl, by simp [execOp, go_sem, h7], Below.refl _ _, rfl⟩
          refine OweAll.cons (owesK rfl rfl fun a w1 ha hG hV => ?_) ?_
          · skip
            have h58 : a.tmps.getD 58 undef = .pointer (some ⟨gx, 0, none⟩) := hV.get 58 (by decide +kernel)
            have cc := (KX.out w1 hG).1
            exact ⟨.string ⟨xk.toArray⟩, w1, wanted_free rfl, by simp [execOp, go_sem, h58, cc], Below.refl _ _, rfl⟩
          refine OweAll.cons (owesK rfl rfl fun a w1 ha hG hV => ?_) ?_
          · skip
            have h57 : a.tmps.getD 57 undef = .string ⟨xk.toArray⟩ := hV.get 57 (by decide +kernel)
            have h59 : a.tmps.getD 59 undef = .string ⟨xk.toArray⟩ := hV.get 59 (by decide +kernel)
            exact ⟨Value.bool false, w1, wanted_free rfl, by simp [execOp, go_sem, h57, h59], Below.refl _ _, rfl⟩
          refine OweAll.cons (owesK rfl rfl fun a w1 ha hG hV => ?_) ?_
          · skip
            have h60 : a.tmps.getD 60 undef = Value.bool false := hV.get 60 (by decide +kernel)
            exact ⟨Value.bool false, w1, wanted_free rfl, by simp [execOp, go_sem, h60], Below.refl _ _, rfl⟩
          refine OweAll.cons (owesK rfl rfl fun a w1 ha hG hV => ?_) ?_
          · skip
            have h0 := ha.outer 0 (by decide +kernel)
            simp only [Act.eval] at h0
            exact ⟨.pointer (some ⟨d, 0, none⟩), w1, (wanted_of (t := 61) rfl rfl (hV.get 61 (by decide +kernel))), by simp [execOp, go_sem, h0], Below.refl _ _, rfl⟩
          refine OweAll.cons (owesK rfl rfl fun a w1 ha hG hV => ?_) ?_
          · skip
            have h7 := ha.outer 7 (by decide +kernel)
            simp only [Act.eval] at h7
            exact ⟨.pointer (some ⟨gx, 0, none⟩), w1, (wanted_of (t := 61) rfl rfl (hV.get 61 (by decide +kernel))), by simp [execOp, go_sem, h7], Below.refl _ _, rfl⟩
          refine OweAll.cons (owesK rfl rfl fun a w1 ha hG hV => ?_) ?_
          · skip
            have h63 : a.tmps.getD 63 undef = .pointer (some ⟨gx, 0, none⟩) := hV.get 63 (by decide +kernel)
            have cc := (KX.out w1 hG).1
            exact ⟨.string ⟨xk.toArray⟩, w1, (wanted_of (t := 61) rfl rfl (hV.get 61 (by decide +kernel))), by simp [execOp, go_sem, h63, cc], Below.refl _ _, rfl⟩
          refine OweAll.cons (owesK_call rfl rfl 23 fun a w1 ha hG hV => ?_) ?_
          · skip
            have h62 : a.tmps.getD 62 undef = .pointer (some ⟨d, 0, none⟩) := hV.get 62 (by decide +kernel)
            have h64 : a.tmps.getD 64 undef = .string ⟨xk.toArray⟩ := hV.get 64 (by decide +kernel)
            refine ⟨#[.pointer (some ⟨d, 0, none⟩), .string ⟨xk.toArray⟩], (wanted_of (t := 61) rfl rfl (hV.get 61 (by decide +kernel))), by simp [execOp, resolve, invoke, go_sem, h62, h64], ?_⟩
            refine (HLO.out w1 hG).mono ?_
            rintro r' u2 ⟨rfl, hb2⟩; exact ⟨_, rfl, rfl, hb2⟩
          refine OweAll.cons (owesK rfl rfl fun a w1 ha hG hV => ?_) ?_
          · skip
            have h7 := ha.outer 7 (by decide +kernel)
            simp only [Act.eval] at h7
            exact ⟨.pointer (some ⟨gx, 1, none⟩), w1, (wanted_of (t := 61) rfl rfl (hV.get 61 (by decide +kernel))), by simp [execOp, go_sem, h7], Below.refl _ _, rfl⟩
          refine OweAll.cons (owesK rfl rfl fun a w1 ha hG hV => ?_) ?_
          · skip
            have h66 : a.tmps.getD 66 undef = .pointer (some ⟨gx, 1, none⟩) := hV.get 66 (by decide +kernel)
            have cc := (KX.out w1 hG).2.1
            exact ⟨.string ⟨xs.toArray⟩, w1, (wanted_of (t := 61) rfl rfl (hV.get 61 (by decide +kernel))), by simp [execOp, go_sem, h66, cc], Below.refl _ _, rfl⟩
          refine OweAll.cons (owesK rfl rfl fun a w1 ha hG hV => ?_) ?_
          · skip
            have h67 : a.tmps.getD 67 undef = .string ⟨xs.toArray⟩ := hV.get 67 (by decide +kernel)
            exact ⟨.int .i64 (xs.length : Int), w1, (wanted_of (t := 61) rfl rfl (hV.get 61 (by decide +kernel))), by simp [execOp, go_sem, h67], Below.refl _ _, rfl⟩
          refine OweAll.cons (owesK rfl rfl fun a w1 ha hG hV => ?_) ?_
          · skip
            have h7 := ha.outer 7 (by decide +kernel)
            simp only [Act.eval] at h7
            exact ⟨.pointer (some ⟨gx, 2, none⟩), w1, (wanted_of (t := 61) rfl rfl (hV.get 61 (by decide +kernel))), by simp [execOp, go_sem, h7], Below.refl _ _, rfl⟩
          refine OweAll.cons (owesK rfl rfl fun a w1 ha hG hV => ?_) ?_
          · skip
            have h69 : a.tmps.getD 69 undef = .pointer (some ⟨gx, 2, none⟩) := hV.get 69 (by decide +kernel)
            have cc := (KX.out w1 hG).2.2
            exact ⟨.int .i64 (xn : Int), w1, (wanted_of (t := 61) rfl rfl (hV.get 61 (by decide +kernel))), by simp [execOp, go_sem, h69, cc], Below.refl _ _, rfl⟩
          refine OweAll.cons (owesK rfl rfl fun a w1 ha hG hV => ?_) ?_
          · skip
            have h68 : a.tmps.getD 68 undef = .int .i64 (xs.length : Int) := hV.get 68 (by decide +kernel)
            have h70 : a.tmps.getD 70 undef = .int .i64 (xn : Int) := hV.get 70 (by decide +kernel)
            exact ⟨.int .i64 (lo : Int), w1, (wanted_of (t := 61) rfl rfl (hV.get 61 (by decide +kernel))), by simp [execOp, go_sem, h68, h70, hsub], Below.refl _ _, rfl⟩
          refine OweAll.cons (owesK rfl rfl fun a w1 ha hG hV => ?_) ?_
          · skip
            have h65 : a.tmps.getD 65 undef = .int .i64 (lo : Int) := hV.get 65 (by decide +kernel)
            have h71 : a.tmps.getD 71 undef = .int .i64 (lo : Int) := hV.get 71 (by decide +kernel)
            exact ⟨Value.bool false, w1, (wanted_of (t := 61) rfl rfl (hV.get 61 (by decide +kernel))), by simp [execOp, go_sem, h65, h71], Below.refl _ _, rfl⟩
          refine OweAll.cons (owesK rfl rfl fun a w1 ha hG hV => ?_) ?_
          · skip
            have h61 : a.tmps.getD 61 undef = Value.bool false := hV.get 61 (by decide +kernel)
            have h72 : a.tmps.getD 72 undef = Value.bool false := hV.get 72 (by decide +kernel)
            exact ⟨Value.bool false, w1, wanted_free rfl, by simp [execOp, go_sem, h61, h72], Below.refl _ _, rfl⟩
          exact OweAll.nil
          ) ?_
        intro f wz hG hv
        have e73 : f 73 = Value.bool false := hv 19 _ 73 rfl rfl
        rename_i hK
        refine hK _ _ ?_
        clear hK hv
        simp only [dsts, puts, List.filterMap_cons, List.filterMap_nil, List.foldl_cons, List.foldl_nil, Act.put, List.setIfInBounds_toArray, List.set_cons_succ, List.set_cons_zero, e73]
        clear e73
        have HBY := Lib.hid (HB52.out.trans (hG.mono HB52.out.size))
        have c4 := (HBX.out wz (W2le.out wz HBY.out)).2.2.2.2
        have cx := (KX.out wz hG).2.1
        clear hG hsub hiI
        go_wp2_with fail
        refine ⟨⟨i + 1, by omega, by simp, HBY⟩, ?_⟩
        show n - ((i : Int) + 1).toNat < n - ((i : Int)).toNat
        omega
    · have HBE := Lib.hid HBW.out
      have hend2 : ¬ (i : Int) < (n : Int) := by omega
      clear hend
      go_wp2_with fail
      go_ret
      exact ⟨rfl, by have := HBE.out; rwa [← HBXE.out] at this⟩
end Go.Proofs.Ytpbcglepecojmaa

namespace Go.Proofs.Ytpbcglepecojmaa
open Go.RowKit

theorem rkdo_any {w : World} (S : St) (ok : Ok S) (so : SrtX S.X) (ao : Option Addr) (c : Nat) (hR : Rd encF w ao S.X) (kd : Int) (h0 : 0 ≤ kd) (h4 : kd ≤ 4) (k s : List UInt8) (n : Int) (hk : k.length ≤ 1000000) (hs : s.length ≤ 1000000000) :
    Calls Try.prog 20 #[.agg (rdC S ao c), .int .i64 kd, .string ⟨k.toArray⟩, .string ⟨s.toArray⟩, .int .i64 n] w fun e w' => DoP w ao S.X (doS S kd k s n) (doR S kd k s n) e w' := by
  obtain rfl | rfl | rfl | rfl | rfl : kd = 0 ∨ kd = 1 ∨ kd = 2 ∨ kd = 3 ∨ kd = 4 := by omega
  · exact rkdo0_any S ok so ao c hR k s n hk hs
  · exact rkdo1_any S ok so ao c hR k s n hk hs
  · exact rkdo2_any S ok so ao c hR k s n hk hs
  · exact rkdo3_any S ok so ao c hR k s n hk hs
  · exact rkdo4_any S ok so ao c hR k s n hk hs
/-- A disk at p that is S, the document's in the box at g that is T. -/
def PL (w1 w : World) (p g : Nat) (S T : St) : Prop :=
  ∃ F ao c, DA w p S F ∧ (∀ i, F i → w1.heap.size ≤ i) ∧ Below w1.heap.size w1 w ∧ w.heap[g]? = some (.cells (rdC T ao c) 28 (0, 0)) ∧ w1.heap.size ≤ g ∧ ¬ F g ∧ Rd encF w ao T.X ∧ ∀ a, ao = some a → T.X ≠ [] → ¬ F a.block ∧ a.block ≠ g
section
variable {w1 w w' : World} {p g : Nat} {S T : St}
theorem PL.b (h : PL w1 w p g S T) : Below w1.heap.size w1 w := by obtain ⟨_, _, _, _, _, h, _⟩ := h; exact h
theorem Rd.kept {α : Type} {E : Enc α} {w w' : World} {ao : Option Addr} {L : List α} (h : Rd E w ao L) {K : Nat → Prop} (hm : Mod K w w') (hn : ∀ a, ao = some a → L ≠ [] → ¬ K a.block) : Rd E w' ao L := by
  intro j hj
  obtain ⟨bs, off, e, hlt, hc⟩ := h j hj
  exact ⟨bs, off, e, Nat.lt_of_lt_of_le hlt hm.size, fun i u hu => (World.cell?_of_block (hm.block bs hlt (hn _ e (by intro e'; subst e'; simp at hj)))).trans (hc i u hu)⟩
theorem PL.old (h : PL w1 w p g S T) (hb : Below w.heap.size w w') : PL w1 w' p g S T := by
  obtain ⟨F, ao, c, h1, h2, h3, h4, h5, h6, h7, h8⟩ := h
  exact ⟨F, ao, c, h1.old hb, h2, h3.trans (hb.mono h3.size), (hb.block _ (Array.getElem?_eq_some_iff.1 h4).1).trans h4, h5, h6, h7.old hb, h8⟩
theorem PL.eff (h : PL w1 w p g S T) : ∃ F, DA w p S F ∧ (∀ i, F i → w1.heap.size ≤ i) ∧ ∀ w' S', Eff w w' p S' F → PL w1 w' p g S' T := by
  obtain ⟨F, ao, c, h1, h2, h3, h4, h5, h6, h7, h8⟩ := h
  refine ⟨F, h1, h2, fun w' S' hE => ?_⟩
  obtain ⟨F', hA, hF', hm⟩ := hE
  have hg := (Array.getElem?_eq_some_iff.1 h4).1
  refine ⟨F', ao, c, hA, fun i hi => (hF' i hi).elim (h2 i) (fun h => Nat.le_trans h3.size h), h3.trans (hm.to_below h3.size (fun k hk hf => by have := h2 k hf; omega)), (hm.block g hg h6).trans h4, h5, fun hf => (hF' g hf).elim h6 (fun h => by omega), h7.kept hm (fun a e hne => (h8 a e hne).1), fun a e hne => ⟨fun hf => ?_, (h8 a e hne).2⟩⟩
  rcases hF' _ hf with h | h
  · exact (h8 a e hne).1 h
  · obtain ⟨x, l, ex⟩ := List.exists_cons_of_ne_nil hne
    obtain ⟨b, o, e2, hlt, _⟩ := h7 0 (by rw [ex]; simp)
    rw [e] at e2
    obtain rfl := Option.some.inj e2
    simp only at h
    omega
theorem PL.ref (h : PL w1 w p g S T) : ∃ ao c, w.heap[g]? = some (.cells (rdC T ao c) 28 (0, 0)) ∧ Rd encF w ao T.X ∧ ∀ w', Below w.heap.size w w' → ∀ T' q c', Rd encF w' q T'.X → (q = ao ∧ T'.X = T.X ∨ ∀ a, q = some a → w.heap.size ≤ a.block) → PL w1 (w'.setRow g (rdC T' q c')) p g S T' := by
  obtain ⟨F, ao, c, h1, h2, h3, h4, h5, h6, h7, h8⟩ := h
  refine ⟨ao, c, h4, h7, fun w' hb T' q c' hq hor => ?_⟩
  have hg := (Array.getElem?_eq_some_iff.1 h4).1
  have hg' : w'.heap[g]? = some (.cells (rdC T ao c) 28 (0, 0)) := (hb.block g hg).trans h4
  have hm : Mod (fun i => i = g) w' (w'.setRow g (rdC T' q c')) := ⟨rfl, rfl, rfl, by simp [World.setRow], fun k hk hn => setRow_other w' g k _ (fun e => hn e)⟩
  have hB := h3.trans (hb.mono h3.size)
  have hFl := h1.lt
  refine ⟨F, q, c', (h1.old hb).kept hm (fun i hi e => h6 (e ▸ hi)), h2, hB.trans (hm.to_below hB.size (by intro k hk e; omega)), setRow_heap _ _ _ _ 28 (0, 0) hg', h5, h6, hq.kept hm (fun a e hne hn => ?_), fun a e hne => ?_⟩
  · rcases hor with ⟨rfl, hx⟩ | hn2
    · exact (h8 a e (by rw [← hx]; exact hne)).2 hn
    · have := hn2 a e
      omega
  · rcases hor with ⟨rfl, hx⟩ | hn2
    · exact h8 a e (by rw [← hx]; exact hne)
    · exact ⟨fun hf => by have := hn2 a e; have := hFl _ hf; omega, by have := hn2 a e; omega⟩
theorem PL.halt (h : PL w1 w p g S T) (m : Int) : (w.cell? ⟨g, 3, none⟩ = some (.int .i64 T.lf) ∧ w.frozen? ⟨g, 3, none⟩ = false) ∧ PL w1 (w.setCell ⟨g, 3, none⟩ (.int .i64 m)) p g S { T with lf := m } := by
  obtain ⟨F, ao, c, h1, h2, h3, h4, h5, h6, h7, h8⟩ := h
  have hm : Mod (fun i => i = g) w (w.setCell ⟨g, 3, none⟩ (.int .i64 m)) := (Mod.refl (fun i => i = g) w).setCell (fun _ => rfl) _
  exact ⟨⟨by rw [cell_of_row _ _ _ _ 28 (0, 0) h4]; rfl, frozen_of_row _ _ _ _ 28 h4⟩, F, ao, c, h1.kept hm (fun i hi e => h6 (e ▸ hi)), h2, h3.trans (hm.to_below h3.size (by intro k hk e; omega)), by rw [heap_setCell_same _ _ _ _ 28 _ h4]; rfl, h5, h6, h7.kept hm (fun a e hne hn => (h8 a e hne).2 hn), h8⟩
theorem PL.dn (h : PL w1 w p g S T) : w.cell? ⟨g, 4, none⟩ = some (.bool T.dn) := by
  obtain ⟨F, ao, c, h1, h2, h3, h4, h5, h6, h7, h8⟩ := h
  rw [cell_of_row _ _ _ _ 28 (0, 0) h4]; rfl
end
/-- The law's kind, and its text. -/
def kdL (x : AX) : Int := if x.kd < 0 ∨ 4 < x.kd then 0 else x.kd
def txL (x : AX) : List UInt8 := if kdL x = 3 then x.tx.take 3 else x.tx.take 20
theorem act_do (S : St) (x : AX) : actS S x = doS S (kdL x) (x.nm.take 3) (txL x) x.nn ∧ actR S x = doR S (kdL x) (x.nm.take 3) (txL x) x.nn := by
  have h : actW S x = (wrK S (kdL x) (x.nm.take 3) (txL x) x.nn, XK S (kdL x) (x.nm.take 3) (txL x) x.nn) := by
    unfold actW txL kdL wrK XK
    by_cases h1 : x.kd = 1
    · simp [h1]
    by_cases h2 : x.kd = 2
    · simp [h2]
    by_cases h3 : x.kd = 3
    · simp [h3]
    by_cases h4 : x.kd = 4
    · simp [h4]
    · have hk : (if x.kd < 0 ∨ 4 < x.kd then (0 : Int) else x.kd) = 0 := by split <;> omega
      rw [hk]
      simp [h1, h2, h3, h4]
  unfold actS actR doS doR
  rw [h]
  exact ⟨rfl, rfl⟩
end Go.Proofs.Ytpbcglepecojmaa

namespace Go.Proofs.Ytpbcglepecojmaa
open Go.RowKit

theorem wpList_load_rowG {P : Program} {ops : Array Oper} {rest : List Oper} {o : Oper} {a : Act} {w : World} {Q : Exit → Act → World → Prop} (hw : Region.wanted o (yielded ops a.tmps) = true) (ty : TypeId) (x : Operand) (ho : o.op = .load ty x)
    (g : Nat) (hx : a.eval x = .pointer (some ⟨g, 0, none⟩)) (t : TypeId) (cs : Array Value) (fr : Nat × Nat) (d : TypeDesc) (hg : w.heap[g]? = some (.cells cs t fr))
    (hu : P.underlying ty = some d) (hd : (match d with | .struct _ | .array _ _ => true | _ => false) = true) (hi : (P.info? ty).map (·.size) = some cs.size)
    (h : wpList P ops Q rest (a.put o.dst (.agg cs)) w) : wpList P ops Q (o :: rest) a w :=
  wpList_step fun _ hK => by rw [if_pos hw]; exact wp_load_row ty x ho g hx t cs fr d hg hu hd hi (hK _ _ h)
set_option maxRecDepth 20000 in
set_option maxHeartbeats 40000000 in
theorem diskPlays_any (w : World) (rq : Int) (ao : Option Addr) (cap : Nat) (L : List AX) (hL : Rd encX w ao L) (hLx : ∀ s ∈ L, okX w s) (hLl : L.length ≤ 9223372036854775807) :
    Calls Try.prog 3 #[.int .i64 rq, .slice ao L.length cap] w fun r w' => r = .returned (.bool true) ∧ Below w.heap.size w w' := by
  have HA := Lib.hid (awake09_any w)
  obtain ⟨r1, hr1⟩ : ∃ r, min rq 200 = r := ⟨_, rfl⟩
  obtain ⟨r, hr⟩ : ∃ r, max 0 r1 = r := ⟨_, rfl⟩
  have hrb : 0 ≤ r ∧ r ≤ 200 := by omega
  have HN : Hid (∀ w, Calls Try.prog 8 #[.int .i64 r] w fun e w' => ∃ p, e = .returned (.pointer (some ⟨p, 0, none⟩)) ∧ Dk w w' p ⟨r, 0, -1, false, []⟩) := Lib.hid (fun w => Dk.new r r r w (by omega) (by omega))
  have HRB := Lib.hid hrb
  have HL := Lib.hid hL
  have HLX := Lib.hid hLx
  have HI := Lib.hid finfo
  have HJ := Lib.hid rinfo
  have HJ2 := HJ.out
  have HXI : Hid ((Try.prog.info? 31).map (·.size) = some 5) := Lib.hid (by kernel_rfl)
  have HXI2 := HXI.out
  obtain ⟨nl, hnl⟩ : ∃ nl, nl = L.length := ⟨_, rfl⟩
  have HNL := Lib.hid hnl
  rw [← hnl] at hLl ⊢
  clear hL hLx hnl hrb
  go_enter Try.func3, Try.ntmps3
  go_wp2_with fail
  refine HA.out.mono ?_
  rintro e w1 ⟨rfl, hb1⟩
  have HB1 := Lib.hid hb1
  clear hb1 HA
  go_wp2_with fail
  refine (HN.out _).mono ?_
  rintro e w2 ⟨p, rfl, hD⟩
  have hr0 : (w2.alloc (.cells #[.slice none 0 0, .int .i64 0, .int .i64 0, .int .i64 0, .bool false] 28)).heap[w2.heap.size]? = some (.cells #[.slice none 0 0, .int .i64 0, .int .i64 0, .int .i64 0, .bool false] 28 (0, 0)) := heap_alloc_new _ _
  have hV0 : ∀ v ∈ (#[.slice none 0 0, .int .i64 r, .int .i64 0, .int .i64 (-1), .bool false] : Array Value).toList, v.oneCell' = true := by intro v hv; simp at hv; rcases hv with rfl | rfl | rfl | rfl | rfl <;> rfl
  obtain ⟨W2, hW2⟩ : ∃ W, W = (w2.alloc (.cells #[.slice none 0 0, .int .i64 0, .int .i64 0, .int .i64 0, .bool false] 28)).setRow w2.heap.size #[.slice none 0 0, .int .i64 r, .int .i64 0, .int .i64 (-1), .bool false] := ⟨_, rfl⟩
  have hb2 : Below w2.heap.size w2 W2 := by rw [hW2]; exact (((Mod.refl (fun _ => False) w2).alloc _).setRow (g := w2.heap.size) _).to_below (Nat.le_refl _) (by rintro k hk (h | h); exact h; omega)
  have HPL0 : Hid (PL w1 W2 p w2.heap.size ⟨r, 0, -1, false, []⟩ ⟨r, 0, -1, false, []⟩) := Lib.hid (by
    obtain ⟨F, hA, hF, hB⟩ := hD
    have hFl := hA.lt
    exact ⟨F, none, 0, hA.old hb2, hF, hB.trans (hb2.mono hB.size), by rw [hW2]; exact setRow_heap _ _ _ _ 28 (0, 0) hr0, hB.size, (fun hf => by have := hFl _ hf; omega), Rd.nil _ _, (fun a e => by cases e)⟩)
  have HW2 := Lib.hid hW2
  clear hW2 hb2 hD HN
  go_upto_region 5 with (refine wpList_store_row rfl rfl 28 (.tmp 6) (.tmp 26) rfl w2.heap.size rfl 28 _ #[.slice none 0 0, .int .i64 r, .int .i64 0, .int .i64 (-1), .bool false] rfl hr0 rfl HJ2 hV0 ?_)
  rw [← HW2.out]
  clear hr0 hV0 HW2
  generalize w2.heap.size = g at *
  have HK0 : Hid (∃ S, Gd S 0 ∧ PL w1 W2 p g S S) := Lib.hid ⟨_, Gd.new r HRB.out.1 (by have := HRB.out.2; omega), HPL0.out⟩
  clear HPL0
  go_wp2_with fail
  go_loopw [7, 8, 9, 10, 11, 12, 13, 14, 15, 16, 17] (fun s7 _ _ _ _ _ _ _ _ _ _ wr => ∃ i : Nat, i ≤ nl ∧ i ≤ 60 ∧ s7 = .int .i64 (i : Int) ∧ Hid (∃ S, Gd S i ∧ PL w1 wr p g S S)) (fun s7 _ _ _ _ _ _ _ _ _ _ _ => 60 - (intOf s7).toNat)
  case atStart => exact ⟨0, Nat.zero_le _, by omega, rfl, HK0⟩
  case round =>
    obtain ⟨i, hi, hi2, rfl, hR⟩ := hrel
    by_cases hend : i < nl ∧ i < 60
    · obtain ⟨S, hg, hPL⟩ := hR.out
      obtain ⟨hd1, hd2⟩ := hend
      obtain ⟨ab, af, hae, _, hac⟩ := (HL.out.old (HB1.out.trans (hPL.b.mono HB1.out.size))).ax i (by rw [← HNL.out]; exact hd1)
      have hxo := HLX.out (L[i]'(by rw [← HNL.out]; exact hd1)) (List.getElem_mem _)
      subst hae
      generalize L[i]'(by rw [← HNL.out]; exact hd1) = x at hac hxo
      have HXO := Lib.hid hxo
      have e1 : decide ((i : Int) < (nl : Int)) = true := by simpa using hd1
      have e2 : decide ((i : Int) < 60) = true := by simp; omega
      have c0 : wr.cell? ⟨ab, af + i * 5, none⟩ = some (.int .i64 x.kd) := hac 0 _ rfl
      have c1 : wr.cell? ⟨ab, af + i * 5 + 1, none⟩ = some (.int .i64 x.nn) := hac 1 _ rfl
      have c2 : wr.cell? ⟨ab, af + i * 5 + 2, none⟩ = some (.string ⟨x.nm.toArray⟩) := hac 2 _ rfl
      have c3 : wr.cell? ⟨ab, af + i * 5 + 3, none⟩ = some (.string ⟨x.tx.toArray⟩) := hac 3 _ rfl
      have c4 : wr.cell? ⟨ab, af + i * 5 + 4, none⟩ = some (.slice x.co x.ch.length x.cc) := hac 4 _ rfl
      have HG := Lib.hid hg
      have HPW := Lib.hid hPL
      have HOK : Hid (Ok S) := Lib.hid (hg.ok (by omega))
      have hr1' : (wr.alloc (.cells #[.int .i64 0, .int .i64 0, .string ⟨#[]⟩, .string ⟨#[]⟩, .slice none 0 0] 31)).heap[wr.heap.size]? = some (.cells #[.int .i64 0, .int .i64 0, .string ⟨#[]⟩, .string ⟨#[]⟩, .slice none 0 0] 31 (0, 0)) := heap_alloc_new _ _
      have hV : ∀ v ∈ (#[.int .i64 x.kd, .int .i64 x.nn, .string ⟨x.nm.toArray⟩, .string ⟨x.tx.toArray⟩, .slice x.co x.ch.length x.cc] : Array Value).toList, v.oneCell' = true := by intro v hv; simp at hv; rcases hv with rfl | rfl | rfl | rfl | rfl <;> rfl
      clear hR HK0 hg hPL hac hxo
      go_upto_region 11 with (refine wpList_store_row rfl rfl 31 (.tmp 8) (.tmp 42) rfl wr.heap.size rfl 31 _ #[.int .i64 x.kd, .int .i64 x.nn, .string ⟨x.nm.toArray⟩, .string ⟨x.tx.toArray⟩, .slice x.co x.ch.length x.cc] rfl hr1' rfl HXI2 hV ?_)
      obtain ⟨W3, hW3⟩ : ∃ W, W = (wr.alloc (.cells #[.int .i64 0, .int .i64 0, .string ⟨#[]⟩, .string ⟨#[]⟩, .slice none 0 0] 31)).setRow wr.heap.size #[.int .i64 x.kd, .int .i64 x.nn, .string ⟨x.nm.toArray⟩, .string ⟨x.tx.toArray⟩, .slice x.co x.ch.length x.cc] := ⟨_, rfl⟩
      have hb3 : Below wr.heap.size wr W3 := by rw [hW3]; exact (((Mod.refl (fun _ => False) wr).alloc _).setRow (g := wr.heap.size) _).to_below (Nat.le_refl _) (by rintro k hk (h | h); exact h; omega)
      have h3 : W3.heap[wr.heap.size]? = some (.cells #[.int .i64 x.kd, .int .i64 x.nn, .string ⟨x.nm.toArray⟩, .string ⟨x.tx.toArray⟩, .slice x.co x.ch.length x.cc] 31 (0, 0)) := by rw [hW3]; exact setRow_heap _ _ _ _ 31 (0, 0) hr1'
      rw [← hW3]
      have HPL := Lib.hid (HPW.out.old hb3)
      -- the act's box: no disk's block, no later one's
      have HBOX : Hid (∀ w' : World, w'.heap[wr.heap.size]? = W3.heap[wr.heap.size]? → w'.cell? ⟨wr.heap.size, 0, none⟩ = some (.int .i64 x.kd) ∧ w'.cell? ⟨wr.heap.size, 1, none⟩ = some (.int .i64 x.nn) ∧ w'.cell? ⟨wr.heap.size, 2, none⟩ = some (.string ⟨x.nm.toArray⟩) ∧ w'.cell? ⟨wr.heap.size, 3, none⟩ = some (.string ⟨x.tx.toArray⟩) ∧ w'.cell? ⟨wr.heap.size, 4, none⟩ = some (.slice x.co x.ch.length x.cc) ∧ w'.heap[wr.heap.size]? = some (.cells #[.int .i64 x.kd, .int .i64 x.nn, .string ⟨x.nm.toArray⟩, .string ⟨x.tx.toArray⟩, .slice x.co x.ch.length x.cc] 31 (0, 0))) := Lib.hid (fun w' hb => by
        have hx := hb.trans h3
        refine ⟨?_, ?_, ?_, ?_, ?_, hx⟩ <;> (rw [cell_of_row _ _ _ _ 31 (0, 0) hx]; rfl))
      obtain ⟨FX, hAX, hFXG, hEX⟩ := HPW.out.eff
      have HFXG := Lib.hid hFXG
      clear hFXG
      have hFXl := hAX.lt
      have HDX : Hid (∀ W, Below W3.heap.size W3 W → DA W p S FX ∧ ∀ w' S', Eff W w' p S' FX → PL w1 w' p g S' S ∧ w'.heap[wr.heap.size]? = W3.heap[wr.heap.size]?) := Lib.hid (fun W hb => by
        have hbW : Below wr.heap.size wr W := hb3.trans (hb.mono hb3.size)
        refine ⟨hAX.old hbW, fun w' S' hE => ?_⟩
        refine ⟨hEX w' S' (Eff.trans ((Mod.of_below hbW).mono (fun i hi h => by omega)) hE), ?_⟩
        obtain ⟨_, _, _, hm⟩ := hE
        have hl := (Array.getElem?_eq_some_iff.1 h3).1
        exact (hm.block _ (Nat.lt_of_lt_of_le hl hb.size) (fun hf => by have := hFXl _ hf; omega)).trans (hb.block _ hl))
      obtain ⟨y0, y1, y2, y3, y4, _⟩ := HBOX.out W3 rfl
      have HCT := Lib.hid (fun w => cut_any x.nm 3 w HXO.out.nm (by decide))
      have HGXL : Hid (wr.heap.size < W3.heap.size) := Lib.hid (Array.getElem?_eq_some_iff.1 h3).1
      have HGNE : Hid (g ≠ wr.heap.size) := Lib.hid (by
        obtain ⟨_, _, hgx, _⟩ := HPW.out.ref
        have := (Array.getElem?_eq_some_iff.1 hgx).1
        omega)
      clear hW3 hr1' hV hb3 h3 c0 c1 c2 c3 c4 hAX hEX hFXl
      generalize wr.heap.size = gx at *
      go_wp2_with fail
      refine (HCT.out _).mono ?_
      rintro e wc ⟨rfl, hwc⟩
      subst hwc
      by_cases hk5 : x.kd = 5
      · have hk5b : (x.kd == 5) = true := by simpa using hk5
        have HGE : Hid (Gd S (i + 1)) := Lib.hid (HG.out.more (by omega))
        obtain ⟨F5, hA5, _, _⟩ := HPL.out.eff
        have HRD := Lib.hid (dkread_any hA5 (x.nm.take 3) (by rw [List.length_take]; unfold maxLen; omega))
        clear hA5
        cases hdn : S.dn
        · have HDN := Lib.hid hdn
          clear hdn
          cases hh : hasX (x.nm.take 3) S.X
          · have HH := Lib.hid hh
            rw [show rdX S (x.nm.take 3) = ([], 7) by unfold rdX; rw [HDN.out, hh]; rfl] at HRD
            clear hh
            go_wp2_with fail
            refine HRD.out.mono ?_
            rintro e wR ⟨rfl, hbR⟩
            have HPR := Lib.hid (HPL.out.old hbR)
            obtain ⟨_, aor, cr, _, _, _, hxr, _, _, hRr, _⟩ := HPR.out
            have hfd := rkfind_any S aor cr (x.nm.take 3) hRr (Nat.le_trans HOK.out.n (by decide))
            have hri : (Try.prog.info? 28).map (·.size) = some (rdC S aor cr).size := HJ.out
            rw [fdX_none HH.out] at hfd
            have HFD := Lib.hid hfd
            clear hbR hfd hRr
            go_wp2_with (refine wpList_load_row rfl 28 (.tmp 6) rfl g rfl 28 (rdC S aor cr) (0, 0) _ hxr Try.underlying28 rfl hri ?_; clear hxr)
            refine HFD.out.mono ?_
            rintro e wE ⟨rfl, hbE⟩
            have HPE := Lib.hid (HPR.out.old hbE)
            have cd := HPE.out.dn
            rw [HDN.out] at cd
            clear hbE
            go_upto_region 40 with fail
            clear cd
            obtain ⟨Fe, aoe, ce, hAe, _, _, hxe, _, _, hRe, _⟩ := HPE.out
            have HIS := Lib.hid (is09_any S hAe (HGE.out.ok (by omega)) aoe ce hRe)
            have hxr : wE.heap[g]? = some (.cells (rdC S aoe ce) 28 (0, 0)) := hxe
            have hri : (Try.prog.info? 28).map (·.size) = some (rdC S aoe ce).size := HJ.out
            clear hAe hRe hxe
            go_wp2_with (refine wpList_load_row rfl 28 (.tmp 6) rfl g rfl 28 (rdC S aoe ce) (0, 0) _ hxr Try.underlying28 rfl hri ?_; clear hxr)
            refine HIS.out.mono ?_
            rintro e wI ⟨rfl, hbI⟩
            have HPI := Lib.hid (HPE.out.old hbI)
            clear hbI
            go_wp2_with fail
            refine ⟨⟨i + 1, by omega, by omega, by simp, Lib.hid ⟨S, HGE.out, HPI.out⟩⟩, ?_⟩
            show 60 - ((i : Int) + 1).toNat < 60 - ((i : Int)).toNat
            omega
          · have HH := Lib.hid hh
            rw [show rdX S (x.nm.take 3) = ((fiX (x.nm.take 3) S.X).2.1, 0) by unfold rdX; rw [HDN.out, hh]; rfl] at HRD
            clear hh
            go_wp2_with fail
            refine HRD.out.mono ?_
            rintro e wR ⟨rfl, hbR⟩
            have HPR := Lib.hid (HPL.out.old hbR)
            obtain ⟨_, aor, cr, _, _, _, hxr, _, _, hRr, _⟩ := HPR.out
            have hfd := rkfind_any S aor cr (x.nm.take 3) hRr (Nat.le_trans HOK.out.n (by decide))
            have hri : (Try.prog.info? 28).map (·.size) = some (rdC S aor cr).size := HJ.out
            obtain ⟨jj, hj1, _⟩ := fdX_some (i := 0) HH.out
            rw [hj1, Nat.zero_add] at hfd
            clear hj1
            have HFD := Lib.hid hfd
            clear hbR hfd hRr
            go_wp2_with (refine wpList_load_row rfl 28 (.tmp 6) rfl g rfl 28 (rdC S aor cr) (0, 0) _ hxr Try.underlying28 rfl hri ?_; clear hxr)
            refine HFD.out.mono ?_
            rintro e wE ⟨rfl, hbE⟩
            have HPE := Lib.hid (HPR.out.old hbE)
            have cd := HPE.out.dn
            rw [HDN.out] at cd
            clear hbE
            go_upto_region 40 with fail
            clear cd
            obtain ⟨Fe, aoe, ce, hAe, _, _, hxe, _, _, hRe, _⟩ := HPE.out
            have HIS := Lib.hid (is09_any S hAe (HGE.out.ok (by omega)) aoe ce hRe)
            have hxr : wE.heap[g]? = some (.cells (rdC S aoe ce) 28 (0, 0)) := hxe
            have hri : (Try.prog.info? 28).map (·.size) = some (rdC S aoe ce).size := HJ.out
            clear hAe hRe hxe
            go_wp2_with (refine wpList_load_row rfl 28 (.tmp 6) rfl g rfl 28 (rdC S aoe ce) (0, 0) _ hxr Try.underlying28 rfl hri ?_; clear hxr)
            refine HIS.out.mono ?_
            rintro e wI ⟨rfl, hbI⟩
            have HPI := Lib.hid (HPE.out.old hbI)
            clear hbI
            go_wp2_with fail
            refine ⟨⟨i + 1, by omega, by omega, by simp, Lib.hid ⟨S, HGE.out, HPI.out⟩⟩, ?_⟩
            show 60 - ((i : Int) + 1).toNat < 60 - ((i : Int)).toNat
            omega
        · have HDN := Lib.hid hdn
          rw [show rdX S (x.nm.take 3) = ([], 6) by unfold rdX; rw [hdn]; rfl] at HRD
          clear hdn
          go_wp2_with fail
          refine HRD.out.mono ?_
          rintro e wR ⟨rfl, hbR⟩
          have HPR := Lib.hid (HPL.out.old hbR)
          obtain ⟨_, aor, cr, _, _, _, hxr, _, _, hRr, _⟩ := HPR.out
          have hfd := rkfind_any S aor cr (x.nm.take 3) hRr (Nat.le_trans HOK.out.n (by decide))
          have hri : (Try.prog.info? 28).map (·.size) = some (rdC S aor cr).size := HJ.out
          generalize fdX (x.nm.take 3) S.X 0 = zz at hfd
          have HFD := Lib.hid hfd
          clear hbR hfd hRr
          go_wp2_with (refine wpList_load_row rfl 28 (.tmp 6) rfl g rfl 28 (rdC S aor cr) (0, 0) _ hxr Try.underlying28 rfl hri ?_; clear hxr)
          refine HFD.out.mono ?_
          rintro e wE ⟨rfl, hbE⟩
          have HPE := Lib.hid (HPR.out.old hbE)
          have cd := HPE.out.dn
          rw [HDN.out] at cd
          clear hbE
          go_upto_region 40 with fail
          clear cd
          obtain ⟨Fe, aoe, ce, hAe, _, _, hxe, _, _, hRe, _⟩ := HPE.out
          have HIS := Lib.hid (is09_any S hAe (HGE.out.ok (by omega)) aoe ce hRe)
          have hxr : wE.heap[g]? = some (.cells (rdC S aoe ce) 28 (0, 0)) := hxe
          have hri : (Try.prog.info? 28).map (·.size) = some (rdC S aoe ce).size := HJ.out
          clear hAe hRe hxe
          go_wp2_with (refine wpList_load_row rfl 28 (.tmp 6) rfl g rfl 28 (rdC S aoe ce) (0, 0) _ hxr Try.underlying28 rfl hri ?_; clear hxr)
          refine HIS.out.mono ?_
          rintro e wI ⟨rfl, hbI⟩
          have HPI := Lib.hid (HPE.out.old hbI)
          clear hbI
          go_wp2_with fail
          refine ⟨⟨i + 1, by omega, by omega, by simp, Lib.hid ⟨S, HGE.out, HPI.out⟩⟩, ?_⟩
          show 60 - ((i : Int) + 1).toNat < 60 - ((i : Int)).toNat
          omega
      · have hk5b : (x.kd == 5) = false := by simpa using hk5
        by_cases hk6 : x.kd = 6
        · have hk6b : (x.kd == 6) = true := by simpa using hk6
          have HHT := Lib.hid (dkhalt_any (HDX.out wc (Below.refl _ _)).1 x.nn)
          obtain ⟨mm, hmm⟩ : ∃ mm, max x.nn (-1) = mm := ⟨_, rfl⟩
          have HGE : Hid (Gd { S with lf := mm } (i + 1)) := Lib.hid (by rw [← hmm]; exact (HG.out.halt x.nn HXO.out.nn.2).more (by omega))
          rw [hmm] at HHT
          go_wp2_with fail
          refine HHT.out.mono ?_
          rintro e wH ⟨rfl, hEH⟩
          obtain ⟨hPH, hbx⟩ := (HDX.out wc (Below.refl _ _)).2 _ _ hEH
          have y1 := (HBOX.out wH hbx).2.1
          obtain ⟨⟨qa, qb⟩, hPE⟩ := hPH.halt mm
          have HPE : Hid (PL w1 (wH.setCell ⟨g, 3, none⟩ (.int .i64 mm)) p g { S with lf := mm } { S with lf := mm }) := Lib.hid hPE
          clear hEH hPH hbx hPE
          go_upto_region 40 with fail
          obtain ⟨wE, hwE⟩ : ∃ W, W = wH.setCell ⟨g, 3, none⟩ (.int .i64 mm) := ⟨_, rfl⟩
          rw [← hwE] at HPE ⊢
          clear hwE qa qb y1
          obtain ⟨SE, hSE⟩ : ∃ SE : St, SE = { S with lf := mm } := ⟨_, rfl⟩
          rw [← hSE] at HPE HGE
          clear hSE
          obtain ⟨Fe, aoe, ce, hAe, _, _, hxe, _, _, hRe, _⟩ := HPE.out
          have HIS := Lib.hid (is09_any SE hAe (HGE.out.ok (by omega)) aoe ce hRe)
          have hxr : wE.heap[g]? = some (.cells (rdC SE aoe ce) 28 (0, 0)) := hxe
          have hri : (Try.prog.info? 28).map (·.size) = some (rdC SE aoe ce).size := HJ.out
          clear hAe hRe hxe
          go_wp2_with (refine wpList_load_row rfl 28 (.tmp 6) rfl g rfl 28 (rdC SE aoe ce) (0, 0) _ hxr Try.underlying28 rfl hri ?_; clear hxr)
          refine HIS.out.mono ?_
          rintro e wI ⟨rfl, hbI⟩
          have HPI := Lib.hid (HPE.out.old hbI)
          clear hbI
          go_wp2_with fail
          refine ⟨⟨i + 1, by omega, by omega, by simp, Lib.hid ⟨SE, HGE.out, HPI.out⟩⟩, ?_⟩
          show 60 - ((i : Int) + 1).toNat < 60 - ((i : Int)).toNat
          omega
        · have hk6b : (x.kd == 6) = false := by simpa using hk6
          by_cases hk7 : x.kd = 7
          · have hk7b : (x.kd == 7) = true := by simpa using hk7
            obtain ⟨chf, hchf⟩ : ∃ c, c = x.ch.take 20 := ⟨_, rfl⟩
            have HCF := Lib.hid hchf
            have hfw := fun w => few09_any x.co x.cc x.ch w HXO.out.cc (by have := HXO.out.cl; omega)
            rw [← hchf] at hfw
            have HFW := Lib.hid hfw
            have hcfl : chf.length ≤ 20 := by rw [hchf, List.length_take]; omega
            have hcfc : chf.length ≤ x.cc := by have := HXO.out.cc; rw [hchf, List.length_take]; omega
            have HRW : Hid (∀ w', Below w1.heap.size w1 w' → Rd encI w' x.co chf) := Lib.hid (fun w' hb => by rw [hchf]; exact (HXO.out.rd.take 20).old (HB1.out.trans (hb.mono HB1.out.size)))
            have HCR := Lib.hid (dkcrash_any (HDX.out wc (Below.refl _ _)).1 HOK.out x.co x.cc chf hcfc (HRW.out wc HPL.out.b) (fun hne a e hf => by
              have h1 := HFXG.out _ hf
              have h2 := HB1.out.size
              have hne2 : x.ch ≠ [] := by intro e'; rw [hchf, e'] at hne; exact hne rfl
              obtain ⟨x0, l0, e0⟩ := List.exists_cons_of_ne_nil hne2
              obtain ⟨b0, o0, e1, hlt, _⟩ := HXO.out.rd 0 (by rw [e0]; simp)
              rw [e] at e1
              obtain rfl := Option.some.inj e1
              simp only at h1
              omega))
            have HGE0 : Hid (Gd { S with X := crX chf S.X, lf := -1, dn := false } (i + 1)) := Lib.hid ((HG.out.crash chf).more (by omega))
            have HRC0 := Lib.hid (fun w' ao c (hR : Rd encF w' ao S.X) (hC : Rd encI w' x.co chf) => rkcrash_any (w := w') S HOK.out HG.out.sy ao c hR x.co x.cc chf hC (by omega))
            obtain ⟨SC, hSC⟩ : ∃ SC : St, SC = { S with X := crX chf S.X, lf := -1, dn := false } := ⟨_, rfl⟩
            have hSX : crX chf S.X = SC.X := by rw [hSC]
            rw [← hSC] at HCR HGE0
            simp only [← hSC] at HRC0
            rw [hSX] at HRC0
            clear hSC hSX hchf hfw hcfl hcfc
            go_wp2_with fail
            refine (HFW.out _).mono ?_
            rintro e wf ⟨rfl, hwf⟩
            subst hwf
            go_wp2_with fail
            refine HCR.out.mono ?_
            rintro e wH ⟨rfl, hEH⟩
            obtain ⟨hPH, hbx⟩ := (HDX.out wf (Below.refl _ _)).2 _ _ hEH
            have hbx2 := (HBOX.out wH hbx).2.2.2.2.2
            obtain ⟨aoR, cR, hxr, hRr, hset⟩ := hPH.ref
            obtain ⟨vs, hvs⟩ : ∃ v : Value, v = .slice x.co x.ch.length x.cc := ⟨_, rfl⟩
            obtain ⟨vf, hvf⟩ : ∃ v : Value, v = .slice x.co chf.length x.cc := ⟨_, rfl⟩
            obtain ⟨vD, hvD⟩ : ∃ v : Value, v = .agg (rdC S aoR cR) := ⟨_, rfl⟩
            have HVD := Lib.hid hvD
            have HFW2 : Hid (∀ w', Calls Try.prog 14 #[vs] w' fun e w'' => e = .returned vf ∧ w'' = w') := Lib.hid (fun w' => by rw [hvs, hvf]; exact HFW.out w')
            have HSL : Hid (∀ w', Below wH.heap.size wH w' → w'.cell? ⟨gx, 4, none⟩ = some vs) := Lib.hid (fun w' hb => by
              have hx := (hb.block gx (Array.getElem?_eq_some_iff.1 hbx2).1).trans hbx2
              rw [cell_of_row _ _ _ _ 31 (0, 0) hx, hvs]; rfl)
            have HLD : Hid (∀ w', Below wH.heap.size wH w' → w'.heap[g]? = some (.cells (rdC S aoR cR) 28 (0, 0))) := Lib.hid (fun w' hb => (hb.block g (Array.getElem?_eq_some_iff.1 hxr).1).trans hxr)
            have HRI : Hid ((Try.prog.info? 28).map (·.size) = some (rdC S aoR cR).size) := Lib.hid HJ.out
            have HRI2 : Hid (∀ (q : Option Addr) (c' : Nat), (Try.prog.info? 28).map (·.size) = some (rdC SC q c').size) := Lib.hid (fun _ _ => HJ.out)
            have HPHB := Lib.hid hPH.b
            have HRC2 : Hid (∀ w', Below wH.heap.size wH w' → Calls Try.prog 15 #[vD, vf] w' fun e w'' => ∃ q c', e = .returned (.agg (rdC SC q c')) ∧ Rd encF w'' q SC.X ∧ (∀ a, q = some a → wH.heap.size ≤ a.block) ∧ Below wH.heap.size wH w'') := Lib.hid (fun w' hb => by
              rw [hvD, hvf]
              refine (HRC0.out w' aoR cR (hRr.old hb) (HRW.out w' (HPHB.out.trans (hb.mono HPHB.out.size)))).mono ?_
              rintro e w'' ⟨q, c', rfl, h1, h2, h3⟩
              exact ⟨q, c', rfl, h1, fun a e => Nat.le_trans hb.size (h2 a e), hb.trans (h3.mono hb.size)⟩)
            have HST : Hid (∀ w' q c', Below wH.heap.size wH w' → Rd encF w' q SC.X → (∀ a, q = some a → wH.heap.size ≤ a.block) → PL w1 (w'.setRow g (rdC SC q c')) p g SC SC) := Lib.hid (fun w' q c' hb h1 h2 => hset w' hb SC q c' h1 (.inr h2))
            clear hEH hPH hbx hbx2 hxr hRr hset hvs hvf hvD
            go_upto_region 32 with fail
            have HG0 : Hid ((fun (j : Nat) (xv : Value) (w' : World) => (j = 0 → Below wH.heap.size wH w') ∧ (j = 1 → ∃ q c', xv = .agg (rdC SC q c') ∧ Rd encF w' q SC.X ∧ (∀ a, q = some a → wH.heap.size ≤ a.block) ∧ Below wH.heap.size wH w') ∧ (j = 2 → PL w1 w' p g SC SC)) 0 undef wH.drew) := Lib.hid ⟨fun _ => (Below.refl _ wH).drew, (fun h => absurd h (by omega)), (fun h => absurd h (by omega))⟩
            refine wp_region_chain (fun t v => match t with
              | 126 => v = vD
              | 127 => v = .pointer (some ⟨gx, 4, none⟩)
              | 128 => v = vs
              | 129 => v = vf
              | _ => True) (fun (j : Nat) (xv : Value) (w' : World) => (j = 0 → Below wH.heap.size wH w') ∧ (j = 1 → ∃ q c', xv = .agg (rdC SC q c') ∧ Rd encF w' q SC.X ∧ (∀ a, q = some a → wH.heap.size ≤ a.block) ∧ Below wH.heap.size wH w') ∧ (j = 2 → PL w1 w' p g SC SC)) [4, 5] 154 (by kernel_rfl) (by decide +kernel) rfl (by decide +kernel) (by decide) (by decide) HG0.out (by
              refine OweAllC.cons (owesC_val 0 (by decide +kernel) (by decide) rfl rfl fun k' a w1 x hk ha hG hV => ?_) ?_
              · skip
                have h6 := ha.outer 6 (by decide +kernel)
                simp only [Act.eval] at h6
                have hh := HLD.out w1 (hG.1 (by omega))
                exact ⟨vD, wanted_free rfl, by rw [HVD.out]; exact exec_load_row 28 (.tmp 6) rfl g h6 28 (rdC S aoR cR) (0, 0) _ hh Try.underlying28 rfl HRI.out, rfl⟩
              refine OweAllC.cons (owesC_val 0 (by decide +kernel) (by decide) rfl rfl fun k' a w1 x hk ha hG hV => ?_) ?_
              · skip
                have h8 := ha.outer 8 (by decide +kernel)
                simp only [Act.eval] at h8
                exact ⟨.pointer (some ⟨gx, 4, none⟩), wanted_free rfl, by simp [execOp, go_sem, h8], rfl⟩
              refine OweAllC.cons (owesC_val 0 (by decide +kernel) (by decide) rfl rfl fun k' a w1 x hk ha hG hV => ?_) ?_
              · skip
                have h127 : a.tmps.getD 127 undef = .pointer (some ⟨gx, 4, none⟩) := hV.get 127 (by decide +kernel)
                have cc := HSL.out w1 (hG.1 (by omega))
                exact ⟨vs, wanted_free rfl, by simp [execOp, go_sem, h127, cc], rfl⟩
              refine OweAllC.cons (owesC_side 0 (by decide +kernel) (by decide) rfl rfl 14 fun k' a w1 x hk ha hG hV => ?_) ?_
              · skip
                have h128 : a.tmps.getD 128 undef = vs := hV.get 128 (by decide +kernel)
                refine ⟨#[vs], wanted_free rfl, by simp [execOp, resolve, invoke, go_sem, h128], ?_⟩
                refine (HFW2.out w1).mono ?_
                rintro r' u2 ⟨rfl, rfl⟩; exact ⟨_, rfl, rfl, hG⟩
              refine OweAllC.cons (owesC_call 0 rfl rfl rfl 15 fun a w1 x ha hG hx hV => ?_) ?_
              · skip
                have h126 : a.tmps.getD 126 undef = vD := hV.get 126 (by decide +kernel)
                have h129 : a.tmps.getD 129 undef = vf := hV.get 129 (by decide +kernel)
                refine ⟨#[vD, vf], wanted_free rfl, by simp [execOp, resolve, invoke, go_sem, h126, h129], ?_⟩
                refine (HRC2.out w1 (hG.1 (by omega))).mono ?_
                rintro r u2 ⟨q, c', rfl, hq1, hq2, hq3⟩; exact ⟨_, rfl, trivial, (fun h => absurd h (by omega)), fun _ => ⟨q, c', rfl, hq1, hq2, hq3⟩, (fun h => absurd h (by omega))⟩
              refine OweAllC.cons (owesC_store 1 rfl rfl rfl fun a w1 x ha hG hx hV => ?_) ?_
              · skip
                have h6 := ha.outer 6 (by decide +kernel)
                simp only [Act.eval] at h6
                have h130 : a.tmps.getD 130 undef = x := by have := hx 0 4 _ 130 rfl rfl rfl rfl; simpa [Act.eval] using this
                obtain ⟨q, c', hxe, hq1, hq2, hq3⟩ := hG.2.1 (by omega)
                rw [hxe] at h130
                have hgg := HLD.out w1 hq3
                exact ⟨_, wanted_free rfl, exec_store_row 28 (.tmp 6) (.tmp 130) rfl g h6 28 _ (rdC SC q c') h130 hgg rfl (HRI2.out q c') (rdC_one _ _ _), (fun h => absurd h (by omega)), (fun h => absurd h (by omega)), fun _ => HST.out w1 q c' hq3 hq1 hq2⟩
              exact OweAllC.nil
              ) ?_
            intro f wz xz hG hx hv
            refine moves_back (P := Try.prog) (ops := #[]) f _ _ _ ?_
            simp only [dsts, List.filterMap_cons, List.filterMap_nil, List.map_cons, List.map_nil]
            clear hv hx
            unfold mv
            have HPE := Lib.hid (hG.2.2 rfl)
            have HGE := HGE0
            clear hG HG0
            go_upto_region 40 with fail
            obtain ⟨Fe, aoe, ce, hAe, _, _, hxe, _, _, hRe, _⟩ := HPE.out
            have HIS := Lib.hid (is09_any SC hAe (HGE.out.ok (by omega)) aoe ce hRe)
            have hxr : wz.heap[g]? = some (.cells (rdC SC aoe ce) 28 (0, 0)) := hxe
            have hri : (Try.prog.info? 28).map (·.size) = some (rdC SC aoe ce).size := HJ.out
            clear hAe hRe hxe
            go_wp2_with (refine wpList_load_row rfl 28 (.tmp 6) rfl g rfl 28 (rdC SC aoe ce) (0, 0) _ hxr Try.underlying28 rfl hri ?_; clear hxr)
            refine HIS.out.mono ?_
            rintro e wI ⟨rfl, hbI⟩
            have HPI := Lib.hid (HPE.out.old hbI)
            clear hbI
            go_wp2_with fail
            refine ⟨⟨i + 1, by omega, by omega, by simp, Lib.hid ⟨SC, HGE.out, HPI.out⟩⟩, ?_⟩
            show 60 - ((i : Int) + 1).toNat < 60 - ((i : Int)).toNat
            omega
          · have hk7b : (x.kd == 7) = false := by simpa using hk7
            by_cases hk8 : x.kd = 8
            · have hk8b : (x.kd == 8) = true := by simpa using hk8
              have HCL := Lib.hid (dkclone_any (HDX.out wc (Below.refl _ _)).1 HOK.out)
              obtain ⟨aoR, cR, hxr, hRr, _⟩ := HPL.out.ref
              have HXR := Lib.hid hxr
              have HRR := Lib.hid hRr
              have hri : (Try.prog.info? 28).map (·.size) = some (rdC S aoR cR).size := HJ.out
              have HGE : Hid (Gd S (i + 1)) := Lib.hid (HG.out.more (by omega))
              obtain ⟨k, hkk⟩ : ∃ k, k = x.nm.take 3 := ⟨_, rfl⟩
              have hkl : k.length ≤ 1000000 := by rw [hkk, List.length_take]; omega
              rw [← hkk]
              clear hkk hxr hRr
              go_wp2_with fail
              refine HCL.out.mono ?_
              rintro e wK ⟨py, FY, rfl, hAY, hFY, hbK⟩
              have HDK : Hid (Dk wc wK py S) := Lib.hid ⟨FY, hAY, hFY, hbK⟩
              have HIS8 := Lib.hid (is09_any S hAY HOK.out aoR cR (HRR.out.old hbK))
              have hxk : wK.heap[g]? = some (.cells (rdC S aoR cR) 28 (0, 0)) := (hbK.block g (Array.getElem?_eq_some_iff.1 HXR.out).1).trans HXR.out
              clear hAY hFY hbK
              go_wp2_with (refine wpList_load_rowG rfl 28 (.tmp 6) rfl g rfl 28 (rdC S aoR cR) (0, 0) _ hxk Try.underlying28 rfl hri ?_; clear hxk)
              refine HIS8.out.mono ?_
              rintro e wL ⟨rfl, hbL⟩
              have HDL := Lib.hid (HDK.out.old hbL)
              have HAP := Lib.hid (HDL.out.append HOK.out [111, 116, 104, 101, 114] [120] (by decide) (by decide))
              have HG2 := Lib.hid (HG.out.app [111, 116, 104, 101, 114] [120] (by decide))
              clear hbL
              generalize dedS S (wrA S [120]) (apX S [111, 116, 104, 101, 114] [120]) = S8 at HAP HG2
              generalize dedR S (wrA S [120]) = R8 at HAP
              go_wp2_with fail
              refine HAP.out.mono ?_
              rintro e wM ⟨rfl, hDM⟩
              have HSY := Lib.hid (hDM.sync (HG2.out.ok (by omega)) k hkl)
              have HG3 := Lib.hid (HG2.out.syn k hkl)
              clear hDM
              generalize dedS S8 (wrN S8 k) (syX S8 k) = S9 at HSY HG3
              generalize dedR S8 (wrN S8 k) = R9 at HSY
              go_wp2_with fail
              refine HSY.out.mono ?_
              rintro e wN ⟨rfl, hDN⟩
              have HC9 := Lib.hid (hDN.crash (HG3.out.ok (by omega)) none 0 [] (by decide) (Rd.nil _ _) (fun h => absurd rfl h))
              clear hDN
              go_wp2_with fail
              refine HC9.out.mono ?_
              rintro e wE ⟨rfl, hDE⟩
              have HPE := Lib.hid (HPL.out.old hDE.b)
              clear hDE
              go_upto_region 40 with fail
              obtain ⟨Fe, aoe, ce, hAe, _, _, hxe, _, _, hRe, _⟩ := HPE.out
              have HIS := Lib.hid (is09_any S hAe (HGE.out.ok (by omega)) aoe ce hRe)
              have hxr : wE.heap[g]? = some (.cells (rdC S aoe ce) 28 (0, 0)) := hxe
              have hri : (Try.prog.info? 28).map (·.size) = some (rdC S aoe ce).size := HJ.out
              clear hAe hRe hxe
              go_wp2_with (refine wpList_load_row rfl 28 (.tmp 6) rfl g rfl 28 (rdC S aoe ce) (0, 0) _ hxr Try.underlying28 rfl hri ?_; clear hxr)
              refine HIS.out.mono ?_
              rintro e wI ⟨rfl, hbI⟩
              have HPI := Lib.hid (HPE.out.old hbI)
              clear hbI
              go_wp2_with fail
              refine ⟨⟨i + 1, by omega, by omega, by simp, Lib.hid ⟨S, HGE.out, HPI.out⟩⟩, ?_⟩
              show 60 - ((i : Int) + 1).toNat < 60 - ((i : Int)).toNat
              omega
            · have hk8b : (x.kd == 8) = false := by simpa using hk8
              clear hk5 hk6 hk7 hk8
              have HC20 := Lib.hid (fun w => cut_any x.tx 20 w HXO.out.tx (by decide))
              have HC3 := Lib.hid (fun w => cut_any x.tx 3 w HXO.out.tx (by decide))
              have hc20 := HC20.out
              obtain ⟨k, hkk⟩ : ∃ k, k = x.nm.take 3 := ⟨_, rfl⟩
              have HKK := Lib.hid hkk
              have hkl : k.length ≤ 1000000 := by rw [hkk, List.length_take]; omega
              rw [← hkk]
              clear hkk
              have HDO := Lib.hid (fun W hb => do09_any (HDX.out W hb).1 HOK.out x HXO.out.nm HXO.out.tx)
              go_upto_region 13 with fail
              go_quiet (first | (go_at_call_of 9 (Value.int IntKind.i64 20); exact Calls.quiet_of_same (hc20 _)))
              have HBQ : Hid (Below wc.heap.size wc (wc.drewN nq)) := Lib.hid (((Mod.refl (fun _ => False) wc).drewN nq).to_below (Nat.le_refl _) (fun _ _ h => h))
              clear hc20
              generalize wc.drewN nq = W4 at HBQ ⊢
              have HP4 := Lib.hid (HPL.out.old HBQ.out)
              have y1 := (HBOX.out W4 (HBQ.out.block gx (HGXL.out))).2.1
              have y3 := (HBOX.out W4 (HBQ.out.block gx (HGXL.out))).2.2.2.1
              obtain ⟨aoR, cR, hxr, hRr, hset⟩ := HP4.out.ref
              have had := act_do S x
              have hdo := fun K h0 h4 sx hs => rkdo_any S HOK.out HG.out.so aoR cR hRr K h0 h4 k sx x.nn hkl hs
              rw [← HKK.out] at had
              have HSET := Lib.hid hset
              have HXR := Lib.hid hxr
              clear hset hRr hxr
              by_cases hneg : x.kd < 0
              · have q1 : decide (x.kd < 0) = true := by simpa using hneg
                have hkL : kdL x = 0 := by unfold kdL; simp [hneg]
                have htL : txL x = (x.tx.take 20) := by unfold txL; rw [hkL]; simp
                have had2 := had
                rw [hkL, htL] at had2
                have hd2 := hdo (0) (by omega) (by omega) (x.tx.take 20) (by rw [List.length_take]; omega)
                rw [← had2.1, ← had2.2] at hd2
                have HD2 := Lib.hid hd2
                clear hd2 had2 hkL htL hdo had hneg 
                obtain ⟨SA, hSA⟩ : ∃ SA, SA = actS S x := ⟨_, rfl⟩
                obtain ⟨RA, hRA⟩ : ∃ RA, RA = actR S x := ⟨_, rfl⟩
                have HGE : Hid (Gd SA (i + 1)) := Lib.hid (by rw [hSA]; exact HG.out.act x)
                rw [← hSA, ← hRA] at HD2
                have HSA := Lib.hid hSA
                have HRA := Lib.hid hRA
                clear hSA hRA HDO
                have hxr := HXR.out
                have hri : (Try.prog.info? 28).map (·.size) = some (rdC S aoR cR).size := HJ.out
                go_wp2_with (refine wpList_load_row rfl 28 (.tmp 6) rfl g rfl 28 (rdC S aoR cR) (0, 0) _ hxr Try.underlying28 rfl hri ?_; clear hxr)
                refine HD2.out.mono ?_
                rintro e wD ⟨q, cq, rfl, hRq, hor, hbD⟩
                have hvA : ∀ v ∈ (rdC SA q cq).toList, v.oneCell' = true := rdC_one _ _ _
                have hriA : (Try.prog.info? 28).map (·.size) = some (rdC SA q cq).size := HJ.out
                have hr1 : (wD.alloc (.cells #[.slice none 0 0, .int .i64 0, .int .i64 0, .int .i64 0, .bool false] 28)).heap[wD.heap.size]? = some (.cells #[.slice none 0 0, .int .i64 0, .int .i64 0, .int .i64 0, .bool false] 28 (0, 0)) := heap_alloc_new _ _
                obtain ⟨W5, hW5⟩ : ∃ W, W = (wD.alloc (.cells #[.slice none 0 0, .int .i64 0, .int .i64 0, .int .i64 0, .bool false] 28)).setRow wD.heap.size (rdC SA q cq) := ⟨_, rfl⟩
                have hb5 : Below wD.heap.size wD W5 := by rw [hW5]; exact (((Mod.refl (fun _ => False) wD).alloc _).setRow (g := wD.heap.size) _).to_below (Nat.le_refl _) (by rintro k hk (h | h); exact h; omega)
                have h5 : W5.heap[wD.heap.size]? = some (.cells (rdC SA q cq) 28 (0, 0)) := by rw [hW5]; exact setRow_heap _ _ _ _ 28 (0, 0) hr1
                have hb45 : Below W4.heap.size W4 W5 := hbD.trans (hb5.mono hbD.size)
                have HP6 := Lib.hid (HSET.out W5 hb45 SA q cq (hRq.old hb5) hor)
                have hg5 : W5.heap[g]? = some (.cells (rdC S aoR cR) 28 (0, 0)) := (hb45.block g (Array.getElem?_eq_some_iff.1 HXR.out).1).trans HXR.out
                have hbx : (W5.setRow g (rdC SA q cq)).heap[gx]? = wc.heap[gx]? := (setRow_other W5 g gx _ (fun e => HGNE.out e.symm)).trans ((hb45.block gx (Nat.lt_of_lt_of_le HGXL.out HBQ.out.size)).trans (HBQ.out.block gx HGXL.out))
                have hbx2 := (HBOX.out _ hbx).2.2.2.2.2
                have HW5 := Lib.hid hW5
                clear hW5 hRq hor hbD hb5 hb45 hbx y1 y3
                go_upto_region 19 with (refine wpList_store_row rfl rfl 28 (.tmp 16) (.tmp 72) rfl wD.heap.size rfl 28 _ (rdC SA q cq) rfl hr1 rfl hriA hvA ?_)
                rw [← HW5.out]
                go_upto_region 20 with (first
                  | (refine wpList_load_row rfl 28 (.tmp 16) rfl wD.heap.size rfl 28 (rdC SA q cq) (0, 0) _ h5 Try.underlying28 rfl hriA ?_)
                  | (refine wpList_store_row rfl rfl 28 (.tmp 6) (.tmp 74) rfl g rfl 28 _ (rdC SA q cq) rfl hg5 rfl hriA hvA ?_))
                obtain ⟨W6, hW6⟩ : ∃ W, W = W5.setRow g (rdC SA q cq) := ⟨_, rfl⟩
                rw [← hW6] at HP6 hbx2 ⊢
                clear hW6 h5 hg5 hr1 hvA hriA hri
                obtain ⟨F6, hA6, _, hE6⟩ := HP6.out.eff
                have hd6 := do09_any hA6 HOK.out x HXO.out.nm HXO.out.tx
                rw [← HSA.out, ← HRA.out] at hd6
                have HD6 := Lib.hid hd6
                have HE6 := Lib.hid hE6
                clear hA6 hE6 hd6
                go_wp2_with (refine wpList_load_row rfl 31 (.tmp 8) rfl gx rfl 31 #[.int .i64 x.kd, .int .i64 x.nn, .string ⟨x.nm.toArray⟩, .string ⟨x.tx.toArray⟩, .slice x.co x.ch.length x.cc] (0, 0) _ hbx2 Try.underlying31 rfl HXI2 ?_; clear hbx2)
                refine HD6.out.mono ?_
                rintro e wE ⟨rfl, hEE⟩
                have HPE := Lib.hid (HE6.out _ _ hEE)
                clear hEE
                go_upto_region 40 with fail
                obtain ⟨Fe, aoe, ce, hAe, _, _, hxe, _, _, hRe, _⟩ := HPE.out
                have HIS := Lib.hid (is09_any SA hAe (HGE.out.ok (by omega)) aoe ce hRe)
                have hxr : wE.heap[g]? = some (.cells (rdC SA aoe ce) 28 (0, 0)) := hxe
                have hri : (Try.prog.info? 28).map (·.size) = some (rdC SA aoe ce).size := HJ.out
                clear hAe hRe hxe
                go_wp2_with (refine wpList_load_row rfl 28 (.tmp 6) rfl g rfl 28 (rdC SA aoe ce) (0, 0) _ hxr Try.underlying28 rfl hri ?_; clear hxr)
                refine HIS.out.mono ?_
                rintro e wI ⟨rfl, hbI⟩
                have HPI := Lib.hid (HPE.out.old hbI)
                clear hbI
                go_wp2_with fail
                refine ⟨⟨i + 1, by omega, by omega, by simp, Lib.hid ⟨SA, HGE.out, HPI.out⟩⟩, ?_⟩
                show 60 - ((i : Int) + 1).toNat < 60 - ((i : Int)).toNat
                omega
              have q1 : decide (x.kd < 0) = false := by simpa using hneg
              by_cases hbig : 4 < x.kd
              · have q2 : decide (4 < x.kd) = true := by simpa using hbig
                have hkL : kdL x = 0 := by unfold kdL; simp [hbig]
                have htL : txL x = (x.tx.take 20) := by unfold txL; rw [hkL]; simp
                have had2 := had
                rw [hkL, htL] at had2
                have hd2 := hdo (0) (by omega) (by omega) (x.tx.take 20) (by rw [List.length_take]; omega)
                rw [← had2.1, ← had2.2] at hd2
                have HD2 := Lib.hid hd2
                clear hd2 had2 hkL htL hdo had  hbig
                obtain ⟨SA, hSA⟩ : ∃ SA, SA = actS S x := ⟨_, rfl⟩
                obtain ⟨RA, hRA⟩ : ∃ RA, RA = actR S x := ⟨_, rfl⟩
                have HGE : Hid (Gd SA (i + 1)) := Lib.hid (by rw [hSA]; exact HG.out.act x)
                rw [← hSA, ← hRA] at HD2
                have HSA := Lib.hid hSA
                have HRA := Lib.hid hRA
                clear hSA hRA HDO
                have hxr := HXR.out
                have hri : (Try.prog.info? 28).map (·.size) = some (rdC S aoR cR).size := HJ.out
                go_wp2_with (refine wpList_load_row rfl 28 (.tmp 6) rfl g rfl 28 (rdC S aoR cR) (0, 0) _ hxr Try.underlying28 rfl hri ?_; clear hxr)
                refine HD2.out.mono ?_
                rintro e wD ⟨q, cq, rfl, hRq, hor, hbD⟩
                have hvA : ∀ v ∈ (rdC SA q cq).toList, v.oneCell' = true := rdC_one _ _ _
                have hriA : (Try.prog.info? 28).map (·.size) = some (rdC SA q cq).size := HJ.out
                have hr1 : (wD.alloc (.cells #[.slice none 0 0, .int .i64 0, .int .i64 0, .int .i64 0, .bool false] 28)).heap[wD.heap.size]? = some (.cells #[.slice none 0 0, .int .i64 0, .int .i64 0, .int .i64 0, .bool false] 28 (0, 0)) := heap_alloc_new _ _
                obtain ⟨W5, hW5⟩ : ∃ W, W = (wD.alloc (.cells #[.slice none 0 0, .int .i64 0, .int .i64 0, .int .i64 0, .bool false] 28)).setRow wD.heap.size (rdC SA q cq) := ⟨_, rfl⟩
                have hb5 : Below wD.heap.size wD W5 := by rw [hW5]; exact (((Mod.refl (fun _ => False) wD).alloc _).setRow (g := wD.heap.size) _).to_below (Nat.le_refl _) (by rintro k hk (h | h); exact h; omega)
                have h5 : W5.heap[wD.heap.size]? = some (.cells (rdC SA q cq) 28 (0, 0)) := by rw [hW5]; exact setRow_heap _ _ _ _ 28 (0, 0) hr1
                have hb45 : Below W4.heap.size W4 W5 := hbD.trans (hb5.mono hbD.size)
                have HP6 := Lib.hid (HSET.out W5 hb45 SA q cq (hRq.old hb5) hor)
                have hg5 : W5.heap[g]? = some (.cells (rdC S aoR cR) 28 (0, 0)) := (hb45.block g (Array.getElem?_eq_some_iff.1 HXR.out).1).trans HXR.out
                have hbx : (W5.setRow g (rdC SA q cq)).heap[gx]? = wc.heap[gx]? := (setRow_other W5 g gx _ (fun e => HGNE.out e.symm)).trans ((hb45.block gx (Nat.lt_of_lt_of_le HGXL.out HBQ.out.size)).trans (HBQ.out.block gx HGXL.out))
                have hbx2 := (HBOX.out _ hbx).2.2.2.2.2
                have HW5 := Lib.hid hW5
                clear hW5 hRq hor hbD hb5 hb45 hbx y1 y3
                go_upto_region 19 with (refine wpList_store_row rfl rfl 28 (.tmp 16) (.tmp 72) rfl wD.heap.size rfl 28 _ (rdC SA q cq) rfl hr1 rfl hriA hvA ?_)
                rw [← HW5.out]
                go_upto_region 20 with (first
                  | (refine wpList_load_row rfl 28 (.tmp 16) rfl wD.heap.size rfl 28 (rdC SA q cq) (0, 0) _ h5 Try.underlying28 rfl hriA ?_)
                  | (refine wpList_store_row rfl rfl 28 (.tmp 6) (.tmp 74) rfl g rfl 28 _ (rdC SA q cq) rfl hg5 rfl hriA hvA ?_))
                obtain ⟨W6, hW6⟩ : ∃ W, W = W5.setRow g (rdC SA q cq) := ⟨_, rfl⟩
                rw [← hW6] at HP6 hbx2 ⊢
                clear hW6 h5 hg5 hr1 hvA hriA hri
                obtain ⟨F6, hA6, _, hE6⟩ := HP6.out.eff
                have hd6 := do09_any hA6 HOK.out x HXO.out.nm HXO.out.tx
                rw [← HSA.out, ← HRA.out] at hd6
                have HD6 := Lib.hid hd6
                have HE6 := Lib.hid hE6
                clear hA6 hE6 hd6
                go_wp2_with (refine wpList_load_row rfl 31 (.tmp 8) rfl gx rfl 31 #[.int .i64 x.kd, .int .i64 x.nn, .string ⟨x.nm.toArray⟩, .string ⟨x.tx.toArray⟩, .slice x.co x.ch.length x.cc] (0, 0) _ hbx2 Try.underlying31 rfl HXI2 ?_; clear hbx2)
                refine HD6.out.mono ?_
                rintro e wE ⟨rfl, hEE⟩
                have HPE := Lib.hid (HE6.out _ _ hEE)
                clear hEE
                go_upto_region 40 with fail
                obtain ⟨Fe, aoe, ce, hAe, _, _, hxe, _, _, hRe, _⟩ := HPE.out
                have HIS := Lib.hid (is09_any SA hAe (HGE.out.ok (by omega)) aoe ce hRe)
                have hxr : wE.heap[g]? = some (.cells (rdC SA aoe ce) 28 (0, 0)) := hxe
                have hri : (Try.prog.info? 28).map (·.size) = some (rdC SA aoe ce).size := HJ.out
                clear hAe hRe hxe
                go_wp2_with (refine wpList_load_row rfl 28 (.tmp 6) rfl g rfl 28 (rdC SA aoe ce) (0, 0) _ hxr Try.underlying28 rfl hri ?_; clear hxr)
                refine HIS.out.mono ?_
                rintro e wI ⟨rfl, hbI⟩
                have HPI := Lib.hid (HPE.out.old hbI)
                clear hbI
                go_wp2_with fail
                refine ⟨⟨i + 1, by omega, by omega, by simp, Lib.hid ⟨SA, HGE.out, HPI.out⟩⟩, ?_⟩
                show 60 - ((i : Int) + 1).toNat < 60 - ((i : Int)).toNat
                omega
              have q2 : decide (4 < x.kd) = false := by simpa using hbig
              by_cases hthr : x.kd = 3
              · have q3 : (x.kd == 3) = true := by simpa using hthr
                have hkL : kdL x = x.kd := by unfold kdL; simp [hneg, hbig, hthr]
                have htL : txL x = (x.tx.take 3) := by unfold txL; rw [hkL]; simp [hthr]
                have had2 := had
                rw [hkL, htL] at had2
                have hd2 := hdo (x.kd) (by omega) (by omega) (x.tx.take 3) (by rw [List.length_take]; omega)
                rw [← had2.1, ← had2.2] at hd2
                have HD2 := Lib.hid hd2
                clear hd2 had2 hkL htL hdo had hneg hbig
                clear hthr
                go_wp2_with fail
                refine (HC3.out _).mono ?_
                rintro e W4c ⟨rfl, hW4c⟩
                obtain rfl : W4c = W4 := hW4c
                obtain ⟨SA, hSA⟩ : ∃ SA, SA = actS S x := ⟨_, rfl⟩
                obtain ⟨RA, hRA⟩ : ∃ RA, RA = actR S x := ⟨_, rfl⟩
                have HGE : Hid (Gd SA (i + 1)) := Lib.hid (by rw [hSA]; exact HG.out.act x)
                rw [← hSA, ← hRA] at HD2
                have HSA := Lib.hid hSA
                have HRA := Lib.hid hRA
                clear hSA hRA HDO
                have hxr := HXR.out
                have hri : (Try.prog.info? 28).map (·.size) = some (rdC S aoR cR).size := HJ.out
                go_wp2_with (refine wpList_load_row rfl 28 (.tmp 6) rfl g rfl 28 (rdC S aoR cR) (0, 0) _ hxr Try.underlying28 rfl hri ?_; clear hxr)
                refine HD2.out.mono ?_
                rintro e wD ⟨q, cq, rfl, hRq, hor, hbD⟩
                have hvA : ∀ v ∈ (rdC SA q cq).toList, v.oneCell' = true := rdC_one _ _ _
                have hriA : (Try.prog.info? 28).map (·.size) = some (rdC SA q cq).size := HJ.out
                have hr1 : (wD.alloc (.cells #[.slice none 0 0, .int .i64 0, .int .i64 0, .int .i64 0, .bool false] 28)).heap[wD.heap.size]? = some (.cells #[.slice none 0 0, .int .i64 0, .int .i64 0, .int .i64 0, .bool false] 28 (0, 0)) := heap_alloc_new _ _
                obtain ⟨W5, hW5⟩ : ∃ W, W = (wD.alloc (.cells #[.slice none 0 0, .int .i64 0, .int .i64 0, .int .i64 0, .bool false] 28)).setRow wD.heap.size (rdC SA q cq) := ⟨_, rfl⟩
                have hb5 : Below wD.heap.size wD W5 := by rw [hW5]; exact (((Mod.refl (fun _ => False) wD).alloc _).setRow (g := wD.heap.size) _).to_below (Nat.le_refl _) (by rintro k hk (h | h); exact h; omega)
                have h5 : W5.heap[wD.heap.size]? = some (.cells (rdC SA q cq) 28 (0, 0)) := by rw [hW5]; exact setRow_heap _ _ _ _ 28 (0, 0) hr1
                have hb45 : Below W4c.heap.size W4c W5 := hbD.trans (hb5.mono hbD.size)
                have HP6 := Lib.hid (HSET.out W5 hb45 SA q cq (hRq.old hb5) hor)
                have hg5 : W5.heap[g]? = some (.cells (rdC S aoR cR) 28 (0, 0)) := (hb45.block g (Array.getElem?_eq_some_iff.1 HXR.out).1).trans HXR.out
                have hbx : (W5.setRow g (rdC SA q cq)).heap[gx]? = wc.heap[gx]? := (setRow_other W5 g gx _ (fun e => HGNE.out e.symm)).trans ((hb45.block gx (Nat.lt_of_lt_of_le HGXL.out HBQ.out.size)).trans (HBQ.out.block gx HGXL.out))
                have hbx2 := (HBOX.out _ hbx).2.2.2.2.2
                have HW5 := Lib.hid hW5
                clear hW5 hRq hor hbD hb5 hb45 hbx y1 y3
                go_upto_region 19 with (refine wpList_store_row rfl rfl 28 (.tmp 16) (.tmp 72) rfl wD.heap.size rfl 28 _ (rdC SA q cq) rfl hr1 rfl hriA hvA ?_)
                rw [← HW5.out]
                go_upto_region 20 with (first
                  | (refine wpList_load_row rfl 28 (.tmp 16) rfl wD.heap.size rfl 28 (rdC SA q cq) (0, 0) _ h5 Try.underlying28 rfl hriA ?_)
                  | (refine wpList_store_row rfl rfl 28 (.tmp 6) (.tmp 74) rfl g rfl 28 _ (rdC SA q cq) rfl hg5 rfl hriA hvA ?_))
                obtain ⟨W6, hW6⟩ : ∃ W, W = W5.setRow g (rdC SA q cq) := ⟨_, rfl⟩
                rw [← hW6] at HP6 hbx2 ⊢
                clear hW6 h5 hg5 hr1 hvA hriA hri
                obtain ⟨F6, hA6, _, hE6⟩ := HP6.out.eff
                have hd6 := do09_any hA6 HOK.out x HXO.out.nm HXO.out.tx
                rw [← HSA.out, ← HRA.out] at hd6
                have HD6 := Lib.hid hd6
                have HE6 := Lib.hid hE6
                clear hA6 hE6 hd6
                go_wp2_with (refine wpList_load_row rfl 31 (.tmp 8) rfl gx rfl 31 #[.int .i64 x.kd, .int .i64 x.nn, .string ⟨x.nm.toArray⟩, .string ⟨x.tx.toArray⟩, .slice x.co x.ch.length x.cc] (0, 0) _ hbx2 Try.underlying31 rfl HXI2 ?_; clear hbx2)
                refine HD6.out.mono ?_
                rintro e wE ⟨rfl, hEE⟩
                have HPE := Lib.hid (HE6.out _ _ hEE)
                clear hEE
                go_upto_region 40 with fail
                obtain ⟨Fe, aoe, ce, hAe, _, _, hxe, _, _, hRe, _⟩ := HPE.out
                have HIS := Lib.hid (is09_any SA hAe (HGE.out.ok (by omega)) aoe ce hRe)
                have hxr : wE.heap[g]? = some (.cells (rdC SA aoe ce) 28 (0, 0)) := hxe
                have hri : (Try.prog.info? 28).map (·.size) = some (rdC SA aoe ce).size := HJ.out
                clear hAe hRe hxe
                go_wp2_with (refine wpList_load_row rfl 28 (.tmp 6) rfl g rfl 28 (rdC SA aoe ce) (0, 0) _ hxr Try.underlying28 rfl hri ?_; clear hxr)
                refine HIS.out.mono ?_
                rintro e wI ⟨rfl, hbI⟩
                have HPI := Lib.hid (HPE.out.old hbI)
                clear hbI
                go_wp2_with fail
                refine ⟨⟨i + 1, by omega, by omega, by simp, Lib.hid ⟨SA, HGE.out, HPI.out⟩⟩, ?_⟩
                show 60 - ((i : Int) + 1).toNat < 60 - ((i : Int)).toNat
                omega
              have q3 : (x.kd == 3) = false := by simpa using hthr
              have hkL : kdL x = x.kd := by unfold kdL; simp [hneg, hbig, hthr]
              have htL : txL x = (x.tx.take 20) := by unfold txL; rw [hkL]; simp [hthr]
              have had2 := had
              rw [hkL, htL] at had2
              have hd2 := hdo (x.kd) (by omega) (by omega) (x.tx.take 20) (by rw [List.length_take]; omega)
              rw [← had2.1, ← had2.2] at hd2
              have HD2 := Lib.hid hd2
              clear hd2 had2 hkL htL hdo had hneg hbig
              clear hthr
              obtain ⟨SA, hSA⟩ : ∃ SA, SA = actS S x := ⟨_, rfl⟩
              obtain ⟨RA, hRA⟩ : ∃ RA, RA = actR S x := ⟨_, rfl⟩
              have HGE : Hid (Gd SA (i + 1)) := Lib.hid (by rw [hSA]; exact HG.out.act x)
              rw [← hSA, ← hRA] at HD2
              have HSA := Lib.hid hSA
              have HRA := Lib.hid hRA
              clear hSA hRA HDO
              have hxr := HXR.out
              have hri : (Try.prog.info? 28).map (·.size) = some (rdC S aoR cR).size := HJ.out
              go_wp2_with (refine wpList_load_row rfl 28 (.tmp 6) rfl g rfl 28 (rdC S aoR cR) (0, 0) _ hxr Try.underlying28 rfl hri ?_; clear hxr)
              refine HD2.out.mono ?_
              rintro e wD ⟨q, cq, rfl, hRq, hor, hbD⟩
              have hvA : ∀ v ∈ (rdC SA q cq).toList, v.oneCell' = true := rdC_one _ _ _
              have hriA : (Try.prog.info? 28).map (·.size) = some (rdC SA q cq).size := HJ.out
              have hr1 : (wD.alloc (.cells #[.slice none 0 0, .int .i64 0, .int .i64 0, .int .i64 0, .bool false] 28)).heap[wD.heap.size]? = some (.cells #[.slice none 0 0, .int .i64 0, .int .i64 0, .int .i64 0, .bool false] 28 (0, 0)) := heap_alloc_new _ _
              obtain ⟨W5, hW5⟩ : ∃ W, W = (wD.alloc (.cells #[.slice none 0 0, .int .i64 0, .int .i64 0, .int .i64 0, .bool false] 28)).setRow wD.heap.size (rdC SA q cq) := ⟨_, rfl⟩
              have hb5 : Below wD.heap.size wD W5 := by rw [hW5]; exact (((Mod.refl (fun _ => False) wD).alloc _).setRow (g := wD.heap.size) _).to_below (Nat.le_refl _) (by rintro k hk (h | h); exact h; omega)
              have h5 : W5.heap[wD.heap.size]? = some (.cells (rdC SA q cq) 28 (0, 0)) := by rw [hW5]; exact setRow_heap _ _ _ _ 28 (0, 0) hr1
              have hb45 : Below W4.heap.size W4 W5 := hbD.trans (hb5.mono hbD.size)
              have HP6 := Lib.hid (HSET.out W5 hb45 SA q cq (hRq.old hb5) hor)
              have hg5 : W5.heap[g]? = some (.cells (rdC S aoR cR) 28 (0, 0)) := (hb45.block g (Array.getElem?_eq_some_iff.1 HXR.out).1).trans HXR.out
              have hbx : (W5.setRow g (rdC SA q cq)).heap[gx]? = wc.heap[gx]? := (setRow_other W5 g gx _ (fun e => HGNE.out e.symm)).trans ((hb45.block gx (Nat.lt_of_lt_of_le HGXL.out HBQ.out.size)).trans (HBQ.out.block gx HGXL.out))
              have hbx2 := (HBOX.out _ hbx).2.2.2.2.2
              have HW5 := Lib.hid hW5
              clear hW5 hRq hor hbD hb5 hb45 hbx y1 y3
              go_upto_region 19 with (refine wpList_store_row rfl rfl 28 (.tmp 16) (.tmp 72) rfl wD.heap.size rfl 28 _ (rdC SA q cq) rfl hr1 rfl hriA hvA ?_)
              rw [← HW5.out]
              go_upto_region 20 with (first
                | (refine wpList_load_row rfl 28 (.tmp 16) rfl wD.heap.size rfl 28 (rdC SA q cq) (0, 0) _ h5 Try.underlying28 rfl hriA ?_)
                | (refine wpList_store_row rfl rfl 28 (.tmp 6) (.tmp 74) rfl g rfl 28 _ (rdC SA q cq) rfl hg5 rfl hriA hvA ?_))
              obtain ⟨W6, hW6⟩ : ∃ W, W = W5.setRow g (rdC SA q cq) := ⟨_, rfl⟩
              rw [← hW6] at HP6 hbx2 ⊢
              clear hW6 h5 hg5 hr1 hvA hriA hri
              obtain ⟨F6, hA6, _, hE6⟩ := HP6.out.eff
              have hd6 := do09_any hA6 HOK.out x HXO.out.nm HXO.out.tx
              rw [← HSA.out, ← HRA.out] at hd6
              have HD6 := Lib.hid hd6
              have HE6 := Lib.hid hE6
              clear hA6 hE6 hd6
              go_wp2_with (refine wpList_load_row rfl 31 (.tmp 8) rfl gx rfl 31 #[.int .i64 x.kd, .int .i64 x.nn, .string ⟨x.nm.toArray⟩, .string ⟨x.tx.toArray⟩, .slice x.co x.ch.length x.cc] (0, 0) _ hbx2 Try.underlying31 rfl HXI2 ?_; clear hbx2)
              refine HD6.out.mono ?_
              rintro e wE ⟨rfl, hEE⟩
              have HPE := Lib.hid (HE6.out _ _ hEE)
              clear hEE
              go_upto_region 40 with fail
              obtain ⟨Fe, aoe, ce, hAe, _, _, hxe, _, _, hRe, _⟩ := HPE.out
              have HIS := Lib.hid (is09_any SA hAe (HGE.out.ok (by omega)) aoe ce hRe)
              have hxr : wE.heap[g]? = some (.cells (rdC SA aoe ce) 28 (0, 0)) := hxe
              have hri : (Try.prog.info? 28).map (·.size) = some (rdC SA aoe ce).size := HJ.out
              clear hAe hRe hxe
              go_wp2_with (refine wpList_load_row rfl 28 (.tmp 6) rfl g rfl 28 (rdC SA aoe ce) (0, 0) _ hxr Try.underlying28 rfl hri ?_; clear hxr)
              refine HIS.out.mono ?_
              rintro e wI ⟨rfl, hbI⟩
              have HPI := Lib.hid (HPE.out.old hbI)
              clear hbI
              go_wp2_with fail
              refine ⟨⟨i + 1, by omega, by omega, by simp, Lib.hid ⟨SA, HGE.out, HPI.out⟩⟩, ?_⟩
              show 60 - ((i : Int) + 1).toNat < 60 - ((i : Int)).toNat
              omega
    · have hcase : (¬ (i : Int) < (nl : Int)) ∨ ((i : Int) < (nl : Int) ∧ ¬ (i : Int) < 60) := by omega
      obtain ⟨S, _, hPL⟩ := hR.out
      have HBE : Hid (Below w.heap.size w wr) := Lib.hid (HB1.out.trans (hPL.b.mono HB1.out.size))
      clear hR HK0 hPL hend
      rcases hcase with h1 | ⟨h1, h2⟩ <;>
      · go_wp2_with fail
        go_ret
        exact ⟨rfl, HBE.out⟩
end Go.Proofs.Ytpbcglepecojmaa
