/- The law DigestIs. -/
import Derived.Test.YtkejidmomnmdbaaDoorE2
namespace Go.Proofs.YtkejidmomnmdbaaDoor
open Go.RowKit

def strsSt (ss : List (List UInt8)) : Stays := ⟨fun v w => StrsAt w v ss, fun h hb => h.old hb⟩
theorem exec_load_block {P : Program} {o : Oper} {a : Act} {w : World} (ty : TypeId) (x : Operand) (ho : o.op = .load ty x) (g : Nat) (hx : a.eval x = .pointer (some ⟨g, 0, none⟩)) (t : TypeId) (cs : Array Value) (fr : Nat × Nat) (d : TypeDesc) (hg : w.heap[g]? = some (.cells cs t fr))
    (hu : P.underlying ty = some d) (hd : (match d with | .struct _ | .array _ _ => true | _ => false) = true) (hi : (P.info? ty).map (·.size) = some cs.size) : (execOp a.eval o).run P w = .ok (.value (.agg cs)) w := by
  unfold execOp
  simp only [ho, hx, Instr.loadAt, Instr.sureAddr, Sem.run_bind, Sem.run_pure, Result.andThen_ok, run_loadVar_row w g t ty cs fr d hg hu hd hi]
theorem IdAt.load {o : Oper} {a : Act} {w : World} {g : Nat} {s : List UInt8} (h : IdAt w g s) (x : Operand) (ho : o.op = .load 25 x) (hx : a.eval x = .pointer (some ⟨g, 0, none⟩)) : (execOp a.eval o).run Tryd.prog w = .ok (.value (.agg (vals s).toArray)) w :=
  exec_load_block 25 x ho g hx 25 (vals s).toArray (0, 0) _ h.2 Tryd.underlying25 rfl (id_info h.1)

set_option maxRecDepth 20000 in
set_option maxHeartbeats 4000000 in
theorem digestIs_any (s0 : List UInt8) (c : Int) (w : World) (hs0 : (s0.length : Int) ≤ 9223372036854775807) (hT : TabAt w) :
    Calls Tryd.prog 3 #[.string ⟨s0.toArray⟩, .int .i64 c] w fun r w' => r = .returned (.bool true) ∧ Below w.heap.size w w' := by
  go_enter Tryd.func3, Tryd.ntmps3
  go_wp2_with fail
  refine (awake02_any w hT).mono ?_
  rintro r w1 ⟨rfl, hB1⟩
  have hT1 := hT.old hB1
  clear hT
  go_wp2_with fail
  refine (cut_any s0 200 w1 hs0 (by omega)).mono ?_
  rintro r w1' ⟨rfl, rfl⟩
  have hSl : (s0.take 200).length ≤ 200 := List.length_take_le _ _
  generalize s0.take 200 = S at hSl ⊢
  clear hs0
  obtain ⟨l, hl⟩ : ∃ l, l = S.length := ⟨_, rfl⟩
  have hSz : (ByteArray.mk S.toArray).size = l := by rw [hl]; rfl
  rw [← hl] at hSl
  have Hl := Lib.hid hl
  clear hl
  go_upto_region 4 with fail
  go_cut [5] (fun s5 wx => ∃ m : Nat, m ≤ l ∧ s5 = .int .i64 (m : Int) ∧ wx = w1)
  case first =>
    by_cases hn : c ≤ l
    · by_cases h0 : 0 ≤ c
      · obtain ⟨m, rfl⟩ := Int.eq_ofNat_of_zero_le h0
        go_wp2_with fail
        go_meet
        exact ⟨m, by omega, val_int (by omega), rfl⟩
      · go_wp2_with fail
        go_meet
        exact ⟨0, by omega, val_int (by omega), rfl⟩
    · have h300 : ¬ c < l := by omega
      go_wp2_with fail
      go_meet
      exact ⟨l, by omega, val_int (by omega), rfl⟩
  case rest =>
  obtain ⟨k, hk, rfl, rfl⟩ := hcut
  rename World => wr
  have hk1 : (k : Int) ≤ l := by omega
  have hk0 : (0 : Int) ≤ k := by omega
  have hof := Lib.hid (dofB (.slice (some ⟨wr.heap.size, 0, none⟩) 1 1) [S] (wr.alloc (.cells #[.string ⟨S.toArray⟩] 9)) (StrsAt.made wr 9 [S]) (by have := Hl.out; simp; omega) (by simp) (hT1.old ((Below.refl _ _).alloc (Nat.le_refl _) _)))
  rw [show ([S] : List (List UInt8)).flatten = S from by simp] at hof
  have href := Lib.hid (fun w => refofB S w (by have := Hl.out; omega))
  have hof2 := Lib.hid (fun (v : Value) (w : World) h hT => dofB v [S.take k, [], S.drop k] w h (by have := Hl.out; simp; omega) (by simp) hT)
  rw [show ([S.take k, [], S.drop k] : List (List UInt8)).flatten = S from by simp] at hof2
  have hZl := shaB_len S
  generalize shaB S = Z at hof href hof2 hZl
  have HT1 := Lib.hid hT1
  have HB := Lib.hid hB1
  clear hT1 hB1
  go_wp2_with fail
  refine (hof.out).mono ?_
  rintro r w2 ⟨rfl, hB2⟩
  have hBr2 := ((Below.refl _ wr).alloc (Nat.le_refl _) (.cells #[.string ⟨S.toArray⟩] 9)).trans (hB2.mono (by simp))
  have hB2' := Lib.hid (HB.out.trans (hBr2.mono HB.out.size))
  have hT2 := HT1.out.old hBr2
  have hz := zid_run
  have q2 := zid_len.trans (id_size hZl).symm
  have q3 := id_info hZl
  have q4 := id_one Z
  have hI := Lib.hid (IdAt.stored (w := w2) (A := (vals zid).toArray) hZl)
  have hBz := Lib.hid (stored_below (w := w2) (A := (vals zid).toArray) (C := (vals Z).toArray) (T := 25))
  have HT2 := Lib.hid (hT2.old hBz.out)
  clear hB2 hof HB HT1 hBr2 hT2
  generalize (vals zid).toArray = ZA at hz q2 hI hBz HT2
  go_upto_region 6 with (refine wpList_store_row rfl rfl 25 (.tmp 6) (.tmp 18) rfl w2.heap.size rfl 25 ZA (vals Z).toArray rfl (heap_alloc_new _ _) q2 q3 q4 ?_)
  have hW := Lib.hid (hB2'.out.trans (hBz.out.mono hB2'.out.size))
  generalize (w2.alloc (.cells ZA 25)).setRow w2.heap.size (vals Z).toArray = W at hI hW HT2 ⊢
  generalize w2.heap.size = g at hI ⊢
  clear hB2' hBz hz q2 q3 q4
  have ex1 : (ByteArray.mk S.toArray).extract 0 k = ⟨(S.take k).toArray⟩ := extract_head S k
  have ex2 : (ByteArray.mk S.toArray).extract k l = ⟨(S.drop k).toArray⟩ := by rw [Hl.out]; exact extract_end S k
  have hHead := Lib.hid ex1
  have hTail := Lib.hid ex2
  clear ex1 ex2
  refine wp_region_puts (fun t v w => VK (match t with
    | 19 => .eq (.slice (some ⟨g, 0, none⟩) 32 32)
    | 20 => .eq (.string ⟨Z.toArray⟩)
    | 21 => .eq (.string ⟨S.toArray⟩)
    | 22 => .eq (.string ⟨Z.toArray⟩)
    | 23 => .eq (Value.bool true)
    | 24 => .eq (Value.bool true)
    | 25 => .eq (.string ⟨S.toArray⟩)
    | 26 => .eq (.int .i64 (k : Int))
    | 27 => .eq (.string ⟨(S.take k).toArray⟩)
    | 28 => .eq (.string ⟨S.toArray⟩)
    | 29 => .eq (.int .i64 (k : Int))
    | 30 => .eq (.string ⟨(S.drop k).toArray⟩)
    | 31 => .st (strsSt [S.take k, [], S.drop k])
    | 32 => .eq (.agg (vals Z).toArray)
    | 33 => .eq (.agg (vals Z).toArray)
    | 34 => .eq (Value.bool true)
    | 35 => .eq (Value.bool true)
    | 4 => .eq (Value.bool true)
    | _ => .any) v w) (fun w' => Below W.heap.size W w') 36 (by kernel_rfl) (by decide +kernel) rfl (Below.refl _ _).drew (by
    refine OweAll.cons (owesK rfl rfl fun a w1 ha hG hV => ?_) ?_
    · skip
      have h6 := ha.outer 6 (by decide +kernel)
      simp only [Act.eval] at h6
      exact ⟨.slice (some ⟨g, 0, none⟩) 32 32, w1, wanted_free rfl, by simp [execOp, go_sem, h6], Below.refl _ _, rfl⟩
    refine OweAll.cons (owesK rfl rfl fun a w1 ha hG hV => ?_) ?_
    · skip
      have h19 : a.tmps.getD 19 undef = .slice (some ⟨g, 0, none⟩) 32 32 := hV.get 19 (by decide +kernel)
      exact ⟨.string ⟨Z.toArray⟩, w1, wanted_free rfl, by simp [execOp, go_sem, h19, (hI.out.old hG).text], Below.refl _ _, rfl⟩
    refine OweAll.cons (owesK rfl rfl fun a w1 ha hG hV => ?_) ?_
    · skip
      have h0 := ha.outer 0 (by decide +kernel)
      simp only [Act.eval] at h0
      exact ⟨.string ⟨S.toArray⟩, w1, wanted_free rfl, by simp [execOp, go_sem, h0], Below.refl _ _, rfl⟩
    refine OweAll.cons (owesK_call rfl rfl 22 fun a w1 ha hG hV => ?_) ?_
    · skip
      have h21 : a.tmps.getD 21 undef = .string ⟨S.toArray⟩ := hV.get 21 (by decide +kernel)
      refine ⟨#[.string ⟨S.toArray⟩], wanted_free rfl, by simp [execOp, resolve, invoke, go_sem, h21], ?_⟩
      refine (href.out w1).mono ?_
      rintro r u2 ⟨rfl, hb⟩; exact ⟨_, rfl, rfl, hb⟩
    refine OweAll.cons (owesK rfl rfl fun a w1 ha hG hV => ?_) ?_
    · skip
      have h20 : a.tmps.getD 20 undef = .string ⟨Z.toArray⟩ := hV.get 20 (by decide +kernel)
      have h22 : a.tmps.getD 22 undef = .string ⟨Z.toArray⟩ := hV.get 22 (by decide +kernel)
      exact ⟨Value.bool true, w1, wanted_free rfl, by simp [execOp, go_sem, h20, h22], Below.refl _ _, rfl⟩
    refine OweAll.cons (owesK rfl rfl fun a w1 ha hG hV => ?_) ?_
    · skip
      have h23 : a.tmps.getD 23 undef = Value.bool true := hV.get 23 (by decide +kernel)
      exact ⟨Value.bool true, w1, wanted_free rfl, by simp [execOp, go_sem, h23], Below.refl _ _, rfl⟩
    refine OweAll.cons (owesK rfl rfl fun a w1 ha hG hV => ?_) ?_
    · skip
      have h0 := ha.outer 0 (by decide +kernel)
      simp only [Act.eval] at h0
      exact ⟨.string ⟨S.toArray⟩, w1, (wanted_of (t := 24) rfl rfl (hV.get 24 (by decide +kernel))), by simp [execOp, go_sem, h0], Below.refl _ _, rfl⟩
    refine OweAll.cons (owesK rfl rfl fun a w1 ha hG hV => ?_) ?_
    · skip
      have h5 := ha.outer 5 (by decide +kernel)
      simp only [Act.eval] at h5
      exact ⟨.int .i64 (k : Int), w1, (wanted_of (t := 24) rfl rfl (hV.get 24 (by decide +kernel))), by simp [execOp, go_sem, h5], Below.refl _ _, rfl⟩
    refine OweAll.cons (owesK rfl rfl fun a w1 ha hG hV => ?_) ?_
    · skip
      have h25 : a.tmps.getD 25 undef = .string ⟨S.toArray⟩ := hV.get 25 (by decide +kernel)
      have h26 : a.tmps.getD 26 undef = .int .i64 (k : Int) := hV.get 26 (by decide +kernel)
      exact ⟨.string ⟨(S.take k).toArray⟩, w1, (wanted_of (t := 24) rfl rfl (hV.get 24 (by decide +kernel))), by simp [execOp, go_sem, h25, h26, hHead.out, hSz, hk0, hk1], Below.refl _ _, rfl⟩
    refine OweAll.cons (owesK rfl rfl fun a w1 ha hG hV => ?_) ?_
    · skip
      have h0 := ha.outer 0 (by decide +kernel)
      simp only [Act.eval] at h0
      exact ⟨.string ⟨S.toArray⟩, w1, (wanted_of (t := 24) rfl rfl (hV.get 24 (by decide +kernel))), by simp [execOp, go_sem, h0], Below.refl _ _, rfl⟩
    refine OweAll.cons (owesK rfl rfl fun a w1 ha hG hV => ?_) ?_
    · skip
      have h5 := ha.outer 5 (by decide +kernel)
      simp only [Act.eval] at h5
      exact ⟨.int .i64 (k : Int), w1, (wanted_of (t := 24) rfl rfl (hV.get 24 (by decide +kernel))), by simp [execOp, go_sem, h5], Below.refl _ _, rfl⟩
    refine OweAll.cons (owesK rfl rfl fun a w1 ha hG hV => ?_) ?_
    · skip
      have h28 : a.tmps.getD 28 undef = .string ⟨S.toArray⟩ := hV.get 28 (by decide +kernel)
      have h29 : a.tmps.getD 29 undef = .int .i64 (k : Int) := hV.get 29 (by decide +kernel)
      exact ⟨.string ⟨(S.drop k).toArray⟩, w1, (wanted_of (t := 24) rfl rfl (hV.get 24 (by decide +kernel))), by simp [execOp, go_sem, h28, h29, hTail.out, hSz, hk0, hk1], Below.refl _ _, rfl⟩
    refine OweAll.cons (owesK rfl rfl fun a w1 ha hG hV => ?_) ?_
    · skip
      have h27 : a.tmps.getD 27 undef = .string ⟨(S.take k).toArray⟩ := hV.get 27 (by decide +kernel)
      have h30 : a.tmps.getD 30 undef = .string ⟨(S.drop k).toArray⟩ := hV.get 30 (by decide +kernel)
      have g27 : a.tmps[27]?.getD undef = .string ⟨(S.take k).toArray⟩ := by simpa using h27
      have g30 : a.tmps[30]?.getD undef = .string ⟨(S.drop k).toArray⟩ := by simpa using h30
      exact ⟨.slice (some ⟨w1.heap.size, 0, none⟩) 3 3, w1.alloc (.cells #[.string ⟨(S.take k).toArray⟩, .string ⟨#[]⟩, .string ⟨(S.drop k).toArray⟩] 9), (wanted_of (t := 24) rfl rfl (hV.get 24 (by decide +kernel))), by simp [execOp, go_sem, h27, h30, g27, g30], (Below.refl _ _).alloc (Nat.le_refl _) _, StrsAt.made w1 9 [S.take k, [], S.drop k]⟩
    refine OweAll.cons (owesK_call rfl rfl 21 fun a w1 ha hG hV => ?_) ?_
    · skip
      have s31 : (strsSt [S.take k, [], S.drop k]).p (a.tmps.getD 31 undef) w1 := hV.get 31 (by decide +kernel)
      obtain ⟨v31, h31⟩ : ∃ v, a.tmps.getD 31 undef = v := ⟨_, rfl⟩
      rw [h31] at s31
      refine ⟨#[v31], (wanted_of (t := 24) rfl rfl (hV.get 24 (by decide +kernel))), by simp [execOp, resolve, invoke, go_sem, h31], ?_⟩
      refine (hof2.out v31 w1 s31 (HT2.out.old hG)).mono ?_
      rintro r u2 ⟨rfl, hb⟩; exact ⟨_, rfl, rfl, hb⟩
    refine OweAll.cons (owesK rfl rfl fun a w1 ha hG hV => ?_) ?_
    · skip
      exact ⟨.agg (vals Z).toArray, w1, (wanted_of (t := 24) rfl rfl (hV.get 24 (by decide +kernel))), (hI.out.old hG).load (.tmp 6) rfl ((ha.outer 6 (by decide +kernel)).trans rfl), Below.refl _ _, rfl⟩
    refine OweAll.cons (owesK rfl rfl fun a w1 ha hG hV => ?_) ?_
    · skip
      have h32 : a.tmps.getD 32 undef = .agg (vals Z).toArray := hV.get 32 (by decide +kernel)
      have h33 : a.tmps.getD 33 undef = .agg (vals Z).toArray := hV.get 33 (by decide +kernel)
      exact ⟨Value.bool true, w1, (wanted_of (t := 24) rfl rfl (hV.get 24 (by decide +kernel))), by simp [execOp, go_sem, h32, h33, id_eql Z Z hZl hZl], Below.refl _ _, rfl⟩
    refine OweAll.cons (owesK rfl rfl fun a w1 ha hG hV => ?_) ?_
    · skip
      have h24 : a.tmps.getD 24 undef = Value.bool true := hV.get 24 (by decide +kernel)
      have h34 : a.tmps.getD 34 undef = Value.bool true := hV.get 34 (by decide +kernel)
      exact ⟨Value.bool true, w1, wanted_free rfl, by simp [execOp, go_sem, h24, h34], Below.refl _ _, rfl⟩
    refine OweAll.cons (owesK rfl rfl fun a w1 ha hG hV => ?_) ?_
    · skip
      have h35 : a.tmps.getD 35 undef = Value.bool true := hV.get 35 (by decide +kernel)
      exact ⟨Value.bool true, w1, wanted_free rfl, by simp [execOp, go_sem, h35], Below.refl _ _, rfl⟩
    exact OweAll.nil
    ) ?_
  intro f wz hG hv
  have e4 : f 4 = Value.bool true := hv 17 _ 4 rfl rfl
  rename_i hK
  refine hK _ _ ?_
  clear hK hv
  simp only [dsts, puts, List.filterMap_cons, List.filterMap_nil, List.foldl_cons, List.foldl_nil, Act.put, List.setIfInBounds_toArray, List.set_cons_succ, List.set_cons_zero, e4]
  clear e4
  have HG := Lib.hid (hW.out.trans (hG.mono hW.out.size))
  clear hG
  go_wp2_with fail
  go_ret
  exact ⟨rfl, HG.out⟩
end Go.Proofs.YtkejidmomnmdbaaDoor
