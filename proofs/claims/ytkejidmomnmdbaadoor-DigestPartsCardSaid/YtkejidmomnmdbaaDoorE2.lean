/- The law DigestLong. -/
import Derived.Test.YtkejidmomnmdbaaDoorE1
import Derived.Test.YtkejidmomnmdbaaDoorK
import Derived.Test.YtkejidmomnmdbaaDoorD10
import Derived.Deep.DeepCutAuto
namespace Go.Proofs.YtkejidmomnmdbaaDoor
open Go.RowKit

theorem refofB (s : List UInt8) (w : World) (hl : s.length ≤ 1073741824) :
    Calls Tryd.prog 22 #[.string ⟨s.toArray⟩] w fun r w' => r = .returned (.string ⟨(shaB s).toArray⟩) ∧ Below w.heap.size w w' :=
  (refof_any s w hl).mono fun _ _ ⟨h1, h2⟩ => ⟨by rw [h1, sha_bytes], h2.to_below (Nat.le_refl _) (fun _ _ h => h)⟩

set_option maxRecDepth 20000 in
set_option maxHeartbeats 4000000 in
theorem digestLong_any (n : Int) (b : UInt8) (w : World) (h1 : -9223372036854775808 ≤ n) (h2 : n ≤ 9223372036854775807) (hT : TabAt w) :
    Calls Tryd.prog 5 #[.int .i64 n, .int .u8 (b.toNat : Int)] w fun r w' => r = .returned (.bool true) ∧ Below w.heap.size w w' := by
  have hc1 : ∀ w : World, (convert 27 9 (.slice (some ⟨w.heap.size, 0, none⟩) 1 1)).run Tryd.prog (w.alloc (.cells #[.int .u8 (b.toNat : Int)] 5)) = .ok (.string ⟨#[b]⟩) (w.alloc (.cells #[.int .u8 (b.toNat : Int)] 5)) := by
    intro w; have := convLit1 (P := Tryd.prog) 27 9 5 Tryd.underlying27 Tryd.underlying5 Tryd.underlying9 w (b.toNat : Int); simpa using this
  go_enter Tryd.func5, Tryd.ntmps5
  go_wp2_with fail
  refine (awake02_any w hT).mono ?_
  rintro r w1 ⟨rfl, hB1⟩
  have hT1 := hT.old hB1
  clear hT
  go_upto_region 3 with fail
  go_cut [0] (fun s0 wx => ∃ m : Nat, m ≤ 300 ∧ s0 = .int .i64 (m : Int) ∧ wx = w1)
  case first =>
    by_cases hn : n ≤ 300
    · by_cases h0 : 0 ≤ n
      · obtain ⟨m, rfl⟩ := Int.eq_ofNat_of_zero_le h0
        go_wp2_with fail
        go_meet
        exact ⟨m, by omega, val_int (by omega), rfl⟩
      · go_wp2_with fail
        go_meet
        exact ⟨0, by omega, val_int (by omega), rfl⟩
    · have h300 : ¬ n < 300 := by omega
      go_wp2_with fail
      go_meet
      exact ⟨300, by omega, val_int (by omega), rfl⟩
  case rest =>
  obtain ⟨m, hm, rfl, rfl⟩ := hcut
  clear h1 h2
  rename World => w1
  go_wp2_with fail
  go_loopw [5, 13] (fun s5 s13 wr => ∃ (k : Nat) (T : ByteArray), k ≤ m ∧ s13 = .int .i64 (k : Int) ∧ s5 = .string T ∧ T.size = k ∧ Hid (T = ⟨(List.replicate k b).toArray⟩) ∧ Below w.heap.size w wr ∧ TabAt wr) (fun _ i _ => m - (intOf i).toNat)
  case atStart => exact ⟨0, ⟨#[]⟩, by omega, rfl, rfl, rfl, Lib.hid rfl, hB1, hT1⟩
  case round =>
    clear hB1 hT1
    obtain ⟨k, T, hk, rfl, rfl, hTs, hTe, hB, hTb⟩ := hrel
    by_cases hkm : k < m
    · have l1 : ¬ 9223372036854775807 < k + 1 := by omega
      have z1 : (ByteArray.mk #[b]).size = 1 := rfl
      obtain ⟨T2, hT2⟩ : ∃ T2, T2 = T ++ ⟨#[b]⟩ := ⟨_, rfl⟩
      have hs2 : T2.size = k + 1 := by rw [hT2, ByteArray.size_append, hTs]; rfl
      have he2 : Hid (T2 = ⟨(List.replicate (k + 1) b).toArray⟩) := Lib.hid (by rw [hT2, hTe.out]; have := ByteArray.mk_append_mk (List.replicate k b) [b]; rw [List.replicate_succ']; exact this)
      have ht2 := hT2.symm
      have HB := Lib.hid (hB.alloc hB.size (.cells #[.int .u8 (b.toNat : Int)] 5))
      have HT := Lib.hid (hTb.old ((Below.refl _ _).alloc (Nat.le_refl _) (.cells #[.int .u8 (b.toNat : Int)] 5)))
      clear hT2 hB hTb
      go_wp2_with fail
      go_roundw
      case rel => exact ⟨k + 1, T2, by omega, by go_num, rfl, hs2, he2, HB.out, HT.out⟩
      case measure => simp [intOf]; omega
    · obtain rfl : k = m := by omega
      rw [hTe.out]
      obtain ⟨S, hS⟩ : ∃ S, S = List.replicate k b := ⟨_, rfl⟩
      have hSl : S.length = k := by rw [hS, List.length_replicate]
      rw [← hS]
      have HB := Lib.hid hB
      have hof := Lib.hid (dofB (.slice (some ⟨wr.heap.size, 0, none⟩) 1 1) [S] (wr.alloc (.cells #[.string ⟨S.toArray⟩] 9)) (StrsAt.made wr 9 [S]) (by simp; omega) (by simp) (hTb.old ((Below.refl _ _).alloc (Nat.le_refl _) _)))
      rw [show ([S] : List (List UInt8)).flatten = S from by simp] at hof
      have href := Lib.hid (fun w => refofB S w (by omega))
      have hZl := shaB_len S
      generalize shaB S = Z at hof href hZl
      clear hS hSl hTs hTe hB hTb hc1
      go_wp2_with fail
      refine (hof.out).mono ?_
      rintro r w2 ⟨rfl, hB2⟩
      have hB2' := Lib.hid (HB.out.trans (((Below.refl _ wr).alloc (Nat.le_refl _) _).trans (hB2.mono (by simp))  |>.mono HB.out.size))
      have hz := zid_run
      have q2 := zid_len.trans (id_size hZl).symm
      have q3 := id_info hZl
      have q4 := id_one Z
      have hI := Lib.hid (IdAt.stored (w := w2) (A := (vals zid).toArray) hZl)
      have hBz := Lib.hid (stored_below (w := w2) (A := (vals zid).toArray) (C := (vals Z).toArray) (T := 25))
      clear hB2 hof HB
      generalize (vals zid).toArray = ZA at hz q2 hI hBz
      go_upto_region 10 with (refine wpList_store_row rfl rfl 25 (.tmp 6) (.tmp 23) rfl w2.heap.size rfl 25 ZA (vals Z).toArray rfl (heap_alloc_new _ _) q2 q3 q4 ?_)
      have hW := Lib.hid (hB2'.out.trans (hBz.out.mono hB2'.out.size))
      generalize (w2.alloc (.cells ZA 25)).setRow w2.heap.size (vals Z).toArray = W at hI hW ⊢
      generalize w2.heap.size = g at hI ⊢
      clear hB2' hBz hz q2 q3 q4
      refine wp_region_puts (fun t v w => VK (match t with
        | 24 => .eq (.slice (some ⟨g, 0, none⟩) 32 32)
        | 25 => .eq (.string ⟨Z.toArray⟩)
        | 26 => .eq (.string ⟨S.toArray⟩)
        | 27 => .eq (.string ⟨Z.toArray⟩)
        | 28 => .eq (Value.bool true)
        | 4 => .eq (Value.bool true)
        | _ => .any) v w) (fun w' => Below W.heap.size W w') 29 (by kernel_rfl) (by decide +kernel) rfl (Below.refl _ _).drew (by
        refine OweAll.cons (owesK rfl rfl fun a w1 ha hG hV => ?_) ?_
        · skip
          have h6 := ha.outer 6 (by decide +kernel)
          simp only [Act.eval] at h6
          exact ⟨.slice (some ⟨g, 0, none⟩) 32 32, w1, wanted_free rfl, by simp [execOp, go_sem, h6], Below.refl _ _, rfl⟩
        refine OweAll.cons (owesK rfl rfl fun a w1 ha hG hV => ?_) ?_
        · skip
          have h24 : a.tmps.getD 24 undef = .slice (some ⟨g, 0, none⟩) 32 32 := hV.get 24 (by decide +kernel)
          exact ⟨.string ⟨Z.toArray⟩, w1, wanted_free rfl, by simp [execOp, go_sem, h24, (hI.out.old hG).text], Below.refl _ _, rfl⟩
        refine OweAll.cons (owesK rfl rfl fun a w1 ha hG hV => ?_) ?_
        · skip
          have h5 := ha.outer 5 (by decide +kernel)
          simp only [Act.eval] at h5
          exact ⟨.string ⟨S.toArray⟩, w1, wanted_free rfl, by simp [execOp, go_sem, h5], Below.refl _ _, rfl⟩
        refine OweAll.cons (owesK_call rfl rfl 22 fun a w1 ha hG hV => ?_) ?_
        · skip
          have h26 : a.tmps.getD 26 undef = .string ⟨S.toArray⟩ := hV.get 26 (by decide +kernel)
          refine ⟨#[.string ⟨S.toArray⟩], wanted_free rfl, by simp [execOp, resolve, invoke, go_sem, h26], ?_⟩
          refine (href.out w1).mono ?_
          rintro r u2 ⟨rfl, hb⟩; exact ⟨_, rfl, rfl, hb⟩
        refine OweAll.cons (owesK rfl rfl fun a w1 ha hG hV => ?_) ?_
        · skip
          have h25 : a.tmps.getD 25 undef = .string ⟨Z.toArray⟩ := hV.get 25 (by decide +kernel)
          have h27 : a.tmps.getD 27 undef = .string ⟨Z.toArray⟩ := hV.get 27 (by decide +kernel)
          exact ⟨Value.bool true, w1, wanted_free rfl, by simp [execOp, go_sem, h25, h27], Below.refl _ _, rfl⟩
        refine OweAll.cons (owesK rfl rfl fun a w1 ha hG hV => ?_) ?_
        · skip
          have h28 : a.tmps.getD 28 undef = Value.bool true := hV.get 28 (by decide +kernel)
          exact ⟨Value.bool true, w1, wanted_free rfl, by simp [execOp, go_sem, h28], Below.refl _ _, rfl⟩
        exact OweAll.nil
        ) ?_
      intro f wz hG hv
      have e4 : f 4 = Value.bool true := hv 5 _ 4 rfl rfl
      rename_i hK
      refine hK _ _ ?_
      clear hK hv
      simp only [dsts, puts, List.filterMap_cons, List.filterMap_nil, List.foldl_cons, List.foldl_nil, Act.put, List.setIfInBounds_toArray, List.set_cons_succ, List.set_cons_zero, e4]
      clear e4
      have HG := Lib.hid (hW.out.trans (hG.mono hW.out.size))
      clear hG
      go_wp2_with fail
      go_ret
      exact ⟨rfl, HG.out⟩
end Go.Proofs.YtkejidmomnmdbaaDoor
