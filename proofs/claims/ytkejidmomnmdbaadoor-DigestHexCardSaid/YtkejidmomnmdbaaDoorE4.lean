/- The law DigestParts. -/
import Derived.Test.YtkejidmomnmdbaaDoorE3
import Derived.Test.YtkejidmomnmdbaaDoorRw
namespace Go.Proofs.YtkejidmomnmdbaaDoor
open Go.RowKit

theorem info_str : (Tryd.prog.info? 9).map (fun i => (i.zero, i.size, i.bytes)) = some (some (.string ⟨#[]⟩), 1, 16) := by kernel_rfl
theorem StrsAt.of_rd {w : World} {ao : Option Addr} {n cap : Nat} {L : List (List UInt8)} (h : Rd encS w ao L) (hn : n = L.length) : StrsAt w (.slice ao n cap) L := by
  subst hn; exact ⟨ao, cap, rfl, fun j hj => h.str j hj⟩
theorem checkB (v : Value) (ss : List (List UInt8)) (w : World) (hv : StrsAt w v ss) (hl : ss.flatten.length ≤ 274877906944) (hn : (ss.length : Int) ≤ 1099511627776) (hT : TabAt w) :
    Calls Tryd.prog 25 #[v] w fun r w' => r = .returned (.int .u32 ((w16 (sha (nats ss.flatten)) 0 : Nat) : Int)) ∧ Below w.heap.size w w' :=
  (check_any v ss w hv hl hn hT).mono fun _ _ ⟨h1, h2⟩ => ⟨h1, h2.to_below (Nat.le_refl _) (fun _ _ h => h)⟩

set_option maxRecDepth 20000 in
set_option maxHeartbeats 8000000 in
theorem digestParts_any (ao : Option Addr) (cap : Nat) (L : List (List UInt8)) (w : World) (hL : Rd encS w ao L) (hs : ∀ s ∈ L, (s.length : Int) ≤ 9223372036854775807) (hn : L.length ≤ 9223372036854775807) (hT : TabAt w) :
    Calls Tryd.prog 6 #[.slice ao L.length cap] w fun r w' => r = .returned (.bool true) ∧ Below w.heap.size w w' := by
  obtain ⟨n, hnL⟩ : ∃ n, n = L.length := ⟨_, rfl⟩
  rw [← hnL] at hn ⊢
  have Hn := Lib.hid hnL
  have HL := Lib.hid hL
  have Hs := Lib.hid hs
  clear hnL hL hs
  go_enter Tryd.func6, Tryd.ntmps6
  go_wp2_with fail
  refine (awake02_any w hT).mono ?_
  rintro r w1 ⟨rfl, hB1⟩
  have hT1 := Lib.hid (hT.old hB1)
  have HL1 := Lib.hid (HL.out.old hB1)
  have HB1 := Lib.hid hB1
  have hA0 := AccR.zero encS 9 w1
  clear hT hB1 HL
  go_wp2_with fail
  go_loopw [3, 4, 5] (fun s3 s4 s5 wr => ∃ (i a m : Nat) (T : ByteArray) (D : List (List UInt8)) (q : Option Addr) (c : Nat), i ≤ n ∧ i ≤ 12 ∧ a ≤ 30 * i ∧ m ≤ 2 * i ∧ s3 = .string T ∧ s4 = .slice q m c ∧ s5 = .int .i64 (i : Int) ∧ T.size = a ∧ Hid (T = ⟨D.flatten.toArray⟩) ∧ AccR encS 9 w1 m D q c wr) (fun _ _ i _ => 12 - (intOf i).toNat)
  case atStart => exact ⟨0, 0, 0, ⟨#[]⟩, [], none, 0, by omega, by omega, by omega, by omega, rfl, rfl, rfl, rfl, Lib.hid rfl, hA0⟩
  case round =>
    clear hA0
    obtain ⟨i, a, m, T, D, q, c, hi, hi12, ha, hm, rfl, rfl, rfl, hTs, hTe, hR⟩ := hrel
    by_cases hlt : i < n ∧ i < 12
    · obtain ⟨hin, hi2⟩ := hlt
      have hil : i < L.length := by rw [← Hn.out]; exact hin
      obtain ⟨bs, off, rfl, hbs, c1⟩ := (HL1.out.old hR.m).str i hil
      obtain ⟨s0, hs0⟩ : ∃ s, s = L[i] := ⟨_, rfl⟩
      have hsl : (s0.length : Int) ≤ 9223372036854775807 := by rw [hs0]; exact Hs.out _ (List.getElem_mem _)
      rw [← hs0] at c1
      have i1 : (i : Int) < n := by omega
      have i2 : (i : Int) < 12 := by omega
      have i0 : (0 : Int) ≤ i := by omega
      clear hs0
      go_wp2_with fail
      refine (cut_any s0 30 wr hsl (by omega)).mono ?_
      rintro r wr' ⟨rfl, rfl⟩
      have hs30 : (s0.take 30).length ≤ 30 := List.length_take_le _ _
      obtain ⟨s, hse⟩ : ∃ s, s = s0.take 30 := ⟨_, rfl⟩
      rw [← hse] at hs30 ⊢
      obtain ⟨ls, hls⟩ : ∃ k, k = s.length := ⟨_, rfl⟩
      have zs : (ByteArray.mk s.toArray).size = ls := by rw [hls]; rfl
      rw [← hls] at hs30
      have l1 : ¬ 9223372036854775807 < a + ls := by omega
      obtain ⟨T2, hT2⟩ : ∃ T2, T2 = T ++ ⟨s.toArray⟩ := ⟨_, rfl⟩
      have hs2 : T2.size = a + ls := by rw [hT2, ByteArray.size_append, hTs, zs]
      have he2 : Hid (T2 = ⟨((D ++ [s, []]).flatten).toArray⟩) := Lib.hid (by rw [hT2, hTe.out, ByteArray.mk_append_mk]; simp)
      have ht2 := hT2.symm
      have hR1 := hR.below ((Below.refl _ wr).alloc (Nat.le_refl _) (.cells #[.string ⟨s.toArray⟩, .string ⟨#[]⟩] 9))
      have hRl := Lib.hid hR1.len
      have hRs := hR1.s
      have hY : Rd encS (wr.alloc (.cells #[.string ⟨s.toArray⟩, .string ⟨#[]⟩] 9)) (some ⟨wr.heap.size, 0, none⟩) [s, []] := Rd.made encS wr 9 [s, []] (by simp [maxLen])
      clear hT2 hse hls hR c1 hsl
      go_wp2_with (at_builtin; refine wpList_pushR encS rfl _ _ 35 9 (.string ⟨#[]⟩) 16 rfl Tryd.underlying35 info_str rfl (by decide) q c m D hRl.out rfl hRs (some ⟨wr.heap.size, 0, none⟩) 2 2 [s, []] rfl rfl hY (by omega) ?_; intro q2 c2 W5 hP)
      have hR5 := hR1.push hP
      clear hP hR1 hRs hY
      go_wp2_with fail
      go_roundw
      case rel => exact ⟨i + 1, a + ls, m + 2, T2, D ++ [s, []], q2, c2, by omega, by omega, by omega, by omega, rfl, rfl, by go_num, hs2, he2, hR5⟩
      case measure => simp [intOf]; omega
    · have hDl : D.flatten.length = a := by rw [← hTs, hTe.out]; simp [ByteArray.size]
      rw [hTe.out]
      obtain ⟨S, hS⟩ : ∃ S, S = D.flatten := ⟨_, rfl⟩
      rw [← hS] at hDl ⊢
      have hDm := hR.len
      have hTr := hT1.out.old hR.m
      have hRd := hR.s.rd
      have HB := Lib.hid (HB1.out.trans (hR.m.mono HB1.out.size))
      have hof : Hid (∀ w, Rd encS w q D → TabAt w → Calls Tryd.prog 21 #[.slice q m c] w fun r w' => r = .returned (.agg (vals (shaB S)).toArray) ∧ Below w.heap.size w w') := Lib.hid (fun w h hT => by
        have := dofB (.slice q m c) D w (StrsAt.of_rd h hDm.symm) (by rw [← hS]; omega) (by omega) hT
        rwa [← hS] at this)
      have hck : Hid (∀ w, Rd encS w q D → TabAt w → Calls Tryd.prog 25 #[.slice q m c] w fun r w' => r = .returned (.int .u32 ((w16 (sha (nats S)) 0 : Nat) : Int)) ∧ Below w.heap.size w w') := Lib.hid (fun w h hT => by
        have := checkB (.slice q m c) D w (StrsAt.of_rd h hDm.symm) (by rw [← hS]; omega) (by omega) hT
        rwa [← hS] at this)
      have hof1 := Lib.hid (fun (v : Value) (w : World) h hT => dofB v [S] w h (by simp; omega) (by simp) hT)
      have hck1 := Lib.hid (fun (v : Value) (w : World) h hT => checkB v [S] w h (by simp; omega) (by simp) hT)
      rw [show ([S] : List (List UInt8)).flatten = S from by simp] at hof1 hck1
      have href := Lib.hid (fun w => refofB S w (by omega))
      have hZl := shaB_len S
      generalize shaB S = Z at hof hof1 href hZl
      generalize w16 (sha (nats S)) 0 = y at hck hck1
      clear hS hDl hDm hTs hTe HB1
      have HTr := Lib.hid hTr
      have HRd := Lib.hid hRd
      clear hTr hRd hR
      have hcase : Hid True := Lib.hid trivial
      by_cases hin : i < n
      all_goals
        have hi3 : i < n ∨ ¬ i < n := Classical.em _
        have j1 : (i : Int) < n ↔ i < n := by omega
        have j2 : i < n → ¬ (i : Int) < 12 := by omega
        have i2 : i < n → decide ((i : Int) < 12) = false := fun h => decide_eq_false (j2 h)
        try have i3 : decide ((i : Int) < 12) = false := i2 hin
        try have i4 : (i : Int) < n := by omega
        try have i5 : ¬ (i : Int) < n := by omega
        clear hi3 j1 j2 i2 hlt
        go_wp2_with fail
        refine (hof.out _ HRd.out HTr.out).mono ?_
        rintro r w2 ⟨rfl, hB2⟩
        have hT2 := HTr.out.old hB2
        have hRd2 := HRd.out.old hB2
        have hB2' := Lib.hid (HB.out.trans (hB2.mono HB.out.size))
        have hz := zid_run
        have q2 := zid_len.trans (id_size hZl).symm
        have q3 := id_info hZl
        have q4 := id_one Z
        have hI := Lib.hid (IdAt.stored (w := w2) (A := (vals zid).toArray) hZl)
        have hBz := Lib.hid (stored_below (w := w2) (A := (vals zid).toArray) (C := (vals Z).toArray) (T := 25))
        have HT2 := Lib.hid (hT2.old hBz.out)
        have HRd2 := Lib.hid (hRd2.old hBz.out)
        clear hB2 hT2 hRd2 HTr HRd HB hof
        generalize (vals zid).toArray = ZA at hz q2 hI hBz HT2 HRd2
        go_upto_region 12 with (refine wpList_store_row rfl rfl 25 (.tmp 7) (.tmp 33) rfl w2.heap.size rfl 25 ZA (vals Z).toArray rfl (heap_alloc_new _ _) q2 q3 q4 ?_)
        have hW := Lib.hid (hB2'.out.trans (hBz.out.mono hB2'.out.size))
        generalize (w2.alloc (.cells ZA 25)).setRow w2.heap.size (vals Z).toArray = W at hI hW HT2 HRd2 ⊢
        generalize w2.heap.size = g at hI ⊢
        clear hB2' hBz hz q2 q3 q4
        refine wp_region_puts (fun t v w => VK (match t with
          | 34 => .eq (.slice (some ⟨g, 0, none⟩) 32 32)
          | 35 => .eq (.string ⟨Z.toArray⟩)
          | 36 => .eq (.string ⟨S.toArray⟩)
          | 37 => .eq (.string ⟨Z.toArray⟩)
          | 38 => .eq (Value.bool true)
          | 39 => .eq (Value.bool true)
          | 40 => .eq (.string ⟨S.toArray⟩)
          | 41 => .st (strsSt [S])
          | 42 => .eq (.agg (vals Z).toArray)
          | 43 => .eq (.agg (vals Z).toArray)
          | 44 => .eq (Value.bool true)
          | 45 => .eq (Value.bool true)
          | 46 => .eq (Value.bool true)
          | 47 => .eq (.slice q m c)
          | 48 => .eq (.int .u32 ((y : Nat) : Int))
          | 49 => .eq (.string ⟨S.toArray⟩)
          | 50 => .st (strsSt [S])
          | 51 => .eq (.int .u32 ((y : Nat) : Int))
          | 52 => .eq (Value.bool true)
          | 53 => .eq (Value.bool true)
          | 2 => .eq (Value.bool true)
          | _ => .any) v w) (fun w' => Below W.heap.size W w') 54 (by kernel_rfl) (by decide +kernel) rfl (Below.refl _ _).drew (by
          refine OweAll.cons (owesK rfl rfl fun a w1 ha hG hV => ?_) ?_
          · skip
            have h7 := ha.outer 7 (by decide +kernel)
            simp only [Act.eval] at h7
            exact ⟨.slice (some ⟨g, 0, none⟩) 32 32, w1, wanted_free rfl, by simp [execOp, go_sem, h7], Below.refl _ _, rfl⟩
          refine OweAll.cons (owesK rfl rfl fun a w1 ha hG hV => ?_) ?_
          · skip
            have h34 : a.tmps.getD 34 undef = .slice (some ⟨g, 0, none⟩) 32 32 := hV.get 34 (by decide +kernel)
            exact ⟨.string ⟨Z.toArray⟩, w1, wanted_free rfl, by simp [execOp, go_sem, h34, (hI.out.old hG).text], Below.refl _ _, rfl⟩
          refine OweAll.cons (owesK rfl rfl fun a w1 ha hG hV => ?_) ?_
          · skip
            have h3 := ha.outer 3 (by decide +kernel)
            simp only [Act.eval] at h3
            exact ⟨.string ⟨S.toArray⟩, w1, wanted_free rfl, by simp [execOp, go_sem, h3], Below.refl _ _, rfl⟩
          refine OweAll.cons (owesK_call rfl rfl 22 fun a w1 ha hG hV => ?_) ?_
          · skip
            have h36 : a.tmps.getD 36 undef = .string ⟨S.toArray⟩ := hV.get 36 (by decide +kernel)
            refine ⟨#[.string ⟨S.toArray⟩], wanted_free rfl, by simp [execOp, resolve, invoke, go_sem, h36], ?_⟩
            refine (href.out w1).mono ?_
            rintro r u2 ⟨rfl, hb⟩; exact ⟨_, rfl, rfl, hb⟩
          refine OweAll.cons (owesK rfl rfl fun a w1 ha hG hV => ?_) ?_
          · skip
            have h35 : a.tmps.getD 35 undef = .string ⟨Z.toArray⟩ := hV.get 35 (by decide +kernel)
            have h37 : a.tmps.getD 37 undef = .string ⟨Z.toArray⟩ := hV.get 37 (by decide +kernel)
            exact ⟨Value.bool true, w1, wanted_free rfl, by simp [execOp, go_sem, h35, h37], Below.refl _ _, rfl⟩
          refine OweAll.cons (owesK rfl rfl fun a w1 ha hG hV => ?_) ?_
          · skip
            have h38 : a.tmps.getD 38 undef = Value.bool true := hV.get 38 (by decide +kernel)
            exact ⟨Value.bool true, w1, wanted_free rfl, by simp [execOp, go_sem, h38], Below.refl _ _, rfl⟩
          refine OweAll.cons (owesK rfl rfl fun a w1 ha hG hV => ?_) ?_
          · skip
            have h3 := ha.outer 3 (by decide +kernel)
            simp only [Act.eval] at h3
            exact ⟨.string ⟨S.toArray⟩, w1, (wanted_of (t := 39) rfl rfl (hV.get 39 (by decide +kernel))), by simp [execOp, go_sem, h3], Below.refl _ _, rfl⟩
          refine OweAll.cons (owesK rfl rfl fun a w1 ha hG hV => ?_) ?_
          · skip
            have h40 : a.tmps.getD 40 undef = .string ⟨S.toArray⟩ := hV.get 40 (by decide +kernel)
            have g40 : a.tmps[40]?.getD undef = .string ⟨S.toArray⟩ := by simpa using h40
            exact ⟨.slice (some ⟨w1.heap.size, 0, none⟩) 1 1, w1.alloc (.cells #[.string ⟨S.toArray⟩] 9), (wanted_of (t := 39) rfl rfl (hV.get 39 (by decide +kernel))), by simp [execOp, go_sem, h40, g40], (Below.refl _ _).alloc (Nat.le_refl _) _, StrsAt.made w1 9 [S]⟩
          refine OweAll.cons (owesK_call rfl rfl 21 fun a w1 ha hG hV => ?_) ?_
          · skip
            have s41 : (strsSt [S]).p (a.tmps.getD 41 undef) w1 := hV.get 41 (by decide +kernel)
            obtain ⟨v41, h41⟩ : ∃ v, a.tmps.getD 41 undef = v := ⟨_, rfl⟩
            rw [h41] at s41
            refine ⟨#[v41], (wanted_of (t := 39) rfl rfl (hV.get 39 (by decide +kernel))), by simp [execOp, resolve, invoke, go_sem, h41], ?_⟩
            refine (hof1.out v41 w1 s41 (HT2.out.old hG)).mono ?_
            rintro r u2 ⟨rfl, hb⟩; exact ⟨_, rfl, rfl, hb⟩
          refine OweAll.cons (owesK rfl rfl fun a w1 ha hG hV => ?_) ?_
          · skip
            exact ⟨.agg (vals Z).toArray, w1, (wanted_of (t := 39) rfl rfl (hV.get 39 (by decide +kernel))), (hI.out.old hG).load (.tmp 7) rfl ((ha.outer 7 (by decide +kernel)).trans rfl), Below.refl _ _, rfl⟩
          refine OweAll.cons (owesK rfl rfl fun a w1 ha hG hV => ?_) ?_
          · skip
            have h42 : a.tmps.getD 42 undef = .agg (vals Z).toArray := hV.get 42 (by decide +kernel)
            have h43 : a.tmps.getD 43 undef = .agg (vals Z).toArray := hV.get 43 (by decide +kernel)
            exact ⟨Value.bool true, w1, (wanted_of (t := 39) rfl rfl (hV.get 39 (by decide +kernel))), by simp [execOp, go_sem, h42, h43, id_eql Z Z hZl hZl], Below.refl _ _, rfl⟩
          refine OweAll.cons (owesK rfl rfl fun a w1 ha hG hV => ?_) ?_
          · skip
            have h39 : a.tmps.getD 39 undef = Value.bool true := hV.get 39 (by decide +kernel)
            have h44 : a.tmps.getD 44 undef = Value.bool true := hV.get 44 (by decide +kernel)
            exact ⟨Value.bool true, w1, wanted_free rfl, by simp [execOp, go_sem, h39, h44], Below.refl _ _, rfl⟩
          refine OweAll.cons (owesK rfl rfl fun a w1 ha hG hV => ?_) ?_
          · skip
            have h45 : a.tmps.getD 45 undef = Value.bool true := hV.get 45 (by decide +kernel)
            exact ⟨Value.bool true, w1, wanted_free rfl, by simp [execOp, go_sem, h45], Below.refl _ _, rfl⟩
          refine OweAll.cons (owesK rfl rfl fun a w1 ha hG hV => ?_) ?_
          · skip
            have h4 := ha.outer 4 (by decide +kernel)
            simp only [Act.eval] at h4
            exact ⟨.slice q m c, w1, (wanted_of (t := 46) rfl rfl (hV.get 46 (by decide +kernel))), by simp [execOp, go_sem, h4], Below.refl _ _, rfl⟩
          refine OweAll.cons (owesK_call rfl rfl 25 fun a w1 ha hG hV => ?_) ?_
          · skip
            have h47 : a.tmps.getD 47 undef = .slice q m c := hV.get 47 (by decide +kernel)
            refine ⟨#[.slice q m c], (wanted_of (t := 46) rfl rfl (hV.get 46 (by decide +kernel))), by simp [execOp, resolve, invoke, go_sem, h47], ?_⟩
            refine (hck.out w1 (HRd2.out.old hG) (HT2.out.old hG)).mono ?_
            rintro r u2 ⟨rfl, hb⟩; exact ⟨_, rfl, rfl, hb⟩
          refine OweAll.cons (owesK rfl rfl fun a w1 ha hG hV => ?_) ?_
          · skip
            have h3 := ha.outer 3 (by decide +kernel)
            simp only [Act.eval] at h3
            exact ⟨.string ⟨S.toArray⟩, w1, (wanted_of (t := 46) rfl rfl (hV.get 46 (by decide +kernel))), by simp [execOp, go_sem, h3], Below.refl _ _, rfl⟩
          refine OweAll.cons (owesK rfl rfl fun a w1 ha hG hV => ?_) ?_
          · skip
            have h49 : a.tmps.getD 49 undef = .string ⟨S.toArray⟩ := hV.get 49 (by decide +kernel)
            have g49 : a.tmps[49]?.getD undef = .string ⟨S.toArray⟩ := by simpa using h49
            exact ⟨.slice (some ⟨w1.heap.size, 0, none⟩) 1 1, w1.alloc (.cells #[.string ⟨S.toArray⟩] 9), (wanted_of (t := 46) rfl rfl (hV.get 46 (by decide +kernel))), by simp [execOp, go_sem, h49, g49], (Below.refl _ _).alloc (Nat.le_refl _) _, StrsAt.made w1 9 [S]⟩
          refine OweAll.cons (owesK_call rfl rfl 25 fun a w1 ha hG hV => ?_) ?_
          · skip
            have s50 : (strsSt [S]).p (a.tmps.getD 50 undef) w1 := hV.get 50 (by decide +kernel)
            obtain ⟨v50, h50⟩ : ∃ v, a.tmps.getD 50 undef = v := ⟨_, rfl⟩
            rw [h50] at s50
            refine ⟨#[v50], (wanted_of (t := 46) rfl rfl (hV.get 46 (by decide +kernel))), by simp [execOp, resolve, invoke, go_sem, h50], ?_⟩
            refine (hck1.out v50 w1 s50 (HT2.out.old hG)).mono ?_
            rintro r u2 ⟨rfl, hb⟩; exact ⟨_, rfl, rfl, hb⟩
          refine OweAll.cons (owesK rfl rfl fun a w1 ha hG hV => ?_) ?_
          · skip
            have h48 : a.tmps.getD 48 undef = .int .u32 ((y : Nat) : Int) := hV.get 48 (by decide +kernel)
            have h51 : a.tmps.getD 51 undef = .int .u32 ((y : Nat) : Int) := hV.get 51 (by decide +kernel)
            exact ⟨Value.bool true, w1, (wanted_of (t := 46) rfl rfl (hV.get 46 (by decide +kernel))), by simp [execOp, go_sem, h48, h51], Below.refl _ _, rfl⟩
          refine OweAll.cons (owesK rfl rfl fun a w1 ha hG hV => ?_) ?_
          · skip
            have h46 : a.tmps.getD 46 undef = Value.bool true := hV.get 46 (by decide +kernel)
            have h52 : a.tmps.getD 52 undef = Value.bool true := hV.get 52 (by decide +kernel)
            exact ⟨Value.bool true, w1, wanted_free rfl, by simp [execOp, go_sem, h46, h52], Below.refl _ _, rfl⟩
          refine OweAll.cons (owesK rfl rfl fun a w1 ha hG hV => ?_) ?_
          · skip
            have h53 : a.tmps.getD 53 undef = Value.bool true := hV.get 53 (by decide +kernel)
            exact ⟨Value.bool true, w1, wanted_free rfl, by simp [execOp, go_sem, h53], Below.refl _ _, rfl⟩
          exact OweAll.nil
          ) ?_
        intro f wz hG hv
        have e2 : f 2 = Value.bool true := hv 20 _ 2 rfl rfl
        rename_i hK
        refine hK _ _ ?_
        clear hK hv
        simp only [dsts, puts, List.filterMap_cons, List.filterMap_nil, List.foldl_cons, List.foldl_nil, Act.put, List.setIfInBounds_toArray, List.set_cons_succ, List.set_cons_zero, e2]
        clear e2
        have HG := Lib.hid (hW.out.trans (hG.mono hW.out.size))
        clear hG
        go_wp2_with fail
        go_ret
        exact ⟨rfl, HG.out⟩
end Go.Proofs.YtkejidmomnmdbaaDoor
