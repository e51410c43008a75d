/- LineWords' walk. (tools/mk-loi.py) -/
import Derived.Test.YtpdhmjmklmoknaaDoorZ6
import Derived.Test.YtpdhmjmklmoknaaDoorZ5
import Derived.BigQuiet
set_option linter.unusedVariables false
set_option linter.unusedSimpArgs false
namespace Go.Proofs.YtpdhmjmklmoknaaDoor
open Go.RowKit Go.Shelf

section
variable {P : Program} {md : Region.Mode} {ops : Array Oper} {Q : Exit → Act → World → Prop} {V : Tmp → Value → Prop} {G : Nat → Value → World → Prop} {C : List Nat} {a0 : Act}
/-- An operation that its guard leaves out. -/
theorem owesC_not {i : Nat} {o : Oper} {t : Tmp} (b : Nat) (hb : aheadOf md ops C i b = true) (hni : C.contains i = false) (hi : ops[i]? = some o) (ht : o.dst = some t)
    (h : ∀ k a w x, k ≤ b → AgreeC ops C k a0 a → G k x w → AllV (fun t v _ => V t v) a w (waits md ops o) → Region.wanted o (yielded ops a.tmps) = false ∧ V t undef) : OwesC P md ops Q V G C a0 i o := by
  refine .inr ⟨hni, b, hb, fun k hk a w x ha hG hV => ?_⟩
  obtain ⟨hw, hv⟩ := h k a w x hk ha hG hV
  unfold wpOp
  rw [hi]
  simp only [hw, Bool.false_eq_true, if_false]
  exact ⟨undef, rfl, fun u hu => by rw [ht] at hu; cases hu; exact hv, hG⟩
end
theorem below_dN {B : Nat} {a w : World} (h : Below B a w) (n : Nat) : Below B a (w.drewN n) := ⟨h.os, h.tape, h.output, h.size, h.block⟩
theorem cat32 (T U : List UInt8) : (ByteArray.mk T.toArray ++ (⟨#[32]⟩ : ByteArray)) ++ ByteArray.mk U.toArray = ⟨(T ++ [32] ++ U).toArray⟩ := by apply ByteArray.ext; simp
theorem cat00 (T U : List UInt8) : ByteArray.mk T.toArray ++ ByteArray.mk U.toArray = ⟨(T ++ U).toArray⟩ := by apply ByteArray.ext; simp
set_option maxRecDepth 100000 in
set_option maxHeartbeats 16000000 in
theorem lineWords_any (ao : Option Addr) (cap : Nat) (L : List (List UInt8)) (W : World) (hL : Rd encS W ao L) (hz : ∀ s ∈ L, (s.length : Int) ≤ 9223372036854775807) (hn : L.length ≤ 9223372036854775807) (hT : PowAt W) :
    Calls Tryd.prog 7 #[.slice ao L.length cap] W fun e w' => e = .returned (.bool true) ∧ Below W.heap.size W w' := by
  have HA := Lib.hid (fun w => lawake_any w)
  have HT := Lib.hid hT
  have HL := Lib.hid hL
  have HZ := Lib.hid hz
  obtain ⟨n, hn'⟩ : ∃ n, n = L.length := ⟨_, rfl⟩
  have HN := Lib.hid hn'
  rw [← hn'] at hn ⊢
  clear hL hz hT hn'
  go_enter Tryd.func7, Tryd.ntmps7
  go_wp2_with fail
  refine (HA.out _).mono ?_
  rintro e w1 ⟨rfl, hb1⟩
  have M1 := Lib.hid hb1
  have HL1 := Lib.hid (HL.out.old hb1)
  have HT1 := Lib.hid (HT.out.old hb1)
  clear hb1 HL HT
  go_wp2_with fail
  go_loopw [3, 4] (fun s3 s4 wr => ∃ (i : Nat) (T : List UInt8), i ≤ n ∧ i ≤ 10 ∧ s3 = .string ⟨T.toArray⟩ ∧ s4 = .int .i64 i ∧ T.length ≤ 15 * i ∧ Hid (T = lnX L i) ∧ Hid (Below w1.heap.size w1 wr)) (fun _ s4 _ => 10 - (intOf s4).toNat)
  case atStart => exact ⟨0, [], by omega, by omega, rfl, rfl, by simp, Lib.hid rfl, Lib.hid (Below.refl _ _)⟩
  obtain ⟨i, T, hin, hi10, rfl, rfl, hTl, HTE, HB⟩ := hrel
  by_cases hlt : i < n
  · by_cases h10 : i < 10
    · have hil : i < L.length := by rw [← HN.out]; exact hlt
      have i0 : (0 : Int) ≤ i := by omega
      have i1 : (i : Int) < n := by omega
      have i10 : (i : Int) < 10 := by omega
      have i2 : IntKind.i64.wrap ((i : Int) + 1) = (i : Int) + 1 := by rw [IntKind.wrap_i64]; omega
      obtain ⟨bs, off, e, hbs, c0⟩ := (HL1.out.old HB.out).str i hil
      subst e
      have hzi := HZ.out _ (List.getElem_mem hil)
      have hlx : lnX L (i + 1) = (if i = 0 then [] else T ++ [32]) ++ wdX L[i] := by rw [lnX, ← HTE.out, List.getD_eq_getElem?_getD, List.getElem?_eq_getElem hil]; rfl
      generalize L[i] = p at c0 hzi hlx
      have HC := Lib.hid (fun w => lwcut_any p 14 w (by omega) (by omega))
      have HLX := Lib.hid hlx
      have hq14 : (p.take 14).length ≤ 14 := by rw [List.length_take]; omega
      obtain ⟨q, hq⟩ : ∃ q, q = p.take 14 := ⟨_, rfl⟩
      rw [← hq] at HC hq14
      have HQ := Lib.hid hq
      obtain ⟨m, hm⟩ : ∃ m, m = q.length := ⟨_, rfl⟩
      rw [← hm] at hq14
      have HM := Lib.hid hm
      clear hlx hq hm hzi
      go_wp2_with fail
      refine (HC.out _).mono ?_
      rintro e w2 ⟨rfl, rfl⟩
      clear HC
      have HQ14 := Lib.hid hq14
      obtain ⟨W1, cap1, hcv, hb1, hBr⟩ : ∃ W1 cap, (convert 9 44 (.string ⟨q.toArray⟩)).run Tryd.prog wr = .ok (.slice (some ⟨wr.heap.size, 0, none⟩) m cap) W1 ∧ Below wr.heap.size wr W1 ∧ Br W1 (some ⟨wr.heap.size, 0, none⟩) cap q := by
        obtain ⟨cap, W1, h1, h2, h3⟩ := Br.conv wr q (by have := HM.out; omega)
        rw [← HM.out] at h1
        exact ⟨W1, cap, h1, h2, h3⟩
      obtain ⟨g1, hg1⟩ : ∃ g, g = wr.heap.size := ⟨_, rfl⟩
      rw [← hg1] at hcv hBr
      have B1 := Lib.hid hb1
      have BR := Lib.hid hBr
      clear hb1 hBr hg1
      go_wp2_with fail
      clear hcv
      go_loopw [5, 32] (fun s5 s32 wr2 => ∃ (j : Nat) (U : List UInt8), j ≤ m ∧ s5 = .string ⟨U.toArray⟩ ∧ s32 = .int .i64 j ∧ U.length ≤ j ∧ Hid (U = (q.take j).filter (fun c => c != 10)) ∧ Hid (Below W1.heap.size W1 wr2)) (fun _ s32 _ => m - (intOf s32).toNat)
      case atStart => exact ⟨0, [], by omega, rfl, rfl, by simp, Lib.hid (by simp), Lib.hid (Below.refl _ _)⟩
      obtain ⟨j, U, hjm, rfl, rfl, hUl, HUE, HB2⟩ := hrel
      by_cases hlj : j < m
      · have hjl : j < q.length := by rw [← HM.out]; exact hlj
        have j0 : (0 : Int) ≤ j := by omega
        have j1 : (j : Int) < m := by omega
        have j2 : IntKind.i64.wrap ((j : Int) + 1) = (j : Int) + 1 := by rw [IntKind.wrap_i64]; omega
        have c1 := rd_br (BR.out.old HB2.out) j hjl
        have hws : (q.take (j + 1)).filter (fun c => c != 10) = (q.take j).filter (fun c => c != 10) ++ (if q[j] != 10 then [q[j]] else []) := by
          rw [List.take_succ_eq_append_getElem hjl, List.filter_append]
          generalize q[j] = z
          cases h : (z != 10) <;> simp [h]
        generalize q[j] = x at c1 hws
        clear hjl
        by_cases hx : x = 10
        · subst hx
          replace c1 : _ = some (Value.int .u8 10) := c1
          have HNX : Hid (U = (q.take (j + 1)).filter (fun c => c != 10)) := Lib.hid (by rw [hws, if_neg (by decide), List.append_nil]; exact HUE.out)
          clear hws HUE
          go_wp2_with fail
          go_roundw
          case rel => exact ⟨j + 1, U, by omega, rfl, by go_num, by omega, HNX, HB2⟩
          case measure => simp [intOf]; omega
        · have hv : ((x.toNat : Int) != 10) = true := by
            rw [bne_iff_ne]; intro e
            exact hx (UInt8.toNat_inj.1 (by show x.toNat = 10; omega))
          have HNX : Hid (U ++ [x] = (q.take (j + 1)).filter (fun c => c != 10)) := Lib.hid (by rw [hws, if_pos (by simpa using hx), ← HUE.out])
          have hcv1 := conv_one wr x
          have hcv2 := conv_one wr.drew x
          obtain ⟨UB, hUB⟩ : ∃ B, B = ByteArray.mk U.toArray := ⟨_, rfl⟩
          have hus : UB.size ≤ 14 := by rw [hUB]; show U.length ≤ 14; omega
          have HCC : Hid (UB ++ (⟨#[x]⟩ : ByteArray) = ⟨(U ++ [x]).toArray⟩) := Lib.hid (by rw [hUB]; exact bcat1 U x)
          have hxs : (⟨#[x]⟩ : ByteArray).size = 1 := rfl
          rw [← hUB]
          clear hws HUE hUB hx
          go_wp2_with fail
          go_roundw
          case rel => exact ⟨j + 1, U ++ [x], by omega, by rw [HCC.out], by go_num, by rw [List.length_append, List.length_singleton]; omega, HNX, Lib.hid (HB2.out.alloc HB2.out.size _)⟩
          case measure => simp [intOf]; omega
      · obtain rfl : j = m := by omega
        have HUX : Hid (U = wdX p) := Lib.hid (by rw [HUE.out, List.take_of_length_le (by rw [← HM.out]; exact Nat.le_refl _), HQ.out]; rfl)
        have HBZ := Lib.hid (HB.out.trans ((B1.out.trans (HB2.out.mono B1.out.size)).mono HB.out.size))
        have hU14 : U.length ≤ 14 := by omega
        by_cases hi0 : i = 0
        · subst hi0
          have hT0 : T = [] := by rw [HTE.out]; rfl
          subst hT0
          have HNX : Hid (U = lnX L (0 + 1)) := Lib.hid (by rw [HLX.out, if_pos rfl, HUX.out, List.nil_append])
          obtain ⟨UB, hUB⟩ : ∃ B, B = ByteArray.mk U.toArray := ⟨_, rfl⟩
          have hus : UB.size ≤ 14 := by rw [hUB]; exact hU14
          have HCC : Hid ((ByteArray.mk ([] : List UInt8).toArray) ++ UB = ⟨U.toArray⟩) := Lib.hid (by rw [hUB]; exact cat00 [] U)
          rw [← hUB]
          have HUB := Lib.hid hUB
          clear hUB HTE HLX HUX HUE
          go_wp2_with fail
          go_roundw
          case rel => exact ⟨0 + 1, U, by omega, by omega, by first | (rw [HCC.out]; done) | (rw [HUB.out]; done) | (rw [← HUB.out]; exact congrArg _ HCC.out) | (simp [HUB.out]), by go_num, by omega, HNX, HBZ⟩
          case measure => simp [intOf] <;> omega
        · have hgt : (0 : Int) < i := by omega
          have HNX : Hid (T ++ [32] ++ U = lnX L (i + 1)) := Lib.hid (by rw [HLX.out, if_neg hi0, HUX.out])
          obtain ⟨UB, hUB⟩ : ∃ B, B = ByteArray.mk U.toArray := ⟨_, rfl⟩
          obtain ⟨TB, hTB⟩ : ∃ B, B = ByteArray.mk T.toArray := ⟨_, rfl⟩
          have hus : UB.size ≤ 14 := by rw [hUB]; exact hU14
          have hts : TB.size ≤ 150 := by rw [hTB]; show T.length ≤ 150; omega
          have HCC : Hid ((TB ++ (⟨#[32]⟩ : ByteArray)) ++ UB = ⟨(T ++ [32] ++ U).toArray⟩) := Lib.hid (by rw [hUB, hTB]; exact cat32 T U)
          have HCD : Hid (TB ++ ((⟨#[32]⟩ : ByteArray) ++ UB) = ⟨(T ++ [32] ++ U).toArray⟩) := Lib.hid (by rw [← ByteArray.append_assoc]; exact HCC.out)
          have hs1 : (⟨#[32]⟩ : ByteArray).size = 1 := rfl
          rw [← hUB, ← hTB]
          clear hUB hTB HTE HLX HUX HUE hi0
          go_wp2_with fail
          go_roundw
          case rel => exact ⟨i + 1, T ++ [32] ++ U, by omega, by omega, by first | (rw [HCC.out]; done) | (rw [HCD.out]; done), by go_num, by simp only [List.length_append, List.length_singleton]; omega, HNX, HBZ⟩
          case measure => simp [intOf]; omega
    · obtain rfl : i = 10 := by omega
      have hwi : 10 ≤ 10 := by omega
      have hTf : (10 : UInt8) ∉ T := by rw [HTE.out]; exact lnX_free L _
      have hT150 : T.length ≤ 150 := by omega
      have hPM := par_line hTf
      have HP := Lib.hid (fun w => lparse_any T w (by omega))
      unfold ParP at HP
      obtain ⟨UB, hUB⟩ : ∃ B, B = ByteArray.mk T.toArray := ⟨_, rfl⟩
      have hUL : UB.toList = T := by rw [hUB, ByteArray.toList_mk]
      have hUs : UB.size = T.length := by rw [hUB]; rfl
      have MB := Lib.hid (M1.out.trans (HB.out.mono M1.out.size))
      have HTB := Lib.hid (HT1.out.old HB.out)
      have h4 : T = [] ∨ (T ≠ [] ∧ mute T = true) ∨ (mute T = false ∧ stepM T = none) ∨ (mute T = false ∧ ∃ x, stepM T = some x) := by
        by_cases h1 : T = []
        · exact .inl h1
        · cases h2 : mute T with
          | true => exact .inr (.inl ⟨h1, rfl⟩)
          | false =>
            cases h3 : stepM T with
            | none => exact .inr (.inr (.inl ⟨rfl, rfl⟩))
            | some x => exact .inr (.inr (.inr ⟨rfl, x, rfl⟩))
      clear HTE hTf hTl HB HT1
      rcases h4 with hne | ⟨hne, hmu⟩ | ⟨hmu, hst⟩ | ⟨hmu, x, hst⟩
      · -- nothing
        have hP2 : parM T = ([], 0, true) := by rw [hPM, if_pos (by rw [hne]; rfl)]
        rw [hP2, ← hUB] at HP
        rw [← hUB]
        simp only at HP
        have e0 : UB.toList.isEmpty = true := by rw [hUL, hne]; rfl
        have e1 : (UB.toList == []) = true := by rw [hUL, hne]; rfl
        clear hPM hP2 hne hUL hUB
        go_wp2_with fail
        refine (HP.out _).mono ?_
        rintro e w5 ⟨hb5, q1, c1, V1, rfl, hV1, _, _, _⟩
        obtain rfl : V1 = [] := List.map_eq_nil_iff.1 hV1
        have M5 := Lib.hid (MB.out.trans (hb5.mono MB.out.size))
        clear hb5 hV1
        go_wp2_with fail
        go_ret
        exact ⟨rfl, M5.out⟩
      · -- a remark
        have hP2 : parM T = ([], 0, true) := by rw [hPM, if_pos hmu]
        rw [hP2, ← hUB] at HP
        rw [← hUB]
        simp only at HP
        have e0 : UB.toList.isEmpty = false := by rw [hUL]; cases T <;> simp_all
        have e1 : (UB.toList == []) = false := by rw [hUL, beq_eq_false_iff_ne]; exact hne
        have hl0 : 0 < UB.size := by rw [hUs]; exact List.length_pos_iff.2 hne
        have hg0 : ((UB[0]'hl0).toNat : Int) = 35 := by
          subst hUB
          cases T with
          | nil => exact absurd rfl hne
          | cons a l => unfold mute at hmu; rw [beq_iff_eq] at hmu; subst hmu; rfl
        clear hPM hP2 hne hUL hUB hmu
        go_wp2_with fail
        refine (HP.out _).mono ?_
        rintro e w5 ⟨hb5, q1, c1, V1, rfl, hV1, _, _, _⟩
        obtain rfl : V1 = [] := List.map_eq_nil_iff.1 hV1
        have M5 := Lib.hid (MB.out.trans (hb5.mono MB.out.size))
        clear hb5 hV1
        go_wp2_with fail
        go_ret
        exact ⟨rfl, M5.out⟩
      · -- no step
        have hP2 : parM T = ([], 1, false) := by rw [hPM, if_neg (by rw [hmu]; decide), hst]
        have HO := Lib.hid (fun w => rlone_any T w (by omega))
        unfold StepP at HO
        rw [hst, ← hUB] at HO
        rw [hP2, ← hUB] at HP
        rw [← hUB]
        simp only at HP
        have hne : T ≠ [] := fun e => by rw [e] at hmu; cases hmu
        have e0 : UB.toList.isEmpty = false := by rw [hUL]; cases T <;> simp_all
        have e1 : (UB.toList == []) = false := by rw [hUL, beq_eq_false_iff_ne]; exact hne
        have hl0 : 0 < UB.size := by rw [hUs]; exact List.length_pos_iff.2 hne
        obtain ⟨v, hv⟩ : ∃ v, v = (T[0]'(List.length_pos_iff.2 hne)).toNat := ⟨_, rfl⟩
        have hg0 : ((UB[0]'hl0).toNat : Int) = v := by subst hUB; rw [hv]; rfl
        have hv35 : ((v : Int) == 35) = false := by
          rw [beq_eq_false_iff_ne]; intro e
          cases T with
          | nil => exact absurd rfl hne
          | cons a l =>
            unfold mute at hmu
            rw [beq_eq_false_iff_ne] at hmu
            exact hmu (UInt8.toNat_inj.1 (by show a.toNat = 35; have : v = a.toNat := hv; omega))
        clear hPM hP2 hne hUL hUB hmu hst hv
        go_wp2_with fail
        refine (HP.out _).mono ?_
        rintro e w5 ⟨hb5, q1, c1, V1, rfl, hV1, _, _, _⟩
        obtain rfl : V1 = [] := List.map_eq_nil_iff.1 hV1
        have M5 := Lib.hid (MB.out.trans (hb5.mono MB.out.size))
        clear hb5 hV1
        go_wp2_with fail
        refine (HO.out _).mono ?_
        rintro r W3 ⟨hb3, na, nc, ia, ic, rfl, _, _, _, _⟩
        have M3 := Lib.hid (M5.out.trans (hb3.mono M5.out.size))
        obtain ⟨C2, hC2⟩ : ∃ C, C = stC ((none : Option St).getD zSt) na nc ia ic := ⟨_, rfl⟩
        have HC1 : Hid (∀ v ∈ C2.toList, v.oneCell' = true) := Lib.hid (by rw [hC2]; exact stC_one)
        have HS2 : Hid ((Tryd.prog.info? 33).map (·.size) = some C2.size) := Lib.hid (by rw [hC2]; exact rl_size _ _ _ _ _)
        have HCZ : Hid (4 = C2.size) := Lib.hid (by rw [hC2]; rfl)
        rw [← hC2]
        clear hb3 hC2 HO HP
        simp only [Option.isSome_none]
        go_upto_region 21 with (first
          | (refine wpList_store_row rfl rfl 33 (.tmp 11) (.tmp 77) rfl W3.heap.size rfl 33 _ C2 rfl (heap_alloc_new W3 _) HCZ.out HS2.out HC1.out ?_
             refine wpList_gen (fun W4 => W4.heap[W3.heap.size]? = some (.cells C2 33 (0, 0)) ∧ Below W3.heap.size W3 W4) (lnew_row W3 _ _ C2 33 rfl) (fun W4 hW4 => ?_)
             obtain ⟨hr4, hb4⟩ := hW4
             have M4 := Lib.hid (M3.out.trans (hb4.mono M3.out.size))
             clear hr4 hb4))
        go_upto_region 23 with fail
        go_quiet (fail)
        go_wp2_with fail
        go_ret
        exact ⟨rfl, below_dN M4.out _⟩
      · -- a step
        have hP2 : parM T = ([x], 0, true) := by rw [hPM, if_neg (by rw [hmu]; decide), hst]
        have HO := Lib.hid (fun w => rlone_any T w (by omega))
        unfold StepP at HO
        rw [hst, ← hUB] at HO
        rw [hP2, ← hUB] at HP
        rw [← hUB]
        simp only [Option.getD_some, Option.isSome_some] at HP HO
        have hne : T ≠ [] := fun e => by rw [e] at hmu; cases hmu
        have e0 : UB.toList.isEmpty = false := by rw [hUL]; cases T <;> simp_all
        have e1 : (UB.toList == []) = false := by rw [hUL, beq_eq_false_iff_ne]; exact hne
        have hl0 : 0 < UB.size := by rw [hUs]; exact List.length_pos_iff.2 hne
        obtain ⟨v, hv⟩ : ∃ v, v = (T[0]'(List.length_pos_iff.2 hne)).toNat := ⟨_, rfl⟩
        have hg0 : ((UB[0]'hl0).toNat : Int) = v := by subst hUB; rw [hv]; rfl
        have hv35 : ((v : Int) == 35) = false := by
          rw [beq_eq_false_iff_ne]; intro e
          cases T with
          | nil => exact absurd rfl hne
          | cons a l =>
            unfold mute at hmu
            rw [beq_eq_false_iff_ne] at hmu
            exact hmu (UInt8.toNat_inj.1 (by show a.toNat = 35; have : v = a.toNat := hv; omega))
        have hbk := line_back hst
        have hsz := step_len hst
        have hsm := step_small hst
        have HTB2 := HTB
        have HUB2 : Hid (UB = ⟨(lineM x).toArray⟩) := Lib.hid (by rw [hbk, hUB])
        have HLL : Hid ((lineM x).length ≤ 100000000 ∧ x.names.length ≤ 1000000 ∧ x.nums.length ≤ 1000000 ∧ ∀ n ∈ x.nums, n ≤ 9223372036854775807) := Lib.hid ⟨by rw [hbk]; omega, by omega, by omega, fun n hn => by have := hsm n hn; omega⟩
        clear hPM hP2 hne hUL hUB hmu hst hv hbk hsz hsm
        go_wp2_with fail
        refine (HP.out _).mono ?_
        rintro e w5 ⟨hb5, q1, c1, V1, rfl, hV1, hR1, _, hok1⟩
        obtain ⟨v1, rfl, hv1⟩ : ∃ v1, V1 = [v1] ∧ v1.st = x := by
          match V1, hV1 with
          | [a], h => exact ⟨a, rfl, by simpa using h⟩
        have hk1 := hok1 v1 List.mem_cons_self
        have M5 := Lib.hid (MB.out.trans (hb5.mono MB.out.size))
        have HR1 := Lib.hid hR1
        have HK1 := Lib.hid hk1
        have HV1 := Lib.hid hv1
        have HTB5 := Lib.hid (HTB.out.old hb5)
        clear hb5 hV1 hok1 hR1 hk1 hv1
        simp only [List.length_singleton]
        obtain ⟨g1, rfl, _⟩ := shape_ne HR1.out (by simp)
        go_wp2_with fail
        refine (HO.out _).mono ?_
        rintro r W3 ⟨hb3, na, nc, ia, ic, rfl, hrn, hri, _, _⟩
        have M3 := Lib.hid (M5.out.trans (hb3.mono M5.out.size))
        have HRN := Lib.hid hrn
        have HRI := Lib.hid hri
        have HR13 := Lib.hid (HR1.out.old hb3)
        have HK13 := Lib.hid (HK1.out.old hb3)
        have HTB3 := Lib.hid (HTB5.out.old hb3)
        obtain ⟨C2, hC2⟩ : ∃ C, C = stC x na nc ia ic := ⟨_, rfl⟩
        obtain ⟨C1, hC1⟩ : ∃ C, C = v1.c := ⟨_, rfl⟩
        have HC1 : Hid (∀ v ∈ C2.toList, v.oneCell' = true) := Lib.hid (by rw [hC2]; exact stC_one)
        have HS1 : Hid ((Tryd.prog.info? 35).map (·.size) = some C1.size) := Lib.hid (by rw [hC1]; exact ln_size _ _ _ _ _)
        have HS2 : Hid ((Tryd.prog.info? 33).map (·.size) = some C2.size) := Lib.hid (by rw [hC2]; exact rl_size _ _ _ _ _)
        have HCZ : Hid (4 = C2.size) := Lib.hid (by rw [hC2]; rfl)
        have HX10 : Hid (∀ k u, C1.toList[k]? = some u → W3.cell? ⟨g1, 0 + k, none⟩ = some u) := Lib.hid (by
          have := cellsV (i := 0) HR13.out (by simp)
          rw [hC1]; simpa using this)
        have HG1 : Hid (g1 < W3.heap.size) := Lib.hid HR13.out.lt
        have HSM0 : Hid (∀ w1, Below W3.heap.size W3 w1 → Calls Tryd.prog 12 #[.agg C1, .agg C2] w1 fun e w' => e = .returned (.bool true) ∧ Below w1.heap.size w1 w') := Lib.hid (fun w1 hb => by
          have z1 := HK13.out.old hb
          have r1 := z1.rn
          have r2 := z1.ri
          rw [HV1.out] at r1 r2
          have := lsame_any x v1.na v1.nc v1.ia v1.ic na nc ia ic w1 r1 r2 (HRN.out.old hb) (HRI.out.old hb) (by have := HLL.out.2.1; omega) (by have := HLL.out.2.2.1; omega)
          rw [hC1, hC2]
          show Calls _ _ #[.agg (stC v1.st _ _ _ _), .agg (stC x _ _ _ _)] _ _
          rw [HV1.out]; exact this)
        have HLN0 : Hid (∀ w1, Below W3.heap.size W3 w1 → Calls Tryd.prog 14 #[.agg C1] w1 fun e w' => e = .returned (.string UB) ∧ Below w1.heap.size w1 w') := Lib.hid (fun w1 hb => by
          have z1 := HK13.out.old hb
          have r1 := z1.rn
          have r2 := z1.ri
          rw [HV1.out] at r1 r2
          have := lline_any x v1.na v1.nc v1.ia v1.ic w1 r1 r2 HLL.out.2.1 HLL.out.2.2.1 HLL.out.2.2.2 HLL.out.1 (HTB3.out.old hb)
          rw [hC1, HUB2.out]
          show Calls _ _ #[.agg (stC v1.st _ _ _ _)] _ _
          rw [HV1.out]; exact this)
        rw [← hC2]
        clear hb3 hC2 hC1 HO HP hrn hri
        obtain ⟨g4, hg4⟩ : ∃ g, g = W3.heap.size := ⟨_, rfl⟩
        have HG4 := Lib.hid hg4
        clear hg4
        go_upto_region 23 with (first
          | (refine wpList_store_row rfl rfl 33 (.tmp 11) (.tmp 77) rfl W3.heap.size rfl 33 _ C2 rfl (heap_alloc_new W3 _) HCZ.out HS2.out HC1.out ?_
             refine wpList_gen (fun W4 => W4.heap[W3.heap.size]? = some (.cells C2 33 (0, 0)) ∧ Below W3.heap.size W3 W4) (lnew_row W3 _ _ C2 33 rfl) (fun W4 hW4 => ?_)
             obtain ⟨hr4, hb4⟩ := hW4
             have HR4 := Lib.hid hr4
             have HB4 := Lib.hid hb4
             clear hr4 hb4))
        rw [← HG4.out]
        have HX1 : Hid (∀ w1, Below W4.heap.size W4 w1 → ∀ k u, C1.toList[k]? = some u → w1.cell? ⟨g1, 0 + k, none⟩ = some u) := Lib.hid (fun w1 hb k u hu => (World.cell?_of_block ((HB4.out.trans (hb.mono HB4.out.size)).block g1 HG1.out)).trans (HX10.out k u hu))
        have HX2 : Hid (∀ w1, Below W4.heap.size W4 w1 → w1.heap[g4]? = some (.cells C2 33 (0, 0))) := Lib.hid (fun w1 hb => by rw [HG4.out]; exact (hb.block _ (Array.getElem?_eq_some_iff.1 HR4.out).1).trans HR4.out)
        have HSM : Hid (∀ w1, Below W4.heap.size W4 w1 → Calls Tryd.prog 12 #[.agg C1, .agg C2] w1 fun e w' => e = .returned (.bool true) ∧ Below w1.heap.size w1 w') := Lib.hid (fun w1 hb => HSM0.out w1 (HB4.out.trans (hb.mono HB4.out.size)))
        have HLN : Hid (∀ w1, Below W4.heap.size W4 w1 → Calls Tryd.prog 14 #[.agg C1] w1 fun e w' => e = .returned (.string UB) ∧ Below w1.heap.size w1 w') := Lib.hid (fun w1 hb => HLN0.out w1 (HB4.out.trans (hb.mono HB4.out.size)))
        have HG0 : Hid ((fun (j : Nat) (v : Value) (w1 : World) => Below W4.heap.size W4 w1) 0 undef W4.drew) := Lib.hid (Below.refl _ _).drew
        have M4 := Lib.hid (M3.out.trans (HB4.out.mono M3.out.size))
        clear HX10 HSM0 HLN0
        refine wp_region_chain2 (fun t v => match t with
          | 82 => v = Value.bool true
          | 83 => v = Value.bool false
          | 84 => v = Value.bool false
          | 85 => v = undef
          | 86 => v = undef
          | 87 => v = Value.bool false
          | 88 => v = Value.bool false
          | 89 => v = undef
          | 90 => v = undef
          | 91 => v = undef
          | 92 => v = Value.bool false
          | 93 => v = Value.bool false
          | 94 => v = Value.bool true
          | 95 => v = Value.bool true
          | 96 => v = .int .i64 0
          | 97 => v = Value.bool true
          | 98 => v = Value.bool true
          | 99 => v = Value.bool true
          | 100 => v = .slice (some ⟨g1, 0, none⟩) 1 c1
          | 101 => v = .int .i64 1
          | 102 => v = Value.bool true
          | 103 => v = Value.bool true
          | 104 => v = Value.bool true
          | 105 => v = .slice (some ⟨g1, 0, none⟩) 1 c1
          | 106 => v = .pointer (some ⟨g1, 0, none⟩)
          | 107 => v = .agg C1
          | 108 => v = .agg C2
          | 109 => v = Value.bool true
          | 110 => v = Value.bool true
          | 111 => v = Value.bool true
          | 112 => v = .slice (some ⟨g1, 0, none⟩) 1 c1
          | 113 => v = .pointer (some ⟨g1, 0, none⟩)
          | 114 => v = .agg C1
          | 115 => v = .string UB
          | 116 => v = .string UB
          | 117 => v = Value.bool true
          | 118 => v = Value.bool true
          | 119 => v = Value.bool true
          | 2 => v = Value.bool true
          | _ => True) (fun (j : Nat) (v : Value) (w1 : World) => Below W4.heap.size W4 w1) [27, 28, 29, 33] 120 (by kernel_rfl) (by decide +kernel) rfl (by decide +kernel) (by decide) (by decide) HG0.out (by
          refine OweAllC.cons (owesC_val 4 (by decide +kernel) (by decide) rfl rfl fun k' a w1 x hk ha hG hV => ?_) ?_
          · skip
            have h10 := ha.outer 10 (by decide +kernel)
            simp only [Act.eval] at h10
            exact ⟨Value.bool true, wanted_free rfl, by simp [execOp, go_sem, h10], rfl⟩
          refine OweAllC.cons (owesC_val 4 (by decide +kernel) (by decide) rfl rfl fun k' a w1 x hk ha hG hV => ?_) ?_
          · skip
            have h82 : a.tmps.getD 82 undef = Value.bool true := hV.get 82 (by decide +kernel)
            exact ⟨Value.bool false, wanted_free rfl, by simp [execOp, go_sem, h82], rfl⟩
          refine OweAllC.cons (owesC_val 4 (by decide +kernel) (by decide) rfl rfl fun k' a w1 x hk ha hG hV => ?_) ?_
          · skip
            have h83 : a.tmps.getD 83 undef = Value.bool false := hV.get 83 (by decide +kernel)
            exact ⟨Value.bool false, wanted_free rfl, by simp [execOp, go_sem, h83], rfl⟩
          refine OweAllC.cons (owesC_not 4 (by decide +kernel) (by decide) rfl rfl fun k' a w1 x hk ha hG hV => ⟨not_wanted (t := 84) rfl rfl (hV.get 84 (by decide +kernel)) (by first | simp; done | (intro h; cases h)), rfl⟩) ?_
          refine OweAllC.cons (owesC_not 4 (by decide +kernel) (by decide) rfl rfl fun k' a w1 x hk ha hG hV => ⟨not_wanted (t := 84) rfl rfl (hV.get 84 (by decide +kernel)) (by first | simp; done | (intro h; cases h)), rfl⟩) ?_
          refine OweAllC.cons (owesC_val 4 (by decide +kernel) (by decide) rfl rfl fun k' a w1 x hk ha hG hV => ?_) ?_
          · skip
            have h84 : a.tmps.getD 84 undef = Value.bool false := hV.get 84 (by decide +kernel)
            exact ⟨Value.bool false, wanted_free rfl, by simp [execOp, go_sem, h84], rfl⟩
          refine OweAllC.cons (owesC_val 4 (by decide +kernel) (by decide) rfl rfl fun k' a w1 x hk ha hG hV => ?_) ?_
          · skip
            have h87 : a.tmps.getD 87 undef = Value.bool false := hV.get 87 (by decide +kernel)
            exact ⟨Value.bool false, wanted_free rfl, by simp [execOp, go_sem, h87], rfl⟩
          refine OweAllC.cons (owesC_not 4 (by decide +kernel) (by decide) rfl rfl fun k' a w1 x hk ha hG hV => ⟨not_wanted (t := 88) rfl rfl (hV.get 88 (by decide +kernel)) (by first | simp; done | (intro h; cases h)), rfl⟩) ?_
          refine OweAllC.cons (owesC_not 4 (by decide +kernel) (by decide) rfl rfl fun k' a w1 x hk ha hG hV => ⟨not_wanted (t := 88) rfl rfl (hV.get 88 (by decide +kernel)) (by first | simp; done | (intro h; cases h)), rfl⟩) ?_
          refine OweAllC.cons (owesC_not 4 (by decide +kernel) (by decide) rfl rfl fun k' a w1 x hk ha hG hV => ⟨not_wanted (t := 88) rfl rfl (hV.get 88 (by decide +kernel)) (by first | simp; done | (intro h; cases h)), rfl⟩) ?_
          refine OweAllC.cons (owesC_val 4 (by decide +kernel) (by decide) rfl rfl fun k' a w1 x hk ha hG hV => ?_) ?_
          · skip
            have h88 : a.tmps.getD 88 undef = Value.bool false := hV.get 88 (by decide +kernel)
            exact ⟨Value.bool false, wanted_free rfl, by simp [execOp, go_sem, h88], rfl⟩
          refine OweAllC.cons (owesC_val 4 (by decide +kernel) (by decide) rfl rfl fun k' a w1 x hk ha hG hV => ?_) ?_
          · skip
            have h92 : a.tmps.getD 92 undef = Value.bool false := hV.get 92 (by decide +kernel)
            exact ⟨Value.bool false, wanted_free rfl, by simp [execOp, go_sem, h92], rfl⟩
          refine OweAllC.cons (owesC_val 1 (by decide +kernel) (by decide) rfl rfl fun k' a w1 x hk ha hG hV => ?_) ?_
          · skip
            have h10 := ha.outer 10 (by decide +kernel)
            simp only [Act.eval] at h10
            exact ⟨Value.bool true, (wanted_of (t := 93) rfl rfl (hV.get 93 (by decide +kernel))), by simp [execOp, go_sem, h10], rfl⟩
          refine OweAllC.cons (owesC_val 1 (by decide +kernel) (by decide) rfl rfl fun k' a w1 x hk ha hG hV => ?_) ?_
          · skip
            have h94 : a.tmps.getD 94 undef = Value.bool true := hV.get 94 (by decide +kernel)
            exact ⟨Value.bool true, (wanted_of (t := 93) rfl rfl (hV.get 93 (by decide +kernel))), by simp [execOp, go_sem, h94], rfl⟩
          refine OweAllC.cons (owesC_val 1 (by decide +kernel) (by decide) rfl rfl fun k' a w1 x hk ha hG hV => ?_) ?_
          · skip
            have h9 := ha.outer 9 (by decide +kernel)
            simp only [Act.eval] at h9
            exact ⟨.int .i64 0, (wanted_of (t := 95) rfl rfl (hV.get 95 (by decide +kernel))), by simp [execOp, go_sem, h9], rfl⟩
          refine OweAllC.cons (owesC_val 1 (by decide +kernel) (by decide) rfl rfl fun k' a w1 x hk ha hG hV => ?_) ?_
          · skip
            have h96 : a.tmps.getD 96 undef = .int .i64 0 := hV.get 96 (by decide +kernel)
            exact ⟨Value.bool true, (wanted_of (t := 95) rfl rfl (hV.get 95 (by decide +kernel))), by simp [execOp, go_sem, h96], rfl⟩
          refine OweAllC.cons (owesC_val 1 (by decide +kernel) (by decide) rfl rfl fun k' a w1 x hk ha hG hV => ?_) ?_
          · skip
            have h95 : a.tmps.getD 95 undef = Value.bool true := hV.get 95 (by decide +kernel)
            have h97 : a.tmps.getD 97 undef = Value.bool true := hV.get 97 (by decide +kernel)
            exact ⟨Value.bool true, (wanted_of (t := 93) rfl rfl (hV.get 93 (by decide +kernel))), by simp [execOp, go_sem, h95, h97], rfl⟩
          refine OweAllC.cons (owesC_val 1 (by decide +kernel) (by decide) rfl rfl fun k' a w1 x hk ha hG hV => ?_) ?_
          · skip
            have h98 : a.tmps.getD 98 undef = Value.bool true := hV.get 98 (by decide +kernel)
            exact ⟨Value.bool true, (wanted_of (t := 93) rfl rfl (hV.get 93 (by decide +kernel))), by simp [execOp, go_sem, h98], rfl⟩
          refine OweAllC.cons (owesC_val 1 (by decide +kernel) (by decide) rfl rfl fun k' a w1 x hk ha hG hV => ?_) ?_
          · skip
            have h8 := ha.outer 8 (by decide +kernel)
            simp only [Act.eval] at h8
            exact ⟨.slice (some ⟨g1, 0, none⟩) 1 c1, (wanted_of (t := 99) rfl rfl (hV.get 99 (by decide +kernel))), by simp [execOp, go_sem, h8], rfl⟩
          refine OweAllC.cons (owesC_val 1 (by decide +kernel) (by decide) rfl rfl fun k' a w1 x hk ha hG hV => ?_) ?_
          · skip
            have h100 : a.tmps.getD 100 undef = .slice (some ⟨g1, 0, none⟩) 1 c1 := hV.get 100 (by decide +kernel)
            exact ⟨.int .i64 1, (wanted_of (t := 99) rfl rfl (hV.get 99 (by decide +kernel))), by simp [execOp, go_sem, h100], rfl⟩
          refine OweAllC.cons (owesC_val 1 (by decide +kernel) (by decide) rfl rfl fun k' a w1 x hk ha hG hV => ?_) ?_
          · skip
            have h101 : a.tmps.getD 101 undef = .int .i64 1 := hV.get 101 (by decide +kernel)
            exact ⟨Value.bool true, (wanted_of (t := 99) rfl rfl (hV.get 99 (by decide +kernel))), by simp [execOp, go_sem, h101], rfl⟩
          refine OweAllC.cons (owesC_val 1 (by decide +kernel) (by decide) rfl rfl fun k' a w1 x hk ha hG hV => ?_) ?_
          · skip
            have h99 : a.tmps.getD 99 undef = Value.bool true := hV.get 99 (by decide +kernel)
            have h102 : a.tmps.getD 102 undef = Value.bool true := hV.get 102 (by decide +kernel)
            exact ⟨Value.bool true, (wanted_of (t := 93) rfl rfl (hV.get 93 (by decide +kernel))), by simp [execOp, go_sem, h99, h102], rfl⟩
          refine OweAllC.cons (owesC_val 1 (by decide +kernel) (by decide) rfl rfl fun k' a w1 x hk ha hG hV => ?_) ?_
          · skip
            have h103 : a.tmps.getD 103 undef = Value.bool true := hV.get 103 (by decide +kernel)
            exact ⟨Value.bool true, (wanted_of (t := 93) rfl rfl (hV.get 93 (by decide +kernel))), by simp [execOp, go_sem, h103], rfl⟩
          refine OweAllC.cons (owesC_val 0 (by decide +kernel) (by decide) rfl rfl fun k' a w1 x hk ha hG hV => ?_) ?_
          · skip
            have h8 := ha.outer 8 (by decide +kernel)
            simp only [Act.eval] at h8
            exact ⟨.slice (some ⟨g1, 0, none⟩) 1 c1, (wanted_of (t := 104) rfl rfl (hV.get 104 (by decide +kernel))), by simp [execOp, go_sem, h8], rfl⟩
          refine OweAllC.cons (owesC_val 0 (by decide +kernel) (by decide) rfl rfl fun k' a w1 x hk ha hG hV => ?_) ?_
          · skip
            have h105 : a.tmps.getD 105 undef = .slice (some ⟨g1, 0, none⟩) 1 c1 := hV.get 105 (by decide +kernel)
            exact ⟨.pointer (some ⟨g1, 0, none⟩), (wanted_of (t := 104) rfl rfl (hV.get 104 (by decide +kernel))), by simp [execOp, go_sem, h105], rfl⟩
          refine OweAllC.cons (owesC_val 0 (by decide +kernel) (by decide) rfl rfl fun k' a w1 x hk ha hG hV => ?_) ?_
          · skip
            have h106 : a.tmps.getD 106 undef = .pointer (some ⟨g1, 0, none⟩) := hV.get 106 (by decide +kernel)
            exact ⟨.agg C1, (wanted_of (t := 104) rfl rfl (hV.get 104 (by decide +kernel))), exec_loadC 35 (.tmp 106) rfl g1 0 h106 C1 _ (HX1.out w1 hG) Tryd.underlying35 rfl HS1.out, rfl⟩
          refine OweAllC.cons (owesC_val 0 (by decide +kernel) (by decide) rfl rfl fun k' a w1 x hk ha hG hV => ?_) ?_
          · skip
            have h11 := ha.outer 11 (by decide +kernel)
            simp only [Act.eval] at h11
            exact ⟨.agg C2, (wanted_of (t := 104) rfl rfl (hV.get 104 (by decide +kernel))), exec_load_row 33 (.tmp 11) rfl g4 h11 33 C2 (0, 0) _ (HX2.out w1 hG) Tryd.underlying33 rfl HS2.out, rfl⟩
          refine OweAllC.cons (owesC_call 0 rfl rfl rfl 12 fun a w1 x ha hG hx hV => ?_) ?_
          · skip
            have h107 : a.tmps.getD 107 undef = .agg C1 := hV.get 107 (by decide +kernel)
            have h108 : a.tmps.getD 108 undef = .agg C2 := hV.get 108 (by decide +kernel)
            refine ⟨#[.agg C1, .agg C2], (wanted_of (t := 104) rfl rfl (hV.get 104 (by decide +kernel))), by simp [execOp, resolve, invoke, go_sem, h107, h108], ?_⟩
            refine (HSM.out w1 hG).mono ?_
            rintro r w2 ⟨rfl, hb⟩
            exact ⟨_, rfl, rfl, hG.trans (hb.mono hG.size)⟩
          refine OweAllC.cons (owesC_mem 1 rfl rfl rfl fun a w1 x ha hG hx hV => ?_) ?_
          · skip
            have h104 : a.tmps.getD 104 undef = Value.bool true := hV.get 104 (by decide +kernel)
            have h109 : a.tmps.getD 109 undef = Value.bool true := hV.get 109 (by decide +kernel)
            exact ⟨Value.bool true, w1, (wanted_of (t := 93) rfl rfl (hV.get 93 (by decide +kernel))), by simp [execOp, go_sem, h104, h109], rfl, hG⟩
          refine OweAllC.cons (owesC_mem 2 rfl rfl rfl fun a w1 x ha hG hx hV => ?_) ?_
          · skip
            have h110 : a.tmps.getD 110 undef = Value.bool true := hV.get 110 (by decide +kernel)
            exact ⟨Value.bool true, w1, (wanted_of (t := 93) rfl rfl (hV.get 93 (by decide +kernel))), by simp [execOp, go_sem, h110], rfl, hG⟩
          refine OweAllC.cons (owesC_val 3 (by decide +kernel) (by decide) rfl rfl fun k' a w1 x hk ha hG hV => ?_) ?_
          · skip
            have h8 := ha.outer 8 (by decide +kernel)
            simp only [Act.eval] at h8
            exact ⟨.slice (some ⟨g1, 0, none⟩) 1 c1, (wanted_of (t := 111) rfl rfl (hV.get 111 (by decide +kernel))), by simp [execOp, go_sem, h8], rfl⟩
          refine OweAllC.cons (owesC_val 3 (by decide +kernel) (by decide) rfl rfl fun k' a w1 x hk ha hG hV => ?_) ?_
          · skip
            have h112 : a.tmps.getD 112 undef = .slice (some ⟨g1, 0, none⟩) 1 c1 := hV.get 112 (by decide +kernel)
            exact ⟨.pointer (some ⟨g1, 0, none⟩), (wanted_of (t := 111) rfl rfl (hV.get 111 (by decide +kernel))), by simp [execOp, go_sem, h112], rfl⟩
          refine OweAllC.cons (owesC_val 3 (by decide +kernel) (by decide) rfl rfl fun k' a w1 x hk ha hG hV => ?_) ?_
          · skip
            have h113 : a.tmps.getD 113 undef = .pointer (some ⟨g1, 0, none⟩) := hV.get 113 (by decide +kernel)
            exact ⟨.agg C1, (wanted_of (t := 111) rfl rfl (hV.get 111 (by decide +kernel))), exec_loadC 35 (.tmp 113) rfl g1 0 h113 C1 _ (HX1.out w1 hG) Tryd.underlying35 rfl HS1.out, rfl⟩
          refine OweAllC.cons (owesC_call 3 rfl rfl rfl 14 fun a w1 x ha hG hx hV => ?_) ?_
          · skip
            have h114 : a.tmps.getD 114 undef = .agg C1 := hV.get 114 (by decide +kernel)
            refine ⟨#[.agg C1], (wanted_of (t := 111) rfl rfl (hV.get 111 (by decide +kernel))), by simp [execOp, resolve, invoke, go_sem, h114], ?_⟩
            refine (HLN.out w1 hG).mono ?_
            rintro r w2 ⟨rfl, hb⟩
            exact ⟨_, rfl, rfl, hG.trans (hb.mono hG.size)⟩
          refine OweAllC.cons (owesC_val 4 (by decide +kernel) (by decide) rfl rfl fun k' a w1 x hk ha hG hV => ?_) ?_
          · skip
            have h3 := ha.outer 3 (by decide +kernel)
            simp only [Act.eval] at h3
            exact ⟨.string UB, (wanted_of (t := 111) rfl rfl (hV.get 111 (by decide +kernel))), by simp [execOp, go_sem, h3], rfl⟩
          refine OweAllC.cons (owesC_val 4 (by decide +kernel) (by decide) rfl rfl fun k' a w1 x hk ha hG hV => ?_) ?_
          · skip
            have h115 : a.tmps.getD 115 undef = .string UB := hV.get 115 (by decide +kernel)
            have h116 : a.tmps.getD 116 undef = .string UB := hV.get 116 (by decide +kernel)
            exact ⟨Value.bool true, (wanted_of (t := 111) rfl rfl (hV.get 111 (by decide +kernel))), by simp [execOp, go_sem, h115, h116], rfl⟩
          refine OweAllC.cons (owesC_val 4 (by decide +kernel) (by decide) rfl rfl fun k' a w1 x hk ha hG hV => ?_) ?_
          · skip
            have h111 : a.tmps.getD 111 undef = Value.bool true := hV.get 111 (by decide +kernel)
            have h117 : a.tmps.getD 117 undef = Value.bool true := hV.get 117 (by decide +kernel)
            exact ⟨Value.bool true, (wanted_of (t := 93) rfl rfl (hV.get 93 (by decide +kernel))), by simp [execOp, go_sem, h111, h117], rfl⟩
          refine OweAllC.cons (owesC_val 4 (by decide +kernel) (by decide) rfl rfl fun k' a w1 x hk ha hG hV => ?_) ?_
          · skip
            have h93 : a.tmps.getD 93 undef = Value.bool false := hV.get 93 (by decide +kernel)
            have h118 : a.tmps.getD 118 undef = Value.bool true := hV.get 118 (by decide +kernel)
            exact ⟨Value.bool true, wanted_free rfl, by simp [execOp, go_sem, h93, h118], rfl⟩
          refine OweAllC.cons (owesC_val 4 (by decide +kernel) (by decide) rfl rfl fun k' a w1 x hk ha hG hV => ?_) ?_
          · skip
            have h119 : a.tmps.getD 119 undef = Value.bool true := hV.get 119 (by decide +kernel)
            exact ⟨Value.bool true, wanted_free rfl, by simp [execOp, go_sem, h119], rfl⟩
          exact OweAllC.nil
          ) ?_
        intro f wz xz hG hx hv
        have e2 : f 2 = Value.bool true := hv 38 _ 2 rfl rfl
        first | (rename_i hK; refine hK _ _ ?_; clear hK) | (rename_i hK _; refine hK _ _ ?_; clear hK) | (rename_i hK _ _; refine hK _ _ ?_; clear hK) | (rename_i hK _ _ _; refine hK _ _ ?_; clear hK)
        clear hv hx
        simp only [dsts, puts, List.filterMap_cons, List.filterMap_nil, List.foldl_cons, List.foldl_nil, Act.put, List.setIfInBounds_toArray, List.set_cons_succ, List.set_cons_zero, e2]
        clear e2
        have hF := Lib.hid hG
        clear hG HG0 HX1 HX2 HSM HLN
        have HBZ := Lib.hid (M4.out.trans (hF.out.mono M4.out.size))
        go_wp2_with fail
        go_ret
        exact ⟨rfl, HBZ.out⟩
  · obtain rfl : i = n := by omega
    have hTf : (10 : UInt8) ∉ T := by rw [HTE.out]; exact lnX_free L _
    have hT150 : T.length ≤ 150 := by omega
    have hPM := par_line hTf
    have HP := Lib.hid (fun w => lparse_any T w (by omega))
    unfold ParP at HP
    obtain ⟨UB, hUB⟩ : ∃ B, B = ByteArray.mk T.toArray := ⟨_, rfl⟩
    have hUL : UB.toList = T := by rw [hUB, ByteArray.toList_mk]
    have hUs : UB.size = T.length := by rw [hUB]; rfl
    have MB := Lib.hid (M1.out.trans (HB.out.mono M1.out.size))
    have HTB := Lib.hid (HT1.out.old HB.out)
    have h4 : T = [] ∨ (T ≠ [] ∧ mute T = true) ∨ (mute T = false ∧ stepM T = none) ∨ (mute T = false ∧ ∃ x, stepM T = some x) := by
      by_cases h1 : T = []
      · exact .inl h1
      · cases h2 : mute T with
        | true => exact .inr (.inl ⟨h1, rfl⟩)
        | false =>
          cases h3 : stepM T with
          | none => exact .inr (.inr (.inl ⟨rfl, rfl⟩))
          | some x => exact .inr (.inr (.inr ⟨rfl, x, rfl⟩))
    clear HTE hTf hTl HB HT1
    rcases h4 with hne | ⟨hne, hmu⟩ | ⟨hmu, hst⟩ | ⟨hmu, x, hst⟩
    · -- nothing
      have hP2 : parM T = ([], 0, true) := by rw [hPM, if_pos (by rw [hne]; rfl)]
      rw [hP2, ← hUB] at HP
      rw [← hUB]
      simp only at HP
      have e0 : UB.toList.isEmpty = true := by rw [hUL, hne]; rfl
      have e1 : (UB.toList == []) = true := by rw [hUL, hne]; rfl
      clear hPM hP2 hne hUL hUB
      go_wp2_with fail
      refine (HP.out _).mono ?_
      rintro e w5 ⟨hb5, q1, c1, V1, rfl, hV1, _, _, _⟩
      obtain rfl : V1 = [] := List.map_eq_nil_iff.1 hV1
      have M5 := Lib.hid (MB.out.trans (hb5.mono MB.out.size))
      clear hb5 hV1
      go_wp2_with fail
      go_ret
      exact ⟨rfl, M5.out⟩
    · -- a remark
      have hP2 : parM T = ([], 0, true) := by rw [hPM, if_pos hmu]
      rw [hP2, ← hUB] at HP
      rw [← hUB]
      simp only at HP
      have e0 : UB.toList.isEmpty = false := by rw [hUL]; cases T <;> simp_all
      have e1 : (UB.toList == []) = false := by rw [hUL, beq_eq_false_iff_ne]; exact hne
      have hl0 : 0 < UB.size := by rw [hUs]; exact List.length_pos_iff.2 hne
      have hg0 : ((UB[0]'hl0).toNat : Int) = 35 := by
        subst hUB
        cases T with
        | nil => exact absurd rfl hne
        | cons a l => unfold mute at hmu; rw [beq_iff_eq] at hmu; subst hmu; rfl
      clear hPM hP2 hne hUL hUB hmu
      go_wp2_with fail
      refine (HP.out _).mono ?_
      rintro e w5 ⟨hb5, q1, c1, V1, rfl, hV1, _, _, _⟩
      obtain rfl : V1 = [] := List.map_eq_nil_iff.1 hV1
      have M5 := Lib.hid (MB.out.trans (hb5.mono MB.out.size))
      clear hb5 hV1
      go_wp2_with fail
      go_ret
      exact ⟨rfl, M5.out⟩
    · -- no step
      have hP2 : parM T = ([], 1, false) := by rw [hPM, if_neg (by rw [hmu]; decide), hst]
      have HO := Lib.hid (fun w => rlone_any T w (by omega))
      unfold StepP at HO
      rw [hst, ← hUB] at HO
      rw [hP2, ← hUB] at HP
      rw [← hUB]
      simp only at HP
      have hne : T ≠ [] := fun e => by rw [e] at hmu; cases hmu
      have e0 : UB.toList.isEmpty = false := by rw [hUL]; cases T <;> simp_all
      have e1 : (UB.toList == []) = false := by rw [hUL, beq_eq_false_iff_ne]; exact hne
      have hl0 : 0 < UB.size := by rw [hUs]; exact List.length_pos_iff.2 hne
      obtain ⟨v, hv⟩ : ∃ v, v = (T[0]'(List.length_pos_iff.2 hne)).toNat := ⟨_, rfl⟩
      have hg0 : ((UB[0]'hl0).toNat : Int) = v := by subst hUB; rw [hv]; rfl
      have hv35 : ((v : Int) == 35) = false := by
        rw [beq_eq_false_iff_ne]; intro e
        cases T with
        | nil => exact absurd rfl hne
        | cons a l =>
          unfold mute at hmu
          rw [beq_eq_false_iff_ne] at hmu
          exact hmu (UInt8.toNat_inj.1 (by show a.toNat = 35; have : v = a.toNat := hv; omega))
      clear hPM hP2 hne hUL hUB hmu hst hv
      go_wp2_with fail
      refine (HP.out _).mono ?_
      rintro e w5 ⟨hb5, q1, c1, V1, rfl, hV1, _, _, _⟩
      obtain rfl : V1 = [] := List.map_eq_nil_iff.1 hV1
      have M5 := Lib.hid (MB.out.trans (hb5.mono MB.out.size))
      clear hb5 hV1
      go_wp2_with fail
      refine (HO.out _).mono ?_
      rintro r W3 ⟨hb3, na, nc, ia, ic, rfl, _, _, _, _⟩
      have M3 := Lib.hid (M5.out.trans (hb3.mono M5.out.size))
      obtain ⟨C2, hC2⟩ : ∃ C, C = stC ((none : Option St).getD zSt) na nc ia ic := ⟨_, rfl⟩
      have HC1 : Hid (∀ v ∈ C2.toList, v.oneCell' = true) := Lib.hid (by rw [hC2]; exact stC_one)
      have HS2 : Hid ((Tryd.prog.info? 33).map (·.size) = some C2.size) := Lib.hid (by rw [hC2]; exact rl_size _ _ _ _ _)
      have HCZ : Hid (4 = C2.size) := Lib.hid (by rw [hC2]; rfl)
      rw [← hC2]
      clear hb3 hC2 HO HP
      simp only [Option.isSome_none]
      go_upto_region 21 with (first
        | (refine wpList_store_row rfl rfl 33 (.tmp 11) (.tmp 77) rfl W3.heap.size rfl 33 _ C2 rfl (heap_alloc_new W3 _) HCZ.out HS2.out HC1.out ?_
           refine wpList_gen (fun W4 => W4.heap[W3.heap.size]? = some (.cells C2 33 (0, 0)) ∧ Below W3.heap.size W3 W4) (lnew_row W3 _ _ C2 33 rfl) (fun W4 hW4 => ?_)
           obtain ⟨hr4, hb4⟩ := hW4
           have M4 := Lib.hid (M3.out.trans (hb4.mono M3.out.size))
           clear hr4 hb4))
      go_upto_region 23 with fail
      go_quiet (fail)
      go_wp2_with fail
      go_ret
      exact ⟨rfl, below_dN M4.out _⟩
    · -- a step
      have hP2 : parM T = ([x], 0, true) := by rw [hPM, if_neg (by rw [hmu]; decide), hst]
      have HO := Lib.hid (fun w => rlone_any T w (by omega))
      unfold StepP at HO
      rw [hst, ← hUB] at HO
      rw [hP2, ← hUB] at HP
      rw [← hUB]
      simp only [Option.getD_some, Option.isSome_some] at HP HO
      have hne : T ≠ [] := fun e => by rw [e] at hmu; cases hmu
      have e0 : UB.toList.isEmpty = false := by rw [hUL]; cases T <;> simp_all
      have e1 : (UB.toList == []) = false := by rw [hUL, beq_eq_false_iff_ne]; exact hne
      have hl0 : 0 < UB.size := by rw [hUs]; exact List.length_pos_iff.2 hne
      obtain ⟨v, hv⟩ : ∃ v, v = (T[0]'(List.length_pos_iff.2 hne)).toNat := ⟨_, rfl⟩
      have hg0 : ((UB[0]'hl0).toNat : Int) = v := by subst hUB; rw [hv]; rfl
      have hv35 : ((v : Int) == 35) = false := by
        rw [beq_eq_false_iff_ne]; intro e
        cases T with
        | nil => exact absurd rfl hne
        | cons a l =>
          unfold mute at hmu
          rw [beq_eq_false_iff_ne] at hmu
          exact hmu (UInt8.toNat_inj.1 (by show a.toNat = 35; have : v = a.toNat := hv; omega))
      have hbk := line_back hst
      have hsz := step_len hst
      have hsm := step_small hst
      have HTB2 := HTB
      have HUB2 : Hid (UB = ⟨(lineM x).toArray⟩) := Lib.hid (by rw [hbk, hUB])
      have HLL : Hid ((lineM x).length ≤ 100000000 ∧ x.names.length ≤ 1000000 ∧ x.nums.length ≤ 1000000 ∧ ∀ n ∈ x.nums, n ≤ 9223372036854775807) := Lib.hid ⟨by rw [hbk]; omega, by omega, by omega, fun n hn => by have := hsm n hn; omega⟩
      clear hPM hP2 hne hUL hUB hmu hst hv hbk hsz hsm
      go_wp2_with fail
      refine (HP.out _).mono ?_
      rintro e w5 ⟨hb5, q1, c1, V1, rfl, hV1, hR1, _, hok1⟩
      obtain ⟨v1, rfl, hv1⟩ : ∃ v1, V1 = [v1] ∧ v1.st = x := by
        match V1, hV1 with
        | [a], h => exact ⟨a, rfl, by simpa using h⟩
      have hk1 := hok1 v1 List.mem_cons_self
      have M5 := Lib.hid (MB.out.trans (hb5.mono MB.out.size))
      have HR1 := Lib.hid hR1
      have HK1 := Lib.hid hk1
      have HV1 := Lib.hid hv1
      have HTB5 := Lib.hid (HTB.out.old hb5)
      clear hb5 hV1 hok1 hR1 hk1 hv1
      simp only [List.length_singleton]
      obtain ⟨g1, rfl, _⟩ := shape_ne HR1.out (by simp)
      go_wp2_with fail
      refine (HO.out _).mono ?_
      rintro r W3 ⟨hb3, na, nc, ia, ic, rfl, hrn, hri, _, _⟩
      have M3 := Lib.hid (M5.out.trans (hb3.mono M5.out.size))
      have HRN := Lib.hid hrn
      have HRI := Lib.hid hri
      have HR13 := Lib.hid (HR1.out.old hb3)
      have HK13 := Lib.hid (HK1.out.old hb3)
      have HTB3 := Lib.hid (HTB5.out.old hb3)
      obtain ⟨C2, hC2⟩ : ∃ C, C = stC x na nc ia ic := ⟨_, rfl⟩
      obtain ⟨C1, hC1⟩ : ∃ C, C = v1.c := ⟨_, rfl⟩
      have HC1 : Hid (∀ v ∈ C2.toList, v.oneCell' = true) := Lib.hid (by rw [hC2]; exact stC_one)
      have HS1 : Hid ((Tryd.prog.info? 35).map (·.size) = some C1.size) := Lib.hid (by rw [hC1]; exact ln_size _ _ _ _ _)
      have HS2 : Hid ((Tryd.prog.info? 33).map (·.size) = some C2.size) := Lib.hid (by rw [hC2]; exact rl_size _ _ _ _ _)
      have HCZ : Hid (4 = C2.size) := Lib.hid (by rw [hC2]; rfl)
      have HX10 : Hid (∀ k u, C1.toList[k]? = some u → W3.cell? ⟨g1, 0 + k, none⟩ = some u) := Lib.hid (by
        have := cellsV (i := 0) HR13.out (by simp)
        rw [hC1]; simpa using this)
      have HG1 : Hid (g1 < W3.heap.size) := Lib.hid HR13.out.lt
      have HSM0 : Hid (∀ w1, Below W3.heap.size W3 w1 → Calls Tryd.prog 12 #[.agg C1, .agg C2] w1 fun e w' => e = .returned (.bool true) ∧ Below w1.heap.size w1 w') := Lib.hid (fun w1 hb => by
        have z1 := HK13.out.old hb
        have r1 := z1.rn
        have r2 := z1.ri
        rw [HV1.out] at r1 r2
        have := lsame_any x v1.na v1.nc v1.ia v1.ic na nc ia ic w1 r1 r2 (HRN.out.old hb) (HRI.out.old hb) (by have := HLL.out.2.1; omega) (by have := HLL.out.2.2.1; omega)
        rw [hC1, hC2]
        show Calls _ _ #[.agg (stC v1.st _ _ _ _), .agg (stC x _ _ _ _)] _ _
        rw [HV1.out]; exact this)
      have HLN0 : Hid (∀ w1, Below W3.heap.size W3 w1 → Calls Tryd.prog 14 #[.agg C1] w1 fun e w' => e = .returned (.string UB) ∧ Below w1.heap.size w1 w') := Lib.hid (fun w1 hb => by
        have z1 := HK13.out.old hb
        have r1 := z1.rn
        have r2 := z1.ri
        rw [HV1.out] at r1 r2
        have := lline_any x v1.na v1.nc v1.ia v1.ic w1 r1 r2 HLL.out.2.1 HLL.out.2.2.1 HLL.out.2.2.2 HLL.out.1 (HTB3.out.old hb)
        rw [hC1, HUB2.out]
        show Calls _ _ #[.agg (stC v1.st _ _ _ _)] _ _
        rw [HV1.out]; exact this)
      rw [← hC2]
      clear hb3 hC2 hC1 HO HP hrn hri
      obtain ⟨g4, hg4⟩ : ∃ g, g = W3.heap.size := ⟨_, rfl⟩
      have HG4 := Lib.hid hg4
      clear hg4
      go_upto_region 23 with (first
        | (refine wpList_store_row rfl rfl 33 (.tmp 11) (.tmp 77) rfl W3.heap.size rfl 33 _ C2 rfl (heap_alloc_new W3 _) HCZ.out HS2.out HC1.out ?_
           refine wpList_gen (fun W4 => W4.heap[W3.heap.size]? = some (.cells C2 33 (0, 0)) ∧ Below W3.heap.size W3 W4) (lnew_row W3 _ _ C2 33 rfl) (fun W4 hW4 => ?_)
           obtain ⟨hr4, hb4⟩ := hW4
           have HR4 := Lib.hid hr4
           have HB4 := Lib.hid hb4
           clear hr4 hb4))
      rw [← HG4.out]
      have HX1 : Hid (∀ w1, Below W4.heap.size W4 w1 → ∀ k u, C1.toList[k]? = some u → w1.cell? ⟨g1, 0 + k, none⟩ = some u) := Lib.hid (fun w1 hb k u hu => (World.cell?_of_block ((HB4.out.trans (hb.mono HB4.out.size)).block g1 HG1.out)).trans (HX10.out k u hu))
      have HX2 : Hid (∀ w1, Below W4.heap.size W4 w1 → w1.heap[g4]? = some (.cells C2 33 (0, 0))) := Lib.hid (fun w1 hb => by rw [HG4.out]; exact (hb.block _ (Array.getElem?_eq_some_iff.1 HR4.out).1).trans HR4.out)
      have HSM : Hid (∀ w1, Below W4.heap.size W4 w1 → Calls Tryd.prog 12 #[.agg C1, .agg C2] w1 fun e w' => e = .returned (.bool true) ∧ Below w1.heap.size w1 w') := Lib.hid (fun w1 hb => HSM0.out w1 (HB4.out.trans (hb.mono HB4.out.size)))
      have HLN : Hid (∀ w1, Below W4.heap.size W4 w1 → Calls Tryd.prog 14 #[.agg C1] w1 fun e w' => e = .returned (.string UB) ∧ Below w1.heap.size w1 w') := Lib.hid (fun w1 hb => HLN0.out w1 (HB4.out.trans (hb.mono HB4.out.size)))
      have HG0 : Hid ((fun (j : Nat) (v : Value) (w1 : World) => Below W4.heap.size W4 w1) 0 undef W4.drew) := Lib.hid (Below.refl _ _).drew
      have M4 := Lib.hid (M3.out.trans (HB4.out.mono M3.out.size))
      clear HX10 HSM0 HLN0
      refine wp_region_chain2 (fun t v => match t with
        | 82 => v = Value.bool true
        | 83 => v = Value.bool false
        | 84 => v = Value.bool false
        | 85 => v = undef
        | 86 => v = undef
        | 87 => v = Value.bool false
        | 88 => v = Value.bool false
        | 89 => v = undef
        | 90 => v = undef
        | 91 => v = undef
        | 92 => v = Value.bool false
        | 93 => v = Value.bool false
        | 94 => v = Value.bool true
        | 95 => v = Value.bool true
        | 96 => v = .int .i64 0
        | 97 => v = Value.bool true
        | 98 => v = Value.bool true
        | 99 => v = Value.bool true
        | 100 => v = .slice (some ⟨g1, 0, none⟩) 1 c1
        | 101 => v = .int .i64 1
        | 102 => v = Value.bool true
        | 103 => v = Value.bool true
        | 104 => v = Value.bool true
        | 105 => v = .slice (some ⟨g1, 0, none⟩) 1 c1
        | 106 => v = .pointer (some ⟨g1, 0, none⟩)
        | 107 => v = .agg C1
        | 108 => v = .agg C2
        | 109 => v = Value.bool true
        | 110 => v = Value.bool true
        | 111 => v = Value.bool true
        | 112 => v = .slice (some ⟨g1, 0, none⟩) 1 c1
        | 113 => v = .pointer (some ⟨g1, 0, none⟩)
        | 114 => v = .agg C1
        | 115 => v = .string UB
        | 116 => v = .string UB
        | 117 => v = Value.bool true
        | 118 => v = Value.bool true
        | 119 => v = Value.bool true
        | 2 => v = Value.bool true
        | _ => True) (fun (j : Nat) (v : Value) (w1 : World) => Below W4.heap.size W4 w1) [27, 28, 29, 33] 120 (by kernel_rfl) (by decide +kernel) rfl (by decide +kernel) (by decide) (by decide) HG0.out (by
        refine OweAllC.cons (owesC_val 4 (by decide +kernel) (by decide) rfl rfl fun k' a w1 x hk ha hG hV => ?_) ?_
        · skip
          have h10 := ha.outer 10 (by decide +kernel)
          simp only [Act.eval] at h10
          exact ⟨Value.bool true, wanted_free rfl, by simp [execOp, go_sem, h10], rfl⟩
        refine OweAllC.cons (owesC_val 4 (by decide +kernel) (by decide) rfl rfl fun k' a w1 x hk ha hG hV => ?_) ?_
        · skip
          have h82 : a.tmps.getD 82 undef = Value.bool true := hV.get 82 (by decide +kernel)
          exact ⟨Value.bool false, wanted_free rfl, by simp [execOp, go_sem, h82], rfl⟩
        refine OweAllC.cons (owesC_val 4 (by decide +kernel) (by decide) rfl rfl fun k' a w1 x hk ha hG hV => ?_) ?_
        · skip
          have h83 : a.tmps.getD 83 undef = Value.bool false := hV.get 83 (by decide +kernel)
          exact ⟨Value.bool false, wanted_free rfl, by simp [execOp, go_sem, h83], rfl⟩
        refine OweAllC.cons (owesC_not 4 (by decide +kernel) (by decide) rfl rfl fun k' a w1 x hk ha hG hV => ⟨not_wanted (t := 84) rfl rfl (hV.get 84 (by decide +kernel)) (by first | simp; done | (intro h; cases h)), rfl⟩) ?_
        refine OweAllC.cons (owesC_not 4 (by decide +kernel) (by decide) rfl rfl fun k' a w1 x hk ha hG hV => ⟨not_wanted (t := 84) rfl rfl (hV.get 84 (by decide +kernel)) (by first | simp; done | (intro h; cases h)), rfl⟩) ?_
        refine OweAllC.cons (owesC_val 4 (by decide +kernel) (by decide) rfl rfl fun k' a w1 x hk ha hG hV => ?_) ?_
        · skip
          have h84 : a.tmps.getD 84 undef = Value.bool false := hV.get 84 (by decide +kernel)
          exact ⟨Value.bool false, wanted_free rfl, by simp [execOp, go_sem, h84], rfl⟩
        refine OweAllC.cons (owesC_val 4 (by decide +kernel) (by decide) rfl rfl fun k' a w1 x hk ha hG hV => ?_) ?_
        · skip
          have h87 : a.tmps.getD 87 undef = Value.bool false := hV.get 87 (by decide +kernel)
          exact ⟨Value.bool false, wanted_free rfl, by simp [execOp, go_sem, h87], rfl⟩
        refine OweAllC.cons (owesC_not 4 (by decide +kernel) (by decide) rfl rfl fun k' a w1 x hk ha hG hV => ⟨not_wanted (t := 88) rfl rfl (hV.get 88 (by decide +kernel)) (by first | simp; done | (intro h; cases h)), rfl⟩) ?_
        refine OweAllC.cons (owesC_not 4 (by decide +kernel) (by decide) rfl rfl fun k' a w1 x hk ha hG hV => ⟨not_wanted (t := 88) rfl rfl (hV.get 88 (by decide +kernel)) (by first | simp; done | (intro h; cases h)), rfl⟩) ?_
        refine OweAllC.cons (owesC_not 4 (by decide +kernel) (by decide) rfl rfl fun k' a w1 x hk ha hG hV => ⟨not_wanted (t := 88) rfl rfl (hV.get 88 (by decide +kernel)) (by first | simp; done | (intro h; cases h)), rfl⟩) ?_
        refine OweAllC.cons (owesC_val 4 (by decide +kernel) (by decide) rfl rfl fun k' a w1 x hk ha hG hV => ?_) ?_
        · skip
          have h88 : a.tmps.getD 88 undef = Value.bool false := hV.get 88 (by decide +kernel)
          exact ⟨Value.bool false, wanted_free rfl, by simp [execOp, go_sem, h88], rfl⟩
        refine OweAllC.cons (owesC_val 4 (by decide +kernel) (by decide) rfl rfl fun k' a w1 x hk ha hG hV => ?_) ?_
        · skip
          have h92 : a.tmps.getD 92 undef = Value.bool false := hV.get 92 (by decide +kernel)
          exact ⟨Value.bool false, wanted_free rfl, by simp [execOp, go_sem, h92], rfl⟩
        refine OweAllC.cons (owesC_val 1 (by decide +kernel) (by decide) rfl rfl fun k' a w1 x hk ha hG hV => ?_) ?_
        · skip
          have h10 := ha.outer 10 (by decide +kernel)
          simp only [Act.eval] at h10
          exact ⟨Value.bool true, (wanted_of (t := 93) rfl rfl (hV.get 93 (by decide +kernel))), by simp [execOp, go_sem, h10], rfl⟩
        refine OweAllC.cons (owesC_val 1 (by decide +kernel) (by decide) rfl rfl fun k' a w1 x hk ha hG hV => ?_) ?_
        · skip
          have h94 : a.tmps.getD 94 undef = Value.bool true := hV.get 94 (by decide +kernel)
          exact ⟨Value.bool true, (wanted_of (t := 93) rfl rfl (hV.get 93 (by decide +kernel))), by simp [execOp, go_sem, h94], rfl⟩
        refine OweAllC.cons (owesC_val 1 (by decide +kernel) (by decide) rfl rfl fun k' a w1 x hk ha hG hV => ?_) ?_
        · skip
          have h9 := ha.outer 9 (by decide +kernel)
          simp only [Act.eval] at h9
          exact ⟨.int .i64 0, (wanted_of (t := 95) rfl rfl (hV.get 95 (by decide +kernel))), by simp [execOp, go_sem, h9], rfl⟩
        refine OweAllC.cons (owesC_val 1 (by decide +kernel) (by decide) rfl rfl fun k' a w1 x hk ha hG hV => ?_) ?_
        · skip
          have h96 : a.tmps.getD 96 undef = .int .i64 0 := hV.get 96 (by decide +kernel)
          exact ⟨Value.bool true, (wanted_of (t := 95) rfl rfl (hV.get 95 (by decide +kernel))), by simp [execOp, go_sem, h96], rfl⟩
        refine OweAllC.cons (owesC_val 1 (by decide +kernel) (by decide) rfl rfl fun k' a w1 x hk ha hG hV => ?_) ?_
        · skip
          have h95 : a.tmps.getD 95 undef = Value.bool true := hV.get 95 (by decide +kernel)
          have h97 : a.tmps.getD 97 undef = Value.bool true := hV.get 97 (by decide +kernel)
          exact ⟨Value.bool true, (wanted_of (t := 93) rfl rfl (hV.get 93 (by decide +kernel))), by simp [execOp, go_sem, h95, h97], rfl⟩
        refine OweAllC.cons (owesC_val 1 (by decide +kernel) (by decide) rfl rfl fun k' a w1 x hk ha hG hV => ?_) ?_
        · skip
          have h98 : a.tmps.getD 98 undef = Value.bool true := hV.get 98 (by decide +kernel)
          exact ⟨Value.bool true, (wanted_of (t := 93) rfl rfl (hV.get 93 (by decide +kernel))), by simp [execOp, go_sem, h98], rfl⟩
        refine OweAllC.cons (owesC_val 1 (by decide +kernel) (by decide) rfl rfl fun k' a w1 x hk ha hG hV => ?_) ?_
        · skip
          have h8 := ha.outer 8 (by decide +kernel)
          simp only [Act.eval] at h8
          exact ⟨.slice (some ⟨g1, 0, none⟩) 1 c1, (wanted_of (t := 99) rfl rfl (hV.get 99 (by decide +kernel))), by simp [execOp, go_sem, h8], rfl⟩
        refine OweAllC.cons (owesC_val 1 (by decide +kernel) (by decide) rfl rfl fun k' a w1 x hk ha hG hV => ?_) ?_
        · skip
          have h100 : a.tmps.getD 100 undef = .slice (some ⟨g1, 0, none⟩) 1 c1 := hV.get 100 (by decide +kernel)
          exact ⟨.int .i64 1, (wanted_of (t := 99) rfl rfl (hV.get 99 (by decide +kernel))), by simp [execOp, go_sem, h100], rfl⟩
        refine OweAllC.cons (owesC_val 1 (by decide +kernel) (by decide) rfl rfl fun k' a w1 x hk ha hG hV => ?_) ?_
        · skip
          have h101 : a.tmps.getD 101 undef = .int .i64 1 := hV.get 101 (by decide +kernel)
          exact ⟨Value.bool true, (wanted_of (t := 99) rfl rfl (hV.get 99 (by decide +kernel))), by simp [execOp, go_sem, h101], rfl⟩
        refine OweAllC.cons (owesC_val 1 (by decide +kernel) (by decide) rfl rfl fun k' a w1 x hk ha hG hV => ?_) ?_
        · skip
          have h99 : a.tmps.getD 99 undef = Value.bool true := hV.get 99 (by decide +kernel)
          have h102 : a.tmps.getD 102 undef = Value.bool true := hV.get 102 (by decide +kernel)
          exact ⟨Value.bool true, (wanted_of (t := 93) rfl rfl (hV.get 93 (by decide +kernel))), by simp [execOp, go_sem, h99, h102], rfl⟩
        refine OweAllC.cons (owesC_val 1 (by decide +kernel) (by decide) rfl rfl fun k' a w1 x hk ha hG hV => ?_) ?_
        · skip
          have h103 : a.tmps.getD 103 undef = Value.bool true := hV.get 103 (by decide +kernel)
          exact ⟨Value.bool true, (wanted_of (t := 93) rfl rfl (hV.get 93 (by decide +kernel))), by simp [execOp, go_sem, h103], rfl⟩
        refine OweAllC.cons (owesC_val 0 (by decide +kernel) (by decide) rfl rfl fun k' a w1 x hk ha hG hV => ?_) ?_
        · skip
          have h8 := ha.outer 8 (by decide +kernel)
          simp only [Act.eval] at h8
          exact ⟨.slice (some ⟨g1, 0, none⟩) 1 c1, (wanted_of (t := 104) rfl rfl (hV.get 104 (by decide +kernel))), by simp [execOp, go_sem, h8], rfl⟩
        refine OweAllC.cons (owesC_val 0 (by decide +kernel) (by decide) rfl rfl fun k' a w1 x hk ha hG hV => ?_) ?_
        · skip
          have h105 : a.tmps.getD 105 undef = .slice (some ⟨g1, 0, none⟩) 1 c1 := hV.get 105 (by decide +kernel)
          exact ⟨.pointer (some ⟨g1, 0, none⟩), (wanted_of (t := 104) rfl rfl (hV.get 104 (by decide +kernel))), by simp [execOp, go_sem, h105], rfl⟩
        refine OweAllC.cons (owesC_val 0 (by decide +kernel) (by decide) rfl rfl fun k' a w1 x hk ha hG hV => ?_) ?_
        · skip
          have h106 : a.tmps.getD 106 undef = .pointer (some ⟨g1, 0, none⟩) := hV.get 106 (by decide +kernel)
          exact ⟨.agg C1, (wanted_of (t := 104) rfl rfl (hV.get 104 (by decide +kernel))), exec_loadC 35 (.tmp 106) rfl g1 0 h106 C1 _ (HX1.out w1 hG) Tryd.underlying35 rfl HS1.out, rfl⟩
        refine OweAllC.cons (owesC_val 0 (by decide +kernel) (by decide) rfl rfl fun k' a w1 x hk ha hG hV => ?_) ?_
        · skip
          have h11 := ha.outer 11 (by decide +kernel)
          simp only [Act.eval] at h11
          exact ⟨.agg C2, (wanted_of (t := 104) rfl rfl (hV.get 104 (by decide +kernel))), exec_load_row 33 (.tmp 11) rfl g4 h11 33 C2 (0, 0) _ (HX2.out w1 hG) Tryd.underlying33 rfl HS2.out, rfl⟩
        refine OweAllC.cons (owesC_call 0 rfl rfl rfl 12 fun a w1 x ha hG hx hV => ?_) ?_
        · skip
          have h107 : a.tmps.getD 107 undef = .agg C1 := hV.get 107 (by decide +kernel)
          have h108 : a.tmps.getD 108 undef = .agg C2 := hV.get 108 (by decide +kernel)
          refine ⟨#[.agg C1, .agg C2], (wanted_of (t := 104) rfl rfl (hV.get 104 (by decide +kernel))), by simp [execOp, resolve, invoke, go_sem, h107, h108], ?_⟩
          refine (HSM.out w1 hG).mono ?_
          rintro r w2 ⟨rfl, hb⟩
          exact ⟨_, rfl, rfl, hG.trans (hb.mono hG.size)⟩
        refine OweAllC.cons (owesC_mem 1 rfl rfl rfl fun a w1 x ha hG hx hV => ?_) ?_
        · skip
          have h104 : a.tmps.getD 104 undef = Value.bool true := hV.get 104 (by decide +kernel)
          have h109 : a.tmps.getD 109 undef = Value.bool true := hV.get 109 (by decide +kernel)
          exact ⟨Value.bool true, w1, (wanted_of (t := 93) rfl rfl (hV.get 93 (by decide +kernel))), by simp [execOp, go_sem, h104, h109], rfl, hG⟩
        refine OweAllC.cons (owesC_mem 2 rfl rfl rfl fun a w1 x ha hG hx hV => ?_) ?_
        · skip
          have h110 : a.tmps.getD 110 undef = Value.bool true := hV.get 110 (by decide +kernel)
          exact ⟨Value.bool true, w1, (wanted_of (t := 93) rfl rfl (hV.get 93 (by decide +kernel))), by simp [execOp, go_sem, h110], rfl, hG⟩
        refine OweAllC.cons (owesC_val 3 (by decide +kernel) (by decide) rfl rfl fun k' a w1 x hk ha hG hV => ?_) ?_
        · skip
          have h8 := ha.outer 8 (by decide +kernel)
          simp only [Act.eval] at h8
          exact ⟨.slice (some ⟨g1, 0, none⟩) 1 c1, (wanted_of (t := 111) rfl rfl (hV.get 111 (by decide +kernel))), by simp [execOp, go_sem, h8], rfl⟩
        refine OweAllC.cons (owesC_val 3 (by decide +kernel) (by decide) rfl rfl fun k' a w1 x hk ha hG hV => ?_) ?_
        · skip
          have h112 : a.tmps.getD 112 undef = .slice (some ⟨g1, 0, none⟩) 1 c1 := hV.get 112 (by decide +kernel)
          exact ⟨.pointer (some ⟨g1, 0, none⟩), (wanted_of (t := 111) rfl rfl (hV.get 111 (by decide +kernel))), by simp [execOp, go_sem, h112], rfl⟩
        refine OweAllC.cons (owesC_val 3 (by decide +kernel) (by decide) rfl rfl fun k' a w1 x hk ha hG hV => ?_) ?_
        · skip
          have h113 : a.tmps.getD 113 undef = .pointer (some ⟨g1, 0, none⟩) := hV.get 113 (by decide +kernel)
          exact ⟨.agg C1, (wanted_of (t := 111) rfl rfl (hV.get 111 (by decide +kernel))), exec_loadC 35 (.tmp 113) rfl g1 0 h113 C1 _ (HX1.out w1 hG) Tryd.underlying35 rfl HS1.out, rfl⟩
        refine OweAllC.cons (owesC_call 3 rfl rfl rfl 14 fun a w1 x ha hG hx hV => ?_) ?_
        · skip
          have h114 : a.tmps.getD 114 undef = .agg C1 := hV.get 114 (by decide +kernel)
          refine ⟨#[.agg C1], (wanted_of (t := 111) rfl rfl (hV.get 111 (by decide +kernel))), by simp [execOp, resolve, invoke, go_sem, h114], ?_⟩
          refine (HLN.out w1 hG).mono ?_
          rintro r w2 ⟨rfl, hb⟩
          exact ⟨_, rfl, rfl, hG.trans (hb.mono hG.size)⟩
        refine OweAllC.cons (owesC_val 4 (by decide +kernel) (by decide) rfl rfl fun k' a w1 x hk ha hG hV => ?_) ?_
        · skip
          have h3 := ha.outer 3 (by decide +kernel)
          simp only [Act.eval] at h3
          exact ⟨.string UB, (wanted_of (t := 111) rfl rfl (hV.get 111 (by decide +kernel))), by simp [execOp, go_sem, h3], rfl⟩
        refine OweAllC.cons (owesC_val 4 (by decide +kernel) (by decide) rfl rfl fun k' a w1 x hk ha hG hV => ?_) ?_
        · skip
          have h115 : a.tmps.getD 115 undef = .string UB := hV.get 115 (by decide +kernel)
          have h116 : a.tmps.getD 116 undef = .string UB := hV.get 116 (by decide +kernel)
          exact ⟨Value.bool true, (wanted_of (t := 111) rfl rfl (hV.get 111 (by decide +kernel))), by simp [execOp, go_sem, h115, h116], rfl⟩
        refine OweAllC.cons (owesC_val 4 (by decide +kernel) (by decide) rfl rfl fun k' a w1 x hk ha hG hV => ?_) ?_
        · skip
          have h111 : a.tmps.getD 111 undef = Value.bool true := hV.get 111 (by decide +kernel)
          have h117 : a.tmps.getD 117 undef = Value.bool true := hV.get 117 (by decide +kernel)
          exact ⟨Value.bool true, (wanted_of (t := 93) rfl rfl (hV.get 93 (by decide +kernel))), by simp [execOp, go_sem, h111, h117], rfl⟩
        refine OweAllC.cons (owesC_val 4 (by decide +kernel) (by decide) rfl rfl fun k' a w1 x hk ha hG hV => ?_) ?_
        · skip
          have h93 : a.tmps.getD 93 undef = Value.bool false := hV.get 93 (by decide +kernel)
          have h118 : a.tmps.getD 118 undef = Value.bool true := hV.get 118 (by decide +kernel)
          exact ⟨Value.bool true, wanted_free rfl, by simp [execOp, go_sem, h93, h118], rfl⟩
        refine OweAllC.cons (owesC_val 4 (by decide +kernel) (by decide) rfl rfl fun k' a w1 x hk ha hG hV => ?_) ?_
        · skip
          have h119 : a.tmps.getD 119 undef = Value.bool true := hV.get 119 (by decide +kernel)
          exact ⟨Value.bool true, wanted_free rfl, by simp [execOp, go_sem, h119], rfl⟩
        exact OweAllC.nil
        ) ?_
      intro f wz xz hG hx hv
      have e2 : f 2 = Value.bool true := hv 38 _ 2 rfl rfl
      first | (rename_i hK; refine hK _ _ ?_; clear hK) | (rename_i hK _; refine hK _ _ ?_; clear hK) | (rename_i hK _ _; refine hK _ _ ?_; clear hK) | (rename_i hK _ _ _; refine hK _ _ ?_; clear hK)
      clear hv hx
      simp only [dsts, puts, List.filterMap_cons, List.filterMap_nil, List.foldl_cons, List.foldl_nil, Act.put, List.setIfInBounds_toArray, List.set_cons_succ, List.set_cons_zero, e2]
      clear e2
      have hF := Lib.hid hG
      clear hG HG0 HX1 HX2 HSM HLN
      have HBZ := Lib.hid (M4.out.trans (hF.out.mono M4.out.size))
      go_wp2_with fail
      go_ret
      exact ⟨rfl, HBZ.out⟩
end Go.Proofs.YtpdhmjmklmoknaaDoor
