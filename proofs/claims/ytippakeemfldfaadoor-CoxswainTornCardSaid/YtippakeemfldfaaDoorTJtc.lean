/- CoxswainTorn: its walk. -/
import Derived.Test.YtippakeemfldfaaDoorV10
namespace Go.Proofs.YtippakeemfldfaaDoor
open Go.RowKit

set_option maxRecDepth 20000 in
set_option maxHeartbeats 4000000 in
theorem coxswainTorn_any (o : Option Addr) (cap : Nat) (L : List (List UInt8)) (z0 : List UInt8) (rw_ : Bool) (W : World) (hR : Rd encS W o L) (hz : ∀ s ∈ L, (s.length : Int) ≤ 9223372036854775807) (hn : L.length ≤ 9223372036854775807) (hz0 : (z0.length : Int) ≤ 9223372036854775807) (hT : TabAt W) :
    Calls Tryd.prog 5 #[.slice o L.length cap, .string ⟨z0.toArray⟩, .bool rw_] W fun e w' => e = .returned (.bool true) ∧ Below W.heap.size W w' := by
  have HNW := Lib.hid (fun w => Dk.new 16384 16384 16384 w (by decide) (by decide))
  have HT := Lib.hid hT
  have HRD := Lib.hid hR
  have HZ := Lib.hid hz
  have hL : (L.length : Int) ≤ 9223372036854775807 := by omega
  clear hT hR hz
  go_enter Tryd.func5, Tryd.ntmps5
  go_wp2_with fail
  refine (HNW.out W).mono ?_
  rintro e w2 ⟨d, rfl, hD⟩
  have g0 : Gd (JS 16384 0 [] false) 0 := Gd.new 16384 (by decide) (by decide)
  have HO := Lib.hid (Dk.jopen (S := JS 16384 0 [] false) hD g0 (by decide) HT.out [] _ (JS.opn (fun _ => rfl) (fun x hx => by cases hx)))
  have HG0 := Lib.hid g0
  clear hD HNW g0
  go_wp2_with fail
  refine HO.out.mono ?_
  rintro e w3 ⟨j, q, c, rfl, hJ, _, _, _⟩
  have H0 : Hid (TnR W w3 d j none 0 0 0) := Lib.hid ⟨0, [], false, JD.none hJ, fun _ => rfl, rfl, Nat.zero_le _, (fun s hs => by cases hs), HG0.out⟩
  clear hJ HO HG0
  simp only [List.length_nil]
  go_upto_block 0 with fail
  go_cut [11] from 12 to 65 (fun s11 wx => ∃ (n : Nat) (p : Option Addr) (c : Nat), s11 = .slice p n c ∧ Hid (TnR W wx d j p c n 4))
  case rest =>
    obtain ⟨n, p, c, rfl, HC⟩ := hcut
    clear H0
    obtain ⟨y, hy⟩ : ∃ y, y = z0.take 20 := ⟨_, rfl⟩
    have hy20 : y.length ≤ 20 := by rw [hy, List.length_take]; omega
    have hyx : (⟨z0.toArray⟩ : ByteArray).extract 0 20 = ⟨y.toArray⟩ := by apply ByteArray.ext; simp [hy]
    have hyw : ¬ (20 : Int) < z0.length → y = z0 := fun h => by rw [hy, List.take_of_length_le (by omega)]
    have HYW := Lib.hid hyw
    clear hy hyw
    go_upto_if 68 with fail
    go_cut [1] from 69 to 165 (fun s1 wx => s1 = .string ⟨y.toArray⟩ ∧ Hid (wc = wx))
    case first =>
      by_cases h20 : (20 : Int) < z0.length
      · clear HYW
        go_wp2_with fail
        go_meet
        exact ⟨rfl, Lib.hid rfl⟩
      · obtain rfl := HYW.out h20
        clear HYW
        go_wp2_with fail
        go_meet
        exact ⟨rfl, Lib.hid rfl⟩
    case rest =>
    obtain ⟨rfl, hww⟩ := hcut
    have hww := hww.out
    subst hww
    clear hyx HYW
    obtain ⟨dd, T, b, hJ, hb, hn', hT4, hT20, hG⟩ := HC.out.ex
    have HNT : Hid (T.length = n) := Lib.hid hn'.symm
    have HJ1 := Lib.hid hJ.jv
    have HG1 : Hid ((b = false → T = []) ∧ Gd (JS 16384 dd T b) 8) := Lib.hid ⟨hb, hG.more (by decide)⟩
    have HTT := Lib.hid (And.intro hT4 hT20)
    have HR1 : Hid (Rd encS (wc.alloc (.cells #[] 9)) p T) := Lib.hid (hJ.row.rd.old ((Below.refl _ wc).alloc (Nat.le_refl _) _))
    have HY20 := Lib.hid hy20
    have HNB : Hid (n + 1 ≤ 100000000000) := Lib.hid (by have := HNT.out; omega)
    have HNC : Hid (n ≤ 1000000000) := Lib.hid (by have := HNT.out; omega)
    clear hJ hb hn' hT4 hT20 hG HC hy20
    go_upto_if 77 with (first
      | (refine build_nos rfl 27 9 rfl Tryd.underlying27 (Tryd.sizeOf9 _) ?_; go_frame)
      | (refine wpList_append0 encS rfl (.tmp 71) (.tmp 72) 27 9 (.string ⟨#[]⟩) 16 rfl Tryd.underlying27 info_str rfl (by decide) wc.heap.size rfl (heap_alloc_new wc _) p c T HNT.out rfl HR1.out HNC.out ?_; intro q5 c5 w5 h5 h6 h7; have H5 := Lib.hid (And.intro h5 (And.intro h6 h7)); clear h5 h6 h7; go_frame)
      | (refine wpList_pushR encS rfl (.tmp 73) (.tmp 75) 27 9 (.string ⟨#[]⟩) 16 rfl Tryd.underlying27 info_str rfl (by decide) q5 c5 n T HNT.out rfl (H5.out.1.old ((Below.refl _ w5).alloc (Nat.le_refl _) (.cells #[.string ⟨y.toArray⟩] 9))) (some ⟨w5.heap.size, 0, none⟩) 1 1 [y] rfl rfl (Rd.made encS w5 9 [y] (by simp [maxLen])) HNB.out ?_; intro q7 c7 w7 hP; have HP := Lib.hid hP; clear hP; go_frame))
    have H7 : Hid (JV W w7 d j (JS 16384 dd T b) [(q7, c7, T ++ [y]), (p, c, T)]) := Lib.hid (by
      have b1 : Below wc.heap.size wc (wc.alloc (.cells #[] 9)) := (Below.refl _ wc).alloc (Nat.le_refl _) _
      have b2 := b1.trans (H5.out.2.1.mono b1.size)
      have b3 : Below wc.heap.size wc (w5.alloc (.cells #[.string ⟨y.toArray⟩] 9)) := b2.alloc b2.size _
      have b4 := b3.trans (HP.out.2.1.to_below b3.size (fun k hk q => by obtain ⟨a, e, ek⟩ := q; have := H5.out.2.2 a e; omega))
      exact HJ1.out.made b4 HP.out.1 (fun a e => (HP.out.2.2 a e).elim (fun q => H5.out.2.2 a q) (fun q => Nat.le_trans b3.size q)))
    clear HP H5 HR1 HJ1
    go_cut [14] from 78 to 165 (fun s14 wx => ∃ (tp : Option Addr) (tn tc : Nat), s14 = .slice tp tn tc ∧ Hid (TwR W wx d j p c T (toL rw_ T y) tp tn tc))
    case first =>
      cases rw_ with
      | false =>
        have HX : Hid (TwR W w7 d j p c T (toL false T y) q7 (n + 1) c7) := Lib.hid ⟨⟨dd, b, H7.out, HG1.out.1, HG1.out.2⟩, by show n + 1 = (T ++ [y]).length; rw [List.length_append, HNT.out]; rfl⟩
        clear H7
        go_wp2_with fail
        go_meet
        exact ⟨_, _, _, rfl, HX⟩
      | true =>
        have HX : Hid (TwR W (w7.alloc (.cells #[.string ⟨y.toArray⟩] 9)) d j p c T (toL true T y) (some ⟨w7.heap.size, 0, none⟩) 1 1) := Lib.hid ⟨⟨dd, b, (H7.out.sub (R' := [(p, c, T)]) (fun x hx => by rw [List.mem_singleton.1 hx]; simp)).made ((Below.refl _ w7).alloc (Nat.le_refl _) _) (L := [y]) (Rw.made (E := encS) 9 w7 [y] (by simp [maxLen])) (fun a e => by cases e; exact Nat.le_refl _), HG1.out.1, HG1.out.2⟩, rfl⟩
        clear H7
        go_wp2_with fail
        go_meet
        exact ⟨_, _, _, rfl, HX⟩
    case rest =>
    obtain ⟨tp, tn, tc, rfl, H0⟩ := hcut
    clear H7 HG1
    go_wp2_with fail
    go_loopw [80] (fun s80 wr => ∃ i : Nat, i ≤ 4 ∧ s80 = .int .i64 (i : Int) ∧ Hid (TwR W wr d j p c T (toL rw_ T y) tp tn tc)) (fun s80 _ => 4 - (intOf s80).toNat)
    case atStart => exact ⟨0, by omega, rfl, H0⟩
    case round =>
      obtain ⟨i, hi, rfl, HT1⟩ := hrel
      have i0 : (0 : Int) ≤ i := by omega
      by_cases hlt : i < 4
      · have hlt' : (i : Int) < 4 := by omega
        have hyl : (y.length : Int) ≤ 20 := by have := HY20.out; omega
        go_upto_block 3 with fail
        go_cut [80, 16, 17, 18, 19, 20, 21, 22, 23, 24, 25] from 82 to 164 (fun s80 _ _ _ _ _ _ _ _ _ _ wx => s80 = .int .i64 (i : Int) ∧ Hid (TwR W wx d j p c T (toL rw_ T y) tp tn tc))
        case rest =>
          obtain ⟨rfl, HT3⟩ := hcut
          clear HT1
          go_wp2_with fail
          go_roundw
          case rel => exact ⟨i + 1, by omega, by go_num, HT3⟩
          case measure => simp [intOf]; omega
        case first =>
        go_wp2_with fail
        go_loopw [86] (fun s86 wr => ∃ kp : Nat, kp ≤ y.length + 10 ∧ s86 = .int .i64 (kp : Int) ∧ Hid (TwR W wr d j p c T (toL rw_ T y) tp tn tc)) (fun s86 _ => y.length + 10 - (intOf s86).toNat)
        case atStart => exact ⟨0, by omega, rfl, HT1⟩
        case round =>
          clear HT1
          obtain ⟨kp, hk, rfl, HT2⟩ := hrel
          have k0 : (0 : Int) ≤ kp := by omega
          by_cases hkl : kp < y.length + 10
          · have hkl' : (kp : Int) < y.length + 10 := by omega
            obtain ⟨dd2, b2, hJ, hb, hG⟩ := HT2.out.ex
            have HBW : Hid (Below W.heap.size W wr) := Lib.hid (by obtain ⟨F, hF⟩ := hJ; exact hF.b)
            have HTB : Hid (TabAt wr) := Lib.hid (TabJ.old HT.out HBW.out)
            have HCL := Lib.hid (hJ.clone hG (by decide))
            have HJR : Hid (Rd encS wr tp (toL rw_ T y) ∧ Rd encS wr p T) := Lib.hid ⟨(hJ.row (List.mem_cons_self ..)).rd, (hJ.row (List.mem_cons_of_mem _ (List.mem_cons_self ..))).rd⟩
            have HGG := Lib.hid (And.intro hb hG)
            clear hJ hb hG H0 HRD HZ HNB HNC
            go_wp2_with fail
            refine HCL.out.mono ?_
            rintro e w21 ⟨d2, rfl, hD⟩
            have HOP := Lib.hid (hD.jopen HGG.out.2 (by decide) HTB.out T _ (JS.opn HGG.out.1 (small20 HTT.out.2)))
            rw [HNT.out] at HOP
            clear hD HCL
            go_wp2_with fail
            refine HOP.out.mono ?_
            rintro e w31 ⟨k, q31, c31, rfl, hK, _, _, _⟩
            have HH := Lib.hid (hK.none.jv.halt (i : Int))
            clear hK HOP
            go_wp2_with fail
            refine HH.out.mono ?_
            rintro e w41 ⟨rfl, hJ4⟩
            have HJ4 := Lib.hid hJ4
            clear hJ4 HH
            go_upto_if 106 with fail
            go_cut [22] from 107 to 113 (fun s22 wx => ∃ g : Int, s22 = .int .i64 g ∧ Hid (TnB wr wx d2 k T (toL rw_ T y) g))
            case first =>
              have i9 : (i : Int) ≤ 9223372036854775807 := by omega
              cases rw_ with
              | false =>
                have HA := Lib.hid (torn_apd HJ4.out HGG.out.1 HGG.out.2 i9 HTT.out.2 HTT.out.1 HY20.out HTB.out)
                go_wp2_with fail
                refine HA.out.mono ?_
                rintro e w51 ⟨g, rfl, hB⟩
                have HB := Lib.hid hB
                clear hB HA
                go_wp2_with fail
                go_meet
                exact ⟨g, rfl, HB⟩
              | true =>
                have HA := Lib.hid (torn_rwt HJ4.out HGG.out.1 HGG.out.2 i9 HTT.out.2 HTT.out.1 HY20.out HTB.out)
                go_wp2_with fail
                refine HA.out.mono ?_
                rintro e w51 ⟨g, rfl, hB⟩
                have HB := Lib.hid hB
                clear hB HA
                go_wp2_with fail
                go_meet
                exact ⟨g, rfl, HB⟩
            case rest =>
            obtain ⟨g, rfl, HB5⟩ := hcut
            have HCR := Lib.hid (torn_crash HB5.out (kp : Int))
            clear HJ4 HB5
            go_wp2_with fail
            refine HCR.out.mono ?_
            rintro e w61 ⟨rfl, hU⟩
            have HOO := Lib.hid (torn_open hU HTB.out)
            clear hU HCR
            go_wp2_with fail
            refine HOO.out.mono ?_
            rintro e w71 ⟨j2, p71, c71, R, rfl, hR7, hb7, hg⟩
            have HN : Hid (R.length ≤ 5 ∧ (toL rw_ T y).length ≤ 5) := Lib.hid (by
              have h4 := HTT.out.1
              have h5 : (toL rw_ T y).length ≤ 5 := by
                cases rw_
                · show (T ++ [y]).length ≤ 5
                  simp; omega
                · show [y].length ≤ 5
                  simp
              refine ⟨?_, h5⟩
              rcases hg with ⟨_, rfl⟩ | ⟨_, rfl | rfl⟩ <;> omega)
            obtain ⟨t1, ht1⟩ : ∃ t, t = decide (R = toL rw_ T y) := ⟨_, rfl⟩
            obtain ⟨t2, ht2⟩ : ∃ t, t = decide (R = T) := ⟨_, rfl⟩
            have HS1 : Hid (∀ w, Below w71.heap.size w71 w → Calls Tryd.prog 24 #[.slice p71 R.length c71, .slice tp tn tc] w fun e w' => e = .returned (.bool t1) ∧ Below w.heap.size w w') := Lib.hid (fun w h => by
              have := tsame_any p71 tp c71 tc R (toL rw_ T y) w (hR7.rd.old h) (HJR.out.1.old (hb7.trans (h.mono hb7.size))) (by have := HN.out.1; omega) (by have := HN.out.2; omega)
              rwa [← HT2.out.n, ← ht1] at this)
            have HS2 : Hid (∀ w, Below w71.heap.size w71 w → Calls Tryd.prog 24 #[.slice p71 R.length c71, .slice p n c] w fun e w' => e = .returned (.bool t2) ∧ Below w.heap.size w w') := Lib.hid (fun w h => by
              have := tsame_any p71 p c71 c R T w (hR7.rd.old h) (HJR.out.2.old (hb7.trans (h.mono hb7.size))) (by have := HN.out.1; omega) (by have := HTT.out.1; omega)
              rwa [HNT.out, ← ht2] at this)
            have HEND : Hid (∀ w, Below w71.heap.size w71 w → TwR W w d j p c T (toL rw_ T y) tp tn tc) := Lib.hid (fun w h => HT2.out.old (hb7.trans (h.mono hb7.size)))
            have hcs : (g = 0 ∧ t1 = true) ∨ (g = 6 ∧ t2 = true) ∨ (g = 6 ∧ t2 = false ∧ t1 = true) := by
              rcases hg with ⟨a, e⟩ | ⟨a, e | e⟩
              · exact .inl ⟨a, by rw [ht1]; simp [e]⟩
              · exact .inr (.inl ⟨a, by rw [ht2]; simp [e]⟩)
              · by_cases ht : R = T
                · exact .inr (.inl ⟨a, by rw [ht2]; simp [ht]⟩)
                · exact .inr (.inr ⟨a, by rw [ht2]; simp [ht], by rw [ht1]; simp [e]⟩)
            clear hg ht1 ht2 hR7 hb7 HOO HN HJR HGG HT2
            rcases hcs with ⟨rfl, rfl⟩ | ⟨rfl, rfl⟩ | ⟨rfl, rfl, rfl⟩
            · go_wp2_with fail
              refine (HS1.out _ (Below.refl _ _)).mono ?_
              rintro e w81 ⟨rfl, hb8⟩
              have HF := Lib.hid (HEND.out _ hb8)
              clear hb8 HS1 HS2 HEND
              go_wp2_with fail
              go_roundw
              case rel => exact ⟨kp + 1, by omega, by go_num, HF⟩
              case measure => simp [intOf]; omega
            · go_wp2_with fail
              refine (HS2.out _ (Below.refl _ _)).mono ?_
              rintro e w81 ⟨rfl, hb8⟩
              have HF := Lib.hid (HEND.out _ hb8)
              clear hb8 HS1 HS2 HEND
              go_wp2_with fail
              go_roundw
              case rel => exact ⟨kp + 1, by omega, by go_num, HF⟩
              case measure => simp [intOf]; omega
            · go_wp2_with fail
              refine (HS2.out _ (Below.refl _ _)).mono ?_
              rintro e w81 ⟨rfl, hb8⟩
              have HB8 := Lib.hid hb8
              clear hb8
              go_wp2_with fail
              refine (HS1.out _ HB8.out).mono ?_
              rintro e w91 ⟨rfl, hb9⟩
              have HF := Lib.hid (HEND.out _ (HB8.out.trans (hb9.mono HB8.out.size)))
              clear hb9 HS1 HS2 HEND HB8
              go_wp2_with fail
              go_roundw
              case rel => exact ⟨kp + 1, by omega, by go_num, HF⟩
              case measure => simp [intOf]; omega
          · have hkl' : ¬ (kp : Int) < y.length + 10 := by omega
            go_wp2_with fail
            go_meet
            exact ⟨rfl, HT2⟩
      · obtain rfl : i = 4 := by omega
        have hx : Below W.heap.size W wr := by obtain ⟨_, _, ⟨F, hF⟩, _⟩ := HT1.out.ex; exact hF.b
        have HX := Lib.hid hx
        clear hx hlt HT1
        go_wp2_with fail
        go_ret
        exact ⟨rfl, HX.out⟩
  go_wp2_with fail
  go_loopw [11, 12] (fun s11 s12 wr => ∃ (i n : Nat) (p : Option Addr) (c : Nat), i ≤ L.length ∧ i ≤ 4 ∧ s11 = .slice p n c ∧ s12 = .int .i64 (i : Int) ∧ Hid (TnR W wr d j p c n i)) (fun _ s12 _ => 5 - (intOf s12).toNat)
  case atStart => exact ⟨0, 0, none, 0, by omega, by omega, rfl, rfl, H0⟩
  case round =>
    clear H0
    obtain ⟨i, n, p, c, hi, hi4, rfl, rfl, HS⟩ := hrel
    have i0 : (0 : Int) ≤ i := by omega
    have i4 : (i : Int) ≤ 4 := by omega
    by_cases hlt : i < L.length ∧ i < 4
    · obtain ⟨hl1, hl2⟩ := hlt
      have hl1' : (i : Int) < L.length := by omega
      have hl2' : (i : Int) < 4 := by omega
      obtain ⟨bs, off, rfl, hbs, hc⟩ := HRD.out i hl1
      have hbw : Below W.heap.size W wr := by obtain ⟨_, _, _, hJ, _⟩ := HS.out.ex; exact hJ.b
      have ce : wr.cell? ⟨bs, off + i, none⟩ = some (.string ⟨(L[i]).toArray⟩) := (hbw.cell hbs).trans (by
        have := hc 0 (.string ⟨(L[i]).toArray⟩) rfl
        simpa [encS] using this)
      obtain ⟨x, hx⟩ : ∃ x, x = L[i] := ⟨_, rfl⟩
      rw [← hx] at ce
      have hxl : (x.length : Int) ≤ 9223372036854775807 := hx ▸ HZ.out _ (List.getElem_mem _)
      obtain ⟨s, hs⟩ : ∃ s, s = x.take 20 := ⟨_, rfl⟩
      have hs20 : s.length ≤ 20 := by rw [hs, List.length_take]; omega
      have hsx : (⟨x.toArray⟩ : ByteArray).extract 0 20 = ⟨s.toArray⟩ := by apply ByteArray.ext; simp [hs]
      have HAP : Hid (Calls Tryd.prog 13 #[.pointer (some ⟨j, 0, none⟩), .string ⟨s.toArray⟩] wr fun e w' => e = .returned (.int .i64 0) ∧ ∃ dd T, JW W w' d j (JS 16384 dd (T ++ [s]) true) p c T ∧ n = T.length ∧ T.length ≤ i ∧ (∀ s ∈ T, s.length ≤ 20) ∧ Gd (JS 16384 dd (T ++ [s]) true) (2 * (i + 1))) := Lib.hid (by
        obtain ⟨dd, T, b, hJ, hb, hnl, hl9, hl20, hG⟩ := HS.out.ex
        have f1 := frms20 hl20
        have e2 := JS.apd_fits (rm := 16384) (dd := dd) hb s (by omega) (by omega)
        have hG2 := hG.apd s
        rw [e2] at hG2
        refine (hJ.append hG (by omega) s (by omega) HT.out).mono ?_
        rintro e w' ⟨rfl, hJ'⟩
        rw [e2] at hJ'
        exact ⟨by rw [e2], dd + 2, T, hJ', hnl, hl9, hl20, by have := hG2; rwa [show 2 * i + 2 = 2 * (i + 1) by omega] at this⟩)
      have HSL := Lib.hid hs20
      have hxs : ¬ (20 : Int) < x.length → s = x := fun h => by rw [hs, List.take_of_length_le (by omega)]
      have HXS := Lib.hid hxs
      clear hx hs hc hbs hbw HS hs20 hxs
      by_cases hx20 : (20 : Int) < x.length
      · clear HXS
        go_wp2_with fail
        refine HAP.out.mono ?_
        rintro e w7 ⟨rfl, dd, T, hJ, hnl, hl9, hl20, hG⟩
        have hb8 : Below w7.heap.size w7 (w7.alloc (.cells #[.string ⟨s.toArray⟩] 9)) := (Below.refl _ w7).alloc (Nat.le_refl _) _
        have HS2 : Hid (JW W (w7.alloc (.cells #[.string ⟨s.toArray⟩] 9)) d j (JS 16384 dd (T ++ [s]) true) p c T ∧ Rd encS (w7.alloc (.cells #[.string ⟨s.toArray⟩] 9)) (some ⟨w7.heap.size, 0, none⟩) [s]) := Lib.hid ⟨hJ.old hb8, Rd.made encS w7 9 [s] (by simp [maxLen])⟩
        have HNL := Lib.hid hnl
        have HNB : Hid (n + 1 ≤ 100000000000) := Lib.hid (by omega)
        have HG := Lib.hid (And.intro hl9 (And.intro hl20 hG))
        clear hJ hnl hl9 hl20 hG hb8 HAP
        go_wp2_with (refine wpList_pushR encS rfl (.tmp 62) (.tmp 64) 27 9 (.string ⟨#[]⟩) 16 rfl Tryd.underlying27 info_str rfl (by decide) p c n T HNL.out.symm rfl HS2.out.1.row (some ⟨w7.heap.size, 0, none⟩) 1 1 [s] rfl rfl HS2.out.2 HNB.out ?_; intro q2 c2 w8 hP4; have HP4 := Lib.hid hP4; clear hP4; go_frame)
        go_roundw
        case rel =>
          refine ⟨i + 1, n + 1, q2, c2, by omega, by omega, rfl, by go_num, Lib.hid ⟨dd, T ++ [s], true, HS2.out.1.push HP4.out, (fun h => by cases h), by rw [List.length_append, ← HNL.out]; rfl, by rw [List.length_append]; have := HG.out.1; simp; omega, ?_, HG.out.2.2⟩⟩
          intro z hz
          rcases List.mem_append.1 hz with h | h
          · exact HG.out.2.1 z h
          · rw [List.mem_singleton.1 h]; exact HSL.out
        case measure => simp [intOf]; omega
      · obtain rfl := HXS.out hx20
        clear HXS hsx
        go_wp2_with fail
        refine HAP.out.mono ?_
        rintro e w7 ⟨rfl, dd, T, hJ, hnl, hl9, hl20, hG⟩
        have hb8 : Below w7.heap.size w7 (w7.alloc (.cells #[.string ⟨s.toArray⟩] 9)) := (Below.refl _ w7).alloc (Nat.le_refl _) _
        have HS2 : Hid (JW W (w7.alloc (.cells #[.string ⟨s.toArray⟩] 9)) d j (JS 16384 dd (T ++ [s]) true) p c T ∧ Rd encS (w7.alloc (.cells #[.string ⟨s.toArray⟩] 9)) (some ⟨w7.heap.size, 0, none⟩) [s]) := Lib.hid ⟨hJ.old hb8, Rd.made encS w7 9 [s] (by simp [maxLen])⟩
        have HNL := Lib.hid hnl
        have HNB : Hid (n + 1 ≤ 100000000000) := Lib.hid (by omega)
        have HG := Lib.hid (And.intro hl9 (And.intro hl20 hG))
        clear hJ hnl hl9 hl20 hG hb8 HAP
        go_wp2_with (refine wpList_pushR encS rfl (.tmp 62) (.tmp 64) 27 9 (.string ⟨#[]⟩) 16 rfl Tryd.underlying27 info_str rfl (by decide) p c n T HNL.out.symm rfl HS2.out.1.row (some ⟨w7.heap.size, 0, none⟩) 1 1 [s] rfl rfl HS2.out.2 HNB.out ?_; intro q2 c2 w8 hP4; have HP4 := Lib.hid hP4; clear hP4; go_frame)
        go_roundw
        case rel =>
          refine ⟨i + 1, n + 1, q2, c2, by omega, by omega, rfl, by go_num, Lib.hid ⟨dd, T ++ [s], true, HS2.out.1.push HP4.out, (fun h => by cases h), by rw [List.length_append, ← HNL.out]; rfl, by rw [List.length_append]; have := HG.out.1; simp; omega, ?_, HG.out.2.2⟩⟩
          intro z hz
          rcases List.mem_append.1 hz with h | h
          · exact HG.out.2.1 z h
          · rw [List.mem_singleton.1 h]; exact HSL.out
        case measure => simp [intOf]; omega
    · have HM : Hid (TnR W wr d j p c n 4) := Lib.hid (by
        obtain ⟨dd, T, b, hJ, hb, hnl, hl9, hl20, hG⟩ := HS.out.ex
        exact ⟨dd, T, b, hJ, hb, hnl, by omega, hl20, hG.more (by omega)⟩)
      by_cases hl1 : i < L.length
      · obtain rfl : i = 4 := by omega
        have hl1' : (4 : Int) < L.length := by omega
        clear hlt HS
        go_wp2_with fail
        go_meet
        exact ⟨n, p, c, rfl, HM⟩
      · have hl1' : ¬ (i : Int) < L.length := by omega
        clear hlt HS
        go_wp2_with fail
        go_meet
        exact ⟨n, p, c, rfl, HM⟩
end Go.Proofs.YtippakeemfldfaaDoor
