/- JournalKeeps: its walk. -/
import Derived.Test.YtippakeemfldfaaDoorU11
namespace Go.Proofs.YtippakeemfldfaaDoor
open Go.RowKit

set_option maxRecDepth 20000 in
set_option maxHeartbeats 8000000 in
theorem journalKeeps_any (a0 : Int) (o : Option Addr) (cap : Nat) (L : List BX) (W : World) (_h1 : -9223372036854775808 ≤ a0) (_h2 : a0 ≤ 9223372036854775807) (hR : Rd encB W o L) (hx : ∀ s ∈ L, okB W s) (hn : L.length ≤ 9223372036854775807) (hT : TabAt W) :
    Calls Tryd.prog 3 #[.int .i64 a0, .slice o L.length cap] W fun e w' => e = .returned (.bool true) ∧ Below W.heap.size W w' := by
  obtain ⟨r, hr⟩ : ∃ r, r = max 0 (min a0 2000) := ⟨_, rfl⟩
  have hr0 : 0 ≤ r := by omega
  have hr1 : r ≤ 2000 := by omega
  have HAW := Lib.hid (awake10_any W hT)
  have HNW := Lib.hid (fun w => Dk.new r r r w (by omega) (by omega))
  have HT := Lib.hid hT
  have HRD := Lib.hid hR
  have HX := Lib.hid hx
  obtain ⟨nl, hnl⟩ : ∃ nl, nl = L.length := ⟨_, rfl⟩
  have HNL := Lib.hid hnl
  have hL : (nl : Int) ≤ 9223372036854775807 := by omega
  rw [← hnl]
  have Hr := Lib.hid hr
  clear hT hR hx hn hnl _h1 _h2 hr
  go_enter Tryd.func3, Tryd.ntmps3
  go_wp2_with fail
  refine HAW.out.mono ?_
  rintro e w1 ⟨rfl, hb1⟩
  have HB1 := Lib.hid hb1
  clear hb1 HAW
  go_wp2_with fail
  rw [← Hr.out]
  clear Hr
  refine (HNW.out w1).mono ?_
  rintro e w2 ⟨d, rfl, hD⟩
  have hT1 := TabJ.old HT.out HB1.out
  have g0 : Gd (JS r 0 [] false) 0 := Gd.new r hr0 (by omega)
  have HO := Lib.hid (Dk.jopenV (S := JS r 0 [] false) hD g0 (by decide) hT1 [] _ (JS.opn (fun _ => rfl) (fun x hx => by cases hx)))
  have HT1 := Lib.hid hT1
  have HG0 := Lib.hid g0
  clear hD HNW hT1 g0 HT
  go_wp2_with fail
  refine HO.out.mono ?_
  rintro e w3 ⟨j0, q0, c0', rfl, hJ⟩
  have H0 : Hid (KpR w1 w3 r d j0 q0 c0' 0 0) := Lib.hid ⟨[], 0, false, hJ, fun _ => rfl, HG0.out, rfl, by decide, (fun s hs => by cases hs)⟩
  clear hJ HO HG0
  simp only [List.length_nil]
  go_wp2_with fail
  go_loopw [6, 7, 9] (fun s6 s7 s9 wr => ∃ (i n j : Nat) (p : Option Addr) (c : Nat), i ≤ nl ∧ i ≤ 30 ∧ s6 = .pointer (some ⟨j, 0, none⟩) ∧ s7 = .slice p n c ∧ s9 = .int .i64 (i : Int) ∧ Hid (KpR w1 wr r d j p c n i)) (fun _ _ s9 _ => 31 - (intOf s9).toNat)
  case atStart => exact ⟨0, 0, j0, q0, c0', by omega, by omega, rfl, rfl, rfl, H0⟩
  case round =>
    clear H0
    obtain ⟨i, n, j, p, c, hi, hi30, rfl, rfl, rfl, HS⟩ := hrel
    have i0 : (0 : Int) ≤ i := by omega
    have i30 : (i : Int) ≤ 30 := by omega
    by_cases hlt : i < nl ∧ i < 30
    · obtain ⟨hl1, hl2⟩ := hlt
      have hl1' : (i : Int) < nl := by omega
      have hl2' : (i : Int) < 30 := by omega
      obtain ⟨l, dd, b, hJ, hb, hG, hnl2, hl36, hl40⟩ := HS.out.ex
      obtain ⟨ab, af, rfl, hlb, hac⟩ := HRD.out.bx i (by rw [← HNL.out]; exact hl1)
      have hxo := HX.out (L[i]'(by rw [← HNL.out]; exact hl1)) (List.getElem_mem _)
      generalize L[i]'(by rw [← HNL.out]; exact hl1) = x at hac hxo
      have hbw : Below W.heap.size W wr := HB1.out.trans (hJ.b.mono HB1.out.size)
      have hce : ∀ i' u, x.cells[i']? = some u → wr.cell? ⟨ab, af + i * 5 + i', none⟩ = some u := fun i' u hu => (hbw.cell hlb).trans (hac i' u hu)
      have c0 : wr.cell? ⟨ab, af + i * 5, none⟩ = some (.int .i64 x.kd) := hce 0 _ rfl
      have c1 : wr.cell? ⟨ab, af + i * 5 + 1, none⟩ = some (.int .i64 x.af) := hce 1 _ rfl
      have c2 : wr.cell? ⟨ab, af + i * 5 + 2, none⟩ = some (.slice x.lo x.L.length x.lc) := hce 2 _ rfl
      have c3 : wr.cell? ⟨ab, af + i * 5 + 3, none⟩ = some (.slice x.co x.ch.length x.cc) := hce 3 _ rfl
      have c4 : wr.cell? ⟨ab, af + i * 5 + 4, none⟩ = some (.slice x.ao x.ag.length x.ac) := hce 4 _ rfl
      have HJ := Lib.hid hJ
      have HLL := Lib.hid (And.intro hb (And.intro hG (And.intro hnl2 (And.intro hl36 hl40))))
      have HXO := Lib.hid hxo
      clear hJ hb hG hnl2 hl36 hl40 hxo hbw hce hac hlb HS
      obtain ⟨m, hm⟩ : ∃ m, m = max (-1) (min x.af 12) := ⟨_, rfl⟩
      have hm12 : m ≤ 9223372036854775807 := by omega
      have HM := Lib.hid hm
      have HGH := Lib.hid (HLL.out.2.1.halt m hm12)
      have HH := Lib.hid ((HJ.out.alloc (.cells x.cells.toArray 33 (0, 0)) ((Below.refl _ wr).alloc (Nat.le_refl _) (.cells x.cells.toArray 33)) (heap_alloc_new _ _)).halt m)
      obtain ⟨g, hg⟩ : ∃ g, g = wr.heap.size := ⟨_, rfl⟩
      rw [← hg] at HH
      have HGG := Lib.hid hg
      clear hm hm12 hg HJ
      go_wp2_with fail
      rw [← HM.out, ← HGG.out]
      refine HH.out.mono ?_
      rintro e w4 ⟨rfl, hK⟩
      have HK := Lib.hid hK
      have HU := Lib.hid (hK.used (HGH.out.ok (by omega)))
      clear hK HH HGG HM c0 c1 c2 c3 c4
      go_wp2_with fail
      refine HU.out.mono ?_
      rintro e w5 ⟨rfl, hK⟩
      have HK := Lib.hid hK
      obtain ⟨c0, c1, c2, c3, c4⟩ := act_cells hK.at
      obtain ⟨T, hTT⟩ : ∃ T, T = txtB x.L := ⟨_, rfl⟩
      have HTX := Lib.hid (texts10_any x.kd x.af (.slice x.co x.ch.length x.cc) (.slice x.ao x.ag.length x.ac) x.lo x.lc x.L w5 rfl rfl (HXO.out.rl.old (HB1.out.trans (hK.b.mono HB1.out.size))) HXO.out.zl HXO.out.nl)
      rw [← hTT] at HTX
      have HTL : Hid (T.length ≤ 6 ∧ ∀ s ∈ T, s.length ≤ 40) := Lib.hid (by rw [hTT]; exact ⟨txtB_len _, txtB_each _⟩)
      clear hK HU hTT
      go_wp2_with fail
      refine HTX.out.mono ?_
      rintro e w6 ⟨q, qc, rfl, hq, hqn, hb6⟩
      have HK := Lib.hid (HK.out.made hb6 hq hqn)
      obtain ⟨c0, c1, c2, c3, c4⟩ := act_cells HK.out.at
      clear hq hqn hb6 HTX
      go_upto_if 79 with fail
      go_cut [12, 13, 14] from 53 to 97 (fun s12 s13 _ wx => ∃ (V : List (List UInt8)) (q : Option Addr) (qn qc : Nat) (fv : Int), s12 = .slice q qn qc ∧ s13 = .int .i64 fv ∧ Hid (KpW w1 wx r dd d j p c l b (max m (-1)) g (.cells x.cells.toArray 33 (0, 0)) i q qn qc V fv))
      case first =>
        have HS40 := Lib.hid (small40 HLL.out.2.2.2.2)
        by_cases hkd : x.kd = 1
        · have HRW := Lib.hid (HK.out.rewrite HGH.out (by omega) (HK.out.jv.row (List.mem_cons_self ..)) (by have := HTL.out.1; omega) HT1.out)
          have HKO := Lib.hid (KpO.rwt (rm := r) (dd := dd) HLL.out.1 HS40.out T (small40 HTL.out.2) (max m (-1)))
          have HG3 := Lib.hid (HGH.out.rwt T)
          clear c0 c1 c2 c3 c4
          go_wp2_with fail
          refine HRW.out.mono ?_
          rintro e w7 ⟨rfl, hK7⟩
          have HW : Hid (KpW w1 w7 r dd d j p c l b (max m (-1)) g (.cells x.cells.toArray 33 (0, 0)) i q T.length qc T _) := Lib.hid ⟨⟨_, hK7, HKO.out, HG3.out⟩, rfl, by have := HTL.out.1; omega, HTL.out.2⟩
          clear hK7 HRW HKO HG3
          go_wp2_with fail
          go_meet
          exact ⟨T, q, _, qc, _, rfl, rfl, HW⟩
        · have hki : Hid (∀ s ∈ T, s.length ≤ 40) := Lib.hid HTL.out.2
          have HKD : Hid (¬ x.kd = 1) := Lib.hid hkd
          have hTi : (T.length : Int) ≤ 6 := by have := HTL.out.1; omega
          go_upto_if 85 with fail
          go_cut [12, 14] from 76 to 88 (fun _ s14 wx => ∃ s : List UInt8, s14 = .string ⟨s.toArray⟩ ∧ Hid (s.length ≤ 40 ∧ w6 = wx))
          case first =>
            clear hkd
            by_cases ht : 0 < T.length
            · have ht' : (0 : Int) < T.length := by omega
              obtain ⟨bs, off, rfl, hbs, hcc⟩ := (HK.out.jv.row (List.mem_cons_self ..)).rd 0 ht
              have ce : w6.cell? ⟨bs, off, none⟩ = some (.string ⟨(T[0]).toArray⟩) := by
                have := hcc 0 (.string ⟨(T[0]).toArray⟩) rfl
                simpa [encS] using this
              have HE : Hid ((T[0]).length ≤ 40) := Lib.hid (hki.out _ (List.getElem_mem _))
              generalize T[0] = s at ce HE
              clear hcc hbs
              go_wp2_with fail
              go_meet
              exact ⟨s, rfl, Lib.hid ⟨HE.out, rfl⟩⟩
            · have ht' : ¬ (0 : Int) < T.length := by omega
              go_wp2_with fail
              go_meet
              exact ⟨[], rfl, Lib.hid ⟨Nat.zero_le _, rfl⟩⟩
          case rest =>
          obtain ⟨s, rfl, HS0⟩ := hcut
          obtain ⟨hs40, hww⟩ := HS0.out
          subst hww
          have HAP := Lib.hid (HK.out.append HGH.out (by omega) s (by omega) HT1.out)
          have HKO := Lib.hid (KpO.apd (rm := r) (dd := dd) HLL.out.1 HS40.out s (by omega) (max m (-1)))
          have HG3 := Lib.hid ((HGH.out.apd s).more (m := 15 * i + 3) (by omega))
          have HSL := Lib.hid hs40
          clear c0 c1 c2 c3 c4 HS0 hs40 hkd hTi
          go_wp2_with fail
          refine HAP.out.mono ?_
          rintro e w7 ⟨rfl, hK7⟩
          obtain ⟨S2, hS2⟩ : ∃ S2, S2 = (apdX { JS r dd l b with lf := max m (-1) } s).2 := ⟨_, rfl⟩
          obtain ⟨fv, hfv⟩ : ∃ fv, fv = (apdX { JS r dd l b with lf := max m (-1) } s).1 := ⟨_, rfl⟩
          rw [← hS2] at hK7 HKO HG3
          rw [← hfv] at HKO ⊢
          have HK7 := Lib.hid (hK7.sub (R' := [(p, c, l)]) (fun x hx => by rw [List.mem_singleton.1 hx]; simp))
          have HR1 : Hid (Rd encS (w7.alloc (.cells #[] 9)) p l) := Lib.hid ((HK7.out.jv.row (List.mem_cons_self ..)).rd.old ((Below.refl _ w7).alloc (Nat.le_refl _) _))
          have HNL2 : Hid (l.length = n) := Lib.hid HLL.out.2.2.1.symm
          have HNB : Hid (n + 1 ≤ 100000000000) := Lib.hid (by have := HLL.out.2.2.2.1; have := HNL2.out; omega)
          have HNC : Hid (n ≤ 1000000000) := Lib.hid (by have := HLL.out.2.2.2.1; have := HNL2.out; omega)
          clear hK7 hS2 hfv HAP
          go_wp2_with (first
            | (refine build_nos rfl 27 9 rfl Tryd.underlying27 (Tryd.sizeOf9 _) ?_; go_frame)
            | (refine wpList_append0 encS rfl (.tmp 92) (.tmp 93) 27 9 (.string ⟨#[]⟩) 16 rfl Tryd.underlying27 info_str rfl (by decide) w7.heap.size rfl (heap_alloc_new w7 _) p c l HNL2.out rfl HR1.out HNC.out ?_; intro q5 c5 w8 h5 h6 h7; have H5 := Lib.hid (And.intro h5 (And.intro h6 h7)); clear h5 h6 h7; go_frame)
            | (refine wpList_pushR encS rfl (.tmp 94) (.tmp 96) 27 9 (.string ⟨#[]⟩) 16 rfl Tryd.underlying27 info_str rfl (by decide) q5 c5 n l HNL2.out rfl (H5.out.1.old ((Below.refl _ w8).alloc (Nat.le_refl _) (.cells #[.string ⟨s.toArray⟩] 9))) (some ⟨w8.heap.size, 0, none⟩) 1 1 [s] rfl rfl (Rd.made encS w8 9 [s] (by simp [maxLen])) HNB.out ?_; intro q7 c7 w9 hP; have HP := Lib.hid hP; clear hP; go_frame))
          have HW : Hid (KpW w1 w9 r dd d j p c l b (max m (-1)) g (.cells x.cells.toArray 33 (0, 0)) i q7 (n + 1) c7 (l ++ [s]) fv) := Lib.hid ⟨⟨S2, by
            have b1 : Below w7.heap.size w7 (w7.alloc (.cells #[] 9)) := (Below.refl _ w7).alloc (Nat.le_refl _) _
            have b2 := b1.trans (H5.out.2.1.mono b1.size)
            have b3 : Below w7.heap.size w7 (w8.alloc (.cells #[.string ⟨s.toArray⟩] 9)) := b2.alloc b2.size _
            have b4 := b3.trans (HP.out.2.1.to_below b3.size (fun k hk q => by obtain ⟨a, e, ek⟩ := q; have := H5.out.2.2 a e; omega))
            exact HK7.out.made b4 HP.out.1 (fun a e => (HP.out.2.2 a e).elim (fun q => H5.out.2.2 a q) (fun q => Nat.le_trans b3.size q)), HKO.out, HG3.out⟩, by rw [List.length_append, HNL2.out]; rfl, by rw [List.length_append]; have := HLL.out.2.2.2.1; simp; omega, by
            intro z hz
            rcases List.mem_append.1 hz with h | h
            · exact HLL.out.2.2.2.2 z h
            · rw [List.mem_singleton.1 h]; exact HSL.out⟩
          clear HP H5 HR1 HK7
          go_meet
          exact ⟨l ++ [s], q7, _, c7, fv, rfl, rfl, HW⟩
      case rest =>
      obtain ⟨V, q2, qn, qc2, fv, rfl, rfl, HW⟩ := hcut
      clear HK HGH HTL c0 c1 c2 c3 c4
      go_upto_block 2 with fail
      go_cut [6, 7, 15, 16, 17, 18] from 98 to 167 (fun s6 s7 _ _ _ _ wx => ∃ (j : Nat) (p : Option Addr) (c n : Nat), s6 = .pointer (some ⟨j, 0, none⟩) ∧ s7 = .slice p n c ∧ Hid (KpS w1 wx r d j p c n i))
      case first =>
        obtain ⟨S2, hJK, hO, hG2⟩ := HW.out.ex
        rcases hO with ⟨rfl, hU⟩ | ⟨rfl, hS2⟩ | ⟨rfl, hB⟩
        · have HF : Hid (KpS w1 wc r d j q2 qc2 qn i) := Lib.hid ⟨V, S2, hJK.jv.sub (fun x hx => by rw [List.mem_singleton.1 hx]; simp), hU, hG2.more (by omega), HW.out.n, HW.out.l, HW.out.e⟩
          clear hJK hU hG2 HW
          go_wp2_with fail
          go_meet
          exact ⟨j, q2, qc2, qn, rfl, rfl, HF⟩
        · subst hS2
          have HU2 : Hid (Calls Tryd.prog 10 #[.pointer (some ⟨d, 0, none⟩)] wc fun e w' => e = .returned (.int .i64 (usedX (JS r dd l b).X : Nat)) ∧ JK w1 w' d j { JS r dd l b with lf := max m (-1) } [(q2, qc2, V), (p, c, l)] g (.cells x.cells.toArray 33 (0, 0))) := Lib.hid (hJK.used (hG2.ok (by omega)))
          have HG2 := Lib.hid hG2
          clear hJK hG2 HW
          go_wp2_with fail
          refine HU2.out.mono ?_
          rintro e w7 ⟨rfl, hK7⟩
          have HF : Hid (KpS w1 w7 r d j p c n i) := Lib.hid ⟨l, _, hK7.jv.sub (fun x hx => by rw [List.mem_singleton.1 hx]; simp), UpK.js HLL.out.1 _, HG2.out.more (by omega), HLL.out.2.2.1, by have := HLL.out.2.2.2.1; omega, HLL.out.2.2.2.2⟩
          clear hK7 HU2
          go_wp2_with fail
          go_meet
          exact ⟨j, p, c, n, rfl, rfl, HF⟩
        · have hxo := HXO.out
          obtain ⟨c0, c1, c2, c3, c4⟩ := act_cells hJK.at
          have hTW : ∀ w, Below w1.heap.size w1 w → Below W.heap.size W w := fun w hb => HB1.out.trans (hb.mono HB1.out.size)
          have HTW := Lib.hid hTW
          have HSm : Hid (Small l ∧ Small V) := Lib.hid ⟨small40 HLL.out.2.2.2.2, small40 HW.out.e⟩
          obtain ⟨chf, hcf⟩ : ∃ y, y = x.ch.take 20 := ⟨_, rfl⟩
          have HFW := Lib.hid (fun w => few09_any x.co x.cc x.ch w hxo.cc (by have := hxo.cl; omega))
          rw [← hcf] at HFW
          have HCR : Hid (∀ w S k, k ≤ 90000 → Gd S k → JK w1 w d j S [(q2, qc2, V), (p, c, l)] g (.cells x.cells.toArray 33 (0, 0)) → Calls Tryd.prog 14 #[.pointer (some ⟨d, 0, none⟩), .slice x.co chf.length x.cc] w fun e w' => e = .returned (.tuple #[]) ∧ JK w1 w' d j { S with X := crX chf S.X, lf := -1, dn := false } [(q2, qc2, V), (p, c, l)] g (.cells x.cells.toArray 33 (0, 0))) := Lib.hid (fun w S k hk hg hJ => by
            refine hJ.crash (hg.ok (by omega)) x.co x.cc chf (by rw [hcf, List.length_take]; have := HXO.out.cc; omega) (by rw [hcf]; exact (HXO.out.rc.take 20).old (HTW.out w hJ.b)) (fun hne a e => ?_)
            have hne2 : 0 < x.ch.length := by
              rcases Nat.eq_zero_or_pos x.ch.length with h | h
              · exact absurd (by rw [hcf, List.eq_nil_of_length_eq_zero h]; rfl) hne
              · exact h
            obtain ⟨bs, off, e2, hbs, _⟩ := HXO.out.rc 0 hne2
            rw [e2] at e
            cases e
            exact Nat.lt_of_lt_of_le hbs HB1.out.size)
          have HJK := Lib.hid hJK
          have HGB := Lib.hid (And.intro hG2 hB)
          clear hJK hG2 hB hxo hTW hcf
          go_wp2_with fail
          refine (HFW.out _).mono ?_
          rintro e w7 ⟨rfl, rfl⟩
          go_wp2_with fail
          refine (HCR.out _ _ (15 * i + 3) (by omega) HGB.out.1 HJK.out).mono ?_
          rintro e w7 ⟨rfl, hK7⟩
          have HL0 : Hid (∃ S, JK w1 w7 d j S [(q2, qc2, V), (p, c, l)] g (.cells x.cells.toArray 33 (0, 0)) ∧ BkU r l V S ∧ Gd S (15 * i + 3 + 3 * 0)) := Lib.hid ⟨_, hK7, HGB.out.2.crash _, HGB.out.1.crash _⟩
          clear hK7 HJK HGB c0 c1 c2 c3 c4
          go_upto_block 3 with fail
          go_cut [15] from 115 to 141 (fun _ wx => Hid (∃ S, JK w1 wx d j S [(q2, qc2, V), (p, c, l)] g (.cells x.cells.toArray 33 (0, 0)) ∧ BkU r l V S ∧ Gd S (15 * i + 12)))
          case first =>
            have hag : (x.ag.length : Int) ≤ 9223372036854775807 := by have := HXO.out.al; omega
            go_wp2_with fail
            go_loopw [15] (fun s15 wx => ∃ k : Nat, k ≤ x.ag.length ∧ k ≤ 3 ∧ s15 = .int .i64 (k : Int) ∧ Hid (∃ S, JK w1 wx d j S [(q2, qc2, V), (p, c, l)] g (.cells x.cells.toArray 33 (0, 0)) ∧ BkU r l V S ∧ Gd S (15 * i + 3 + 3 * k))) (fun s15 _ => 4 - (intOf s15).toNat)
            case atStart => exact ⟨0, by omega, by omega, rfl, HL0⟩
            case round =>
              clear HL0
              obtain ⟨k, hk, hk3, rfl, HR⟩ := hrel
              obtain ⟨S, hJ, hB, hG⟩ := HR.out
              have k0 : (0 : Int) ≤ k := by omega
              have k3 : (k : Int) ≤ 3 := by omega
              obtain ⟨c0, c1, c2, c3, c4⟩ := act_cells hJ.at
              by_cases hkl : k < x.ag.length ∧ k < 3
              · obtain ⟨hk1, hk2⟩ := hkl
                have hk1' : (k : Int) < x.ag.length := by omega
                have hk2' : (k : Int) < 3 := by omega
                obtain ⟨bs, off, hao, hbs, hcc⟩ := HXO.out.ra k hk1
                rw [hao] at c4
                have hbw := HTW.out _ hJ.b
                have ce : wr.cell? ⟨bs, off + k, none⟩ = some (.int .i64 (x.ag[k])) := (hbw.cell hbs).trans (by
                  have := hcc 0 (.int .i64 (x.ag[k])) rfl
                  simpa [encI] using this)
                have hz := HXO.out.ab _ (List.getElem_mem hk1)
                obtain ⟨z, hz2⟩ : ∃ z, z = x.ag[k] := ⟨_, rfl⟩
                rw [← hz2] at ce hz
                obtain ⟨m2, hm2⟩ : ∃ m, m = max 0 (min z 4) := ⟨_, rfl⟩
                have hm9 : m2 ≤ 9223372036854775807 := by omega
                have HM2 := Lib.hid hm2
                have HH := Lib.hid (hJ.halt m2)
                have HGB := Lib.hid (And.intro (hG.halt m2 hm9) (hB.halt m2))
                clear hJ hB hG HR hao hbs hcc hbw hz hz2 hm2 hm9
                go_wp2_with fail
                rw [← HM2.out]
                refine HH.out.mono ?_
                rintro e w8 ⟨rfl, hK8⟩
                have HOP := Lib.hid (hK8.jopenX HGB.out.1 (by omega) HT1.out)
                clear hK8 HH HM2 c0 c1 c2 c3 c4 ce
                go_wp2_with fail
                refine HOP.out.mono ?_
                rintro e w9 ⟨⟨va, vb, vc, rfl⟩, hK9⟩
                have HJ9 := Lib.hid hK9
                obtain ⟨c0, c1, c2, c3, c4⟩ := act_cells hK9.at
                have HGB2 := Lib.hid (And.intro HGB.out.1.opn (HGB.out.2.open HSm.out.1 HSm.out.2))
                clear hK9 HOP HGB
                go_wp2_with fail
                refine (HFW.out _).mono ?_
                rintro e w9 ⟨rfl, rfl⟩
                go_wp2_with fail
                refine (HCR.out _ _ (15 * i + 3 + 3 * k + 3) (by omega) HGB2.out.1 HJ9.out).mono ?_
                rintro e w10 ⟨rfl, hK10⟩
                have HN : Hid (∃ S, JK w1 w10 d j S [(q2, qc2, V), (p, c, l)] g (.cells x.cells.toArray 33 (0, 0)) ∧ BkU r l V S ∧ Gd S (15 * i + 3 + 3 * (k + 1))) := Lib.hid ⟨_, hK10, HGB2.out.2.crash _, (HGB2.out.1.crash _).more (by omega)⟩
                clear hK10 HJ9 HGB2 c0 c1 c2 c3 c4
                go_wp2_with fail
                go_roundw
                case rel => exact ⟨k + 1, by omega, by omega, by go_num, HN⟩
                case measure => simp [intOf]; omega
              · have HF : Hid (∃ S, JK w1 wr d j S [(q2, qc2, V), (p, c, l)] g (.cells x.cells.toArray 33 (0, 0)) ∧ BkU r l V S ∧ Gd S (15 * i + 12)) := Lib.hid ⟨S, hJ, hB, hG.more (by omega)⟩
                clear hJ hB hG HR
                by_cases hk1 : k < x.ag.length
                · obtain rfl : k = 3 := by omega
                  have hk1' : (3 : Int) < x.ag.length := by omega
                  clear hkl
                  go_wp2_with fail
                  go_meet
                  exact HF
                · have hk1' : ¬ (k : Int) < x.ag.length := by omega
                  clear hkl
                  go_wp2_with fail
                  go_meet
                  exact HF
          case rest =>
          have HU := hcut
          clear HL0
          obtain ⟨S, hJ, hB, hG⟩ := HU.out
          obtain ⟨R, dd', bb, hR, ho, hbb⟩ := hB.open HSm.out.1 HSm.out.2
          have HOP := Lib.hid (hJ.jv.jopen hG (by omega) HT1.out R _ ho)
          have HG4 : Hid (Gd (JS r dd' R bb) (15 * i + 15)) := Lib.hid (by have := hG.opn; rw [ho] at this; exact this)
          have HRR := Lib.hid (And.intro hR hbb)
          clear hJ hB hG ho hR hbb HU hcut
          go_wp2_with fail
          refine HOP.out.mono ?_
          rintro e w8 ⟨j3, p3, c3, rfl, hJ⟩
          have HN : Hid (R.length ≤ 7 + i ∧ (∀ s ∈ R, s.length ≤ 40) ∧ V.length ≤ 37 ∧ l.length ≤ 36) := Lib.hid (by
            have h1 := HW.out.l
            have h2 := HLL.out.2.2.2.1
            rcases HRR.out.1 with rfl | rfl
            · exact ⟨by omega, HLL.out.2.2.2.2, by omega, by omega⟩
            · exact ⟨h1, HW.out.e, by omega, by omega⟩)
          have HF : Hid (∀ w, Below w8.heap.size w8 w → KpS w1 w r d j3 p3 c3 R.length i) := Lib.hid (fun w h => ⟨R, _, (hJ.sub (R' := [(p3, c3, R)]) (fun x hx => by rw [List.mem_singleton.1 hx]; simp)).old h, by have := UpK.js (rm := r) (dd := dd') (l := R) (b := bb) HRR.out.2 (-1); exact this, HG4.out, rfl, HN.out.1, HN.out.2.1⟩)
          have HRO : Hid (Rd encS w8 p3 R ∧ Rd encS w8 q2 V ∧ Rd encS w8 p l) := Lib.hid ⟨(hJ.row (c := c3) (by simp)).rd, (hJ.row (c := qc2) (by simp)).rd, (hJ.row (c := c) (by simp)).rd⟩
          obtain ⟨t1, ht1⟩ : ∃ t, t = decide (R = l) := ⟨_, rfl⟩
          obtain ⟨t2, ht2⟩ : ∃ t, t = decide (R = V) := ⟨_, rfl⟩
          have HS1 : Hid (∀ w, Below w8.heap.size w8 w → Calls Tryd.prog 16 #[.slice p3 R.length c3, .slice p n c] w fun e w' => e = .returned (.bool t1) ∧ Below w.heap.size w w') := Lib.hid (fun w h => by
            have := same10_any p3 p c3 c R l w (HRO.out.1.old h) (HRO.out.2.2.old h) (by have := HN.out.1; omega) (by have := HN.out.2.2.2; omega)
            rwa [← HLL.out.2.2.1, ← ht1] at this)
          have HS2 : Hid (∀ w, Below w8.heap.size w8 w → Calls Tryd.prog 16 #[.slice p3 R.length c3, .slice q2 qn qc2] w fun e w' => e = .returned (.bool t2) ∧ Below w.heap.size w w') := Lib.hid (fun w h => by
            have := same10_any p3 q2 c3 qc2 R V w (HRO.out.1.old h) (HRO.out.2.1.old h) (by have := HN.out.1; omega) (by have := HN.out.2.2.1; omega)
            rwa [← HW.out.n, ← ht2] at this)
          have hcs : (t1 = true) ∨ (t1 = false ∧ t2 = true) := by
            by_cases h : R = l
            · exact .inl (by rw [ht1]; simp [h])
            · exact .inr ⟨by rw [ht1]; simp [h], by rw [ht2]; simp [HRR.out.1.resolve_left h]⟩
          clear ht1 ht2 hJ HOP HRR HG4 HN HRO
          rcases hcs with rfl | ⟨rfl, rfl⟩
          · go_wp2_with fail
            refine (HS1.out _ (Below.refl _ _)).mono ?_
            rintro e w81 ⟨rfl, hb8⟩
            have HF := Lib.hid (HF.out _ hb8)
            clear hb8 HS1 HS2
            go_wp2_with fail
            go_meet
            exact ⟨j3, p3, c3, _, rfl, rfl, HF⟩
          · go_wp2_with fail
            refine (HS1.out _ (Below.refl _ _)).mono ?_
            rintro e w81 ⟨rfl, hb8⟩
            have HB8 := Lib.hid hb8
            clear hb8
            go_wp2_with fail
            refine (HS2.out _ HB8.out).mono ?_
            rintro e w91 ⟨rfl, hb9⟩
            have HF := Lib.hid (HF.out _ (HB8.out.trans (hb9.mono HB8.out.size)))
            clear hb9 HS1 HS2 HB8
            go_wp2_with fail
            go_meet
            exact ⟨j3, p3, c3, _, rfl, rfl, HF⟩
      case rest =>
      obtain ⟨j2, p2, c2, n2, rfl, rfl, HS2⟩ := hcut
      clear HW HLL
      obtain ⟨l2, S, hJ, hU, hG, hn2, hl2, he2⟩ := HS2.out.ex
      obtain ⟨dd2, b2, hS, hb2⟩ := hU.halt
      have hH := hJ.halt (-1)
      have hGH := hG.halt (-1) (by decide)
      rw [hS] at hH hGH
      have HH := Lib.hid hH
      have HEE := Lib.hid (And.intro hb2 (And.intro hGH (And.intro hn2 (And.intro hl2 he2))))
      clear hJ hU hG hn2 hl2 he2 hS hb2 hH hGH HS2
      go_wp2_with fail
      refine HH.out.mono ?_
      rintro e w8 ⟨rfl, hJ⟩
      have HJ := Lib.hid hJ
      have HSZ := Lib.hid (hJ.size rfl)
      rw [JS.rd HEE.out.1] at HSZ
      obtain ⟨sz, hsz⟩ : ∃ sz, sz = (frmsB l2).length := ⟨_, rfl⟩
      rw [← hsz] at HSZ
      have HZZ := Lib.hid hsz
      clear hJ HH hsz
      go_upto_block 5 with fail
      go_cut [19, 21] from 172 to 181 (fun s19 _ wx => s19 = .int .i64 (sz : Int) ∧ Hid (w8 = wx))
      case first =>
        have hn36 : (n2 : Int) ≤ 37 := by have := HEE.out.2.2.1; have := HEE.out.2.2.2.1; omega
        go_wp2_with fail
        go_loopw [19, 172] (fun s19 s172 wx => ∃ k : Nat, k ≤ n2 ∧ s172 = .int .i64 (k : Int) ∧ s19 = .int .i64 (((frmsB (l2.take k)).length : Nat) : Int) ∧ Hid (w8 = wx)) (fun _ s172 _ => n2 - (intOf s172).toNat)
        case atStart => exact ⟨0, by omega, rfl, rfl, Lib.hid rfl⟩
        case round =>
          obtain ⟨k, hk, rfl, rfl, HWW⟩ := hrel
          have hww := HWW.out
          subst hww
          have k0 : (0 : Int) ≤ k := by omega
          by_cases hkl : k < n2
          · have hkl' : (k : Int) < n2 := by omega
            have hk2 : k < l2.length := by have := HEE.out.2.2.1; omega
            obtain ⟨bs, off, rfl, hbs, hcc⟩ := (HJ.out.row (List.mem_cons_self ..)).rd k hk2
            have ce : w8.cell? ⟨bs, off + k, none⟩ = some (.string ⟨(l2[k]).toArray⟩) := by
              have := hcc 0 (.string ⟨(l2[k]).toArray⟩) rfl
              simpa [encS] using this
            have hs40 := HEE.out.2.2.2.2 _ (List.getElem_mem hk2)
            obtain ⟨s, hs⟩ : ∃ s, s = l2[k] := ⟨_, rfl⟩
            rw [← hs] at ce hs40
            have hfl : (frmsB (l2.take k)).length ≤ 2000 := by
              have h1 := frms40 (l := l2.take k) (fun s hs => HEE.out.2.2.2.2 s (List.mem_of_mem_take hs))
              have h2 : (l2.take k).length ≤ 37 := by rw [List.length_take]; have := HEE.out.2.2.2.1; omega
              omega
            have HN : Hid ((frmsB (l2.take (k + 1))).length = (frmsB (l2.take k)).length + (8 + s.length)) := Lib.hid (by
              rw [List.take_succ_eq_append_getElem hk2, frmsB_snoc, List.length_append, frmB_len, hs])
            obtain ⟨f1, hf1⟩ : ∃ f, f = (frmsB (l2.take k)).length := ⟨_, rfl⟩
            rw [← hf1] at HN hfl ⊢
            have HCO := Lib.hid (fun w => jcost_nat s.length w (by omega))
            clear hs hcc hbs hf1
            go_wp2_with fail
            refine (HCO.out _).mono ?_
            rintro e w9 ⟨rfl, hww⟩
            subst hww
            go_wp2_with fail
            go_roundw
            case rel => exact ⟨k + 1, by omega, by go_num, by rw [HN.out]; go_num, Lib.hid (by first | trivial | rfl)⟩
            case measure => simp [intOf]; omega
          · have hkl' : ¬ (k : Int) < n2 := by omega
            obtain rfl : k = n2 := by omega
            have e1 : (frmsB (l2.take k)).length = sz := by rw [List.take_of_length_le (by have := HEE.out.2.2.1; omega), ← HZZ.out]
            rw [e1]
            clear e1
            go_wp2_with fail
            go_meet
            exact ⟨rfl, Lib.hid rfl⟩
      case rest =>
      obtain ⟨rfl, hww⟩ := hcut
      have hww := hww.out
      subst hww
      clear HJ
      go_wp2_with fail
      refine HSZ.out.mono ?_
      rintro e w9 ⟨rfl, hJ⟩
      have HN : Hid (KpR w1 w9 r d j2 p2 c2 n2 (i + 1)) := Lib.hid ⟨l2, dd2, b2, hJ, HEE.out.1, HEE.out.2.1.more (by omega), HEE.out.2.2.1, by have := HEE.out.2.2.2.1; omega, HEE.out.2.2.2.2⟩
      clear hJ HSZ HEE
      go_wp2_with fail
      go_roundw
      case rel => exact ⟨i + 1, n2, j2, p2, c2, by omega, by omega, rfl, rfl, by go_num, HN⟩
      case measure => simp [intOf]; omega
    · have hcase : (¬ (i : Int) < (nl : Int)) ∨ ((i : Int) < (nl : Int) ∧ ¬ (i : Int) < 30) := by omega
      obtain ⟨l, dd, b, hJ, hb, hG, hn2, hl36, hl40⟩ := HS.out.ex
      have HSM := Lib.hid (JS.opn (rm := r) (dd := dd) hb (small40 hl40))
      have HOP := Lib.hid (hJ.jopen hG (by omega) HT1.out l _ HSM.out)
      have HGJ := Lib.hid hG
      have HLE : Hid (l.length ≤ 1000000) := Lib.hid (by omega)
      have HN2 := Lib.hid hn2
      rw [← hn2] at HOP
      clear hJ hb hG hn2 hl36 hl40 HS hlt
      rcases hcase with h1 | ⟨h1, h2⟩ <;>
      · go_wp2_with fail
        refine HOP.out.mono ?_
        rintro e w8 ⟨j3, p3, c3, rfl, hJ⟩
        have HCR := Lib.hid (hJ.crash (Below.refl _ _) (HGJ.out.ok (by omega)) none 0 [] (Nat.le_refl _) (Rd.nil _ _) (fun h => absurd rfl h))
        rw [JS.crash] at HCR
        clear hJ HOP
        go_wp2_with fail
        refine HCR.out.mono ?_
        rintro e w9 ⟨rfl, hJ⟩
        have HOP2 := Lib.hid (hJ.jopen HGJ.out (by omega) HT1.out l _ HSM.out)
        rw [← HN2.out] at HOP2
        clear hJ HCR
        go_wp2_with fail
        refine HOP2.out.mono ?_
        rintro e w10 ⟨j4, p4, c4, rfl, hJ⟩
        have HB10 : Hid (Below W.heap.size W w10) := Lib.hid (HB1.out.trans (hJ.b.mono HB1.out.size))
        have HRO : Hid (Rd encS w10 p4 l ∧ Rd encS w10 p3 l ∧ Rd encS w10 p l) := Lib.hid ⟨(hJ.row (c := c4) (by simp)).rd, (hJ.row (c := c3) (by simp)).rd, (hJ.row (c := c) (by simp)).rd⟩
        have HSA1 : Hid (∀ w, Below w10.heap.size w10 w → Calls Tryd.prog 16 #[.slice p3 n c3, .slice p n c] w fun e w' => e = .returned (.bool true) ∧ Below w.heap.size w w') := Lib.hid (fun w h => by
          have := same10_any p3 p c3 c l l w (HRO.out.2.1.old h) (HRO.out.2.2.old h) HLE.out HLE.out
          rw [← HN2.out] at this
          exact this.mono (by rintro e w' ⟨rfl, hb⟩; exact ⟨by simp, hb⟩))
        have HSA2 : Hid (∀ w, Below w10.heap.size w10 w → Calls Tryd.prog 16 #[.slice p4 n c4, .slice p n c] w fun e w' => e = .returned (.bool true) ∧ Below w.heap.size w w') := Lib.hid (fun w h => by
          have := same10_any p4 p c4 c l l w (HRO.out.1.old h) (HRO.out.2.2.old h) HLE.out HLE.out
          rw [← HN2.out] at this
          exact this.mono (by rintro e w' ⟨rfl, hb⟩; exact ⟨by simp, hb⟩))
        clear hJ HOP2
        go_wp2_with fail
        refine (HSA1.out _ (Below.refl _ _)).mono ?_
        rintro e w11 ⟨rfl, hb11⟩
        have HB11 := Lib.hid hb11
        clear hb11 HSA1
        go_wp2_with fail
        refine (HSA2.out _ HB11.out).mono ?_
        rintro e w12 ⟨rfl, hb12⟩
        have HEND := Lib.hid (HB10.out.trans ((HB11.out.trans (hb12.mono HB11.out.size)).mono HB10.out.size))
        clear hb12 HSA2
        go_wp2_with fail
        go_ret
        exact ⟨rfl, HEND.out⟩
end Go.Proofs.YtippakeemfldfaaDoor
