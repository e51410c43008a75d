/- Which blocks are a tipset, which texts are keys: DagTipsets' walk. (PARTS; tools/mk-dhl.py) -/
import Derived.Test.YtemnebbdaljfbaaGreatDoorZ15
set_option linter.unusedVariables false
set_option linter.unusedSimpArgs false
namespace Go.Proofs.YtemnebbdaljfbaaGreatDoor
open Go.RowKit

theorem isort_self {X : List BI} (h : (X.map (·.1)).Pairwise lN) : isort X = X := by
  have hn : (X.map (·.1)).Nodup := h.imp (fun hlt e => by subst e; exact lN_irr _ hlt)
  refine List.Perm.eq_of_pairwise (le := fun x y => leI x y = true) (fun a b ha hb h1 h2 => ?_) (isort_pair X) ((List.pairwise_map.1 h).imp (fun {a b} hab => ?_)) (List.mergeSort_perm X _)
  · unfold leI at h1 h2
    rw [Bool.not_eq_true'] at h1 h2
    exact eq_of_idI hn (isort_mem.1 ha) hb (cfN_total _ _ h2 h1)
  · unfold leI
    rw [Bool.not_eq_true']
    cases hba : ltOf cfN b.1 a.1 with
    | false => rfl
    | true => exact absurd (lN_trans hab hba) (lN_irr _)
theorem tip_link {X : DD} {N : List RBk} (hkl : KL X.K N) (hnd : (X.K.map (·.id)).Nodup) (hid : ∀ b ∈ X.K, b.id = nmH b.h) (hp : ∀ r ∈ N, ∀ p ∈ r.x.h.ps, p.length = 32) {I : List Nm} (hI : I.Pairwise lN) (hall : ∀ n ∈ I, ∃ r ∈ N, r.nm = n.1)
    {Y : List BI} {e : Int} (hT : TipP X.K (kB I) Y e) {ok : Bool} {D : List RH} {e8 : Int} (hH : HdsP N (I.map (·.1)) ok D) (hC : Ck8 D e8) :
    ((I.length = 0 ∨ 5 < I.length) ∧ e = 1 ∧ Y = []) ∨ ((0 < I.length ∧ I.length ≤ 5) ∧ e8 = 15 ∧ e = 15 ∧ Y = []) ∨
      ((0 < I.length ∧ I.length ≤ 5) ∧ e8 = 0 ∧ e = 0 ∧ D ≠ [] ∧ D.length ≤ 5 ∧ Y = D.map blkI ∧ rsort (D.map fun x => nmR x.h) = (D.map fun x => nmR x.h) ∧ ∀ x ∈ D, ∃ r ∈ N, r.x = x) := by
  unfold TipP at hT
  rw [nmsOk_of I hI, pcs_of] at hT
  by_cases hm : I.length = 0 ∨ 5 < I.length
  · left
    have hf : decide (1 ≤ I.length ∧ I.length ≤ 5) = false := by rw [decide_eq_false_iff_not]; omega
    rw [hf] at hT
    rcases hT with ⟨_, h1, h2⟩ | ⟨h, _⟩ | ⟨h, _⟩
    · exact ⟨hm, h1, h2⟩
    · cases h
    · cases h
  · right
    have hm2 : 0 < I.length ∧ I.length ≤ 5 := by omega
    have hf : decide (1 ≤ I.length ∧ I.length ≤ 5) = true := by rw [decide_eq_true_eq]; omega
    rw [hf] at hT
    have hHs : HsP N (I.map (·.1)) D := by
      rcases hH with ⟨_, _, p, hp1, hp2⟩ | ⟨_, h⟩
      · obtain ⟨n, hn, rfl⟩ := List.mem_map.1 hp1
        obtain ⟨r, hr, e1⟩ := hall n hn
        exact absurd e1 (hp2 r hr)
      · exact h
    rcases hT with ⟨h, _⟩ | ⟨_, ⟨n, hn, hno⟩, _⟩ | ⟨_, M, hM, hMK, he, hY⟩
    · cases h
    · have := (hkl.has n).2 (hall n hn)
      rw [this] at hno; cases hno
    · have hMD := hkl.same hnd hM hMK hHs
      have hIn : I.Nodup := hI.imp (fun hlt e => by subst e; exact lN_irr _ hlt)
      have hDN : ∀ x ∈ D, ∃ r ∈ N, r.x = x := fun x hx => by
        obtain ⟨j, hj, rfl⟩ := List.getElem_of_mem hx
        have hj2 : j < (I.map (·.1)).length := by rw [← hHs.1]; exact hj
        obtain ⟨b, hb, _, e2⟩ := hHs.2 j _ (List.getElem?_eq_getElem hj2)
        rw [List.getElem?_eq_getElem hj] at e2
        exact ⟨b, hb, (Option.some.inj e2).symm⟩
      have hpD : ∀ y ∈ D, ∀ p ∈ y.h.ps, p.length = 32 := fun y hy => by
        obtain ⟨r, hr, rfl⟩ := hDN y hy
        exact hp r hr
      have h8 := ck8_newE hMD (by rw [hM]; exact hIn) hpD hC
      have hlM : M.length = I.length := by rw [← hM, List.length_map]
      have hlD : D.length = I.length := by rw [hHs.1, List.length_map]
      have hMX : M.map Blk.is = D.map blkI := by
        have e1 : M.map Blk.is = (M.map (·.h)).map fun h => (nmH h, h) := by
          rw [List.map_map]
          refine List.map_congr_left (fun b hb => ?_)
          show (b.id, b.h) = (nmH b.h, b.h)
          rw [hid b (hMK b hb)]
        rw [e1, hMD, List.map_map]
        rfl
      have hids : (M.map Blk.is).map (·.1) = I := by rw [is_ids, hM]
      have hE : newE (M.map Blk.is) = 0 ∨ newE (M.map Blk.is) = 15 := by
        unfold newE
        rw [if_neg (by rw [List.length_map]; omega), if_neg (by intro h; have := congrArg List.length h; rw [List.length_map, hlM, List.length_nil] at this; omega)]
        split
        · exact .inl rfl
        · exact .inr rfl
      rcases hE with hE | hE
      · right
        refine ⟨hm2, h8.2 hE, he.trans hE, by intro h; rw [h, List.length_nil] at hlD; omega, by omega, ?_, ?_, hDN⟩
        · rw [hY]; unfold newX
          rw [if_pos hE, isort_self (by rw [hids]; exact hI), hMX]
        · rw [← ids_R hpD, ← hMX, hids, rsort_kset, kset_self hI]
      · left
        have he8 : e8 ≠ 0 := fun h => by rw [h8.1 h] at hE; cases hE
        refine ⟨hm2, ?_, he.trans hE, by rw [hY]; unfold newX; rw [if_neg (by rw [hE]; decide)]⟩
        rcases hC with ⟨h, _⟩ | ⟨h, _⟩ | ⟨_, _, h, _⟩ | ⟨_, _, h, _⟩
        · omega
        · omega
        · exact h
        · exact absurd h he8
theorem tip_miss {X : DD} {s : List UInt8} {Y : List BI} {e : Int} (hT : TipP X.K s Y e) :
    (nmsOk s = false ∧ e = 1) ∨ (nmsOk s = true ∧ e = 7 ∧ 0 < (kset ((if nmsOk s then pcs s else []).filter (noK X))).length) ∨ (nmsOk s = true ∧ e ≠ 1 ∧ e ≠ 7 ∧ (kset ((if nmsOk s then pcs s else []).filter (noK X))).length = 0) := by
  rcases hT with ⟨h, h1, _⟩ | ⟨h, ⟨n, hn, hno⟩, h1, _⟩ | ⟨h, M, hM, hMK, he, _⟩
  · exact .inl ⟨h, h1⟩
  · refine .inr (.inl ⟨h, h1, ?_⟩)
    rw [if_pos h]
    have : n ∈ kset ((pcs s).filter (noK X)) := (kset_mem _ _).2 (List.mem_filter.2 ⟨hn, by unfold noK; rw [hno]; rfl⟩)
    exact List.length_pos_of_mem this
  · refine .inr (.inr ⟨h, ?_, ?_, ?_⟩)
    · rw [he]; unfold newE; split
      · decide
      · split
        · decide
        · split <;> decide
    · rw [he]; unfold newE; split
      · decide
      · split
        · decide
        · split <;> decide
    · rw [if_pos h]
      have e0 : (pcs s).filter (noK X) = [] := List.filter_eq_nil_iff.2 (fun n hn => by
        rw [← hM] at hn
        obtain ⟨x, hx, rfl⟩ := List.mem_map.1 hn
        unfold noK
        rw [(kE_has _ _).2 ⟨x, hMK x hx, rfl⟩]; decide)
      rw [e0]
      exact Nat.le_zero.1 (kset_len [])
theorem AdS.flat {w w1 w2 : World} {da : Nat} {hq : Option Addr} {D : List RH} {wr : World} {k : Nat} {L : List RBk} {q : Option Addr} (h : AdS w w1 w2 da hq D wr k L q) : ∀ r ∈ L, kB (kset (ownH r.x.h).ps) = r.x.h.ps.flatten := fun r hr => by
  have hps := own_ps (h.p32 r hr)
  have hpw : (ownH r.x.h).ps.Pairwise lN := by
    rcases h.src r hr with e | ⟨_, hc⟩
    · rw [e]; exact List.Pairwise.nil
    · have h2 := ((chk_zero _ _).1 hc).2
      rw [← own_pl r.x.h, ← hps] at h2
      exact (rs_pair _).1 h2
  rw [kset_self hpw, kB_flat, hps]
set_option maxRecDepth 20000 in
set_option maxHeartbeats 32000000 in
theorem dagTipsets_any (sq : Option Addr) (sc : Nat) (L : List SD) (pq : Option Addr) (pc : Nat) (PL : List Int) (K : List UInt8) (w : World) (hL : Rd encSD w sq L) (hA : ∀ s ∈ L, argS w s) (hl : L.length ≤ 9223372036854775807)
    (hP : Rd encI w pq PL) (hPb : ∀ x ∈ PL, -9223372036854775808 ≤ x ∧ x ≤ 9223372036854775807) (hK : (K.length : Int) ≤ 9223372036854775807) (hT : TabAt w) :
    Calls Tryz.prog 4 #[.slice sq L.length sc, .slice pq PL.length pc, .string ⟨K.toArray⟩] w fun r w' => r = .returned (.bool true) ∧ Below w.heap.size w w' := by
  have HPI := Lib.hid hP
  obtain ⟨pn, hpn⟩ : ∃ pn, pn = PL.length := ⟨_, rfl⟩
  have HPN := Lib.hid hpn
  have HCUT : Hid (∀ u : World, Calls Tryz.prog 25 #[.string ⟨K.toArray⟩, .int .i64 170] u fun r w' => r = .returned (.string ⟨(K.take 170).toArray⟩) ∧ u = w') := Lib.hid (fun u => cut_any K 170 u hK (by decide))
  obtain ⟨KT, hKT⟩ : ∃ KT, KT = K.take 170 := ⟨_, rfl⟩
  have HKT : Hid (KT.length ≤ 170) := Lib.hid (by rw [hKT, List.length_take]; omega)
  rw [← hKT] at HCUT
  rw [← hpn]
  clear hP hpn hPb hK hKT
  have HT := Lib.hid hT
  have HAW := Lib.hid (awake13_any w hT)
  have HNEW := Lib.hid (fun (u : World) (h : TabAt u) => dgnew_any u h)
  have HGRN := Lib.hid (fun (u : World) (hb : Below w.heap.size w u) => grown_any sq sc L 16 u (hL.old hb) (fun s hs => (hA s hs).old hb) (by decide) hl)
  obtain ⟨ln, hln⟩ : ∃ ln, ln = L.length := ⟨_, rfl⟩
  rw [← hln] at HGRN ⊢
  clear hL hA hl hT hln
  go_enter Tryz.func4, Tryz.ntmps4
  go_wp2_with fail
  refine HAW.out.mono ?_
  rintro r w0 ⟨rfl, hb0⟩
  have HB0 := Lib.hid hb0
  clear hb0 HAW
  go_wp2_with fail
  refine (HNEW.out w0 (HT.out.old HB0.out)).mono ?_
  rintro r w1 ⟨da, rfl, S, R, X, hdg, hgen, hR, hb1⟩
  have HD0 := Lib.hid hdg
  have HGEN := Lib.hid hgen
  have HR0 : Hid (∀ k, R k → w.heap.size ≤ k) := Lib.hid (fun k hk => Nat.le_trans HB0.out.size (hR k hk))
  have HB1 := Lib.hid (HB0.out.trans (hb1.mono HB0.out.size))
  clear hdg hgen hR hb1 HNEW
  have HGN := Lib.hid (rgenesis_any w1)
  obtain ⟨bg, hbg⟩ : ∃ bg : RBk, bg = ⟨nmR grh.h, grh⟩ := ⟨_, rfl⟩
  have HBG := Lib.hid hbg
  rw [← hbg] at HGN
  clear hbg
  go_upto_region 4 with fail
  go_wp2_with fail
  refine HGN.out.mono ?_
  rintro r wg ⟨rfl, hbg1⟩
  have hbg2 := alloc1 wg (.cells bg.cells.toArray 31)
  have HBG2 := Lib.hid (hbg1.trans (hbg2.mono hbg1.size))
  have HQG : Hid (w1.heap.size ≤ wg.heap.size) := Lib.hid hbg1.size
  have HRG : Hid (Rd encRB (wg.alloc (.cells bg.cells.toArray 31)) (some ⟨wg.heap.size, 0, none⟩) [bg]) := Lib.hid (by have := Rd.made encRB wg 31 [bg] (by simp [maxLen]); rw [encRB_one] at this; exact this)
  clear hbg1 hbg2 HGN
  go_upto_region 5 with (refine wpList_exec rfl (build_rbs (.tmp 26) rfl bg rfl) ?_; go_frame)
  obtain ⟨wh, hwh⟩ : ∃ wh, wh = wg.alloc (.cells bg.cells.toArray 31) := ⟨_, rfl⟩
  obtain ⟨gL, hgL⟩ : ∃ gL, gL = wg.heap.size := ⟨_, rfl⟩
  rw [← hwh, ← hgL] at HRG
  rw [← hwh] at HBG2
  rw [← hgL] at HQG
  rw [← hwh, ← hgL]
  clear hwh hgL
  have HBH := Lib.hid (HB1.out.trans (HBG2.out.mono HB1.out.size))
  go_upto_region 7 with fail
  go_wp2_with fail
  refine (HGRN.out wh HBH.out).mono ?_
  rintro r w2 ⟨hn, hq, hc, D, hn16, rfl, hG⟩
  have HDN : Hid (hn = D.length) := Lib.hid hG.len.symm
  have HBT : Hid (BtH wh w2 hq D) := Lib.hid ⟨fun a e => ⟨hG.f a e, by have := hG.rw; rw [e] at this; exact this.lt⟩, fun y hy z e => ⟨hG.fr y hy z e, by
    obtain ⟨cur, hcu⟩ := (hG.ok y hy).t z e
    exact (Array.getElem?_eq_some_iff.1 hcu).1⟩⟩
  have HBW2 := Lib.hid (HBH.out.trans (hG.b.mono HBH.out.size))
  have H0 : Hid (AdS w wh w2 da hq D w2 0 [bg] (some ⟨gL, 0, none⟩)) := Lib.hid ⟨⟨S, R, X, (HD0.out.old HBG2.out).old hG.b, by rw [HBG.out]; exact KL.gen HGEN.out, (by
      obtain ⟨b, hX, h1, h2⟩ := gen_mem HGEN.out
      intro b' hb'
      rw [hX] at hb'
      rw [List.mem_singleton.1 hb', h1, h2]), (fun j hj => ⟨HR0.out j hj, .inl (Nat.lt_of_lt_of_le (HD0.out.rl j hj) HBG2.out.size)⟩), (fun a e hr => by cases e; have h1 : gL < w1.heap.size := HD0.out.rl _ hr; have := HQG.out; omega)⟩, HRG.out.old hG.b, (by simp), (by simp), (fun r hr => by rw [List.mem_singleton.1 hr, HBG.out]; exact .inl rfl), hG.rw.rd, hG.ok, HBW2.out, Nat.le_refl _⟩
  clear hG HGRN HD0 HGEN HR0
  go_wp2_with fail
  go_loopw [8, 33] (fun s8 s33 wr => ∃ (k : Nat) (N : List RBk) (q : Option Addr) (c : Nat), k ≤ hn ∧ N.length ≤ 1 + k ∧ s33 = .int .i64 (k : Int) ∧ s8 = .slice q N.length c ∧ Hid (AdS w wh w2 da hq D wr k N q)) (fun _ s33 _ => hn - (intOf s33).toNat)
  case atStart => exact ⟨0, [bg], _, 1, by omega, by simp, rfl, rfl, H0⟩
  case round =>
    clear H0
    obtain ⟨k, N, q, c, hkn, hNk, rfl, rfl, HS⟩ := hrel
    have k0 : (0 : Int) ≤ k := by omega
    obtain ⟨nn, hnn⟩ : ∃ nn, nn = N.length := ⟨_, rfl⟩
    have HNN := Lib.hid hnn
    rw [← hnn] at hNk ⊢
    clear hnn
    by_cases hlt : k < hn
    · have hlt' : (k : Int) < hn := by omega
      obtain ⟨bs, off, rfl, hbs, cx⟩ := HS.out.hd k (by have := HDN.out; omega)
      obtain ⟨y, hy⟩ : ∃ y, y = D[k]'(by have := HDN.out; omega) := ⟨_, rfl⟩
      rw [← hy] at cx
      have HYD : Hid (y ∈ D) := Lib.hid (by rw [hy]; exact List.getElem_mem _)
      have HYK : Hid (okH wr y) := Lib.hid (HS.out.ok y HYD.out)
      have HCL : Hid (∀ i u, y.cells[i]? = some u → wr.cell? ⟨bs, off + k * 7 + i, none⟩ = some u) := Lib.hid cx
      have HYS : Hid (y.cells.toArray.size = 7) := Lib.hid rfl
      have HYI := Lib.hid (rh_info y)
      have HYO : Hid (∀ v ∈ y.cells.toArray.toList, v.oneCell' = true) := Lib.hid y.one
      clear hy cx hbs
      go_upto_region 10 with (first
        | (refine wpList_exec rfl (exec_load_rhm (.tmp 35) rfl bs (off + k * 7) rfl y HCL.out) ?_; go_frame)
        | (refine wpList_store_row rfl rfl 29 (.tmp 10) (.tmp 36) rfl wr.heap.size rfl 29 _ y.cells.toArray rfl (heap_alloc_new wr _) HYS.out.symm HYI.out HYO.out ?_))
      refine wp_gen (fun W5 => W5.heap[wr.heap.size]? = some (.cells y.cells.toArray 29 (0, 0)) ∧ Below wr.heap.size wr W5) (row_new wr _ _ y.cells.toArray 29 rfl) (fun W5 hW5 => ?_)
      obtain ⟨hr5, hb5⟩ := hW5
      obtain ⟨g6, hg6⟩ : ∃ g6, g6 = wr.heap.size := ⟨_, rfl⟩
      rw [← hg6] at hr5
      rw [← hg6]
      have HG6 := Lib.hid hg6
      have HBR5 := Lib.hid hb5
      have HOW : Hid (∀ u : World, Below wr.heap.size wr u → Calls Tryz.prog 13 #[.agg y.cells.toArray] u fun r w' => ∃ q c, r = .returned (.agg (hcells (ownH y.h) q c)) ∧ Rw encN 70 w' q c (ownH y.h).ps ∧ Below u.heap.size u w' ∧ ∀ a, q = some a → u.heap.size ≤ a.block) := Lib.hid (fun u hb => own_any y.h y.q y.c u (HYK.out.a.rd.old hb) (by have := HYK.out.n; omega))
      have HOK : Hid (HOk (ownH y.h)) := Lib.hid (by
        have h1 := HYK.out.n
        have h2 := HYK.out.k
        have h3 := HYK.out.a
        exact ⟨by show (y.h.ps.map nmOf).length ≤ _; rw [List.length_map]; omega, by show y.h.tk.length ≤ _; omega, h3.pw, h3.b1, h3.b2, h3.b3, h3.b4⟩)
      obtain ⟨YC, hYC⟩ : ∃ YC, YC = y.cells.toArray := ⟨_, rfl⟩
      rw [← hYC] at HOW HYI hr5
      have HYC := Lib.hid hYC
      have HR5 := Lib.hid hr5
      obtain ⟨S, R, X, hdg, hkl, hid, hR, hnR⟩ := HS.out.dg
      have HDG := Lib.hid hdg
      have HKL := Lib.hid hkl
      have HID := Lib.hid hid
      have HRR := Lib.hid hR
      have HNR := Lib.hid hnR
      have HBR : Hid (∀ e e', ChkP X.K (ownH y.h) e → RkP N y e' → e = e') := Lib.hid (fun e e' h1 h2 => chk_bridge hkl hdg.nodup HYK.out.p HS.out.p32 HS.out.hts h1 h2)
      clear hr5 hb5 hg6 hYC HCL hdg hkl hid hR hnR
      go_upto_region 10 with fail
      go_upto_region 11 with (refine wpList_exec rfl (exec_load_row 29 (.tmp 10) rfl g6 rfl 29 YC (0, 0) _ HR5.out Tryz.underlying29 rfl HYI.out) ?_)
      refine (HOW.out W5 HBR5.out).mono ?_
      rintro r W6 ⟨oq, oc, rfl, hor, hb6, _⟩
      obtain ⟨HC, hHC⟩ : ∃ HC, HC = hcells (ownH y.h) oq oc := ⟨_, rfl⟩
      have HBR6 := Lib.hid (HBR5.out.trans (hb6.mono HBR5.out.size))
      have HR6 := Lib.hid ((hb6.block g6 (Array.getElem?_eq_some_iff.1 HR5.out).1).trans HR5.out)
      have HADD := Lib.hid (dgadd_any (HDG.out.old HBR6.out) (ownH y.h) oq oc hor.rd hor.ao HOK.out (by rw [HKL.out.len]; have := HNN.out; omega) (HT.out.old (HS.out.b.trans (HBR6.out.mono HS.out.b.size))))
      rw [← hHC] at HADD
      rw [← hHC]
      clear hHC hor hb6
      go_upto_region 11 with fail
      refine HADD.out.mono ?_
      rintro r W7 ⟨e4, rfl, hk4, hp4⟩
      have HK4 := Lib.hid hk4
      have HP4 := Lib.hid hp4
      have HMID : Hid (Rd encRB W7 q N ∧ (∀ r ∈ N, fmR W7 r.x) ∧ okH W7 y ∧ W7.heap[g6]? = some (.cells YC 29 (0, 0))) := Lib.hid (by
        have hg6 := HG6.out
        rcases hp4 with ⟨_, hb7⟩ | ⟨_, hA⟩
        · have hb := HBR6.out.trans (hb7.mono HBR6.out.size)
          exact ⟨HS.out.rd.old hb, fun r hr => (HS.out.fm r hr).old hb, HYK.out.old hb, (hb7.block g6 (Array.getElem?_eq_some_iff.1 HR6.out).1).trans HR6.out⟩
        · obtain ⟨S', R', F', b, _, _, hm, _⟩ := hA
          obtain ⟨m1, m2, m3⟩ := HS.out.mid HBT.out HDG.out HRR.out HNR.out HBR6.out HYD.out hm
          exact ⟨m1, m2, m3, (hm.block g6 (Array.getElem?_eq_some_iff.1 HR6.out).1 (fun hs => by have := HDG.out.rl _ (HDG.out.rs _ hs); omega)).trans HR6.out⟩)
      have HRA := Lib.hid (r13add_any q c N y W7 HMID.out.1 (by have := HNN.out; omega) HS.out.pos HMID.out.2.1 HMID.out.2.2.1)
      rw [← HNN.out, ← HYC.out] at HRA
      have HR7 := Lib.hid HMID.out.2.2.2
      clear hk4 hp4 HADD HR6
      go_upto_region 11 with fail
      go_upto_region 12 with (refine wpList_exec rfl (exec_load_row 29 (.tmp 10) rfl g6 rfl 29 YC (0, 0) _ HR7.out Tryz.underlying29 rfl HYI.out) ?_)
      refine HRA.out.mono ?_
      rintro r W8 ⟨q2, c2, N2, e3, rfl, hk3, hN2, hrd2, hf2, hb8⟩
      obtain rfl : e4 = e3 := HBR.out e4 e3 HK4.out hk3
      have HNX : Hid (AdS w wh w2 da (some ⟨bs, off, none⟩) D W8 (k + 1) N2 q2) := Lib.hid (by
        rcases HP4.out with ⟨h0, hb7⟩ | ⟨h0, hA⟩
        · rcases hN2 with ⟨_, e⟩ | ⟨e, _⟩
          · subst e
            have hb := HBR6.out.trans (hb7.mono HBR6.out.size)
            exact (HS.out.swap (hb.trans (hb8.mono hb.size)) hrd2 (fun a e => (hf2 a e).elim .inl (fun h => .inr (Nat.le_trans hb.size h)))).more
          · exact absurd e h0
        · rcases hN2 with ⟨e, _⟩ | ⟨_, e⟩
          · exact absurd h0 e
          · subst h0
            subst e
            exact HS.out.add2 HBT.out HDG.out HKL.out HID.out HRR.out HNR.out HBR6.out HYD.out hk3.zero hA hb8 hrd2 hf2)
      obtain ⟨n2, hn2⟩ : ∃ n2, n2 = N2.length := ⟨_, rfl⟩
      have HN2 := Lib.hid hn2
      rw [← hn2]
      clear hn2 hk3 hN2 hrd2 hf2 hb8 HRA HP4 HK4 HMID
      go_wp2_with fail
      go_roundw
      case rel => exact ⟨k + 1, N2, q2, c2, by omega, HNX.out.len, by go_num, by rw [HN2.out], HNX⟩
      case measure => simp [intOf] <;> omega
    · obtain rfl : k = hn := by omega
      have hlt' : ¬ (k : Int) < k := by omega
      clear hlt
      obtain ⟨S, R, X, hdg, hkl, hid, _, _⟩ := HS.out.dg
      have HDG := Lib.hid hdg
      have HKL := Lib.hid hkl
      have HID := Lib.hid hid
      have HNPOS : Hid (0 < nn) := Lib.hid (by have := HS.out.pos; have := HNN.out; omega)
      have HTK : Hid (∀ u : World, Below wr.heap.size wr u → Calls Tryz.prog 19 #[.pointer (some ⟨da, 0, none⟩), .string ⟨KT.toArray⟩] u fun r w' => ∃ (v : Value) (ln ml : Nat) (isb : Bool) (f : Int), r = .returned (.tuple #[.agg #[v], .int .i64 f]) ∧
          (Hid (∀ u' : World, Below wr.heap.size wr u' → Calls Tryz.prog 26 #[.string ⟨KT.toArray⟩] u' fun r w' => ∃ q c, r = .returned (.tuple #[.slice q ln c, .bool isb]) ∧ Rw encN 70 w' q c (if nmsOk KT then pcs KT else []) ∧ Below u'.heap.size u' w') ∧ ∀ x ∈ (#[v] : Array Value).toList, x.oneCell' = true) ∧
          Hid (∀ (q : Option Addr) (c : Nat) (u' : World), Below wr.heap.size wr u' → Rw encN 70 u' q c (if nmsOk KT then pcs KT else []) → Calls Tryz.prog 27 #[.pointer (some ⟨da, 0, none⟩), .slice q ln c] u' fun r w' => ∃ q2 c2, r = .returned (.slice q2 ml c2) ∧ Below u'.heap.size u' w') ∧
          ((isb = false ∧ f = 1) ∨ (isb = true ∧ f = 7 ∧ 0 < ml) ∨ (isb = true ∧ f ≠ 1 ∧ f ≠ 7 ∧ ml = 0)) ∧ Below u.heap.size u w') := Lib.hid (fun u hb => by
        have hk := HKT.out
        refine (dgtipset_any (hdg.old hb) KT (by omega)).mono ?_
        rintro r w' ⟨v, Y, e, rfl, hv, ht, hb'⟩
        refine ⟨v, (if nmsOk KT then pcs KT else []).length, (kset ((if nmsOk KT then pcs KT else []).filter (noK X))).length, nmsOk KT, e, rfl, ⟨Lib.hid (fun u' hu' => ?_), ?_⟩, Lib.hid (fun q c u' hu' hr => ?_), ?_, hb'⟩
        · refine (hnames_any KT u' (by omega)).mono ?_
          rintro r w' ⟨q, c, P, rfl, hP, hr, _, hb3⟩
          subst hP
          exact ⟨q, c, rfl, hr, hb3⟩
        · obtain ⟨p, c, Lx, rfl, _⟩ := hv
          intro x hx
          rw [List.mem_singleton.1 hx]; rfl
        · have hln : (if nmsOk KT then pcs KT else []).length ≤ 1000000 := by
            split
            · show ((List.range (KT.length / 32)).map _).length ≤ _
              rw [List.length_map, List.length_range]; omega
            · exact Nat.zero_le _
          refine (dgmissing_any (hdg.old hu') q c _ hr.rd hr.addr hln).mono ?_
          rintro r w' ⟨q2, c2, rfl, _, hb3⟩
          exact ⟨q2, c2, rfl, hb3⟩
        · exact tip_miss ht)
      clear hdg hkl hid
      go_upto_block 2 with fail
      go_cut [11, 12] from 48 to 77 (fun s11 s12 wx => ∃ (m : Nat) (q5 : Option Addr) (c5 : Nat) (P : List (List UInt8)), m ≤ 7 ∧ s11 = .slice q5 m c5 ∧ Hid (AccR encS 9 wr m P q5 c5 wx ∧ ∀ p ∈ P, ∃ r ∈ N, r.nm = p))
      case first =>
        have H00 : Hid (AccR encS 9 wr 0 [] none 0 wr ∧ ∀ p ∈ ([] : List (List UInt8)), ∃ r ∈ N, r.nm = p) := Lib.hid ⟨AccR.zero _ _ _, fun p hp => by cases hp⟩
        go_wp2_with fail
        go_loopw [11, 12] (fun s11 s12 wx => ∃ (i : Nat) (q5 : Option Addr) (c5 : Nat) (P : List (List UInt8)), i ≤ 7 ∧ s12 = .int .i64 (i : Int) ∧ s11 = .slice q5 i c5 ∧ Hid (AccR encS 9 wr i P q5 c5 wx ∧ ∀ p ∈ P, ∃ r ∈ N, r.nm = p)) (fun _ s12 _ => 7 - (intOf s12).toNat)
        case atStart => exact ⟨0, none, 0, [], by omega, rfl, rfl, H00⟩
        case round =>
          clear H00
          rename World => wx
          obtain ⟨i, q5, c5, P, hi7, rfl, rfl, HA⟩ := hrel
          have i0 : (0 : Int) ≤ i := by omega
          by_cases h1 : i < pn
          · have h1' : (i : Int) < pn := by omega
            by_cases h2 : i < 7
            · have h2' : (i : Int) < 7 := by omega
              have hwi : IntKind.i64.wrap ((i : Int) + 1) = (i : Int) + 1 := IntWalk.i64_in _ (by omega)
              have hnp := HNPOS.out
              have hn17 : nn ≤ 17 := by omega
              have hkp : (0 : Int) < (nn : Int) := by omega
              have hkz : ((nn : Int) == 0) = false := by simp; omega
              have hkn : ¬ (nn : Int) = 0 := by omega
              obtain ⟨bs, off, hpq, hbs, cx⟩ := rd_int (HPI.out.old (HS.out.b.trans (HA.out.1.m.mono HS.out.b.size))) i (by have := HPN.out; omega)
              obtain ⟨z, hz⟩ : ∃ z, z = PL[i]'(by have := HPN.out; omega) := ⟨_, rfl⟩
              rw [← hz] at cx
              obtain ⟨r1, hr1, hra, hrb⟩ : ∃ r : Int, Int.tmod z (nn : Int) = r ∧ -(nn : Int) < r ∧ r < (nn : Int) := ⟨_, rfl, by
                by_cases ht : 0 ≤ z
                · have := Int.tmod_nonneg (nn : Int) ht; omega
                · have h1 := Int.tmod_lt_of_pos (-z) hkp
                  rw [Int.neg_tmod] at h1; omega, Int.tmod_lt_of_pos _ hkp⟩
              have hw1 : IntKind.i64.wrap (r1 + (nn : Int)) = r1 + nn := IntWalk.i64_in _ (by omega)
              have hw2 : IntKind.i64.wrap r1 = r1 := IntWalk.i64_in _ (by omega)
              obtain ⟨j, hj, hjk⟩ : ∃ j : Nat, Int.tmod (r1 + (nn : Int)) (nn : Int) = (j : Int) ∧ j < nn := by
                have h1 := Int.tmod_nonneg (nn : Int) (show 0 ≤ r1 + (nn : Int) by omega)
                have h2 := Int.tmod_lt_of_pos (r1 + (nn : Int)) hkp
                exact ⟨(Int.tmod (r1 + (nn : Int)) (nn : Int)).toNat, by omega, by omega⟩
              have hwj : IntKind.i64.wrap (j : Int) = j := IntWalk.i64_in _ (by omega)
              have j0 : (0 : Int) ≤ j := by omega
              have j1 : (j : Int) < nn := by omega
              obtain ⟨lb, loff, hlq, hlb, cl⟩ := (HS.out.rd.old HA.out.1.m) j (by have := HNN.out; omega)
              obtain ⟨y, hy⟩ : ∃ y, y = N[j]'(by have := HNN.out; omega) := ⟨_, rfl⟩
              rw [← hy] at cl
              obtain ⟨nm, hnm⟩ : ∃ nm, nm = y.nm := ⟨_, rfl⟩
              have HMEM : Hid (∃ r ∈ N, r.nm = nm) := Lib.hid ⟨y, by rw [hy]; exact List.getElem_mem _, hnm.symm⟩
              have hcell : wx.cell? ⟨lb, loff + j * 8, none⟩ = some (.string ⟨nm.toArray⟩) := by rw [hnm]; exact cl 0 _ rfl
              subst hpq
              subst hlq
              have hb6 := alloc1 wx (.cells #[.string ⟨nm.toArray⟩] 9)
              have HA6 := Lib.hid (HA.out.1.below hb6)
              have HDL : Hid (P.length = i) := Lib.hid HA.out.1.len
              have HRD : Hid (Rd encS (wx.alloc (.cells #[.string ⟨nm.toArray⟩] 9)) (some ⟨wx.heap.size, 0, none⟩) [nm]) := Lib.hid (Rd.made encS wx 9 [nm] (by simp [maxLen]))
              have HNB : Hid (i + 1 ≤ 100000000000) := Lib.hid (by omega)
              clear hy cl hnm hb6 hz hbs hlb hnp hn17
              go_wp2_with (at_builtin; refine wpList_pushR encS rfl (.tmp 58) (.tmp 76) 27 9 (.string ⟨#[]⟩) 16 rfl Tryz.underlying27 info_strH rfl (by decide) q5 c5 i P HDL.out rfl HA6.out.s (some ⟨wx.heap.size, 0, none⟩) 1 1 [nm] rfl rfl HRD.out HNB.out ?_; intro q2 c2 w6 hP; have HP := Lib.hid hP; clear hP; go_frame)
              have HA7 : Hid (AccR encS 9 wr (i + 1) (P ++ [nm]) q2 c2 w6 ∧ ∀ p ∈ P ++ [nm], ∃ r ∈ N, r.nm = p) := Lib.hid ⟨HA6.out.push HP.out, fun p hp => by
                rcases List.mem_append.1 hp with h | h
                · exact HA.out.2 p h
                · rw [List.mem_singleton.1 h]; exact HMEM.out⟩
              clear HP HA6 HRD
              go_roundw
              case rel => exact ⟨i + 1, q2, c2, P ++ [nm], by omega, by go_num, rfl, HA7⟩
              case measure => simp [intOf]; omega
            · have h2' : ¬ (i : Int) < 7 := by omega
              go_wp2_with fail
              go_meet
              case rel => exact ⟨i, q5, c5, P, hi7, rfl, HA⟩
          · have h1' : ¬ (i : Int) < pn := by omega
            go_wp2_with fail
            go_meet
            case rel => exact ⟨i, q5, c5, P, hi7, rfl, HA⟩
      case rest =>
        obtain ⟨m, q5, c5, P, hm7, rfl, HA⟩ := hcut
        have HBC : Hid (Below wr.heap.size wr wc) := Lib.hid HA.out.1.m
        have hp32 : ∀ p ∈ P, p.length = 32 := fun p hp => by
          obtain ⟨r, hr, e1⟩ := HA.out.2 p hp
          obtain ⟨b, _, e2, _⟩ := HKL.out.lk r hr
          rw [← e1, ← e2]; exact b.id.2
        obtain ⟨I, hI⟩ : ∃ I : List Nm, I = kset (P.map nmOf) := ⟨_, rfl⟩
        have hIs : I.Pairwise lN := by rw [hI]; exact kset_strict _
        have hIP : rsort P = I.map (·.1) := by rw [hI, ← rsort_kset, own_rs _ hp32]
        have hall : ∀ n ∈ I, ∃ r ∈ N, r.nm = n.1 := fun n hn => by
          have : n.1 ∈ rsort P := by rw [hIP]; exact List.mem_map_of_mem hn
          exact HA.out.2 _ (rsort_mem P _ this)
        obtain ⟨PN, hPN⟩ : ∃ PN, PN = I.map (·.1) := ⟨_, rfl⟩
        obtain ⟨m2, hm2⟩ : ∃ m2, m2 = I.length := ⟨_, rfl⟩
        have hPl : PN.length = m2 := by rw [hPN, List.length_map, hm2]
        have hm27 : m2 ≤ 7 := by
          have h1 := rsort_len P
          have h2 := HA.out.1.len
          rw [hIP, List.length_map, ← hm2] at h1; omega
        have hJK : PN.flatten = kB I := by rw [hPN, kB_flat]
        have hJl : (kB I).length ≤ 1000000 := by rw [kB_len, ← hm2]; omega
        have HSRT := Lib.hid (rsorts_any q5 c5 P wc HA.out.1.s.rd (by have := HA.out.1.len; omega))
        rw [HA.out.1.len, hIP, ← hPN, hPl] at HSRT
        obtain ⟨JK, hJ⟩ : ∃ JK, JK = kB I := ⟨_, rfl⟩
        have HJN : Hid (∀ (q : Option Addr) (c : Nat) (u : World), Rd encS u q PN → Calls Tryz.prog 20 #[.slice q m2 c] u fun r w' => r = .returned (.string ⟨JK.toArray⟩) ∧ u = w') := Lib.hid (fun q c u h => by
          have h1 := rjoin_any q c PN u h (by omega) (by rw [hJK]; omega)
          rw [hPl, hJK, ← hJ] at h1; exact h1)
        have HTI : Hid (∀ u : World, Below wr.heap.size wr u → Calls Tryz.prog 19 #[.pointer (some ⟨da, 0, none⟩), .string ⟨JK.toArray⟩] u fun r w' => ∃ v Y e, r = .returned (.tuple #[.agg #[v], .int .i64 e]) ∧ TsV w' v Y ∧ TipP X.K (kB I) Y e ∧ Below u.heap.size u w') := Lib.hid (fun u hb => by
          rw [hJ]; exact dgtipset_any (HDG.out.old hb) (kB I) hJl)
        have HHD : Hid (∀ (q6 : Option Addr) (c6 : Nat) (u : World), Below wr.heap.size wr u → Rd encS u q6 PN → Calls Tryz.prog 21 #[.slice q nn c, .slice q6 m2 c6] u fun r w' => ∃ q c D ok, r = .returned (.tuple #[.slice q D.length c, .bool ok]) ∧ HdsP N PN ok D ∧ Rd encR w' q D ∧ Below u.heap.size u w') := Lib.hid (fun q6 c6 u hb h => by
          have h1 := rheaders_any q c N q6 c6 PN u (HS.out.rd.old hb) (by have := HNN.out; omega) h (by omega)
          rw [← HNN.out, hPl] at h1; exact h1)
        have HTL : Hid (∀ (Y : List BI) (e : Int) (ok : Bool) (D2 : List RH) (e8 : Int), TipP X.K (kB I) Y e → HdsP N PN ok D2 → Ck8 D2 e8 → ((m2 = 0 ∨ 5 < m2) ∧ e = 1 ∧ Y = []) ∨ ((0 < m2 ∧ m2 ≤ 5) ∧ e8 = 15 ∧ e = 15 ∧ Y = []) ∨
            ((0 < m2 ∧ m2 ≤ 5) ∧ e8 = 0 ∧ e = 0 ∧ D2 ≠ [] ∧ D2.length ≤ 5 ∧ Y = D2.map blkI ∧ rsort (D2.map fun x => nmR x.h) = (D2.map fun x => nmR x.h) ∧ ∀ x ∈ D2, ∃ r ∈ N, r.x = x)) := Lib.hid (fun Y e ok D2 e8 h1 h2 h3 => by
          rw [hPN] at h2
          rw [hm2]
          exact tip_link HKL.out HDG.out.nodup HID.out HS.out.p32 hIs hall h1 h2 h3)
        have HFM : Hid (∀ (u : World) (ok : Bool) (D2 : List RH), Below wr.heap.size wr u → HdsP N PN ok D2 → ∀ x ∈ D2, fmR u x) := Lib.hid (fun u ok D2 hb h x hx => by
          rcases h with ⟨_, e, _⟩ | ⟨_, h⟩
          · rw [e] at hx; cases hx
          · obtain ⟨j, hj, rfl⟩ := List.getElem_of_mem hx
            have hj2 : j < PN.length := by rw [← h.1]; exact hj
            obtain ⟨b, hb2, _, e2⟩ := h.2 j _ (List.getElem?_eq_getElem hj2)
            rw [List.getElem?_eq_getElem hj] at e2
            rw [Option.some.inj e2]
            exact (HS.out.fm b hb2).old hb)
        clear hp32 hI hIs hIP hall hPN hm2 hPl hJK hJl hJ HA
        go_wp2_with fail
        refine HSRT.out.mono ?_
        rintro r u1 ⟨q6, c6, rfl, hr6, _, hb1⟩
        have HU1 := Lib.hid (HBC.out.trans (hb1.mono HBC.out.size))
        have HP1 := Lib.hid hr6.rd
        have HJ1 := Lib.hid (HJN.out q6 c6 u1 hr6.rd)
        clear hr6 hb1 HSRT HJN
        go_wp2_with fail
        refine HJ1.out.mono ?_
        rintro r u2 ⟨rfl, rfl⟩
        go_wp2_with fail
        refine (HTI.out u1 HU1.out).mono ?_
        rintro r u3 ⟨v, Y, e, rfl, hv, ht, hb3⟩
        have HV3 := Lib.hid hv
        have HTP := Lib.hid ht
        have HU3 := Lib.hid (HU1.out.trans (hb3.mono HU1.out.size))
        have HP3 := Lib.hid (HP1.out.old hb3)
        have HONV : Hid (∀ x ∈ (#[v] : Array Value).toList, x.oneCell' = true) := Lib.hid (by
          obtain ⟨p', c', L', e, _⟩ := hv
          intro x hx
          rw [e] at hx
          rw [List.mem_singleton.1 hx]; rfl)
        have HSIV : Hid ((Tryz.prog.info? 52).map (·.size) = some (#[v] : Array Value).size) := Lib.hid (ts_info v)
        clear hv ht hb3 HJ1 HTI
        go_upto_region 20 with (refine wpList_store_row rfl rfl 52 (.tmp 13) (.tmp 85) rfl u3.heap.size rfl 52 _ #[v] rfl (heap_alloc_new u3 _) rfl HSIV.out HONV.out ?_)
        refine wp_gen (fun W34 => W34.heap[u3.heap.size]? = some (.cells #[v] 52 (0, 0)) ∧ Below u3.heap.size u3 W34) (row_new u3 _ _ #[v] 52 rfl) (fun u4 hu4 => ?_)
        obtain ⟨hr4, hb4⟩ := hu4
        obtain ⟨g13, hg13⟩ : ∃ g13, g13 = u3.heap.size := ⟨_, rfl⟩
        rw [← hg13] at hr4
        rw [← hg13]
        have HR4 := Lib.hid hr4
        have HV4 := Lib.hid (HV3.out.old hb4)
        have HU4 := Lib.hid (HU3.out.trans (hb4.mono HU3.out.size))
        have HHD4 := Lib.hid (HHD.out q6 c6 u4 HU4.out (HP3.out.old hb4))
        clear hr4 hb4 hg13 HV3 HU3 HP3 HONV HHD HP1
        go_wp2_with fail
        refine HHD4.out.mono ?_
        rintro r u5 ⟨q7, c7, D2, ok, rfl, hH, hr7, hb5⟩
        have HH := Lib.hid hH
        have HU5 := Lib.hid (HU4.out.trans (hb5.mono HU4.out.size))
        have HD5 := Lib.hid hr7
        have HV5 := Lib.hid (HV4.out.old hb5)
        have HR5 := Lib.hid ((hb5.block g13 (Array.getElem?_eq_some_iff.1 HR4.out).1).trans HR4.out)
        have HC8 := Lib.hid (r8check_any q7 c7 D2 u5 hr7 (HFM.out u5 ok D2 HU5.out hH))
        obtain ⟨d2, hd2⟩ : ∃ d2, d2 = D2.length := ⟨_, rfl⟩
        have HD2 := Lib.hid hd2
        rw [← hd2] at HC8
        rw [← hd2]
        clear hH hr7 hb5 HHD4 HV4 HR4 hd2
        go_wp2_with fail
        refine HC8.out.mono ?_
        rintro r u6 ⟨e8, rfl, hC, hb6⟩
        have HU6 := Lib.hid (HU5.out.trans (hb6.mono HU5.out.size))
        have HD6 := Lib.hid (HD5.out.old hb6)
        have HV6 := Lib.hid (HV5.out.old hb6)
        have HR6 := Lib.hid ((hb6.block g13 (Array.getElem?_eq_some_iff.1 HR5.out).1).trans HR5.out)
        have HTLC := Lib.hid (HTL.out Y e ok D2 e8 HTP.out HH.out hC)
        have HFM6 := Lib.hid (HFM.out u6 ok D2 HU6.out HH.out)
        have HFLT := Lib.hid HS.out.flat
        clear hC hb6 HC8 HV5 HR5 HD5 HTL HTP HH HFM
        rcases HTLC.out with ⟨hmm, rfl, rfl⟩ | ⟨⟨hm0, hm5⟩, rfl, rfl, rfl⟩ | ⟨⟨hm0, hm5⟩, rfl, rfl, hD0, hDl, hYD, hRS, hDN⟩
        · have HZ := Lib.hid (HV6.out.zero)
          rw [show decide (([] : List BI) = []) = true from rfl] at HZ
          clear HTLC
          rcases hmm with rfl | hm5
          · go_upto_region 24 with fail
            go_wp2_with (refine wpList_load_rowG rfl 52 (.tmp 13) rfl g13 rfl 52 #[v] (0, 0) _ HR6.out Tryz.underlying52 rfl HSIV.out ?_)
            refine HZ.out.mono ?_
            rintro r u7 ⟨rfl, hb7⟩
            have HU7 := Lib.hid (HU6.out.trans (hb7.mono HU6.out.size))
            clear hb7 HZ
            go_upto_region 26 with fail
            go_wp2_with fail
            refine (HCUT.out u7).mono ?_
            rintro r u1 ⟨rfl, rfl⟩
            go_wp2_with fail
            refine (HTK.out u7 HU7.out).mono ?_
            rintro r u2 ⟨v2, ln, ml, isb, f, rfl, HNMS, HMIS, hf, hb2⟩
            have HF := Lib.hid hf
            have HU2 := Lib.hid (HU7.out.trans (hb2.mono HU7.out.size))
            have HSI2 : Hid ((Tryz.prog.info? 52).map (·.size) = some (#[v2] : Array Value).size) := Lib.hid (ts_info v2)
            have HON2 := Lib.hid HNMS.2
            have HNMS2 := Lib.hid HNMS.1.out
            clear hf hb2 HNMS
            go_upto_region 28 with (refine wpList_store_row rfl rfl 52 (.tmp 18) (.tmp 131) rfl u2.heap.size rfl 52 _ #[v2] rfl (heap_alloc_new u2 _) rfl HSI2.out HON2.out ?_)
            refine wp_gen (fun W34 => W34.heap[u2.heap.size]? = some (.cells #[v2] 52 (0, 0)) ∧ Below u2.heap.size u2 W34) (row_new u2 _ _ #[v2] 52 rfl) (fun u3 hu3 => ?_)
            have HU3 := Lib.hid (HU2.out.trans (hu3.2.mono HU2.out.size))
            clear hu3 HSI2 HON2 HU2
            go_wp2_with fail
            refine (HNMS2.out u3 HU3.out).mono ?_
            rintro r u4 ⟨qn, cn, rfl, hn4, hb4⟩
            have HU4 := Lib.hid (HU3.out.trans (hb4.mono HU3.out.size))
            have HM4 := Lib.hid (HMIS.out qn cn u4 HU4.out hn4)
            clear hn4 hb4 HNMS2 HMIS HU3
            go_wp2_with fail
            refine HM4.out.mono ?_
            rintro r u5 ⟨qm, cm, rfl, hb5⟩
            have HU5 := Lib.hid (HS.out.b.trans ((HU4.out.trans (hb5.mono HU4.out.size)).mono HS.out.b.size))
            clear hb5 HM4 HU4
            rcases HF.out with ⟨rfl, rfl⟩ | ⟨rfl, rfl, hml⟩ | ⟨rfl, f1, f7, rfl⟩
            · go_wp2_with fail
              go_ret
              exact ⟨rfl, HU5.out⟩
            · have hml2 : (0 : Int) < ml := by omega
              go_wp2_with fail
              go_ret
              exact ⟨rfl, HU5.out⟩
            · have f12 : (f == 1) = false := by simpa using f1
              have f72 : (f == 7) = false := by simpa using f7
              go_wp2_with fail
              go_ret
              exact ⟨rfl, HU5.out⟩
          · have hz : ((m2 : Int) == 0) = false := by simp; omega
            have h5 : (5 : Int) < m2 := by omega
            go_upto_region 24 with fail
            go_wp2_with (refine wpList_load_rowG rfl 52 (.tmp 13) rfl g13 rfl 52 #[v] (0, 0) _ HR6.out Tryz.underlying52 rfl HSIV.out ?_)
            refine HZ.out.mono ?_
            rintro r u7 ⟨rfl, hb7⟩
            have HU7 := Lib.hid (HU6.out.trans (hb7.mono HU6.out.size))
            clear hb7 HZ
            go_upto_region 26 with fail
            go_wp2_with fail
            refine (HCUT.out u7).mono ?_
            rintro r u1 ⟨rfl, rfl⟩
            go_wp2_with fail
            refine (HTK.out u7 HU7.out).mono ?_
            rintro r u2 ⟨v2, ln, ml, isb, f, rfl, HNMS, HMIS, hf, hb2⟩
            have HF := Lib.hid hf
            have HU2 := Lib.hid (HU7.out.trans (hb2.mono HU7.out.size))
            have HSI2 : Hid ((Tryz.prog.info? 52).map (·.size) = some (#[v2] : Array Value).size) := Lib.hid (ts_info v2)
            have HON2 := Lib.hid HNMS.2
            have HNMS2 := Lib.hid HNMS.1.out
            clear hf hb2 HNMS
            go_upto_region 28 with (refine wpList_store_row rfl rfl 52 (.tmp 18) (.tmp 131) rfl u2.heap.size rfl 52 _ #[v2] rfl (heap_alloc_new u2 _) rfl HSI2.out HON2.out ?_)
            refine wp_gen (fun W34 => W34.heap[u2.heap.size]? = some (.cells #[v2] 52 (0, 0)) ∧ Below u2.heap.size u2 W34) (row_new u2 _ _ #[v2] 52 rfl) (fun u3 hu3 => ?_)
            have HU3 := Lib.hid (HU2.out.trans (hu3.2.mono HU2.out.size))
            clear hu3 HSI2 HON2 HU2
            go_wp2_with fail
            refine (HNMS2.out u3 HU3.out).mono ?_
            rintro r u4 ⟨qn, cn, rfl, hn4, hb4⟩
            have HU4 := Lib.hid (HU3.out.trans (hb4.mono HU3.out.size))
            have HM4 := Lib.hid (HMIS.out qn cn u4 HU4.out hn4)
            clear hn4 hb4 HNMS2 HMIS HU3
            go_wp2_with fail
            refine HM4.out.mono ?_
            rintro r u5 ⟨qm, cm, rfl, hb5⟩
            have HU5 := Lib.hid (HS.out.b.trans ((HU4.out.trans (hb5.mono HU4.out.size)).mono HS.out.b.size))
            clear hb5 HM4 HU4
            rcases HF.out with ⟨rfl, rfl⟩ | ⟨rfl, rfl, hml⟩ | ⟨rfl, f1, f7, rfl⟩
            · go_wp2_with fail
              go_ret
              exact ⟨rfl, HU5.out⟩
            · have hml2 : (0 : Int) < ml := by omega
              go_wp2_with fail
              go_ret
              exact ⟨rfl, HU5.out⟩
            · have f12 : (f == 1) = false := by simpa using f1
              have f72 : (f == 7) = false := by simpa using f7
              go_wp2_with fail
              go_ret
              exact ⟨rfl, HU5.out⟩
        · have HZ := Lib.hid (HV6.out.zero)
          rw [show decide (([] : List BI) = []) = true from rfl] at HZ
          clear HTLC
          have hz : ((m2 : Int) == 0) = false := by simp; omega
          have h5 : ¬ (5 : Int) < m2 := by omega
          go_upto_region 24 with fail
          go_wp2_with (refine wpList_load_rowG rfl 52 (.tmp 13) rfl g13 rfl 52 #[v] (0, 0) _ HR6.out Tryz.underlying52 rfl HSIV.out ?_)
          refine HZ.out.mono ?_
          rintro r u7 ⟨rfl, hb7⟩
          have HU7 := Lib.hid (HU6.out.trans (hb7.mono HU6.out.size))
          clear hb7 HZ
          go_upto_region 26 with fail
          go_wp2_with fail
          refine (HCUT.out u7).mono ?_
          rintro r u1 ⟨rfl, rfl⟩
          go_wp2_with fail
          refine (HTK.out u7 HU7.out).mono ?_
          rintro r u2 ⟨v2, ln, ml, isb, f, rfl, HNMS, HMIS, hf, hb2⟩
          have HF := Lib.hid hf
          have HU2 := Lib.hid (HU7.out.trans (hb2.mono HU7.out.size))
          have HSI2 : Hid ((Tryz.prog.info? 52).map (·.size) = some (#[v2] : Array Value).size) := Lib.hid (ts_info v2)
          have HON2 := Lib.hid HNMS.2
          have HNMS2 := Lib.hid HNMS.1.out
          clear hf hb2 HNMS
          go_upto_region 28 with (refine wpList_store_row rfl rfl 52 (.tmp 18) (.tmp 131) rfl u2.heap.size rfl 52 _ #[v2] rfl (heap_alloc_new u2 _) rfl HSI2.out HON2.out ?_)
          refine wp_gen (fun W34 => W34.heap[u2.heap.size]? = some (.cells #[v2] 52 (0, 0)) ∧ Below u2.heap.size u2 W34) (row_new u2 _ _ #[v2] 52 rfl) (fun u3 hu3 => ?_)
          have HU3 := Lib.hid (HU2.out.trans (hu3.2.mono HU2.out.size))
          clear hu3 HSI2 HON2 HU2
          go_wp2_with fail
          refine (HNMS2.out u3 HU3.out).mono ?_
          rintro r u4 ⟨qn, cn, rfl, hn4, hb4⟩
          have HU4 := Lib.hid (HU3.out.trans (hb4.mono HU3.out.size))
          have HM4 := Lib.hid (HMIS.out qn cn u4 HU4.out hn4)
          clear hn4 hb4 HNMS2 HMIS HU3
          go_wp2_with fail
          refine HM4.out.mono ?_
          rintro r u5 ⟨qm, cm, rfl, hb5⟩
          have HU5 := Lib.hid (HS.out.b.trans ((HU4.out.trans (hb5.mono HU4.out.size)).mono HS.out.b.size))
          clear hb5 HM4 HU4
          rcases HF.out with ⟨rfl, rfl⟩ | ⟨rfl, rfl, hml⟩ | ⟨rfl, f1, f7, rfl⟩
          · go_wp2_with fail
            go_ret
            exact ⟨rfl, HU5.out⟩
          · have hml2 : (0 : Int) < ml := by omega
            go_wp2_with fail
            go_ret
            exact ⟨rfl, HU5.out⟩
          · have f12 : (f == 1) = false := by simpa using f1
            have f72 : (f == 7) = false := by simpa using f7
            go_wp2_with fail
            go_ret
            exact ⟨rfl, HU5.out⟩
        · have HIS := Lib.hid (law8is_any HV6.out q7 c7 D2 HD6.out (fun x hx => (HFM6.out x hx).ok) hDl hD0 hYD hRS (fun x hx => by
            obtain ⟨r, hr, rfl⟩ := hDN x hx
            exact HFLT.out r hr) (HT.out.old (HS.out.b.trans (HU6.out.mono HS.out.b.size))))
          rw [← HD2.out] at HIS
          clear HTLC hD0 hDl hYD hRS hDN
          have hz : ((m2 : Int) == 0) = false := by simp; omega
          have h5 : ¬ (5 : Int) < m2 := by omega
          go_upto_region 24 with fail
          go_wp2_with (refine wpList_load_rowG rfl 52 (.tmp 13) rfl g13 rfl 52 #[v] (0, 0) _ HR6.out Tryz.underlying52 rfl HSIV.out ?_)
          refine HIS.out.mono ?_
          rintro r u7 ⟨rfl, hb7⟩
          have HU7 := Lib.hid (HU6.out.trans (hb7.mono HU6.out.size))
          clear hb7 HIS
          go_upto_region 26 with fail
          go_wp2_with fail
          refine (HCUT.out u7).mono ?_
          rintro r u1 ⟨rfl, rfl⟩
          go_wp2_with fail
          refine (HTK.out u7 HU7.out).mono ?_
          rintro r u2 ⟨v2, ln, ml, isb, f, rfl, HNMS, HMIS, hf, hb2⟩
          have HF := Lib.hid hf
          have HU2 := Lib.hid (HU7.out.trans (hb2.mono HU7.out.size))
          have HSI2 : Hid ((Tryz.prog.info? 52).map (·.size) = some (#[v2] : Array Value).size) := Lib.hid (ts_info v2)
          have HON2 := Lib.hid HNMS.2
          have HNMS2 := Lib.hid HNMS.1.out
          clear hf hb2 HNMS
          go_upto_region 28 with (refine wpList_store_row rfl rfl 52 (.tmp 18) (.tmp 131) rfl u2.heap.size rfl 52 _ #[v2] rfl (heap_alloc_new u2 _) rfl HSI2.out HON2.out ?_)
          refine wp_gen (fun W34 => W34.heap[u2.heap.size]? = some (.cells #[v2] 52 (0, 0)) ∧ Below u2.heap.size u2 W34) (row_new u2 _ _ #[v2] 52 rfl) (fun u3 hu3 => ?_)
          have HU3 := Lib.hid (HU2.out.trans (hu3.2.mono HU2.out.size))
          clear hu3 HSI2 HON2 HU2
          go_wp2_with fail
          refine (HNMS2.out u3 HU3.out).mono ?_
          rintro r u4 ⟨qn, cn, rfl, hn4, hb4⟩
          have HU4 := Lib.hid (HU3.out.trans (hb4.mono HU3.out.size))
          have HM4 := Lib.hid (HMIS.out qn cn u4 HU4.out hn4)
          clear hn4 hb4 HNMS2 HMIS HU3
          go_wp2_with fail
          refine HM4.out.mono ?_
          rintro r u5 ⟨qm, cm, rfl, hb5⟩
          have HU5 := Lib.hid (HS.out.b.trans ((HU4.out.trans (hb5.mono HU4.out.size)).mono HS.out.b.size))
          clear hb5 HM4 HU4
          rcases HF.out with ⟨rfl, rfl⟩ | ⟨rfl, rfl, hml⟩ | ⟨rfl, f1, f7, rfl⟩
          · go_wp2_with fail
            go_ret
            exact ⟨rfl, HU5.out⟩
          · have hml2 : (0 : Int) < ml := by omega
            go_wp2_with fail
            go_ret
            exact ⟨rfl, HU5.out⟩
          · have f12 : (f == 1) = false := by simpa using f1
            have f72 : (f == 7) = false := by simpa using f7
            go_wp2_with fail
            go_ret
            exact ⟨rfl, HU5.out⟩
end Go.Proofs.YtemnebbdaljfbaaGreatDoor
