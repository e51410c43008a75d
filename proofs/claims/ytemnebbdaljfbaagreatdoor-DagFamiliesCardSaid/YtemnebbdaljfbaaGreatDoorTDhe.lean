/- The dag's families and the reference's: DagFamilies' walk. (PARTS; tools/mk-dhe.py) -/
import Derived.Test.YtemnebbdaljfbaaGreatDoorZ14
import Derived.Test.YtemnebbdaljfbaaGreatDoorZ15
set_option linter.unusedVariables false
set_option linter.unusedSimpArgs false
namespace Go.Proofs.YtemnebbdaljfbaaGreatDoor
open Go.RowKit Go.Sort

theorem filter_one {α : Type} (p : α → Bool) (y : α) : [y].filter p = if p y then [y] else [] := by cases h : p y <;> simp [h]
set_option maxRecDepth 20000 in
set_option maxHeartbeats 32000000 in
theorem dagFamilies_any (sq : Option Addr) (sc : Nat) (L : List SD) (w : World) (hL : Rd encSD w sq L) (hA : ∀ s ∈ L, argS w s) (hl : L.length ≤ 9223372036854775807) (hT : TabAt w) :
    Calls Tryz.prog 5 #[.slice sq L.length sc] w fun r w' => r = .returned (.bool true) ∧ Below w.heap.size w w' := by
  have HT := Lib.hid hT
  have HAW := Lib.hid (awake13_any w hT)
  have HNEW := Lib.hid (fun (u : World) (h : TabAt u) => dgnew_any u h)
  have HGRN := Lib.hid (fun (u : World) (hb : Below w.heap.size w u) => grown_any sq sc L 20 u (hL.old hb) (fun s hs => (hA s hs).old hb) (by decide) hl)
  obtain ⟨ln, hln⟩ : ∃ ln, ln = L.length := ⟨_, rfl⟩
  rw [← hln] at HGRN ⊢
  clear hL hA hl hT hln
  go_enter Tryz.func5, Tryz.ntmps5
  go_wp2_with fail
  refine HAW.out.mono ?_
  rintro r w0 ⟨rfl, hb0⟩
  have HB0 := Lib.hid hb0
  clear hb0 HAW
  go_wp2_with fail
  refine (HNEW.out w0 (HT.out.old HB0.out)).mono ?_
  rintro r w1 ⟨da, rfl, S, R, X, hdg, hgen, hR, hb1⟩
  have HD0 := Lib.hid hdg
  have HGEN := Lib.hid hgen
  have HR0 : Hid (∀ k, R k → w.heap.size ≤ k) := Lib.hid (fun k hk => Nat.le_trans HB0.out.size (hR k hk))
  have HB1 := Lib.hid (HB0.out.trans (hb1.mono HB0.out.size))
  clear hdg hgen hR hb1 HNEW
  have HGN := Lib.hid (rgenesis_any w1)
  obtain ⟨bg, hbg⟩ : ∃ bg : RBk, bg = ⟨nmR grh.h, grh⟩ := ⟨_, rfl⟩
  have HBG := Lib.hid hbg
  rw [← hbg] at HGN
  clear hbg
  go_upto_region 4 with fail
  go_wp2_with fail
  refine HGN.out.mono ?_
  rintro r wg ⟨rfl, hbg1⟩
  have hbg2 := alloc1 wg (.cells bg.cells.toArray 31)
  have HBG2 := Lib.hid (hbg1.trans (hbg2.mono hbg1.size))
  have HQG : Hid (w1.heap.size ≤ wg.heap.size) := Lib.hid hbg1.size
  have HRG : Hid (Rd encRB (wg.alloc (.cells bg.cells.toArray 31)) (some ⟨wg.heap.size, 0, none⟩) [bg]) := Lib.hid (by have := Rd.made encRB wg 31 [bg] (by simp [maxLen]); rw [encRB_one] at this; exact this)
  clear hbg1 hbg2 HGN
  go_upto_region 5 with (refine wpList_exec rfl (build_rbs (.tmp 22) rfl bg rfl) ?_; go_frame)
  obtain ⟨wh, hwh⟩ : ∃ wh, wh = wg.alloc (.cells bg.cells.toArray 31) := ⟨_, rfl⟩
  obtain ⟨gL, hgL⟩ : ∃ gL, gL = wg.heap.size := ⟨_, rfl⟩
  rw [← hwh, ← hgL] at HRG
  rw [← hwh] at HBG2
  rw [← hgL] at HQG
  rw [← hwh, ← hgL]
  clear hwh hgL
  have HBH := Lib.hid (HB1.out.trans (HBG2.out.mono HB1.out.size))
  go_upto_region 7 with fail
  go_wp2_with fail
  refine (HGRN.out wh HBH.out).mono ?_
  rintro r w2 ⟨hn, hq, hc, D, hn16, rfl, hG⟩
  have HDN : Hid (hn = D.length) := Lib.hid hG.len.symm
  have HBT : Hid (BtH wh w2 hq D) := Lib.hid ⟨fun a e => ⟨hG.f a e, by have := hG.rw; rw [e] at this; exact this.lt⟩, fun y hy z e => ⟨hG.fr y hy z e, by
    obtain ⟨cur, hcu⟩ := (hG.ok y hy).t z e
    exact (Array.getElem?_eq_some_iff.1 hcu).1⟩⟩
  have HBW2 := Lib.hid (HBH.out.trans (hG.b.mono HBH.out.size))
  have H0 : Hid (AdS w wh w2 da hq D w2 0 [bg] (some ⟨gL, 0, none⟩)) := Lib.hid ⟨⟨S, R, X, (HD0.out.old HBG2.out).old hG.b, by rw [HBG.out]; exact KL.gen HGEN.out, (by
      obtain ⟨b, hX, h1, h2⟩ := gen_mem HGEN.out
      intro b' hb'
      rw [hX] at hb'
      rw [List.mem_singleton.1 hb', h1, h2]), (fun j hj => ⟨HR0.out j hj, .inl (Nat.lt_of_lt_of_le (HD0.out.rl j hj) HBG2.out.size)⟩), (fun a e hr => by cases e; have h1 : gL < w1.heap.size := HD0.out.rl _ hr; have := HQG.out; omega)⟩, HRG.out.old hG.b, (by simp), (by simp), (fun r hr => by rw [List.mem_singleton.1 hr, HBG.out]; exact .inl rfl), hG.rw.rd, hG.ok, HBW2.out, Nat.le_refl _⟩
  clear hG HGRN HD0 HGEN HR0
  go_wp2_with fail
  go_loopw [4, 29] (fun s4 s29 wr => ∃ (k : Nat) (N : List RBk) (q : Option Addr) (c : Nat), k ≤ hn ∧ N.length ≤ 1 + k ∧ s29 = .int .i64 (k : Int) ∧ s4 = .slice q N.length c ∧ Hid (AdS w wh w2 da hq D wr k N q)) (fun _ s29 _ => hn - (intOf s29).toNat)
  case atStart => exact ⟨0, [bg], _, 1, by omega, by simp, rfl, rfl, H0⟩
  case round =>
    clear H0
    obtain ⟨k, N, q, c, hkn, hNk, rfl, rfl, HS⟩ := hrel
    have k0 : (0 : Int) ≤ k := by omega
    obtain ⟨nn, hnn⟩ : ∃ nn, nn = N.length := ⟨_, rfl⟩
    have HNN := Lib.hid hnn
    rw [← hnn] at hNk ⊢
    clear hnn
    by_cases hlt : k < hn
    · have hlt' : (k : Int) < hn := by omega
      obtain ⟨bs, off, rfl, hbs, cx⟩ := HS.out.hd k (by have := HDN.out; omega)
      obtain ⟨y, hy⟩ : ∃ y, y = D[k]'(by have := HDN.out; omega) := ⟨_, rfl⟩
      rw [← hy] at cx
      have HYD : Hid (y ∈ D) := Lib.hid (by rw [hy]; exact List.getElem_mem _)
      have HYK : Hid (okH wr y) := Lib.hid (HS.out.ok y HYD.out)
      have HCL : Hid (∀ i u, y.cells[i]? = some u → wr.cell? ⟨bs, off + k * 7 + i, none⟩ = some u) := Lib.hid cx
      have HYS : Hid (y.cells.toArray.size = 7) := Lib.hid rfl
      have HYI := Lib.hid (rh_info y)
      have HYO : Hid (∀ v ∈ y.cells.toArray.toList, v.oneCell' = true) := Lib.hid y.one
      clear hy cx hbs
      go_upto_region 10 with (first
        | (refine wpList_exec rfl (exec_load_rhm (.tmp 31) rfl bs (off + k * 7) rfl y HCL.out) ?_; go_frame)
        | (refine wpList_store_row rfl rfl 29 (.tmp 6) (.tmp 32) rfl wr.heap.size rfl 29 _ y.cells.toArray rfl (heap_alloc_new wr _) HYS.out.symm HYI.out HYO.out ?_))
      refine wp_gen (fun W5 => W5.heap[wr.heap.size]? = some (.cells y.cells.toArray 29 (0, 0)) ∧ Below wr.heap.size wr W5) (row_new wr _ _ y.cells.toArray 29 rfl) (fun W5 hW5 => ?_)
      obtain ⟨hr5, hb5⟩ := hW5
      obtain ⟨g6, hg6⟩ : ∃ g6, g6 = wr.heap.size := ⟨_, rfl⟩
      rw [← hg6] at hr5
      rw [← hg6]
      have HG6 := Lib.hid hg6
      have HBR5 := Lib.hid hb5
      have HOW : Hid (∀ u : World, Below wr.heap.size wr u → Calls Tryz.prog 13 #[.agg y.cells.toArray] u fun r w' => ∃ q c, r = .returned (.agg (hcells (ownH y.h) q c)) ∧ Rw encN 70 w' q c (ownH y.h).ps ∧ Below u.heap.size u w' ∧ ∀ a, q = some a → u.heap.size ≤ a.block) := Lib.hid (fun u hb => own_any y.h y.q y.c u (HYK.out.a.rd.old hb) (by have := HYK.out.n; omega))
      have HOK : Hid (HOk (ownH y.h)) := Lib.hid (by
        have h1 := HYK.out.n
        have h2 := HYK.out.k
        have h3 := HYK.out.a
        exact ⟨by show (y.h.ps.map nmOf).length ≤ _; rw [List.length_map]; omega, by show y.h.tk.length ≤ _; omega, h3.pw, h3.b1, h3.b2, h3.b3, h3.b4⟩)
      obtain ⟨YC, hYC⟩ : ∃ YC, YC = y.cells.toArray := ⟨_, rfl⟩
      rw [← hYC] at HOW HYI hr5
      have HYC := Lib.hid hYC
      have HR5 := Lib.hid hr5
      obtain ⟨S, R, X, hdg, hkl, hid, hR, hnR⟩ := HS.out.dg
      have HDG := Lib.hid hdg
      have HKL := Lib.hid hkl
      have HID := Lib.hid hid
      have HRR := Lib.hid hR
      have HNR := Lib.hid hnR
      have HBR : Hid (∀ e e', ChkP X.K (ownH y.h) e → RkP N y e' → e = e') := Lib.hid (fun e e' h1 h2 => chk_bridge hkl hdg.nodup HYK.out.p HS.out.p32 HS.out.hts h1 h2)
      clear hr5 hb5 hg6 hYC HCL hdg hkl hid hR hnR
      go_upto_region 10 with fail
      go_upto_region 11 with (refine wpList_exec rfl (exec_load_row 29 (.tmp 6) rfl g6 rfl 29 YC (0, 0) _ HR5.out Tryz.underlying29 rfl HYI.out) ?_)
      refine (HOW.out W5 HBR5.out).mono ?_
      rintro r W6 ⟨oq, oc, rfl, hor, hb6, _⟩
      obtain ⟨HC, hHC⟩ : ∃ HC, HC = hcells (ownH y.h) oq oc := ⟨_, rfl⟩
      have HBR6 := Lib.hid (HBR5.out.trans (hb6.mono HBR5.out.size))
      have HR6 := Lib.hid ((hb6.block g6 (Array.getElem?_eq_some_iff.1 HR5.out).1).trans HR5.out)
      have HADD := Lib.hid (dgadd_any (HDG.out.old HBR6.out) (ownH y.h) oq oc hor.rd hor.ao HOK.out (by rw [HKL.out.len]; have := HNN.out; omega) (HT.out.old (HS.out.b.trans (HBR6.out.mono HS.out.b.size))))
      rw [← hHC] at HADD
      rw [← hHC]
      clear hHC hor hb6
      go_upto_region 11 with fail
      refine HADD.out.mono ?_
      rintro r W7 ⟨e4, rfl, hk4, hp4⟩
      have HK4 := Lib.hid hk4
      have HP4 := Lib.hid hp4
      have HMID : Hid (Rd encRB W7 q N ∧ (∀ r ∈ N, fmR W7 r.x) ∧ okH W7 y ∧ W7.heap[g6]? = some (.cells YC 29 (0, 0))) := Lib.hid (by
        have hg6 := HG6.out
        rcases hp4 with ⟨_, hb7⟩ | ⟨_, hA⟩
        · have hb := HBR6.out.trans (hb7.mono HBR6.out.size)
          exact ⟨HS.out.rd.old hb, fun r hr => (HS.out.fm r hr).old hb, HYK.out.old hb, (hb7.block g6 (Array.getElem?_eq_some_iff.1 HR6.out).1).trans HR6.out⟩
        · obtain ⟨S', R', F', b, _, _, hm, _⟩ := hA
          obtain ⟨m1, m2, m3⟩ := HS.out.mid HBT.out HDG.out HRR.out HNR.out HBR6.out HYD.out hm
          exact ⟨m1, m2, m3, (hm.block g6 (Array.getElem?_eq_some_iff.1 HR6.out).1 (fun hs => by have := HDG.out.rl _ (HDG.out.rs _ hs); omega)).trans HR6.out⟩)
      have HRA := Lib.hid (r13add_any q c N y W7 HMID.out.1 (by have := HNN.out; omega) HS.out.pos HMID.out.2.1 HMID.out.2.2.1)
      rw [← HNN.out, ← HYC.out] at HRA
      have HR7 := Lib.hid HMID.out.2.2.2
      clear hk4 hp4 HADD HR6
      go_upto_region 11 with fail
      go_upto_region 12 with (refine wpList_exec rfl (exec_load_row 29 (.tmp 6) rfl g6 rfl 29 YC (0, 0) _ HR7.out Tryz.underlying29 rfl HYI.out) ?_)
      refine HRA.out.mono ?_
      rintro r W8 ⟨q2, c2, N2, e3, rfl, hk3, hN2, hrd2, hf2, hb8⟩
      obtain rfl : e4 = e3 := HBR.out e4 e3 HK4.out hk3
      have HNX : Hid (AdS w wh w2 da (some ⟨bs, off, none⟩) D W8 (k + 1) N2 q2) := Lib.hid (by
        rcases HP4.out with ⟨h0, hb7⟩ | ⟨h0, hA⟩
        · rcases hN2 with ⟨_, e⟩ | ⟨e, _⟩
          · subst e
            have hb := HBR6.out.trans (hb7.mono HBR6.out.size)
            exact (HS.out.swap (hb.trans (hb8.mono hb.size)) hrd2 (fun a e => (hf2 a e).elim .inl (fun h => .inr (Nat.le_trans hb.size h)))).more
          · exact absurd e h0
        · rcases hN2 with ⟨e, _⟩ | ⟨_, e⟩
          · exact absurd h0 e
          · subst h0
            subst e
            exact HS.out.add2 HBT.out HDG.out HKL.out HID.out HRR.out HNR.out HBR6.out HYD.out hk3.zero hA hb8 hrd2 hf2)
      obtain ⟨n2, hn2⟩ : ∃ n2, n2 = N2.length := ⟨_, rfl⟩
      have HN2 := Lib.hid hn2
      rw [← hn2]
      clear hn2 hk3 hN2 hrd2 hf2 hb8 HRA HP4 HK4 HMID
      go_wp2_with fail
      go_roundw
      case rel => exact ⟨k + 1, N2, q2, c2, by omega, HNX.out.len, by go_num, by rw [HN2.out], HNX⟩
      case measure => simp [intOf] <;> omega
    · obtain rfl : k = hn := by omega
      have hlt' : ¬ (k : Int) < k := by omega
      clear hlt
      obtain ⟨S, R, X, hdg, hkl, _, _⟩ := HS.out.dg
      obtain ⟨hf1, hf2⟩ := hkl.fams HS.out.p32
      obtain ⟨M, hM⟩ : ∃ M, M = (X.F.map (·.t)).mergeSort fun x y => decide (x ≤ y) := ⟨_, rfl⟩
      have hnd : (X.F.map (·.t)).Nodup := by
        have := List.pairwise_map.2 hdg.fm.ap
        rw [fE_ts] at this; exact this
      have HSO : Hid (rsort (N.map fun r => famR r.x) = M) := Lib.hid (by
        rw [hM]
        refine sortT_eq hnd (fun x => ?_)
        rw [List.mem_map, List.mem_map]
        constructor
        · rintro ⟨r, hr, rfl⟩
          obtain ⟨b, hb, _, e⟩ := hf2 r hr
          obtain ⟨f, hf, e2⟩ := hdg.fb b hb
          exact ⟨f, hf, e2.trans e⟩
        · rintro ⟨f, hf, rfl⟩
          obtain ⟨b, hb, e⟩ := hdg.fk f hf
          obtain ⟨r, hr, _, e2⟩ := hf1 b hb
          exact ⟨r, hr, e2.trans e⟩)
      have HML : Hid (M.length = X.F.length) := Lib.hid (by rw [hM, List.length_mergeSort, List.length_map])
      have HMT : Hid (∀ t ∈ M, t.length ≤ 1000) := Lib.hid (fun t ht => by
        rw [hM, (List.mergeSort_perm _ _).mem_iff] at ht
        obtain ⟨f, hf, rfl⟩ := List.mem_map.1 ht
        obtain ⟨b, hb, e⟩ := hdg.fk f hf
        rw [← e]; exact famK_len (hdg.ko b hb).1 (hdg.ko b hb).2.1)
      have HM9 : Hid (M.length ≤ 100000) := Lib.hid (by rw [HML.out]; exact Nat.le_trans hdg.fn hdg.len)
      have HFS : Hid (∀ u : World, Below wr.heap.size wr u → Calls Tryz.prog 29 #[.pointer (some ⟨da, 0, none⟩)] u fun r w' => ∃ q c, r = .returned (.slice q M.length c) ∧ Rw encS 9 w' q c M ∧ (∀ a, q = some a → u.heap.size ≤ a.block) ∧ Below u.heap.size u w') := Lib.hid (fun u hb => by
        have h := dgfamilies_any (hdg.old hb) (fun f hf => by
          obtain ⟨b, hb2, e⟩ := hdg.fk f hf
          rw [← e]; exact Nat.le_trans (famK_len (hdg.ko b hb2).1 (hdg.ko b hb2).2.1) (by decide))
        rw [← hM] at h
        rw [HML.out]; exact h)
      have HFY : Hid (∀ (u : World) (t : List UInt8), Below wr.heap.size wr u → t.length ≤ 1000 → Calls Tryz.prog 30 #[.pointer (some ⟨da, 0, none⟩), .string ⟨t.toArray⟩] u fun r w' => ∃ q c B, r = .returned (.slice q B.length c) ∧ (∀ x : List UInt8, x ∈ B.map (fun b => b.id.1) ↔ ∃ r ∈ N, famR r.x = t ∧ r.nm = x) ∧ (B.map fun b => b.id.1).Pairwise (· < ·) ∧ (∀ r ∈ B, famK r = t ∧ r.h.ht ≤ 9223372036854775807) ∧ B.length ≤ 100000 ∧ OwR u w' B B.length q c) := Lib.hid (fun u t hb ht => by
        refine (dgfamily_any (hdg.old hb) t (by unfold maxLen; omega)).mono ?_
        rintro r w' ⟨q, c, B, rfl, h1, h2, h3, h5, h4⟩
        refine ⟨q, c, B, rfl, fun x => ?_, ?_, fun b hb => ⟨(h1 b hb).2, (hdg.ko b (h1 b hb).1).1.b1.2⟩, ?_, h4⟩
        · rw [List.mem_map]
          constructor
          · rintro ⟨b, hb, rfl⟩
            obtain ⟨r, hr, e1, e2⟩ := hf1 b (h1 b hb).1
            exact ⟨r, hr, e2.trans (h1 b hb).2, e1⟩
          · rintro ⟨r, hr, e1, e2⟩
            obtain ⟨b, hb, e3, e4⟩ := hf2 r hr
            have := h3 b hb (e4.trans e1)
            obtain ⟨b', hb', e5⟩ := List.mem_map.1 this
            exact ⟨b', hb', by rw [e5, e3, e2]⟩
        · have h6 : (B.map (·.id)).map (·.1) = B.map fun b => b.id.1 := by rw [List.map_map]; rfl
          rw [← h6]
          refine List.pairwise_map.2 (h2.imp ?_)
          intro a b hab
          have : ltOf cfN a b = true := hab
          rw [cfN_lt, decide_eq_true_eq] at this
          exact (cmpB_lt _ _).1 this
        · exact Nat.le_trans h5 hdg.len)
      have HNO : Hid (∀ u : World, Below wr.heap.size wr u → Calls Tryz.prog 30 #[.pointer (some ⟨da, 0, none⟩), .string ⟨#[110, 111, 110, 101]⟩] u fun r w' => ∃ q c, r = .returned (.slice q 0 c) ∧ Below u.heap.size u w') := Lib.hid (fun u hb => by
        have h := HFY.out u [110, 111, 110, 101] hb (by decide)
        refine h.mono ?_
        rintro r w' ⟨q, c, B, rfl, _, _, h3, _, h4⟩
        have hB : B = [] := by
          cases B with
          | nil => rfl
          | cons b B => exact absurd (h3 b (by simp)).1 (fam_none _ _ (h3 b (by simp)).2)
        subst hB
        exact ⟨q, c, rfl, h4.b⟩)
      obtain ⟨m, hm⟩ : ∃ m, m = M.length := ⟨_, rfl⟩
      have HMM := Lib.hid hm
      rw [← hm] at HFS HM9
      have HNL := HNN.out
      have hnn9 : nn ≤ 100000 := by omega
      clear hdg hkl hf1 hf2 hM hnd HML hm HNL
      go_wp2_with fail
      go_loopw [7, 46] (fun s7 s46 wx => ∃ (i : Nat) (q5 : Option Addr) (c5 : Nat), i ≤ nn ∧ s46 = .int .i64 (i : Int) ∧ s7 = .slice q5 i c5 ∧ Hid (AccR encS 9 wr i ((N.take i).map fun r => famR r.x) q5 c5 wx)) (fun _ s46 _ => nn - (intOf s46).toNat)
      case atStart => exact ⟨0, none, 0, Nat.zero_le _, rfl, rfl, Lib.hid (AccR.zero _ _ _)⟩
      case round =>
        rename World => wx
        obtain ⟨i, q5, c5, hi, rfl, rfl, HA⟩ := hrel
        have i0 : (0 : Int) ≤ i := by omega
        by_cases hlt : i < nn
        · have hlt' : (i : Int) < nn := by omega
          have hil : i < N.length := by have := HNN.out; omega
          obtain ⟨bs, off, rfl, hbs, hc⟩ := (HS.out.rd.old HA.out.m) i hil
          obtain ⟨y, hy⟩ : ∃ y, y = N[i] := ⟨_, rfl⟩
          have HTK : Hid (((N.take i).map fun r => famR r.x) ++ [famR y.x] = (N.take (i + 1)).map fun r => famR r.x) := Lib.hid (by rw [List.take_succ_eq_append_getElem hil, List.map_append, hy]; rfl)
          have HYF : Hid (fmR wr y.x) := Lib.hid (HS.out.fm y (by rw [hy]; exact List.getElem_mem _))
          rw [← hy] at hc
          have HCC : Hid (∀ j v, y.cells[j]? = some v → wx.cell? ⟨bs, off + i * 8 + j, none⟩ = some v) := Lib.hid hc
          have HSZ : Hid (y.cells.toArray.size = 8) := Lib.hid rfl
          have HIN := Lib.hid (rb_info y)
          have HON : Hid (∀ v ∈ y.cells.toArray.toList, v.oneCell' = true) := Lib.hid y.one
          clear hy hc hbs hil
          go_upto_region 17 with (first
            | (refine wpList_exec rfl (exec_load_rb (.tmp 48) rfl bs (off + i * 8) rfl y HCC.out) ?_; go_frame)
            | (refine wpList_store_row rfl rfl 31 (.tmp 9) (.tmp 49) rfl wx.heap.size rfl 31 _ y.cells.toArray rfl (heap_alloc_new wx _) HSZ.out.symm HIN.out HON.out ?_))
          refine wp_gen (fun W5 => W5.heap[wx.heap.size]? = some (.cells y.cells.toArray 31 (0, 0)) ∧ Below wx.heap.size wx W5) (row_new wx _ _ y.cells.toArray 31 rfl) (fun W5 hW5 => ?_)
          obtain ⟨hr5, hb5⟩ := hW5
          obtain ⟨g9, hg9⟩ : ∃ g9, g9 = wx.heap.size := ⟨_, rfl⟩
          rw [← hg9] at hr5
          rw [← hg9]
          have HCX : Hid (∀ j v, y.x.cells[j]? = some v → W5.cell? ⟨g9, 1 + j, none⟩ = some v) := Lib.hid (fun j v hv => by
            rw [cell_of_row _ g9 (1 + j) _ _ _ hr5, List.getElem?_toArray]
            show (RBk.cells y)[1 + j]? = _
            rw [Nat.add_comm]; simpa [RBk.cells] using hv)
          have HB5 : Hid (Below wr.heap.size wr W5) := Lib.hid (HA.out.m.trans (hb5.mono HA.out.m.size))
          have HFA := Lib.hid ((HYF.out.old HB5.out).fam)
          have HA5 := Lib.hid (HA.out.below hb5)
          obtain ⟨YX, hYX⟩ : ∃ YX, YX = y.x.cells.toArray := ⟨_, rfl⟩
          rw [← hYX] at HFA
          obtain ⟨D, hD⟩ : ∃ D, D = (N.take i).map fun r => famR r.x := ⟨_, rfl⟩
          rw [← hD] at HA5 HTK
          obtain ⟨fam, hfam⟩ : ∃ fam, fam = famR y.x := ⟨_, rfl⟩
          rw [← hfam] at HFA HTK
          have HLX : Hid (∀ (o : Oper) (a : Act), o.op = .load 29 (.tmp 51) → a.eval (.tmp 51) = .pointer (some ⟨g9, 1, none⟩) → (execOp a.eval o).run Tryz.prog W5 = .ok (.value (.agg YX)) W5) := Lib.hid (fun o a ho ha => by rw [hYX]; exact exec_load_rhm (.tmp 51) ho g9 1 ha y.x HCX.out)
          clear hr5 hb5 hg9 hD hfam hYX HCC HA
          go_upto_region 18 with (refine wpList_exec rfl (HLX.out _ _ rfl rfl) ?_; go_frame)
          refine HFA.out.mono ?_
          rintro r w6 ⟨rfl, hb6⟩
          have hb7 := alloc1 w6 (.cells #[.string ⟨fam.toArray⟩] 9)
          have HA7 := Lib.hid (HA5.out.below (hb6.trans (hb7.mono hb6.size)))
          have HDL : Hid (D.length = i) := Lib.hid HA5.out.len
          have HRD7 : Hid (Rd encS (w6.alloc (.cells #[.string ⟨fam.toArray⟩] 9)) (some ⟨w6.heap.size, 0, none⟩) [fam]) := Lib.hid (Rd.made encS w6 9 [fam] (by simp [maxLen]))
          have HNB : Hid (i + 1 ≤ 100000000000) := Lib.hid (by omega)
          clear hb6 hb7 HA5 HFA HLX HCX
          go_wp2_with (at_builtin; refine wpList_pushR encS rfl (.tmp 50) (.tmp 54) 27 9 (.string ⟨#[]⟩) 16 rfl Tryz.underlying27 (by kernel_rfl) rfl (by decide) q5 c5 i D HDL.out rfl HA7.out.s (some ⟨w6.heap.size, 0, none⟩) 1 1 [fam] rfl rfl HRD7.out HNB.out ?_; intro q2 c2 w8 hP; have HP := Lib.hid hP; clear hP; go_frame)
          have HA8 : Hid (AccR encS 9 wr (i + 1) ((N.take (i + 1)).map fun r => famR r.x) q2 c2 w8) := Lib.hid (by rw [← HTK.out]; exact HA7.out.push HP.out)
          clear HP HA7 HRD7
          go_roundw
          case rel => exact ⟨i + 1, q2, c2, by omega, by go_num, rfl, HA8⟩
          case measure => simp [intOf]; omega
        · obtain rfl : nn = i := by omega
          have hlt' : ¬ (nn : Int) < nn := by omega
          have HB1 := Lib.hid HA.out.m
          have hD : ((N.take nn).map fun r => famR r.x) = N.map fun r => famR r.x := by rw [List.take_of_length_le (by have := HNN.out; omega)]
          have HSRT := Lib.hid (rsorts_any q5 c5 (N.map fun r => famR r.x) wx (by have h := HA.out.s.rd; rw [hD] at h; exact h) (by rw [List.length_map]; have := HNN.out; omega))
          rw [HSO.out, ← HMM.out, List.length_map, ← HNN.out] at HSRT
          clear hD HA hlt
          go_wp2_with fail
          refine HSRT.out.mono ?_
          rintro r w3 ⟨qs, cs, rfl, hrs, _, hb3⟩
          have HB3 := Lib.hid (HB1.out.trans (hb3.mono HB1.out.size))
          have HS3 := Lib.hid hrs
          clear hrs hb3 HSRT HB1
          go_wp2_with fail
          refine (HFS.out w3 HB3.out).mono ?_
          rintro r w4 ⟨qg, cg, rfl, hrg, _, hb4⟩
          have HB4 := Lib.hid (HB3.out.trans (hb4.mono HB3.out.size))
          have HS4 := Lib.hid (HS3.out.old hb4)
          have HG4 := Lib.hid hrg
          clear hrg hb4 HS3 HB3
          go_wp2_with fail
          refine (HNO.out w4 HB4.out).mono ?_
          rintro r w5 ⟨qn, cn, rfl, hb5⟩
          have HB5 := Lib.hid (HB4.out.trans (hb5.mono HB4.out.size))
          have HS5 := Lib.hid (HS4.out.old hb5)
          have HG5 := Lib.hid (HG4.out.old hb5)
          clear hb5 HS4 HG4 HB4
          go_wp2_with fail
          go_loopw [74] (fun s74 wx => ∃ i : Nat, i ≤ m ∧ s74 = .int .i64 (i : Int) ∧ Hid (Below w5.heap.size w5 wx)) (fun s74 _ => m - (intOf s74).toNat)
          case atStart => exact ⟨0, Nat.zero_le _, rfl, Lib.hid (Below.refl _ _)⟩
          case round =>
            rename World => wx
            obtain ⟨i, him, rfl, HW⟩ := hrel
            have i0 : (0 : Int) ≤ (i : Int) := by omega
            by_cases hlt : i < m
            · have ik : (i : Int) < (m : Int) := by omega
              have im9 : m ≤ 100000 := HM9.out
              have hiM : i < M.length := by have := HMM.out; omega
              obtain ⟨f, hf⟩ : ∃ f, f = M[i] := ⟨_, rfl⟩
              have HFL : Hid (f.length ≤ 1000) := Lib.hid (HMT.out f (by rw [hf]; exact List.getElem_mem _))
              obtain ⟨bs, off, rfl, _, hcs⟩ := (HS5.out.old HW.out).rd.str i hiM
              have hcell : wx.cell? ⟨bs, off + i, none⟩ = some (.string ⟨f.toArray⟩) := by rw [hcs, hf]
              obtain ⟨bg2, og2, rfl, _, hcg⟩ := (HG5.out.old HW.out).rd.str i hiM
              have HCG : Hid (∀ u : World, Below wx.heap.size wx u → u.cell? ⟨bg2, og2 + i, none⟩ = some (.string ⟨f.toArray⟩)) := Lib.hid (fun u hb => by
                obtain ⟨b', o', e, _, h⟩ := ((HG5.out.old HW.out).old hb).rd.str i hiM
                cases e
                rw [h, hf])
              have HBX : Hid (Below wr.heap.size wr wx) := Lib.hid (HB5.out.trans (HW.out.mono HB5.out.size))
              clear hcs hcg hf hiM
              go_wp2_with fail
              go_loopw [13, 81] (fun s13 s81 wy => ∃ (j : Nat) (q6 : Option Addr) (c6 : Nat) (D : List (List UInt8)), j ≤ nn ∧ D.length ≤ j ∧ s81 = .int .i64 (j : Int) ∧ s13 = .slice q6 D.length c6 ∧ Hid (D = ((N.take j).filter fun r => famR r.x == f).map (·.nm)) ∧ Hid (AccR encS 9 wx D.length D q6 c6 wy)) (fun _ s81 _ => nn - (intOf s81).toNat)
              case atStart => exact ⟨0, none, 0, [], Nat.zero_le _, Nat.le_refl _, rfl, rfl, Lib.hid rfl, Lib.hid (AccR.zero _ _ _)⟩
              case round =>
                rename World => wy
                obtain ⟨j, q6, c6, D, hj, hDj, rfl, rfl, HDD, HA⟩ := hrel
                have j0 : (0 : Int) ≤ j := by omega
                obtain ⟨d, hd⟩ : ∃ d, d = D.length := ⟨_, rfl⟩
                have HDL : Hid (D.length = d) := Lib.hid hd.symm
                rw [← hd] at hDj HA ⊢
                clear hd
                by_cases hjn : j < nn
                · have hjn' : (j : Int) < nn := by omega
                  have hjl : j < N.length := by have := HNN.out; omega
                  have HBY : Hid (Below wr.heap.size wr wy) := Lib.hid (HBX.out.trans (HA.out.m.mono HBX.out.size))
                  obtain ⟨bl, ol, e, hbs, hc⟩ := (HS.out.rd.old HBY.out) j hjl
                  subst e
                  obtain ⟨y, hy⟩ : ∃ y, y = N[j] := ⟨_, rfl⟩
                  have HTK : Hid ((N.take (j + 1)).filter (fun r => famR r.x == f) = (N.take j).filter (fun r => famR r.x == f) ++ if famR y.x == f then [y] else []) := Lib.hid (by rw [List.take_succ_eq_append_getElem hjl, List.filter_append, hy, filter_one])
                  have HYF : Hid (fmR wr y.x) := Lib.hid (HS.out.fm y (by rw [hy]; exact List.getElem_mem _))
                  rw [← hy] at hc
                  have HCC : Hid (∀ j' v, y.cells[j']? = some v → wy.cell? ⟨bl, ol + j * 8 + j', none⟩ = some v) := Lib.hid hc
                  have HSZ : Hid (y.cells.toArray.size = 8) := Lib.hid rfl
                  have HIN := Lib.hid (rb_info y)
                  have HON : Hid (∀ v ∈ y.cells.toArray.toList, v.oneCell' = true) := Lib.hid y.one
                  clear hy hc hbs hjl
                  go_upto_region 30 with (first
                    | (refine wpList_exec rfl (exec_load_rb (.tmp 83) rfl bl (ol + j * 8) rfl y HCC.out) ?_; go_frame)
                    | (refine wpList_store_row rfl rfl 31 (.tmp 15) (.tmp 84) rfl wy.heap.size rfl 31 _ y.cells.toArray rfl (heap_alloc_new wy _) HSZ.out.symm HIN.out HON.out ?_))
                  refine wp_gen (fun W5 => W5.heap[wy.heap.size]? = some (.cells y.cells.toArray 31 (0, 0)) ∧ Below wy.heap.size wy W5) (row_new wy _ _ y.cells.toArray 31 rfl) (fun W5 hW5 => ?_)
                  obtain ⟨hr5, hb5⟩ := hW5
                  obtain ⟨g9, hg9⟩ : ∃ g9, g9 = wy.heap.size := ⟨_, rfl⟩
                  rw [← hg9] at hr5
                  rw [← hg9]
                  have HCX : Hid (∀ j v, y.x.cells[j]? = some v → W5.cell? ⟨g9, 1 + j, none⟩ = some v) := Lib.hid (fun j v hv => by
                    rw [cell_of_row _ g9 (1 + j) _ _ _ hr5, List.getElem?_toArray]
                    show (RBk.cells y)[1 + j]? = _
                    rw [Nat.add_comm]; simpa [RBk.cells] using hv)
                  have HR5 := Lib.hid hr5
                  have HBW5 : Hid (Below wr.heap.size wr W5) := Lib.hid (HBY.out.trans (hb5.mono HBY.out.size))
                  have HFA := Lib.hid ((HYF.out.old HBW5.out).fam)
                  have HA5 := Lib.hid (HA.out.below hb5)
                  obtain ⟨YX, hYX⟩ : ∃ YX, YX = y.x.cells.toArray := ⟨_, rfl⟩
                  rw [← hYX] at HFA
                  obtain ⟨fam, hfam⟩ : ∃ fam, fam = famR y.x := ⟨_, rfl⟩
                  rw [← hfam] at HFA HTK
                  obtain ⟨nm, hnm⟩ : ∃ nm, nm = y.nm := ⟨_, rfl⟩
                  have HNM := Lib.hid hnm
                  have HLX : Hid (∀ (o : Oper) (a : Act), o.op = .load 29 (.tmp 85) → a.eval (.tmp 85) = .pointer (some ⟨g9, 1, none⟩) → (execOp a.eval o).run Tryz.prog W5 = .ok (.value (.agg YX)) W5) := Lib.hid (fun o a ho ha => by rw [hYX]; exact exec_load_rhm (.tmp 85) ho g9 1 ha y.x HCX.out)
                  clear hr5 hb5 hg9 hfam hYX hnm HCC HA
                  go_upto_region 31 with (refine wpList_exec rfl (HLX.out _ _ rfl rfl) ?_; go_frame)
                  refine HFA.out.mono ?_
                  rintro r w6 ⟨rfl, hb6⟩
                  have HA6 := Lib.hid (HA5.out.below hb6)
                  have hcn : w6.cell? ⟨g9, 0, none⟩ = some (.string ⟨nm.toArray⟩) := by
                    rw [cell_of_row _ g9 0 _ _ _ ((hb6.block g9 (Array.getElem?_eq_some_iff.1 HR5.out).1).trans HR5.out), HNM.out]; rfl
                  clear hb6 HA5 HFA HLX HCX HR5
                  cases hef : (fam == f) with
                  | true =>
                    have HEF := Lib.hid hef
                    have hb7 := alloc1 w6 (.cells #[.string ⟨nm.toArray⟩] 9)
                    have HA7 := Lib.hid (HA6.out.below hb7)
                    have HRD7 : Hid (Rd encS (w6.alloc (.cells #[.string ⟨nm.toArray⟩] 9)) (some ⟨w6.heap.size, 0, none⟩) [nm]) := Lib.hid (Rd.made encS w6 9 [nm] (by simp [maxLen]))
                    have HNB : Hid (d + 1 ≤ 100000000000) := Lib.hid (by omega)
                    clear hb7 HA6
                    go_wp2_with (at_builtin; refine wpList_pushR encS rfl (.tmp 90) (.tmp 93) 27 9 (.string ⟨#[]⟩) 16 rfl Tryz.underlying27 (by kernel_rfl) rfl (by decide) q6 c6 d D HDL.out rfl HA7.out.s (some ⟨w6.heap.size, 0, none⟩) 1 1 [nm] rfl rfl HRD7.out HNB.out ?_; intro q2 c2 w8 hP; have HP := Lib.hid hP; clear hP; go_frame)
                    have HA8 : Hid (AccR encS 9 wx (D ++ [nm]).length (D ++ [nm]) q2 c2 w8) := Lib.hid (by rw [List.length_append, HDL.out]; exact HA7.out.push HP.out)
                    have HDD8 : Hid (D ++ [nm] = ((N.take (j + 1)).filter fun r => famR r.x == f).map (·.nm)) := Lib.hid (by rw [HTK.out, HEF.out, HDD.out, HNM.out]; simp)
                    have hl8 : (D ++ [nm]).length = d + 1 := by rw [List.length_append, HDL.out]; rfl
                    have HL8 := Lib.hid hl8
                    clear HP HA7 HRD7 hl8
                    go_roundw
                    case rel => exact ⟨j + 1, q2, c2, D ++ [nm], by omega, by rw [HL8.out]; omega, by go_num, by rw [HL8.out], HDD8, HA8⟩
                    case measure => simp [intOf]; omega
                  | false =>
                    have HEF := Lib.hid hef
                    have HDD8 : Hid (D = ((N.take (j + 1)).filter fun r => famR r.x == f).map (·.nm)) := Lib.hid (by rw [HTK.out, HEF.out, HDD.out]; simp)
                    have HA8 : Hid (AccR encS 9 wx D.length D q6 c6 w6) := Lib.hid (by rw [HDL.out]; exact HA6.out)
                    clear HA6
                    go_wp2_with fail
                    go_roundw
                    case rel => exact ⟨j + 1, q6, c6, D, by omega, by rw [HDL.out]; omega, by go_num, by rw [HDL.out], HDD8, HA8⟩
                    case measure => simp [intOf]; omega
                · obtain rfl : nn = j := by omega
                  have hjn' : ¬ (nn : Int) < nn := by omega
                  have HBY : Hid (Below wx.heap.size wx wy) := Lib.hid HA.out.m
                  have HDX : Hid (∀ x, x ∈ D ↔ ∃ r ∈ N, famR r.x = f ∧ r.nm = x) := Lib.hid (fun x => by
                    rw [HDD.out, List.take_of_length_le (by have := HNN.out; omega), List.mem_map]
                    constructor
                    · rintro ⟨r, hr, e⟩
                      obtain ⟨h1, h2⟩ := List.mem_filter.1 hr
                      exact ⟨r, h1, eq_of_beq h2, e⟩
                    · rintro ⟨r, h1, h2, e⟩
                      exact ⟨r, List.mem_filter.2 ⟨h1, by rw [h2]; exact beq_self_eq_true _⟩, e⟩)
                  have HSRT := Lib.hid (rsorts_any q6 c6 D wy HA.out.s.rd (by rw [HDL.out]; omega))
                  rw [HDL.out] at HSRT
                  obtain ⟨E, hE⟩ : ∃ E, E = rsort D := ⟨_, rfl⟩
                  rw [← hE] at HSRT
                  have HE : Hid (E.Pairwise (· < ·) ∧ ∀ x, x ∈ E ↔ x ∈ D) := Lib.hid (by rw [hE]; exact rsort_both D)
                  obtain ⟨ne, hne⟩ : ∃ ne, ne = E.length := ⟨_, rfl⟩
                  have HEL := Lib.hid hne
                  rw [← hne] at HSRT
                  clear hE hne HA hjn
                  go_wp2_with fail
                  refine HSRT.out.mono ?_
                  rintro r w6 ⟨qe, ce, rfl, hre, _, hb6⟩
                  have HE6 := Lib.hid hre
                  have HB6 := Lib.hid (HBY.out.trans (hb6.mono HBY.out.size))
                  have HFYC := Lib.hid (HFY.out w6 f (HBX.out.trans (HB6.out.mono HBX.out.size)) HFL.out)
                  clear hre hb6 HSRT HBY
                  go_wp2_with fail
                  refine HFYC.out.mono ?_
                  rintro r w7 ⟨qb, cb, B, rfl, hBm, hBp, _, hB9, hO⟩
                  have hEB : E = B.map fun b => b.id.1 := lt_uniq HE.out.1 hBp (fun x => by rw [HE.out.2, HDX.out, hBm])
                  have HBL : Hid (B.length = ne) := Lib.hid (by rw [HEL.out, hEB, List.length_map])
                  have hne9 : ne ≤ 100000 := by rw [← HBL.out]; exact hB9
                  have HEB := Lib.hid hEB
                  have HO := Lib.hid hO
                  have HB7 := Lib.hid (HB6.out.trans (hO.b.mono HB6.out.size))
                  have HE7 := Lib.hid (HE6.out.old hO.b)
                  rw [HBL.out]
                  have hcg := HCG.out w7 HB7.out
                  clear hBm hBp hB9 hEB hO HFYC HE6 HB6
                  go_wp2_with fail
                  go_loopw [116] (fun s116 wz => ∃ k : Nat, k ≤ ne ∧ s116 = .int .i64 (k : Int) ∧ Hid (Below w7.heap.size w7 wz)) (fun s116 _ => ne - (intOf s116).toNat)
                  case atStart => exact ⟨0, Nat.zero_le _, rfl, Lib.hid (Below.refl _ _)⟩
                  case round =>
                    rename World => wz
                    obtain ⟨k, hk, rfl, HZ⟩ := hrel
                    have k0 : (0 : Int) ≤ (k : Int) := by omega
                    by_cases hkn : k < ne
                    · have hkn' : (k : Int) < (ne : Int) := by omega
                      have hkE : k < E.length := by have := HEL.out; omega
                      obtain ⟨nm, hnm⟩ : ∃ nm, nm = E[k] := ⟨_, rfl⟩
                      obtain ⟨be, oe, rfl, _, hce⟩ := (HE7.out.old HZ.out).rd.str k hkE
                      have hcell2 : wz.cell? ⟨be, oe + k, none⟩ = some (.string ⟨nm.toArray⟩) := by rw [hce, hnm]
                      obtain ⟨Db, hDl, hDrw, hDis, _⟩ := HO.out.ex
                      have hkD : k < Db.length := by rw [hDl, HBL.out]; exact hkn
                      obtain ⟨bb, ob, rfl, _, hcb⟩ := (hDrw.old HZ.out).rd k hkD
                      have hkB : k < B.length := by rw [HBL.out]; exact hkn
                      have hid : (Db[k]).id.1 = nm := by
                        have h1 : (Db.map Blk.is)[k]? = ((B.take B.length).map Blk.is)[k]? := by rw [hDis]
                        rw [List.take_length, List.getElem?_map, List.getElem?_map, List.getElem?_eq_getElem hkD, List.getElem?_eq_getElem hkB] at h1
                        have h2 : (Db[k]).id = (B[k]).id := congrArg (·.1) (Option.some.inj h1)
                        rw [h2, hnm]
                        simp only [HEB.out, List.getElem_map]
                      have hl : nm.length = 32 := by rw [← hid]; exact (Db[k]).id.2
                      have hcv : (convert 68 9 (.slice (some ⟨bb, ob + k * 39, none⟩) 32 32)).run Tryz.prog wz = .ok (.string ⟨nm.toArray⟩) wz := by
                        rw [run_convert_bytes_arg wz 68 5 Tryz.underlying68 Tryz.underlying5 bb (ob + k * 39) 32 32 (nm.map fun x => (x.toNat : Int)) (by simpa using hl) (fun j' hj' => by
                          have h1 := hcb j' _ (show (encK.f Db[k])[j']? = some (.int .u8 ((nm[j']'(by omega)).toNat : Int)) by
                            show (Blk.cells Db[k])[j']? = _
                            unfold Blk.cells
                            rw [hid, List.getElem?_append_left (by rw [vals_len]; omega), vals_get nm j' (by omega)])
                          have h2 : wz.cell? ⟨bb, ob + k * 39 + j', none⟩ = some (.int .u8 ((nm[j']'(by omega)).toNat : Int)) := h1
                          rw [h2]
                          simp [List.getD, hl, hj']) 9 Tryz.underlying9]
                        simp [strOfNums, Function.comp_def]
                      clear hnm hce hkE hDl hDrw hDis hkD hcb hkB hid hl
                      go_wp2_with fail
                      go_roundw
                      case rel => exact ⟨k + 1, by omega, by go_num, HZ⟩
                      case measure => simp [intOf]; omega
                    · obtain rfl : k = ne := by omega
                      have hkn' : ¬ (k : Int) < k := by omega
                      have HE9 : Hid (Below w5.heap.size w5 wz) := Lib.hid (HW.out.trans ((HB7.out.trans (HZ.out.mono HB7.out.size)).mono HW.out.size))
                      clear hkn
                      go_wp2_with fail
                      go_roundw
                      case rel => exact ⟨i + 1, by omega, by go_num, HE9⟩
                      case measure => simp [intOf]; omega
            · obtain rfl : i = m := by omega
              have ik : ¬ (i : Int) < i := by omega
              have HF := Lib.hid (HS.out.b.trans ((HB5.out.trans (HW.out.mono HB5.out.size)).mono HS.out.b.size))
              clear hlt
              go_wp2_with fail
              go_ret
              exact ⟨rfl, HF.out⟩
end Go.Proofs.YtemnebbdaljfbaaGreatDoor
