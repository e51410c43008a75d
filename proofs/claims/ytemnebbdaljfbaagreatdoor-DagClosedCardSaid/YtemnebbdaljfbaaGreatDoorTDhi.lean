/- The parents of each block are there: DagClosed's walk. (PARTS; tools/mk-dhi.py) -/
import Derived.Test.YtemnebbdaljfbaaGreatDoorZ15
import Derived.Test.YtemnebbdaljfbaaGreatDoorZ14
set_option linter.unusedVariables false
set_option linter.unusedSimpArgs false
namespace Go.Proofs.YtemnebbdaljfbaaGreatDoor
open Go.RowKit

/-- Missing's answer: none. -/
def msSt : Stays := ⟨fun v _ => ∃ q c, v = .slice q 0 c, fun h _ => h⟩
set_option maxRecDepth 20000 in
set_option maxHeartbeats 32000000 in
theorem dagClosed_any (sq : Option Addr) (sc : Nat) (L : List SD) (w : World) (hL : Rd encSD w sq L) (hA : ∀ s ∈ L, argS w s) (hl : L.length ≤ 9223372036854775807) (hT : TabAt w) :
    Calls Tryz.prog 6 #[.slice sq L.length sc] w fun r w' => r = .returned (.bool true) ∧ Below w.heap.size w w' := by
  have HT := Lib.hid hT
  have HAW := Lib.hid (awake13_any w hT)
  have HNEW := Lib.hid (fun (u : World) (h : TabAt u) => dgnew_any u h)
  have HROOT := Lib.hid root_any
  have HRL := Lib.hid rootB_len
  have HGRN := Lib.hid (fun (u : World) (hb : Below w.heap.size w u) => grown_any sq sc L 20 u (hL.old hb) (fun s hs => (hA s hs).old hb) (by decide) hl)
  have Hcl : Hid (∀ q, hcells othHd q 1 = #[.int .i64 7, .int .i64 9, .string ⟨#[111, 116, 104, 101, 114]⟩, .int .i64 1, .int .u64 2, .slice q 1 1, .int .i64 0]) := Lib.hid (fun q => rfl)
  have Hrd : Hid (∀ u : World, Rd encN (u.alloc (.cells (vals rootB).toArray 70)) (some ⟨u.heap.size, 0, none⟩) othHd.ps) := Lib.hid (fun u => by
    have := Rd.made encN u 70 [⟨rootB, rootB_len⟩] (by simp [maxLen])
    rw [enc_one] at this; exact this)
  obtain ⟨RB, hRB⟩ : ∃ RB, RB = rootB := ⟨_, rfl⟩
  have HRBE := Lib.hid hRB
  rw [← hRB] at HROOT HRL
  obtain ⟨ln, hln⟩ : ∃ ln, ln = L.length := ⟨_, rfl⟩
  rw [← hln] at HGRN ⊢
  clear hL hA hl hT hln hRB
  go_enter Tryz.func6, Tryz.ntmps6
  go_wp2_with fail
  refine HAW.out.mono ?_
  rintro r w0 ⟨rfl, hb0⟩
  have HB0 := Lib.hid hb0
  clear hb0 HAW
  go_wp2_with fail
  refine (HNEW.out w0 (HT.out.old HB0.out)).mono ?_
  rintro r w1 ⟨da, rfl, S, R, X, hdg, hgen, hR, hb1⟩
  have HD0 := Lib.hid hdg
  have HGEN := Lib.hid hgen
  have HR0 : Hid (∀ k, R k → w.heap.size ≤ k) := Lib.hid (fun k hk => Nat.le_trans HB0.out.size (hR k hk))
  have HB1 := Lib.hid (HB0.out.trans (hb1.mono HB0.out.size))
  clear hdg hgen hR hb1 HNEW
  go_wp2_with fail
  refine (HGRN.out w1 HB1.out).mono ?_
  rintro r w2 ⟨hn, hq, hc, D, hn16, rfl, hG⟩
  have HDN : Hid (hn = D.length) := Lib.hid hG.len.symm
  have HBT : Hid (BtH w1 w2 hq D) := Lib.hid ⟨fun a e => ⟨hG.f a e, by have := hG.rw; rw [e] at this; exact this.lt⟩, fun y hy z e => ⟨hG.fr y hy z e, by
    obtain ⟨cur, hcu⟩ := (hG.ok y hy).t z e
    exact (Array.getElem?_eq_some_iff.1 hcu).1⟩⟩
  have H0 : Hid (CwS w w1 w2 da hq D w2 0) := Lib.hid ⟨⟨S, R, X, HD0.out.old hG.b, (by
      obtain ⟨b, hX, h1, h2⟩ := gen_mem HGEN.out
      intro b' hb'
      rw [hX] at hb'
      rw [List.mem_singleton.1 hb', h1, h2]), ClD.gen HGEN.out, (by
      obtain ⟨b, hX, _⟩ := gen_mem HGEN.out
      rw [hX]; exact Nat.le_refl _), fun k hk => ⟨HR0.out k hk, .inl (HD0.out.rl k hk)⟩⟩, hG.rw.rd, hG.ok, HB1.out.trans (hG.b.mono HB1.out.size), Nat.le_refl _⟩
  clear hG HGRN HD0 HGEN HR0
  go_wp2_with fail
  go_loopw [26] (fun s26 wr => ∃ k : Nat, k ≤ hn ∧ s26 = .int .i64 (k : Int) ∧ Hid (CwS w w1 w2 da hq D wr k)) (fun s26 _ => hn - (intOf s26).toNat)
  case atStart => exact ⟨0, by omega, rfl, H0⟩
  case round =>
    clear H0
    obtain ⟨k, hkn, rfl, HS⟩ := hrel
    have k0 : (0 : Int) ≤ k := by omega
    by_cases hlt : k < hn
    · have hlt' : (k : Int) < hn := by omega
      obtain ⟨bs, off, rfl, hbs, cx⟩ := HS.out.rd k (by have := HDN.out; omega)
      obtain ⟨y, hy⟩ : ∃ y, y = D[k]'(by have := HDN.out; omega) := ⟨_, rfl⟩
      rw [← hy] at cx
      have HYK : Hid (okH wr y) := Lib.hid (HS.out.ok y (by rw [hy]; exact List.getElem_mem _))
      have HCL : Hid (∀ i u, y.cells[i]? = some u → wr.cell? ⟨bs, off + k * 7 + i, none⟩ = some u) := Lib.hid cx
      have HYS : Hid (y.cells.toArray.size = 7) := Lib.hid rfl
      have HYI := Lib.hid (rh_info y)
      have HYO : Hid (∀ v ∈ y.cells.toArray.toList, v.oneCell' = true) := Lib.hid y.one
      clear hy cx hbs
      go_upto_region 10 with (first
        | (refine wpList_exec rfl (exec_load_rhm (.tmp 28) rfl bs (off + k * 7) rfl y HCL.out) ?_; go_frame)
        | (refine wpList_store_row rfl rfl 29 (.tmp 6) (.tmp 29) rfl wr.heap.size rfl 29 _ y.cells.toArray rfl (heap_alloc_new wr _) HYS.out.symm HYI.out HYO.out ?_))
      refine wp_gen (fun W5 => W5.heap[wr.heap.size]? = some (.cells y.cells.toArray 29 (0, 0)) ∧ Below wr.heap.size wr W5) (row_new wr _ _ y.cells.toArray 29 rfl) (fun W5 hW5 => ?_)
      obtain ⟨hr5, hb5⟩ := hW5
      obtain ⟨g6, hg6⟩ : ∃ g6, g6 = wr.heap.size := ⟨_, rfl⟩
      rw [← hg6] at hr5
      rw [← hg6]
      have HBR5 := Lib.hid hb5
      have HOW : Hid (∀ u : World, Below wr.heap.size wr u → Calls Tryz.prog 13 #[.agg y.cells.toArray] u fun r w' => ∃ q c, r = .returned (.agg (hcells (ownH y.h) q c)) ∧ Rw encN 70 w' q c (ownH y.h).ps ∧ Below u.heap.size u w' ∧ ∀ a, q = some a → u.heap.size ≤ a.block) := Lib.hid (fun u hb => own_any y.h y.q y.c u (HYK.out.a.rd.old hb) (by have := HYK.out.n; omega))
      have HOK : Hid (HOk (ownH y.h)) := Lib.hid (by
        have h1 := HYK.out.n
        have h2 := HYK.out.k
        have h3 := HYK.out.a
        exact ⟨by show (y.h.ps.map nmOf).length ≤ _; rw [List.length_map]; omega, by show y.h.tk.length ≤ _; omega, h3.pw, h3.b1, h3.b2, h3.b3, h3.b4⟩)
      obtain ⟨YC, hYC⟩ : ∃ YC, YC = y.cells.toArray := ⟨_, rfl⟩
      rw [← hYC] at HOW HYI hr5
      have HR5 := Lib.hid hr5
      obtain ⟨S, R, X, hdg, hid, hcl, hlen, hR⟩ := HS.out.dg
      have HDG := Lib.hid hdg
      have HID := Lib.hid hid
      have HCD := Lib.hid hcl
      have HLE := Lib.hid hlen
      have HRR := Lib.hid hR
      clear hr5 hb5 hg6 hYC HCL hdg hid hcl hlen hR
      go_upto_region 10 with fail
      go_upto_region 11 with (refine wpList_exec rfl (exec_load_row 29 (.tmp 6) rfl g6 rfl 29 YC (0, 0) _ HR5.out Tryz.underlying29 rfl HYI.out) ?_)
      refine (HOW.out W5 HBR5.out).mono ?_
      rintro r W6 ⟨oq, oc, rfl, hor, hb6, _⟩
      obtain ⟨HC, hHC⟩ : ∃ HC, HC = hcells (ownH y.h) oq oc := ⟨_, rfl⟩
      have HBR6 := Lib.hid (HBR5.out.trans (hb6.mono HBR5.out.size))
      have HADD := Lib.hid (dgadd_any (HDG.out.old HBR6.out) (ownH y.h) oq oc hor.rd hor.ao HOK.out (by have := HLE.out; omega) (HT.out.old (HS.out.b.trans (HBR6.out.mono HS.out.b.size))))
      rw [← hHC] at HADD
      rw [← hHC]
      clear hHC hor hb6
      go_upto_region 11 with fail
      refine HADD.out.mono ?_
      rintro r W7 ⟨e4, rfl, hk4, hp4⟩
      have HNX : Hid (CwS w w1 w2 da (some ⟨bs, off, none⟩) D W7 (k + 1)) := Lib.hid (by
        rcases hp4 with ⟨h0, hb7⟩ | ⟨h0, hA⟩
        · have hb := HBR6.out.trans (hb7.mono HBR6.out.size)
          exact (HS.out.old hb).more
        · subst h0
          exact HS.out.add HBT.out HDG.out HID.out HCD.out HLE.out HRR.out HBR6.out hk4 hA)
      clear hk4 hp4 HADD
      go_wp2_with fail
      go_roundw
      case rel => exact ⟨k + 1, by omega, by go_num, HNX⟩
      case measure => simp [intOf] <;> omega
    · obtain rfl : k = hn := by omega
      have hlt' : ¬ (k : Int) < k := by omega
      clear hlt
      obtain ⟨S, R, X, hdg, hid, hcl, hlen, hR⟩ := HS.out.dg
      have HDG := Lib.hid hdg
      have HCLO := Lib.hid hcl
      have HID := Lib.hid hid
      have HCLN := Lib.hid (dgclone_any hdg)
      obtain ⟨n, hnn⟩ : ∃ n, n = X.K.length := ⟨_, rfl⟩
      have HNL := Lib.hid hnn
      have HLN9 : Hid (n ≤ 21) := Lib.hid (by rw [hnn]; omega)
      have HN9 : Hid (n ≤ 100000) := Lib.hid (by rw [hnn]; exact hdg.len)
      obtain ⟨BD, hBD⟩ : ∃ B, B = ksort (X.K.map (·.id)) := ⟨_, rfl⟩
      have HBD := Lib.hid hBD
      have HBL : Hid (BD.length = n) := Lib.hid (by rw [hBD, hnn]; exact (List.length_mergeSort _).trans (List.length_map _))
      have HBM : Hid (∀ x ∈ BD, hasE x (kE X.K) = true) := Lib.hid (fun x hx => by rw [hBD, ksort_mem] at hx; obtain ⟨b, hb, e⟩ := List.mem_map.1 hx; exact (kE_has _ _).2 ⟨b, hb, e⟩)
      have HLD0 : Hid (∀ u : World, Below wr.heap.size wr u → Calls Tryz.prog 16 #[.pointer (some ⟨da, 0, none⟩)] u fun r w' => r = .returned (.int .i64 (n : Nat)) ∧ u = w') := Lib.hid (fun u hu => by
        have h := dglen_any (hdg.old hu)
        rw [← hnn] at h; exact h)
      clear hdg hid hcl hlen hR hnn hBD
      go_wp2_with fail
      refine HCLN.out.mono ?_
      rintro r W1 ⟨ca, rfl, Sc, Rc, Xc, hXK, hdc, hSc, hRc, hb1⟩
      have HXK := Lib.hid hXK
      have HDC := Lib.hid hdc
      have HSC := Lib.hid hSc
      have HBC := Lib.hid hb1
      have HLC0 : Hid (Calls Tryz.prog 16 #[.pointer (some ⟨ca, 0, none⟩)] W1 fun r w' => r = .returned (.int .i64 (n : Nat)) ∧ W1 = w') := Lib.hid (by
        have h := dglen_any hdc
        rw [hXK, ← HNL.out] at h; exact h)
      clear hXK hdc hSc hRc hb1 HCLN
      go_wp2_with fail
      refine (HLD0.out W1 HBC.out).mono ?_
      rintro r w9 ⟨rfl, rfl⟩
      go_wp2_with fail
      refine HLC0.out.mono ?_
      rintro r w9 ⟨rfl, rfl⟩
      have HBW1 := Lib.hid (HS.out.b.trans (HBC.out.mono HS.out.b.size))
      clear HLC0 HLD0
      go_wp2_with fail
      refine (HROOT.out W1 (HT.out.old HBW1.out)).mono ?_
      rintro r w4 ⟨rfl, hb4⟩
      obtain ⟨W5, hW5⟩ : ∃ W5, W5 = w4.alloc (.cells (vals RB).toArray 70) := ⟨_, rfl⟩
      obtain ⟨g5, hg5⟩ : ∃ g5, g5 = w4.heap.size := ⟨_, rfl⟩
      have hb5 : Below w4.heap.size w4 W5 := by rw [hW5]; exact alloc1 _ _
      have hrd5 : Rd encN W5 (some ⟨g5, 0, none⟩) othHd.ps := by rw [hW5, hg5, HRBE.out]; exact Hrd.out w4
      obtain ⟨HC, hHC⟩ : ∃ HC, HC = hcells othHd (some ⟨g5, 0, none⟩) 1 := ⟨_, rfl⟩
      have HHC := Lib.hid hHC
      have HI : Hid ((Tryz.prog.info? 41).map (·.size) = some HC.size) := Lib.hid (by rw [hHC]; exact hinfo)
      have HONH : Hid (∀ v ∈ HC.toList, v.oneCell' = true) := Lib.hid (by rw [hHC]; exact hcells_one _ _ _)
      have HSZ : Hid (HC.size = 7) := Lib.hid (by rw [hHC]; rfl)
      have hHC2 : #[.int .i64 7, .int .i64 9, .string ⟨#[111, 116, 104, 101, 114]⟩, .int .i64 1, .int .u64 2, .slice (some ⟨g5, 0, none⟩) 1 1, .int .i64 0] = HC := by rw [hHC]; exact (Hcl.out _).symm
      have HHC2 := Lib.hid hHC2
      have HW5 := Lib.hid hW5
      have HG5 := Lib.hid hg5
      have HB15 : Hid (Below W1.heap.size W1 W5) := Lib.hid (hb4.trans (hb5.mono hb4.size))
      have HRD5 := Lib.hid hrd5
      clear hb4 hW5 hg5 hb5 hrd5 hHC hHC2
      go_upto_region 17 with (first
        | (refine wpList_exec rfl (build_name (.tmp 47) rfl RB HRL.out rfl) ?_; rw [← HW5.out, ← HG5.out]; go_frame)
        | (refine wpList_store_row rfl rfl 41 (.tmp 9) (.tmp 49) rfl W5.heap.size rfl 41 _ HC (by rw [← HHC2.out]; rfl) (heap_alloc_new W5 _) HSZ.out.symm HI.out HONH.out ?_))
      refine wp_gen (fun W6 => W6.heap[W5.heap.size]? = some (.cells HC 41 (0, 0)) ∧ Below W5.heap.size W5 W6) (row_new W5 _ _ HC 41 rfl) (fun W6 hW6 => ?_)
      obtain ⟨hr6, hb6⟩ := hW6
      obtain ⟨g9, hg9⟩ : ∃ g9, g9 = W5.heap.size := ⟨_, rfl⟩
      rw [← hg9] at hr6
      rw [← hg9]
      have HR6 := Lib.hid hr6
      have HRD6 := Lib.hid (HRD5.out.old hb6)
      have HB16 : Hid (Below W1.heap.size W1 W6) := Lib.hid (HB15.out.trans (hb6.mono HB15.out.size))
      have HBW6 := Lib.hid (HBW1.out.trans (HB16.out.mono HBW1.out.size))
      obtain ⟨ON, hON⟩ : ∃ ON, ON = nmH othHd := ⟨_, rfl⟩
      have HON := Lib.hid hON
      have HIDC : Hid (Calls Tryz.prog 34 #[.agg HC] W6 fun r w' => r = .returned (.agg (vals ON.1).toArray) ∧ Below W6.heap.size W6 w') := Lib.hid (by rw [hON, HHC.out]; exact hid_any othHd (some ⟨g5, 0, none⟩) 1 W6 HRD6.out (HOk.of othHd_ok) (HT.out.old HBW6.out))
      obtain ⟨hx, hhx⟩ : ∃ hx, hx = hasE ON (kE X.K) := ⟨_, rfl⟩
      have HHX := Lib.hid hhx
      clear hr6 hb6 hg9 hON hhx
      go_upto_region 18 with fail
      go_upto_region 19 with (refine wpList_exec rfl (exec_load_row 41 (.tmp 9) rfl g9 rfl 41 HC (0, 0) _ HR6.out Tryz.underlying41 rfl HI.out) ?_)
      refine HIDC.out.mono ?_
      rintro r W6b ⟨rfl, hb6b⟩
      have HB66 := Lib.hid hb6b
      have HB16b := Lib.hid (HB16.out.trans (hb6b.mono HB16.out.size))
      have HHAS := Lib.hid (dghas_any ((HDG.out.old HBC.out).old HB16b.out) ON)
      rw [← HHX.out] at HHAS
      clear hb6b HIDC
      go_upto_region 19 with fail
      refine HHAS.out.mono ?_
      rintro r W7 ⟨rfl, hb7⟩
      have HB67 := Lib.hid (HB66.out.trans (hb7.mono HB66.out.size))
      have HR7 := Lib.hid ((HB67.out.block g9 (Array.getElem?_eq_some_iff.1 HR6.out).1).trans HR6.out)
      have HB17 := Lib.hid (HB16.out.trans (HB67.out.mono HB16.out.size))
      have HB7 := Lib.hid (HBW1.out.trans (HB17.out.mono HBW1.out.size))
      have HDG7 := Lib.hid ((HDG.out.old HBC.out).old HB17.out)
      have HDC7 := Lib.hid (HDC.out.old HB17.out)
      have HADD := Lib.hid (dgadd_any HDC7.out othHd (some ⟨g5, 0, none⟩) 1 (HRD6.out.old HB67.out) (.inr ⟨g5, 0, rfl⟩) (HOk.of othHd_ok) (by rw [HXK.out, ← HNL.out]; have := HLN9.out; omega) (HT.out.old HB7.out))
      rw [← HHC.out] at HADD
      clear hb7 HHAS HR6 HB66 HB67 HB16b
      cases hx with
      | true =>
        go_upto_region 20 with fail
        go_upto_region 21 with (refine wpList_exec rfl (exec_load_row 41 (.tmp 9) rfl g9 rfl 41 HC (0, 0) _ HR7.out Tryz.underlying41 rfl HI.out) ?_)
        refine HADD.out.mono ?_
        rintro r W8 ⟨e, rfl, hc8, hp8⟩
        have hclX : ClD Xc.K := by rw [HXK.out]; exact HCLO.out
        have hcn : (Xc.K.map (·.id)).Nodup := by rw [HXK.out]; exact HDG.out.nodup
        have hxK : hasE ON (kE Xc.K) = true := by rw [HXK.out]; exact HHX.out.symm
        have hb8 : Below W7.heap.size W7 W8 := by
          rcases hp8 with ⟨_, hb8⟩ | ⟨h, _⟩
          · exact hb8
          · exact absurd h ((oth_chk hclX hcn hc8).1 (by rw [← HON.out, hxK]))
        have HDG8 := Lib.hid (HDG7.out.old hb8)
        have HB8 := Lib.hid (HB7.out.trans (hb8.mono HB7.out.size))
        have HLC8 : Hid (∀ u : World, Below W8.heap.size W8 u → Calls Tryz.prog 16 #[.pointer (some ⟨ca, 0, none⟩)] u fun r w' => r = .returned (.int .i64 ((n + 0 : Nat) : Int)) ∧ u = w') := Lib.hid (fun u hu => by
          have h := dglen_any ((HDC7.out.old hb8).old hu)
          rw [HXK.out] at h
          rw [Nat.add_zero, HNL.out]; exact h)
        have HBLK := Lib.hid (dgblocks_any HDG8.out)
        rw [← HNL.out, ← HBD.out] at HBLK
        have HDB : Hid (∀ (u : World) (nm : Nm), Below W8.heap.size W8 u → Calls Tryz.prog 36 #[.pointer (some ⟨da, 0, none⟩), .agg (vals nm.1).toArray] u fun r w' => ∃ b0 b1 : Blk, r = .returned (.tuple #[.agg b1.cells.toArray, .bool (hasE nm (kE X.K))]) ∧ b1.is = b0.is ∧ okW u w' b1 ∧ (hasE nm (kE X.K) = true → b0 ∈ X.K ∧ b0.id = nm) ∧ Below u.heap.size u w') := Lib.hid (fun u nm hu => dgblock_any (HDG8.out.old hu) nm)
        have HDT : Hid (∀ (u : World) (s : List UInt8), Below W8.heap.size W8 u → s.length ≤ 1000000 → Calls Tryz.prog 19 #[.pointer (some ⟨da, 0, none⟩), .string ⟨s.toArray⟩] u fun r w' => ∃ v Y e, r = .returned (.tuple #[.agg #[v], .int .i64 e]) ∧ TsV w' v Y ∧ TipP X.K s Y e ∧ Below u.heap.size u w') := Lib.hid (fun u s hu hs => dgtipset_any (HDG8.out.old hu) s hs)
        have HDM : Hid (∀ (u : World) (ao : Option Addr) (cap : Nat) (P : List Nm), Below W8.heap.size W8 u → Rd encN u ao P → (ao = none ∨ ∃ b off, ao = some ⟨b, off, none⟩) → P.length ≤ 1000000 → kset (P.filter (noK X)) = [] → Calls Tryz.prog 27 #[.pointer (some ⟨da, 0, none⟩), .slice ao P.length cap] u fun r w' => ∃ q c, r = .returned (.slice q 0 c) ∧ Below u.heap.size u w') := Lib.hid (fun u ao cap P hu hP hao hn hk => by
          refine (dgmissing_any (HDG8.out.old hu) ao cap P hP hao hn).mono ?_
          rintro r w' ⟨q, c, rfl, _, hb⟩
          rw [hk]; exact ⟨q, c, rfl, hb⟩)
        have HLD : Hid (∀ u : World, Below W8.heap.size W8 u → Calls Tryz.prog 16 #[.pointer (some ⟨da, 0, none⟩)] u fun r w' => r = .returned (.int .i64 (n : Nat)) ∧ u = w') := Lib.hid (fun u hu => by
          have h := dglen_any (HDG8.out.old hu)
          rw [← HNL.out] at h; exact h)
        obtain ⟨W8b, hW8b⟩ : ∃ x, x = W8 := ⟨_, rfl⟩
        clear hc8 hp8 hclX hcn hxK HADD hW8b
        go_wp2_with fail
        refine HBLK.out.mono ?_
        rintro r wb ⟨qb, cb, rfl, hrb, _, hbb⟩
        have HQB := Lib.hid hrb
        have HBB := Lib.hid hbb
        clear hrb hbb HBLK
        go_wp2_with fail
        go_loopw [60] (fun s60 wx => ∃ i : Nat, i ≤ n ∧ s60 = .int .i64 (i : Int) ∧ Hid (Below wb.heap.size wb wx)) (fun s60 _ => n - (intOf s60).toNat)
        case atStart => exact ⟨0, Nat.zero_le _, rfl, Lib.hid (Below.refl _ _)⟩
        case round =>
          rename World => wx
          obtain ⟨i, hik, rfl, HW⟩ := hrel
          have i0 : (0 : Int) ≤ (i : Int) := by omega
          have n9 : n ≤ 100000 := HN9.out
          by_cases hlt : i < n
          · have ik : (i : Int) < (n : Int) := by omega
            have hiB : i < BD.length := by rw [HBL.out]; exact hlt
            obtain ⟨nm, hnm⟩ : ∃ nm, nm = BD[i] := ⟨_, rfl⟩
            obtain ⟨gq, oq, rfl, _, hcq⟩ := (HQB.out.old HW.out).rd i hiB
            rw [← hnm] at hcq
            have HCN : Hid (∀ j u, (encN.f nm)[j]? = some u → wx.cell? ⟨gq, oq + i * 32 + j, none⟩ = some u) := Lib.hid hcq
            have HHE : Hid (hasE nm (kE X.K) = true) := Lib.hid (HBM.out nm (by rw [hnm]; exact List.getElem_mem _))
            have HI2 : Hid ((Tryz.prog.info? 70).map (·.size) = some (vals nm.1).toArray.size) := Lib.hid (id_info nm.2)
            have HSZ2 : Hid ((vals nm.1).toArray.size = 32) := Lib.hid (id_size nm.2)
            have HON2 : Hid (∀ v ∈ (vals nm.1).toArray.toList, v.oneCell' = true) := Lib.hid (id_one nm.1)
            have HBX : Hid (Below W8.heap.size W8 wx) := Lib.hid (HBB.out.trans (HW.out.mono HBB.out.size))
            clear hnm hcq hiB
            go_upto_region 24 with (first
              | (refine wpList_exec rfl (exec_load_mid (.tmp 62) rfl gq (oq + i * 32) rfl nm HCN.out) ?_; go_frame)
              | (refine wpList_store_row rfl rfl 70 (.tmp 12) (.tmp 63) rfl wx.heap.size rfl 70 _ (vals nm.1).toArray rfl (heap_alloc_new wx _) HSZ2.out.symm HI2.out HON2.out ?_))
            refine wp_gen (fun W5 => W5.heap[wx.heap.size]? = some (.cells (vals nm.1).toArray 70 (0, 0)) ∧ Below wx.heap.size wx W5) (row_new wx _ _ (vals nm.1).toArray 70 rfl) (fun W20 hW20 => ?_)
            obtain ⟨hr20, hb20⟩ := hW20
            obtain ⟨g12, hg12⟩ : ∃ g12, g12 = wx.heap.size := ⟨_, rfl⟩
            rw [← hg12] at hr20
            rw [← hg12]
            have HR20 := Lib.hid hr20
            have HB20 := Lib.hid (HBX.out.trans (hb20.mono HBX.out.size))
            have HWX0 := Lib.hid (HW.out.trans (hb20.mono HW.out.size))
            have HBKC := Lib.hid (HDB.out W20 nm HB20.out)
            rw [HHE.out] at HBKC
            clear hr20 hb20 hg12 HCN
            go_upto_region 24 with fail
            go_upto_region 25 with (refine wpList_exec rfl (exec_load_row 70 (.tmp 12) rfl g12 rfl 70 (vals nm.1).toArray (0, 0) _ HR20.out Tryz.underlying70 rfl HI2.out) ?_)
            refine HBKC.out.mono ?_
            rintro r W21 ⟨b0, b1, rfl, hbis, hbok, hbin, hb21⟩
            obtain ⟨hb0K, hb0i⟩ := hbin trivial
            have HB0 := Lib.hid hb0K
            have HNI : Hid (b0.id = nm) := Lib.hid hb0i
            have hbh : b1.h = b0.h := congrArg (·.2) hbis
            have HBH := Lib.hid hbh
            have HBO : Hid (okW W20 W21 b1) := Lib.hid hbok
            have HB21 := Lib.hid (HB20.out.trans (hb21.mono HB20.out.size))
            have HWX1 := Lib.hid (HWX0.out.trans (hb21.mono HWX0.out.size))
            have HR21 := Lib.hid ((hb21.block g12 (Array.getElem?_eq_some_iff.1 HR20.out).1).trans HR20.out)
            have HQ1 : Hid (b1.cells.toArray.size = 39) := Lib.hid b1.size
            have HQ2 := Lib.hid (blk_info b1)
            have HQ3 : Hid (∀ v ∈ b1.cells.toArray.toList, v.oneCell' = true) := Lib.hid (by simpa using b1.one)
            clear hbis hbok hbin hb21 hb0K hb0i hbh HBKC
            go_upto_region 25 with (refine wpList_store_row rfl rfl 72 (.tmp 13) (.tmp 68) rfl W21.heap.size rfl 72 _ b1.cells.toArray rfl (heap_alloc_new W21 _) HQ1.out.symm HQ2.out HQ3.out ?_)
            refine wp_gen (fun W => W.heap[W21.heap.size]? = some (.cells b1.cells.toArray 72 (0, 0)) ∧ Below W21.heap.size W21 W) (row_new W21 _ _ b1.cells.toArray 72 rfl) (fun WK hW8 => ?_)
            have HR13 := Lib.hid hW8.1
            have HB8x := Lib.hid (HB21.out.trans (hW8.2.mono HB21.out.size))
            have HWX := Lib.hid (HWX1.out.trans (hW8.2.mono HWX1.out.size))
            have HR12 := Lib.hid ((hW8.2.block g12 (Array.getElem?_eq_some_iff.1 HR21.out).1).trans HR21.out)
            have HBO8 := Lib.hid (HBO.out.rw.old hW8.2)
            have HT8 : Hid (TabAt WK) := Lib.hid (HT.out.old (HB8.out.trans (HB8x.out.mono HB8.out.size)))
            obtain ⟨g13, hg13⟩ : ∃ g, g = W21.heap.size := ⟨_, rfl⟩
            rw [← hg13] at HR13
            rw [← hg13]
            clear hW8 hg13 HQ1 HQ2 HQ3 HBO HR20 HR21
            obtain ⟨DD0, hDD0⟩ : ∃ d : Bool, d = (nm.1 == RB) := ⟨_, rfl⟩
            have HEQ : Hid (∀ u, (binOp .eql 70 (.agg (vals nm.1).toArray) (.agg (vals RB).toArray)).run Tryz.prog u = .ok (.bool DD0) u) := Lib.hid (fun u => by rw [hDD0]; exact id_eql nm.1 RB nm.2 HRL.out u)
            have HDD0 := Lib.hid hDD0
            clear hDD0
            go_upto_region 27 with fail
            refine wp_region_puts (fun t v w => VK (match t with
              | 72 => .eq (.agg (vals nm.1).toArray)
              | 73 => .eq (.agg (vals RB).toArray)
              | 74 => .eq (.bool DD0)
              | _ => .any) v w) (fun w' => Below WK.heap.size WK w') 116 (by kernel_rfl) (by decide +kernel) rfl (Below.refl _ _).drew (by
              refine OweAll.cons (owesK rfl rfl fun a w1 ha hG hV => ?_) ?_
              · skip
                have h12 := ha.outer 12 (by decide +kernel)
                simp only [Act.eval] at h12
                exact ⟨.agg (vals nm.1).toArray, w1, wanted_free rfl, exec_load_mid (.tmp 12) rfl g12 0 h12 nm (fun i u hu => by rw [cell_of_row _ g12 (0 + i) _ _ _ ((hG.block g12 (Array.getElem?_eq_some_iff.1 HR12.out).1).trans HR12.out), Nat.zero_add, List.getElem?_toArray]; exact hu), Below.refl _ _, rfl⟩
              refine OweAll.cons (owesK_call rfl rfl 32 fun a w1 ha hG hV => ?_) ?_
              · skip
                refine ⟨#[], wanted_free rfl, by simp [execOp, resolve, invoke, go_sem], ?_⟩
                refine (HROOT.out w1 (HT8.out.old hG)).mono ?_
                rintro r u2 ⟨rfl, hb⟩; exact ⟨_, rfl, rfl, hb⟩
              refine OweAll.cons (owesK rfl rfl fun a w1 ha hG hV => ?_) ?_
              · skip
                have h72 : a.tmps.getD 72 undef = .agg (vals nm.1).toArray := hV.get 72 (by decide +kernel)
                have h73 : a.tmps.getD 73 undef = .agg (vals RB).toArray := hV.get 73 (by decide +kernel)
                have heq := HEQ.out
                exact ⟨.bool DD0, w1, wanted_free rfl, by simp [execOp, go_sem, h72, h73, heq], Below.refl _ _, rfl⟩
              exact OweAll.nil
              ) ?_
            intro f wz hG hv
            have e74 : f 74 = .bool DD0 := hv 2 _ 74 rfl rfl
            rename_i hK
            refine hK _ _ ?_
            clear hK hv
            simp only [dsts, puts, List.filterMap_cons, List.filterMap_nil, List.foldl_cons, List.foldl_nil, Act.put, List.setIfInBounds_toArray, List.set_cons_succ, List.set_cons_zero, e74]
            clear e74
            have HBW8 := Lib.hid (HB8x.out.trans (hG.mono HB8x.out.size))
            have HBZ := Lib.hid hG
            clear hG
            cases DD0 with
            | true =>
              have HWE : Hid (Below wb.heap.size wb wz) := Lib.hid (HWX.out.trans (HBZ.out.mono HWX.out.size))
              go_wp2_with fail
              go_roundw
              case rel => exact ⟨i + 1, by omega, by go_num, HWE⟩
              case measure => simp [intOf]; omega
            | false =>
              have hne : b0.id ≠ nmH ghd := fun e => by
                have h1 := HDD0.out
                rw [← HNI.out, e, HRBE.out] at h1
                have h2 : (nmH ghd).1 = rootB := rfl
                rw [h2] at h1; simp at h1
              have HNE := Lib.hid hne
              obtain ⟨bq, hbq⟩ : ∃ x, x = b1.q := ⟨_, rfl⟩
              obtain ⟨bc, hbc⟩ : ∃ x, x = b1.c := ⟨_, rfl⟩
              obtain ⟨bn, hbn⟩ : ∃ x, x = b1.h.ps.length := ⟨_, rfl⟩
              obtain ⟨bht, hbht⟩ : ∃ x, x = b1.h.ht := ⟨_, rfl⟩
              have HC13 : Hid (∀ u : World, Below WK.heap.size WK u → u.cell? ⟨g13, 32, none⟩ = some (.int .i64 bht) ∧ u.cell? ⟨g13, 37, none⟩ = some (.slice bq bn bc)) := Lib.hid (fun u hu => by
                have hrow := (hu.block _ (Array.getElem?_eq_some_iff.1 HR13.out).1).trans HR13.out
                have h1 := blk_hd hrow (i := 0) (u := .int .i64 b1.h.ht) rfl
                have h2 := blk_hd hrow (i := 5) (u := .slice b1.q b1.h.ps.length b1.c) rfl
                rw [hbht, hbq, hbn, hbc]
                exact ⟨h1, h2⟩)
              have hps9 : bn ≤ 1000000 := by rw [hbn, HBH.out]; exact Nat.le_trans (HDG.out.ko b0 HB0.out).2.1 (by decide)
              have hadr : bq = none ∨ ∃ b off, bq = some ⟨b, off, none⟩ := by
                rw [hbq]
                rcases HBO8.out.shape with ⟨e, _⟩ | ⟨g, e, _⟩
                · exact .inl e
                · exact .inr ⟨g, 0, e⟩
              have HKY := Lib.hid (key_any bq bc b1.h.ps wz (by rw [hbq]; exact (HBO8.out.old HBZ.out).rd) hadr (by rw [← hbn]; exact hps9))
              have hkl : (kB (kset b1.h.ps)).length ≤ 1000000 := by
                have h1 := kset_len b1.h.ps
                have h2 := HBH.out
                have h3 := (HDG.out.ko b0 HB0.out).2.1
                rw [kB_len, ]
                rw [h2] at h1 ⊢
                omega
              have HTPC := Lib.hid (fun (u : World) (hu : Below wz.heap.size wz u) => HDT.out u (kB (kset b1.h.ps)) (HBW8.out.trans (hu.mono HBW8.out.size)) hkl)
              have HTIP : Hid (∀ (Y : List BI) (e : Int), TipP X.K (kB (kset b1.h.ps)) Y e → e = 0 ∧ htX Y < bht) := Lib.hid (fun Y e ht => by
                rw [hbht, HBH.out]
                rw [HBH.out] at ht
                exact HCLO.out.tip HDG.out.nodup HB0.out HNE.out ht)
              have HMSK : Hid (kset (b1.h.ps.filter (noK X)) = []) := Lib.hid (by rw [HBH.out]; exact HCLO.out.miss HB0.out HNE.out)
              obtain ⟨KY, hKY⟩ : ∃ KY : ByteArray, KY = ⟨(kB (kset b1.h.ps)).toArray⟩ := ⟨_, rfl⟩
              rw [← hKY, ← hbn] at HKY
              rw [← hKY] at HTPC
              have HBNL := Lib.hid hbn
              have HBQL := Lib.hid hbq
              have HADR := Lib.hid hadr
              have HP9 := Lib.hid hps9
              have c79 := (HC13.out wz HBZ.out).2
              clear hne hbq hbc hbn hbht hkl hKY hadr
              go_upto_region 29 with fail
              refine HKY.out.mono ?_
              rintro r W31 ⟨rfl, hb31⟩
              have HB31 := Lib.hid hb31
              clear hb31 c79 HKY
              go_upto_region 29 with fail
              refine (HTPC.out W31 HB31.out).mono ?_
              rintro r W32 ⟨tv, Y, e2, rfl, htv, htp, hb32⟩
              obtain ⟨he2, hhY⟩ := HTIP.out Y e2 htp
              subst he2
              have HTV := Lib.hid htv
              have HONV : Hid (∀ u ∈ (#[tv] : Array Value).toList, u.oneCell' = true) := Lib.hid (by
                obtain ⟨p', c', L', e, _⟩ := htv
                intro u hu
                rw [e] at hu
                simp only [List.mem_singleton] at hu
                rw [hu]; rfl)
              have HSIV := Lib.hid (ts_info tv)
              obtain ⟨hY, hhY2⟩ : ∃ hY, hY = htX Y := ⟨_, rfl⟩
              have HTH : Hid (∀ u : World, TsV u tv Y → Calls Tryz.prog 38 #[.agg #[tv]] u fun r w' => r = .returned (.int .i64 hY) ∧ Below u.heap.size u w') := Lib.hid (fun u hu => by rw [hhY2]; exact hu.height)
              rw [← hhY2] at hhY
              have HLT : Hid (¬ bht ≤ hY) := Lib.hid (by omega)
              have HB32 := Lib.hid (HB31.out.trans (hb32.mono HB31.out.size))
              clear htv htp hb32 HTPC hhY hhY2
              go_upto_region 29 with (refine wpList_store_row rfl rfl 52 (.tmp 15) (.tmp 82) rfl W32.heap.size rfl 52 _ #[tv] rfl (heap_alloc_new W32 _) rfl HSIV.out HONV.out ?_)
              refine wp_gen (fun W34 => W34.heap[W32.heap.size]? = some (.cells #[tv] 52 (0, 0)) ∧ Below W32.heap.size W32 W34) (row_new W32 _ _ #[tv] 52 rfl) (fun W9 hW9 => ?_)
              obtain ⟨hr9, hb9⟩ := hW9
              obtain ⟨g15, hg15⟩ : ∃ g15, g15 = W32.heap.size := ⟨_, rfl⟩
              rw [← hg15] at hr9
              rw [← hg15]
              have HR15 := Lib.hid hr9
              have HTV9 := Lib.hid (HTV.out.old hb9)
              have HBZ9 : Hid (Below wz.heap.size wz W9) := Lib.hid (HB32.out.trans (hb9.mono HB32.out.size))
              have HB89 : Hid (Below WK.heap.size WK W9) := Lib.hid (HBZ.out.trans (HBZ9.out.mono HBZ.out.size))
              have HC9 : Hid (∀ u : World, Below W9.heap.size W9 u → u.cell? ⟨g13, 32, none⟩ = some (.int .i64 bht) ∧ u.cell? ⟨g13, 37, none⟩ = some (.slice bq bn bc)) := Lib.hid (fun u hu => HC13.out u (HB89.out.trans (hu.mono HB89.out.size)))
              have HBW9 := Lib.hid (HBW8.out.trans (HBZ9.out.mono HBW8.out.size))
              have HMS : Hid (∀ u : World, Below W9.heap.size W9 u → Calls Tryz.prog 27 #[.pointer (some ⟨da, 0, none⟩), .slice bq bn bc] u fun r w' => ∃ q c, r = .returned (.slice q 0 c) ∧ Below u.heap.size u w') := Lib.hid (fun u hu => by
                rw [HBNL.out]
                exact HDM.out u bq bc b1.h.ps (HBW9.out.trans (hu.mono HBW9.out.size)) (by rw [HBQL.out]; exact ((HBO8.out.old HB89.out).old hu).rd) HADR.out (by rw [← HBNL.out]; exact HP9.out) HMSK.out)
              clear hr9 hb9 hg15 HTV HONV HSIV
              go_upto_region 29 with fail
              refine wp_region_puts (fun t v w => VK (match t with
                | 84 => .eq (.int .i64 0)
                | 85 => .eq (Value.bool false)
                | 86 => .eq (Value.bool false)
                | 87 => .eq (.agg #[tv])
                | 88 => .eq (.int .i64 hY)
                | 89 => .eq (.pointer (some ⟨g13, 32, none⟩))
                | 90 => .eq (.pointer (some ⟨g13, 32, none⟩))
                | 91 => .eq (.int .i64 bht)
                | 92 => .eq (Value.bool false)
                | 93 => .eq (Value.bool false)
                | 94 => .eq (Value.bool false)
                | 95 => .eq (.pointer (some ⟨da, 0, none⟩))
                | 96 => .eq (.pointer (some ⟨g13, 32, none⟩))
                | 97 => .eq (.pointer (some ⟨g13, 37, none⟩))
                | 98 => .eq (.slice bq bn bc)
                | 99 => .st (msSt)
                | 100 => .eq (.int .i64 0)
                | 101 => .eq (Value.bool false)
                | 102 => .eq (Value.bool false)
                | _ => .any) v w) (fun w' => Below W9.heap.size W9 w') 116 (by kernel_rfl) (by decide +kernel) rfl (Below.refl _ _).drew (by
                refine OweAll.cons (owesK rfl rfl fun a w1 ha hG hV => ?_) ?_
                · skip
                  have h16 := ha.outer 16 (by decide +kernel)
                  simp only [Act.eval] at h16
                  exact ⟨.int .i64 0, w1, wanted_free rfl, by simp [execOp, go_sem, h16], Below.refl _ _, rfl⟩
                refine OweAll.cons (owesK rfl rfl fun a w1 ha hG hV => ?_) ?_
                · skip
                  have h84 : a.tmps.getD 84 undef = .int .i64 0 := hV.get 84 (by decide +kernel)
                  exact ⟨Value.bool false, w1, wanted_free rfl, by simp [execOp, go_sem, h84], Below.refl _ _, rfl⟩
                refine OweAll.cons (owesK rfl rfl fun a w1 ha hG hV => ?_) ?_
                · skip
                  have h85 : a.tmps.getD 85 undef = Value.bool false := hV.get 85 (by decide +kernel)
                  exact ⟨Value.bool false, w1, wanted_free rfl, by simp [execOp, go_sem, h85], Below.refl _ _, rfl⟩
                refine OweAll.cons (owesK rfl rfl fun a w1 ha hG hV => ?_) ?_
                · skip
                  have h15 := ha.outer 15 (by decide +kernel)
                  simp only [Act.eval] at h15
                  have cc : w1.cell? ⟨g15, 0, none⟩ = some tv := cell_of_row w1 g15 0 _ _ _ ((hG.block _ (Array.getElem?_eq_some_iff.1 HR15.out).1).trans HR15.out)
                  exact ⟨.agg #[tv], w1, (wanted_of (t := 86) rfl rfl (hV.get 86 (by decide +kernel))), by simp [execOp, go_sem, h15, cc], Below.refl _ _, rfl⟩
                refine OweAll.cons (owesK_call rfl rfl 38 fun a w1 ha hG hV => ?_) ?_
                · skip
                  have h87 : a.tmps.getD 87 undef = .agg #[tv] := hV.get 87 (by decide +kernel)
                  refine ⟨#[.agg #[tv]], (wanted_of (t := 86) rfl rfl (hV.get 86 (by decide +kernel))), by simp [execOp, resolve, invoke, go_sem, h87], ?_⟩
                  refine (HTH.out w1 (HTV9.out.old hG)).mono ?_
                  rintro r u2 ⟨rfl, hb⟩; exact ⟨_, rfl, rfl, hb⟩
                refine OweAll.cons (owesK rfl rfl fun a w1 ha hG hV => ?_) ?_
                · skip
                  have h13 := ha.outer 13 (by decide +kernel)
                  simp only [Act.eval] at h13
                  exact ⟨.pointer (some ⟨g13, 32, none⟩), w1, (wanted_of (t := 86) rfl rfl (hV.get 86 (by decide +kernel))), by simp [execOp, go_sem, h13], Below.refl _ _, rfl⟩
                refine OweAll.cons (owesK rfl rfl fun a w1 ha hG hV => ?_) ?_
                · skip
                  have h89 : a.tmps.getD 89 undef = .pointer (some ⟨g13, 32, none⟩) := hV.get 89 (by decide +kernel)
                  exact ⟨.pointer (some ⟨g13, 32, none⟩), w1, (wanted_of (t := 86) rfl rfl (hV.get 86 (by decide +kernel))), by simp [execOp, go_sem, h89], Below.refl _ _, rfl⟩
                refine OweAll.cons (owesK rfl rfl fun a w1 ha hG hV => ?_) ?_
                · skip
                  have h90 : a.tmps.getD 90 undef = .pointer (some ⟨g13, 32, none⟩) := hV.get 90 (by decide +kernel)
                  have cc := (HC9.out w1 hG).1
                  exact ⟨.int .i64 bht, w1, (wanted_of (t := 86) rfl rfl (hV.get 86 (by decide +kernel))), by simp [execOp, go_sem, h90, cc], Below.refl _ _, rfl⟩
                refine OweAll.cons (owesK rfl rfl fun a w1 ha hG hV => ?_) ?_
                · skip
                  have h88 : a.tmps.getD 88 undef = .int .i64 hY := hV.get 88 (by decide +kernel)
                  have h91 : a.tmps.getD 91 undef = .int .i64 bht := hV.get 91 (by decide +kernel)
                  have hlt9 := HLT.out
                  exact ⟨Value.bool false, w1, (wanted_of (t := 86) rfl rfl (hV.get 86 (by decide +kernel))), by simp [execOp, go_sem, h88, h91, hlt9], Below.refl _ _, rfl⟩
                refine OweAll.cons (owesK rfl rfl fun a w1 ha hG hV => ?_) ?_
                · skip
                  have h86 : a.tmps.getD 86 undef = Value.bool false := hV.get 86 (by decide +kernel)
                  have h92 : a.tmps.getD 92 undef = Value.bool false := hV.get 92 (by decide +kernel)
                  exact ⟨Value.bool false, w1, wanted_free rfl, by simp [execOp, go_sem, h86, h92], Below.refl _ _, rfl⟩
                refine OweAll.cons (owesK rfl rfl fun a w1 ha hG hV => ?_) ?_
                · skip
                  have h93 : a.tmps.getD 93 undef = Value.bool false := hV.get 93 (by decide +kernel)
                  exact ⟨Value.bool false, w1, wanted_free rfl, by simp [execOp, go_sem, h93], Below.refl _ _, rfl⟩
                refine OweAll.cons (owesK rfl rfl fun a w1 ha hG hV => ?_) ?_
                · skip
                  have h3 := ha.outer 3 (by decide +kernel)
                  simp only [Act.eval] at h3
                  exact ⟨.pointer (some ⟨da, 0, none⟩), w1, (wanted_of (t := 94) rfl rfl (hV.get 94 (by decide +kernel))), by simp [execOp, go_sem, h3], Below.refl _ _, rfl⟩
                refine OweAll.cons (owesK rfl rfl fun a w1 ha hG hV => ?_) ?_
                · skip
                  have h13 := ha.outer 13 (by decide +kernel)
                  simp only [Act.eval] at h13
                  exact ⟨.pointer (some ⟨g13, 32, none⟩), w1, (wanted_of (t := 94) rfl rfl (hV.get 94 (by decide +kernel))), by simp [execOp, go_sem, h13], Below.refl _ _, rfl⟩
                refine OweAll.cons (owesK rfl rfl fun a w1 ha hG hV => ?_) ?_
                · skip
                  have h96 : a.tmps.getD 96 undef = .pointer (some ⟨g13, 32, none⟩) := hV.get 96 (by decide +kernel)
                  exact ⟨.pointer (some ⟨g13, 37, none⟩), w1, (wanted_of (t := 94) rfl rfl (hV.get 94 (by decide +kernel))), by simp [execOp, go_sem, h96], Below.refl _ _, rfl⟩
                refine OweAll.cons (owesK rfl rfl fun a w1 ha hG hV => ?_) ?_
                · skip
                  have h97 : a.tmps.getD 97 undef = .pointer (some ⟨g13, 37, none⟩) := hV.get 97 (by decide +kernel)
                  have cc := (HC9.out w1 hG).2
                  exact ⟨.slice bq bn bc, w1, (wanted_of (t := 94) rfl rfl (hV.get 94 (by decide +kernel))), by simp [execOp, go_sem, h97, cc], Below.refl _ _, rfl⟩
                refine OweAll.cons (owesK_call rfl rfl 27 fun a w1 ha hG hV => ?_) ?_
                · skip
                  have h95 : a.tmps.getD 95 undef = .pointer (some ⟨da, 0, none⟩) := hV.get 95 (by decide +kernel)
                  have h98 : a.tmps.getD 98 undef = .slice bq bn bc := hV.get 98 (by decide +kernel)
                  refine ⟨#[.pointer (some ⟨da, 0, none⟩), .slice bq bn bc], (wanted_of (t := 94) rfl rfl (hV.get 94 (by decide +kernel))), by simp [execOp, resolve, invoke, go_sem, h95, h98], ?_⟩
                  refine (HMS.out w1 hG).mono ?_
                  rintro r u2 ⟨q, c, rfl, hb⟩; exact ⟨_, rfl, ⟨q, c, rfl⟩, hb⟩
                refine OweAll.cons (owesK rfl rfl fun a w1 ha hG hV => ?_) ?_
                · skip
                  have s99 : (msSt).p (a.tmps.getD 99 undef) w1 := hV.get 99 (by decide +kernel)
                  obtain ⟨q, c, h99⟩ := s99
                  exact ⟨.int .i64 0, w1, (wanted_of (t := 94) rfl rfl (hV.get 94 (by decide +kernel))), by simp [execOp, go_sem, h99], Below.refl _ _, rfl⟩
                refine OweAll.cons (owesK rfl rfl fun a w1 ha hG hV => ?_) ?_
                · skip
                  have h100 : a.tmps.getD 100 undef = .int .i64 0 := hV.get 100 (by decide +kernel)
                  exact ⟨Value.bool false, w1, (wanted_of (t := 94) rfl rfl (hV.get 94 (by decide +kernel))), by simp [execOp, go_sem, h100], Below.refl _ _, rfl⟩
                refine OweAll.cons (owesK rfl rfl fun a w1 ha hG hV => ?_) ?_
                · skip
                  have h94 : a.tmps.getD 94 undef = Value.bool false := hV.get 94 (by decide +kernel)
                  have h101 : a.tmps.getD 101 undef = Value.bool false := hV.get 101 (by decide +kernel)
                  exact ⟨Value.bool false, w1, wanted_free rfl, by simp [execOp, go_sem, h94, h101], Below.refl _ _, rfl⟩
                exact OweAll.nil
                ) ?_
              intro f wz_1 hG hv
              have e102 : f 102 = Value.bool false := hv 18 _ 102 rfl rfl
              rename_i hK
              refine hK _ _ ?_
              clear hK hv
              simp only [dsts, puts, List.filterMap_cons, List.filterMap_nil, List.foldl_cons, List.foldl_nil, Act.put, List.setIfInBounds_toArray, List.set_cons_succ, List.set_cons_zero, e102]
              clear e102
              have HWE : Hid (Below wb.heap.size wb wz_1) := Lib.hid (by have h1 := HWX.out.trans (HB89.out.mono HWX.out.size); exact h1.trans (hG.mono h1.size))
              clear hG
              go_wp2_with fail
              go_roundw
              case rel => exact ⟨i + 1, by omega, by go_num, HWE⟩
              case measure => simp [intOf]; omega
          · obtain rfl : i = n := by omega
            have ik : ¬ (i : Int) < i := by omega
            have HBX : Hid (Below W8.heap.size W8 wx) := Lib.hid (HBB.out.trans (HW.out.mono HBB.out.size))
            have hw1 : IntKind.i64.wrap ((i : Int) + 0) = ((i + 0 : Nat) : Int) := by rw [IntWalk.i64_in _ (by omega)]; omega
            have HF := Lib.hid (HB8.out.trans (HBX.out.mono HB8.out.size))
            clear hlt
            go_wp2_with fail
            refine (HLC8.out wx HBX.out).mono ?_
            rintro r w9 ⟨rfl, rfl⟩
            go_wp2_with fail
            refine (HLD.out wx HBX.out).mono ?_
            rintro r w9 ⟨rfl, rfl⟩
            go_wp2_with fail
            go_ret
            exact ⟨rfl, HF.out⟩
      | false =>
        go_upto_region 20 with fail
        go_upto_region 21 with (refine wpList_exec rfl (exec_load_row 41 (.tmp 9) rfl g9 rfl 41 HC (0, 0) _ HR7.out Tryz.underlying41 rfl HI.out) ?_)
        refine HADD.out.mono ?_
        rintro r W8 ⟨e, rfl, hc8, hp8⟩
        have hclX : ClD Xc.K := by rw [HXK.out]; exact HCLO.out
        have hcn : (Xc.K.map (·.id)).Nodup := by rw [HXK.out]; exact HDG.out.nodup
        have hxK : hasE ON (kE Xc.K) = false := by rw [HXK.out]; exact HHX.out.symm
        have he : e = 0 := (oth_chk hclX hcn hc8).2 (by rw [← HON.out, hxK])
        obtain ⟨S2, R2, F2, nb, _, hd8, hm8, _, _⟩ : AddP Sc Rc W7 ca Xc othHd W8 := by
          rcases hp8 with ⟨h, _⟩ | ⟨_, h⟩
          · exact absurd he h
          · exact h
        have HDG8 := Lib.hid (HDG7.out.kept hm8 (fun k hk hr => by have := HSC.out k hk; have := HDG.out.rl k hr; omega))
        have HB8 := Lib.hid (HB7.out.trans (hm8.to_below HB7.out.size (fun k _ hs => by have := HSC.out k hs; have := HS.out.b.size; omega)))
        have HLC8 : Hid (∀ u : World, Below W8.heap.size W8 u → Calls Tryz.prog 16 #[.pointer (some ⟨ca, 0, none⟩)] u fun r w' => r = .returned (.int .i64 ((n + 1 : Nat) : Int)) ∧ u = w') := Lib.hid (fun u hu => by
          have h := dglen_any (hd8.old hu)
          have e1 : (nb :: Xc.K).length = n + 1 := by rw [List.length_cons, HXK.out, HNL.out]
          rw [show (⟨Xc.m1, Xc.m2, nb :: Xc.K, F2⟩ : DD).K = nb :: Xc.K from rfl, e1] at h
          exact h)
        have HBLK := Lib.hid (dgblocks_any HDG8.out)
        rw [← HNL.out, ← HBD.out] at HBLK
        have HDB : Hid (∀ (u : World) (nm : Nm), Below W8.heap.size W8 u → Calls Tryz.prog 36 #[.pointer (some ⟨da, 0, none⟩), .agg (vals nm.1).toArray] u fun r w' => ∃ b0 b1 : Blk, r = .returned (.tuple #[.agg b1.cells.toArray, .bool (hasE nm (kE X.K))]) ∧ b1.is = b0.is ∧ okW u w' b1 ∧ (hasE nm (kE X.K) = true → b0 ∈ X.K ∧ b0.id = nm) ∧ Below u.heap.size u w') := Lib.hid (fun u nm hu => dgblock_any (HDG8.out.old hu) nm)
        have HDT : Hid (∀ (u : World) (s : List UInt8), Below W8.heap.size W8 u → s.length ≤ 1000000 → Calls Tryz.prog 19 #[.pointer (some ⟨da, 0, none⟩), .string ⟨s.toArray⟩] u fun r w' => ∃ v Y e, r = .returned (.tuple #[.agg #[v], .int .i64 e]) ∧ TsV w' v Y ∧ TipP X.K s Y e ∧ Below u.heap.size u w') := Lib.hid (fun u s hu hs => dgtipset_any (HDG8.out.old hu) s hs)
        have HDM : Hid (∀ (u : World) (ao : Option Addr) (cap : Nat) (P : List Nm), Below W8.heap.size W8 u → Rd encN u ao P → (ao = none ∨ ∃ b off, ao = some ⟨b, off, none⟩) → P.length ≤ 1000000 → kset (P.filter (noK X)) = [] → Calls Tryz.prog 27 #[.pointer (some ⟨da, 0, none⟩), .slice ao P.length cap] u fun r w' => ∃ q c, r = .returned (.slice q 0 c) ∧ Below u.heap.size u w') := Lib.hid (fun u ao cap P hu hP hao hn hk => by
          refine (dgmissing_any (HDG8.out.old hu) ao cap P hP hao hn).mono ?_
          rintro r w' ⟨q, c, rfl, _, hb⟩
          rw [hk]; exact ⟨q, c, rfl, hb⟩)
        have HLD : Hid (∀ u : World, Below W8.heap.size W8 u → Calls Tryz.prog 16 #[.pointer (some ⟨da, 0, none⟩)] u fun r w' => r = .returned (.int .i64 (n : Nat)) ∧ u = w') := Lib.hid (fun u hu => by
          have h := dglen_any (HDG8.out.old hu)
          rw [← HNL.out] at h; exact h)
        obtain ⟨W8b, hW8b⟩ : ∃ x, x = W8 := ⟨_, rfl⟩
        clear hc8 hp8 hclX hcn hxK HADD hW8b
        go_wp2_with fail
        refine HBLK.out.mono ?_
        rintro r wb ⟨qb, cb, rfl, hrb, _, hbb⟩
        have HQB := Lib.hid hrb
        have HBB := Lib.hid hbb
        clear hrb hbb HBLK
        go_wp2_with fail
        go_loopw [60] (fun s60 wx => ∃ i : Nat, i ≤ n ∧ s60 = .int .i64 (i : Int) ∧ Hid (Below wb.heap.size wb wx)) (fun s60 _ => n - (intOf s60).toNat)
        case atStart => exact ⟨0, Nat.zero_le _, rfl, Lib.hid (Below.refl _ _)⟩
        case round =>
          rename World => wx
          obtain ⟨i, hik, rfl, HW⟩ := hrel
          have i0 : (0 : Int) ≤ (i : Int) := by omega
          have n9 : n ≤ 100000 := HN9.out
          by_cases hlt : i < n
          · have ik : (i : Int) < (n : Int) := by omega
            have hiB : i < BD.length := by rw [HBL.out]; exact hlt
            obtain ⟨nm, hnm⟩ : ∃ nm, nm = BD[i] := ⟨_, rfl⟩
            obtain ⟨gq, oq, rfl, _, hcq⟩ := (HQB.out.old HW.out).rd i hiB
            rw [← hnm] at hcq
            have HCN : Hid (∀ j u, (encN.f nm)[j]? = some u → wx.cell? ⟨gq, oq + i * 32 + j, none⟩ = some u) := Lib.hid hcq
            have HHE : Hid (hasE nm (kE X.K) = true) := Lib.hid (HBM.out nm (by rw [hnm]; exact List.getElem_mem _))
            have HI2 : Hid ((Tryz.prog.info? 70).map (·.size) = some (vals nm.1).toArray.size) := Lib.hid (id_info nm.2)
            have HSZ2 : Hid ((vals nm.1).toArray.size = 32) := Lib.hid (id_size nm.2)
            have HON2 : Hid (∀ v ∈ (vals nm.1).toArray.toList, v.oneCell' = true) := Lib.hid (id_one nm.1)
            have HBX : Hid (Below W8.heap.size W8 wx) := Lib.hid (HBB.out.trans (HW.out.mono HBB.out.size))
            clear hnm hcq hiB
            go_upto_region 24 with (first
              | (refine wpList_exec rfl (exec_load_mid (.tmp 62) rfl gq (oq + i * 32) rfl nm HCN.out) ?_; go_frame)
              | (refine wpList_store_row rfl rfl 70 (.tmp 12) (.tmp 63) rfl wx.heap.size rfl 70 _ (vals nm.1).toArray rfl (heap_alloc_new wx _) HSZ2.out.symm HI2.out HON2.out ?_))
            refine wp_gen (fun W5 => W5.heap[wx.heap.size]? = some (.cells (vals nm.1).toArray 70 (0, 0)) ∧ Below wx.heap.size wx W5) (row_new wx _ _ (vals nm.1).toArray 70 rfl) (fun W20 hW20 => ?_)
            obtain ⟨hr20, hb20⟩ := hW20
            obtain ⟨g12, hg12⟩ : ∃ g12, g12 = wx.heap.size := ⟨_, rfl⟩
            rw [← hg12] at hr20
            rw [← hg12]
            have HR20 := Lib.hid hr20
            have HB20 := Lib.hid (HBX.out.trans (hb20.mono HBX.out.size))
            have HWX0 := Lib.hid (HW.out.trans (hb20.mono HW.out.size))
            have HBKC := Lib.hid (HDB.out W20 nm HB20.out)
            rw [HHE.out] at HBKC
            clear hr20 hb20 hg12 HCN
            go_upto_region 24 with fail
            go_upto_region 25 with (refine wpList_exec rfl (exec_load_row 70 (.tmp 12) rfl g12 rfl 70 (vals nm.1).toArray (0, 0) _ HR20.out Tryz.underlying70 rfl HI2.out) ?_)
            refine HBKC.out.mono ?_
            rintro r W21 ⟨b0, b1, rfl, hbis, hbok, hbin, hb21⟩
            obtain ⟨hb0K, hb0i⟩ := hbin trivial
            have HB0 := Lib.hid hb0K
            have HNI : Hid (b0.id = nm) := Lib.hid hb0i
            have hbh : b1.h = b0.h := congrArg (·.2) hbis
            have HBH := Lib.hid hbh
            have HBO : Hid (okW W20 W21 b1) := Lib.hid hbok
            have HB21 := Lib.hid (HB20.out.trans (hb21.mono HB20.out.size))
            have HWX1 := Lib.hid (HWX0.out.trans (hb21.mono HWX0.out.size))
            have HR21 := Lib.hid ((hb21.block g12 (Array.getElem?_eq_some_iff.1 HR20.out).1).trans HR20.out)
            have HQ1 : Hid (b1.cells.toArray.size = 39) := Lib.hid b1.size
            have HQ2 := Lib.hid (blk_info b1)
            have HQ3 : Hid (∀ v ∈ b1.cells.toArray.toList, v.oneCell' = true) := Lib.hid (by simpa using b1.one)
            clear hbis hbok hbin hb21 hb0K hb0i hbh HBKC
            go_upto_region 25 with (refine wpList_store_row rfl rfl 72 (.tmp 13) (.tmp 68) rfl W21.heap.size rfl 72 _ b1.cells.toArray rfl (heap_alloc_new W21 _) HQ1.out.symm HQ2.out HQ3.out ?_)
            refine wp_gen (fun W => W.heap[W21.heap.size]? = some (.cells b1.cells.toArray 72 (0, 0)) ∧ Below W21.heap.size W21 W) (row_new W21 _ _ b1.cells.toArray 72 rfl) (fun WK hW8 => ?_)
            have HR13 := Lib.hid hW8.1
            have HB8x := Lib.hid (HB21.out.trans (hW8.2.mono HB21.out.size))
            have HWX := Lib.hid (HWX1.out.trans (hW8.2.mono HWX1.out.size))
            have HR12 := Lib.hid ((hW8.2.block g12 (Array.getElem?_eq_some_iff.1 HR21.out).1).trans HR21.out)
            have HBO8 := Lib.hid (HBO.out.rw.old hW8.2)
            have HT8 : Hid (TabAt WK) := Lib.hid (HT.out.old (HB8.out.trans (HB8x.out.mono HB8.out.size)))
            obtain ⟨g13, hg13⟩ : ∃ g, g = W21.heap.size := ⟨_, rfl⟩
            rw [← hg13] at HR13
            rw [← hg13]
            clear hW8 hg13 HQ1 HQ2 HQ3 HBO HR20 HR21
            obtain ⟨DD0, hDD0⟩ : ∃ d : Bool, d = (nm.1 == RB) := ⟨_, rfl⟩
            have HEQ : Hid (∀ u, (binOp .eql 70 (.agg (vals nm.1).toArray) (.agg (vals RB).toArray)).run Tryz.prog u = .ok (.bool DD0) u) := Lib.hid (fun u => by rw [hDD0]; exact id_eql nm.1 RB nm.2 HRL.out u)
            have HDD0 := Lib.hid hDD0
            clear hDD0
            go_upto_region 27 with fail
            refine wp_region_puts (fun t v w => VK (match t with
              | 72 => .eq (.agg (vals nm.1).toArray)
              | 73 => .eq (.agg (vals RB).toArray)
              | 74 => .eq (.bool DD0)
              | _ => .any) v w) (fun w' => Below WK.heap.size WK w') 116 (by kernel_rfl) (by decide +kernel) rfl (Below.refl _ _).drew (by
              refine OweAll.cons (owesK rfl rfl fun a w1 ha hG hV => ?_) ?_
              · skip
                have h12 := ha.outer 12 (by decide +kernel)
                simp only [Act.eval] at h12
                exact ⟨.agg (vals nm.1).toArray, w1, wanted_free rfl, exec_load_mid (.tmp 12) rfl g12 0 h12 nm (fun i u hu => by rw [cell_of_row _ g12 (0 + i) _ _ _ ((hG.block g12 (Array.getElem?_eq_some_iff.1 HR12.out).1).trans HR12.out), Nat.zero_add, List.getElem?_toArray]; exact hu), Below.refl _ _, rfl⟩
              refine OweAll.cons (owesK_call rfl rfl 32 fun a w1 ha hG hV => ?_) ?_
              · skip
                refine ⟨#[], wanted_free rfl, by simp [execOp, resolve, invoke, go_sem], ?_⟩
                refine (HROOT.out w1 (HT8.out.old hG)).mono ?_
                rintro r u2 ⟨rfl, hb⟩; exact ⟨_, rfl, rfl, hb⟩
              refine OweAll.cons (owesK rfl rfl fun a w1 ha hG hV => ?_) ?_
              · skip
                have h72 : a.tmps.getD 72 undef = .agg (vals nm.1).toArray := hV.get 72 (by decide +kernel)
                have h73 : a.tmps.getD 73 undef = .agg (vals RB).toArray := hV.get 73 (by decide +kernel)
                have heq := HEQ.out
                exact ⟨.bool DD0, w1, wanted_free rfl, by simp [execOp, go_sem, h72, h73, heq], Below.refl _ _, rfl⟩
              exact OweAll.nil
              ) ?_
            intro f wz hG hv
            have e74 : f 74 = .bool DD0 := hv 2 _ 74 rfl rfl
            rename_i hK
            refine hK _ _ ?_
            clear hK hv
            simp only [dsts, puts, List.filterMap_cons, List.filterMap_nil, List.foldl_cons, List.foldl_nil, Act.put, List.setIfInBounds_toArray, List.set_cons_succ, List.set_cons_zero, e74]
            clear e74
            have HBW8 := Lib.hid (HB8x.out.trans (hG.mono HB8x.out.size))
            have HBZ := Lib.hid hG
            clear hG
            cases DD0 with
            | true =>
              have HWE : Hid (Below wb.heap.size wb wz) := Lib.hid (HWX.out.trans (HBZ.out.mono HWX.out.size))
              go_wp2_with fail
              go_roundw
              case rel => exact ⟨i + 1, by omega, by go_num, HWE⟩
              case measure => simp [intOf]; omega
            | false =>
              have hne : b0.id ≠ nmH ghd := fun e => by
                have h1 := HDD0.out
                rw [← HNI.out, e, HRBE.out] at h1
                have h2 : (nmH ghd).1 = rootB := rfl
                rw [h2] at h1; simp at h1
              have HNE := Lib.hid hne
              obtain ⟨bq, hbq⟩ : ∃ x, x = b1.q := ⟨_, rfl⟩
              obtain ⟨bc, hbc⟩ : ∃ x, x = b1.c := ⟨_, rfl⟩
              obtain ⟨bn, hbn⟩ : ∃ x, x = b1.h.ps.length := ⟨_, rfl⟩
              obtain ⟨bht, hbht⟩ : ∃ x, x = b1.h.ht := ⟨_, rfl⟩
              have HC13 : Hid (∀ u : World, Below WK.heap.size WK u → u.cell? ⟨g13, 32, none⟩ = some (.int .i64 bht) ∧ u.cell? ⟨g13, 37, none⟩ = some (.slice bq bn bc)) := Lib.hid (fun u hu => by
                have hrow := (hu.block _ (Array.getElem?_eq_some_iff.1 HR13.out).1).trans HR13.out
                have h1 := blk_hd hrow (i := 0) (u := .int .i64 b1.h.ht) rfl
                have h2 := blk_hd hrow (i := 5) (u := .slice b1.q b1.h.ps.length b1.c) rfl
                rw [hbht, hbq, hbn, hbc]
                exact ⟨h1, h2⟩)
              have hps9 : bn ≤ 1000000 := by rw [hbn, HBH.out]; exact Nat.le_trans (HDG.out.ko b0 HB0.out).2.1 (by decide)
              have hadr : bq = none ∨ ∃ b off, bq = some ⟨b, off, none⟩ := by
                rw [hbq]
                rcases HBO8.out.shape with ⟨e, _⟩ | ⟨g, e, _⟩
                · exact .inl e
                · exact .inr ⟨g, 0, e⟩
              have HKY := Lib.hid (key_any bq bc b1.h.ps wz (by rw [hbq]; exact (HBO8.out.old HBZ.out).rd) hadr (by rw [← hbn]; exact hps9))
              have hkl : (kB (kset b1.h.ps)).length ≤ 1000000 := by
                have h1 := kset_len b1.h.ps
                have h2 := HBH.out
                have h3 := (HDG.out.ko b0 HB0.out).2.1
                rw [kB_len, ]
                rw [h2] at h1 ⊢
                omega
              have HTPC := Lib.hid (fun (u : World) (hu : Below wz.heap.size wz u) => HDT.out u (kB (kset b1.h.ps)) (HBW8.out.trans (hu.mono HBW8.out.size)) hkl)
              have HTIP : Hid (∀ (Y : List BI) (e : Int), TipP X.K (kB (kset b1.h.ps)) Y e → e = 0 ∧ htX Y < bht) := Lib.hid (fun Y e ht => by
                rw [hbht, HBH.out]
                rw [HBH.out] at ht
                exact HCLO.out.tip HDG.out.nodup HB0.out HNE.out ht)
              have HMSK : Hid (kset (b1.h.ps.filter (noK X)) = []) := Lib.hid (by rw [HBH.out]; exact HCLO.out.miss HB0.out HNE.out)
              obtain ⟨KY, hKY⟩ : ∃ KY : ByteArray, KY = ⟨(kB (kset b1.h.ps)).toArray⟩ := ⟨_, rfl⟩
              rw [← hKY, ← hbn] at HKY
              rw [← hKY] at HTPC
              have HBNL := Lib.hid hbn
              have HBQL := Lib.hid hbq
              have HADR := Lib.hid hadr
              have HP9 := Lib.hid hps9
              have c79 := (HC13.out wz HBZ.out).2
              clear hne hbq hbc hbn hbht hkl hKY hadr
              go_upto_region 29 with fail
              refine HKY.out.mono ?_
              rintro r W31 ⟨rfl, hb31⟩
              have HB31 := Lib.hid hb31
              clear hb31 c79 HKY
              go_upto_region 29 with fail
              refine (HTPC.out W31 HB31.out).mono ?_
              rintro r W32 ⟨tv, Y, e2, rfl, htv, htp, hb32⟩
              obtain ⟨he2, hhY⟩ := HTIP.out Y e2 htp
              subst he2
              have HTV := Lib.hid htv
              have HONV : Hid (∀ u ∈ (#[tv] : Array Value).toList, u.oneCell' = true) := Lib.hid (by
                obtain ⟨p', c', L', e, _⟩ := htv
                intro u hu
                rw [e] at hu
                simp only [List.mem_singleton] at hu
                rw [hu]; rfl)
              have HSIV := Lib.hid (ts_info tv)
              obtain ⟨hY, hhY2⟩ : ∃ hY, hY = htX Y := ⟨_, rfl⟩
              have HTH : Hid (∀ u : World, TsV u tv Y → Calls Tryz.prog 38 #[.agg #[tv]] u fun r w' => r = .returned (.int .i64 hY) ∧ Below u.heap.size u w') := Lib.hid (fun u hu => by rw [hhY2]; exact hu.height)
              rw [← hhY2] at hhY
              have HLT : Hid (¬ bht ≤ hY) := Lib.hid (by omega)
              have HB32 := Lib.hid (HB31.out.trans (hb32.mono HB31.out.size))
              clear htv htp hb32 HTPC hhY hhY2
              go_upto_region 29 with (refine wpList_store_row rfl rfl 52 (.tmp 15) (.tmp 82) rfl W32.heap.size rfl 52 _ #[tv] rfl (heap_alloc_new W32 _) rfl HSIV.out HONV.out ?_)
              refine wp_gen (fun W34 => W34.heap[W32.heap.size]? = some (.cells #[tv] 52 (0, 0)) ∧ Below W32.heap.size W32 W34) (row_new W32 _ _ #[tv] 52 rfl) (fun W9 hW9 => ?_)
              obtain ⟨hr9, hb9⟩ := hW9
              obtain ⟨g15, hg15⟩ : ∃ g15, g15 = W32.heap.size := ⟨_, rfl⟩
              rw [← hg15] at hr9
              rw [← hg15]
              have HR15 := Lib.hid hr9
              have HTV9 := Lib.hid (HTV.out.old hb9)
              have HBZ9 : Hid (Below wz.heap.size wz W9) := Lib.hid (HB32.out.trans (hb9.mono HB32.out.size))
              have HB89 : Hid (Below WK.heap.size WK W9) := Lib.hid (HBZ.out.trans (HBZ9.out.mono HBZ.out.size))
              have HC9 : Hid (∀ u : World, Below W9.heap.size W9 u → u.cell? ⟨g13, 32, none⟩ = some (.int .i64 bht) ∧ u.cell? ⟨g13, 37, none⟩ = some (.slice bq bn bc)) := Lib.hid (fun u hu => HC13.out u (HB89.out.trans (hu.mono HB89.out.size)))
              have HBW9 := Lib.hid (HBW8.out.trans (HBZ9.out.mono HBW8.out.size))
              have HMS : Hid (∀ u : World, Below W9.heap.size W9 u → Calls Tryz.prog 27 #[.pointer (some ⟨da, 0, none⟩), .slice bq bn bc] u fun r w' => ∃ q c, r = .returned (.slice q 0 c) ∧ Below u.heap.size u w') := Lib.hid (fun u hu => by
                rw [HBNL.out]
                exact HDM.out u bq bc b1.h.ps (HBW9.out.trans (hu.mono HBW9.out.size)) (by rw [HBQL.out]; exact ((HBO8.out.old HB89.out).old hu).rd) HADR.out (by rw [← HBNL.out]; exact HP9.out) HMSK.out)
              clear hr9 hb9 hg15 HTV HONV HSIV
              go_upto_region 29 with fail
              refine wp_region_puts (fun t v w => VK (match t with
                | 84 => .eq (.int .i64 0)
                | 85 => .eq (Value.bool false)
                | 86 => .eq (Value.bool false)
                | 87 => .eq (.agg #[tv])
                | 88 => .eq (.int .i64 hY)
                | 89 => .eq (.pointer (some ⟨g13, 32, none⟩))
                | 90 => .eq (.pointer (some ⟨g13, 32, none⟩))
                | 91 => .eq (.int .i64 bht)
                | 92 => .eq (Value.bool false)
                | 93 => .eq (Value.bool false)
                | 94 => .eq (Value.bool false)
                | 95 => .eq (.pointer (some ⟨da, 0, none⟩))
                | 96 => .eq (.pointer (some ⟨g13, 32, none⟩))
                | 97 => .eq (.pointer (some ⟨g13, 37, none⟩))
                | 98 => .eq (.slice bq bn bc)
                | 99 => .st (msSt)
                | 100 => .eq (.int .i64 0)
                | 101 => .eq (Value.bool false)
                | 102 => .eq (Value.bool false)
                | _ => .any) v w) (fun w' => Below W9.heap.size W9 w') 116 (by kernel_rfl) (by decide +kernel) rfl (Below.refl _ _).drew (by
                refine OweAll.cons (owesK rfl rfl fun a w1 ha hG hV => ?_) ?_
                · skip
                  have h16 := ha.outer 16 (by decide +kernel)
                  simp only [Act.eval] at h16
                  exact ⟨.int .i64 0, w1, wanted_free rfl, by simp [execOp, go_sem, h16], Below.refl _ _, rfl⟩
                refine OweAll.cons (owesK rfl rfl fun a w1 ha hG hV => ?_) ?_
                · skip
                  have h84 : a.tmps.getD 84 undef = .int .i64 0 := hV.get 84 (by decide +kernel)
                  exact ⟨Value.bool false, w1, wanted_free rfl, by simp [execOp, go_sem, h84], Below.refl _ _, rfl⟩
                refine OweAll.cons (owesK rfl rfl fun a w1 ha hG hV => ?_) ?_
                · skip
                  have h85 : a.tmps.getD 85 undef = Value.bool false := hV.get 85 (by decide +kernel)
                  exact ⟨Value.bool false, w1, wanted_free rfl, by simp [execOp, go_sem, h85], Below.refl _ _, rfl⟩
                refine OweAll.cons (owesK rfl rfl fun a w1 ha hG hV => ?_) ?_
                · skip
                  have h15 := ha.outer 15 (by decide +kernel)
                  simp only [Act.eval] at h15
                  have cc : w1.cell? ⟨g15, 0, none⟩ = some tv := cell_of_row w1 g15 0 _ _ _ ((hG.block _ (Array.getElem?_eq_some_iff.1 HR15.out).1).trans HR15.out)
                  exact ⟨.agg #[tv], w1, (wanted_of (t := 86) rfl rfl (hV.get 86 (by decide +kernel))), by simp [execOp, go_sem, h15, cc], Below.refl _ _, rfl⟩
                refine OweAll.cons (owesK_call rfl rfl 38 fun a w1 ha hG hV => ?_) ?_
                · skip
                  have h87 : a.tmps.getD 87 undef = .agg #[tv] := hV.get 87 (by decide +kernel)
                  refine ⟨#[.agg #[tv]], (wanted_of (t := 86) rfl rfl (hV.get 86 (by decide +kernel))), by simp [execOp, resolve, invoke, go_sem, h87], ?_⟩
                  refine (HTH.out w1 (HTV9.out.old hG)).mono ?_
                  rintro r u2 ⟨rfl, hb⟩; exact ⟨_, rfl, rfl, hb⟩
                refine OweAll.cons (owesK rfl rfl fun a w1 ha hG hV => ?_) ?_
                · skip
                  have h13 := ha.outer 13 (by decide +kernel)
                  simp only [Act.eval] at h13
                  exact ⟨.pointer (some ⟨g13, 32, none⟩), w1, (wanted_of (t := 86) rfl rfl (hV.get 86 (by decide +kernel))), by simp [execOp, go_sem, h13], Below.refl _ _, rfl⟩
                refine OweAll.cons (owesK rfl rfl fun a w1 ha hG hV => ?_) ?_
                · skip
                  have h89 : a.tmps.getD 89 undef = .pointer (some ⟨g13, 32, none⟩) := hV.get 89 (by decide +kernel)
                  exact ⟨.pointer (some ⟨g13, 32, none⟩), w1, (wanted_of (t := 86) rfl rfl (hV.get 86 (by decide +kernel))), by simp [execOp, go_sem, h89], Below.refl _ _, rfl⟩
                refine OweAll.cons (owesK rfl rfl fun a w1 ha hG hV => ?_) ?_
                · skip
                  have h90 : a.tmps.getD 90 undef = .pointer (some ⟨g13, 32, none⟩) := hV.get 90 (by decide +kernel)
                  have cc := (HC9.out w1 hG).1
                  exact ⟨.int .i64 bht, w1, (wanted_of (t := 86) rfl rfl (hV.get 86 (by decide +kernel))), by simp [execOp, go_sem, h90, cc], Below.refl _ _, rfl⟩
                refine OweAll.cons (owesK rfl rfl fun a w1 ha hG hV => ?_) ?_
                · skip
                  have h88 : a.tmps.getD 88 undef = .int .i64 hY := hV.get 88 (by decide +kernel)
                  have h91 : a.tmps.getD 91 undef = .int .i64 bht := hV.get 91 (by decide +kernel)
                  have hlt9 := HLT.out
                  exact ⟨Value.bool false, w1, (wanted_of (t := 86) rfl rfl (hV.get 86 (by decide +kernel))), by simp [execOp, go_sem, h88, h91, hlt9], Below.refl _ _, rfl⟩
                refine OweAll.cons (owesK rfl rfl fun a w1 ha hG hV => ?_) ?_
                · skip
                  have h86 : a.tmps.getD 86 undef = Value.bool false := hV.get 86 (by decide +kernel)
                  have h92 : a.tmps.getD 92 undef = Value.bool false := hV.get 92 (by decide +kernel)
                  exact ⟨Value.bool false, w1, wanted_free rfl, by simp [execOp, go_sem, h86, h92], Below.refl _ _, rfl⟩
                refine OweAll.cons (owesK rfl rfl fun a w1 ha hG hV => ?_) ?_
                · skip
                  have h93 : a.tmps.getD 93 undef = Value.bool false := hV.get 93 (by decide +kernel)
                  exact ⟨Value.bool false, w1, wanted_free rfl, by simp [execOp, go_sem, h93], Below.refl _ _, rfl⟩
                refine OweAll.cons (owesK rfl rfl fun a w1 ha hG hV => ?_) ?_
                · skip
                  have h3 := ha.outer 3 (by decide +kernel)
                  simp only [Act.eval] at h3
                  exact ⟨.pointer (some ⟨da, 0, none⟩), w1, (wanted_of (t := 94) rfl rfl (hV.get 94 (by decide +kernel))), by simp [execOp, go_sem, h3], Below.refl _ _, rfl⟩
                refine OweAll.cons (owesK rfl rfl fun a w1 ha hG hV => ?_) ?_
                · skip
                  have h13 := ha.outer 13 (by decide +kernel)
                  simp only [Act.eval] at h13
                  exact ⟨.pointer (some ⟨g13, 32, none⟩), w1, (wanted_of (t := 94) rfl rfl (hV.get 94 (by decide +kernel))), by simp [execOp, go_sem, h13], Below.refl _ _, rfl⟩
                refine OweAll.cons (owesK rfl rfl fun a w1 ha hG hV => ?_) ?_
                · skip
                  have h96 : a.tmps.getD 96 undef = .pointer (some ⟨g13, 32, none⟩) := hV.get 96 (by decide +kernel)
                  exact ⟨.pointer (some ⟨g13, 37, none⟩), w1, (wanted_of (t := 94) rfl rfl (hV.get 94 (by decide +kernel))), by simp [execOp, go_sem, h96], Below.refl _ _, rfl⟩
                refine OweAll.cons (owesK rfl rfl fun a w1 ha hG hV => ?_) ?_
                · skip
                  have h97 : a.tmps.getD 97 undef = .pointer (some ⟨g13, 37, none⟩) := hV.get 97 (by decide +kernel)
                  have cc := (HC9.out w1 hG).2
                  exact ⟨.slice bq bn bc, w1, (wanted_of (t := 94) rfl rfl (hV.get 94 (by decide +kernel))), by simp [execOp, go_sem, h97, cc], Below.refl _ _, rfl⟩
                refine OweAll.cons (owesK_call rfl rfl 27 fun a w1 ha hG hV => ?_) ?_
                · skip
                  have h95 : a.tmps.getD 95 undef = .pointer (some ⟨da, 0, none⟩) := hV.get 95 (by decide +kernel)
                  have h98 : a.tmps.getD 98 undef = .slice bq bn bc := hV.get 98 (by decide +kernel)
                  refine ⟨#[.pointer (some ⟨da, 0, none⟩), .slice bq bn bc], (wanted_of (t := 94) rfl rfl (hV.get 94 (by decide +kernel))), by simp [execOp, resolve, invoke, go_sem, h95, h98], ?_⟩
                  refine (HMS.out w1 hG).mono ?_
                  rintro r u2 ⟨q, c, rfl, hb⟩; exact ⟨_, rfl, ⟨q, c, rfl⟩, hb⟩
                refine OweAll.cons (owesK rfl rfl fun a w1 ha hG hV => ?_) ?_
                · skip
                  have s99 : (msSt).p (a.tmps.getD 99 undef) w1 := hV.get 99 (by decide +kernel)
                  obtain ⟨q, c, h99⟩ := s99
                  exact ⟨.int .i64 0, w1, (wanted_of (t := 94) rfl rfl (hV.get 94 (by decide +kernel))), by simp [execOp, go_sem, h99], Below.refl _ _, rfl⟩
                refine OweAll.cons (owesK rfl rfl fun a w1 ha hG hV => ?_) ?_
                · skip
                  have h100 : a.tmps.getD 100 undef = .int .i64 0 := hV.get 100 (by decide +kernel)
                  exact ⟨Value.bool false, w1, (wanted_of (t := 94) rfl rfl (hV.get 94 (by decide +kernel))), by simp [execOp, go_sem, h100], Below.refl _ _, rfl⟩
                refine OweAll.cons (owesK rfl rfl fun a w1 ha hG hV => ?_) ?_
                · skip
                  have h94 : a.tmps.getD 94 undef = Value.bool false := hV.get 94 (by decide +kernel)
                  have h101 : a.tmps.getD 101 undef = Value.bool false := hV.get 101 (by decide +kernel)
                  exact ⟨Value.bool false, w1, wanted_free rfl, by simp [execOp, go_sem, h94, h101], Below.refl _ _, rfl⟩
                exact OweAll.nil
                ) ?_
              intro f wz_1 hG hv
              have e102 : f 102 = Value.bool false := hv 18 _ 102 rfl rfl
              rename_i hK
              refine hK _ _ ?_
              clear hK hv
              simp only [dsts, puts, List.filterMap_cons, List.filterMap_nil, List.foldl_cons, List.foldl_nil, Act.put, List.setIfInBounds_toArray, List.set_cons_succ, List.set_cons_zero, e102]
              clear e102
              have HWE : Hid (Below wb.heap.size wb wz_1) := Lib.hid (by have h1 := HWX.out.trans (HB89.out.mono HWX.out.size); exact h1.trans (hG.mono h1.size))
              clear hG
              go_wp2_with fail
              go_roundw
              case rel => exact ⟨i + 1, by omega, by go_num, HWE⟩
              case measure => simp [intOf]; omega
          · obtain rfl : i = n := by omega
            have ik : ¬ (i : Int) < i := by omega
            have HBX : Hid (Below W8.heap.size W8 wx) := Lib.hid (HBB.out.trans (HW.out.mono HBB.out.size))
            have hw1 : IntKind.i64.wrap ((i : Int) + 1) = ((i + 1 : Nat) : Int) := by rw [IntWalk.i64_in _ (by omega)]; omega
            have HF := Lib.hid (HB8.out.trans (HBX.out.mono HB8.out.size))
            clear hlt
            go_wp2_with fail
            refine (HLC8.out wx HBX.out).mono ?_
            rintro r w9 ⟨rfl, rfl⟩
            go_wp2_with fail
            refine (HLD.out wx HBX.out).mono ?_
            rintro r w9 ⟨rfl, rfl⟩
            go_wp2_with fail
            go_ret
            exact ⟨rfl, HF.out⟩
end Go.Proofs.YtemnebbdaljfbaaGreatDoor
