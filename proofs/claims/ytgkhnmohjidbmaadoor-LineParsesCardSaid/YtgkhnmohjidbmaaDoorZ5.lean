/- Texts 5: what the laws lean on. -/
import Derived.Test.YtgkhnmohjidbmaaDoorZ4
import Derived.Test.YtgkhnmohjidbmaaDoorZ2
import Derived.Test.YtgkhnmohjidbmaaDoorZ3
set_option linter.unusedVariables false
set_option linter.unusedSimpArgs false
namespace Go.Proofs.YtgkhnmohjidbmaaDoor
open Go.RowKit Go.Shelf

theorem RiR.stop {w : World} {g : Nat} {L : List (List UInt8)} {lq : Option Addr} {lc : Nat} {T0 : Option St} {F : St → Option St} {c : UInt8} {P : List (List UInt8)} {pq : Option Addr} {k j : Nat} {x : St} {na : Option Addr} {nc : Nat} {ia : Option Addr} {ic : Nat} {wr : World} (h : RiR w g L lq lc T0 F c P pq k j x na nc ia ic wr) (hj : j < P.length) (hy : part1 c P[j] x = none) : T0 = none := by
  rw [h.eq, List.drop_eq_getElem_cons hj, partsL, hy]; rfl
theorem rd0 {w : World} {gp : Nat} {P : List (List UInt8)} {j : Nat} (h : Rd encS w (some ⟨gp, 0, none⟩) P) (hj : j < P.length) : w.cell? ⟨gp, j, none⟩ = some (.string ⟨P[j].toArray⟩) := by
  obtain ⟨bs, off, e, _, hc⟩ := h.str j hj
  cases e
  rw [Nat.zero_add] at hc
  exact hc
set_option maxRecDepth 1000000 in
set_option maxHeartbeats 32000000 in
theorem rlone_any (s : List UInt8) (w : World) (hl : s.length ≤ 1000000) :
    Calls Tryd.prog 17 #[.string ⟨s.toArray⟩] w (StepP w (stepM s)) := by
  obtain ⟨R, hR⟩ : ∃ R, R = StepP w (stepM s) := ⟨_, rfl⟩
  rw [← hR]
  have hne : spl 32 s ≠ [] := splA_ne _ _ _
  obtain ⟨L, hL⟩ : ∃ L, L = spl 32 s := ⟨_, rfl⟩
  rw [← hL] at hne
  obtain ⟨wd, hwd⟩ : ∃ wd, wd = L.headD [] := ⟨_, rfl⟩
  obtain ⟨fs, hfs⟩ : ∃ fs, fs = L.tail := ⟨_, rfl⟩
  have hLe : L = wd :: fs := by
    cases hh : L with
    | nil => exact absurd hh hne
    | cons a l => rw [hwd, hfs, hh]; rfl
  have hst : stepM s = stepW wd fs := by rw [hwd, hfs, hL]; rfl
  have HSP := Lib.hid (fun w => rlsplit_any s 32 w hl)
  unfold SplP at HSP
  rw [← hL] at HSP
  have HNEED := Lib.hid (fun w => rlneeds_any wd w)
  obtain ⟨ln, hln⟩ : ∃ ln, ln = L.length := ⟨_, rfl⟩
  rw [← hln] at HSP
  have hl1 : ln = fs.length + 1 := by rw [hln, hLe]; rfl
  have hsz : Hid (∀ p ∈ L, p.length ≤ 1000000) := Lib.hid (by rw [hL]; intro p hp; have := spl_sizes 32 s p hp; omega)
  have hz : ∀ w, (zeroValue 33).run Tryd.prog w = .ok (.agg (stC zSt none 0 none 0)) w := fun w => by kernel_rfl
  obtain ⟨SB, hSB⟩ : ∃ B, B = ByteArray.mk s.toArray := ⟨_, rfl⟩
  rw [← hSB] at HSP ⊢
  have HLe := Lib.hid hLe
  have HL0 : Hid (∀ h : 0 < L.length, L[0] = wd) := Lib.hid (by subst hLe; intro h; rfl)
  have HLk : Hid (∀ k (h : k < fs.length) (h2 : k + 1 < L.length), L[k + 1] = fs[k]) := Lib.hid (by subst hLe; intro k h h2; rfl)
  have hl0 : (0 : Int) < (ln : Int) := by omega
  have hln9 : ln ≤ 1000001 := by rw [hln, hL]; have := spl_len_le 32 s; omega
  have HFS : Hid (∀ k (h : k < fs.length), fs[k].length ≤ 1000000) := Lib.hid (fun k h => hsz.out _ (by rw [hLe]; exact List.mem_cons_of_mem _ (List.getElem_mem h)))
  clear hSB hL hwd hfs hLe hne hln hsz
  cases hnd : needP wd with
  | none =>
    rw [hnd] at HNEED
    simp only [Option.getD_none, Option.isSome_none] at HNEED
    have e9 : Hid (R = StepP w none) := Lib.hid (by rw [hR, hst]; unfold stepW; rw [hnd])
    clear hR hst hnd hl1
    go_enter Tryd.func17, Tryd.ntmps17
    go_wp2_with fail
    refine (HSP.out _).mono ?_
    rintro r w1 ⟨hb1, lq, lc, rfl, hRl, hlq⟩
    have hgV : w1.heap[w.heap.size]? = some (.cells (stC zSt none 0 none 0) 33 (0, 0)) := (hb1.block _ (by simp)).trans (heap_alloc_new w _)
    have hbV : Below w.heap.size w w1 := ((Below.refl _ w).alloc (Nat.le_refl _) _).trans (hb1.mono (by simp))
    obtain ⟨b, rfl, hblt⟩ := shape_ne hRl (by rw [HLe.out]; simp)
    have c0 := rd0 hRl.rd (j := 0) (by rw [HLe.out]; simp)
    rw [HL0.out] at c0
    have hbb : w.heap.size < b := by have := hlq _ rfl; simp at this; omega
    have HRL := Lib.hid hRl
    have HGV := Lib.hid hgV
    have HBV := Lib.hid hbV
    have HBB := Lib.hid hbb
    have HBL := Lib.hid hblt
    clear hRl hgV hbV hbb hblt hlq hb1
    go_wp2_with fail
    refine (HNEED.out _).mono ?_
    rintro r w2 ⟨rfl, hb2⟩
    go_upto_region 4 with fail
    have hg2 := (hb2.block _ (Array.getElem?_eq_some_iff.1 HGV.out).1).trans HGV.out
    have hb3 := HBV.out.trans (hb2.mono HBV.out.size)
    clear hb2 c0
    have hb2 := hb3
    clear hb3
    have HG2 := Lib.hid hg2
    have HZR := Lib.hid (zRowQ hg2 hb2 (stC zSt none 0 none 0))
    clear hg2 hb2
    go_wp2_with (refine wpList_store_row rfl rfl 33 (.tmp 2) (.tmp 34) rfl w.heap.size rfl 33 _ (stC zSt none 0 none 0) rfl HG2.out rfl (rl_size _ _ _ _ _) stC_one ?_)
    refine bodyPost_ret (v := .tuple #[.agg (stC zSt none 0 none 0), .bool false]) (results_cell_slotL Tryd.results17 _ _ w.heap.size 33 _ (0, 0) _ _ rfl rfl HZR.out.1 Tryd.underlying33 rfl (rl_size _ _ _ _ _)) rfl ?_
    rw [e9.out]; exact stepP_none HZR.out.2.1
  | some nd =>
    rw [hnd] at HNEED
    simp only [Option.getD_some, Option.isSome_some] at HNEED
    have nl := (need_ascii hnd).1
    obtain ⟨D, hD⟩ : ∃ D, D = ByteArray.mk nd.toArray := ⟨_, rfl⟩
    obtain ⟨dn, hdn⟩ : ∃ dn, dn = nd.length := ⟨_, rfl⟩
    have hDs : D.size = dn := by rw [hD, hdn]; rfl
    have hDg : Hid (∀ k (h : k < D.size) (h2 : k < nd.length), D[k] = nd[k]) := Lib.hid (by subst hD; intro k h h2; rfl)
    rw [← hD] at HNEED
    rw [← hdn] at nl
    by_cases hcnt : fs.length = nd.length
    · obtain ⟨T0, hT0⟩ : ∃ T0, T0 = takeAll nd fs ⟨wd, [], [], []⟩ := ⟨_, rfl⟩
      have HST : Hid (R = StepP w T0) := Lib.hid (by rw [hR, hst, hT0]; unfold stepW; rw [hnd]; simp only [if_pos hcnt])
      have HT0 := Lib.hid hT0
      have HDN := Lib.hid hdn
      have hcn2 : fs.length = dn := by omega
      have HCN := Lib.hid hcn2
      have q1 : IntKind.i64.wrap (1 + (dn : Int)) = (ln : Int) := by rw [IntKind.wrap_i64]; omega
      have hl2 : ln = dn + 1 := by omega
      have HL2 := Lib.hid hl2
      clear hR hst hnd hl1 hD hdn hcnt hT0 hcn2 hl2
      go_enter Tryd.func17, Tryd.ntmps17
      go_wp2_with fail
      refine (HSP.out _).mono ?_
      rintro r w1 ⟨hb1, lq, lc, rfl, hRl, hlq⟩
      have hgV : w1.heap[w.heap.size]? = some (.cells (stC zSt none 0 none 0) 33 (0, 0)) := (hb1.block _ (by simp)).trans (heap_alloc_new w _)
      have hbV : Below w.heap.size w w1 := ((Below.refl _ w).alloc (Nat.le_refl _) _).trans (hb1.mono (by simp))
      obtain ⟨b, rfl, hblt⟩ := shape_ne hRl (by rw [HLe.out]; simp)
      have c0 := rd0 hRl.rd (j := 0) (by rw [HLe.out]; simp)
      rw [HL0.out] at c0
      have hbb : w.heap.size < b := by have := hlq _ rfl; simp at this; omega
      have HRL := Lib.hid hRl
      have HGV := Lib.hid hgV
      have HBV := Lib.hid hbV
      have HBB := Lib.hid hbb
      have HBL := Lib.hid hblt
      clear hRl hgV hbV hbb hblt hlq hb1
      go_wp2_with fail
      refine (HNEED.out _).mono ?_
      rintro r w2 ⟨rfl, hb2⟩
      have hRl2 := HRL.out.old hb2
      have hg2 := (hb2.block _ (Array.getElem?_eq_some_iff.1 HGV.out).1).trans HGV.out
      have hb3 := HBV.out.trans (hb2.mono HBV.out.size)
      have hbl2 : b < w2.heap.size := Nat.lt_of_lt_of_le HBL.out hb2.size
      clear c0
      have c0 := rd0 hRl2.rd (j := 0) (by rw [HLe.out]; simp)
      rw [HL0.out] at c0
      obtain ⟨g, hg⟩ : ∃ g, g = w2.heap.size := ⟨_, rfl⟩
      obtain ⟨W4, hW4⟩ : ∃ W4, W4 = w2.alloc (.cells (stC ⟨wd, [], [], []⟩ none 0 none 0) 33) := ⟨_, rfl⟩
      have hB4 : Below w2.heap.size w2 W4 := by rw [hW4]; exact (Below.refl _ _).alloc (Nat.le_refl _) _
      have hgw : w.heap.size < g := by rw [hg]; exact Nat.lt_of_lt_of_le (Array.getElem?_eq_some_iff.1 HGV.out).1 hb2.size
      have h0 : RiR w g L (some ⟨b, 0, none⟩) lc T0 (takeAll (nd.drop 0) (fs.drop 0)) 0 [] none 0 0 ⟨wd, [], [], []⟩ none 0 none 0 W4 := by
        refine ⟨⟨?_, Rw.empty _ _, Rw.empty _ _, by omega, (fun a e => by cases e), (fun a e => by cases e), fun a b e => by cases e⟩, hRl2.old hB4, (fun j hj => absurd hj (by simp)), (hB4.block _ (by omega)).trans hg2, (fun a e => by cases e), (fun a e => by cases e), (fun a e => by cases e; exact ⟨by show b < g; omega, HBB.out⟩), (fun b e => by cases e), hb3.trans (hB4.mono hb3.size), by simp, by simp, ?_, hgw⟩
        · rw [hW4, hg]; exact heap_alloc_new w2 _
        · rw [HT0.out]; rfl
      have H0 := Lib.hid h0
      have HW4 := Lib.hid hW4
      have HG := Lib.hid hg
      clear h0 hRl2 hg2 hb3 hb2 hbl2 hg hW4 hB4 hgw hz
      go_wp2_with fail
      rw [← HG.out]
      rw [show (w2.alloc (.cells #[.string ⟨wd.toArray⟩, .slice none 0 0, .slice none 0 0, .string ⟨#[]⟩] 33)) = W4 from HW4.out.symm]
      clear HW4 HG c0 HNEED HSP HRL HGV HBV HBB HBL
      go_loopw [8] (fun s8 wr => ∃ (k : Nat) (x : St) (na : Option Addr) (nc : Nat) (ia : Option Addr) (ic : Nat), s8 = .int .i64 k ∧ k ≤ dn ∧ RiR w g L (some ⟨b, 0, none⟩) lc T0 (takeAll (nd.drop k) (fs.drop k)) 0 [] none k 0 x na nc ia ic wr) (fun s8 _ => dn - (intOf s8).toNat)
      case atStart => exact ⟨0, _, none, 0, none, 0, rfl, by omega, H0.out⟩
      case round =>
        clear H0
        obtain ⟨k, x, na, nc, ia, ic, rfl, hkd, hR⟩ := hrel
        by_cases hlt0 : k < dn
        · have hlt : k < nd.length := by rw [← HDN.out]; exact hlt0
          have hfk : k < fs.length := by rw [HCN.out]; exact hlt0
          have hkD : k < D.size := by omega
          have k0 : (0 : Int) ≤ k := by omega
          have k1 : (k : Int) < dn := by omega
          have k2 : IntKind.i64.wrap (1 + (k : Int)) = ((k + 1 : Nat) : Int) := by rw [IntKind.wrap_i64]; omega
          have k3 : (k : Int) + 1 < ln := by have := HL2.out; omega
          obtain ⟨c, hcc⟩ : ∃ c, c = nd[k] := ⟨_, rfl⟩
          obtain ⟨f, hf⟩ : ∃ f, f = fs[k] := ⟨_, rfl⟩
          have hfl : f.length ≤ 1000000 := by rw [hf]; exact HFS.out k hfk
          obtain ⟨FB, hFB⟩ : ∃ B, B = ByteArray.mk f.toArray := ⟨_, rfl⟩
          have hFL : FB.toList = f := by rw [hFB, ByteArray.toList_mk]
          have hgD0 : ((D[k]'hkD).toNat : Int) = c.toNat := by rw [hDg.out k hkD hlt, hcc]
          have HR0 := Lib.hid hR
          clear hR
          have c1 := rd0 (HR0.out.rl.rd) (j := k + 1) (by rw [HLe.out, List.length_cons]; omega)
          rw [HLk.out k hfk, ← hf, ← hFB] at c1
          by_cases h76 : c = 76
          · by_cases hdash : f = [45]
            · have hc := h76
              clear h76
              obtain ⟨P, hP⟩ : ∃ P : List (List UInt8), P = [] := ⟨_, rfl⟩
              have hcP : partsF c f = P := by rw [hP]; rw [hc]; unfold partsF; rw [if_pos (by decide), if_pos hdash]
              have hP9 : P.length ≤ 1000001 := by rw [← hcP]; have := parts_len c f; omega
              have HPZ : Hid (∀ p ∈ P, p.length ≤ 1000000) := Lib.hid (by rw [← hcP]; exact fun p hp => Nat.le_trans (parts_sz c f p hp) hfl)
              obtain ⟨pn, hpn0⟩ : ∃ pn, pn = P.length := ⟨_, rfl⟩
              have HPN := Lib.hid hpn0.symm
              have hpn : pn ≤ 1000001 := by rw [hpn0]; exact hP9
              obtain ⟨F, hF⟩ : ∃ F, F = takeAll (nd.drop (k + 1)) (fs.drop (k + 1)) := ⟨_, rfl⟩
              have hEN : ∀ (pq : Option Addr) (W : World), Below wr.heap.size wr W → Rd encS W pq P → (∀ b, pq = some b → wr.heap.size ≤ b.block) → RiR w g L (some ⟨b, 0, none⟩) lc T0 F c P pq k 0 x na nc ia ic W := by
                          intro pq W e1 e2 e3
                          have := HR0.out.enter hlt hfk (pq := pq) e1 (by rw [← hcc, ← hf, hcP]; exact e2) e3
                          rw [← hcc, ← hf, hcP, ← hF] at this
                          exact this
              have HEN := Lib.hid hEN
              have HF := Lib.hid hF
              have hgD : ((D[k]'hkD).toNat : Int) = 76 := by rw [hgD0, hc]; rfl
              have HCL := Lib.hid hc
              have e0 : (FB.toList == [45]) = true := by rw [hFL, hdash]; rfl
              have HP := Lib.hid hP
              have HFB := Lib.hid hFB
              clear hdash
              clear hP hcP hP9 hpn0 hF hEN hFB hFL hgD0 hc
              clear hcc hf
              have HENT := Lib.hid (HEN.out none (wr.alloc (.cells #[.string FB] 9)) ((Below.refl _ _).alloc (Nat.le_refl _) _) (by rw [HP.out]; exact fun j hj => absurd hj (by simp)) (fun b e => by cases e))
              obtain rfl : pn = 0 := by rw [← HPN.out, HP.out]; rfl
              clear HEN
              go_wp2_with fail
              go_loopw [80] (fun s80 wr => ∃ (j : Nat) (y : St) (na : Option Addr) (nc : Nat) (ia : Option Addr) (ic : Nat), s80 = .int .i64 j ∧ j ≤ 0 ∧ RiR w g L (some ⟨b, 0, none⟩) lc T0 F c P none k j y na nc ia ic wr) (fun s80 _ => 0 - (intOf s80).toNat)
              case atStart => exact ⟨0, _, _, _, _, _, rfl, by omega, HENT.out⟩
              case round =>
                clear HENT
                obtain ⟨j, y, na, nc, ia, ic, rfl, hjn, hR⟩ := hrel
                obtain rfl : j = 0 := by omega
                skip
                have HLV := Lib.hid (RiR.leave (nd := nd) (fs := fs) (by rw [HPN.out, ← HF.out]; exact hR) (by rw [HPN.out]; exact hpn))
                clear hR
                go_wp2_with fail
                go_roundw
                case rel => exact ⟨k + 1, _, _, _, _, _, by go_num, by omega, HLV.out⟩
                case measure => simp [intOf]; omega
            · have hc := h76
              clear h76
              obtain ⟨P, hP⟩ : ∃ P : List (List UInt8), P = (spl 44 f) := ⟨_, rfl⟩
              have hcP : partsF c f = P := by rw [hP]; rw [hc]; unfold partsF; rw [if_pos (by decide), if_neg hdash]
              have hP9 : P.length ≤ 1000001 := by rw [← hcP]; have := parts_len c f; omega
              have HPZ : Hid (∀ p ∈ P, p.length ≤ 1000000) := Lib.hid (by rw [← hcP]; exact fun p hp => Nat.le_trans (parts_sz c f p hp) hfl)
              obtain ⟨pn, hpn0⟩ : ∃ pn, pn = P.length := ⟨_, rfl⟩
              have HPN := Lib.hid hpn0.symm
              have hpn : pn ≤ 1000001 := by rw [hpn0]; exact hP9
              obtain ⟨F, hF⟩ : ∃ F, F = takeAll (nd.drop (k + 1)) (fs.drop (k + 1)) := ⟨_, rfl⟩
              have hEN : ∀ (pq : Option Addr) (W : World), Below wr.heap.size wr W → Rd encS W pq P → (∀ b, pq = some b → wr.heap.size ≤ b.block) → RiR w g L (some ⟨b, 0, none⟩) lc T0 F c P pq k 0 x na nc ia ic W := by
                          intro pq W e1 e2 e3
                          have := HR0.out.enter hlt hfk (pq := pq) e1 (by rw [← hcc, ← hf, hcP]; exact e2) e3
                          rw [← hcc, ← hf, hcP, ← hF] at this
                          exact this
              have HEN := Lib.hid hEN
              have HF := Lib.hid hF
              have hgD : ((D[k]'hkD).toNat : Int) = 76 := by rw [hgD0, hc]; rfl
              have HCL := Lib.hid hc
              have e0 : (FB.toList == [45]) = false := by rw [hFL, beq_eq_false_iff_ne]; exact hdash
              have HSF := Lib.hid (fun w => rlsplit_any f 44 w hfl)
              unfold SplP at HSF
              rw [← hP, ← hpn0, ← hFB] at HSF
              have hPne : P ≠ [] := by rw [hP]; exact splA_ne 44 f []
              have hp0 : 0 < P.length := List.length_pos_iff.2 hPne
              have HP := Lib.hid hP
              have HFB := Lib.hid hFB
              have HP0 := Lib.hid hp0
              clear hPne hp0
              clear hdash
              clear hP hcP hP9 hpn0 hF hEN hFB hFL hgD0 hc
              clear hcc hf
              go_wp2_with fail
              refine (HSF.out _).mono ?_
              rintro r w6 ⟨hb6, pq, pc, rfl, hRp, hpq⟩
              obtain ⟨gp, rfl, hgpl⟩ := shape_ne hRp HP0.out
              have HENT := Lib.hid (HEN.out (some ⟨gp, 0, none⟩) w6 (((Below.refl _ _).alloc (Nat.le_refl _) _).trans (hb6.mono (by simp))) hRp.rd (fun b e => by cases e; have := hpq _ rfl; simp at this; simp; omega))
              clear hb6 hRp hpq hgpl HEN HSF
              go_wp2_with fail
              go_loopw [80] (fun s80 wr => ∃ (j : Nat) (y : St) (na : Option Addr) (nc : Nat) (ia : Option Addr) (ic : Nat), s80 = .int .i64 j ∧ j ≤ pn ∧ RiR w g L (some ⟨b, 0, none⟩) lc T0 F c P (some ⟨gp, 0, none⟩) k j y na nc ia ic wr) (fun s80 _ => pn - (intOf s80).toNat)
              case atStart => exact ⟨0, _, _, _, _, _, rfl, by omega, HENT.out⟩
              case round =>
                clear HENT
                obtain ⟨j, y, na, nc, ia, ic, rfl, hjn, hR⟩ := hrel
                by_cases hlt2 : j < pn
                · have hjl : j < P.length := by rw [HPN.out]; exact hlt2
                  have j1 : (j : Int) < pn := by omega
                  obtain ⟨p, hp⟩ : ∃ p, p = P[j] := ⟨_, rfl⟩
                  have hpl : p.length ≤ 1000000 := by rw [hp]; exact HPZ.out _ (List.getElem_mem hjl)
                  obtain ⟨PB, hPB⟩ : ∃ B, B = ByteArray.mk p.toArray := ⟨_, rfl⟩
                  have c0 := rd0 hR.pr hjl
                  rw [← hp, ← hPB] at c0
                  have HR := Lib.hid hR
                  have HNM := Lib.hid (fun w => rlname_any p w (by omega))
                  rw [← hPB] at HNM
                  by_cases hok : nameB p = true
                  · rw [hok] at HNM
                    have HY : Hid (part1 c P[j] y = some { y with names := y.names ++ [p] }) := Lib.hid (by rw [← hp, HCL.out]; unfold part1; rw [if_neg (by decide), if_pos (by decide), if_pos hok])
                    obtain ⟨n, hn⟩ : ∃ n, n = y.names.length := ⟨_, rfl⟩
                    have hn9 : n ≤ 100000000 := by have := hR.s1; omega
                    have HN := Lib.hid hn
                    have c1 := hR.st.cell 1
                    simp only [stC, List.getElem?_toArray, List.getElem?_cons_succ, List.getElem?_cons_zero] at c1
                    rw [← hn] at c1
                    have HPB := Lib.hid hPB
                    clear hok hp hn hR hPB
                    go_wp2_with fail
                    refine (HNM.out _).mono ?_
                    rintro e W5 ⟨rfl, rfl⟩
                    go_upto_region 32 with fail
                    rw [HPB.out]
                    go_wp2_with (at_builtin; refine wpList_pushR encS rfl _ _ 30 9 (.string ⟨#[]⟩) 16 rfl Tryd.underlying30 lninfo_str rfl (by decide) na nc n y.names HN.out.symm rfl (HR.out.st.rn.old ((Below.refl _ _).alloc (Nat.le_refl _) _)) (some ⟨_, 0, none⟩) 1 1 [p] rfl rfl (Rd.made encS _ 9 [p] (by simp [maxLen])) (by omega) ?_)
                    intro q c' w6 hP
                    have hS2 := HR.out.st.old ((Below.refl _ _).alloc (Nat.le_refl _) (.cells (encS.all [p]).toArray 9))
                    obtain ⟨d1, d2, d3, d4⟩ := hS2.name hP
                    rw [← HN.out] at d1 d3
                    have HM6 := Lib.hid ((mod_none (S := FPs g na ia) ((Below.refl _ _).alloc (Nat.le_refl _) (.cells (encS.all [p]).toArray 9))).trans hP.2.1 (fun i _ h => .inr (.inl h)) |>.setCell (p := ⟨g, 1, none⟩) (fun _ => .inl rfl) (.slice q (n + 1) c'))
                    have HNX := Lib.hid (HR.out.next HM6.out d3 (fun a e => by rcases hP.2.2 a e with h | h; exact .inl h; exact .inr (by simp at h; omega)) (Nw.refl _ _) hjl HY.out)
                    clear hP hS2 d3 d4 c1 HM6
                    go_wp2_with fail
                    go_roundw
                    case rel => exact ⟨j + 1, _, _, _, _, _, by go_num, by omega, HNX.out⟩
                    case measure => simp [intOf]; omega
                  · have hok' : nameB p = false := by simpa using hok
                    rw [hok'] at HNM
                    have HY : Hid (part1 c P[j] y = none) := Lib.hid (by rw [← hp, HCL.out]; unfold part1; rw [if_neg (by decide), if_pos (by decide), hok']; rfl)
                    have e9 : Hid (R = StepP w none) := Lib.hid (by rw [HST.out, HR.out.stop hjl HY.out])
                    have hg2 := hR.rb
                    have hb2 := hR.m
                    clear hok hok' hp hPB hR
                    go_wp2_with fail
                    refine (HNM.out _).mono ?_
                    rintro e W5 ⟨rfl, rfl⟩
                    have HG2 := Lib.hid hg2
                    have HZR := Lib.hid (zRowQ hg2 hb2 (stC zSt none 0 none 0))
                    clear hg2 hb2
                    go_wp2_with (refine wpList_store_row rfl rfl 33 (.tmp 2) (.tmp 117) rfl w.heap.size rfl 33 _ (stC zSt none 0 none 0) rfl HG2.out rfl (rl_size _ _ _ _ _) stC_one ?_)
                    refine bodyPost_ret (v := .tuple #[.agg (stC zSt none 0 none 0), .bool false]) (results_cell_slotL Tryd.results17 _ _ w.heap.size 33 _ (0, 0) _ _ rfl rfl HZR.out.1 Tryd.underlying33 rfl (rl_size _ _ _ _ _)) rfl ?_
                    rw [e9.out]; exact stepP_none HZR.out.2.1
                · obtain rfl : j = pn := by omega
                  have HLV := Lib.hid (RiR.leave (nd := nd) (fs := fs) (by rw [HPN.out, ← HF.out]; exact hR) (by rw [HPN.out]; exact hpn))
                  clear hR
                  go_wp2_with fail
                  go_roundw
                  case rel => exact ⟨k + 1, _, _, _, _, _, by go_num, by omega, HLV.out⟩
                  case measure => simp [intOf]; omega
          · by_cases h77 : c = 77
            · by_cases hdash : f = [45]
              · have hc := h77
                clear h76 h77
                obtain ⟨P, hP⟩ : ∃ P : List (List UInt8), P = [] := ⟨_, rfl⟩
                have hcP : partsF c f = P := by rw [hP]; rw [hc]; unfold partsF; rw [if_pos (by decide), if_pos hdash]
                have hP9 : P.length ≤ 1000001 := by rw [← hcP]; have := parts_len c f; omega
                have HPZ : Hid (∀ p ∈ P, p.length ≤ 1000000) := Lib.hid (by rw [← hcP]; exact fun p hp => Nat.le_trans (parts_sz c f p hp) hfl)
                obtain ⟨pn, hpn0⟩ : ∃ pn, pn = P.length := ⟨_, rfl⟩
                have HPN := Lib.hid hpn0.symm
                have hpn : pn ≤ 1000001 := by rw [hpn0]; exact hP9
                obtain ⟨F, hF⟩ : ∃ F, F = takeAll (nd.drop (k + 1)) (fs.drop (k + 1)) := ⟨_, rfl⟩
                have hEN : ∀ (pq : Option Addr) (W : World), Below wr.heap.size wr W → Rd encS W pq P → (∀ b, pq = some b → wr.heap.size ≤ b.block) → RiR w g L (some ⟨b, 0, none⟩) lc T0 F c P pq k 0 x na nc ia ic W := by
                            intro pq W e1 e2 e3
                            have := HR0.out.enter hlt hfk (pq := pq) e1 (by rw [← hcc, ← hf, hcP]; exact e2) e3
                            rw [← hcc, ← hf, hcP, ← hF] at this
                            exact this
                have HEN := Lib.hid hEN
                have HF := Lib.hid hF
                have hgD : ((D[k]'hkD).toNat : Int) = 77 := by rw [hgD0, hc]; rfl
                have HCL := Lib.hid hc
                have e0 : (FB.toList == [45]) = true := by rw [hFL, hdash]; rfl
                have HP := Lib.hid hP
                have HFB := Lib.hid hFB
                clear hdash
                clear hP hcP hP9 hpn0 hF hEN hFB hFL hgD0 hc
                clear hcc hf
                have HENT := Lib.hid (HEN.out none (wr.alloc (.cells #[.string FB] 9)) ((Below.refl _ _).alloc (Nat.le_refl _) _) (by rw [HP.out]; exact fun j hj => absurd hj (by simp)) (fun b e => by cases e))
                obtain rfl : pn = 0 := by rw [← HPN.out, HP.out]; rfl
                clear HEN
                go_wp2_with fail
                go_loopw [80] (fun s80 wr => ∃ (j : Nat) (y : St) (na : Option Addr) (nc : Nat) (ia : Option Addr) (ic : Nat), s80 = .int .i64 j ∧ j ≤ 0 ∧ RiR w g L (some ⟨b, 0, none⟩) lc T0 F c P none k j y na nc ia ic wr) (fun s80 _ => 0 - (intOf s80).toNat)
                case atStart => exact ⟨0, _, _, _, _, _, rfl, by omega, HENT.out⟩
                case round =>
                  clear HENT
                  obtain ⟨j, y, na, nc, ia, ic, rfl, hjn, hR⟩ := hrel
                  obtain rfl : j = 0 := by omega
                  skip
                  have HLV := Lib.hid (RiR.leave (nd := nd) (fs := fs) (by rw [HPN.out, ← HF.out]; exact hR) (by rw [HPN.out]; exact hpn))
                  clear hR
                  go_wp2_with fail
                  go_roundw
                  case rel => exact ⟨k + 1, _, _, _, _, _, by go_num, by omega, HLV.out⟩
                  case measure => simp [intOf]; omega
              · have hc := h77
                clear h76 h77
                obtain ⟨P, hP⟩ : ∃ P : List (List UInt8), P = (spl 44 f) := ⟨_, rfl⟩
                have hcP : partsF c f = P := by rw [hP]; rw [hc]; unfold partsF; rw [if_pos (by decide), if_neg hdash]
                have hP9 : P.length ≤ 1000001 := by rw [← hcP]; have := parts_len c f; omega
                have HPZ : Hid (∀ p ∈ P, p.length ≤ 1000000) := Lib.hid (by rw [← hcP]; exact fun p hp => Nat.le_trans (parts_sz c f p hp) hfl)
                obtain ⟨pn, hpn0⟩ : ∃ pn, pn = P.length := ⟨_, rfl⟩
                have HPN := Lib.hid hpn0.symm
                have hpn : pn ≤ 1000001 := by rw [hpn0]; exact hP9
                obtain ⟨F, hF⟩ : ∃ F, F = takeAll (nd.drop (k + 1)) (fs.drop (k + 1)) := ⟨_, rfl⟩
                have hEN : ∀ (pq : Option Addr) (W : World), Below wr.heap.size wr W → Rd encS W pq P → (∀ b, pq = some b → wr.heap.size ≤ b.block) → RiR w g L (some ⟨b, 0, none⟩) lc T0 F c P pq k 0 x na nc ia ic W := by
                            intro pq W e1 e2 e3
                            have := HR0.out.enter hlt hfk (pq := pq) e1 (by rw [← hcc, ← hf, hcP]; exact e2) e3
                            rw [← hcc, ← hf, hcP, ← hF] at this
                            exact this
                have HEN := Lib.hid hEN
                have HF := Lib.hid hF
                have hgD : ((D[k]'hkD).toNat : Int) = 77 := by rw [hgD0, hc]; rfl
                have HCL := Lib.hid hc
                have e0 : (FB.toList == [45]) = false := by rw [hFL, beq_eq_false_iff_ne]; exact hdash
                have HSF := Lib.hid (fun w => rlsplit_any f 44 w hfl)
                unfold SplP at HSF
                rw [← hP, ← hpn0, ← hFB] at HSF
                have hPne : P ≠ [] := by rw [hP]; exact splA_ne 44 f []
                have hp0 : 0 < P.length := List.length_pos_iff.2 hPne
                have HP := Lib.hid hP
                have HFB := Lib.hid hFB
                have HP0 := Lib.hid hp0
                clear hPne hp0
                clear hdash
                clear hP hcP hP9 hpn0 hF hEN hFB hFL hgD0 hc
                clear hcc hf
                go_wp2_with fail
                refine (HSF.out _).mono ?_
                rintro r w6 ⟨hb6, pq, pc, rfl, hRp, hpq⟩
                obtain ⟨gp, rfl, hgpl⟩ := shape_ne hRp HP0.out
                have HENT := Lib.hid (HEN.out (some ⟨gp, 0, none⟩) w6 (((Below.refl _ _).alloc (Nat.le_refl _) _).trans (hb6.mono (by simp))) hRp.rd (fun b e => by cases e; have := hpq _ rfl; simp at this; simp; omega))
                clear hb6 hRp hpq hgpl HEN HSF
                go_wp2_with fail
                go_loopw [80] (fun s80 wr => ∃ (j : Nat) (y : St) (na : Option Addr) (nc : Nat) (ia : Option Addr) (ic : Nat), s80 = .int .i64 j ∧ j ≤ pn ∧ RiR w g L (some ⟨b, 0, none⟩) lc T0 F c P (some ⟨gp, 0, none⟩) k j y na nc ia ic wr) (fun s80 _ => pn - (intOf s80).toNat)
                case atStart => exact ⟨0, _, _, _, _, _, rfl, by omega, HENT.out⟩
                case round =>
                  clear HENT
                  obtain ⟨j, y, na, nc, ia, ic, rfl, hjn, hR⟩ := hrel
                  by_cases hlt2 : j < pn
                  · have hjl : j < P.length := by rw [HPN.out]; exact hlt2
                    have j1 : (j : Int) < pn := by omega
                    obtain ⟨p, hp⟩ : ∃ p, p = P[j] := ⟨_, rfl⟩
                    have hpl : p.length ≤ 1000000 := by rw [hp]; exact HPZ.out _ (List.getElem_mem hjl)
                    obtain ⟨PB, hPB⟩ : ∃ B, B = ByteArray.mk p.toArray := ⟨_, rfl⟩
                    have c0 := rd0 hR.pr hjl
                    rw [← hp, ← hPB] at c0
                    have HR := Lib.hid hR
                    have HNM := Lib.hid (fun w => rlnumber_any p w hpl)
                    rw [← hPB] at HNM
                    by_cases hok : numOk p = true
                    · obtain ⟨vn, hvn⟩ : ∃ vn, vn = numD p := ⟨_, rfl⟩
                      have hnr : numR p = (vn : Int) := by unfold numR; rw [if_pos hok, hvn]
                      rw [hnr] at HNM
                      have HY : Hid (part1 c P[j] y = some { y with nums := y.nums ++ [vn] }) := Lib.hid (by rw [← hp, HCL.out]; unfold part1; rw [if_pos (by decide), if_pos hok, hvn])
                      obtain ⟨n, hn⟩ : ∃ n, n = y.nums.length := ⟨_, rfl⟩
                      have hn9 : n ≤ 100000000 := by have := hR.s2; omega
                      have HN := Lib.hid hn
                      have hv0 : ¬ (vn : Int) < 0 := by omega
                      clear hok hvn hnr hp hPB hn hR
                      go_wp2_with fail
                      refine (HNM.out _).mono ?_
                      rintro e W5 ⟨rfl, hb5⟩
                      have HR5 := Lib.hid (HR.out.below hb5)
                      clear hb5
                      go_upto_region 27 with fail
                      have HG0 : Hid ((fun (j : Nat) (v : Value) (w1 : World) => Mod (FPs g na ia) W5 w1 ∧ (j ≤ 2 → StQ w.heap.size w1 g y na nc ia ic) ∧ (j = 2 → ∃ p0, v = .slice (some ⟨p0, 0, none⟩) 1 1 ∧ Rd encNt w1 (some ⟨p0, 0, none⟩) [vn]) ∧ (j = 3 → ∃ q c wb, v = .slice q (n + 1) c ∧ Nw W5 ia q ∧ StQ w.heap.size wb g y na nc ia ic ∧ PushR encNt 3 wb ia (y.nums ++ [vn]) q c w1) ∧ (j = 4 → ∃ q c, Nw W5 ia q ∧ StQ w.heap.size w1 g { y with nums := y.nums ++ [vn] } na nc q c)) 0 undef W5.drew) := Lib.hid ⟨(Mod.refl _ _).drew, fun _ => HR5.out.st.old ((Below.refl _ _).drew), (fun h => absurd h (by omega)), (fun h => absurd h (by omega)), (fun h => absurd h (by omega))⟩
                      refine wp_region_chain2 (fun t v => match t with
                        | 104 => v = .pointer (some ⟨g, 2, none⟩)
                        | 105 => v = .slice ia n ic
                        | 106 => v = .string PB
                        | 107 => v = .int .i64 (vn : Int)
                        | 110 => v = .pointer (some ⟨g, 2, none⟩)
                        | _ => True) (fun (j : Nat) (v : Value) (w1 : World) => Mod (FPs g na ia) W5 w1 ∧ (j ≤ 2 → StQ w.heap.size w1 g y na nc ia ic) ∧ (j = 2 → ∃ p0, v = .slice (some ⟨p0, 0, none⟩) 1 1 ∧ Rd encNt w1 (some ⟨p0, 0, none⟩) [vn]) ∧ (j = 3 → ∃ q c wb, v = .slice q (n + 1) c ∧ Nw W5 ia q ∧ StQ w.heap.size wb g y na nc ia ic ∧ PushR encNt 3 wb ia (y.nums ++ [vn]) q c w1) ∧ (j = 4 → ∃ q c, Nw W5 ia q ∧ StQ w.heap.size w1 g { y with nums := y.nums ++ [vn] } na nc q c)) [3, 4, 5, 7] 134 (by kernel_rfl) (by decide +kernel) rfl (by decide +kernel) (by decide) (by decide) HG0.out (by
                        refine OweAllC.cons (owesC_val 2 (by decide +kernel) (by decide) rfl rfl fun k' a w1 x hk ha hG hV => ?_) ?_
                        · skip
                          have h7 := ha.outer 7 (by decide +kernel)
                          simp only [Act.eval] at h7
                          exact ⟨.pointer (some ⟨g, 2, none⟩), wanted_free rfl, by simp [execOp, go_sem, h7], rfl⟩
                        refine OweAllC.cons (owesC_val 2 (by decide +kernel) (by decide) rfl rfl fun k' a w1 x hk ha hG hV => ?_) ?_
                        · skip
                          have h104 : a.tmps.getD 104 undef = .pointer (some ⟨g, 2, none⟩) := hV.get 104 (by decide +kernel)
                          have st1 := hG.2.1 (by omega)
                          have cc := st1.cell 2
                          simp only [stC, List.getElem?_toArray, List.getElem?_cons_succ, List.getElem?_cons_zero] at cc
                          rw [← HN.out] at cc
                          exact ⟨.slice ia n ic, wanted_free rfl, by simp [execOp, go_sem, h104, cc], rfl⟩
                        refine OweAllC.cons (owesC_val 0 (by decide +kernel) (by decide) rfl rfl fun k' a w1 x hk ha hG hV => ?_) ?_
                        · skip
                          have h12 := ha.outer 12 (by decide +kernel)
                          simp only [Act.eval] at h12
                          exact ⟨.string PB, wanted_free rfl, by simp [execOp, go_sem, h12], rfl⟩
                        refine OweAllC.cons (owesC_call 0 rfl rfl rfl 26 fun a w1 x ha hG hx hV => ?_) ?_
                        · skip
                          have h106 : a.tmps.getD 106 undef = .string PB := hV.get 106 (by decide +kernel)
                          refine ⟨#[.string PB], wanted_free rfl, by simp [execOp, resolve, invoke, go_sem, h106], ?_⟩
                          have st1 := hG.2.1 (by omega)
                          refine (HNM.out w1).mono ?_
                          rintro r w2 ⟨rfl, hb⟩
                          exact ⟨_, rfl, rfl, hG.1.trans (mod_none hb) (fun _ _ h => h), (fun _ => st1.old hb), (fun h => absurd h (by omega)), (fun h => absurd h (by omega)), (fun h => absurd h (by omega))⟩
                        refine OweAllC.cons (owesC_mem 1 rfl rfl rfl fun a w1 x ha hG hx hV => ?_) ?_
                        · skip
                          have h107 : a.tmps.getD 107 undef = .int .i64 (vn : Int) := hV.get 107 (by decide +kernel)
                          have g107 : a.tmps[107]?.getD undef = .int .i64 (vn : Int) := by simpa using h107
                          have st1 := hG.2.1 (by omega)
                          have hb : Below w1.heap.size w1 (w1.alloc (.cells (encNt.f vn).toArray 3)) := (Below.refl _ _).alloc (Nat.le_refl _) _
                          have hr : Rd encNt (w1.alloc (.cells (encNt.f vn).toArray 3)) (some ⟨w1.heap.size, 0, none⟩) [vn] := by have := Rd.made encNt w1 3 [vn] (by simp [maxLen]); simpa [Enc.all] using this
                          exact ⟨_, _, wanted_free rfl, build_one encNt 31 3 _ 8 Tryd.underlying31 lninfo_int (by decide) (.tmp 107) rfl vn _ rfl h107, trivial, hG.1.trans (mod_none hb) (fun _ _ h => h), (fun _ => st1.old hb), (fun _ => ⟨_, rfl, hr⟩), (fun h => absurd h (by omega)), (fun h => absurd h (by omega))⟩
                        refine OweAllC.cons (owesC_law 2 rfl rfl fun a w1 x ha hG hx hV => ?_) ?_
                        · skip
                          have h105 : a.tmps.getD 105 undef = .slice ia n ic := hV.get 105 (by decide +kernel)
                          have h108 := hx 1 4 _ 108 rfl rfl rfl rfl
                          have st1 := hG.2.1 (by omega)
                          obtain ⟨p0, rfl, hr⟩ := hG.2.2.1 rfl
                          refine ⟨wanted_free rfl, fun K hK => ?_⟩
                          refine wp_pushR1 encNt (.tmp 105) (.tmp 108) 31 3 _ 8 rfl Tryd.underlying31 lninfo_int rfl (by decide) ia ic n y.nums HN.out.symm h105 st1.ri (some ⟨p0, 0, none⟩) 1 vn h108 hr (by omega) ?_
                          rintro q' c' w' hP
                          exact hK _ _ (fun t ht => by cases ht; trivial) ⟨hG.1.trans hP.2.1 (fun i _ h => .inr (.inr h)), (fun h => absurd h (by omega)), (fun h => absurd h (by omega)), (fun _ => ⟨q', c', w1, rfl, (fun a e => by have := hG.1.size; rcases hP.2.2 a e with h | h; exact .inl h; exact .inr (by omega)), st1, hP⟩), (fun h => absurd h (by omega))⟩
                        refine OweAllC.cons (owesC_val 3 (by decide +kernel) (by decide) rfl rfl fun k' a w1 x hk ha hG hV => ?_) ?_
                        · skip
                          have h7 := ha.outer 7 (by decide +kernel)
                          simp only [Act.eval] at h7
                          exact ⟨.pointer (some ⟨g, 2, none⟩), wanted_free rfl, by simp [execOp, go_sem, h7], rfl⟩
                        refine OweAllC.cons (owesC_store 3 rfl rfl rfl fun a w1 x ha hG hx hV => ?_) ?_
                        · skip
                          have h110 : a.tmps.getD 110 undef = .pointer (some ⟨g, 2, none⟩) := hV.get 110 (by decide +kernel)
                          have h109 := hx 2 5 _ 109 rfl rfl rfl rfl
                          simp only [Act.eval] at h109
                          obtain ⟨q', c', wb, rfl, hn1, st1, hP⟩ := hG.2.2.2.1 rfl
                          obtain ⟨cc, cf, st2, hb⟩ := st1.num hP
                          rw [← HN.out] at cc st2
                          exact ⟨w1.setCell ⟨g, 2, none⟩ (.slice q' (n + 1) c'), wanted_free rfl, by simp [execOp, go_sem, h110, h109, cc, cf], hG.1.setCell (p := ⟨g, 2, none⟩) (fun _ => .inl rfl) _, (fun h => absurd h (by omega)), (fun h => absurd h (by omega)), (fun h => absurd h (by omega)), (fun _ => ⟨q', c', hn1, st2⟩)⟩
                        exact OweAllC.nil
                        ) ?_
                      intro f wz xz hG hx hv
                      refine moves_back (P := Tryd.prog) (ops := #[]) f _ _ _ ?_
                      simp only [dsts, List.filterMap_cons, List.filterMap_nil, List.map_cons, List.map_nil]
                      clear hv hx
                      unfold mv
                      have hF := Lib.hid hG
                      clear hG HG0
                      have HNX : Hid (∃ ia' ic', RiR w g L (some ⟨b, 0, none⟩) lc T0 F c P (some ⟨gp, 0, none⟩) k (j + 1) { y with nums := y.nums ++ [vn] } na nc ia' ic' wz) := Lib.hid (by
                        obtain ⟨q, c', hn1, st⟩ := hF.out.2.2.2.2 rfl
                        exact ⟨q, c', HR5.out.next hF.out.1 st (Nw.refl _ _) hn1 hjl HY.out⟩)
                      clear hF HR5 HNM
                      go_wp2_with fail
                      obtain ⟨ia', ic', hnx⟩ := HNX.out
                      go_roundw
                      case rel => exact ⟨j + 1, _, _, _, _, _, by go_num, by omega, hnx⟩
                      case measure => simp [intOf]; omega
                    · have hok' : numOk p = false := by simpa using hok
                      have hnr : numR p = -1 := by unfold numR; rw [hok']; rfl
                      rw [hnr] at HNM
                      have HY : Hid (part1 c P[j] y = none) := Lib.hid (by rw [← hp, HCL.out]; unfold part1; rw [if_pos (by decide), hok']; rfl)
                      have e9 : Hid (R = StepP w none) := Lib.hid (by rw [HST.out, HR.out.stop hjl HY.out])
                      clear hok hok' hnr hp hPB hR
                      go_wp2_with fail
                      refine (HNM.out _).mono ?_
                      rintro e W5 ⟨rfl, hb5⟩
                      have hR5 := HR.out.below hb5
                      have hg2 := hR5.rb
                      have hb2 := hR5.m
                      clear hb5 hR5
                      have HG2 := Lib.hid hg2
                      have HZR := Lib.hid (zRowQ hg2 hb2 (stC zSt none 0 none 0))
                      clear hg2 hb2
                      go_wp2_with (refine wpList_store_row rfl rfl 33 (.tmp 2) (.tmp 103) rfl w.heap.size rfl 33 _ (stC zSt none 0 none 0) rfl HG2.out rfl (rl_size _ _ _ _ _) stC_one ?_)
                      refine bodyPost_ret (v := .tuple #[.agg (stC zSt none 0 none 0), .bool false]) (results_cell_slotL Tryd.results17 _ _ w.heap.size 33 _ (0, 0) _ _ rfl rfl HZR.out.1 Tryd.underlying33 rfl (rl_size _ _ _ _ _)) rfl ?_
                      rw [e9.out]; exact stepP_none HZR.out.2.1
                  · obtain rfl : j = pn := by omega
                    have HLV := Lib.hid (RiR.leave (nd := nd) (fs := fs) (by rw [HPN.out, ← HF.out]; exact hR) (by rw [HPN.out]; exact hpn))
                    clear hR
                    go_wp2_with fail
                    go_roundw
                    case rel => exact ⟨k + 1, _, _, _, _, _, by go_num, by omega, HLV.out⟩
                    case measure => simp [intOf]; omega
            · by_cases h78 : c = 78
              · have hc := h78
                clear h76 h77 h78
                obtain ⟨P, hP⟩ : ∃ P : List (List UInt8), P = [f] := ⟨_, rfl⟩
                have hcP : partsF c f = P := by rw [hP]; rw [hc]; unfold partsF; rw [if_neg (by decide)]
                have hP9 : P.length ≤ 1000001 := by rw [← hcP]; have := parts_len c f; omega
                have HPZ : Hid (∀ p ∈ P, p.length ≤ 1000000) := Lib.hid (by rw [← hcP]; exact fun p hp => Nat.le_trans (parts_sz c f p hp) hfl)
                obtain ⟨pn, hpn0⟩ : ∃ pn, pn = P.length := ⟨_, rfl⟩
                have HPN := Lib.hid hpn0.symm
                have hpn : pn ≤ 1000001 := by rw [hpn0]; exact hP9
                obtain ⟨F, hF⟩ : ∃ F, F = takeAll (nd.drop (k + 1)) (fs.drop (k + 1)) := ⟨_, rfl⟩
                have hEN : ∀ (pq : Option Addr) (W : World), Below wr.heap.size wr W → Rd encS W pq P → (∀ b, pq = some b → wr.heap.size ≤ b.block) → RiR w g L (some ⟨b, 0, none⟩) lc T0 F c P pq k 0 x na nc ia ic W := by
                            intro pq W e1 e2 e3
                            have := HR0.out.enter hlt hfk (pq := pq) e1 (by rw [← hcc, ← hf, hcP]; exact e2) e3
                            rw [← hcc, ← hf, hcP, ← hF] at this
                            exact this
                have HEN := Lib.hid hEN
                have HF := Lib.hid hF
                have hgD : ((D[k]'hkD).toNat : Int) = 78 := by rw [hgD0, hc]; rfl
                have HCL := Lib.hid hc
                have HP := Lib.hid hP
                have HFB := Lib.hid hFB
                clear hP hcP hP9 hpn0 hF hEN hFB hFL hgD0 hc
                clear hcc hf
                obtain ⟨gp, hgp⟩ : ∃ gp, gp = wr.heap.size := ⟨_, rfl⟩
                have HENT := Lib.hid (HEN.out (some ⟨gp, 0, none⟩) (wr.alloc (.cells #[.string FB] 9)) ((Below.refl _ _).alloc (Nat.le_refl _) _) (by rw [HP.out, hgp, HFB.out]; exact Rd.made encS wr 9 [f] (by simp [maxLen])) (fun b e => by cases e; rw [hgp]; exact Nat.le_refl _))
                obtain rfl : pn = 1 := by rw [← HPN.out, HP.out]; rfl
                clear HEN
                go_wp2_with fail
                rw [← hgp]
                clear hgp
                go_loopw [80] (fun s80 wr => ∃ (j : Nat) (y : St) (na : Option Addr) (nc : Nat) (ia : Option Addr) (ic : Nat), s80 = .int .i64 j ∧ j ≤ 1 ∧ RiR w g L (some ⟨b, 0, none⟩) lc T0 F c P (some ⟨gp, 0, none⟩) k j y na nc ia ic wr) (fun s80 _ => 1 - (intOf s80).toNat)
                case atStart => exact ⟨0, _, _, _, _, _, rfl, by omega, HENT.out⟩
                case round =>
                  clear HENT
                  obtain ⟨j, y, na, nc, ia, ic, rfl, hjn, hR⟩ := hrel
                  by_cases hlt2 : j < 1
                  · have hjl : j < P.length := by rw [HPN.out]; exact hlt2
                    have j1 : (j : Int) < 1 := by omega
                    obtain ⟨p, hp⟩ : ∃ p, p = P[j] := ⟨_, rfl⟩
                    have hpl : p.length ≤ 1000000 := by rw [hp]; exact HPZ.out _ (List.getElem_mem hjl)
                    obtain ⟨PB, hPB⟩ : ∃ B, B = ByteArray.mk p.toArray := ⟨_, rfl⟩
                    have c0 := rd0 hR.pr hjl
                    rw [← hp, ← hPB] at c0
                    have HR := Lib.hid hR
                    have HNM := Lib.hid (fun w => rlnumber_any p w hpl)
                    rw [← hPB] at HNM
                    by_cases hok : numOk p = true
                    · obtain ⟨vn, hvn⟩ : ∃ vn, vn = numD p := ⟨_, rfl⟩
                      have hnr : numR p = (vn : Int) := by unfold numR; rw [if_pos hok, hvn]
                      rw [hnr] at HNM
                      have HY : Hid (part1 c P[j] y = some { y with nums := y.nums ++ [vn] }) := Lib.hid (by rw [← hp, HCL.out]; unfold part1; rw [if_pos (by decide), if_pos hok, hvn])
                      obtain ⟨n, hn⟩ : ∃ n, n = y.nums.length := ⟨_, rfl⟩
                      have hn9 : n ≤ 100000000 := by have := hR.s2; omega
                      have HN := Lib.hid hn
                      have hv0 : ¬ (vn : Int) < 0 := by omega
                      clear hok hvn hnr hp hPB hn hR
                      go_wp2_with fail
                      refine (HNM.out _).mono ?_
                      rintro e W5 ⟨rfl, hb5⟩
                      have HR5 := Lib.hid (HR.out.below hb5)
                      clear hb5
                      go_upto_region 27 with fail
                      have HG0 : Hid ((fun (j : Nat) (v : Value) (w1 : World) => Mod (FPs g na ia) W5 w1 ∧ (j ≤ 2 → StQ w.heap.size w1 g y na nc ia ic) ∧ (j = 2 → ∃ p0, v = .slice (some ⟨p0, 0, none⟩) 1 1 ∧ Rd encNt w1 (some ⟨p0, 0, none⟩) [vn]) ∧ (j = 3 → ∃ q c wb, v = .slice q (n + 1) c ∧ Nw W5 ia q ∧ StQ w.heap.size wb g y na nc ia ic ∧ PushR encNt 3 wb ia (y.nums ++ [vn]) q c w1) ∧ (j = 4 → ∃ q c, Nw W5 ia q ∧ StQ w.heap.size w1 g { y with nums := y.nums ++ [vn] } na nc q c)) 0 undef W5.drew) := Lib.hid ⟨(Mod.refl _ _).drew, fun _ => HR5.out.st.old ((Below.refl _ _).drew), (fun h => absurd h (by omega)), (fun h => absurd h (by omega)), (fun h => absurd h (by omega))⟩
                      refine wp_region_chain2 (fun t v => match t with
                        | 104 => v = .pointer (some ⟨g, 2, none⟩)
                        | 105 => v = .slice ia n ic
                        | 106 => v = .string PB
                        | 107 => v = .int .i64 (vn : Int)
                        | 110 => v = .pointer (some ⟨g, 2, none⟩)
                        | _ => True) (fun (j : Nat) (v : Value) (w1 : World) => Mod (FPs g na ia) W5 w1 ∧ (j ≤ 2 → StQ w.heap.size w1 g y na nc ia ic) ∧ (j = 2 → ∃ p0, v = .slice (some ⟨p0, 0, none⟩) 1 1 ∧ Rd encNt w1 (some ⟨p0, 0, none⟩) [vn]) ∧ (j = 3 → ∃ q c wb, v = .slice q (n + 1) c ∧ Nw W5 ia q ∧ StQ w.heap.size wb g y na nc ia ic ∧ PushR encNt 3 wb ia (y.nums ++ [vn]) q c w1) ∧ (j = 4 → ∃ q c, Nw W5 ia q ∧ StQ w.heap.size w1 g { y with nums := y.nums ++ [vn] } na nc q c)) [3, 4, 5, 7] 134 (by kernel_rfl) (by decide +kernel) rfl (by decide +kernel) (by decide) (by decide) HG0.out (by
                        refine OweAllC.cons (owesC_val 2 (by decide +kernel) (by decide) rfl rfl fun k' a w1 x hk ha hG hV => ?_) ?_
                        · skip
                          have h7 := ha.outer 7 (by decide +kernel)
                          simp only [Act.eval] at h7
                          exact ⟨.pointer (some ⟨g, 2, none⟩), wanted_free rfl, by simp [execOp, go_sem, h7], rfl⟩
                        refine OweAllC.cons (owesC_val 2 (by decide +kernel) (by decide) rfl rfl fun k' a w1 x hk ha hG hV => ?_) ?_
                        · skip
                          have h104 : a.tmps.getD 104 undef = .pointer (some ⟨g, 2, none⟩) := hV.get 104 (by decide +kernel)
                          have st1 := hG.2.1 (by omega)
                          have cc := st1.cell 2
                          simp only [stC, List.getElem?_toArray, List.getElem?_cons_succ, List.getElem?_cons_zero] at cc
                          rw [← HN.out] at cc
                          exact ⟨.slice ia n ic, wanted_free rfl, by simp [execOp, go_sem, h104, cc], rfl⟩
                        refine OweAllC.cons (owesC_val 0 (by decide +kernel) (by decide) rfl rfl fun k' a w1 x hk ha hG hV => ?_) ?_
                        · skip
                          have h12 := ha.outer 12 (by decide +kernel)
                          simp only [Act.eval] at h12
                          exact ⟨.string PB, wanted_free rfl, by simp [execOp, go_sem, h12], rfl⟩
                        refine OweAllC.cons (owesC_call 0 rfl rfl rfl 26 fun a w1 x ha hG hx hV => ?_) ?_
                        · skip
                          have h106 : a.tmps.getD 106 undef = .string PB := hV.get 106 (by decide +kernel)
                          refine ⟨#[.string PB], wanted_free rfl, by simp [execOp, resolve, invoke, go_sem, h106], ?_⟩
                          have st1 := hG.2.1 (by omega)
                          refine (HNM.out w1).mono ?_
                          rintro r w2 ⟨rfl, hb⟩
                          exact ⟨_, rfl, rfl, hG.1.trans (mod_none hb) (fun _ _ h => h), (fun _ => st1.old hb), (fun h => absurd h (by omega)), (fun h => absurd h (by omega)), (fun h => absurd h (by omega))⟩
                        refine OweAllC.cons (owesC_mem 1 rfl rfl rfl fun a w1 x ha hG hx hV => ?_) ?_
                        · skip
                          have h107 : a.tmps.getD 107 undef = .int .i64 (vn : Int) := hV.get 107 (by decide +kernel)
                          have g107 : a.tmps[107]?.getD undef = .int .i64 (vn : Int) := by simpa using h107
                          have st1 := hG.2.1 (by omega)
                          have hb : Below w1.heap.size w1 (w1.alloc (.cells (encNt.f vn).toArray 3)) := (Below.refl _ _).alloc (Nat.le_refl _) _
                          have hr : Rd encNt (w1.alloc (.cells (encNt.f vn).toArray 3)) (some ⟨w1.heap.size, 0, none⟩) [vn] := by have := Rd.made encNt w1 3 [vn] (by simp [maxLen]); simpa [Enc.all] using this
                          exact ⟨_, _, wanted_free rfl, build_one encNt 31 3 _ 8 Tryd.underlying31 lninfo_int (by decide) (.tmp 107) rfl vn _ rfl h107, trivial, hG.1.trans (mod_none hb) (fun _ _ h => h), (fun _ => st1.old hb), (fun _ => ⟨_, rfl, hr⟩), (fun h => absurd h (by omega)), (fun h => absurd h (by omega))⟩
                        refine OweAllC.cons (owesC_law 2 rfl rfl fun a w1 x ha hG hx hV => ?_) ?_
                        · skip
                          have h105 : a.tmps.getD 105 undef = .slice ia n ic := hV.get 105 (by decide +kernel)
                          have h108 := hx 1 4 _ 108 rfl rfl rfl rfl
                          have st1 := hG.2.1 (by omega)
                          obtain ⟨p0, rfl, hr⟩ := hG.2.2.1 rfl
                          refine ⟨wanted_free rfl, fun K hK => ?_⟩
                          refine wp_pushR1 encNt (.tmp 105) (.tmp 108) 31 3 _ 8 rfl Tryd.underlying31 lninfo_int rfl (by decide) ia ic n y.nums HN.out.symm h105 st1.ri (some ⟨p0, 0, none⟩) 1 vn h108 hr (by omega) ?_
                          rintro q' c' w' hP
                          exact hK _ _ (fun t ht => by cases ht; trivial) ⟨hG.1.trans hP.2.1 (fun i _ h => .inr (.inr h)), (fun h => absurd h (by omega)), (fun h => absurd h (by omega)), (fun _ => ⟨q', c', w1, rfl, (fun a e => by have := hG.1.size; rcases hP.2.2 a e with h | h; exact .inl h; exact .inr (by omega)), st1, hP⟩), (fun h => absurd h (by omega))⟩
                        refine OweAllC.cons (owesC_val 3 (by decide +kernel) (by decide) rfl rfl fun k' a w1 x hk ha hG hV => ?_) ?_
                        · skip
                          have h7 := ha.outer 7 (by decide +kernel)
                          simp only [Act.eval] at h7
                          exact ⟨.pointer (some ⟨g, 2, none⟩), wanted_free rfl, by simp [execOp, go_sem, h7], rfl⟩
                        refine OweAllC.cons (owesC_store 3 rfl rfl rfl fun a w1 x ha hG hx hV => ?_) ?_
                        · skip
                          have h110 : a.tmps.getD 110 undef = .pointer (some ⟨g, 2, none⟩) := hV.get 110 (by decide +kernel)
                          have h109 := hx 2 5 _ 109 rfl rfl rfl rfl
                          simp only [Act.eval] at h109
                          obtain ⟨q', c', wb, rfl, hn1, st1, hP⟩ := hG.2.2.2.1 rfl
                          obtain ⟨cc, cf, st2, hb⟩ := st1.num hP
                          rw [← HN.out] at cc st2
                          exact ⟨w1.setCell ⟨g, 2, none⟩ (.slice q' (n + 1) c'), wanted_free rfl, by simp [execOp, go_sem, h110, h109, cc, cf], hG.1.setCell (p := ⟨g, 2, none⟩) (fun _ => .inl rfl) _, (fun h => absurd h (by omega)), (fun h => absurd h (by omega)), (fun h => absurd h (by omega)), (fun _ => ⟨q', c', hn1, st2⟩)⟩
                        exact OweAllC.nil
                        ) ?_
                      intro f wz xz hG hx hv
                      refine moves_back (P := Tryd.prog) (ops := #[]) f _ _ _ ?_
                      simp only [dsts, List.filterMap_cons, List.filterMap_nil, List.map_cons, List.map_nil]
                      clear hv hx
                      unfold mv
                      have hF := Lib.hid hG
                      clear hG HG0
                      have HNX : Hid (∃ ia' ic', RiR w g L (some ⟨b, 0, none⟩) lc T0 F c P (some ⟨gp, 0, none⟩) k (j + 1) { y with nums := y.nums ++ [vn] } na nc ia' ic' wz) := Lib.hid (by
                        obtain ⟨q, c', hn1, st⟩ := hF.out.2.2.2.2 rfl
                        exact ⟨q, c', HR5.out.next hF.out.1 st (Nw.refl _ _) hn1 hjl HY.out⟩)
                      clear hF HR5 HNM
                      go_wp2_with fail
                      obtain ⟨ia', ic', hnx⟩ := HNX.out
                      go_roundw
                      case rel => exact ⟨j + 1, _, _, _, _, _, by go_num, by omega, hnx⟩
                      case measure => simp [intOf]; omega
                    · have hok' : numOk p = false := by simpa using hok
                      have hnr : numR p = -1 := by unfold numR; rw [hok']; rfl
                      rw [hnr] at HNM
                      have HY : Hid (part1 c P[j] y = none) := Lib.hid (by rw [← hp, HCL.out]; unfold part1; rw [if_pos (by decide), hok']; rfl)
                      have e9 : Hid (R = StepP w none) := Lib.hid (by rw [HST.out, HR.out.stop hjl HY.out])
                      clear hok hok' hnr hp hPB hR
                      go_wp2_with fail
                      refine (HNM.out _).mono ?_
                      rintro e W5 ⟨rfl, hb5⟩
                      have hR5 := HR.out.below hb5
                      have hg2 := hR5.rb
                      have hb2 := hR5.m
                      clear hb5 hR5
                      have HG2 := Lib.hid hg2
                      have HZR := Lib.hid (zRowQ hg2 hb2 (stC zSt none 0 none 0))
                      clear hg2 hb2
                      go_wp2_with (refine wpList_store_row rfl rfl 33 (.tmp 2) (.tmp 103) rfl w.heap.size rfl 33 _ (stC zSt none 0 none 0) rfl HG2.out rfl (rl_size _ _ _ _ _) stC_one ?_)
                      refine bodyPost_ret (v := .tuple #[.agg (stC zSt none 0 none 0), .bool false]) (results_cell_slotL Tryd.results17 _ _ w.heap.size 33 _ (0, 0) _ _ rfl rfl HZR.out.1 Tryd.underlying33 rfl (rl_size _ _ _ _ _)) rfl ?_
                      rw [e9.out]; exact stepP_none HZR.out.2.1
                  · obtain rfl : j = 1 := by omega
                    have HLV := Lib.hid (RiR.leave (nd := nd) (fs := fs) (by rw [HPN.out, ← HF.out]; exact hR) (by rw [HPN.out]; exact hpn))
                    clear hR
                    go_wp2_with fail
                    go_roundw
                    case rel => exact ⟨k + 1, _, _, _, _, _, by go_num, by omega, HLV.out⟩
                    case measure => simp [intOf]; omega
              · by_cases h73 : c = 73
                · have hc := h73
                  clear h76 h77 h78 h73
                  obtain ⟨P, hP⟩ : ∃ P : List (List UInt8), P = [f] := ⟨_, rfl⟩
                  have hcP : partsF c f = P := by rw [hP]; rw [hc]; unfold partsF; rw [if_neg (by decide)]
                  have hP9 : P.length ≤ 1000001 := by rw [← hcP]; have := parts_len c f; omega
                  have HPZ : Hid (∀ p ∈ P, p.length ≤ 1000000) := Lib.hid (by rw [← hcP]; exact fun p hp => Nat.le_trans (parts_sz c f p hp) hfl)
                  obtain ⟨pn, hpn0⟩ : ∃ pn, pn = P.length := ⟨_, rfl⟩
                  have HPN := Lib.hid hpn0.symm
                  have hpn : pn ≤ 1000001 := by rw [hpn0]; exact hP9
                  obtain ⟨F, hF⟩ : ∃ F, F = takeAll (nd.drop (k + 1)) (fs.drop (k + 1)) := ⟨_, rfl⟩
                  have hEN : ∀ (pq : Option Addr) (W : World), Below wr.heap.size wr W → Rd encS W pq P → (∀ b, pq = some b → wr.heap.size ≤ b.block) → RiR w g L (some ⟨b, 0, none⟩) lc T0 F c P pq k 0 x na nc ia ic W := by
                              intro pq W e1 e2 e3
                              have := HR0.out.enter hlt hfk (pq := pq) e1 (by rw [← hcc, ← hf, hcP]; exact e2) e3
                              rw [← hcc, ← hf, hcP, ← hF] at this
                              exact this
                  have HEN := Lib.hid hEN
                  have HF := Lib.hid hF
                  have hgD : ((D[k]'hkD).toNat : Int) = 73 := by rw [hgD0, hc]; rfl
                  have HCL := Lib.hid hc
                  have HP := Lib.hid hP
                  have HFB := Lib.hid hFB
                  clear hP hcP hP9 hpn0 hF hEN hFB hFL hgD0 hc
                  clear hcc hf
                  obtain ⟨gp, hgp⟩ : ∃ gp, gp = wr.heap.size := ⟨_, rfl⟩
                  have HENT := Lib.hid (HEN.out (some ⟨gp, 0, none⟩) (wr.alloc (.cells #[.string FB] 9)) ((Below.refl _ _).alloc (Nat.le_refl _) _) (by rw [HP.out, hgp, HFB.out]; exact Rd.made encS wr 9 [f] (by simp [maxLen])) (fun b e => by cases e; rw [hgp]; exact Nat.le_refl _))
                  obtain rfl : pn = 1 := by rw [← HPN.out, HP.out]; rfl
                  clear HEN
                  go_wp2_with fail
                  rw [← hgp]
                  clear hgp
                  go_loopw [80] (fun s80 wr => ∃ (j : Nat) (y : St) (na : Option Addr) (nc : Nat) (ia : Option Addr) (ic : Nat), s80 = .int .i64 j ∧ j ≤ 1 ∧ RiR w g L (some ⟨b, 0, none⟩) lc T0 F c P (some ⟨gp, 0, none⟩) k j y na nc ia ic wr) (fun s80 _ => 1 - (intOf s80).toNat)
                  case atStart => exact ⟨0, _, _, _, _, _, rfl, by omega, HENT.out⟩
                  case round =>
                    clear HENT
                    obtain ⟨j, y, na, nc, ia, ic, rfl, hjn, hR⟩ := hrel
                    by_cases hlt2 : j < 1
                    · have hjl : j < P.length := by rw [HPN.out]; exact hlt2
                      have j1 : (j : Int) < 1 := by omega
                      obtain ⟨p, hp⟩ : ∃ p, p = P[j] := ⟨_, rfl⟩
                      have hpl : p.length ≤ 1000000 := by rw [hp]; exact HPZ.out _ (List.getElem_mem hjl)
                      obtain ⟨PB, hPB⟩ : ∃ B, B = ByteArray.mk p.toArray := ⟨_, rfl⟩
                      have c0 := rd0 hR.pr hjl
                      rw [← hp, ← hPB] at c0
                      have HR := Lib.hid hR
                      have HNM := Lib.hid (fun w => rlname_any p w (by omega))
                      rw [← hPB] at HNM
                      by_cases hok : nameB p = true
                      · rw [hok] at HNM
                        have HY : Hid (part1 c P[j] y = some { y with names := y.names ++ [p] }) := Lib.hid (by rw [← hp, HCL.out]; unfold part1; rw [if_neg (by decide), if_pos (by decide), if_pos hok])
                        obtain ⟨n, hn⟩ : ∃ n, n = y.names.length := ⟨_, rfl⟩
                        have hn9 : n ≤ 100000000 := by have := hR.s1; omega
                        have HN := Lib.hid hn
                        have c1 := hR.st.cell 1
                        simp only [stC, List.getElem?_toArray, List.getElem?_cons_succ, List.getElem?_cons_zero] at c1
                        rw [← hn] at c1
                        have HPB := Lib.hid hPB
                        clear hok hp hn hR hPB
                        go_wp2_with fail
                        refine (HNM.out _).mono ?_
                        rintro e W5 ⟨rfl, rfl⟩
                        go_upto_region 32 with fail
                        rw [HPB.out]
                        go_wp2_with (at_builtin; refine wpList_pushR encS rfl _ _ 30 9 (.string ⟨#[]⟩) 16 rfl Tryd.underlying30 lninfo_str rfl (by decide) na nc n y.names HN.out.symm rfl (HR.out.st.rn.old ((Below.refl _ _).alloc (Nat.le_refl _) _)) (some ⟨_, 0, none⟩) 1 1 [p] rfl rfl (Rd.made encS _ 9 [p] (by simp [maxLen])) (by omega) ?_)
                        intro q c' w6 hP
                        have hS2 := HR.out.st.old ((Below.refl _ _).alloc (Nat.le_refl _) (.cells (encS.all [p]).toArray 9))
                        obtain ⟨d1, d2, d3, d4⟩ := hS2.name hP
                        rw [← HN.out] at d1 d3
                        have HM6 := Lib.hid ((mod_none (S := FPs g na ia) ((Below.refl _ _).alloc (Nat.le_refl _) (.cells (encS.all [p]).toArray 9))).trans hP.2.1 (fun i _ h => .inr (.inl h)) |>.setCell (p := ⟨g, 1, none⟩) (fun _ => .inl rfl) (.slice q (n + 1) c'))
                        have HNX := Lib.hid (HR.out.next HM6.out d3 (fun a e => by rcases hP.2.2 a e with h | h; exact .inl h; exact .inr (by simp at h; omega)) (Nw.refl _ _) hjl HY.out)
                        clear hP hS2 d3 d4 c1 HM6
                        go_wp2_with fail
                        go_roundw
                        case rel => exact ⟨j + 1, _, _, _, _, _, by go_num, by omega, HNX.out⟩
                        case measure => simp [intOf]; omega
                      · have hok' : nameB p = false := by simpa using hok
                        rw [hok'] at HNM
                        have HY : Hid (part1 c P[j] y = none) := Lib.hid (by rw [← hp, HCL.out]; unfold part1; rw [if_neg (by decide), if_pos (by decide), hok']; rfl)
                        have e9 : Hid (R = StepP w none) := Lib.hid (by rw [HST.out, HR.out.stop hjl HY.out])
                        have hg2 := hR.rb
                        have hb2 := hR.m
                        clear hok hok' hp hPB hR
                        go_wp2_with fail
                        refine (HNM.out _).mono ?_
                        rintro e W5 ⟨rfl, rfl⟩
                        have HG2 := Lib.hid hg2
                        have HZR := Lib.hid (zRowQ hg2 hb2 (stC zSt none 0 none 0))
                        clear hg2 hb2
                        go_wp2_with (refine wpList_store_row rfl rfl 33 (.tmp 2) (.tmp 117) rfl w.heap.size rfl 33 _ (stC zSt none 0 none 0) rfl HG2.out rfl (rl_size _ _ _ _ _) stC_one ?_)
                        refine bodyPost_ret (v := .tuple #[.agg (stC zSt none 0 none 0), .bool false]) (results_cell_slotL Tryd.results17 _ _ w.heap.size 33 _ (0, 0) _ _ rfl rfl HZR.out.1 Tryd.underlying33 rfl (rl_size _ _ _ _ _)) rfl ?_
                        rw [e9.out]; exact stepP_none HZR.out.2.1
                    · obtain rfl : j = 1 := by omega
                      have HLV := Lib.hid (RiR.leave (nd := nd) (fs := fs) (by rw [HPN.out, ← HF.out]; exact hR) (by rw [HPN.out]; exact hpn))
                      clear hR
                      go_wp2_with fail
                      go_roundw
                      case rel => exact ⟨k + 1, _, _, _, _, _, by go_num, by omega, HLV.out⟩
                      case measure => simp [intOf]; omega
                · by_cases h84 : c = 84
                  · have hc := h84
                    clear h76 h77 h78 h73 h84
                    obtain ⟨P, hP⟩ : ∃ P : List (List UInt8), P = [f] := ⟨_, rfl⟩
                    have hcP : partsF c f = P := by rw [hP]; rw [hc]; unfold partsF; rw [if_neg (by decide)]
                    have hP9 : P.length ≤ 1000001 := by rw [← hcP]; have := parts_len c f; omega
                    have HPZ : Hid (∀ p ∈ P, p.length ≤ 1000000) := Lib.hid (by rw [← hcP]; exact fun p hp => Nat.le_trans (parts_sz c f p hp) hfl)
                    obtain ⟨pn, hpn0⟩ : ∃ pn, pn = P.length := ⟨_, rfl⟩
                    have HPN := Lib.hid hpn0.symm
                    have hpn : pn ≤ 1000001 := by rw [hpn0]; exact hP9
                    obtain ⟨F, hF⟩ : ∃ F, F = takeAll (nd.drop (k + 1)) (fs.drop (k + 1)) := ⟨_, rfl⟩
                    have hEN : ∀ (pq : Option Addr) (W : World), Below wr.heap.size wr W → Rd encS W pq P → (∀ b, pq = some b → wr.heap.size ≤ b.block) → RiR w g L (some ⟨b, 0, none⟩) lc T0 F c P pq k 0 x na nc ia ic W := by
                                intro pq W e1 e2 e3
                                have := HR0.out.enter hlt hfk (pq := pq) e1 (by rw [← hcc, ← hf, hcP]; exact e2) e3
                                rw [← hcc, ← hf, hcP, ← hF] at this
                                exact this
                    have HEN := Lib.hid hEN
                    have HF := Lib.hid hF
                    have hgD : ((D[k]'hkD).toNat : Int) = 84 := by rw [hgD0, hc]; rfl
                    have HCL := Lib.hid hc
                    have HP := Lib.hid hP
                    have HFB := Lib.hid hFB
                    clear hP hcP hP9 hpn0 hF hEN hFB hFL hgD0 hc
                    clear hcc hf
                    obtain ⟨gp, hgp⟩ : ∃ gp, gp = wr.heap.size := ⟨_, rfl⟩
                    have HENT := Lib.hid (HEN.out (some ⟨gp, 0, none⟩) (wr.alloc (.cells #[.string FB] 9)) ((Below.refl _ _).alloc (Nat.le_refl _) _) (by rw [HP.out, hgp, HFB.out]; exact Rd.made encS wr 9 [f] (by simp [maxLen])) (fun b e => by cases e; rw [hgp]; exact Nat.le_refl _))
                    obtain rfl : pn = 1 := by rw [← HPN.out, HP.out]; rfl
                    clear HEN
                    go_wp2_with fail
                    rw [← hgp]
                    clear hgp
                    go_loopw [80] (fun s80 wr => ∃ (j : Nat) (y : St) (na : Option Addr) (nc : Nat) (ia : Option Addr) (ic : Nat), s80 = .int .i64 j ∧ j ≤ 1 ∧ RiR w g L (some ⟨b, 0, none⟩) lc T0 F c P (some ⟨gp, 0, none⟩) k j y na nc ia ic wr) (fun s80 _ => 1 - (intOf s80).toNat)
                    case atStart => exact ⟨0, _, _, _, _, _, rfl, by omega, HENT.out⟩
                    case round =>
                      clear HENT
                      obtain ⟨j, y, na, nc, ia, ic, rfl, hjn, hR⟩ := hrel
                      by_cases hlt2 : j < 1
                      · have hjl : j < P.length := by rw [HPN.out]; exact hlt2
                        have j1 : (j : Int) < 1 := by omega
                        obtain ⟨p, hp⟩ : ∃ p, p = P[j] := ⟨_, rfl⟩
                        have hpl : p.length ≤ 1000000 := by rw [hp]; exact HPZ.out _ (List.getElem_mem hjl)
                        obtain ⟨PB, hPB⟩ : ∃ B, B = ByteArray.mk p.toArray := ⟨_, rfl⟩
                        have c0 := rd0 hR.pr hjl
                        rw [← hp, ← hPB] at c0
                        have HR := Lib.hid hR
                        have HNM := Lib.hid (fun w => rlplain_any p 8 w (by omega) (by omega))
                        rw [← hPB] at HNM
                        by_cases hok : plainB p 8 = true
                        · rw [hok] at HNM
                          have HY : Hid (part1 c P[j] y = some { y with text := p }) := Lib.hid (by rw [← hp, HCL.out]; unfold part1; rw [if_neg (by decide), if_neg (by decide), if_pos rfl, if_pos hok])
                          have c1 := hR.st.cell 3
                          simp only [stC, List.getElem?_toArray, List.getElem?_cons_succ, List.getElem?_cons_zero] at c1
                          have d2 := hR.st.froz 3
                          have hS3 := hR.st.txt p
                          rw [← hPB] at hS3
                          have HNX := Lib.hid (HR.out.next ((Mod.refl (FPs g na ia) _).setCell (p := ⟨g, 3, none⟩) (fun _ => .inl rfl) (.string PB)) hS3 (Nw.refl _ _) (Nw.refl _ _) hjl HY.out)
                          clear hok hp hR hPB hS3
                          go_wp2_with fail
                          refine (HNM.out _).mono ?_
                          rintro e W5 ⟨rfl, rfl⟩
                          go_wp2_with fail
                          go_roundw
                          case rel => exact ⟨j + 1, _, _, _, _, _, by go_num, by omega, HNX.out⟩
                          case measure => simp [intOf]; omega
                        · have hok' : plainB p 8 = false := by simpa using hok
                          rw [hok'] at HNM
                          have HY : Hid (part1 c P[j] y = none) := Lib.hid (by rw [← hp, HCL.out]; unfold part1; rw [if_neg (by decide), if_neg (by decide), if_pos rfl, hok']; rfl)
                          have e9 : Hid (R = StepP w none) := Lib.hid (by rw [HST.out, HR.out.stop hjl HY.out])
                          have hg2 := hR.rb
                          have hb2 := hR.m
                          clear hok hok' hp hPB hR
                          go_wp2_with fail
                          refine (HNM.out _).mono ?_
                          rintro e W5 ⟨rfl, rfl⟩
                          have HG2 := Lib.hid hg2
                          have HZR := Lib.hid (zRowQ hg2 hb2 (stC zSt none 0 none 0))
                          clear hg2 hb2
                          go_wp2_with (refine wpList_store_row rfl rfl 33 (.tmp 2) (.tmp 129) rfl w.heap.size rfl 33 _ (stC zSt none 0 none 0) rfl HG2.out rfl (rl_size _ _ _ _ _) stC_one ?_)
                          refine bodyPost_ret (v := .tuple #[.agg (stC zSt none 0 none 0), .bool false]) (results_cell_slotL Tryd.results17 _ _ w.heap.size 33 _ (0, 0) _ _ rfl rfl HZR.out.1 Tryd.underlying33 rfl (rl_size _ _ _ _ _)) rfl ?_
                          rw [e9.out]; exact stepP_none HZR.out.2.1
                      · obtain rfl : j = 1 := by omega
                        have HLV := Lib.hid (RiR.leave (nd := nd) (fs := fs) (by rw [HPN.out, ← HF.out]; exact hR) (by rw [HPN.out]; exact hpn))
                        clear hR
                        go_wp2_with fail
                        go_roundw
                        case rel => exact ⟨k + 1, _, _, _, _, _, by go_num, by omega, HLV.out⟩
                        case measure => simp [intOf]; omega
                  · have hcl : ¬ (c = 76 ∨ c = 77) := by rintro (h | h); exact h76 h; exact h77 h
                    have hco : (¬ (c = 78 ∨ c = 77)) ∧ (¬ (c = 73 ∨ c = 76)) ∧ ¬ c = 84 := ⟨by rintro (h | h); exact h78 h; exact h77 h, by rintro (h | h); exact h73 h; exact h76 h, h84⟩
                    clear h76 h77 h78 h73 h84
                    obtain ⟨P, hP⟩ : ∃ P : List (List UInt8), P = [f] := ⟨_, rfl⟩
                    have hcP : partsF c f = P := by rw [hP]; unfold partsF; rw [if_neg hcl]
                    have hP9 : P.length ≤ 1000001 := by rw [← hcP]; have := parts_len c f; omega
                    have HPZ : Hid (∀ p ∈ P, p.length ≤ 1000000) := Lib.hid (by rw [← hcP]; exact fun p hp => Nat.le_trans (parts_sz c f p hp) hfl)
                    obtain ⟨pn, hpn0⟩ : ∃ pn, pn = P.length := ⟨_, rfl⟩
                    have HPN := Lib.hid hpn0.symm
                    have hpn : pn ≤ 1000001 := by rw [hpn0]; exact hP9
                    obtain ⟨F, hF⟩ : ∃ F, F = takeAll (nd.drop (k + 1)) (fs.drop (k + 1)) := ⟨_, rfl⟩
                    have hEN : ∀ (pq : Option Addr) (W : World), Below wr.heap.size wr W → Rd encS W pq P → (∀ b, pq = some b → wr.heap.size ≤ b.block) → RiR w g L (some ⟨b, 0, none⟩) lc T0 F c P pq k 0 x na nc ia ic W := by
                                intro pq W e1 e2 e3
                                have := HR0.out.enter hlt hfk (pq := pq) e1 (by rw [← hcc, ← hf, hcP]; exact e2) e3
                                rw [← hcc, ← hf, hcP, ← hF] at this
                                exact this
                    have HEN := Lib.hid hEN
                    have HF := Lib.hid hF
                    obtain ⟨cn, hcn⟩ : ∃ cn, cn = c.toNat := ⟨_, rfl⟩
                    have hgD : ((D[k]'hkD).toNat : Int) = cn := by rw [hgD0, hcn]
                    have HCO : Hid ((¬ (c = 78 ∨ c = 77)) ∧ (¬ (c = 73 ∨ c = 76)) ∧ ¬ c = 84) := Lib.hid hco
                    have hnl : ∀ v : UInt8, c ≠ v → ((cn : Int) == (v.toNat : Int)) = false := fun v h => by rw [beq_eq_false_iff_ne, hcn]; intro e; exact h (UInt8.toNat_inj.1 (by omega))
                    have t1 : ((cn : Int) == 78) = false := hnl 78 (fun e => hco.1 (.inl e))
                    have t2 : ((cn : Int) == 77) = false := hnl 77 (fun e => hco.1 (.inr e))
                    have t3 : ((cn : Int) == 73) = false := hnl 73 (fun e => hco.2.1 (.inl e))
                    have t4 : ((cn : Int) == 76) = false := hnl 76 (fun e => hco.2.1 (.inr e))
                    have t5 : ((cn : Int) == 84) = false := hnl 84 hco.2.2
                    clear hnl hcn hco hcl
                    have HP := Lib.hid hP
                    have HFB := Lib.hid hFB
                    clear hP hcP hP9 hpn0 hF hEN hFB hFL hgD0
                    clear hcc hf
                    obtain ⟨gp, hgp⟩ : ∃ gp, gp = wr.heap.size := ⟨_, rfl⟩
                    have HENT := Lib.hid (HEN.out (some ⟨gp, 0, none⟩) (wr.alloc (.cells #[.string FB] 9)) ((Below.refl _ _).alloc (Nat.le_refl _) _) (by rw [HP.out, hgp, HFB.out]; exact Rd.made encS wr 9 [f] (by simp [maxLen])) (fun b e => by cases e; rw [hgp]; exact Nat.le_refl _))
                    obtain rfl : pn = 1 := by rw [← HPN.out, HP.out]; rfl
                    clear HEN
                    go_wp2_with fail
                    rw [← hgp]
                    clear hgp
                    go_loopw [80] (fun s80 wr => ∃ (j : Nat) (y : St) (na : Option Addr) (nc : Nat) (ia : Option Addr) (ic : Nat), s80 = .int .i64 j ∧ j ≤ 1 ∧ RiR w g L (some ⟨b, 0, none⟩) lc T0 F c P (some ⟨gp, 0, none⟩) k j y na nc ia ic wr) (fun s80 _ => 1 - (intOf s80).toNat)
                    case atStart => exact ⟨0, _, _, _, _, _, rfl, by omega, HENT.out⟩
                    case round =>
                      clear HENT
                      obtain ⟨j, y, na, nc, ia, ic, rfl, hjn, hR⟩ := hrel
                      by_cases hlt2 : j < 1
                      · have hjl : j < P.length := by rw [HPN.out]; exact hlt2
                        have j1 : (j : Int) < 1 := by omega
                        obtain ⟨p, hp⟩ : ∃ p, p = P[j] := ⟨_, rfl⟩
                        have hpl : p.length ≤ 1000000 := by rw [hp]; exact HPZ.out _ (List.getElem_mem hjl)
                        obtain ⟨PB, hPB⟩ : ∃ B, B = ByteArray.mk p.toArray := ⟨_, rfl⟩
                        have c0 := rd0 hR.pr hjl
                        rw [← hp, ← hPB] at c0
                        have HR := Lib.hid hR
                        have HNM := Lib.hid (fun w => rlbytes_any p w hpl)
                        rw [← hPB] at HNM
                        unfold hexV at HNM
                        have hpo : part1 c p y = (hexO p).map fun b => { y with text := b } := by unfold part1; rw [if_neg HCO.out.1, if_neg HCO.out.2.1, if_neg HCO.out.2.2]
                        cases hok : hexO p with
                        | some bv =>
                          rw [hok] at HNM hpo
                          simp only [Option.getD_some, Option.isSome_some] at HNM
                          have HY : Hid (part1 c P[j] y = some { y with text := bv }) := Lib.hid (by rw [← hp, hpo]; rfl)
                          clear hok hp hR hPB hpo
                          go_wp2_with fail
                          refine (HNM.out _).mono ?_
                          rintro e W5 ⟨rfl, hb5⟩
                          have hR5 := HR.out.below hb5
                          have c1 := hR5.st.cell 3
                          simp only [stC, List.getElem?_toArray, List.getElem?_cons_succ, List.getElem?_cons_zero] at c1
                          have d2 := hR5.st.froz 3
                          have HNX := Lib.hid (hR5.next ((Mod.refl (FPs g na ia) _).setCell (p := ⟨g, 3, none⟩) (fun _ => .inl rfl) (.string ⟨bv.toArray⟩)) (hR5.st.txt bv) (Nw.refl _ _) (Nw.refl _ _) hjl HY.out)
                          clear hb5 hR5
                          go_wp2_with fail
                          go_roundw
                          case rel => exact ⟨j + 1, _, _, _, _, _, by go_num, by omega, HNX.out⟩
                          case measure => simp [intOf]; omega
                        | none =>
                          rw [hok] at HNM hpo
                          simp only [Option.getD_none, Option.isSome_none] at HNM
                          have HY : Hid (part1 c P[j] y = none) := Lib.hid (by rw [← hp, hpo]; rfl)
                          have e9 : Hid (R = StepP w none) := Lib.hid (by rw [HST.out, HR.out.stop hjl HY.out])
                          clear hok hp hR hPB hpo
                          go_wp2_with fail
                          refine (HNM.out _).mono ?_
                          rintro e W5 ⟨rfl, hb5⟩
                          have hR5 := HR.out.below hb5
                          have hg2 := hR5.rb
                          have hb2 := hR5.m
                          clear hb5 hR5
                          have HG2 := Lib.hid hg2
                          have HZR := Lib.hid (zRowQ hg2 hb2 (stC zSt none 0 none 0))
                          clear hg2 hb2
                          go_wp2_with (refine wpList_store_row rfl rfl 33 (.tmp 2) (.tmp 94) rfl w.heap.size rfl 33 _ (stC zSt none 0 none 0) rfl HG2.out rfl (rl_size _ _ _ _ _) stC_one ?_)
                          refine bodyPost_ret (v := .tuple #[.agg (stC zSt none 0 none 0), .bool false]) (results_cell_slotL Tryd.results17 _ _ w.heap.size 33 _ (0, 0) _ _ rfl rfl HZR.out.1 Tryd.underlying33 rfl (rl_size _ _ _ _ _)) rfl ?_
                          rw [e9.out]; exact stepP_none HZR.out.2.1
                      · obtain rfl : j = 1 := by omega
                        have HLV := Lib.hid (RiR.leave (nd := nd) (fs := fs) (by rw [HPN.out, ← HF.out]; exact hR) (by rw [HPN.out]; exact hpn))
                        clear hR
                        go_wp2_with fail
                        go_roundw
                        case rel => exact ⟨k + 1, _, _, _, _, _, by go_num, by omega, HLV.out⟩
                        case measure => simp [intOf]; omega
        · obtain rfl : k = dn := by omega
          have e9 : Hid (R = StepP w (some x)) := Lib.hid (by rw [HST.out, hR.eq, HDN.out, List.drop_length]; rfl)
          have HR := Lib.hid hR
          have HGR := Lib.hid hR.st.blk
          have HRB := Lib.hid hR.rb
          have HZR := Lib.hid (zRowQ hR.rb hR.m (stC x na nc ia ic))
          clear hR
          go_wp2_with (first
            | (refine wpList_load_row rfl 33 (.tmp 7) rfl g rfl 33 _ (0, 0) _ HGR.out Tryd.underlying33 rfl (rl_size _ _ _ _ _) ?_)
            | (refine wpList_store_row rfl rfl 33 (.tmp 2) (.tmp 133) rfl w.heap.size rfl 33 _ (stC x na nc ia ic) rfl HRB.out rfl (rl_size _ _ _ _ _) stC_one ?_))
          refine bodyPost_ret (v := .tuple #[.agg (stC x na nc ia ic), .bool true]) (results_cell_slotL Tryd.results17 _ _ w.heap.size 33 _ (0, 0) _ _ rfl rfl HZR.out.1 Tryd.underlying33 rfl (rl_size _ _ _ _ _)) rfl ?_
          rw [e9.out]
          have hgg := HR.out.hg
          exact ⟨HZR.out.2.1, na, nc, ia, ic, rfl, HR.out.st.rn.kept HZR.out.2.2 (fun a e h => by have := HR.out.n1 a e; omega), HR.out.st.ri.kept HZR.out.2.2 (fun a e h => by have := HR.out.n2 a e; omega), (fun a e => (HR.out.st.an a e).1), fun a e => (HR.out.st.ai a e).1⟩
    · have e9 : Hid (R = StepP w none) := Lib.hid (by rw [hR, hst]; unfold stepW; rw [hnd]; simp only [if_neg hcnt])
      have q1 : IntKind.i64.wrap (1 + (dn : Int)) = 1 + dn := by rw [IntKind.wrap_i64]; omega
      have q2 : ((ln : Int) != 1 + (dn : Int)) = true := by rw [bne_iff_ne]; omega
      clear hR hst hnd hl1 hcnt hdn hD
      go_enter Tryd.func17, Tryd.ntmps17
      go_wp2_with fail
      refine (HSP.out _).mono ?_
      rintro r w1 ⟨hb1, lq, lc, rfl, hRl, hlq⟩
      have hgV : w1.heap[w.heap.size]? = some (.cells (stC zSt none 0 none 0) 33 (0, 0)) := (hb1.block _ (by simp)).trans (heap_alloc_new w _)
      have hbV : Below w.heap.size w w1 := ((Below.refl _ w).alloc (Nat.le_refl _) _).trans (hb1.mono (by simp))
      obtain ⟨b, rfl, hblt⟩ := shape_ne hRl (by rw [HLe.out]; simp)
      have c0 := rd0 hRl.rd (j := 0) (by rw [HLe.out]; simp)
      rw [HL0.out] at c0
      have hbb : w.heap.size < b := by have := hlq _ rfl; simp at this; omega
      have HRL := Lib.hid hRl
      have HGV := Lib.hid hgV
      have HBV := Lib.hid hbV
      have HBB := Lib.hid hbb
      have HBL := Lib.hid hblt
      clear hRl hgV hbV hbb hblt hlq hb1
      go_wp2_with fail
      refine (HNEED.out _).mono ?_
      rintro r w2 ⟨rfl, hb2⟩
      go_upto_region 4 with fail
      have hg2 := (hb2.block _ (Array.getElem?_eq_some_iff.1 HGV.out).1).trans HGV.out
      have hb3 := HBV.out.trans (hb2.mono HBV.out.size)
      clear hb2 c0
      have hb2 := hb3
      clear hb3
      have HG2 := Lib.hid hg2
      have HZR := Lib.hid (zRowQ hg2 hb2 (stC zSt none 0 none 0))
      clear hg2 hb2
      go_wp2_with (refine wpList_store_row rfl rfl 33 (.tmp 2) (.tmp 34) rfl w.heap.size rfl 33 _ (stC zSt none 0 none 0) rfl HG2.out rfl (rl_size _ _ _ _ _) stC_one ?_)
      refine bodyPost_ret (v := .tuple #[.agg (stC zSt none 0 none 0), .bool false]) (results_cell_slotL Tryd.results17 _ _ w.heap.size 33 _ (0, 0) _ _ rfl rfl HZR.out.1 Tryd.underlying33 rfl (rl_size _ _ _ _ _)) rfl ?_
      rw [e9.out]; exact stepP_none HZR.out.2.1
end Go.Proofs.YtgkhnmohjidbmaaDoor

namespace Go.Proofs.YtgkhnmohjidbmaaDoor
open Go.RowKit Go.Shelf

theorem lninfo_rl : (Tryd.prog.info? 33).map (fun i => (i.zero, i.size, i.bytes)) = some (some (.agg (stC zSt none 0 none 0)), 4, 80) := by kernel_rfl
theorem wpList_gen {P : Program} {ops : Array Oper} {rest : List Oper} {a : Act} {w : World} {Q : Exit → Act → World → Prop} (R : World → Prop) (hR : R w) (h : ∀ w', R w' → wpList P ops Q rest a w') : wpList P ops Q rest a w := h w hR
theorem wpList_exec {P : Program} {ops : Array Oper} {rest : List Oper} {o : Oper} {a : Act} {w w' : World} {Q : Exit → Act → World → Prop} {v : Value} (hgd : o.guard = none) (hr : (execOp a.eval o).run P w = .ok (.value v) w') (h : wpList P ops Q rest (a.put o.dst v) w') : wpList P ops Q (o :: rest) a w := by
  refine wpList_plain hgd fun K hK => ?_
  unfold Oper.wp
  rw [hr]
  exact hK _ _ h
/-- What the reference's Parse answers. -/
def ParQ (w : World) (p : List St × Nat × Bool) (r : Ending) (w' : World) : Prop :=
  Below w.heap.size w w' ∧ ∃ (q : Option Addr) (c : Nat) (V : List Sv), r = .returned (.tuple #[.slice q V.length c, .int .i64 p.2.1, .bool p.2.2]) ∧ V.map Sv.st = p.1 ∧ Rw encV 33 w' q c V ∧ (∀ a, q = some a → w.heap.size ≤ a.block) ∧ ∀ v ∈ V, okV w.heap.size w' v
/-- While lines are read. -/
structure PqR (w : World) (P : List (List UInt8)) (b lc : Nat) (T : List St × Nat × Bool) (i : Nat) (q : Option Addr) (c : Nat) (V : List Sv) (wr : World) : Prop where
  rw : Rw encV 33 wr q c V
  nw : ∀ a, q = some a → w.heap.size ≤ a.block
  rp : Rw encS 9 wr (some ⟨b, 0, none⟩) lc P
  ok : ∀ v ∈ V, okV w.heap.size wr v
  m : Below w.heap.size w wr
  eq : T = parG (P.drop i) i (V.map Sv.st)
  ln : V.length ≤ 300
section
variable {w : World} {P : List (List UInt8)} {b lc : Nat} {T : List St × Nat × Bool} {i : Nat} {q : Option Addr} {c : Nat} {V : List Sv} {wr : World}
theorem PqR.old (h : PqR w P b lc T i q c V wr) {W : World} (hb : Below wr.heap.size wr W) : PqR w P b lc T i q c V W :=
  ⟨h.rw.old hb, h.nw, h.rp.old hb, fun v hv => (h.ok v hv).old hb, h.m.trans (hb.mono h.m.size), h.eq, h.ln⟩
theorem PqR.push (h : PqR w P b lc T i q c V wr) {sv : Sv} {q2 : Option Addr} {c2 : Nat} {W6 : World} (hsv : okV w.heap.size wr sv) (hP : PushR encV 33 wr q (V ++ [sv]) q2 c2 W6) (he : T = parG (P.drop (i + 1)) (i + 1) ((V ++ [sv]).map Sv.st)) (hl : V.length < 300) :
    PqR w P b lc T (i + 1) q2 c2 (V ++ [sv]) W6 := by
  have k : ∀ {v : Sv}, okV w.heap.size wr v → okV w.heap.size W6 v := fun {v} hv => hv.kept hP.2.1 (fun a e => by rintro ⟨a2, e2, e3⟩; exact Rw.ne hv.rn h.rw (by decide) a a2 e e2 e3) (fun a e => by rintro ⟨a2, e2, e3⟩; exact Rw.ne hv.ri h.rw (by decide) a a2 e e2 e3)
  refine ⟨hP.1, fun a e => ?_, h.rp.kept hP.2.1 (fun a e => by rintro ⟨a2, e2, e3⟩; exact Rw.ne h.rp h.rw (by decide) a a2 e e2 e3), fun v hv => ?_, h.m.trans (hP.2.1.to_below h.m.size (by rintro j hj ⟨a, e, rfl⟩; have := h.nw a e; omega)), he, by rw [List.length_append, List.length_singleton]; omega⟩
  · rcases hP.2.2 a e with h1 | h1
    · exact h.nw a h1
    · exact Nat.le_trans h.m.size h1
  · rw [List.mem_append, List.mem_singleton] at hv
    rcases hv with hv | rfl
    · exact k (h.ok v hv)
    · exact k hsv
end
set_option maxRecDepth 100000 in
set_option maxHeartbeats 8000000 in
theorem rlparse_any (s : List UInt8) (w : World) (hl : s.length ≤ 1000000) :
    Calls Tryd.prog 11 #[.string ⟨s.toArray⟩] w (ParQ w (parM s)) := by
  obtain ⟨Q, hQ⟩ : ∃ Q, Q = ParQ w (parM s) := ⟨_, rfl⟩
  rw [← hQ]
  obtain ⟨SB, hSB⟩ : ∃ B, B = ByteArray.mk s.toArray := ⟨_, rfl⟩
  have HSP := Lib.hid (fun w => rlsplit_any s 10 w hl)
  unfold SplP at HSP
  obtain ⟨P, hP⟩ : ∃ P, P = spl 10 s := ⟨_, rfl⟩
  have hPM : parM s = parG P 0 [] := by rw [hP]; rfl
  have hPs : Hid (∀ p ∈ P, p.length ≤ 1000000) := Lib.hid (by rw [hP]; intro p hp; have := spl_sizes 10 s p hp; omega)
  have hP0 : 0 < P.length := by rw [hP]; exact List.length_pos_iff.2 (splA_ne _ _ _)
  obtain ⟨n, hn⟩ : ∃ n, n = P.length := ⟨_, rfl⟩
  have hn9 : n ≤ 1000001 := by rw [hn, hP]; have := spl_len_le 10 s; omega
  rw [← hP, ← hn, ← hSB] at HSP
  rw [← hSB]
  obtain ⟨T, hT⟩ : ∃ T, T = parM s := ⟨_, rfl⟩
  have HQ : Hid (Q = ParQ w T) := Lib.hid (by rw [hQ, hT])
  have HT : Hid (T = parG P 0 []) := Lib.hid (by rw [hT, hPM])
  have HN := Lib.hid hn
  have HP0 := Lib.hid hP0
  clear hQ hSB hP hPM hn hT hP0
  go_enter Tryd.func11, Tryd.ntmps11
  go_wp2_with fail
  obtain ⟨W1, hW1⟩ : ∃ W1, W1 = w.alloc (.cells #[] 33) := ⟨_, rfl⟩
  have h0 : AccR encV 33 w 0 [] (some ⟨w.heap.size, 0, none⟩) 0 W1 := ⟨by rw [hW1]; exact Rw.made (E := encV) 33 w [] (by simp [maxLen]), rfl, (fun a e => by cases e; exact Nat.le_refl _), by rw [hW1]; exact (Below.refl _ _).alloc (Nat.le_refl _) _⟩
  rw [← hW1]
  refine (HSP.out _).mono ?_
  rintro r w2 ⟨hb2, lq, lc, rfl, hRl, hlq⟩
  obtain ⟨b, rfl, hbl⟩ := shape_ne hRl HP0.out
  have h1 := h0.below hb2
  have hI : PqR w P b lc T 0 (some ⟨w.heap.size, 0, none⟩) 0 [] w2 := ⟨h1.s, h1.new, hRl, (fun v hv => by cases hv), h1.m, HT.out, by simp⟩
  have HI := Lib.hid hI
  clear hW1 h0 h1 hb2 hRl hlq hbl hI HSP HT
  go_wp2_with fail
  go_loopw [5, 14] (fun s5 s14 wr => ∃ (i m : Nat) (q : Option Addr) (c : Nat) (V : List Sv), i ≤ n ∧ s14 = .int .i64 i ∧ s5 = .slice q m c ∧ Hid (m = V.length) ∧ PqR w P b lc T i q c V wr) (fun _ s14 _ => n - (intOf s14).toNat)
  case atStart => exact ⟨0, 0, _, _, [], by omega, rfl, rfl, Lib.hid rfl, HI.out⟩
  case round =>
    clear HI
    obtain ⟨i, m, q, c, V, hin, rfl, rfl, HM, hR⟩ := hrel
    have hm300 : m ≤ 300 := by rw [HM.out]; exact hR.ln
    by_cases hlt : i < n
    · have hil : i < P.length := by rw [← HN.out]; exact hlt
      have i1 : (i : Int) < n := by omega
      have i0 : (0 : Int) ≤ i := by omega
      have i2 : IntKind.i64.wrap ((i : Int) + 1) = (i : Int) + 1 := by rw [IntKind.wrap_i64]; omega
      have c0 := rd0 hR.rp.rd hil
      have hdr : P.drop i = P[i] :: P.drop (i + 1) := List.drop_eq_getElem_cons hil
      have hps := hPs.out _ (List.getElem_mem hil)
      have HEQ : Hid (T = parG (P[i] :: P.drop (i + 1)) i (V.map Sv.st)) := Lib.hid (by rw [hR.eq, hdr])
      generalize P[i] = p at c0 hps HEQ
      obtain ⟨PB, hPB⟩ : ∃ B, B = ByteArray.mk p.toArray := ⟨_, rfl⟩
      have hPL : PB.toList = p := by rw [hPB, ByteArray.toList_mk]
      rw [← hPB] at c0
      have HR := Lib.hid hR
      by_cases hm : mute p = true
      · have HNX : Hid (T = parG (P.drop (i + 1)) (i + 1) (V.map Sv.st)) := Lib.hid (by rw [HEQ.out, parG, if_pos hm])
        by_cases hne : p = []
        · have e0 : (PB.toList == []) = true := by rw [hPL, hne]; rfl
          clear hPB hPL hm hne hdr hR
          go_wp2_with fail
          go_roundw
          case rel => exact ⟨i + 1, m, q, c, V, by omega, by go_num, rfl, HM, ⟨HR.out.rw, HR.out.nw, HR.out.rp, HR.out.ok, HR.out.m, HNX.out, HR.out.ln⟩⟩
          case measure => simp [intOf]; omega
        · have e0 : (PB.toList == []) = false := by rw [hPL, beq_eq_false_iff_ne]; exact hne
          have hl0 : 0 < PB.size := by rw [hPB]; exact List.length_pos_iff.2 hne
          have hg0 : ((PB[0]'hl0).toNat : Int) = 35 := by
            subst hPB
            cases p with
            | nil => exact absurd rfl hne
            | cons a l => unfold mute at hm; rw [beq_iff_eq] at hm; subst hm; rfl
          clear hPB hPL hm hne hdr hR
          go_wp2_with fail
          go_roundw
          case rel => exact ⟨i + 1, m, q, c, V, by omega, by go_num, rfl, HM, ⟨HR.out.rw, HR.out.nw, HR.out.rp, HR.out.ok, HR.out.m, HNX.out, HR.out.ln⟩⟩
          case measure => simp [intOf]; omega
      · have hne : p ≠ [] := fun e => hm (by rw [e]; rfl)
        have e0 : (PB.toList == []) = false := by rw [hPL, beq_eq_false_iff_ne]; exact hne
        have hl0 : 0 < PB.size := by rw [hPB]; exact List.length_pos_iff.2 hne
        obtain ⟨v, hv⟩ : ∃ v, v = (p[0]'(List.length_pos_iff.2 hne)).toNat := ⟨_, rfl⟩
        have hg0 : ((PB[0]'hl0).toNat : Int) = v := by subst hPB; rw [hv]; rfl
        have hv35 : ((v : Int) == 35) = false := by
          rw [beq_eq_false_iff_ne]; intro e
          refine hm ?_
          cases p with
          | nil => exact absurd rfl hne
          | cons a l => unfold mute; rw [beq_iff_eq]; exact UInt8.toNat_inj.1 (by show a.toNat = 35; have : v = a.toNat := hv; omega)
        have HO := Lib.hid (fun w => rlone_any p w hps)
        rw [← hPB] at HO
        obtain ⟨res, hres⟩ : ∃ res, res = stepM p := ⟨_, rfl⟩
        rw [← hres] at HO
        unfold StepP at HO
        have HP1 : Hid (res = none → T = ([], i + 1, false)) := Lib.hid (fun e => by rw [HEQ.out, parG, if_neg hm, ← hres, e])
        have HP2 : Hid (∀ x, res = some x → T = if (V.map Sv.st).length = 300 then ([], i + 1, false) else parG (P.drop (i + 1)) (i + 1) (V.map Sv.st ++ [x])) := Lib.hid (fun x e => by rw [HEQ.out, parG, if_neg hm, ← hres, e])
        clear hPB hPL hm hne hdr hR hv hres HEQ
        go_wp2_with fail
        refine (HO.out _).mono ?_
        rintro r W3 ⟨hb3, na, nc, ia, ic, rfl, hrn, hri, hn1, hn2⟩
        have HR3 := Lib.hid (HR.out.old hb3)
        obtain ⟨sv, hsv⟩ : ∃ sv : Sv, sv = ⟨res.getD zSt, na, nc, ia, ic⟩ := ⟨_, rfl⟩
        have hok : okV w.heap.size W3 sv := by
          have hz := HR.out.m.size
          rw [hsv]; exact ⟨hrn, hri, (fun a e => by have := hn1 a e; omega), fun a e => by have := hn2 a e; omega⟩
        have HOK := Lib.hid hok
        obtain ⟨C, hC⟩ : ∃ C, C = stC (res.getD zSt) na nc ia ic := ⟨_, rfl⟩
        have HC1 : Hid (∀ v ∈ C.toList, v.oneCell' = true) := Lib.hid (by rw [hC]; exact stC_one)
        have HCS : Hid ((Tryd.prog.info? 33).map (·.size) = some C.size) := Lib.hid (by rw [hC]; exact rl_size _ _ _ _ _)
        have HCZ : Hid (4 = C.size) := Lib.hid (by rw [hC]; rfl)
        have HSV : Hid ((Value.agg C).cells = (encV.f sv).toArray) := Lib.hid (by rw [hC, hsv]; rfl)
        have HSS : Hid (sv.st = res.getD zSt) := Lib.hid (by rw [hsv])
        rw [← hC]
        clear hC hsv hok hrn hri hn1 hn2 hb3 HO
        cases res with
        | none =>
          simp only [Option.isSome_none]
          have HTT := Lib.hid (HP1.out rfl)
          go_wp2_with (first
            | (refine wpList_store_row rfl rfl 33 (.tmp 8) (.tmp 29) rfl W3.heap.size rfl 33 _ C rfl (heap_alloc_new W3 _) HCZ.out HCS.out HC1.out ?_
               refine wpList_gen (fun W4 => W4.heap[W3.heap.size]? = some (.cells C 33 (0, 0)) ∧ Below W3.heap.size W3 W4) (lnew_row W3 _ _ C 33 rfl) (fun W4 hW4 => ?_)
               obtain ⟨hg4, hb4⟩ := hW4
               have HR4 := Lib.hid (HR3.out.old hb4)
               clear hg4 hb4))
          go_ret3
          rw [HQ.out, HTT.out]
          exact ⟨HR4.out.m, none, 0, [], rfl, rfl, Rw.empty _ _, (fun a e => by cases e), fun v hv => by cases hv⟩
        | some x =>
          simp only [Option.isSome_some]
          by_cases h300 : m = 300
          · have HTT : Hid (T = ([], i + 1, false)) := Lib.hid (by rw [HP2.out x rfl, if_pos (by rw [List.length_map, ← HM.out]; exact h300)])
            have q3 : (299 : Int) < m := by omega
            clear h300
            go_wp2_with (first
              | (refine wpList_store_row rfl rfl 33 (.tmp 8) (.tmp 29) rfl W3.heap.size rfl 33 _ C rfl (heap_alloc_new W3 _) HCZ.out HCS.out HC1.out ?_
                 refine wpList_gen (fun W4 => W4.heap[W3.heap.size]? = some (.cells C 33 (0, 0)) ∧ Below W3.heap.size W3 W4) (lnew_row W3 _ _ C 33 rfl) (fun W4 hW4 => ?_)
                 obtain ⟨hg4, hb4⟩ := hW4
                 have HR4 := Lib.hid (HR3.out.old hb4)
                 clear hg4 hb4))
            go_ret3
            rw [HQ.out, HTT.out]
            exact ⟨HR4.out.m, none, 0, [], rfl, rfl, Rw.empty _ _, (fun a e => by cases e), fun v hv => by cases hv⟩
          · have q3 : ¬ (299 : Int) < m := by omega
            have HE : Hid (T = parG (P.drop (i + 1)) (i + 1) ((V ++ [sv]).map Sv.st)) := Lib.hid (by
              rw [HP2.out x rfl, if_neg (by rw [List.length_map, ← HM.out]; exact h300), List.map_append]
              simp only [List.map_cons, List.map_nil, HSS.out, Option.getD_some])
            have hm299 : m < 300 := by omega
            clear h300
            go_wp2_with (first
              | (refine wpList_store_row rfl rfl 33 (.tmp 8) (.tmp 29) rfl W3.heap.size rfl 33 _ C rfl (heap_alloc_new W3 _) HCZ.out HCS.out HC1.out ?_
                 refine wpList_gen (fun W4 => W4.heap[W3.heap.size]? = some (.cells C 33 (0, 0)) ∧ Below W3.heap.size W3 W4) (lnew_row W3 _ _ C 33 rfl) (fun W4 hW4 => ?_)
                 obtain ⟨hg4, hb4⟩ := hW4
                 have HR4 := Lib.hid (HR3.out.old hb4)
                 have HOK4 := Lib.hid (HOK.out.old hb4)
                 have HG4 := Lib.hid hg4
                 clear hg4 hb4)
              | (refine wpList_load_row rfl 33 (.tmp 8) rfl W3.heap.size rfl 33 _ (0, 0) _ HG4.out Tryd.underlying33 rfl HCS.out ?_)
              | (refine wpList_exec rfl (build_one encV 27 33 _ 80 Tryd.underlying27 lninfo_rl (by decide) (.tmp 41) rfl sv _ HSV.out rfl) ?_)
              | (at_builtin
                 refine wpList_pushR encV rfl _ _ 27 33 (.agg (stC zSt none 0 none 0)) 80 rfl Tryd.underlying27 lninfo_rl rfl (by decide) q c m V HM.out.symm rfl (HR4.out.rw.old ((Below.refl _ W4).alloc (Nat.le_refl _) _)) (some ⟨W4.heap.size, 0, none⟩) 1 1 [sv] rfl rfl (by have := Rd.made encV W4 33 [sv] (by simp [maxLen]); simpa [Enc.all] using this) (by omega) ?_
                 intro q2 c2 W6 hP
                 have HR6 := Lib.hid ((HR4.out.old ((Below.refl _ W4).alloc (Nat.le_refl _) _)).push (HOK4.out.old ((Below.refl _ W4).alloc (Nat.le_refl _) _)) hP HE.out (by rw [← HM.out]; exact hm299))
                 clear hP))
            go_roundw
            case rel => exact ⟨i + 1, m + 1, q2, c2, V ++ [sv], by omega, by go_num, rfl, Lib.hid (by rw [List.length_append, ← HM.out]; rfl), HR6.out⟩
            case measure => simp [intOf]; omega
    · obtain rfl : i = n := by omega
      have HR := Lib.hid hR
      have HTT : Hid (T = (V.map Sv.st, 0, true)) := Lib.hid (by rw [hR.eq, HN.out, List.drop_length]; rfl)
      clear hR
      go_wp2_with fail
      go_ret3
      rw [HQ.out, HTT.out]
      exact ⟨HR.out.m, q, c, V, by rw [← HM.out]; rfl, rfl, HR.out.rw, HR.out.nw, HR.out.ok⟩
end Go.Proofs.YtgkhnmohjidbmaaDoor

namespace Go.Proofs.YtgkhnmohjidbmaaDoor
open Go.RowKit Go.Shelf

set_option maxRecDepth 100000 in
set_option maxHeartbeats 8000000 in
theorem lsame_any (x : St) (na : Option Addr) (nc : Nat) (ia : Option Addr) (ic : Nat) (ma : Option Addr) (mc : Nat) (ja : Option Addr) (jc : Nat) (w : World)
    (hn : Rw encS 9 w na nc x.names) (hi : Rw encNt 3 w ia ic x.nums) (hm : Rw encS 9 w ma mc x.names) (hj : Rw encNt 3 w ja jc x.nums) (hx1 : x.names.length ≤ 9223372036854775807) (hx2 : x.nums.length ≤ 9223372036854775807) :
    Calls Tryd.prog 12 #[.agg (stC x na nc ia ic), .agg (stC x ma mc ja jc)] w fun e w' => e = .returned (.bool true) ∧ Below w.heap.size w w' := by
  obtain ⟨W2, hW2⟩ : ∃ W2, W2 = (w.alloc (.cells (stC x na nc ia ic) 35)).alloc (.cells (stC x ma mc ja jc) 33) := ⟨_, rfl⟩
  have hB : Below w.heap.size w W2 := by rw [hW2]; exact ((Below.refl _ _).alloc (Nat.le_refl _) _).alloc (by simp) _
  have hA1 : W2.heap[w.heap.size]? = some (.cells (stC x na nc ia ic) 35 (0, 0)) := by rw [hW2]; exact (Below.heap_alloc _ _ _ (by simp)).trans (heap_alloc_new w _)
  have hA2 : W2.heap[w.heap.size + 1]? = some (.cells (stC x ma mc ja jc) 33 (0, 0)) := by
    have := heap_alloc_new (w.alloc (.cells (stC x na nc ia ic) 35)) (.cells (stC x ma mc ja jc) 33)
    rw [World.size_alloc] at this
    rw [hW2]; exact this
  have a0 := cell_of_row W2 w.heap.size 0 _ _ _ hA1
  have a1 := cell_of_row W2 w.heap.size 1 _ _ _ hA1
  have a2 := cell_of_row W2 w.heap.size 2 _ _ _ hA1
  have a3 := cell_of_row W2 w.heap.size 3 _ _ _ hA1
  have b0 := cell_of_row W2 (w.heap.size + 1) 0 _ _ _ hA2
  have b1 := cell_of_row W2 (w.heap.size + 1) 1 _ _ _ hA2
  have b2 := cell_of_row W2 (w.heap.size + 1) 2 _ _ _ hA2
  have b3 := cell_of_row W2 (w.heap.size + 1) 3 _ _ _ hA2
  simp only [stC, List.getElem?_toArray, List.getElem?_cons_succ, List.getElem?_cons_zero] at a0 a1 a2 a3 b0 b1 b2 b3
  have HN := Lib.hid (hn.old hB)
  have HI := Lib.hid (hi.old hB)
  have HM := Lib.hid (hm.old hB)
  have HJ := Lib.hid (hj.old hB)
  have HB := Lib.hid hB
  have HW2 := Lib.hid hW2
  obtain ⟨L, hL⟩ : ∃ L, L = x.names := ⟨_, rfl⟩
  obtain ⟨M, hM⟩ : ∃ M, M = x.nums := ⟨_, rfl⟩
  obtain ⟨n, hnl⟩ : ∃ n, n = L.length := ⟨_, rfl⟩
  obtain ⟨m, hml⟩ : ∃ m, m = M.length := ⟨_, rfl⟩
  obtain ⟨A, hA⟩ : ∃ A, A = ByteArray.mk x.word.toArray := ⟨_, rfl⟩
  obtain ⟨C, hC⟩ : ∃ A, A = ByteArray.mk x.text.toArray := ⟨_, rfl⟩
  rw [← hL] at hx1 HN HM a1 b1
  rw [← hM] at hx2 HI HJ a2 b2
  rw [← hnl] at hx1 a1 b1
  rw [← hml] at hx2 a2 b2
  rw [← hA] at a0 b0
  rw [← hC] at a3 b3
  have HNL := Lib.hid hnl
  have HML := Lib.hid hml
  clear hn hi hm hj hB hA1 hA2 hW2 hL hM hnl hml hA hC
  go_enter Tryd.func12, Tryd.ntmps12
  go_upto_region 1 with fail
  rw [← HW2.out]
  go_wp2_with fail
  go_loopw [42] (fun s42 wr => ∃ i : Nat, i ≤ n ∧ s42 = .int .i64 i ∧ wr = W2) (fun s42 _ => n - (intOf s42).toNat)
  case atStart => exact ⟨0, by omega, rfl, rfl⟩
  case round =>
    obtain ⟨i, hin, rfl, rfl⟩ := hrel
    by_cases hlt : i < n
    · have hil : i < L.length := by rw [← HNL.out]; exact hlt
      obtain ⟨g1, rfl, _⟩ := shape_ne HN.out (by omega)
      obtain ⟨g2, rfl, _⟩ := shape_ne HM.out (by omega)
      have c1 := rd0 HN.out.rd hil
      have c2 := rd0 HM.out.rd hil
      generalize L[i] = p at c1 c2
      obtain ⟨PB, hPB⟩ : ∃ B, B = ByteArray.mk p.toArray := ⟨_, rfl⟩
      rw [← hPB] at c1 c2
      have i0 : (0 : Int) ≤ i := by omega
      have i1 : (i : Int) < n := by omega
      have i2 : IntKind.i64.wrap ((i : Int) + 1) = (i : Int) + 1 := by rw [IntKind.wrap_i64]; omega
      clear hPB hil
      go_wp2_with fail
      go_roundw
      case rel => exact ⟨i + 1, by omega, by go_num, trivial⟩
      case measure => simp [intOf]; omega
    · obtain rfl : i = n := by omega
      go_wp2_with fail
      go_loopw [58] (fun s58 wr2 => ∃ i : Nat, i ≤ m ∧ s58 = .int .i64 i ∧ wr2 = wr) (fun s58 _ => m - (intOf s58).toNat)
      case atStart => exact ⟨0, by omega, rfl, rfl⟩
      case round =>
        obtain ⟨j, hjm, rfl, rfl⟩ := hrel
        by_cases hlt2 : j < m
        · have hjl : j < M.length := by rw [← HML.out]; exact hlt2
          obtain ⟨g1, rfl, _⟩ := shape_ne HI.out (by omega)
          obtain ⟨g2, rfl, _⟩ := shape_ne HJ.out (by omega)
          have c1 : wr.cell? ⟨g1, j, none⟩ = some (.int .i64 (M[j] : Int)) := by
            obtain ⟨bs, off, e, _, hc⟩ := HI.out.rd j hjl
            cases e
            have := hc 0 _ rfl; simpa [encNt] using this
          have c2 : wr.cell? ⟨g2, j, none⟩ = some (.int .i64 (M[j] : Int)) := by
            obtain ⟨bs, off, e, _, hc⟩ := HJ.out.rd j hjl
            cases e
            have := hc 0 _ rfl; simpa [encNt] using this
          generalize M[j] = p at c1 c2
          have i0 : (0 : Int) ≤ j := by omega
          have i1 : (j : Int) < m := by omega
          have i2 : IntKind.i64.wrap ((j : Int) + 1) = (j : Int) + 1 := by rw [IntKind.wrap_i64]; omega
          clear hjl
          go_wp2_with fail
          go_roundw
          case rel => exact ⟨j + 1, by omega, by go_num, trivial⟩
          case measure => simp [intOf]; omega
        · obtain rfl : j = m := by omega
          go_wp2_with fail
          go_ret
          exact ⟨rfl, HB.out⟩
end Go.Proofs.YtgkhnmohjidbmaaDoor
