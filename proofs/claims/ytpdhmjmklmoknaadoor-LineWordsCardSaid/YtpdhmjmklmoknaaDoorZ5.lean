/- Texts 5: what the laws lean on. -/
import Derived.Test.YtpdhmjmklmoknaaDoorZ4
import Derived.Test.YtpdhmjmklmoknaaDoorZ2
import Derived.Test.YtpdhmjmklmoknaaDoorZ3
import Derived.Deep.MidRow
import Derived.Lib.ItoaMem
import Derived.Lib.Join
import Derived.BigQuiet
set_option linter.unusedVariables false
set_option linter.unusedSimpArgs false
namespace Go.Proofs.YtpdhmjmklmoknaaDoor
open Go.RowKit Go.Shelf

theorem RiR.stop {w : World} {g : Nat} {L : List (List UInt8)} {lq : Option Addr} {lc : Nat} {T0 : Option St} {F : St → Option St} {c : UInt8} {P : List (List UInt8)} {pq : Option Addr} {k j : Nat} {x : St} {na : Option Addr} {nc : Nat} {ia : Option Addr} {ic : Nat} {wr : World} (h : RiR w g L lq lc T0 F c P pq k j x na nc ia ic wr) (hj : j < P.length) (hy : part1 c P[j] x = none) : T0 = none := by
  rw [h.eq, List.drop_eq_getElem_cons hj, partsL, hy]; rfl
theorem rd0 {w : World} {gp : Nat} {P : List (List UInt8)} {j : Nat} (h : Rd encS w (some ⟨gp, 0, none⟩) P) (hj : j < P.length) : w.cell? ⟨gp, j, none⟩ = some (.string ⟨P[j].toArray⟩) := by
  obtain ⟨bs, off, e, _, hc⟩ := h.str j hj
  cases e
  rw [Nat.zero_add] at hc
  exact hc
set_option maxRecDepth 1000000 in
set_option maxHeartbeats 32000000 in
theorem rlone_any (s : List UInt8) (w : World) (hl : s.length ≤ 1000000) :
    Calls Tryd.prog 17 #[.string ⟨s.toArray⟩] w (StepP w (stepM s)) := by
  obtain ⟨R, hR⟩ : ∃ R, R = StepP w (stepM s) := ⟨_, rfl⟩
  rw [← hR]
  have hne : spl 32 s ≠ [] := splA_ne _ _ _
  obtain ⟨L, hL⟩ : ∃ L, L = spl 32 s := ⟨_, rfl⟩
  rw [← hL] at hne
  obtain ⟨wd, hwd⟩ : ∃ wd, wd = L.headD [] := ⟨_, rfl⟩
  obtain ⟨fs, hfs⟩ : ∃ fs, fs = L.tail := ⟨_, rfl⟩
  have hLe : L = wd :: fs := by
    cases hh : L with
    | nil => exact absurd hh hne
    | cons a l => rw [hwd, hfs, hh]; rfl
  have hst : stepM s = stepW wd fs := by rw [hwd, hfs, hL]; rfl
  have HSP := Lib.hid (fun w => rlsplit_any s 32 w hl)
  unfold SplP at HSP
  rw [← hL] at HSP
  have HNEED := Lib.hid (fun w => rlneeds_any wd w)
  obtain ⟨ln, hln⟩ : ∃ ln, ln = L.length := ⟨_, rfl⟩
  rw [← hln] at HSP
  have hl1 : ln = fs.length + 1 := by rw [hln, hLe]; rfl
  have hsz : Hid (∀ p ∈ L, p.length ≤ 1000000) := Lib.hid (by rw [hL]; intro p hp; have := spl_sizes 32 s p hp; omega)
  have hz : ∀ w, (zeroValue 33).run Tryd.prog w = .ok (.agg (stC zSt none 0 none 0)) w := fun w => by kernel_rfl
  obtain ⟨SB, hSB⟩ : ∃ B, B = ByteArray.mk s.toArray := ⟨_, rfl⟩
  rw [← hSB] at HSP ⊢
  have HLe := Lib.hid hLe
  have HL0 : Hid (∀ h : 0 < L.length, L[0] = wd) := Lib.hid (by subst hLe; intro h; rfl)
  have HLk : Hid (∀ k (h : k < fs.length) (h2 : k + 1 < L.length), L[k + 1] = fs[k]) := Lib.hid (by subst hLe; intro k h h2; rfl)
  have hl0 : (0 : Int) < (ln : Int) := by omega
  have hln9 : ln ≤ 1000001 := by rw [hln, hL]; have := spl_len_le 32 s; omega
  have HFS : Hid (∀ k (h : k < fs.length), fs[k].length ≤ 1000000) := Lib.hid (fun k h => hsz.out _ (by rw [hLe]; exact List.mem_cons_of_mem _ (List.getElem_mem h)))
  clear hSB hL hwd hfs hLe hne hln hsz
  cases hnd : needP wd with
  | none =>
    rw [hnd] at HNEED
    simp only [Option.getD_none, Option.isSome_none] at HNEED
    have e9 : Hid (R = StepP w none) := Lib.hid (by rw [hR, hst]; unfold stepW; rw [hnd])
    clear hR hst hnd hl1
    go_enter Tryd.func17, Tryd.ntmps17
    go_wp2_with fail
    refine (HSP.out _).mono ?_
    rintro r w1 ⟨hb1, lq, lc, rfl, hRl, hlq⟩
    have hgV : w1.heap[w.heap.size]? = some (.cells (stC zSt none 0 none 0) 33 (0, 0)) := (hb1.block _ (by simp)).trans (heap_alloc_new w _)
    have hbV : Below w.heap.size w w1 := ((Below.refl _ w).alloc (Nat.le_refl _) _).trans (hb1.mono (by simp))
    obtain ⟨b, rfl, hblt⟩ := shape_ne hRl (by rw [HLe.out]; simp)
    have c0 := rd0 hRl.rd (j := 0) (by rw [HLe.out]; simp)
    rw [HL0.out] at c0
    have hbb : w.heap.size < b := by have := hlq _ rfl; simp at this; omega
    have HRL := Lib.hid hRl
    have HGV := Lib.hid hgV
    have HBV := Lib.hid hbV
    have HBB := Lib.hid hbb
    have HBL := Lib.hid hblt
    clear hRl hgV hbV hbb hblt hlq hb1
    go_wp2_with fail
    refine (HNEED.out _).mono ?_
    rintro r w2 ⟨rfl, hb2⟩
    go_upto_region 4 with fail
    have hg2 := (hb2.block _ (Array.getElem?_eq_some_iff.1 HGV.out).1).trans HGV.out
    have hb3 := HBV.out.trans (hb2.mono HBV.out.size)
    clear hb2 c0
    have hb2 := hb3
    clear hb3
    have HG2 := Lib.hid hg2
    have HZR := Lib.hid (zRowQ hg2 hb2 (stC zSt none 0 none 0))
    clear hg2 hb2
    go_wp2_with (refine wpList_store_row rfl rfl 33 (.tmp 2) (.tmp 34) rfl w.heap.size rfl 33 _ (stC zSt none 0 none 0) rfl HG2.out rfl (rl_size _ _ _ _ _) stC_one ?_)
    refine bodyPost_ret (v := .tuple #[.agg (stC zSt none 0 none 0), .bool false]) (results_cell_slotL Tryd.results17 _ _ w.heap.size 33 _ (0, 0) _ _ rfl rfl HZR.out.1 Tryd.underlying33 rfl (rl_size _ _ _ _ _)) rfl ?_
    rw [e9.out]; exact stepP_none HZR.out.2.1
  | some nd =>
    rw [hnd] at HNEED
    simp only [Option.getD_some, Option.isSome_some] at HNEED
    have nl := (need_ascii hnd).1
    obtain ⟨D, hD⟩ : ∃ D, D = ByteArray.mk nd.toArray := ⟨_, rfl⟩
    obtain ⟨dn, hdn⟩ : ∃ dn, dn = nd.length := ⟨_, rfl⟩
    have hDs : D.size = dn := by rw [hD, hdn]; rfl
    have hDg : Hid (∀ k (h : k < D.size) (h2 : k < nd.length), D[k] = nd[k]) := Lib.hid (by subst hD; intro k h h2; rfl)
    rw [← hD] at HNEED
    rw [← hdn] at nl
    by_cases hcnt : fs.length = nd.length
    · obtain ⟨T0, hT0⟩ : ∃ T0, T0 = takeAll nd fs ⟨wd, [], [], []⟩ := ⟨_, rfl⟩
      have HST : Hid (R = StepP w T0) := Lib.hid (by rw [hR, hst, hT0]; unfold stepW; rw [hnd]; simp only [if_pos hcnt])
      have HT0 := Lib.hid hT0
      have HDN := Lib.hid hdn
      have hcn2 : fs.length = dn := by omega
      have HCN := Lib.hid hcn2
      have q1 : IntKind.i64.wrap (1 + (dn : Int)) = (ln : Int) := by rw [IntKind.wrap_i64]; omega
      have hl2 : ln = dn + 1 := by omega
      have HL2 := Lib.hid hl2
      clear hR hst hnd hl1 hD hdn hcnt hT0 hcn2 hl2
      go_enter Tryd.func17, Tryd.ntmps17
      go_wp2_with fail
      refine (HSP.out _).mono ?_
      rintro r w1 ⟨hb1, lq, lc, rfl, hRl, hlq⟩
      have hgV : w1.heap[w.heap.size]? = some (.cells (stC zSt none 0 none 0) 33 (0, 0)) := (hb1.block _ (by simp)).trans (heap_alloc_new w _)
      have hbV : Below w.heap.size w w1 := ((Below.refl _ w).alloc (Nat.le_refl _) _).trans (hb1.mono (by simp))
      obtain ⟨b, rfl, hblt⟩ := shape_ne hRl (by rw [HLe.out]; simp)
      have c0 := rd0 hRl.rd (j := 0) (by rw [HLe.out]; simp)
      rw [HL0.out] at c0
      have hbb : w.heap.size < b := by have := hlq _ rfl; simp at this; omega
      have HRL := Lib.hid hRl
      have HGV := Lib.hid hgV
      have HBV := Lib.hid hbV
      have HBB := Lib.hid hbb
      have HBL := Lib.hid hblt
      clear hRl hgV hbV hbb hblt hlq hb1
      go_wp2_with fail
      refine (HNEED.out _).mono ?_
      rintro r w2 ⟨rfl, hb2⟩
      have hRl2 := HRL.out.old hb2
      have hg2 := (hb2.block _ (Array.getElem?_eq_some_iff.1 HGV.out).1).trans HGV.out
      have hb3 := HBV.out.trans (hb2.mono HBV.out.size)
      have hbl2 : b < w2.heap.size := Nat.lt_of_lt_of_le HBL.out hb2.size
      clear c0
      have c0 := rd0 hRl2.rd (j := 0) (by rw [HLe.out]; simp)
      rw [HL0.out] at c0
      obtain ⟨g, hg⟩ : ∃ g, g = w2.heap.size := ⟨_, rfl⟩
      obtain ⟨W4, hW4⟩ : ∃ W4, W4 = w2.alloc (.cells (stC ⟨wd, [], [], []⟩ none 0 none 0) 33) := ⟨_, rfl⟩
      have hB4 : Below w2.heap.size w2 W4 := by rw [hW4]; exact (Below.refl _ _).alloc (Nat.le_refl _) _
      have hgw : w.heap.size < g := by rw [hg]; exact Nat.lt_of_lt_of_le (Array.getElem?_eq_some_iff.1 HGV.out).1 hb2.size
      have h0 : RiR w g L (some ⟨b, 0, none⟩) lc T0 (takeAll (nd.drop 0) (fs.drop 0)) 0 [] none 0 0 ⟨wd, [], [], []⟩ none 0 none 0 W4 := by
        refine ⟨⟨?_, Rw.empty _ _, Rw.empty _ _, by omega, (fun a e => by cases e), (fun a e => by cases e), fun a b e => by cases e⟩, hRl2.old hB4, (fun j hj => absurd hj (by simp)), (hB4.block _ (by omega)).trans hg2, (fun a e => by cases e), (fun a e => by cases e), (fun a e => by cases e; exact ⟨by show b < g; omega, HBB.out⟩), (fun b e => by cases e), hb3.trans (hB4.mono hb3.size), by simp, by simp, ?_, hgw⟩
        · rw [hW4, hg]; exact heap_alloc_new w2 _
        · rw [HT0.out]; rfl
      have H0 := Lib.hid h0
      have HW4 := Lib.hid hW4
      have HG := Lib.hid hg
      clear h0 hRl2 hg2 hb3 hb2 hbl2 hg hW4 hB4 hgw hz
      go_wp2_with fail
      rw [← HG.out]
      rw [show (w2.alloc (.cells #[.string ⟨wd.toArray⟩, .slice none 0 0, .slice none 0 0, .string ⟨#[]⟩] 33)) = W4 from HW4.out.symm]
      clear HW4 HG c0 HNEED HSP HRL HGV HBV HBB HBL
      go_loopw [8] (fun s8 wr => ∃ (k : Nat) (x : St) (na : Option Addr) (nc : Nat) (ia : Option Addr) (ic : Nat), s8 = .int .i64 k ∧ k ≤ dn ∧ RiR w g L (some ⟨b, 0, none⟩) lc T0 (takeAll (nd.drop k) (fs.drop k)) 0 [] none k 0 x na nc ia ic wr) (fun s8 _ => dn - (intOf s8).toNat)
      case atStart => exact ⟨0, _, none, 0, none, 0, rfl, by omega, H0.out⟩
      case round =>
        clear H0
        obtain ⟨k, x, na, nc, ia, ic, rfl, hkd, hR⟩ := hrel
        by_cases hlt0 : k < dn
        · have hlt : k < nd.length := by rw [← HDN.out]; exact hlt0
          have hfk : k < fs.length := by rw [HCN.out]; exact hlt0
          have hkD : k < D.size := by omega
          have k0 : (0 : Int) ≤ k := by omega
          have k1 : (k : Int) < dn := by omega
          have k2 : IntKind.i64.wrap (1 + (k : Int)) = ((k + 1 : Nat) : Int) := by rw [IntKind.wrap_i64]; omega
          have k3 : (k : Int) + 1 < ln := by have := HL2.out; omega
          obtain ⟨c, hcc⟩ : ∃ c, c = nd[k] := ⟨_, rfl⟩
          obtain ⟨f, hf⟩ : ∃ f, f = fs[k] := ⟨_, rfl⟩
          have hfl : f.length ≤ 1000000 := by rw [hf]; exact HFS.out k hfk
          obtain ⟨FB, hFB⟩ : ∃ B, B = ByteArray.mk f.toArray := ⟨_, rfl⟩
          have hFL : FB.toList = f := by rw [hFB, ByteArray.toList_mk]
          have hgD0 : ((D[k]'hkD).toNat : Int) = c.toNat := by rw [hDg.out k hkD hlt, hcc]
          have HR0 := Lib.hid hR
          clear hR
          have c1 := rd0 (HR0.out.rl.rd) (j := k + 1) (by rw [HLe.out, List.length_cons]; omega)
          rw [HLk.out k hfk, ← hf, ← hFB] at c1
          by_cases h76 : c = 76
          · by_cases hdash : f = [45]
            · have hc := h76
              clear h76
              obtain ⟨P, hP⟩ : ∃ P : List (List UInt8), P = [] := ⟨_, rfl⟩
              have hcP : partsF c f = P := by rw [hP]; rw [hc]; unfold partsF; rw [if_pos (by decide), if_pos hdash]
              have hP9 : P.length ≤ 1000001 := by rw [← hcP]; have := parts_len c f; omega
              have HPZ : Hid (∀ p ∈ P, p.length ≤ 1000000) := Lib.hid (by rw [← hcP]; exact fun p hp => Nat.le_trans (parts_sz c f p hp) hfl)
              obtain ⟨pn, hpn0⟩ : ∃ pn, pn = P.length := ⟨_, rfl⟩
              have HPN := Lib.hid hpn0.symm
              have hpn : pn ≤ 1000001 := by rw [hpn0]; exact hP9
              obtain ⟨F, hF⟩ : ∃ F, F = takeAll (nd.drop (k + 1)) (fs.drop (k + 1)) := ⟨_, rfl⟩
              have hEN : ∀ (pq : Option Addr) (W : World), Below wr.heap.size wr W → Rd encS W pq P → (∀ b, pq = some b → wr.heap.size ≤ b.block) → RiR w g L (some ⟨b, 0, none⟩) lc T0 F c P pq k 0 x na nc ia ic W := by
                          intro pq W e1 e2 e3
                          have := HR0.out.enter hlt hfk (pq := pq) e1 (by rw [← hcc, ← hf, hcP]; exact e2) e3
                          rw [← hcc, ← hf, hcP, ← hF] at this
                          exact this
              have HEN := Lib.hid hEN
              have HF := Lib.hid hF
              have hgD : ((D[k]'hkD).toNat : Int) = 76 := by rw [hgD0, hc]; rfl
              have HCL := Lib.hid hc
              have e0 : (FB.toList == [45]) = true := by rw [hFL, hdash]; rfl
              have HP := Lib.hid hP
              have HFB := Lib.hid hFB
              clear hdash
              clear hP hcP hP9 hpn0 hF hEN hFB hFL hgD0 hc
              clear hcc hf
              have HENT := Lib.hid (HEN.out none (wr.alloc (.cells #[.string FB] 9)) ((Below.refl _ _).alloc (Nat.le_refl _) _) (by rw [HP.out]; exact fun j hj => absurd hj (by simp)) (fun b e => by cases e))
              obtain rfl : pn = 0 := by rw [← HPN.out, HP.out]; rfl
              clear HEN
              go_wp2_with fail
              go_loopw [80] (fun s80 wr => ∃ (j : Nat) (y : St) (na : Option Addr) (nc : Nat) (ia : Option Addr) (ic : Nat), s80 = .int .i64 j ∧ j ≤ 0 ∧ RiR w g L (some ⟨b, 0, none⟩) lc T0 F c P none k j y na nc ia ic wr) (fun s80 _ => 0 - (intOf s80).toNat)
              case atStart => exact ⟨0, _, _, _, _, _, rfl, by omega, HENT.out⟩
              case round =>
                clear HENT
                obtain ⟨j, y, na, nc, ia, ic, rfl, hjn, hR⟩ := hrel
                obtain rfl : j = 0 := by omega
                skip
                have HLV := Lib.hid (RiR.leave (nd := nd) (fs := fs) (by rw [HPN.out, ← HF.out]; exact hR) (by rw [HPN.out]; exact hpn))
                clear hR
                go_wp2_with fail
                go_roundw
                case rel => exact ⟨k + 1, _, _, _, _, _, by go_num, by omega, HLV.out⟩
                case measure => simp [intOf]; omega
            · have hc := h76
              clear h76
              obtain ⟨P, hP⟩ : ∃ P : List (List UInt8), P = (spl 44 f) := ⟨_, rfl⟩
              have hcP : partsF c f = P := by rw [hP]; rw [hc]; unfold partsF; rw [if_pos (by decide), if_neg hdash]
              have hP9 : P.length ≤ 1000001 := by rw [← hcP]; have := parts_len c f; omega
              have HPZ : Hid (∀ p ∈ P, p.length ≤ 1000000) := Lib.hid (by rw [← hcP]; exact fun p hp => Nat.le_trans (parts_sz c f p hp) hfl)
              obtain ⟨pn, hpn0⟩ : ∃ pn, pn = P.length := ⟨_, rfl⟩
              have HPN := Lib.hid hpn0.symm
              have hpn : pn ≤ 1000001 := by rw [hpn0]; exact hP9
              obtain ⟨F, hF⟩ : ∃ F, F = takeAll (nd.drop (k + 1)) (fs.drop (k + 1)) := ⟨_, rfl⟩
              have hEN : ∀ (pq : Option Addr) (W : World), Below wr.heap.size wr W → Rd encS W pq P → (∀ b, pq = some b → wr.heap.size ≤ b.block) → RiR w g L (some ⟨b, 0, none⟩) lc T0 F c P pq k 0 x na nc ia ic W := by
                          intro pq W e1 e2 e3
                          have := HR0.out.enter hlt hfk (pq := pq) e1 (by rw [← hcc, ← hf, hcP]; exact e2) e3
                          rw [← hcc, ← hf, hcP, ← hF] at this
                          exact this
              have HEN := Lib.hid hEN
              have HF := Lib.hid hF
              have hgD : ((D[k]'hkD).toNat : Int) = 76 := by rw [hgD0, hc]; rfl
              have HCL := Lib.hid hc
              have e0 : (FB.toList == [45]) = false := by rw [hFL, beq_eq_false_iff_ne]; exact hdash
              have HSF := Lib.hid (fun w => rlsplit_any f 44 w hfl)
              unfold SplP at HSF
              rw [← hP, ← hpn0, ← hFB] at HSF
              have hPne : P ≠ [] := by rw [hP]; exact splA_ne 44 f []
              have hp0 : 0 < P.length := List.length_pos_iff.2 hPne
              have HP := Lib.hid hP
              have HFB := Lib.hid hFB
              have HP0 := Lib.hid hp0
              clear hPne hp0
              clear hdash
              clear hP hcP hP9 hpn0 hF hEN hFB hFL hgD0 hc
              clear hcc hf
              go_wp2_with fail
              refine (HSF.out _).mono ?_
              rintro r w6 ⟨hb6, pq, pc, rfl, hRp, hpq⟩
              obtain ⟨gp, rfl, hgpl⟩ := shape_ne hRp HP0.out
              have HENT := Lib.hid (HEN.out (some ⟨gp, 0, none⟩) w6 (((Below.refl _ _).alloc (Nat.le_refl _) _).trans (hb6.mono (by simp))) hRp.rd (fun b e => by cases e; have := hpq _ rfl; simp at this; simp; omega))
              clear hb6 hRp hpq hgpl HEN HSF
              go_wp2_with fail
              go_loopw [80] (fun s80 wr => ∃ (j : Nat) (y : St) (na : Option Addr) (nc : Nat) (ia : Option Addr) (ic : Nat), s80 = .int .i64 j ∧ j ≤ pn ∧ RiR w g L (some ⟨b, 0, none⟩) lc T0 F c P (some ⟨gp, 0, none⟩) k j y na nc ia ic wr) (fun s80 _ => pn - (intOf s80).toNat)
              case atStart => exact ⟨0, _, _, _, _, _, rfl, by omega, HENT.out⟩
              case round =>
                clear HENT
                obtain ⟨j, y, na, nc, ia, ic, rfl, hjn, hR⟩ := hrel
                by_cases hlt2 : j < pn
                · have hjl : j < P.length := by rw [HPN.out]; exact hlt2
                  have j1 : (j : Int) < pn := by omega
                  obtain ⟨p, hp⟩ : ∃ p, p = P[j] := ⟨_, rfl⟩
                  have hpl : p.length ≤ 1000000 := by rw [hp]; exact HPZ.out _ (List.getElem_mem hjl)
                  obtain ⟨PB, hPB⟩ : ∃ B, B = ByteArray.mk p.toArray := ⟨_, rfl⟩
                  have c0 := rd0 hR.pr hjl
                  rw [← hp, ← hPB] at c0
                  have HR := Lib.hid hR
                  have HNM := Lib.hid (fun w => rlname_any p w (by omega))
                  rw [← hPB] at HNM
                  by_cases hok : nameB p = true
                  · rw [hok] at HNM
                    have HY : Hid (part1 c P[j] y = some { y with names := y.names ++ [p] }) := Lib.hid (by rw [← hp, HCL.out]; unfold part1; rw [if_neg (by decide), if_pos (by decide), if_pos hok])
                    obtain ⟨n, hn⟩ : ∃ n, n = y.names.length := ⟨_, rfl⟩
                    have hn9 : n ≤ 100000000 := by have := hR.s1; omega
                    have HN := Lib.hid hn
                    have c1 := hR.st.cell 1
                    simp only [stC, List.getElem?_toArray, List.getElem?_cons_succ, List.getElem?_cons_zero] at c1
                    rw [← hn] at c1
                    have HPB := Lib.hid hPB
                    clear hok hp hn hR hPB
                    go_wp2_with fail
                    refine (HNM.out _).mono ?_
                    rintro e W5 ⟨rfl, rfl⟩
                    go_upto_region 32 with fail
                    rw [HPB.out]
                    go_wp2_with (at_builtin; refine wpList_pushR encS rfl _ _ 30 9 (.string ⟨#[]⟩) 16 rfl Tryd.underlying30 lninfo_str rfl (by decide) na nc n y.names HN.out.symm rfl (HR.out.st.rn.old ((Below.refl _ _).alloc (Nat.le_refl _) _)) (some ⟨_, 0, none⟩) 1 1 [p] rfl rfl (Rd.made encS _ 9 [p] (by simp [maxLen])) (by omega) ?_)
                    intro q c' w6 hP
                    have hS2 := HR.out.st.old ((Below.refl _ _).alloc (Nat.le_refl _) (.cells (encS.all [p]).toArray 9))
                    obtain ⟨d1, d2, d3, d4⟩ := hS2.name hP
                    rw [← HN.out] at d1 d3
                    have HM6 := Lib.hid ((mod_none (S := FPs g na ia) ((Below.refl _ _).alloc (Nat.le_refl _) (.cells (encS.all [p]).toArray 9))).trans hP.2.1 (fun i _ h => .inr (.inl h)) |>.setCell (p := ⟨g, 1, none⟩) (fun _ => .inl rfl) (.slice q (n + 1) c'))
                    have HNX := Lib.hid (HR.out.next HM6.out d3 (fun a e => by rcases hP.2.2 a e with h | h; exact .inl h; exact .inr (by simp at h; omega)) (Nw.refl _ _) hjl HY.out)
                    clear hP hS2 d3 d4 c1 HM6
                    go_wp2_with fail
                    go_roundw
                    case rel => exact ⟨j + 1, _, _, _, _, _, by go_num, by omega, HNX.out⟩
                    case measure => simp [intOf]; omega
                  · have hok' : nameB p = false := by simpa using hok
                    rw [hok'] at HNM
                    have HY : Hid (part1 c P[j] y = none) := Lib.hid (by rw [← hp, HCL.out]; unfold part1; rw [if_neg (by decide), if_pos (by decide), hok']; rfl)
                    have e9 : Hid (R = StepP w none) := Lib.hid (by rw [HST.out, HR.out.stop hjl HY.out])
                    have hg2 := hR.rb
                    have hb2 := hR.m
                    clear hok hok' hp hPB hR
                    go_wp2_with fail
                    refine (HNM.out _).mono ?_
                    rintro e W5 ⟨rfl, rfl⟩
                    have HG2 := Lib.hid hg2
                    have HZR := Lib.hid (zRowQ hg2 hb2 (stC zSt none 0 none 0))
                    clear hg2 hb2
                    go_wp2_with (refine wpList_store_row rfl rfl 33 (.tmp 2) (.tmp 117) rfl w.heap.size rfl 33 _ (stC zSt none 0 none 0) rfl HG2.out rfl (rl_size _ _ _ _ _) stC_one ?_)
                    refine bodyPost_ret (v := .tuple #[.agg (stC zSt none 0 none 0), .bool false]) (results_cell_slotL Tryd.results17 _ _ w.heap.size 33 _ (0, 0) _ _ rfl rfl HZR.out.1 Tryd.underlying33 rfl (rl_size _ _ _ _ _)) rfl ?_
                    rw [e9.out]; exact stepP_none HZR.out.2.1
                · obtain rfl : j = pn := by omega
                  have HLV := Lib.hid (RiR.leave (nd := nd) (fs := fs) (by rw [HPN.out, ← HF.out]; exact hR) (by rw [HPN.out]; exact hpn))
                  clear hR
                  go_wp2_with fail
                  go_roundw
                  case rel => exact ⟨k + 1, _, _, _, _, _, by go_num, by omega, HLV.out⟩
                  case measure => simp [intOf]; omega
          · by_cases h77 : c = 77
            · by_cases hdash : f = [45]
              · have hc := h77
                clear h76 h77
                obtain ⟨P, hP⟩ : ∃ P : List (List UInt8), P = [] := ⟨_, rfl⟩
                have hcP : partsF c f = P := by rw [hP]; rw [hc]; unfold partsF; rw [if_pos (by decide), if_pos hdash]
                have hP9 : P.length ≤ 1000001 := by rw [← hcP]; have := parts_len c f; omega
                have HPZ : Hid (∀ p ∈ P, p.length ≤ 1000000) := Lib.hid (by rw [← hcP]; exact fun p hp => Nat.le_trans (parts_sz c f p hp) hfl)
                obtain ⟨pn, hpn0⟩ : ∃ pn, pn = P.length := ⟨_, rfl⟩
                have HPN := Lib.hid hpn0.symm
                have hpn : pn ≤ 1000001 := by rw [hpn0]; exact hP9
                obtain ⟨F, hF⟩ : ∃ F, F = takeAll (nd.drop (k + 1)) (fs.drop (k + 1)) := ⟨_, rfl⟩
                have hEN : ∀ (pq : Option Addr) (W : World), Below wr.heap.size wr W → Rd encS W pq P → (∀ b, pq = some b → wr.heap.size ≤ b.block) → RiR w g L (some ⟨b, 0, none⟩) lc T0 F c P pq k 0 x na nc ia ic W := by
                            intro pq W e1 e2 e3
                            have := HR0.out.enter hlt hfk (pq := pq) e1 (by rw [← hcc, ← hf, hcP]; exact e2) e3
                            rw [← hcc, ← hf, hcP, ← hF] at this
                            exact this
                have HEN := Lib.hid hEN
                have HF := Lib.hid hF
                have hgD : ((D[k]'hkD).toNat : Int) = 77 := by rw [hgD0, hc]; rfl
                have HCL := Lib.hid hc
                have e0 : (FB.toList == [45]) = true := by rw [hFL, hdash]; rfl
                have HP := Lib.hid hP
                have HFB := Lib.hid hFB
                clear hdash
                clear hP hcP hP9 hpn0 hF hEN hFB hFL hgD0 hc
                clear hcc hf
                have HENT := Lib.hid (HEN.out none (wr.alloc (.cells #[.string FB] 9)) ((Below.refl _ _).alloc (Nat.le_refl _) _) (by rw [HP.out]; exact fun j hj => absurd hj (by simp)) (fun b e => by cases e))
                obtain rfl : pn = 0 := by rw [← HPN.out, HP.out]; rfl
                clear HEN
                go_wp2_with fail
                go_loopw [80] (fun s80 wr => ∃ (j : Nat) (y : St) (na : Option Addr) (nc : Nat) (ia : Option Addr) (ic : Nat), s80 = .int .i64 j ∧ j ≤ 0 ∧ RiR w g L (some ⟨b, 0, none⟩) lc T0 F c P none k j y na nc ia ic wr) (fun s80 _ => 0 - (intOf s80).toNat)
                case atStart => exact ⟨0, _, _, _, _, _, rfl, by omega, HENT.out⟩
                case round =>
                  clear HENT
                  obtain ⟨j, y, na, nc, ia, ic, rfl, hjn, hR⟩ := hrel
                  obtain rfl : j = 0 := by omega
                  skip
                  have HLV := Lib.hid (RiR.leave (nd := nd) (fs := fs) (by rw [HPN.out, ← HF.out]; exact hR) (by rw [HPN.out]; exact hpn))
                  clear hR
                  go_wp2_with fail
                  go_roundw
                  case rel => exact ⟨k + 1, _, _, _, _, _, by go_num, by omega, HLV.out⟩
                  case measure => simp [intOf]; omega
              · have hc := h77
                clear h76 h77
                obtain ⟨P, hP⟩ : ∃ P : List (List UInt8), P = (spl 44 f) := ⟨_, rfl⟩
                have hcP : partsF c f = P := by rw [hP]; rw [hc]; unfold partsF; rw [if_pos (by decide), if_neg hdash]
                have hP9 : P.length ≤ 1000001 := by rw [← hcP]; have := parts_len c f; omega
                have HPZ : Hid (∀ p ∈ P, p.length ≤ 1000000) := Lib.hid (by rw [← hcP]; exact fun p hp => Nat.le_trans (parts_sz c f p hp) hfl)
                obtain ⟨pn, hpn0⟩ : ∃ pn, pn = P.length := ⟨_, rfl⟩
                have HPN := Lib.hid hpn0.symm
                have hpn : pn ≤ 1000001 := by rw [hpn0]; exact hP9
                obtain ⟨F, hF⟩ : ∃ F, F = takeAll (nd.drop (k + 1)) (fs.drop (k + 1)) := ⟨_, rfl⟩
                have hEN : ∀ (pq : Option Addr) (W : World), Below wr.heap.size wr W → Rd encS W pq P → (∀ b, pq = some b → wr.heap.size ≤ b.block) → RiR w g L (some ⟨b, 0, none⟩) lc T0 F c P pq k 0 x na nc ia ic W := by
                            intro pq W e1 e2 e3
                            have := HR0.out.enter hlt hfk (pq := pq) e1 (by rw [← hcc, ← hf, hcP]; exact e2) e3
                            rw [← hcc, ← hf, hcP, ← hF] at this
                            exact this
                have HEN := Lib.hid hEN
                have HF := Lib.hid hF
                have hgD : ((D[k]'hkD).toNat : Int) = 77 := by rw [hgD0, hc]; rfl
                have HCL := Lib.hid hc
                have e0 : (FB.toList == [45]) = false := by rw [hFL, beq_eq_false_iff_ne]; exact hdash
                have HSF := Lib.hid (fun w => rlsplit_any f 44 w hfl)
                unfold SplP at HSF
                rw [← hP, ← hpn0, ← hFB] at HSF
                have hPne : P ≠ [] := by rw [hP]; exact splA_ne 44 f []
                have hp0 : 0 < P.length := List.length_pos_iff.2 hPne
                have HP := Lib.hid hP
                have HFB := Lib.hid hFB
                have HP0 := Lib.hid hp0
                clear hPne hp0
                clear hdash
                clear hP hcP hP9 hpn0 hF hEN hFB hFL hgD0 hc
                clear hcc hf
                go_wp2_with fail
                refine (HSF.out _).mono ?_
                rintro r w6 ⟨hb6, pq, pc, rfl, hRp, hpq⟩
                obtain ⟨gp, rfl, hgpl⟩ := shape_ne hRp HP0.out
                have HENT := Lib.hid (HEN.out (some ⟨gp, 0, none⟩) w6 (((Below.refl _ _).alloc (Nat.le_refl _) _).trans (hb6.mono (by simp))) hRp.rd (fun b e => by cases e; have := hpq _ rfl; simp at this; simp; omega))
                clear hb6 hRp hpq hgpl HEN HSF
                go_wp2_with fail
                go_loopw [80] (fun s80 wr => ∃ (j : Nat) (y : St) (na : Option Addr) (nc : Nat) (ia : Option Addr) (ic : Nat), s80 = .int .i64 j ∧ j ≤ pn ∧ RiR w g L (some ⟨b, 0, none⟩) lc T0 F c P (some ⟨gp, 0, none⟩) k j y na nc ia ic wr) (fun s80 _ => pn - (intOf s80).toNat)
                case atStart => exact ⟨0, _, _, _, _, _, rfl, by omega, HENT.out⟩
                case round =>
                  clear HENT
                  obtain ⟨j, y, na, nc, ia, ic, rfl, hjn, hR⟩ := hrel
                  by_cases hlt2 : j < pn
                  · have hjl : j < P.length := by rw [HPN.out]; exact hlt2
                    have j1 : (j : Int) < pn := by omega
                    obtain ⟨p, hp⟩ : ∃ p, p = P[j] := ⟨_, rfl⟩
                    have hpl : p.length ≤ 1000000 := by rw [hp]; exact HPZ.out _ (List.getElem_mem hjl)
                    obtain ⟨PB, hPB⟩ : ∃ B, B = ByteArray.mk p.toArray := ⟨_, rfl⟩
                    have c0 := rd0 hR.pr hjl
                    rw [← hp, ← hPB] at c0
                    have HR := Lib.hid hR
                    have HNM := Lib.hid (fun w => rlnumber_any p w hpl)
                    rw [← hPB] at HNM
                    by_cases hok : numOk p = true
                    · obtain ⟨vn, hvn⟩ : ∃ vn, vn = numD p := ⟨_, rfl⟩
                      have hnr : numR p = (vn : Int) := by unfold numR; rw [if_pos hok, hvn]
                      rw [hnr] at HNM
                      have HY : Hid (part1 c P[j] y = some { y with nums := y.nums ++ [vn] }) := Lib.hid (by rw [← hp, HCL.out]; unfold part1; rw [if_pos (by decide), if_pos hok, hvn])
                      obtain ⟨n, hn⟩ : ∃ n, n = y.nums.length := ⟨_, rfl⟩
                      have hn9 : n ≤ 100000000 := by have := hR.s2; omega
                      have HN := Lib.hid hn
                      have hv0 : ¬ (vn : Int) < 0 := by omega
                      clear hok hvn hnr hp hPB hn hR
                      go_wp2_with fail
                      refine (HNM.out _).mono ?_
                      rintro e W5 ⟨rfl, hb5⟩
                      have HR5 := Lib.hid (HR.out.below hb5)
                      clear hb5
                      go_upto_region 27 with fail
                      have HG0 : Hid ((fun (j : Nat) (v : Value) (w1 : World) => Mod (FPs g na ia) W5 w1 ∧ (j ≤ 2 → StQ w.heap.size w1 g y na nc ia ic) ∧ (j = 2 → ∃ p0, v = .slice (some ⟨p0, 0, none⟩) 1 1 ∧ Rd encNt w1 (some ⟨p0, 0, none⟩) [vn]) ∧ (j = 3 → ∃ q c wb, v = .slice q (n + 1) c ∧ Nw W5 ia q ∧ StQ w.heap.size wb g y na nc ia ic ∧ PushR encNt 3 wb ia (y.nums ++ [vn]) q c w1) ∧ (j = 4 → ∃ q c, Nw W5 ia q ∧ StQ w.heap.size w1 g { y with nums := y.nums ++ [vn] } na nc q c)) 0 undef W5.drew) := Lib.hid ⟨(Mod.refl _ _).drew, fun _ => HR5.out.st.old ((Below.refl _ _).drew), (fun h => absurd h (by omega)), (fun h => absurd h (by omega)), (fun h => absurd h (by omega))⟩
                      refine wp_region_chain2 (fun t v => match t with
                        | 104 => v = .pointer (some ⟨g, 2, none⟩)
                        | 105 => v = .slice ia n ic
                        | 106 => v = .string PB
                        | 107 => v = .int .i64 (vn : Int)
                        | 110 => v = .pointer (some ⟨g, 2, none⟩)
                        | _ => True) (fun (j : Nat) (v : Value) (w1 : World) => Mod (FPs g na ia) W5 w1 ∧ (j ≤ 2 → StQ w.heap.size w1 g y na nc ia ic) ∧ (j = 2 → ∃ p0, v = .slice (some ⟨p0, 0, none⟩) 1 1 ∧ Rd encNt w1 (some ⟨p0, 0, none⟩) [vn]) ∧ (j = 3 → ∃ q c wb, v = .slice q (n + 1) c ∧ Nw W5 ia q ∧ StQ w.heap.size wb g y na nc ia ic ∧ PushR encNt 3 wb ia (y.nums ++ [vn]) q c w1) ∧ (j = 4 → ∃ q c, Nw W5 ia q ∧ StQ w.heap.size w1 g { y with nums := y.nums ++ [vn] } na nc q c)) [3, 4, 5, 7] 134 (by kernel_rfl) (by decide +kernel) rfl (by decide +kernel) (by decide) (by decide) HG0.out (by
                        refine OweAllC.cons (owesC_val 2 (by decide +kernel) (by decide) rfl rfl fun k' a w1 x hk ha hG hV => ?_) ?_
                        · skip
                          have h7 := ha.outer 7 (by decide +kernel)
                          simp only [Act.eval] at h7
                          exact ⟨.pointer (some ⟨g, 2, none⟩), wanted_free rfl, by simp [execOp, go_sem, h7], rfl⟩
                        refine OweAllC.cons (owesC_val 2 (by decide +kernel) (by decide) rfl rfl fun k' a w1 x hk ha hG hV => ?_) ?_
                        · skip
                          have h104 : a.tmps.getD 104 undef = .pointer (some ⟨g, 2, none⟩) := hV.get 104 (by decide +kernel)
                          have st1 := hG.2.1 (by omega)
                          have cc := st1.cell 2
                          simp only [stC, List.getElem?_toArray, List.getElem?_cons_succ, List.getElem?_cons_zero] at cc
                          rw [← HN.out] at cc
                          exact ⟨.slice ia n ic, wanted_free rfl, by simp [execOp, go_sem, h104, cc], rfl⟩
                        refine OweAllC.cons (owesC_val 0 (by decide +kernel) (by decide) rfl rfl fun k' a w1 x hk ha hG hV => ?_) ?_
                        · skip
                          have h12 := ha.outer 12 (by decide +kernel)
                          simp only [Act.eval] at h12
                          exact ⟨.string PB, wanted_free rfl, by simp [execOp, go_sem, h12], rfl⟩
                        refine OweAllC.cons (owesC_call 0 rfl rfl rfl 26 fun a w1 x ha hG hx hV => ?_) ?_
                        · skip
                          have h106 : a.tmps.getD 106 undef = .string PB := hV.get 106 (by decide +kernel)
                          refine ⟨#[.string PB], wanted_free rfl, by simp [execOp, resolve, invoke, go_sem, h106], ?_⟩
                          have st1 := hG.2.1 (by omega)
                          refine (HNM.out w1).mono ?_
                          rintro r w2 ⟨rfl, hb⟩
                          exact ⟨_, rfl, rfl, hG.1.trans (mod_none hb) (fun _ _ h => h), (fun _ => st1.old hb), (fun h => absurd h (by omega)), (fun h => absurd h (by omega)), (fun h => absurd h (by omega))⟩
                        refine OweAllC.cons (owesC_mem 1 rfl rfl rfl fun a w1 x ha hG hx hV => ?_) ?_
                        · skip
                          have h107 : a.tmps.getD 107 undef = .int .i64 (vn : Int) := hV.get 107 (by decide +kernel)
                          have g107 : a.tmps[107]?.getD undef = .int .i64 (vn : Int) := by simpa using h107
                          have st1 := hG.2.1 (by omega)
                          have hb : Below w1.heap.size w1 (w1.alloc (.cells (encNt.f vn).toArray 3)) := (Below.refl _ _).alloc (Nat.le_refl _) _
                          have hr : Rd encNt (w1.alloc (.cells (encNt.f vn).toArray 3)) (some ⟨w1.heap.size, 0, none⟩) [vn] := by have := Rd.made encNt w1 3 [vn] (by simp [maxLen]); simpa [Enc.all] using this
                          exact ⟨_, _, wanted_free rfl, build_one encNt 31 3 _ 8 Tryd.underlying31 lninfo_int (by decide) (.tmp 107) rfl vn _ rfl h107, trivial, hG.1.trans (mod_none hb) (fun _ _ h => h), (fun _ => st1.old hb), (fun _ => ⟨_, rfl, hr⟩), (fun h => absurd h (by omega)), (fun h => absurd h (by omega))⟩
                        refine OweAllC.cons (owesC_law 2 rfl rfl fun a w1 x ha hG hx hV => ?_) ?_
                        · skip
                          have h105 : a.tmps.getD 105 undef = .slice ia n ic := hV.get 105 (by decide +kernel)
                          have h108 := hx 1 4 _ 108 rfl rfl rfl rfl
                          have st1 := hG.2.1 (by omega)
                          obtain ⟨p0, rfl, hr⟩ := hG.2.2.1 rfl
                          refine ⟨wanted_free rfl, fun K hK => ?_⟩
                          refine wp_pushR1 encNt (.tmp 105) (.tmp 108) 31 3 _ 8 rfl Tryd.underlying31 lninfo_int rfl (by decide) ia ic n y.nums HN.out.symm h105 st1.ri (some ⟨p0, 0, none⟩) 1 vn h108 hr (by omega) ?_
                          rintro q' c' w' hP
                          exact hK _ _ (fun t ht => by cases ht; trivial) ⟨hG.1.trans hP.2.1 (fun i _ h => .inr (.inr h)), (fun h => absurd h (by omega)), (fun h => absurd h (by omega)), (fun _ => ⟨q', c', w1, rfl, (fun a e => by have := hG.1.size; rcases hP.2.2 a e with h | h; exact .inl h; exact .inr (by omega)), st1, hP⟩), (fun h => absurd h (by omega))⟩
                        refine OweAllC.cons (owesC_val 3 (by decide +kernel) (by decide) rfl rfl fun k' a w1 x hk ha hG hV => ?_) ?_
                        · skip
                          have h7 := ha.outer 7 (by decide +kernel)
                          simp only [Act.eval] at h7
                          exact ⟨.pointer (some ⟨g, 2, none⟩), wanted_free rfl, by simp [execOp, go_sem, h7], rfl⟩
                        refine OweAllC.cons (owesC_store 3 rfl rfl rfl fun a w1 x ha hG hx hV => ?_) ?_
                        · skip
                          have h110 : a.tmps.getD 110 undef = .pointer (some ⟨g, 2, none⟩) := hV.get 110 (by decide +kernel)
                          have h109 := hx 2 5 _ 109 rfl rfl rfl rfl
                          simp only [Act.eval] at h109
                          obtain ⟨q', c', wb, rfl, hn1, st1, hP⟩ := hG.2.2.2.1 rfl
                          obtain ⟨cc, cf, st2, hb⟩ := st1.num hP
                          rw [← HN.out] at cc st2
                          exact ⟨w1.setCell ⟨g, 2, none⟩ (.slice q' (n + 1) c'), wanted_free rfl, by simp [execOp, go_sem, h110, h109, cc, cf], hG.1.setCell (p := ⟨g, 2, none⟩) (fun _ => .inl rfl) _, (fun h => absurd h (by omega)), (fun h => absurd h (by omega)), (fun h => absurd h (by omega)), (fun _ => ⟨q', c', hn1, st2⟩)⟩
                        exact OweAllC.nil
                        ) ?_
                      intro f wz xz hG hx hv
                      refine moves_back (P := Tryd.prog) (ops := #[]) f _ _ _ ?_
                      simp only [dsts, List.filterMap_cons, List.filterMap_nil, List.map_cons, List.map_nil]
                      clear hv hx
                      unfold mv
                      have hF := Lib.hid hG
                      clear hG HG0
                      have HNX : Hid (∃ ia' ic', RiR w g L (some ⟨b, 0, none⟩) lc T0 F c P (some ⟨gp, 0, none⟩) k (j + 1) { y with nums := y.nums ++ [vn] } na nc ia' ic' wz) := Lib.hid (by
                        obtain ⟨q, c', hn1, st⟩ := hF.out.2.2.2.2 rfl
                        exact ⟨q, c', HR5.out.next hF.out.1 st (Nw.refl _ _) hn1 hjl HY.out⟩)
                      clear hF HR5 HNM
                      go_wp2_with fail
                      obtain ⟨ia', ic', hnx⟩ := HNX.out
                      go_roundw
                      case rel => exact ⟨j + 1, _, _, _, _, _, by go_num, by omega, hnx⟩
                      case measure => simp [intOf]; omega
                    · have hok' : numOk p = false := by simpa using hok
                      have hnr : numR p = -1 := by unfold numR; rw [hok']; rfl
                      rw [hnr] at HNM
                      have HY : Hid (part1 c P[j] y = none) := Lib.hid (by rw [← hp, HCL.out]; unfold part1; rw [if_pos (by decide), hok']; rfl)
                      have e9 : Hid (R = StepP w none) := Lib.hid (by rw [HST.out, HR.out.stop hjl HY.out])
                      clear hok hok' hnr hp hPB hR
                      go_wp2_with fail
                      refine (HNM.out _).mono ?_
                      rintro e W5 ⟨rfl, hb5⟩
                      have hR5 := HR.out.below hb5
                      have hg2 := hR5.rb
                      have hb2 := hR5.m
                      clear hb5 hR5
                      have HG2 := Lib.hid hg2
                      have HZR := Lib.hid (zRowQ hg2 hb2 (stC zSt none 0 none 0))
                      clear hg2 hb2
                      go_wp2_with (refine wpList_store_row rfl rfl 33 (.tmp 2) (.tmp 103) rfl w.heap.size rfl 33 _ (stC zSt none 0 none 0) rfl HG2.out rfl (rl_size _ _ _ _ _) stC_one ?_)
                      refine bodyPost_ret (v := .tuple #[.agg (stC zSt none 0 none 0), .bool false]) (results_cell_slotL Tryd.results17 _ _ w.heap.size 33 _ (0, 0) _ _ rfl rfl HZR.out.1 Tryd.underlying33 rfl (rl_size _ _ _ _ _)) rfl ?_
                      rw [e9.out]; exact stepP_none HZR.out.2.1
                  · obtain rfl : j = pn := by omega
                    have HLV := Lib.hid (RiR.leave (nd := nd) (fs := fs) (by rw [HPN.out, ← HF.out]; exact hR) (by rw [HPN.out]; exact hpn))
                    clear hR
                    go_wp2_with fail
                    go_roundw
                    case rel => exact ⟨k + 1, _, _, _, _, _, by go_num, by omega, HLV.out⟩
                    case measure => simp [intOf]; omega
            · by_cases h78 : c = 78
              · have hc := h78
                clear h76 h77 h78
                obtain ⟨P, hP⟩ : ∃ P : List (List UInt8), P = [f] := ⟨_, rfl⟩
                have hcP : partsF c f = P := by rw [hP]; rw [hc]; unfold partsF; rw [if_neg (by decide)]
                have hP9 : P.length ≤ 1000001 := by rw [← hcP]; have := parts_len c f; omega
                have HPZ : Hid (∀ p ∈ P, p.length ≤ 1000000) := Lib.hid (by rw [← hcP]; exact fun p hp => Nat.le_trans (parts_sz c f p hp) hfl)
                obtain ⟨pn, hpn0⟩ : ∃ pn, pn = P.length := ⟨_, rfl⟩
                have HPN := Lib.hid hpn0.symm
                have hpn : pn ≤ 1000001 := by rw [hpn0]; exact hP9
                obtain ⟨F, hF⟩ : ∃ F, F = takeAll (nd.drop (k + 1)) (fs.drop (k + 1)) := ⟨_, rfl⟩
                have hEN : ∀ (pq : Option Addr) (W : World), Below wr.heap.size wr W → Rd encS W pq P → (∀ b, pq = some b → wr.heap.size ≤ b.block) → RiR w g L (some ⟨b, 0, none⟩) lc T0 F c P pq k 0 x na nc ia ic W := by
                            intro pq W e1 e2 e3
                            have := HR0.out.enter hlt hfk (pq := pq) e1 (by rw [← hcc, ← hf, hcP]; exact e2) e3
                            rw [← hcc, ← hf, hcP, ← hF] at this
                            exact this
                have HEN := Lib.hid hEN
                have HF := Lib.hid hF
                have hgD : ((D[k]'hkD).toNat : Int) = 78 := by rw [hgD0, hc]; rfl
                have HCL := Lib.hid hc
                have HP := Lib.hid hP
                have HFB := Lib.hid hFB
                clear hP hcP hP9 hpn0 hF hEN hFB hFL hgD0 hc
                clear hcc hf
                obtain ⟨gp, hgp⟩ : ∃ gp, gp = wr.heap.size := ⟨_, rfl⟩
                have HENT := Lib.hid (HEN.out (some ⟨gp, 0, none⟩) (wr.alloc (.cells #[.string FB] 9)) ((Below.refl _ _).alloc (Nat.le_refl _) _) (by rw [HP.out, hgp, HFB.out]; exact Rd.made encS wr 9 [f] (by simp [maxLen])) (fun b e => by cases e; rw [hgp]; exact Nat.le_refl _))
                obtain rfl : pn = 1 := by rw [← HPN.out, HP.out]; rfl
                clear HEN
                go_wp2_with fail
                rw [← hgp]
                clear hgp
                go_loopw [80] (fun s80 wr => ∃ (j : Nat) (y : St) (na : Option Addr) (nc : Nat) (ia : Option Addr) (ic : Nat), s80 = .int .i64 j ∧ j ≤ 1 ∧ RiR w g L (some ⟨b, 0, none⟩) lc T0 F c P (some ⟨gp, 0, none⟩) k j y na nc ia ic wr) (fun s80 _ => 1 - (intOf s80).toNat)
                case atStart => exact ⟨0, _, _, _, _, _, rfl, by omega, HENT.out⟩
                case round =>
                  clear HENT
                  obtain ⟨j, y, na, nc, ia, ic, rfl, hjn, hR⟩ := hrel
                  by_cases hlt2 : j < 1
                  · have hjl : j < P.length := by rw [HPN.out]; exact hlt2
                    have j1 : (j : Int) < 1 := by omega
                    obtain ⟨p, hp⟩ : ∃ p, p = P[j] := ⟨_, rfl⟩
                    have hpl : p.length ≤ 1000000 := by rw [hp]; exact HPZ.out _ (List.getElem_mem hjl)
                    obtain ⟨PB, hPB⟩ : ∃ B, B = ByteArray.mk p.toArray := ⟨_, rfl⟩
                    have c0 := rd0 hR.pr hjl
                    rw [← hp, ← hPB] at c0
                    have HR := Lib.hid hR
                    have HNM := Lib.hid (fun w => rlnumber_any p w hpl)
                    rw [← hPB] at HNM
                    by_cases hok : numOk p = true
                    · obtain ⟨vn, hvn⟩ : ∃ vn, vn = numD p := ⟨_, rfl⟩
                      have hnr : numR p = (vn : Int) := by unfold numR; rw [if_pos hok, hvn]
                      rw [hnr] at HNM
                      have HY : Hid (part1 c P[j] y = some { y with nums := y.nums ++ [vn] }) := Lib.hid (by rw [← hp, HCL.out]; unfold part1; rw [if_pos (by decide), if_pos hok, hvn])
                      obtain ⟨n, hn⟩ : ∃ n, n = y.nums.length := ⟨_, rfl⟩
                      have hn9 : n ≤ 100000000 := by have := hR.s2; omega
                      have HN := Lib.hid hn
                      have hv0 : ¬ (vn : Int) < 0 := by omega
                      clear hok hvn hnr hp hPB hn hR
                      go_wp2_with fail
                      refine (HNM.out _).mono ?_
                      rintro e W5 ⟨rfl, hb5⟩
                      have HR5 := Lib.hid (HR.out.below hb5)
                      clear hb5
                      go_upto_region 27 with fail
                      have HG0 : Hid ((fun (j : Nat) (v : Value) (w1 : World) => Mod (FPs g na ia) W5 w1 ∧ (j ≤ 2 → StQ w.heap.size w1 g y na nc ia ic) ∧ (j = 2 → ∃ p0, v = .slice (some ⟨p0, 0, none⟩) 1 1 ∧ Rd encNt w1 (some ⟨p0, 0, none⟩) [vn]) ∧ (j = 3 → ∃ q c wb, v = .slice q (n + 1) c ∧ Nw W5 ia q ∧ StQ w.heap.size wb g y na nc ia ic ∧ PushR encNt 3 wb ia (y.nums ++ [vn]) q c w1) ∧ (j = 4 → ∃ q c, Nw W5 ia q ∧ StQ w.heap.size w1 g { y with nums := y.nums ++ [vn] } na nc q c)) 0 undef W5.drew) := Lib.hid ⟨(Mod.refl _ _).drew, fun _ => HR5.out.st.old ((Below.refl _ _).drew), (fun h => absurd h (by omega)), (fun h => absurd h (by omega)), (fun h => absurd h (by omega))⟩
                      refine wp_region_chain2 (fun t v => match t with
                        | 104 => v = .pointer (some ⟨g, 2, none⟩)
                        | 105 => v = .slice ia n ic
                        | 106 => v = .string PB
                        | 107 => v = .int .i64 (vn : Int)
                        | 110 => v = .pointer (some ⟨g, 2, none⟩)
                        | _ => True) (fun (j : Nat) (v : Value) (w1 : World) => Mod (FPs g na ia) W5 w1 ∧ (j ≤ 2 → StQ w.heap.size w1 g y na nc ia ic) ∧ (j = 2 → ∃ p0, v = .slice (some ⟨p0, 0, none⟩) 1 1 ∧ Rd encNt w1 (some ⟨p0, 0, none⟩) [vn]) ∧ (j = 3 → ∃ q c wb, v = .slice q (n + 1) c ∧ Nw W5 ia q ∧ StQ w.heap.size wb g y na nc ia ic ∧ PushR encNt 3 wb ia (y.nums ++ [vn]) q c w1) ∧ (j = 4 → ∃ q c, Nw W5 ia q ∧ StQ w.heap.size w1 g { y with nums := y.nums ++ [vn] } na nc q c)) [3, 4, 5, 7] 134 (by kernel_rfl) (by decide +kernel) rfl (by decide +kernel) (by decide) (by decide) HG0.out (by
                        refine OweAllC.cons (owesC_val 2 (by decide +kernel) (by decide) rfl rfl fun k' a w1 x hk ha hG hV => ?_) ?_
                        · skip
                          have h7 := ha.outer 7 (by decide +kernel)
                          simp only [Act.eval] at h7
                          exact ⟨.pointer (some ⟨g, 2, none⟩), wanted_free rfl, by simp [execOp, go_sem, h7], rfl⟩
                        refine OweAllC.cons (owesC_val 2 (by decide +kernel) (by decide) rfl rfl fun k' a w1 x hk ha hG hV => ?_) ?_
                        · skip
                          have h104 : a.tmps.getD 104 undef = .pointer (some ⟨g, 2, none⟩) := hV.get 104 (by decide +kernel)
                          have st1 := hG.2.1 (by omega)
                          have cc := st1.cell 2
                          simp only [stC, List.getElem?_toArray, List.getElem?_cons_succ, List.getElem?_cons_zero] at cc
                          rw [← HN.out] at cc
                          exact ⟨.slice ia n ic, wanted_free rfl, by simp [execOp, go_sem, h104, cc], rfl⟩
                        refine OweAllC.cons (owesC_val 0 (by decide +kernel) (by decide) rfl rfl fun k' a w1 x hk ha hG hV => ?_) ?_
                        · skip
                          have h12 := ha.outer 12 (by decide +kernel)
                          simp only [Act.eval] at h12
                          exact ⟨.string PB, wanted_free rfl, by simp [execOp, go_sem, h12], rfl⟩
                        refine OweAllC.cons (owesC_call 0 rfl rfl rfl 26 fun a w1 x ha hG hx hV => ?_) ?_
                        · skip
                          have h106 : a.tmps.getD 106 undef = .string PB := hV.get 106 (by decide +kernel)
                          refine ⟨#[.string PB], wanted_free rfl, by simp [execOp, resolve, invoke, go_sem, h106], ?_⟩
                          have st1 := hG.2.1 (by omega)
                          refine (HNM.out w1).mono ?_
                          rintro r w2 ⟨rfl, hb⟩
                          exact ⟨_, rfl, rfl, hG.1.trans (mod_none hb) (fun _ _ h => h), (fun _ => st1.old hb), (fun h => absurd h (by omega)), (fun h => absurd h (by omega)), (fun h => absurd h (by omega))⟩
                        refine OweAllC.cons (owesC_mem 1 rfl rfl rfl fun a w1 x ha hG hx hV => ?_) ?_
                        · skip
                          have h107 : a.tmps.getD 107 undef = .int .i64 (vn : Int) := hV.get 107 (by decide +kernel)
                          have g107 : a.tmps[107]?.getD undef = .int .i64 (vn : Int) := by simpa using h107
                          have st1 := hG.2.1 (by omega)
                          have hb : Below w1.heap.size w1 (w1.alloc (.cells (encNt.f vn).toArray 3)) := (Below.refl _ _).alloc (Nat.le_refl _) _
                          have hr : Rd encNt (w1.alloc (.cells (encNt.f vn).toArray 3)) (some ⟨w1.heap.size, 0, none⟩) [vn] := by have := Rd.made encNt w1 3 [vn] (by simp [maxLen]); simpa [Enc.all] using this
                          exact ⟨_, _, wanted_free rfl, build_one encNt 31 3 _ 8 Tryd.underlying31 lninfo_int (by decide) (.tmp 107) rfl vn _ rfl h107, trivial, hG.1.trans (mod_none hb) (fun _ _ h => h), (fun _ => st1.old hb), (fun _ => ⟨_, rfl, hr⟩), (fun h => absurd h (by omega)), (fun h => absurd h (by omega))⟩
                        refine OweAllC.cons (owesC_law 2 rfl rfl fun a w1 x ha hG hx hV => ?_) ?_
                        · skip
                          have h105 : a.tmps.getD 105 undef = .slice ia n ic := hV.get 105 (by decide +kernel)
                          have h108 := hx 1 4 _ 108 rfl rfl rfl rfl
                          have st1 := hG.2.1 (by omega)
                          obtain ⟨p0, rfl, hr⟩ := hG.2.2.1 rfl
                          refine ⟨wanted_free rfl, fun K hK => ?_⟩
                          refine wp_pushR1 encNt (.tmp 105) (.tmp 108) 31 3 _ 8 rfl Tryd.underlying31 lninfo_int rfl (by decide) ia ic n y.nums HN.out.symm h105 st1.ri (some ⟨p0, 0, none⟩) 1 vn h108 hr (by omega) ?_
                          rintro q' c' w' hP
                          exact hK _ _ (fun t ht => by cases ht; trivial) ⟨hG.1.trans hP.2.1 (fun i _ h => .inr (.inr h)), (fun h => absurd h (by omega)), (fun h => absurd h (by omega)), (fun _ => ⟨q', c', w1, rfl, (fun a e => by have := hG.1.size; rcases hP.2.2 a e with h | h; exact .inl h; exact .inr (by omega)), st1, hP⟩), (fun h => absurd h (by omega))⟩
                        refine OweAllC.cons (owesC_val 3 (by decide +kernel) (by decide) rfl rfl fun k' a w1 x hk ha hG hV => ?_) ?_
                        · skip
                          have h7 := ha.outer 7 (by decide +kernel)
                          simp only [Act.eval] at h7
                          exact ⟨.pointer (some ⟨g, 2, none⟩), wanted_free rfl, by simp [execOp, go_sem, h7], rfl⟩
                        refine OweAllC.cons (owesC_store 3 rfl rfl rfl fun a w1 x ha hG hx hV => ?_) ?_
                        · skip
                          have h110 : a.tmps.getD 110 undef = .pointer (some ⟨g, 2, none⟩) := hV.get 110 (by decide +kernel)
                          have h109 := hx 2 5 _ 109 rfl rfl rfl rfl
                          simp only [Act.eval] at h109
                          obtain ⟨q', c', wb, rfl, hn1, st1, hP⟩ := hG.2.2.2.1 rfl
                          obtain ⟨cc, cf, st2, hb⟩ := st1.num hP
                          rw [← HN.out] at cc st2
                          exact ⟨w1.setCell ⟨g, 2, none⟩ (.slice q' (n + 1) c'), wanted_free rfl, by simp [execOp, go_sem, h110, h109, cc, cf], hG.1.setCell (p := ⟨g, 2, none⟩) (fun _ => .inl rfl) _, (fun h => absurd h (by omega)), (fun h => absurd h (by omega)), (fun h => absurd h (by omega)), (fun _ => ⟨q', c', hn1, st2⟩)⟩
                        exact OweAllC.nil
                        ) ?_
                      intro f wz xz hG hx hv
                      refine moves_back (P := Tryd.prog) (ops := #[]) f _ _ _ ?_
                      simp only [dsts, List.filterMap_cons, List.filterMap_nil, List.map_cons, List.map_nil]
                      clear hv hx
                      unfold mv
                      have hF := Lib.hid hG
                      clear hG HG0
                      have HNX : Hid (∃ ia' ic', RiR w g L (some ⟨b, 0, none⟩) lc T0 F c P (some ⟨gp, 0, none⟩) k (j + 1) { y with nums := y.nums ++ [vn] } na nc ia' ic' wz) := Lib.hid (by
                        obtain ⟨q, c', hn1, st⟩ := hF.out.2.2.2.2 rfl
                        exact ⟨q, c', HR5.out.next hF.out.1 st (Nw.refl _ _) hn1 hjl HY.out⟩)
                      clear hF HR5 HNM
                      go_wp2_with fail
                      obtain ⟨ia', ic', hnx⟩ := HNX.out
                      go_roundw
                      case rel => exact ⟨j + 1, _, _, _, _, _, by go_num, by omega, hnx⟩
                      case measure => simp [intOf]; omega
                    · have hok' : numOk p = false := by simpa using hok
                      have hnr : numR p = -1 := by unfold numR; rw [hok']; rfl
                      rw [hnr] at HNM
                      have HY : Hid (part1 c P[j] y = none) := Lib.hid (by rw [← hp, HCL.out]; unfold part1; rw [if_pos (by decide), hok']; rfl)
                      have e9 : Hid (R = StepP w none) := Lib.hid (by rw [HST.out, HR.out.stop hjl HY.out])
                      clear hok hok' hnr hp hPB hR
                      go_wp2_with fail
                      refine (HNM.out _).mono ?_
                      rintro e W5 ⟨rfl, hb5⟩
                      have hR5 := HR.out.below hb5
                      have hg2 := hR5.rb
                      have hb2 := hR5.m
                      clear hb5 hR5
                      have HG2 := Lib.hid hg2
                      have HZR := Lib.hid (zRowQ hg2 hb2 (stC zSt none 0 none 0))
                      clear hg2 hb2
                      go_wp2_with (refine wpList_store_row rfl rfl 33 (.tmp 2) (.tmp 103) rfl w.heap.size rfl 33 _ (stC zSt none 0 none 0) rfl HG2.out rfl (rl_size _ _ _ _ _) stC_one ?_)
                      refine bodyPost_ret (v := .tuple #[.agg (stC zSt none 0 none 0), .bool false]) (results_cell_slotL Tryd.results17 _ _ w.heap.size 33 _ (0, 0) _ _ rfl rfl HZR.out.1 Tryd.underlying33 rfl (rl_size _ _ _ _ _)) rfl ?_
                      rw [e9.out]; exact stepP_none HZR.out.2.1
                  · obtain rfl : j = 1 := by omega
                    have HLV := Lib.hid (RiR.leave (nd := nd) (fs := fs) (by rw [HPN.out, ← HF.out]; exact hR) (by rw [HPN.out]; exact hpn))
                    clear hR
                    go_wp2_with fail
                    go_roundw
                    case rel => exact ⟨k + 1, _, _, _, _, _, by go_num, by omega, HLV.out⟩
                    case measure => simp [intOf]; omega
              · by_cases h73 : c = 73
                · have hc := h73
                  clear h76 h77 h78 h73
                  obtain ⟨P, hP⟩ : ∃ P : List (List UInt8), P = [f] := ⟨_, rfl⟩
                  have hcP : partsF c f = P := by rw [hP]; rw [hc]; unfold partsF; rw [if_neg (by decide)]
                  have hP9 : P.length ≤ 1000001 := by rw [← hcP]; have := parts_len c f; omega
                  have HPZ : Hid (∀ p ∈ P, p.length ≤ 1000000) := Lib.hid (by rw [← hcP]; exact fun p hp => Nat.le_trans (parts_sz c f p hp) hfl)
                  obtain ⟨pn, hpn0⟩ : ∃ pn, pn = P.length := ⟨_, rfl⟩
                  have HPN := Lib.hid hpn0.symm
                  have hpn : pn ≤ 1000001 := by rw [hpn0]; exact hP9
                  obtain ⟨F, hF⟩ : ∃ F, F = takeAll (nd.drop (k + 1)) (fs.drop (k + 1)) := ⟨_, rfl⟩
                  have hEN : ∀ (pq : Option Addr) (W : World), Below wr.heap.size wr W → Rd encS W pq P → (∀ b, pq = some b → wr.heap.size ≤ b.block) → RiR w g L (some ⟨b, 0, none⟩) lc T0 F c P pq k 0 x na nc ia ic W := by
                              intro pq W e1 e2 e3
                              have := HR0.out.enter hlt hfk (pq := pq) e1 (by rw [← hcc, ← hf, hcP]; exact e2) e3
                              rw [← hcc, ← hf, hcP, ← hF] at this
                              exact this
                  have HEN := Lib.hid hEN
                  have HF := Lib.hid hF
                  have hgD : ((D[k]'hkD).toNat : Int) = 73 := by rw [hgD0, hc]; rfl
                  have HCL := Lib.hid hc
                  have HP := Lib.hid hP
                  have HFB := Lib.hid hFB
                  clear hP hcP hP9 hpn0 hF hEN hFB hFL hgD0 hc
                  clear hcc hf
                  obtain ⟨gp, hgp⟩ : ∃ gp, gp = wr.heap.size := ⟨_, rfl⟩
                  have HENT := Lib.hid (HEN.out (some ⟨gp, 0, none⟩) (wr.alloc (.cells #[.string FB] 9)) ((Below.refl _ _).alloc (Nat.le_refl _) _) (by rw [HP.out, hgp, HFB.out]; exact Rd.made encS wr 9 [f] (by simp [maxLen])) (fun b e => by cases e; rw [hgp]; exact Nat.le_refl _))
                  obtain rfl : pn = 1 := by rw [← HPN.out, HP.out]; rfl
                  clear HEN
                  go_wp2_with fail
                  rw [← hgp]
                  clear hgp
                  go_loopw [80] (fun s80 wr => ∃ (j : Nat) (y : St) (na : Option Addr) (nc : Nat) (ia : Option Addr) (ic : Nat), s80 = .int .i64 j ∧ j ≤ 1 ∧ RiR w g L (some ⟨b, 0, none⟩) lc T0 F c P (some ⟨gp, 0, none⟩) k j y na nc ia ic wr) (fun s80 _ => 1 - (intOf s80).toNat)
                  case atStart => exact ⟨0, _, _, _, _, _, rfl, by omega, HENT.out⟩
                  case round =>
                    clear HENT
                    obtain ⟨j, y, na, nc, ia, ic, rfl, hjn, hR⟩ := hrel
                    by_cases hlt2 : j < 1
                    · have hjl : j < P.length := by rw [HPN.out]; exact hlt2
                      have j1 : (j : Int) < 1 := by omega
                      obtain ⟨p, hp⟩ : ∃ p, p = P[j] := ⟨_, rfl⟩
                      have hpl : p.length ≤ 1000000 := by rw [hp]; exact HPZ.out _ (List.getElem_mem hjl)
                      obtain ⟨PB, hPB⟩ : ∃ B, B = ByteArray.mk p.toArray := ⟨_, rfl⟩
                      have c0 := rd0 hR.pr hjl
                      rw [← hp, ← hPB] at c0
                      have HR := Lib.hid hR
                      have HNM := Lib.hid (fun w => rlname_any p w (by omega))
                      rw [← hPB] at HNM
                      by_cases hok : nameB p = true
                      · rw [hok] at HNM
                        have HY : Hid (part1 c P[j] y = some { y with names := y.names ++ [p] }) := Lib.hid (by rw [← hp, HCL.out]; unfold part1; rw [if_neg (by decide), if_pos (by decide), if_pos hok])
                        obtain ⟨n, hn⟩ : ∃ n, n = y.names.length := ⟨_, rfl⟩
                        have hn9 : n ≤ 100000000 := by have := hR.s1; omega
                        have HN := Lib.hid hn
                        have c1 := hR.st.cell 1
                        simp only [stC, List.getElem?_toArray, List.getElem?_cons_succ, List.getElem?_cons_zero] at c1
                        rw [← hn] at c1
                        have HPB := Lib.hid hPB
                        clear hok hp hn hR hPB
                        go_wp2_with fail
                        refine (HNM.out _).mono ?_
                        rintro e W5 ⟨rfl, rfl⟩
                        go_upto_region 32 with fail
                        rw [HPB.out]
                        go_wp2_with (at_builtin; refine wpList_pushR encS rfl _ _ 30 9 (.string ⟨#[]⟩) 16 rfl Tryd.underlying30 lninfo_str rfl (by decide) na nc n y.names HN.out.symm rfl (HR.out.st.rn.old ((Below.refl _ _).alloc (Nat.le_refl _) _)) (some ⟨_, 0, none⟩) 1 1 [p] rfl rfl (Rd.made encS _ 9 [p] (by simp [maxLen])) (by omega) ?_)
                        intro q c' w6 hP
                        have hS2 := HR.out.st.old ((Below.refl _ _).alloc (Nat.le_refl _) (.cells (encS.all [p]).toArray 9))
                        obtain ⟨d1, d2, d3, d4⟩ := hS2.name hP
                        rw [← HN.out] at d1 d3
                        have HM6 := Lib.hid ((mod_none (S := FPs g na ia) ((Below.refl _ _).alloc (Nat.le_refl _) (.cells (encS.all [p]).toArray 9))).trans hP.2.1 (fun i _ h => .inr (.inl h)) |>.setCell (p := ⟨g, 1, none⟩) (fun _ => .inl rfl) (.slice q (n + 1) c'))
                        have HNX := Lib.hid (HR.out.next HM6.out d3 (fun a e => by rcases hP.2.2 a e with h | h; exact .inl h; exact .inr (by simp at h; omega)) (Nw.refl _ _) hjl HY.out)
                        clear hP hS2 d3 d4 c1 HM6
                        go_wp2_with fail
                        go_roundw
                        case rel => exact ⟨j + 1, _, _, _, _, _, by go_num, by omega, HNX.out⟩
                        case measure => simp [intOf]; omega
                      · have hok' : nameB p = false := by simpa using hok
                        rw [hok'] at HNM
                        have HY : Hid (part1 c P[j] y = none) := Lib.hid (by rw [← hp, HCL.out]; unfold part1; rw [if_neg (by decide), if_pos (by decide), hok']; rfl)
                        have e9 : Hid (R = StepP w none) := Lib.hid (by rw [HST.out, HR.out.stop hjl HY.out])
                        have hg2 := hR.rb
                        have hb2 := hR.m
                        clear hok hok' hp hPB hR
                        go_wp2_with fail
                        refine (HNM.out _).mono ?_
                        rintro e W5 ⟨rfl, rfl⟩
                        have HG2 := Lib.hid hg2
                        have HZR := Lib.hid (zRowQ hg2 hb2 (stC zSt none 0 none 0))
                        clear hg2 hb2
                        go_wp2_with (refine wpList_store_row rfl rfl 33 (.tmp 2) (.tmp 117) rfl w.heap.size rfl 33 _ (stC zSt none 0 none 0) rfl HG2.out rfl (rl_size _ _ _ _ _) stC_one ?_)
                        refine bodyPost_ret (v := .tuple #[.agg (stC zSt none 0 none 0), .bool false]) (results_cell_slotL Tryd.results17 _ _ w.heap.size 33 _ (0, 0) _ _ rfl rfl HZR.out.1 Tryd.underlying33 rfl (rl_size _ _ _ _ _)) rfl ?_
                        rw [e9.out]; exact stepP_none HZR.out.2.1
                    · obtain rfl : j = 1 := by omega
                      have HLV := Lib.hid (RiR.leave (nd := nd) (fs := fs) (by rw [HPN.out, ← HF.out]; exact hR) (by rw [HPN.out]; exact hpn))
                      clear hR
                      go_wp2_with fail
                      go_roundw
                      case rel => exact ⟨k + 1, _, _, _, _, _, by go_num, by omega, HLV.out⟩
                      case measure => simp [intOf]; omega
                · by_cases h84 : c = 84
                  · have hc := h84
                    clear h76 h77 h78 h73 h84
                    obtain ⟨P, hP⟩ : ∃ P : List (List UInt8), P = [f] := ⟨_, rfl⟩
                    have hcP : partsF c f = P := by rw [hP]; rw [hc]; unfold partsF; rw [if_neg (by decide)]
                    have hP9 : P.length ≤ 1000001 := by rw [← hcP]; have := parts_len c f; omega
                    have HPZ : Hid (∀ p ∈ P, p.length ≤ 1000000) := Lib.hid (by rw [← hcP]; exact fun p hp => Nat.le_trans (parts_sz c f p hp) hfl)
                    obtain ⟨pn, hpn0⟩ : ∃ pn, pn = P.length := ⟨_, rfl⟩
                    have HPN := Lib.hid hpn0.symm
                    have hpn : pn ≤ 1000001 := by rw [hpn0]; exact hP9
                    obtain ⟨F, hF⟩ : ∃ F, F = takeAll (nd.drop (k + 1)) (fs.drop (k + 1)) := ⟨_, rfl⟩
                    have hEN : ∀ (pq : Option Addr) (W : World), Below wr.heap.size wr W → Rd encS W pq P → (∀ b, pq = some b → wr.heap.size ≤ b.block) → RiR w g L (some ⟨b, 0, none⟩) lc T0 F c P pq k 0 x na nc ia ic W := by
                                intro pq W e1 e2 e3
                                have := HR0.out.enter hlt hfk (pq := pq) e1 (by rw [← hcc, ← hf, hcP]; exact e2) e3
                                rw [← hcc, ← hf, hcP, ← hF] at this
                                exact this
                    have HEN := Lib.hid hEN
                    have HF := Lib.hid hF
                    have hgD : ((D[k]'hkD).toNat : Int) = 84 := by rw [hgD0, hc]; rfl
                    have HCL := Lib.hid hc
                    have HP := Lib.hid hP
                    have HFB := Lib.hid hFB
                    clear hP hcP hP9 hpn0 hF hEN hFB hFL hgD0 hc
                    clear hcc hf
                    obtain ⟨gp, hgp⟩ : ∃ gp, gp = wr.heap.size := ⟨_, rfl⟩
                    have HENT := Lib.hid (HEN.out (some ⟨gp, 0, none⟩) (wr.alloc (.cells #[.string FB] 9)) ((Below.refl _ _).alloc (Nat.le_refl _) _) (by rw [HP.out, hgp, HFB.out]; exact Rd.made encS wr 9 [f] (by simp [maxLen])) (fun b e => by cases e; rw [hgp]; exact Nat.le_refl _))
                    obtain rfl : pn = 1 := by rw [← HPN.out, HP.out]; rfl
                    clear HEN
                    go_wp2_with fail
                    rw [← hgp]
                    clear hgp
                    go_loopw [80] (fun s80 wr => ∃ (j : Nat) (y : St) (na : Option Addr) (nc : Nat) (ia : Option Addr) (ic : Nat), s80 = .int .i64 j ∧ j ≤ 1 ∧ RiR w g L (some ⟨b, 0, none⟩) lc T0 F c P (some ⟨gp, 0, none⟩) k j y na nc ia ic wr) (fun s80 _ => 1 - (intOf s80).toNat)
                    case atStart => exact ⟨0, _, _, _, _, _, rfl, by omega, HENT.out⟩
                    case round =>
                      clear HENT
                      obtain ⟨j, y, na, nc, ia, ic, rfl, hjn, hR⟩ := hrel
                      by_cases hlt2 : j < 1
                      · have hjl : j < P.length := by rw [HPN.out]; exact hlt2
                        have j1 : (j : Int) < 1 := by omega
                        obtain ⟨p, hp⟩ : ∃ p, p = P[j] := ⟨_, rfl⟩
                        have hpl : p.length ≤ 1000000 := by rw [hp]; exact HPZ.out _ (List.getElem_mem hjl)
                        obtain ⟨PB, hPB⟩ : ∃ B, B = ByteArray.mk p.toArray := ⟨_, rfl⟩
                        have c0 := rd0 hR.pr hjl
                        rw [← hp, ← hPB] at c0
                        have HR := Lib.hid hR
                        have HNM := Lib.hid (fun w => rlplain_any p 8 w (by omega) (by omega))
                        rw [← hPB] at HNM
                        by_cases hok : plainB p 8 = true
                        · rw [hok] at HNM
                          have HY : Hid (part1 c P[j] y = some { y with text := p }) := Lib.hid (by rw [← hp, HCL.out]; unfold part1; rw [if_neg (by decide), if_neg (by decide), if_pos rfl, if_pos hok])
                          have c1 := hR.st.cell 3
                          simp only [stC, List.getElem?_toArray, List.getElem?_cons_succ, List.getElem?_cons_zero] at c1
                          have d2 := hR.st.froz 3
                          have hS3 := hR.st.txt p
                          rw [← hPB] at hS3
                          have HNX := Lib.hid (HR.out.next ((Mod.refl (FPs g na ia) _).setCell (p := ⟨g, 3, none⟩) (fun _ => .inl rfl) (.string PB)) hS3 (Nw.refl _ _) (Nw.refl _ _) hjl HY.out)
                          clear hok hp hR hPB hS3
                          go_wp2_with fail
                          refine (HNM.out _).mono ?_
                          rintro e W5 ⟨rfl, rfl⟩
                          go_wp2_with fail
                          go_roundw
                          case rel => exact ⟨j + 1, _, _, _, _, _, by go_num, by omega, HNX.out⟩
                          case measure => simp [intOf]; omega
                        · have hok' : plainB p 8 = false := by simpa using hok
                          rw [hok'] at HNM
                          have HY : Hid (part1 c P[j] y = none) := Lib.hid (by rw [← hp, HCL.out]; unfold part1; rw [if_neg (by decide), if_neg (by decide), if_pos rfl, hok']; rfl)
                          have e9 : Hid (R = StepP w none) := Lib.hid (by rw [HST.out, HR.out.stop hjl HY.out])
                          have hg2 := hR.rb
                          have hb2 := hR.m
                          clear hok hok' hp hPB hR
                          go_wp2_with fail
                          refine (HNM.out _).mono ?_
                          rintro e W5 ⟨rfl, rfl⟩
                          have HG2 := Lib.hid hg2
                          have HZR := Lib.hid (zRowQ hg2 hb2 (stC zSt none 0 none 0))
                          clear hg2 hb2
                          go_wp2_with (refine wpList_store_row rfl rfl 33 (.tmp 2) (.tmp 129) rfl w.heap.size rfl 33 _ (stC zSt none 0 none 0) rfl HG2.out rfl (rl_size _ _ _ _ _) stC_one ?_)
                          refine bodyPost_ret (v := .tuple #[.agg (stC zSt none 0 none 0), .bool false]) (results_cell_slotL Tryd.results17 _ _ w.heap.size 33 _ (0, 0) _ _ rfl rfl HZR.out.1 Tryd.underlying33 rfl (rl_size _ _ _ _ _)) rfl ?_
                          rw [e9.out]; exact stepP_none HZR.out.2.1
                      · obtain rfl : j = 1 := by omega
                        have HLV := Lib.hid (RiR.leave (nd := nd) (fs := fs) (by rw [HPN.out, ← HF.out]; exact hR) (by rw [HPN.out]; exact hpn))
                        clear hR
                        go_wp2_with fail
                        go_roundw
                        case rel => exact ⟨k + 1, _, _, _, _, _, by go_num, by omega, HLV.out⟩
                        case measure => simp [intOf]; omega
                  · have hcl : ¬ (c = 76 ∨ c = 77) := by rintro (h | h); exact h76 h; exact h77 h
                    have hco : (¬ (c = 78 ∨ c = 77)) ∧ (¬ (c = 73 ∨ c = 76)) ∧ ¬ c = 84 := ⟨by rintro (h | h); exact h78 h; exact h77 h, by rintro (h | h); exact h73 h; exact h76 h, h84⟩
                    clear h76 h77 h78 h73 h84
                    obtain ⟨P, hP⟩ : ∃ P : List (List UInt8), P = [f] := ⟨_, rfl⟩
                    have hcP : partsF c f = P := by rw [hP]; unfold partsF; rw [if_neg hcl]
                    have hP9 : P.length ≤ 1000001 := by rw [← hcP]; have := parts_len c f; omega
                    have HPZ : Hid (∀ p ∈ P, p.length ≤ 1000000) := Lib.hid (by rw [← hcP]; exact fun p hp => Nat.le_trans (parts_sz c f p hp) hfl)
                    obtain ⟨pn, hpn0⟩ : ∃ pn, pn = P.length := ⟨_, rfl⟩
                    have HPN := Lib.hid hpn0.symm
                    have hpn : pn ≤ 1000001 := by rw [hpn0]; exact hP9
                    obtain ⟨F, hF⟩ : ∃ F, F = takeAll (nd.drop (k + 1)) (fs.drop (k + 1)) := ⟨_, rfl⟩
                    have hEN : ∀ (pq : Option Addr) (W : World), Below wr.heap.size wr W → Rd encS W pq P → (∀ b, pq = some b → wr.heap.size ≤ b.block) → RiR w g L (some ⟨b, 0, none⟩) lc T0 F c P pq k 0 x na nc ia ic W := by
                                intro pq W e1 e2 e3
                                have := HR0.out.enter hlt hfk (pq := pq) e1 (by rw [← hcc, ← hf, hcP]; exact e2) e3
                                rw [← hcc, ← hf, hcP, ← hF] at this
                                exact this
                    have HEN := Lib.hid hEN
                    have HF := Lib.hid hF
                    obtain ⟨cn, hcn⟩ : ∃ cn, cn = c.toNat := ⟨_, rfl⟩
                    have hgD : ((D[k]'hkD).toNat : Int) = cn := by rw [hgD0, hcn]
                    have HCO : Hid ((¬ (c = 78 ∨ c = 77)) ∧ (¬ (c = 73 ∨ c = 76)) ∧ ¬ c = 84) := Lib.hid hco
                    have hnl : ∀ v : UInt8, c ≠ v → ((cn : Int) == (v.toNat : Int)) = false := fun v h => by rw [beq_eq_false_iff_ne, hcn]; intro e; exact h (UInt8.toNat_inj.1 (by omega))
                    have t1 : ((cn : Int) == 78) = false := hnl 78 (fun e => hco.1 (.inl e))
                    have t2 : ((cn : Int) == 77) = false := hnl 77 (fun e => hco.1 (.inr e))
                    have t3 : ((cn : Int) == 73) = false := hnl 73 (fun e => hco.2.1 (.inl e))
                    have t4 : ((cn : Int) == 76) = false := hnl 76 (fun e => hco.2.1 (.inr e))
                    have t5 : ((cn : Int) == 84) = false := hnl 84 hco.2.2
                    clear hnl hcn hco hcl
                    have HP := Lib.hid hP
                    have HFB := Lib.hid hFB
                    clear hP hcP hP9 hpn0 hF hEN hFB hFL hgD0
                    clear hcc hf
                    obtain ⟨gp, hgp⟩ : ∃ gp, gp = wr.heap.size := ⟨_, rfl⟩
                    have HENT := Lib.hid (HEN.out (some ⟨gp, 0, none⟩) (wr.alloc (.cells #[.string FB] 9)) ((Below.refl _ _).alloc (Nat.le_refl _) _) (by rw [HP.out, hgp, HFB.out]; exact Rd.made encS wr 9 [f] (by simp [maxLen])) (fun b e => by cases e; rw [hgp]; exact Nat.le_refl _))
                    obtain rfl : pn = 1 := by rw [← HPN.out, HP.out]; rfl
                    clear HEN
                    go_wp2_with fail
                    rw [← hgp]
                    clear hgp
                    go_loopw [80] (fun s80 wr => ∃ (j : Nat) (y : St) (na : Option Addr) (nc : Nat) (ia : Option Addr) (ic : Nat), s80 = .int .i64 j ∧ j ≤ 1 ∧ RiR w g L (some ⟨b, 0, none⟩) lc T0 F c P (some ⟨gp, 0, none⟩) k j y na nc ia ic wr) (fun s80 _ => 1 - (intOf s80).toNat)
                    case atStart => exact ⟨0, _, _, _, _, _, rfl, by omega, HENT.out⟩
                    case round =>
                      clear HENT
                      obtain ⟨j, y, na, nc, ia, ic, rfl, hjn, hR⟩ := hrel
                      by_cases hlt2 : j < 1
                      · have hjl : j < P.length := by rw [HPN.out]; exact hlt2
                        have j1 : (j : Int) < 1 := by omega
                        obtain ⟨p, hp⟩ : ∃ p, p = P[j] := ⟨_, rfl⟩
                        have hpl : p.length ≤ 1000000 := by rw [hp]; exact HPZ.out _ (List.getElem_mem hjl)
                        obtain ⟨PB, hPB⟩ : ∃ B, B = ByteArray.mk p.toArray := ⟨_, rfl⟩
                        have c0 := rd0 hR.pr hjl
                        rw [← hp, ← hPB] at c0
                        have HR := Lib.hid hR
                        have HNM := Lib.hid (fun w => rlbytes_any p w hpl)
                        rw [← hPB] at HNM
                        unfold hexV at HNM
                        have hpo : part1 c p y = (hexO p).map fun b => { y with text := b } := by unfold part1; rw [if_neg HCO.out.1, if_neg HCO.out.2.1, if_neg HCO.out.2.2]
                        cases hok : hexO p with
                        | some bv =>
                          rw [hok] at HNM hpo
                          simp only [Option.getD_some, Option.isSome_some] at HNM
                          have HY : Hid (part1 c P[j] y = some { y with text := bv }) := Lib.hid (by rw [← hp, hpo]; rfl)
                          clear hok hp hR hPB hpo
                          go_wp2_with fail
                          refine (HNM.out _).mono ?_
                          rintro e W5 ⟨rfl, hb5⟩
                          have hR5 := HR.out.below hb5
                          have c1 := hR5.st.cell 3
                          simp only [stC, List.getElem?_toArray, List.getElem?_cons_succ, List.getElem?_cons_zero] at c1
                          have d2 := hR5.st.froz 3
                          have HNX := Lib.hid (hR5.next ((Mod.refl (FPs g na ia) _).setCell (p := ⟨g, 3, none⟩) (fun _ => .inl rfl) (.string ⟨bv.toArray⟩)) (hR5.st.txt bv) (Nw.refl _ _) (Nw.refl _ _) hjl HY.out)
                          clear hb5 hR5
                          go_wp2_with fail
                          go_roundw
                          case rel => exact ⟨j + 1, _, _, _, _, _, by go_num, by omega, HNX.out⟩
                          case measure => simp [intOf]; omega
                        | none =>
                          rw [hok] at HNM hpo
                          simp only [Option.getD_none, Option.isSome_none] at HNM
                          have HY : Hid (part1 c P[j] y = none) := Lib.hid (by rw [← hp, hpo]; rfl)
                          have e9 : Hid (R = StepP w none) := Lib.hid (by rw [HST.out, HR.out.stop hjl HY.out])
                          clear hok hp hR hPB hpo
                          go_wp2_with fail
                          refine (HNM.out _).mono ?_
                          rintro e W5 ⟨rfl, hb5⟩
                          have hR5 := HR.out.below hb5
                          have hg2 := hR5.rb
                          have hb2 := hR5.m
                          clear hb5 hR5
                          have HG2 := Lib.hid hg2
                          have HZR := Lib.hid (zRowQ hg2 hb2 (stC zSt none 0 none 0))
                          clear hg2 hb2
                          go_wp2_with (refine wpList_store_row rfl rfl 33 (.tmp 2) (.tmp 94) rfl w.heap.size rfl 33 _ (stC zSt none 0 none 0) rfl HG2.out rfl (rl_size _ _ _ _ _) stC_one ?_)
                          refine bodyPost_ret (v := .tuple #[.agg (stC zSt none 0 none 0), .bool false]) (results_cell_slotL Tryd.results17 _ _ w.heap.size 33 _ (0, 0) _ _ rfl rfl HZR.out.1 Tryd.underlying33 rfl (rl_size _ _ _ _ _)) rfl ?_
                          rw [e9.out]; exact stepP_none HZR.out.2.1
                      · obtain rfl : j = 1 := by omega
                        have HLV := Lib.hid (RiR.leave (nd := nd) (fs := fs) (by rw [HPN.out, ← HF.out]; exact hR) (by rw [HPN.out]; exact hpn))
                        clear hR
                        go_wp2_with fail
                        go_roundw
                        case rel => exact ⟨k + 1, _, _, _, _, _, by go_num, by omega, HLV.out⟩
                        case measure => simp [intOf]; omega
        · obtain rfl : k = dn := by omega
          have e9 : Hid (R = StepP w (some x)) := Lib.hid (by rw [HST.out, hR.eq, HDN.out, List.drop_length]; rfl)
          have HR := Lib.hid hR
          have HGR := Lib.hid hR.st.blk
          have HRB := Lib.hid hR.rb
          have HZR := Lib.hid (zRowQ hR.rb hR.m (stC x na nc ia ic))
          clear hR
          go_wp2_with (first
            | (refine wpList_load_row rfl 33 (.tmp 7) rfl g rfl 33 _ (0, 0) _ HGR.out Tryd.underlying33 rfl (rl_size _ _ _ _ _) ?_)
            | (refine wpList_store_row rfl rfl 33 (.tmp 2) (.tmp 133) rfl w.heap.size rfl 33 _ (stC x na nc ia ic) rfl HRB.out rfl (rl_size _ _ _ _ _) stC_one ?_))
          refine bodyPost_ret (v := .tuple #[.agg (stC x na nc ia ic), .bool true]) (results_cell_slotL Tryd.results17 _ _ w.heap.size 33 _ (0, 0) _ _ rfl rfl HZR.out.1 Tryd.underlying33 rfl (rl_size _ _ _ _ _)) rfl ?_
          rw [e9.out]
          have hgg := HR.out.hg
          exact ⟨HZR.out.2.1, na, nc, ia, ic, rfl, HR.out.st.rn.kept HZR.out.2.2 (fun a e h => by have := HR.out.n1 a e; omega), HR.out.st.ri.kept HZR.out.2.2 (fun a e h => by have := HR.out.n2 a e; omega), (fun a e => (HR.out.st.an a e).1), fun a e => (HR.out.st.ai a e).1⟩
    · have e9 : Hid (R = StepP w none) := Lib.hid (by rw [hR, hst]; unfold stepW; rw [hnd]; simp only [if_neg hcnt])
      have q1 : IntKind.i64.wrap (1 + (dn : Int)) = 1 + dn := by rw [IntKind.wrap_i64]; omega
      have q2 : ((ln : Int) != 1 + (dn : Int)) = true := by rw [bne_iff_ne]; omega
      clear hR hst hnd hl1 hcnt hdn hD
      go_enter Tryd.func17, Tryd.ntmps17
      go_wp2_with fail
      refine (HSP.out _).mono ?_
      rintro r w1 ⟨hb1, lq, lc, rfl, hRl, hlq⟩
      have hgV : w1.heap[w.heap.size]? = some (.cells (stC zSt none 0 none 0) 33 (0, 0)) := (hb1.block _ (by simp)).trans (heap_alloc_new w _)
      have hbV : Below w.heap.size w w1 := ((Below.refl _ w).alloc (Nat.le_refl _) _).trans (hb1.mono (by simp))
      obtain ⟨b, rfl, hblt⟩ := shape_ne hRl (by rw [HLe.out]; simp)
      have c0 := rd0 hRl.rd (j := 0) (by rw [HLe.out]; simp)
      rw [HL0.out] at c0
      have hbb : w.heap.size < b := by have := hlq _ rfl; simp at this; omega
      have HRL := Lib.hid hRl
      have HGV := Lib.hid hgV
      have HBV := Lib.hid hbV
      have HBB := Lib.hid hbb
      have HBL := Lib.hid hblt
      clear hRl hgV hbV hbb hblt hlq hb1
      go_wp2_with fail
      refine (HNEED.out _).mono ?_
      rintro r w2 ⟨rfl, hb2⟩
      go_upto_region 4 with fail
      have hg2 := (hb2.block _ (Array.getElem?_eq_some_iff.1 HGV.out).1).trans HGV.out
      have hb3 := HBV.out.trans (hb2.mono HBV.out.size)
      clear hb2 c0
      have hb2 := hb3
      clear hb3
      have HG2 := Lib.hid hg2
      have HZR := Lib.hid (zRowQ hg2 hb2 (stC zSt none 0 none 0))
      clear hg2 hb2
      go_wp2_with (refine wpList_store_row rfl rfl 33 (.tmp 2) (.tmp 34) rfl w.heap.size rfl 33 _ (stC zSt none 0 none 0) rfl HG2.out rfl (rl_size _ _ _ _ _) stC_one ?_)
      refine bodyPost_ret (v := .tuple #[.agg (stC zSt none 0 none 0), .bool false]) (results_cell_slotL Tryd.results17 _ _ w.heap.size 33 _ (0, 0) _ _ rfl rfl HZR.out.1 Tryd.underlying33 rfl (rl_size _ _ _ _ _)) rfl ?_
      rw [e9.out]; exact stepP_none HZR.out.2.1
end Go.Proofs.YtpdhmjmklmoknaaDoor

namespace Go.Proofs.YtpdhmjmklmoknaaDoor
open Go.RowKit Go.Shelf

theorem lninfo_rl : (Tryd.prog.info? 33).map (fun i => (i.zero, i.size, i.bytes)) = some (some (.agg (stC zSt none 0 none 0)), 4, 80) := by kernel_rfl
theorem wpList_gen {P : Program} {ops : Array Oper} {rest : List Oper} {a : Act} {w : World} {Q : Exit → Act → World → Prop} (R : World → Prop) (hR : R w) (h : ∀ w', R w' → wpList P ops Q rest a w') : wpList P ops Q rest a w := h w hR
theorem wpList_exec {P : Program} {ops : Array Oper} {rest : List Oper} {o : Oper} {a : Act} {w w' : World} {Q : Exit → Act → World → Prop} {v : Value} (hgd : o.guard = none) (hr : (execOp a.eval o).run P w = .ok (.value v) w') (h : wpList P ops Q rest (a.put o.dst v) w') : wpList P ops Q (o :: rest) a w := by
  refine wpList_plain hgd fun K hK => ?_
  unfold Oper.wp
  rw [hr]
  exact hK _ _ h
/-- What the reference's Parse answers. -/
def ParQ (w : World) (p : List St × Nat × Bool) (r : Ending) (w' : World) : Prop :=
  Below w.heap.size w w' ∧ ∃ (q : Option Addr) (c : Nat) (V : List Sv), r = .returned (.tuple #[.slice q V.length c, .int .i64 p.2.1, .bool p.2.2]) ∧ V.map Sv.st = p.1 ∧ Rw encV 33 w' q c V ∧ (∀ a, q = some a → w.heap.size ≤ a.block) ∧ ∀ v ∈ V, okV w.heap.size w' v
/-- While lines are read. -/
structure PqR (w : World) (P : List (List UInt8)) (b lc : Nat) (T : List St × Nat × Bool) (i : Nat) (q : Option Addr) (c : Nat) (V : List Sv) (wr : World) : Prop where
  rw : Rw encV 33 wr q c V
  nw : ∀ a, q = some a → w.heap.size ≤ a.block
  rp : Rw encS 9 wr (some ⟨b, 0, none⟩) lc P
  ok : ∀ v ∈ V, okV w.heap.size wr v
  m : Below w.heap.size w wr
  eq : T = parG (P.drop i) i (V.map Sv.st)
  ln : V.length ≤ 300
section
variable {w : World} {P : List (List UInt8)} {b lc : Nat} {T : List St × Nat × Bool} {i : Nat} {q : Option Addr} {c : Nat} {V : List Sv} {wr : World}
theorem PqR.old (h : PqR w P b lc T i q c V wr) {W : World} (hb : Below wr.heap.size wr W) : PqR w P b lc T i q c V W :=
  ⟨h.rw.old hb, h.nw, h.rp.old hb, fun v hv => (h.ok v hv).old hb, h.m.trans (hb.mono h.m.size), h.eq, h.ln⟩
theorem PqR.push (h : PqR w P b lc T i q c V wr) {sv : Sv} {q2 : Option Addr} {c2 : Nat} {W6 : World} (hsv : okV w.heap.size wr sv) (hP : PushR encV 33 wr q (V ++ [sv]) q2 c2 W6) (he : T = parG (P.drop (i + 1)) (i + 1) ((V ++ [sv]).map Sv.st)) (hl : V.length < 300) :
    PqR w P b lc T (i + 1) q2 c2 (V ++ [sv]) W6 := by
  have k : ∀ {v : Sv}, okV w.heap.size wr v → okV w.heap.size W6 v := fun {v} hv => hv.kept hP.2.1 (fun a e => by rintro ⟨a2, e2, e3⟩; exact Rw.ne hv.rn h.rw (by decide) a a2 e e2 e3) (fun a e => by rintro ⟨a2, e2, e3⟩; exact Rw.ne hv.ri h.rw (by decide) a a2 e e2 e3)
  refine ⟨hP.1, fun a e => ?_, h.rp.kept hP.2.1 (fun a e => by rintro ⟨a2, e2, e3⟩; exact Rw.ne h.rp h.rw (by decide) a a2 e e2 e3), fun v hv => ?_, h.m.trans (hP.2.1.to_below h.m.size (by rintro j hj ⟨a, e, rfl⟩; have := h.nw a e; omega)), he, by rw [List.length_append, List.length_singleton]; omega⟩
  · rcases hP.2.2 a e with h1 | h1
    · exact h.nw a h1
    · exact Nat.le_trans h.m.size h1
  · rw [List.mem_append, List.mem_singleton] at hv
    rcases hv with hv | rfl
    · exact k (h.ok v hv)
    · exact k hsv
end
set_option maxRecDepth 100000 in
set_option maxHeartbeats 8000000 in
theorem rlparse_any (s : List UInt8) (w : World) (hl : s.length ≤ 1000000) :
    Calls Tryd.prog 11 #[.string ⟨s.toArray⟩] w (ParQ w (parM s)) := by
  obtain ⟨Q, hQ⟩ : ∃ Q, Q = ParQ w (parM s) := ⟨_, rfl⟩
  rw [← hQ]
  obtain ⟨SB, hSB⟩ : ∃ B, B = ByteArray.mk s.toArray := ⟨_, rfl⟩
  have HSP := Lib.hid (fun w => rlsplit_any s 10 w hl)
  unfold SplP at HSP
  obtain ⟨P, hP⟩ : ∃ P, P = spl 10 s := ⟨_, rfl⟩
  have hPM : parM s = parG P 0 [] := by rw [hP]; rfl
  have hPs : Hid (∀ p ∈ P, p.length ≤ 1000000) := Lib.hid (by rw [hP]; intro p hp; have := spl_sizes 10 s p hp; omega)
  have hP0 : 0 < P.length := by rw [hP]; exact List.length_pos_iff.2 (splA_ne _ _ _)
  obtain ⟨n, hn⟩ : ∃ n, n = P.length := ⟨_, rfl⟩
  have hn9 : n ≤ 1000001 := by rw [hn, hP]; have := spl_len_le 10 s; omega
  rw [← hP, ← hn, ← hSB] at HSP
  rw [← hSB]
  obtain ⟨T, hT⟩ : ∃ T, T = parM s := ⟨_, rfl⟩
  have HQ : Hid (Q = ParQ w T) := Lib.hid (by rw [hQ, hT])
  have HT : Hid (T = parG P 0 []) := Lib.hid (by rw [hT, hPM])
  have HN := Lib.hid hn
  have HP0 := Lib.hid hP0
  clear hQ hSB hP hPM hn hT hP0
  go_enter Tryd.func11, Tryd.ntmps11
  go_wp2_with fail
  obtain ⟨W1, hW1⟩ : ∃ W1, W1 = w.alloc (.cells #[] 33) := ⟨_, rfl⟩
  have h0 : AccR encV 33 w 0 [] (some ⟨w.heap.size, 0, none⟩) 0 W1 := ⟨by rw [hW1]; exact Rw.made (E := encV) 33 w [] (by simp [maxLen]), rfl, (fun a e => by cases e; exact Nat.le_refl _), by rw [hW1]; exact (Below.refl _ _).alloc (Nat.le_refl _) _⟩
  rw [← hW1]
  refine (HSP.out _).mono ?_
  rintro r w2 ⟨hb2, lq, lc, rfl, hRl, hlq⟩
  obtain ⟨b, rfl, hbl⟩ := shape_ne hRl HP0.out
  have h1 := h0.below hb2
  have hI : PqR w P b lc T 0 (some ⟨w.heap.size, 0, none⟩) 0 [] w2 := ⟨h1.s, h1.new, hRl, (fun v hv => by cases hv), h1.m, HT.out, by simp⟩
  have HI := Lib.hid hI
  clear hW1 h0 h1 hb2 hRl hlq hbl hI HSP HT
  go_wp2_with fail
  go_loopw [5, 14] (fun s5 s14 wr => ∃ (i m : Nat) (q : Option Addr) (c : Nat) (V : List Sv), i ≤ n ∧ s14 = .int .i64 i ∧ s5 = .slice q m c ∧ Hid (m = V.length) ∧ PqR w P b lc T i q c V wr) (fun _ s14 _ => n - (intOf s14).toNat)
  case atStart => exact ⟨0, 0, _, _, [], by omega, rfl, rfl, Lib.hid rfl, HI.out⟩
  case round =>
    clear HI
    obtain ⟨i, m, q, c, V, hin, rfl, rfl, HM, hR⟩ := hrel
    have hm300 : m ≤ 300 := by rw [HM.out]; exact hR.ln
    by_cases hlt : i < n
    · have hil : i < P.length := by rw [← HN.out]; exact hlt
      have i1 : (i : Int) < n := by omega
      have i0 : (0 : Int) ≤ i := by omega
      have i2 : IntKind.i64.wrap ((i : Int) + 1) = (i : Int) + 1 := by rw [IntKind.wrap_i64]; omega
      have c0 := rd0 hR.rp.rd hil
      have hdr : P.drop i = P[i] :: P.drop (i + 1) := List.drop_eq_getElem_cons hil
      have hps := hPs.out _ (List.getElem_mem hil)
      have HEQ : Hid (T = parG (P[i] :: P.drop (i + 1)) i (V.map Sv.st)) := Lib.hid (by rw [hR.eq, hdr])
      generalize P[i] = p at c0 hps HEQ
      obtain ⟨PB, hPB⟩ : ∃ B, B = ByteArray.mk p.toArray := ⟨_, rfl⟩
      have hPL : PB.toList = p := by rw [hPB, ByteArray.toList_mk]
      rw [← hPB] at c0
      have HR := Lib.hid hR
      by_cases hm : mute p = true
      · have HNX : Hid (T = parG (P.drop (i + 1)) (i + 1) (V.map Sv.st)) := Lib.hid (by rw [HEQ.out, parG, if_pos hm])
        by_cases hne : p = []
        · have e0 : (PB.toList == []) = true := by rw [hPL, hne]; rfl
          clear hPB hPL hm hne hdr hR
          go_wp2_with fail
          go_roundw
          case rel => exact ⟨i + 1, m, q, c, V, by omega, by go_num, rfl, HM, ⟨HR.out.rw, HR.out.nw, HR.out.rp, HR.out.ok, HR.out.m, HNX.out, HR.out.ln⟩⟩
          case measure => simp [intOf]; omega
        · have e0 : (PB.toList == []) = false := by rw [hPL, beq_eq_false_iff_ne]; exact hne
          have hl0 : 0 < PB.size := by rw [hPB]; exact List.length_pos_iff.2 hne
          have hg0 : ((PB[0]'hl0).toNat : Int) = 35 := by
            subst hPB
            cases p with
            | nil => exact absurd rfl hne
            | cons a l => unfold mute at hm; rw [beq_iff_eq] at hm; subst hm; rfl
          clear hPB hPL hm hne hdr hR
          go_wp2_with fail
          go_roundw
          case rel => exact ⟨i + 1, m, q, c, V, by omega, by go_num, rfl, HM, ⟨HR.out.rw, HR.out.nw, HR.out.rp, HR.out.ok, HR.out.m, HNX.out, HR.out.ln⟩⟩
          case measure => simp [intOf]; omega
      · have hne : p ≠ [] := fun e => hm (by rw [e]; rfl)
        have e0 : (PB.toList == []) = false := by rw [hPL, beq_eq_false_iff_ne]; exact hne
        have hl0 : 0 < PB.size := by rw [hPB]; exact List.length_pos_iff.2 hne
        obtain ⟨v, hv⟩ : ∃ v, v = (p[0]'(List.length_pos_iff.2 hne)).toNat := ⟨_, rfl⟩
        have hg0 : ((PB[0]'hl0).toNat : Int) = v := by subst hPB; rw [hv]; rfl
        have hv35 : ((v : Int) == 35) = false := by
          rw [beq_eq_false_iff_ne]; intro e
          refine hm ?_
          cases p with
          | nil => exact absurd rfl hne
          | cons a l => unfold mute; rw [beq_iff_eq]; exact UInt8.toNat_inj.1 (by show a.toNat = 35; have : v = a.toNat := hv; omega)
        have HO := Lib.hid (fun w => rlone_any p w hps)
        rw [← hPB] at HO
        obtain ⟨res, hres⟩ : ∃ res, res = stepM p := ⟨_, rfl⟩
        rw [← hres] at HO
        unfold StepP at HO
        have HP1 : Hid (res = none → T = ([], i + 1, false)) := Lib.hid (fun e => by rw [HEQ.out, parG, if_neg hm, ← hres, e])
        have HP2 : Hid (∀ x, res = some x → T = if (V.map Sv.st).length = 300 then ([], i + 1, false) else parG (P.drop (i + 1)) (i + 1) (V.map Sv.st ++ [x])) := Lib.hid (fun x e => by rw [HEQ.out, parG, if_neg hm, ← hres, e])
        clear hPB hPL hm hne hdr hR hv hres HEQ
        go_wp2_with fail
        refine (HO.out _).mono ?_
        rintro r W3 ⟨hb3, na, nc, ia, ic, rfl, hrn, hri, hn1, hn2⟩
        have HR3 := Lib.hid (HR.out.old hb3)
        obtain ⟨sv, hsv⟩ : ∃ sv : Sv, sv = ⟨res.getD zSt, na, nc, ia, ic⟩ := ⟨_, rfl⟩
        have hok : okV w.heap.size W3 sv := by
          have hz := HR.out.m.size
          rw [hsv]; exact ⟨hrn, hri, (fun a e => by have := hn1 a e; omega), fun a e => by have := hn2 a e; omega⟩
        have HOK := Lib.hid hok
        obtain ⟨C, hC⟩ : ∃ C, C = stC (res.getD zSt) na nc ia ic := ⟨_, rfl⟩
        have HC1 : Hid (∀ v ∈ C.toList, v.oneCell' = true) := Lib.hid (by rw [hC]; exact stC_one)
        have HCS : Hid ((Tryd.prog.info? 33).map (·.size) = some C.size) := Lib.hid (by rw [hC]; exact rl_size _ _ _ _ _)
        have HCZ : Hid (4 = C.size) := Lib.hid (by rw [hC]; rfl)
        have HSV : Hid ((Value.agg C).cells = (encV.f sv).toArray) := Lib.hid (by rw [hC, hsv]; rfl)
        have HSS : Hid (sv.st = res.getD zSt) := Lib.hid (by rw [hsv])
        rw [← hC]
        clear hC hsv hok hrn hri hn1 hn2 hb3 HO
        cases res with
        | none =>
          simp only [Option.isSome_none]
          have HTT := Lib.hid (HP1.out rfl)
          go_wp2_with (first
            | (refine wpList_store_row rfl rfl 33 (.tmp 8) (.tmp 29) rfl W3.heap.size rfl 33 _ C rfl (heap_alloc_new W3 _) HCZ.out HCS.out HC1.out ?_
               refine wpList_gen (fun W4 => W4.heap[W3.heap.size]? = some (.cells C 33 (0, 0)) ∧ Below W3.heap.size W3 W4) (lnew_row W3 _ _ C 33 rfl) (fun W4 hW4 => ?_)
               obtain ⟨hg4, hb4⟩ := hW4
               have HR4 := Lib.hid (HR3.out.old hb4)
               clear hg4 hb4))
          go_ret3
          rw [HQ.out, HTT.out]
          exact ⟨HR4.out.m, none, 0, [], rfl, rfl, Rw.empty _ _, (fun a e => by cases e), fun v hv => by cases hv⟩
        | some x =>
          simp only [Option.isSome_some]
          by_cases h300 : m = 300
          · have HTT : Hid (T = ([], i + 1, false)) := Lib.hid (by rw [HP2.out x rfl, if_pos (by rw [List.length_map, ← HM.out]; exact h300)])
            have q3 : (299 : Int) < m := by omega
            clear h300
            go_wp2_with (first
              | (refine wpList_store_row rfl rfl 33 (.tmp 8) (.tmp 29) rfl W3.heap.size rfl 33 _ C rfl (heap_alloc_new W3 _) HCZ.out HCS.out HC1.out ?_
                 refine wpList_gen (fun W4 => W4.heap[W3.heap.size]? = some (.cells C 33 (0, 0)) ∧ Below W3.heap.size W3 W4) (lnew_row W3 _ _ C 33 rfl) (fun W4 hW4 => ?_)
                 obtain ⟨hg4, hb4⟩ := hW4
                 have HR4 := Lib.hid (HR3.out.old hb4)
                 clear hg4 hb4))
            go_ret3
            rw [HQ.out, HTT.out]
            exact ⟨HR4.out.m, none, 0, [], rfl, rfl, Rw.empty _ _, (fun a e => by cases e), fun v hv => by cases hv⟩
          · have q3 : ¬ (299 : Int) < m := by omega
            have HE : Hid (T = parG (P.drop (i + 1)) (i + 1) ((V ++ [sv]).map Sv.st)) := Lib.hid (by
              rw [HP2.out x rfl, if_neg (by rw [List.length_map, ← HM.out]; exact h300), List.map_append]
              simp only [List.map_cons, List.map_nil, HSS.out, Option.getD_some])
            have hm299 : m < 300 := by omega
            clear h300
            go_wp2_with (first
              | (refine wpList_store_row rfl rfl 33 (.tmp 8) (.tmp 29) rfl W3.heap.size rfl 33 _ C rfl (heap_alloc_new W3 _) HCZ.out HCS.out HC1.out ?_
                 refine wpList_gen (fun W4 => W4.heap[W3.heap.size]? = some (.cells C 33 (0, 0)) ∧ Below W3.heap.size W3 W4) (lnew_row W3 _ _ C 33 rfl) (fun W4 hW4 => ?_)
                 obtain ⟨hg4, hb4⟩ := hW4
                 have HR4 := Lib.hid (HR3.out.old hb4)
                 have HOK4 := Lib.hid (HOK.out.old hb4)
                 have HG4 := Lib.hid hg4
                 clear hg4 hb4)
              | (refine wpList_load_row rfl 33 (.tmp 8) rfl W3.heap.size rfl 33 _ (0, 0) _ HG4.out Tryd.underlying33 rfl HCS.out ?_)
              | (refine wpList_exec rfl (build_one encV 27 33 _ 80 Tryd.underlying27 lninfo_rl (by decide) (.tmp 41) rfl sv _ HSV.out rfl) ?_)
              | (at_builtin
                 refine wpList_pushR encV rfl _ _ 27 33 (.agg (stC zSt none 0 none 0)) 80 rfl Tryd.underlying27 lninfo_rl rfl (by decide) q c m V HM.out.symm rfl (HR4.out.rw.old ((Below.refl _ W4).alloc (Nat.le_refl _) _)) (some ⟨W4.heap.size, 0, none⟩) 1 1 [sv] rfl rfl (by have := Rd.made encV W4 33 [sv] (by simp [maxLen]); simpa [Enc.all] using this) (by omega) ?_
                 intro q2 c2 W6 hP
                 have HR6 := Lib.hid ((HR4.out.old ((Below.refl _ W4).alloc (Nat.le_refl _) _)).push (HOK4.out.old ((Below.refl _ W4).alloc (Nat.le_refl _) _)) hP HE.out (by rw [← HM.out]; exact hm299))
                 clear hP))
            go_roundw
            case rel => exact ⟨i + 1, m + 1, q2, c2, V ++ [sv], by omega, by go_num, rfl, Lib.hid (by rw [List.length_append, ← HM.out]; rfl), HR6.out⟩
            case measure => simp [intOf]; omega
    · obtain rfl : i = n := by omega
      have HR := Lib.hid hR
      have HTT : Hid (T = (V.map Sv.st, 0, true)) := Lib.hid (by rw [hR.eq, HN.out, List.drop_length]; rfl)
      clear hR
      go_wp2_with fail
      go_ret3
      rw [HQ.out, HTT.out]
      exact ⟨HR.out.m, q, c, V, by rw [← HM.out]; rfl, rfl, HR.out.rw, HR.out.nw, HR.out.ok⟩
end Go.Proofs.YtpdhmjmklmoknaaDoor

namespace Go.Proofs.YtpdhmjmklmoknaaDoor
open Go.RowKit Go.Shelf

set_option maxRecDepth 100000 in
set_option maxHeartbeats 8000000 in
theorem lsame_any (x : St) (na : Option Addr) (nc : Nat) (ia : Option Addr) (ic : Nat) (ma : Option Addr) (mc : Nat) (ja : Option Addr) (jc : Nat) (w : World)
    (hn : Rw encS 9 w na nc x.names) (hi : Rw encNt 3 w ia ic x.nums) (hm : Rw encS 9 w ma mc x.names) (hj : Rw encNt 3 w ja jc x.nums) (hx1 : x.names.length ≤ 9223372036854775807) (hx2 : x.nums.length ≤ 9223372036854775807) :
    Calls Tryd.prog 12 #[.agg (stC x na nc ia ic), .agg (stC x ma mc ja jc)] w fun e w' => e = .returned (.bool true) ∧ Below w.heap.size w w' := by
  obtain ⟨W2, hW2⟩ : ∃ W2, W2 = (w.alloc (.cells (stC x na nc ia ic) 35)).alloc (.cells (stC x ma mc ja jc) 33) := ⟨_, rfl⟩
  have hB : Below w.heap.size w W2 := by rw [hW2]; exact ((Below.refl _ _).alloc (Nat.le_refl _) _).alloc (by simp) _
  have hA1 : W2.heap[w.heap.size]? = some (.cells (stC x na nc ia ic) 35 (0, 0)) := by rw [hW2]; exact (Below.heap_alloc _ _ _ (by simp)).trans (heap_alloc_new w _)
  have hA2 : W2.heap[w.heap.size + 1]? = some (.cells (stC x ma mc ja jc) 33 (0, 0)) := by
    have := heap_alloc_new (w.alloc (.cells (stC x na nc ia ic) 35)) (.cells (stC x ma mc ja jc) 33)
    rw [World.size_alloc] at this
    rw [hW2]; exact this
  have a0 := cell_of_row W2 w.heap.size 0 _ _ _ hA1
  have a1 := cell_of_row W2 w.heap.size 1 _ _ _ hA1
  have a2 := cell_of_row W2 w.heap.size 2 _ _ _ hA1
  have a3 := cell_of_row W2 w.heap.size 3 _ _ _ hA1
  have b0 := cell_of_row W2 (w.heap.size + 1) 0 _ _ _ hA2
  have b1 := cell_of_row W2 (w.heap.size + 1) 1 _ _ _ hA2
  have b2 := cell_of_row W2 (w.heap.size + 1) 2 _ _ _ hA2
  have b3 := cell_of_row W2 (w.heap.size + 1) 3 _ _ _ hA2
  simp only [stC, List.getElem?_toArray, List.getElem?_cons_succ, List.getElem?_cons_zero] at a0 a1 a2 a3 b0 b1 b2 b3
  have HN := Lib.hid (hn.old hB)
  have HI := Lib.hid (hi.old hB)
  have HM := Lib.hid (hm.old hB)
  have HJ := Lib.hid (hj.old hB)
  have HB := Lib.hid hB
  have HW2 := Lib.hid hW2
  obtain ⟨L, hL⟩ : ∃ L, L = x.names := ⟨_, rfl⟩
  obtain ⟨M, hM⟩ : ∃ M, M = x.nums := ⟨_, rfl⟩
  obtain ⟨n, hnl⟩ : ∃ n, n = L.length := ⟨_, rfl⟩
  obtain ⟨m, hml⟩ : ∃ m, m = M.length := ⟨_, rfl⟩
  obtain ⟨A, hA⟩ : ∃ A, A = ByteArray.mk x.word.toArray := ⟨_, rfl⟩
  obtain ⟨C, hC⟩ : ∃ A, A = ByteArray.mk x.text.toArray := ⟨_, rfl⟩
  rw [← hL] at hx1 HN HM a1 b1
  rw [← hM] at hx2 HI HJ a2 b2
  rw [← hnl] at hx1 a1 b1
  rw [← hml] at hx2 a2 b2
  rw [← hA] at a0 b0
  rw [← hC] at a3 b3
  have HNL := Lib.hid hnl
  have HML := Lib.hid hml
  clear hn hi hm hj hB hA1 hA2 hW2 hL hM hnl hml hA hC
  go_enter Tryd.func12, Tryd.ntmps12
  go_upto_region 1 with fail
  rw [← HW2.out]
  go_wp2_with fail
  go_loopw [42] (fun s42 wr => ∃ i : Nat, i ≤ n ∧ s42 = .int .i64 i ∧ wr = W2) (fun s42 _ => n - (intOf s42).toNat)
  case atStart => exact ⟨0, by omega, rfl, rfl⟩
  case round =>
    obtain ⟨i, hin, rfl, rfl⟩ := hrel
    by_cases hlt : i < n
    · have hil : i < L.length := by rw [← HNL.out]; exact hlt
      obtain ⟨g1, rfl, _⟩ := shape_ne HN.out (by omega)
      obtain ⟨g2, rfl, _⟩ := shape_ne HM.out (by omega)
      have c1 := rd0 HN.out.rd hil
      have c2 := rd0 HM.out.rd hil
      generalize L[i] = p at c1 c2
      obtain ⟨PB, hPB⟩ : ∃ B, B = ByteArray.mk p.toArray := ⟨_, rfl⟩
      rw [← hPB] at c1 c2
      have i0 : (0 : Int) ≤ i := by omega
      have i1 : (i : Int) < n := by omega
      have i2 : IntKind.i64.wrap ((i : Int) + 1) = (i : Int) + 1 := by rw [IntKind.wrap_i64]; omega
      clear hPB hil
      go_wp2_with fail
      go_roundw
      case rel => exact ⟨i + 1, by omega, by go_num, trivial⟩
      case measure => simp [intOf]; omega
    · obtain rfl : i = n := by omega
      go_wp2_with fail
      go_loopw [58] (fun s58 wr2 => ∃ i : Nat, i ≤ m ∧ s58 = .int .i64 i ∧ wr2 = wr) (fun s58 _ => m - (intOf s58).toNat)
      case atStart => exact ⟨0, by omega, rfl, rfl⟩
      case round =>
        obtain ⟨j, hjm, rfl, rfl⟩ := hrel
        by_cases hlt2 : j < m
        · have hjl : j < M.length := by rw [← HML.out]; exact hlt2
          obtain ⟨g1, rfl, _⟩ := shape_ne HI.out (by omega)
          obtain ⟨g2, rfl, _⟩ := shape_ne HJ.out (by omega)
          have c1 : wr.cell? ⟨g1, j, none⟩ = some (.int .i64 (M[j] : Int)) := by
            obtain ⟨bs, off, e, _, hc⟩ := HI.out.rd j hjl
            cases e
            have := hc 0 _ rfl; simpa [encNt] using this
          have c2 : wr.cell? ⟨g2, j, none⟩ = some (.int .i64 (M[j] : Int)) := by
            obtain ⟨bs, off, e, _, hc⟩ := HJ.out.rd j hjl
            cases e
            have := hc 0 _ rfl; simpa [encNt] using this
          generalize M[j] = p at c1 c2
          have i0 : (0 : Int) ≤ j := by omega
          have i1 : (j : Int) < m := by omega
          have i2 : IntKind.i64.wrap ((j : Int) + 1) = (j : Int) + 1 := by rw [IntKind.wrap_i64]; omega
          clear hjl
          go_wp2_with fail
          go_roundw
          case rel => exact ⟨j + 1, by omega, by go_num, trivial⟩
          case measure => simp [intOf]; omega
        · obtain rfl : j = m := by omega
          go_wp2_with fail
          go_ret
          exact ⟨rfl, HB.out⟩
end Go.Proofs.YtpdhmjmklmoknaaDoor

namespace Go.Proofs.YtpdhmjmklmoknaaDoor
open Go.RowKit Go.Shelf

theorem Rw.len_le {α : Type} {E : Enc α} {T : TypeId} {w : World} {p : Option Addr} {cap : Nat} {L : List α} (h : Rw E T w p cap L) : L.length ≤ maxLen := by
  rcases h.shape with ⟨_, rfl, _⟩ | ⟨g, _, _, h1, h2, _⟩
  · simp
  · exact Nat.le_trans h1 h2
theorem exec_loadC {P : Program} {o : Oper} {a : Act} {w : World} (T : TypeId) (x : Operand) (ho : o.op = .load T x) (b off : Nat) (hx : a.eval x = .pointer (some ⟨b, off, none⟩)) (cs : Array Value) (d : TypeDesc)
    (hc : ∀ i u, cs.toList[i]? = some u → w.cell? ⟨b, off + i, none⟩ = some u) (hu : P.underlying T = some d) (hd : d.isRow = true) (hi : (P.info? T).map (·.size) = some cs.size) : (execOp a.eval o).run P w = .ok (.value (.agg cs)) w := by
  have hl := run_loadVar_mid (P := P) w b off T cs.toList d (fun j v hv => hc j v hv) hu hd (by rw [hi, Array.length_toList])
  unfold execOp
  simp only [ho, hx, Instr.loadAt, Instr.sureAddr, Sem.run_bind, Sem.run_pure, Result.andThen_ok, hl, Array.toArray_toList]
theorem cellsV {T : TypeId} {w : World} {g c i : Nat} {V : List Sv} (h : Rw encV T w (some ⟨g, 0, none⟩) c V) (hi : i < V.length) : ∀ k u, V[i].c.toList[k]? = some u → w.cell? ⟨g, i * 4 + k, none⟩ = some u := by
  intro k u hu
  obtain ⟨bs, off, e, _, hc⟩ := h.rd i hi
  cases e
  have := hc k u hu
  rw [Nat.zero_add] at this
  exact this
set_option maxRecDepth 100000 in
set_option maxHeartbeats 8000000 in
theorem lineParses_any (s0 : List UInt8) (w : World) (_hs : s0.length ≤ 9223372036854775807) :
    Calls Tryd.prog 3 #[.string ⟨s0.toArray⟩] w fun e w' => e = .returned (.bool true) ∧ Below w.heap.size w w' := by
  have HA := Lib.hid (fun w => lawake_any w)
  have HC1 := Lib.hid (fun w => lwcut_any s0 3000 w _hs (by omega))
  obtain ⟨s, hs⟩ : ∃ s, s = s0.take 3000 := ⟨_, rfl⟩
  have hsl : s.length ≤ 1000000 := by rw [hs, List.length_take]; omega
  rw [← hs] at HC1
  have HP := Lib.hid (fun w => lparse_any s w hsl)
  have HQ := Lib.hid (fun w => rlparse_any s w hsl)
  obtain ⟨SB, hSB⟩ : ∃ B, B = ByteArray.mk s.toArray := ⟨_, rfl⟩
  rw [← hSB] at HC1 HP HQ
  have hpl : (parM s).1.length ≤ 300 := parG_len (spl 10 s) 0 [] (by simp)
  generalize parM s = pm at HP HQ hpl
  obtain ⟨Ls, kk, okk⟩ := pm
  unfold ParP at HP
  unfold ParQ at HQ
  simp only at HP HQ hpl
  obtain ⟨m, hm⟩ : ∃ m, m = Ls.length := ⟨_, rfl⟩
  rw [← hm] at hpl
  have HM := Lib.hid hm
  clear hs hSB hm hsl
  go_enter Tryd.func3, Tryd.ntmps3
  go_wp2_with fail
  refine (HA.out _).mono ?_
  rintro e w1 ⟨rfl, hb1⟩
  have M1 := Lib.hid hb1
  clear hb1
  go_wp2_with fail
  refine (HC1.out _).mono ?_
  rintro e w2 ⟨rfl, rfl⟩
  go_wp2_with fail
  refine (HP.out _).mono ?_
  rintro e w3 ⟨hb3, q1, c1, V1, rfl, hV1, hR1, hn1, hok1⟩
  have hl1 : V1.length = m := by rw [HM.out, ← hV1, List.length_map]
  rw [hl1]
  have M3 := Lib.hid (M1.out.trans (hb3.mono M1.out.size))
  have HV1 := Lib.hid hV1
  have HR1 := Lib.hid hR1
  have HK1 := Lib.hid hok1
  have HL1 := Lib.hid hl1
  clear hb3 hV1 hR1 hn1 hok1 hl1
  go_wp2_with fail
  refine (HQ.out _).mono ?_
  rintro e w5 ⟨hb5, q2, c2, V2, rfl, hV2, hR2, hn2, hok2⟩
  have hl2 : V2.length = m := by rw [HM.out, ← hV2, List.length_map]
  rw [hl2]
  have M5 := Lib.hid (M3.out.trans (hb5.mono M3.out.size))
  have HR15 := Lib.hid (HR1.out.old hb5)
  have HK15 := Lib.hid (fun v hv => (HK1.out v hv).old hb5)
  have HV2 := Lib.hid hV2
  have HR2 := Lib.hid hR2
  have HK2 := Lib.hid hok2
  have HL2 := Lib.hid hl2
  clear hb5 hV2 hR2 hn2 hok2 hl2 HR1 HK1
  have hkk : ((kk : Int) != (kk : Int)) = false := by simp
  have hoo : (okk != okk) = false := by simp
  go_wp2_with fail
  go_loopw [44] (fun s44 wr => ∃ i : Nat, i ≤ m ∧ s44 = .int .i64 i ∧ Hid (Below w5.heap.size w5 wr)) (fun s44 _ => m - (intOf s44).toNat)
  case atStart => exact ⟨0, by omega, rfl, Lib.hid (Below.refl _ _)⟩
  case round =>
    obtain ⟨i, him, rfl, HB⟩ := hrel
    by_cases hlt : i < m
    · have h1l : i < V1.length := by rw [HL1.out]; exact hlt
      have h2l : i < V2.length := by rw [HL2.out]; exact hlt
      have i0 : (0 : Int) ≤ i := by omega
      have i1 : (i : Int) < m := by omega
      have i2 : IntKind.i64.wrap ((i : Int) + 1) = (i : Int) + 1 := by rw [IntKind.wrap_i64]; omega
      obtain ⟨g1, rfl, _⟩ := shape_ne HR15.out (by omega)
      obtain ⟨g2, rfl, _⟩ := shape_ne HR2.out (by omega)
      have hst : V2[i].st = V1[i].st := by
        have e1 := congrArg (fun l => l[i]?) (HV1.out.trans HV2.out.symm)
        simp only [List.getElem?_map, List.getElem?_eq_getElem h1l, List.getElem?_eq_getElem h2l, Option.map_some, Option.some.injEq] at e1
        exact e1.symm
      have x1 := cellsV (HR15.out.old HB.out) h1l
      have x2 := cellsV (HR2.out.old HB.out) h2l
      have k1 := (HK15.out _ (List.getElem_mem h1l)).old HB.out
      have k2 := (HK2.out _ (List.getElem_mem h2l)).old HB.out
      have hg1 : g1 < wr.heap.size := (HR15.out.old HB.out).lt
      generalize V1[i] = v1 at hst x1 k1
      generalize V2[i] = v2 at hst x2 k2
      obtain ⟨C1, hC1⟩ : ∃ C, C = v1.c := ⟨_, rfl⟩
      obtain ⟨C2, hC2⟩ : ∃ C, C = v2.c := ⟨_, rfl⟩
      rw [← hC1] at x1
      rw [← hC2] at x2
      have HS1 : Hid ((Tryd.prog.info? 35).map (·.size) = some C1.size) := Lib.hid (by rw [hC1]; exact ln_size _ _ _ _ _)
      have HS2 : Hid ((Tryd.prog.info? 33).map (·.size) = some C2.size) := Lib.hid (by rw [hC2]; exact rl_size _ _ _ _ _)
      have HC1' : Hid (∀ v ∈ C2.toList, v.oneCell' = true) := Lib.hid (by rw [hC2]; exact v2.one)
      have HCZ : Hid (4 = C2.size) := Lib.hid (by rw [hC2]; rfl)
      have HX20 := Lib.hid x2
      have HX10 := Lib.hid x1
      have HSM0 : Hid (∀ w1, Below wr.heap.size wr w1 → Calls Tryd.prog 12 #[.agg C1, .agg C2] w1 fun e w' => e = .returned (.bool true) ∧ Below w1.heap.size w1 w') := Lib.hid (fun w1 hb => by
        have z1 := k1.old hb
        have z2 := k2.old hb
        have r1 := z2.rn
        have r2 := z2.ri
        rw [hst] at r1 r2
        have := lsame_any v1.st v1.na v1.nc v1.ia v1.ic v2.na v2.nc v2.ia v2.ic w1 z1.rn z1.ri r1 r2 (by have := z1.rn.len_le; unfold maxLen at this; omega) (by have := z1.ri.len_le; unfold maxLen at this; omega)
        rw [hC1, hC2]
        show Calls _ _ #[.agg (stC v1.st _ _ _ _), .agg (stC v2.st _ _ _ _)] _ _
        rw [hst]; exact this)
      clear hC1 hC2 x1 x2 k1 k2 hst h1l h2l
      obtain ⟨g4, hg4⟩ : ∃ g, g = wr.heap.size := ⟨_, rfl⟩
      have HG4' := Lib.hid hg4
      clear hg4
      go_upto_region 11 with (first
        | (refine wpList_exec rfl (exec_loadC 33 (.tmp 47) rfl g2 (i * 4) rfl C2 _ HX20.out Tryd.underlying33 rfl HS2.out) ?_)
        | (refine wpList_store_row rfl rfl 33 (.tmp 10) (.tmp 48) rfl wr.heap.size rfl 33 _ C2 rfl (heap_alloc_new wr _) HCZ.out HS2.out HC1'.out ?_
           refine wpList_gen (fun W4 => W4.heap[wr.heap.size]? = some (.cells C2 33 (0, 0)) ∧ Below wr.heap.size wr W4) (lnew_row wr _ _ C2 33 rfl) (fun W4 hW4 => ?_)
           obtain ⟨hr4, hb4⟩ := hW4
           have HR4 := Lib.hid hr4
           have HB4 := Lib.hid hb4
           clear hr4 hb4))
      rw [← HG4'.out]
      have HX1 : Hid (∀ w1, Below W4.heap.size W4 w1 → ∀ k u, C1.toList[k]? = some u → w1.cell? ⟨g1, i * 4 + k, none⟩ = some u) := Lib.hid (fun w1 hb k u hu => (World.cell?_of_block ((HB4.out.trans (hb.mono HB4.out.size)).block g1 hg1)).trans (HX10.out k u hu))
      have HX2 : Hid (∀ w1, Below W4.heap.size W4 w1 → w1.heap[g4]? = some (.cells C2 33 (0, 0))) := Lib.hid (fun w1 hb => by rw [HG4'.out]; exact (hb.block _ (Array.getElem?_eq_some_iff.1 HR4.out).1).trans HR4.out)
      have HSM : Hid (∀ w1, Below W4.heap.size W4 w1 → Calls Tryd.prog 12 #[.agg C1, .agg C2] w1 fun e w' => e = .returned (.bool true) ∧ Below w1.heap.size w1 w') := Lib.hid (fun w1 hb => HSM0.out w1 (HB4.out.trans (hb.mono HB4.out.size)))
      have HG0 : Hid ((fun (j : Nat) (v : Value) (w1 : World) => Below W4.heap.size W4 w1 ∧ (j = 1 → v = .bool true)) 0 undef W4.drew) := Lib.hid ⟨(Below.refl _ _).drew, (fun h => absurd h (by omega))⟩
      clear HX10 HX20 HSM0
      refine wp_region_chain2 (fun t v => match t with
        | 49 => v = .slice (some ⟨g1, 0, none⟩) m c1
        | 50 => v = .int .i64 (i : Int)
        | 51 => v = .pointer (some ⟨g1, i * 4, none⟩)
        | 52 => v = .agg C1
        | 53 => v = .agg C2
        | 54 => v = Value.bool true
        | 55 => v = Value.bool false
        | _ => True) (fun (j : Nat) (v : Value) (w1 : World) => Below W4.heap.size W4 w1 ∧ (j = 1 → v = .bool true)) [5] 57 (by kernel_rfl) (by decide +kernel) rfl (by decide +kernel) (by decide) (by decide) HG0.out (by
        refine OweAllC.cons (owesC_val 0 (by decide +kernel) (by decide) rfl rfl fun k' a w1 x hk ha hG hV => ?_) ?_
        · skip
          have h3 := ha.outer 3 (by decide +kernel)
          simp only [Act.eval] at h3
          exact ⟨.slice (some ⟨g1, 0, none⟩) m c1, wanted_free rfl, by simp [execOp, go_sem, h3], rfl⟩
        refine OweAllC.cons (owesC_val 0 (by decide +kernel) (by decide) rfl rfl fun k' a w1 x hk ha hG hV => ?_) ?_
        · skip
          have h9 := ha.outer 9 (by decide +kernel)
          simp only [Act.eval] at h9
          exact ⟨.int .i64 (i : Int), wanted_free rfl, by simp [execOp, go_sem, h9], rfl⟩
        refine OweAllC.cons (owesC_val 0 (by decide +kernel) (by decide) rfl rfl fun k' a w1 x hk ha hG hV => ?_) ?_
        · skip
          have h49 : a.tmps.getD 49 undef = .slice (some ⟨g1, 0, none⟩) m c1 := hV.get 49 (by decide +kernel)
          have h50 : a.tmps.getD 50 undef = .int .i64 (i : Int) := hV.get 50 (by decide +kernel)
          exact ⟨.pointer (some ⟨g1, i * 4, none⟩), wanted_free rfl, by simp [execOp, go_sem, h49, h50, i0, i1], rfl⟩
        refine OweAllC.cons (owesC_val 0 (by decide +kernel) (by decide) rfl rfl fun k' a w1 x hk ha hG hV => ?_) ?_
        · skip
          have h51 : a.tmps.getD 51 undef = .pointer (some ⟨g1, i * 4, none⟩) := hV.get 51 (by decide +kernel)
          obtain rfl : k' = 0 := by omega
          exact ⟨.agg C1, wanted_free rfl, exec_loadC 35 (.tmp 51) rfl g1 (i * 4) h51 C1 _ (HX1.out w1 hG.1) Tryd.underlying35 rfl HS1.out, rfl⟩
        refine OweAllC.cons (owesC_val 0 (by decide +kernel) (by decide) rfl rfl fun k' a w1 x hk ha hG hV => ?_) ?_
        · skip
          have h10 := ha.outer 10 (by decide +kernel)
          simp only [Act.eval] at h10
          obtain rfl : k' = 0 := by omega
          exact ⟨.agg C2, wanted_free rfl, exec_load_row 33 (.tmp 10) rfl g4 h10 33 C2 (0, 0) _ (HX2.out w1 hG.1) Tryd.underlying33 rfl HS2.out, rfl⟩
        refine OweAllC.cons (owesC_call 0 rfl rfl rfl 12 fun a w1 x ha hG hx hV => ?_) ?_
        · skip
          have h52 : a.tmps.getD 52 undef = .agg C1 := hV.get 52 (by decide +kernel)
          have h53 : a.tmps.getD 53 undef = .agg C2 := hV.get 53 (by decide +kernel)
          refine ⟨#[.agg C1, .agg C2], wanted_free rfl, by simp [execOp, resolve, invoke, go_sem, h52, h53], ?_⟩
          refine (HSM.out w1 hG.1).mono ?_
          rintro r w2 ⟨rfl, hb⟩
          exact ⟨_, rfl, rfl, hG.1.trans (hb.mono hG.1.size), fun _ => rfl⟩
        refine OweAllC.cons (owesC_val 1 (by decide +kernel) (by decide) rfl rfl fun k' a w1 x hk ha hG hV => ?_) ?_
        · skip
          have h54 : a.tmps.getD 54 undef = Value.bool true := hV.get 54 (by decide +kernel)
          exact ⟨Value.bool false, wanted_free rfl, by simp [execOp, go_sem, h54], rfl⟩
        exact OweAllC.nil
        ) ?_
      intro f wz xz hG hx hv
      have e55 : f 55 = Value.bool false := hv 6 _ 55 rfl rfl
      first | (rename_i hK; refine hK _ _ ?_; clear hK) | (rename_i hK _; refine hK _ _ ?_; clear hK) | (rename_i hK _ _; refine hK _ _ ?_; clear hK) | (rename_i hK _ _ _; refine hK _ _ ?_; clear hK)
      clear hv hx
      simp only [dsts, puts, List.filterMap_cons, List.filterMap_nil, List.foldl_cons, List.foldl_nil, Act.put, List.setIfInBounds_toArray, List.set_cons_succ, List.set_cons_zero, e55]
      clear e55
      have hF := Lib.hid hG
      clear hG HG0 HX1 HX2 HSM
      have HBZ := Lib.hid (HB.out.trans ((HB4.out.trans (hF.out.1.mono HB4.out.size)).mono HB.out.size))
      go_wp2_with fail
      go_roundw
      case rel => exact ⟨i + 1, by omega, by go_num, HBZ⟩
      case measure => simp [intOf]; omega
    · obtain rfl : i = m := by omega
      have HE := Lib.hid (M5.out.trans (HB.out.mono M5.out.size))
      go_wp2_with fail
      go_ret
      exact ⟨rfl, HE.out⟩
end Go.Proofs.YtpdhmjmklmoknaaDoor

namespace Go.Proofs.YtpdhmjmklmoknaaDoor
open Go.RowKit Go.Shelf

/-- The library's table of powers lies as its text lays it. -/
def PowAt (w : World) : Prop := Lib.TabIs Tryd.prog w "internal/strconv.uint64pow10" .u64 Lib.pow10Tab
theorem PowAt.old {w w' : World} (h : PowAt w) (hb : Below w.heap.size w w') : PowAt w' := by
  have hgn : Tryd.prog.globalNamed "internal/strconv.uint64pow10" = some 3 := by kernel_rfl
  unfold PowAt Lib.TabIs World.var? at h ⊢
  rw [hgn] at h ⊢
  simp only [Option.bind_some] at h ⊢
  have hlt : 3 < w.heap.size := by
    rcases Nat.lt_or_ge 3 w.heap.size with h' | h'
    · exact h'
    · rw [Array.getElem?_eq_none h'] at h; cases h
  rw [hb.block 3 hlt]
  exact h
theorem below_grow (w : World) (k : Nat) (os : Array Obj) : Below w.heap.size w (Go.Sort.grow (w.drewN k) os) := by
  refine ⟨rfl, rfl, rfl, ?_, fun i hi => ?_⟩
  · simp [Go.Sort.grow, World.drewN]
  · simp only [Go.Sort.grow, World.drewN]
    rw [Array.getElem?_append_left hi]
theorem litoa_any (n : Nat) (h : n ≤ 9223372036854775807) (w : World) (hT : PowAt w) : Calls Tryd.prog 35 #[.int .i64 (n : Int)] w fun e w' => e = .returned (.string ⟨(Lib.decDigits n).toArray⟩) ∧ Below w.heap.size w w' := by
  refine (Tryd.strconv_Itoa (n : Int) (by omega) (by omega) w hT).mono ?_
  rintro e w' ⟨rfl, k, os, rfl⟩
  exact ⟨by rw [Lib.itoa_nonneg], below_grow _ _ _⟩

set_option maxRecDepth 20000 in
set_option maxHeartbeats 8000000 in
theorem ltexts_any (q0 : Option Addr) (c0 : Nat) (M : List Nat) (w : World) (hM : Rd encNt w q0 M) (hb : ∀ n ∈ M, n ≤ 9223372036854775807) (hl : M.length ≤ 1000000000) (hT : PowAt w) :
    Calls Tryd.prog 22 #[.slice q0 M.length c0] w fun e w' => Below w.heap.size w w' ∧ ∃ q c, e = .returned (.slice q M.length c) ∧ Rw encS 9 w' q c (M.map Lib.decDigits) ∧ ∀ a, q = some a → w.heap.size ≤ a.block := by
  obtain ⟨m, hm⟩ : ∃ m, m = M.length := ⟨_, rfl⟩
  rw [← hm] at hl ⊢
  have HM := Lib.hid hM
  have HL := Lib.hid hm
  have HB := Lib.hid hb
  have HT := Lib.hid hT
  clear hM hm hb hT
  go_enter Tryd.func22, Tryd.ntmps22
  go_wp2_with fail
  go_loopw [3, 8] (fun s3 s8 wr => ∃ (i : Nat) (q : Option Addr) (c : Nat) (D : List (List UInt8)), i ≤ m ∧ s8 = .int .i64 i ∧ s3 = .slice q i c ∧ Hid (D = (M.take i).map Lib.decDigits) ∧ AccR encS 9 w i D q c wr) (fun _ s8 _ => m - (intOf s8).toNat)
  case atStart => exact ⟨0, none, 0, [], by omega, rfl, rfl, Lib.hid rfl, AccR.zero _ _ _⟩
  case round =>
    obtain ⟨i, q, c, D, him, rfl, rfl, HD, hA⟩ := hrel
    by_cases hlt : i < m
    · have hil : i < M.length := by rw [← HL.out]; exact hlt
      have i0 : (0 : Int) ≤ i := by omega
      have i1 : (i : Int) < m := by omega
      have i2 : IntKind.i64.wrap ((i : Int) + 1) = (i : Int) + 1 := by rw [IntKind.wrap_i64]; omega
      obtain ⟨bs, off, rfl, hbs, hc⟩ := HM.out i hil
      have hc' := hc 0 (.int .i64 (M[i] : Int)) rfl
      have hk1 : encNt.k = 1 := rfl
      rw [hk1, Nat.mul_one, Nat.add_zero] at hc'
      have c1 : wr.cell? ⟨bs, off + i, none⟩ = some (.int .i64 (M[i] : Int)) := (World.cell?_of_block (hA.m.block bs hbs)).trans hc'
      have hmb := HB.out _ (List.getElem_mem hil)
      have htk : D ++ [Lib.decDigits M[i]] = (M.take (i + 1)).map Lib.decDigits := by rw [HD.out, List.take_succ_eq_append_getElem hil, List.map_append]; rfl
      generalize M[i] = z at c1 hmb htk
      have HTK := Lib.hid htk
      have HI := Lib.hid (fun w' (hw : Below w.heap.size w w') => litoa_any z hmb w' (HT.out.old hw))
      have HA := Lib.hid hA
      have hlen : D.length = i := hA.len
      have HLN := Lib.hid hlen
      clear hc hc' htk hA hk1 hlen
      go_wp2_with fail
      refine (HI.out _ HA.out.m).mono ?_
      rintro e w5 ⟨rfl, hb5⟩
      have HA5 := Lib.hid (HA.out.below hb5)
      clear hb5
      go_wp2_with (at_builtin; refine wpList_pushR encS rfl _ _ 30 9 (.string ⟨#[]⟩) 16 rfl Tryd.underlying30 lninfo_str rfl (by decide) q c i D HLN.out rfl (HA5.out.below ((Below.refl _ w5).alloc (Nat.le_refl _) _)).s (some ⟨w5.heap.size, 0, none⟩) 1 1 [Lib.decDigits z] rfl rfl (Rd.made encS w5 9 [Lib.decDigits z] (by simp [maxLen])) (by omega) ?_)
      intro q2 c2 w6 hP
      have hA2 := Lib.hid ((HA5.out.below ((Below.refl _ w5).alloc (Nat.le_refl _) _)).push hP)
      clear hP
      go_wp2_with fail
      go_roundw
      case rel => exact ⟨i + 1, q2, c2, _, by omega, by go_num, rfl, HTK, hA2.out⟩
      case measure => simp [intOf]; omega
    · obtain rfl : i = m := by omega
      have hall : D = M.map Lib.decDigits := by rw [HD.out, List.take_of_length_le (by rw [← HL.out]; exact Nat.le_refl _)]
      rw [hall] at hA
      have HA := Lib.hid hA
      clear hA hall
      go_wp2_with fail
      go_ret
      exact ⟨HA.out.m, q, c, rfl, HA.out.s, HA.out.new⟩
theorem jn_inter : ∀ L : List (List UInt8), Lib.join L [44] = jn 44 L
  | [] => rfl
  | [a] => by simp [Lib.join, jn]
  | a :: b :: r => by
    have ih := jn_inter (b :: r)
    unfold Lib.join at ih ⊢
    rw [jn, ← ih]
    simp [List.intercalate, List.intersperse]
set_option maxRecDepth 20000 in
set_option maxHeartbeats 8000000 in
theorem llist_any (q0 : Option Addr) (c0 : Nat) (L : List (List UInt8)) (w : World) (hL : Rd encS w q0 L) (hc : L.length ≤ c0) (hl : L.length ≤ 1000000000) (hj : (jn 44 L).length ≤ 100000000000) :
    Calls Tryd.prog 24 #[.slice q0 L.length c0] w fun e w' => e = .returned (.string ⟨(lst L).toArray⟩) ∧ Below w.heap.size w w' := by
  by_cases hne : L = []
  · subst hne
    go_enter Tryd.func24, Tryd.ntmps24
    go_wp2_with fail
    go_ret
    exact ⟨rfl, Below.refl _ _⟩
  · have h0 : 0 < L.length := List.length_pos_iff.2 hne
    obtain ⟨bs, off, rfl, hbs, _⟩ := hL 0 h0
    have HJ := Lib.hid (by
      have := Tryd.strings_Join bs off c0 (L.map fun s => ByteArray.mk s.toArray) ⟨#[44]⟩ w (by
        intro j x hx
        rw [List.getElem?_map] at hx
        obtain ⟨s, hs, rfl⟩ := Option.map_eq_some_iff.1 hx
        obtain ⟨hj, rfl⟩ := List.getElem?_eq_some_iff.1 hs
        obtain ⟨b2, o2, e, _, hc2⟩ := hL.str j hj
        cases e
        exact hc2) hbs (by rw [List.length_map]; omega) (by rw [List.length_map]; exact hc) (by
          rw [List.map_map, show ((fun x : ByteArray => x.data.toList) ∘ fun s : List UInt8 => ByteArray.mk s.toArray) = id from rfl, List.map_id]
          rw [show (ByteArray.mk #[44]).data.toList = [44] from rfl, jn_inter]; omega)
      rw [List.map_map, show ((fun x : ByteArray => x.data.toList) ∘ fun s : List UInt8 => ByteArray.mk s.toArray) = id from rfl, List.map_id, List.length_map, show (ByteArray.mk #[44]).data.toList = [44] from rfl, jn_inter] at this
      exact this)
    have hls : lst L = jn 44 L := by unfold lst; rw [if_neg hne]
    rw [hls]
    obtain ⟨n, hn⟩ : ∃ n, n = L.length := ⟨_, rfl⟩
    rw [← hn] at HJ h0 ⊢
    have h0' : ((n : Int) == 0) = false := by rw [beq_eq_false_iff_ne]; omega
    clear hL hls hn hne hc hl hj
    go_enter Tryd.func24, Tryd.ntmps24
    go_wp2_with fail
    refine (HJ.out).mono ?_
    rintro e w5 ⟨rfl, hb5⟩
    have HB := Lib.hid hb5
    clear hb5
    go_wp2_with fail
    go_ret
    exact ⟨rfl, HB.out⟩
end Go.Proofs.YtpdhmjmklmoknaaDoor

namespace Go.Proofs.YtpdhmjmklmoknaaDoor
open Go.RowKit Go.Shelf
theorem rd_tail {w : World} {bs off : Nat} {a : List UInt8} {l : List (List UInt8)} (h : Rd encS w (some ⟨bs, off, none⟩) (a :: l)) : Rd encS w (some ⟨bs, off + 1, none⟩) l := by
  intro j hj
  obtain ⟨b, o, e, hb, hc⟩ := h (j + 1) (by simp; omega)
  cases e
  refine ⟨bs, off + 1, rfl, hb, fun i u hu => ?_⟩
  have := hc i u hu
  have e : off + (j + 1) * encS.k + i = off + 1 + j * encS.k + i := by show off + (j + 1) * 1 + i = off + 1 + j * 1 + i; omega
  rw [e] at this
  exact this
set_option maxRecDepth 20000 in
set_option maxHeartbeats 8000000 in
theorem lfirst_any (bs off c0 : Nat) (a : List UInt8) (l : List (List UInt8)) (w : World) (hL : Rd encS w (some ⟨bs, off, none⟩) (a :: l)) (hc : l.length + 1 ≤ c0) :
    Calls Tryd.prog 23 #[.slice (some ⟨bs, off, none⟩) (l.length + 1) c0] w fun e w' => (∃ q c, e = .returned (.tuple #[.string ⟨a.toArray⟩, .slice q l.length c]) ∧ Rd encS w q l ∧ l.length ≤ c ∧ ∀ z, q = some z → z.block = bs) ∧ Below w.heap.size w w' := by
  obtain ⟨b, o, e, _, c1⟩ := hL.str 0 (by simp)
  cases e
  rw [Nat.add_zero] at c1
  simp only [List.getElem_cons_zero] at c1
  have HT := Lib.hid (rd_tail hL)
  obtain ⟨AB, hAB⟩ : ∃ B, B = ByteArray.mk a.toArray := ⟨_, rfl⟩
  rw [← hAB] at c1 ⊢
  obtain ⟨n, hn⟩ : ∃ n, n = l.length := ⟨_, rfl⟩
  have HN := Lib.hid hn
  rw [← hn] at hc ⊢
  have h1 : (1 : Int) ≤ n + 1 := by omega
  have h2 : ((n : Int) + 1) ≤ c0 := by omega
  have h3 : (((n : Int) + 1) == 0) = false := by rw [beq_eq_false_iff_ne]; omega
  have h4 : (0 : Int) < (n : Int) + 1 := by omega
  clear hAB hn hL
  have hB : ∀ k, Below w.heap.size w (w.drewN k) := fun k => ⟨rfl, rfl, rfl, Nat.le_refl _, fun _ _ => rfl⟩
  have HBB := Lib.hid hB
  clear hB
  by_cases hc1 : c0 = 1
  · subst hc1
    obtain rfl : n = 0 := by omega
    have hl0 : l = [] := List.eq_nil_of_length_eq_zero HN.out.symm
    have HL0 := Lib.hid hl0
    clear hl0
    go_enter Tryd.func23, Tryd.ntmps23
    go_upto_region 3 with fail
    go_quiet (fail)
    go_wp2_with fail
    go_ret2
    exact ⟨⟨_, _, rfl, (by rw [HL0.out]; exact fun j hj => absurd hj (by simp)), Nat.zero_le _, fun z e => by cases e; rfl⟩, HBB.out _⟩
  · go_enter Tryd.func23, Tryd.ntmps23
    go_upto_region 3 with fail
    go_quiet (fail)
    go_wp2_with fail
    go_ret2
    exact ⟨⟨_, _, rfl, HT.out, by omega, fun z e => by cases e; rfl⟩, HBB.out _⟩
set_option maxRecDepth 20000 in
set_option maxHeartbeats 8000000 in
theorem lfirst0_any (q0 : Option Addr) (c0 : Nat) (w : World) :
    Calls Tryd.prog 23 #[.slice q0 0 c0] w fun e w' => e = .returned (.tuple #[.string ⟨#[]⟩, .slice none 0 0]) ∧ w = w' := by
  go_enter Tryd.func23, Tryd.ntmps23
  go_wp2_with fail
  go_ret2
  exact ⟨rfl, rfl⟩
theorem encU_all (L : List UInt8) : encU.all L = vals L := by
  induction L with
  | nil => rfl
  | cons a l ih => rw [show encU.all (a :: l) = encU.f a ++ encU.all l from rfl, ih]; rfl
theorem Rw.of_ownU {T : TypeId} {w : World} {v : Value} {n : Nat} {bs : List UInt8} (h : w.ownsRow 0 T 1 v n (vals bs)) (hn : n = bs.length) : ∃ p c, v = .slice p n c ∧ Rw encU T w p c bs := by
  have h2 := h
  subst hn
  rcases h.2 with ⟨e, h0⟩ | ⟨g, cap', cur, e, _⟩
  · subst e
    exact ⟨none, 0, by rw [h0], by unfold Rw; rw [encU_all, h0]; rw [h0] at h2; exact h2⟩
  · subst e
    exact ⟨_, _, rfl, by unfold Rw; rw [encU_all]; exact h2⟩
theorem bytesValsU (s : List UInt8) : byteCells ⟨s.toArray⟩ = vals s := by simp [byteCells, vals]
/-- A text appended to bytes. -/
theorem wpList_pushSU {P : Program} {ops : Array Oper} {rest : List Oper} {o : Oper} {a : Act} {Q : Exit → Act → World → Prop} {w : World} (hgd : o.guard = none) (s x : Operand) (Ts T tx : TypeId) (z : Value)
    (ho : o.op = .call { callee := .builtin .append, args := #[s, x], argTypes := #[Ts, tx] }) (hT : P.underlying Ts = some (.slice T)) (hi : (P.info? T).map (fun i => (i.zero, i.size, i.bytes)) = some (some z, 1, 1)) (hzs : z.cells.size = 1) (htx : P.underlying tx = some .string)
    (p : Option Addr) (cap n : Nat) (L : List UInt8) (hn : L.length = n) (hs : a.eval s = .slice p n cap) (hS : Rw encU T w p cap L) (Y : List UInt8) (hx : a.eval x = .string ⟨Y.toArray⟩) (hl : n + Y.length ≤ 100000000000)
    (h : ∀ q c w', PushR encU T w p (L ++ Y) q c w' → wpList P ops Q rest (a.put o.dst (.slice q (n + Y.length) c)) w') :
    wpList P ops Q (o :: rest) a w := by
  cases hq : P.info? T with
  | none => rw [hq] at hi; cases hi
  | some i =>
    rw [hq] at hi
    simp only [Option.map_some, Option.some.injEq, Prod.mk.injEq] at hi
    obtain ⟨hz, h1, h2⟩ := hi
    subst hn
    have hsrc := Src.ofString (P := P) (w := w) htx ⟨Y.toArray⟩
    rw [bytesValsU] at hsrc
    have hown : w.ownsRow 0 T 1 (.slice p L.length cap) L.length (vals L) := by have := hS; unfold Rw at this; rw [encU_all] at this; exact this
    refine wpList_append_src hgd s x Ts tx ho T i z 1 1 hT hq hz h1 h2 hzs _ L.length (vals L) hs hown _ Y.length (vals Y) hx hsrc (by unfold maxLen; omega) (by omega) ?_
    intro v' w' ho' hgr hat
    rw [← vals_app] at ho'
    obtain ⟨q, c, rfl, hR⟩ := Rw.of_ownU ho' (by simp)
    refine h q c w' ⟨hR, ?_, ?_⟩
    · refine (Mod.refl _ w).grown hgr ?_
      intro j hj _
      cases p with
      | none => simp [Value.ownBlock] at hj
      | some a => simp [Value.ownBlock] at hj; exact ⟨a, rfl, hj.symm⟩
    · rintro a' e; subst e
      rcases hat with hat | hat
      · left
        rcases hS.shape with ⟨rfl, _⟩ | ⟨g', rfl, _⟩
        · simp [Value.ownBlock] at hat
        · rcases hR.shape with ⟨e, _⟩ | ⟨g2, e, _⟩
          · cases e
          · cases e
            simp [Value.ownBlock] at hat; subst hat; rfl
      · right
        simp [Value.ownBlock] at hat; rw [hat]; exact Nat.le_refl _
end Go.Proofs.YtpdhmjmklmoknaaDoor

namespace Go.Proofs.YtpdhmjmklmoknaaDoor
open Go.RowKit Go.Shelf

/-- A row of bytes of its own; its block may bear a frozen place behind its end (as a conversion of a text leaves it). -/
def Br (w : World) (p : Option Addr) (cap : Nat) (L : List UInt8) : Prop :=
  ∃ g cur fr, p = some ⟨g, 0, none⟩ ∧ w.heap[g]? = some (.cells cur 5 fr) ∧ (cur.size ≤ fr.1 ∨ fr = (0, 0)) ∧ L.length ≤ cap ∧ cap ≤ maxLen ∧ cur.size = cap ∧ cur.toList.take L.length = vals L
theorem fr_free {w : World} {g j : Nat} {cur : Array Value} {T : TypeId} {fr : Nat × Nat} (hg : w.heap[g]? = some (.cells cur T fr)) (hf : cur.size ≤ fr.1 ∨ fr = (0, 0)) (hj : j < cur.size) : w.frozen? ⟨g, j, none⟩ = false := by
  obtain ⟨a, b⟩ := fr
  simp only [World.frozen?, hg]
  rcases hf with h | h
  · simp only at h; simp; omega
  · cases h; simp
theorem heap_setCells_fr (g : Nat) (e : TypeId) (fr : Nat × Nat) : ∀ (vs : List Value) (o : Nat) (w : World) (cur : Array Value), w.heap[g]? = some (.cells cur e fr) → o + vs.length ≤ cur.size →
    (w.setCells g o vs).heap[g]? = some (.cells (cur.toList.take o ++ vs ++ cur.toList.drop (o + vs.length)).toArray e fr)
  | [], o, w, cur, h, _ => by simp [World.setCells, h]
  | v :: vs, o, w, cur, h, hf => by
    simp only [List.length_cons] at hf
    have h1 : (w.setCell ⟨g, o, none⟩ v).heap[g]? = some (.cells (cur.setIfInBounds o v) e fr) := by simp [World.setCell, Array.getElem?_modify, h]
    have ih := heap_setCells_fr g e fr vs (o + 1) (w.setCell ⟨g, o, none⟩ v) (cur.setIfInBounds o v) h1 (by simp; omega)
    rw [World.setCells, ih]
    congr 3
    rw [Array.toList_setIfInBounds]
    have hl : o < cur.toList.length := by simp; omega
    rw [List.take_succ_eq_append_getElem (by simpa using hl)]
    simp only [List.getElem_set_self, List.take_set_of_le (Nat.le_refl o), List.drop_set_of_lt (show o < o + 1 + vs.length by omega), List.length_cons, List.append_assoc, List.cons_append, List.nil_append]
    rw [show o + 1 + vs.length = o + (vs.length + 1) by omega]
theorem Br.kept {w w' : World} {p : Option Addr} {cap : Nat} {L : List UInt8} (h : Br w p cap L) {S : Nat → Prop} (hm : Mod S w w') (hn : ∀ a, p = some a → ¬ S a.block) : Br w' p cap L := by
  obtain ⟨g, cur, fr, rfl, hg, h1⟩ := h
  exact ⟨g, cur, fr, rfl, (hm.block g (Array.getElem?_eq_some_iff.1 hg).1 (hn _ rfl)).trans hg, h1⟩
theorem Br.old {w w' : World} {p : Option Addr} {cap : Nat} {L : List UInt8} (h : Br w p cap L) (hb : Below w.heap.size w w') : Br w' p cap L := by
  obtain ⟨g, cur, fr, rfl, hg, h1⟩ := h
  exact ⟨g, cur, fr, rfl, (hb.block g (Array.getElem?_eq_some_iff.1 hg).1).trans hg, h1⟩
theorem Br.conv (w : World) (s : List UInt8) (hl : s.length ≤ 100000000000) : ∃ cap W, (convert 9 44 (.string ⟨s.toArray⟩)).run Tryd.prog w = .ok (.slice (some ⟨w.heap.size, 0, none⟩) s.length cap) W ∧ Below w.heap.size w W ∧ Br W (some ⟨w.heap.size, 0, none⟩) cap s := by
  refine ⟨_, _, Go.Lib.run_convert_string_bytes w 9 44 5 ⟨s.toArray⟩ Tryd.underlying9 Tryd.underlying44 Tryd.underlying5, ?_, w.heap.size, Lib.bytesCells w 5 ⟨s.toArray⟩, _, rfl, Lib.bytesWorld_at_new w 5 _, .inl (Nat.le_refl _), ?_, ?_, ?_, ?_⟩
  · exact ⟨rfl, rfl, rfl, by rw [Lib.bytesWorld_size]; exact Nat.le_succ _, fun k hk => Lib.bytesWorld_at_old w 5 _ k hk⟩
  · exact grownCap_ge w _ 0 5
  · exact grownCap_le_maxLen w _ 0 5 (by show s.length ≤ _; unfold maxLen; omega)
  · have h1 : s.length ≤ grownCap w s.length 0 5 := grownCap_ge w s.length 0 5
    unfold Lib.bytesCells
    rw [Array.size_append, Array.size_map, Array.size_replicate]
    show s.length + (grownCap w s.length 0 5 - s.length) = grownCap w s.length 0 5
    omega
  · unfold Lib.bytesCells
    rw [Array.toList_append, List.take_append_of_le_length (by simp), List.take_of_length_le (by simp)]
    simp [vals]
/-- Bytes more. -/
theorem Br.push {w : World} {p : Option Addr} {cap : Nat} {L : List UInt8} (h : Br w p cap L) (tx ty : TypeId) (x : Value) (Y : List UInt8) (hs : Src Tryd.prog 1 tx x Y.length (vals Y) w) (hl : L.length + Y.length ≤ 100000000000) :
    ∃ q c w', (Builtin.append_ #[44, tx] ty #[.slice p L.length cap, x]).run Tryd.prog w = .ok (.slice q (L.length + Y.length) c) w' ∧ Br w' q c (L ++ Y) ∧ Mod (fun i => ∃ a, p = some a ∧ i = a.block) w w' ∧ ∀ a, q = some a → (p = some a ∨ w.heap.size ≤ a.block) := by
  obtain ⟨g, cur, fr, rfl, hg, hf, h1, h2, h3, h4⟩ := h
  obtain ⟨i, hi, hz, hs1, hb1⟩ : ∃ i, Tryd.prog.info? 5 = some i ∧ i.zero = some (.int .u8 0) ∧ i.size = 1 ∧ i.bytes = 1 := by
    have := lninfo_u8
    cases hq : Tryd.prog.info? 5 with
    | none => rw [hq] at this; cases this
    | some i =>
      rw [hq] at this
      simp only [Option.map_some, Option.some.injEq, Prod.mk.injEq] at this
      exact ⟨i, rfl, this.1, this.2.1, this.2.2⟩
  have hvl : (vals Y).length = Y.length := by simp [vals]
  have hs' : Src Tryd.prog i.size tx x Y.length (vals Y) w := by rw [hs1]; exact hs
  by_cases hroom : L.length + Y.length ≤ cap
  · have hr := run_append_room_src (P := Tryd.prog) w 44 tx ty 5 i Tryd.underlying44 hi g 0 L.length cap x Y.length (vals Y) hs' hroom
      (fun j hj => by rw [hs1, Nat.zero_add, Nat.mul_one, cell_of_row w g _ cur 5 fr hg, Array.getElem?_eq_getElem (show L.length + j < cur.size by omega)]; rfl)
      (fun j hj => by rw [hs1, Nat.zero_add, Nat.mul_one]; exact fr_free hg hf (by omega))
    rw [hs1, Nat.zero_add, Nat.mul_one] at hr
    have hc := heap_setCells_fr g 5 fr (vals Y) L.length w cur hg (by omega)
    refine ⟨_, _, _, hr, ⟨g, _, fr, rfl, hc, ?_, by rw [List.length_append]; exact hroom, h2, ?_, ?_⟩, ?_, fun a e => .inl e⟩
    · have e : (cur.toList.take L.length ++ vals Y ++ cur.toList.drop (L.length + (vals Y).length)).toArray.size = cur.size := by
        simp only [List.size_toArray, List.length_append, List.length_take, List.length_drop, Array.length_toList]; omega
      rw [e]; exact hf
    · simp only [List.size_toArray, List.length_append, List.length_take, List.length_drop, Array.length_toList]; omega
    · rw [h4, List.length_append, List.toList_toArray, ← hvl]
      have e : (vals L).length = L.length := by simp [vals]
      rw [List.take_left' (by rw [List.length_append, e])]
      simp [vals]
    · refine (Mod.refl _ w).grown (grownBy_setCells g (vals Y) _ w) ?_
      intro j hj _
      simp [Value.ownBlock] at hj
      exact ⟨_, rfl, by first | exact hj.symm | exact hj⟩
  · have hfc := run_firstCells_some (P := Tryd.prog) w.drew i.size L.length ⟨g, 0, none⟩ L.length cap (vals L) (by rw [hs1]; simp [vals]) (by
      intro j u hu
      have hj : j < L.length := by have := (List.getElem?_eq_some_iff.1 hu).1; simpa [vals] using this
      rw [← h4, List.getElem?_take, if_pos hj, Array.getElem?_toList] at hu
      rw [Addr.add_mid, Nat.zero_add]
      show w.cell? ⟨g, j, none⟩ = some u
      rw [cell_of_row w g j cur 5 fr hg]; exact hu)
    have hr := run_append_grow_src (P := Tryd.prog) w 44 tx ty 5 i _ Tryd.underlying44 hi hz (some ⟨g, 0, none⟩) L.length cap (vals L) hfc x Y.length (vals Y) hs' (by omega) (by omega) (growslice_fits (by omega) (by rw [hb1]; omega))
    have hge := grownCap_ge w (L.length + Y.length) cap 5
    have hcm := grownCap_le_maxLen w (L.length + Y.length) cap 5 (by unfold maxLen; omega)
    refine ⟨_, _, _, hr, ⟨w.heap.size, _, (0, 0), rfl, heap_alloc_new w.drew _, .inr rfl, by rw [List.length_append]; exact hge, hcm, ?_, ?_⟩, ?_, fun a e => .inr (by cases e; exact Nat.le_refl _)⟩
    · rw [Array.size_append, List.size_toArray, size_zeroCells, List.length_append]
      simp only [vals, List.length_map, Value.cells, List.size_toArray, List.length_cons, List.length_nil]
      omega
    · have e : (vals L ++ vals Y).length = (L ++ Y).length := by simp [vals]
      rw [Array.toList_append, ← e, List.toList_toArray, List.take_left]
      simp [vals]
    · refine (Mod.refl _ w).grown (row := none) ⟨rfl, rfl, rfl, by simp, fun k hk _ => heap_alloc_old w.drew _ hk⟩ (fun k e => by cases e)
end Go.Proofs.YtpdhmjmklmoknaaDoor
