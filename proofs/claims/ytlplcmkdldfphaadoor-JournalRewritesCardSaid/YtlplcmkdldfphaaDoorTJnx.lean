/- JournalRewrites: what is told of it holds for all texts. -/
import Derived.Test.YtlplcmkdldfphaaDoorZ10
namespace Go.Proofs.YtlplcmkdldfphaaDoor
open Go.RowKit

/-- Texts as an element: where they lie, and their capacity. -/
structure TXs where
  o : Option Addr
  c : Nat
  l : List (List UInt8)
instance : Inhabited TXs := ⟨⟨none, 0, []⟩⟩
def encT : Enc TXs := ⟨fun x => [.slice x.o x.l.length x.c], 1, fun _ => rfl, fun _ v hv => by rw [List.mem_singleton.1 hv]; rfl, Nat.one_pos⟩
structure okT (W : World) (x : TXs) : Prop where
  rd : Rd encS W x.o x.l
  z : ∀ s ∈ x.l, (s.length : Int) ≤ 9223372036854775807
  n : x.l.length ≤ 9223372036854775807
theorem frms40 {l : List (List UInt8)} (h : ∀ s ∈ l, s.length ≤ 40) : (frmsB l).length ≤ l.length * 48 := by
  induction l with
  | nil => exact Nat.le_refl _
  | cons s l ih =>
    have h1 := ih (fun x hx => h x (List.mem_cons_of_mem _ hx))
    have h2 := h s (List.mem_cons_self ..)
    have : frmsB (s :: l) = frmB s ++ frmsB l := rfl
    rw [this, List.length_append, frmB_len, List.length_cons]
    omega
/-- What holds while m deeds are behind. -/
structure RwR (w1 wr : World) (d j : Nat) (p : Option Addr) (c n m k : Nat) : Prop where
  ex : ∃ dd l b, JW w1 wr d j (JS 65536 dd l b) p c l ∧ (b = false → l = []) ∧ n = l.length ∧ l.length ≤ k ∧ (∀ s ∈ l, s.length ≤ 40) ∧ Gd (JS 65536 dd l b) m
theorem RwR.b {w1 wr : World} {d j : Nat} {p : Option Addr} {c n m k : Nat} (h : RwR w1 wr d j p c n m k) : Below w1.heap.size w1 wr := by
  obtain ⟨_, _, _, h, _⟩ := h.ex
  exact h.b
theorem JW.jopen {w0 w : World} {d j n : Nat} {S : St} {p : Option Addr} {c : Nat} {T : List (List UInt8)} (h : JW w0 w d j S p c T) (gd : Gd S n) (hn : n ≤ 90000) (hT : TabAt w0) (L : List (List UInt8)) (S' : St) (ho : opnX S = (some L, 0, S')) :
    Calls Tryd.prog 11 #[.pointer (some ⟨d, 0, none⟩)] w fun e w' => ∃ j2 q c2, e = .returned (.tuple #[.pointer (some ⟨j2, 0, none⟩), .slice q L.length c2, .int .i64 0]) ∧ JW w0 w' d j S' p c T ∧ Rw encS 9 w' q c2 L := by
  obtain ⟨F, hA, hF, hB, hx, hj, hl, hR, hp⟩ := h
  refine (jopen_any hA gd hn (TabJ.old hT hB)).mono ?_
  intro e w' hP
  have hE := hP.eff
  obtain ⟨F', hA', hF', hm, hq⟩ := hP
  rw [ho] at hq hE
  obtain ⟨j2, q, c2, rfl, _, _, _, hR2, _⟩ := hq
  exact ⟨j2, q, c2, rfl, JW.step hB hF hx hj hl hR hp hE, hR2⟩
set_option maxRecDepth 20000 in
set_option maxHeartbeats 4000000 in
theorem journalRewrites_any (o : Option Addr) (cap : Nat) (L : List TXs) (o2 : Option Addr) (cap2 : Nat) (M : List (List UInt8)) (W : World) (hR : Rd encT W o L) (hk : ∀ x ∈ L, okT W x) (hn : L.length ≤ 9223372036854775807) (hR2 : Rd encS W o2 M) (hz2 : ∀ s ∈ M, (s.length : Int) ≤ 9223372036854775807) (hn2 : M.length ≤ 9223372036854775807) (hT : TabAt W) :
    Calls Tryd.prog 6 #[.slice o L.length cap, .slice o2 M.length cap2] W fun e w' => e = .returned (.bool true) ∧ Below W.heap.size W w' := by
  have HAW := Lib.hid (awake10_any W hT)
  have HNW := Lib.hid (fun w => Dk.new 65536 65536 65536 w (by decide) (by decide))
  have HT := Lib.hid hT
  have HRD := Lib.hid hR
  have HK := Lib.hid hk
  have HRM := Lib.hid hR2
  have HZM := Lib.hid hz2
  have hL : (L.length : Int) ≤ 9223372036854775807 := by omega
  have hM : (M.length : Int) ≤ 9223372036854775807 := by omega
  clear hT hR hk hR2 hz2
  go_enter Tryd.func6, Tryd.ntmps6
  go_wp2_with fail
  refine HAW.out.mono ?_
  rintro e w1 ⟨rfl, hb1⟩
  have HB1 := Lib.hid hb1
  clear hb1 HAW
  go_wp2_with fail
  refine (HNW.out w1).mono ?_
  rintro e w2 ⟨d, rfl, hD⟩
  have hT1 := TabJ.old HT.out HB1.out
  have g0 : Gd (JS 65536 0 [] false) 0 := Gd.new 65536 (by decide) (by decide)
  have HO := Lib.hid (Dk.jopen (S := JS 65536 0 [] false) hD g0 (by decide) hT1 [] _ (JS.opn (fun _ => rfl) (fun x hx => by cases hx)))
  have HT1 := Lib.hid hT1
  have HG0 := Lib.hid g0
  clear hD HNW hT1 g0
  go_wp2_with fail
  refine HO.out.mono ?_
  rintro e w3 ⟨j, q, c, rfl, hJ, _, _, _⟩
  have H0 : Hid (RwR w1 w3 d j none 0 0 0 9) := Lib.hid ⟨0, [], false, JD.none hJ, fun _ => rfl, rfl, Nat.zero_le _, (fun s hs => by cases hs), HG0.out⟩
  clear hJ HO HG0
  simp only [List.length_nil]
  go_wp2_with fail
  go_loopw [9, 10] (fun s9 s10 wr => ∃ (i n : Nat) (p : Option Addr) (c : Nat), i ≤ L.length ∧ i ≤ 8 ∧ s9 = .slice p n c ∧ s10 = .int .i64 (i : Int) ∧ Hid (RwR w1 wr d j p c n (9 * i) 9)) (fun _ s10 _ => 9 - (intOf s10).toNat)
  case atStart => exact ⟨0, 0, none, 0, by omega, by omega, rfl, rfl, H0⟩
  case round =>
    clear H0
    obtain ⟨i, n, p, c, hi, hi8, rfl, rfl, HS⟩ := hrel
    have i0 : (0 : Int) ≤ i := by omega
    have i8 : (i : Int) ≤ 8 := by omega
    by_cases hlt : i < L.length ∧ i < 8
    · obtain ⟨hl1, hl2⟩ := hlt
      have hl1' : (i : Int) < L.length := by omega
      have hl2' : (i : Int) < 8 := by omega
      obtain ⟨bs, off, rfl, hbs, hc⟩ := HRD.out i hl1
      have hbw : Below W.heap.size W wr := HB1.out.trans (HS.out.b.mono HB1.out.size)
      have ce : wr.cell? ⟨bs, off + i, none⟩ = some (.slice (L[i]).o (L[i]).l.length (L[i]).c) := (hbw.cell hbs).trans (by
        have := hc 0 (.slice (L[i]).o (L[i]).l.length (L[i]).c) rfl
        simpa [encT] using this)
      have hok := HK.out _ (List.getElem_mem hl1)
      obtain ⟨x, hx⟩ : ∃ x, x = L[i] := ⟨_, rfl⟩
      rw [← hx] at ce hok
      obtain ⟨xo, xc, xl⟩ := x
      simp only at ce
      have HTX := Lib.hid (texts10_any 0 0 (.slice none 0 0) (.slice none 0 0) xo xc xl wr rfl rfl (hok.rd.old (hbw.mono (Nat.le_refl _))) hok.z hok.n)
      have HWW := Lib.hid hbw
      clear hx hok hc hbs hbw
      go_wp2_with fail
      refine HTX.out.mono ?_
      rintro e w4 ⟨p4, c4, rfl, hRw, hpn, hb4⟩
      have HR4 : Hid (∀ (T : List (List UInt8)), T = txtB xl → Calls Tryd.prog 15 #[.pointer (some ⟨j, 0, none⟩), .slice p4 T.length c4] w4 fun e w' => e = .returned (.int .i64 0) ∧ RwR w1 w' d j p4 c4 T.length (9 * i + 3) 6) := Lib.hid (by
        rintro T rfl
        obtain ⟨dd, l, b, hJ, hb, hnl, hl9, hl40, hG⟩ := HS.out.ex
        have hJ4 := hJ.jd.made hb4 hRw hpn
        have hT40 := txtB_each xl
        have hT6 := txtB_len xl
        have f1 := frms40 hl40
        have f2 := frms40 hT40
        have e2 : rwtX (JS 65536 dd l b) (txtB xl) = (0, JS 65536 (dd + 3) (txtB xl) true) := JS.rwt hb _ (fun s hs => by have := hT40 s hs; omega) (by omega)
        have hG2 := hG.rwt (txtB xl)
        rw [e2] at hG2
        refine (hJ4.rewrite hG (by omega) (by omega) HT1.out).mono ?_
        rintro e w' ⟨rfl, hJ'⟩
        rw [e2] at hJ'
        exact ⟨by rw [e2], dd + 3, txtB xl, true, hJ', (fun h => by cases h), rfl, hT6, hT40, hG2⟩)
      obtain ⟨T, hT⟩ : ∃ T, T = txtB xl := ⟨_, rfl⟩
      have HRW := Lib.hid (HR4.out T hT)
      rw [← hT]
      clear hRw hpn hb4 HR4 HTX hT HS
      go_wp2_with fail
      refine HRW.out.mono ?_
      rintro e w5 ⟨rfl, hR5⟩
      have H5 := Lib.hid hR5
      clear hR5 HRW
      generalize T.length = n5 at H5 ⊢
      go_wp2_with fail
      go_loopw [9, 11] (fun s9 s11 wq => ∃ (k n : Nat) (p : Option Addr) (c : Nat), k ≤ M.length ∧ k ≤ 3 ∧ s9 = .slice p n c ∧ s11 = .int .i64 (k : Int) ∧ Hid (RwR w1 wq d j p c n (9 * i + 3 + 2 * k) (6 + k))) (fun _ s11 _ => 4 - (intOf s11).toNat)
      case atStart => exact ⟨0, n5, p4, c4, by omega, by omega, rfl, rfl, H5⟩
      case round =>
        clear H5
        obtain ⟨k, n6, p6, c6, hk, hk3, rfl, rfl, HQ⟩ := hrel
        have k0 : (0 : Int) ≤ k := by omega
        have k3 : (k : Int) ≤ 3 := by omega
        by_cases hkt : k < M.length ∧ k < 3
        · obtain ⟨hk1, hk2⟩ := hkt
          have hk1' : (k : Int) < M.length := by omega
          have hk2' : (k : Int) < 3 := by omega
          obtain ⟨bs2, off2, rfl, hbs2, hc2⟩ := HRM.out k hk1
          have hbw2 : Below W.heap.size W wr := HB1.out.trans (HQ.out.b.mono HB1.out.size)
          have ce2 : wr.cell? ⟨bs2, off2 + k, none⟩ = some (.string ⟨(M[k]).toArray⟩) := (hbw2.cell hbs2).trans (by
            have := hc2 0 (.string ⟨(M[k]).toArray⟩) rfl
            simpa [encS] using this)
          obtain ⟨y, hy⟩ : ∃ y, y = M[k] := ⟨_, rfl⟩
          rw [← hy] at ce2
          have hyl : (y.length : Int) ≤ 9223372036854775807 := hy ▸ HZM.out _ (List.getElem_mem _)
          have HCU := Lib.hid (fun w => jcut40_any y 40 w (by unfold maxLen; omega) (by decide))
          obtain ⟨s, hs⟩ : ∃ s, s = y.take 40 := ⟨_, rfl⟩
          rw [← hs] at HCU
          have hs40 : s.length ≤ 40 := by rw [hs, List.length_take]; omega
          have HAP : Hid (Calls Tryd.prog 16 #[.pointer (some ⟨j, 0, none⟩), .string ⟨s.toArray⟩] wr fun e w' => e = .returned (.int .i64 0) ∧ ∃ dd l, JW w1 w' d j (JS 65536 dd (l ++ [s]) true) p6 c6 l ∧ n6 = l.length ∧ l.length ≤ 6 + k ∧ (∀ s ∈ l, s.length ≤ 40) ∧ Gd (JS 65536 dd (l ++ [s]) true) (9 * i + 3 + 2 * (k + 1))) := Lib.hid (by
            obtain ⟨dd, l, b, hJ, hb, hnl, hl9, hl40, hG⟩ := HQ.out.ex
            have f1 := frms40 hl40
            have e2 := JS.apd_fits (rm := 65536) (dd := dd) hb s (by omega) (by omega)
            have hG2 := hG.apd s
            rw [e2] at hG2
            refine (hJ.append hG (by omega) s (by omega) HT1.out).mono ?_
            rintro e w' ⟨rfl, hJ'⟩
            rw [e2] at hJ'
            exact ⟨by rw [e2], dd + 2, l, hJ', hnl, hl9, hl40, by have := hG2; rwa [show 9 * i + 3 + 2 * k + 2 = 9 * i + 3 + 2 * (k + 1) by omega] at this⟩)
          have HSL := Lib.hid hs40
          clear hy hs hc2 hbs2 hbw2 HQ hs40
          go_wp2_with fail
          refine (HCU.out wr).mono ?_
          rintro e w6 ⟨rfl, hww⟩
          subst hww
          go_wp2_with fail
          refine HAP.out.mono ?_
          rintro e w7 ⟨rfl, dd, l, hJ, hnl, hl9, hl40, hG⟩
          have hb8 : Below w7.heap.size w7 (w7.alloc (.cells #[.string ⟨s.toArray⟩] 9)) := (Below.refl _ w7).alloc (Nat.le_refl _) _
          have HS2 : Hid (JW w1 (w7.alloc (.cells #[.string ⟨s.toArray⟩] 9)) d j (JS 65536 dd (l ++ [s]) true) p6 c6 l ∧ Rd encS (w7.alloc (.cells #[.string ⟨s.toArray⟩] 9)) (some ⟨w7.heap.size, 0, none⟩) [s]) := Lib.hid ⟨hJ.old hb8, Rd.made encS w7 9 [s] (by simp [maxLen])⟩
          have HNL := Lib.hid hnl
          have HNB : Hid (n6 + 1 ≤ 100000000000) := Lib.hid (by omega)
          have HG := Lib.hid (And.intro hl9 (And.intro hl40 hG))
          clear hJ hnl hl9 hl40 hG hb8 HAP
          go_wp2_with (refine wpList_pushR encS rfl (.tmp 72) (.tmp 74) 27 9 (.string ⟨#[]⟩) 16 rfl Tryd.underlying27 info_str rfl (by decide) p6 c6 n6 l HNL.out.symm rfl HS2.out.1.row (some ⟨w7.heap.size, 0, none⟩) 1 1 [s] rfl rfl HS2.out.2 HNB.out ?_; intro q2 c2 w8 hP4; have HP4 := Lib.hid hP4; clear hP4; go_frame)
          go_roundw
          case rel =>
            refine ⟨k + 1, n6 + 1, q2, c2, by omega, by omega, rfl, by go_num, Lib.hid ⟨dd, l ++ [s], true, HS2.out.1.push HP4.out, (fun h => by cases h), by rw [List.length_append, ← HNL.out]; rfl, by rw [List.length_append]; have := HG.out.1; simp; omega, ?_, HG.out.2.2⟩⟩
            intro z hz
            rcases List.mem_append.1 hz with h | h
            · exact HG.out.2.1 z h
            · rw [List.mem_singleton.1 h]; exact HSL.out
          case measure => simp [intOf]; omega
        · have HN : Hid (RwR w1 wr d j p6 c6 n6 (9 * (i + 1)) 9) := Lib.hid (by
            obtain ⟨dd, l, b, hJ, hb, hnl, hl9, hl40, hG⟩ := HQ.out.ex
            exact ⟨dd, l, b, hJ, hb, hnl, by omega, hl40, hG.more (by omega)⟩)
          by_cases hk1 : k < M.length
          · obtain rfl : k = 3 := by omega
            have hk1' : (3 : Int) < M.length := by omega
            clear hkt HQ
            go_wp2_with fail
            go_roundw
            case rel => exact ⟨i + 1, n6, p6, c6, by omega, by omega, rfl, by go_num, HN⟩
            case measure => simp [intOf]; omega
          · have hk1' : ¬ (k : Int) < M.length := by omega
            clear hkt HQ
            go_wp2_with fail
            go_roundw
            case rel => exact ⟨i + 1, n6, p6, c6, by omega, by omega, rfl, by go_num, HN⟩
            case measure => simp [intOf]; omega
    · obtain ⟨dd, l, b, hJ, hb, hnl, hl9, hl40, hG⟩ := HS.out.ex
      have hl6 : ∀ s ∈ l, s.length ≤ 1048576 := fun s hs => by have := hl40 s hs; omega
      have HNL := Lib.hid hnl
      have HCR : Hid (Calls Tryd.prog 17 #[.pointer (some ⟨d, 0, none⟩), .slice none 0 0] wr fun e w' => e = .returned (.tuple #[]) ∧ JW w1 w' d j (JS 65536 dd l b) p c l) := Lib.hid (by
        have := hJ.crash (hG.ok (by omega))
        rwa [JS.crash] at this)
      have HOP : Hid (∀ w', JW w1 w' d j (JS 65536 dd l b) p c l → Calls Tryd.prog 11 #[.pointer (some ⟨d, 0, none⟩)] w' fun e w'' => ∃ j2 q c2, e = .returned (.tuple #[.pointer (some ⟨j2, 0, none⟩), .slice q n c2, .int .i64 0]) ∧ JW w1 w'' d j (JS 65536 dd l b) p c l ∧ Rw encS 9 w'' q c2 l) := Lib.hid (fun w' h => by
        have := h.jopen hG (by omega) HT1.out l _ (JS.opn hb hl6)
        rwa [← hnl] at this)
      have HSA : Hid (∀ w' q c2, JW w1 w' d j (JS 65536 dd l b) p c l → Rw encS 9 w' q c2 l → Calls Tryd.prog 19 #[.slice q n c2, .slice p n c] w' fun e w'' => e = .returned (.bool true) ∧ JW w1 w'' d j (JS 65536 dd l b) p c l) := Lib.hid (fun w' q c2 h hq => by
        have := same10_any q p c2 c l l w' hq.rd h.row.rd (by omega) (by omega)
        rw [← hnl] at this
        exact this.mono (by rintro e w'' ⟨rfl, hb⟩; exact ⟨by simp, h.old hb⟩))
      have HNM : Hid (∀ w', JW w1 w' d j (JS 65536 dd l b) p c l → Calls Tryd.prog 27 #[.pointer (some ⟨d, 0, none⟩)] w' fun e w'' => ∃ (q : Option Addr) (c2 m : Nat), e = .returned (.slice q m c2) ∧ m ≤ 1 ∧ Below W.heap.size W w'') := Lib.hid (fun w' h => by
        have hbw := h.b
        obtain ⟨F, hA, _⟩ := h
        have ok := hG.ok (by omega)
        refine (dknames_any hA (Nat.le_trans ok.n (by decide)) ok.k).mono ?_
        rintro e w'' ⟨q, c2, rfl, _, _, hb2⟩
        refine ⟨q, c2, _, rfl, by cases b <;> simp [JS, LX], HB1.out.trans ((hbw.trans (hb2.mono hbw.size)).mono HB1.out.size)⟩)
      clear hJ hb hnl hl9 hl40 hG hl6 HS
      by_cases hl1 : i < L.length
      · obtain rfl : i = 8 := by omega
        have hl1' : (8 : Int) < L.length := by omega
        clear hlt
        go_wp2_with fail
        refine HCR.out.mono ?_
        rintro e w4 ⟨rfl, hJ⟩
        have HJ := Lib.hid hJ
        clear hJ HCR
        go_wp2_with fail
        refine (HOP.out _ HJ.out).mono ?_
        rintro e w5 ⟨j2, q2, c2, rfl, hJ, hq⟩
        have HJ := Lib.hid hJ
        have HQ := Lib.hid hq
        clear hJ hq HOP
        go_wp2_with fail
        refine (HSA.out _ _ _ HJ.out HQ.out).mono ?_
        rintro e w6 ⟨rfl, hJ⟩
        have HJ := Lib.hid hJ
        clear hJ HSA
        go_wp2_with fail
        refine (HNM.out _ HJ.out).mono ?_
        rintro e w7 ⟨q3, c3, m, rfl, hm, hb⟩
        have HF := Lib.hid hb
        have hm' : (m : Int) ≤ 1 := by omega
        clear hb HNM
        go_wp2_with fail
        go_ret
        exact ⟨rfl, HF.out⟩
      · have hl1' : ¬ (i : Int) < L.length := by omega
        clear hlt
        go_wp2_with fail
        refine HCR.out.mono ?_
        rintro e w4 ⟨rfl, hJ⟩
        have HJ := Lib.hid hJ
        clear hJ HCR
        go_wp2_with fail
        refine (HOP.out _ HJ.out).mono ?_
        rintro e w5 ⟨j2, q2, c2, rfl, hJ, hq⟩
        have HJ := Lib.hid hJ
        have HQ := Lib.hid hq
        clear hJ hq HOP
        go_wp2_with fail
        refine (HSA.out _ _ _ HJ.out HQ.out).mono ?_
        rintro e w6 ⟨rfl, hJ⟩
        have HJ := Lib.hid hJ
        clear hJ HSA
        go_wp2_with fail
        refine (HNM.out _ HJ.out).mono ?_
        rintro e w7 ⟨q3, c3, m, rfl, hm, hb⟩
        have HF := Lib.hid hb
        have hm' : (m : Int) ≤ 1 := by omega
        clear hb HNM
        go_wp2_with fail
        go_ret
        exact ⟨rfl, HF.out⟩
end Go.Proofs.YtlplcmkdldfphaaDoor
