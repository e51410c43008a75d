/- What is there stays: DagGrows' walk. (PARTS; tools/mk-dgq.py) -/
import Derived.Test.YtkchkloflleilaaGreatDoorZ14
namespace Go.Proofs.YtkchkloflleilaaGreatDoor
open Go.RowKit

/-- What stands at the head of a round: the dag, the names that came in, the headers. -/
structure GwS (w w1 w2 : World) (da : Nat) (hq : Option Addr) (D : List RH) (wr : World) (N : List Nm) (q : Option Addr) (c : Nat) : Prop where
  dg : ∃ (S R : Nat → Prop) (X : DD), DG S R wr da X ∧ (∀ b ∈ X.K, b.id = nmH b.h) ∧ X.K.length = 1 + N.length ∧ (∀ n ∈ N, hasE n (kE X.K) = true) ∧ (∀ k, R k → w.heap.size ≤ k ∧ (k < w1.heap.size ∨ w2.heap.size ≤ k)) ∧ (∀ a, q = some a → ¬ R a.block)
  rw : Rw encN 70 wr q c N
  f : ∀ a, q = some a → w2.heap.size ≤ a.block
  rd : Rd encR wr hq D
  ok : ∀ y ∈ D, okH wr y
  b : Below w.heap.size w wr
  s2 : w2.heap.size ≤ wr.heap.size
theorem GwS.old {w w1 w2 : World} {da : Nat} {hq : Option Addr} {D : List RH} {wr w' : World} {N : List Nm} {q : Option Addr} {c : Nat} (h : GwS w w1 w2 da hq D wr N q c) (hb : Below wr.heap.size wr w') : GwS w w1 w2 da hq D w' N q c := by
  obtain ⟨S, R, X, h1, h2⟩ := h.dg
  exact ⟨⟨S, R, X, h1.old hb, h2⟩, h.rw.old hb, h.f, h.rd.old hb, fun y hy => (h.ok y hy).old hb, h.b.trans (hb.mono h.b.size), Nat.le_trans h.s2 hb.size⟩
/-- The headers' rows lie between. -/
def BtH (w1 w2 : World) (hq : Option Addr) (D : List RH) : Prop := (∀ a, hq = some a → w1.heap.size ≤ a.block ∧ a.block < w2.heap.size) ∧ ∀ y ∈ D, ∀ z, y.q = some z → w1.heap.size ≤ z.block ∧ z.block < w2.heap.size
/-- A header came in, and its name is kept. -/
theorem GwS.add {w w1 w2 : World} {da : Nat} {hq : Option Addr} {D : List RH} {wr wa wb wc : World} {N : List Nm} {q q' : Option Addr} {c c' : Nat} {S R : Nat → Prop} {X : DD} {H : Hd Nm}
    (h : GwS w w1 w2 da hq D wr N q c) (hB : BtH w1 w2 hq D) (hdg : DG S R wr da X) (hid : ∀ b ∈ X.K, b.id = nmH b.h) (hlen : X.K.length = 1 + N.length) (hin : ∀ n ∈ N, hasE n (kE X.K) = true) (hR : ∀ k, R k → w.heap.size ≤ k ∧ (k < w1.heap.size ∨ w2.heap.size ≤ k)) (hnR : ∀ a, q = some a → ¬ R a.block)
    (ha : AddP S R wr da X H wa) (hb : Below wa.heap.size wa wb) (hp : PushR encN 70 wb q (N ++ [nmH H]) q' c' wc) (HW2 : w.heap.size ≤ w2.heap.size) : GwS w w1 w2 da hq D wc (N ++ [nmH H]) q' c' := by
  obtain ⟨S', R', F', b, hbi, hd, hm, hS', hR'⟩ := ha
  have hSR : ∀ k, S k → R k := hdg.rs
  have hmB : Mod S wr wb := hm.trans (Mod.of_below hb) (fun i hi e => by have := hm.size; omega)
  have hm2 : Mod (fun i => ∃ a, q = some a ∧ i = a.block) wb wc := hp.2.1
  have hqlt : ∀ a, q = some a → a.block < wr.heap.size := fun a e => by have := h.rw; rw [e] at this; exact this.lt
  have hnR' : ∀ a, q = some a → ¬ R' a.block := fun a e hr => by
    rcases hR' _ hr with h1 | h1
    · exact hnR a e h1
    · have := hqlt a e; omega
  have hfr : ∀ k, S k → ¬ (w1.heap.size ≤ k ∧ k < w2.heap.size) := fun k hk hh => by have := (hR k (hSR k hk)).2; omega
  have hfq : ∀ k, (∃ a, q = some a ∧ k = a.block) → ¬ (w1.heap.size ≤ k ∧ k < w2.heap.size) := by rintro k ⟨a, e, rfl⟩ hh; have := h.f a e; omega
  refine ⟨⟨S', R', _, (hd.old hb).kept hm2 (by rintro k ⟨a, e, rfl⟩; exact hnR' a e), ?_, ?_, ?_, ?_, ?_⟩, hp.1, ?_, (h.rd.mod hmB (fun a e hs => hfr _ hs (hB.1 a e))).mod hm2 (fun a e hs => hfq _ hs (hB.1 a e)), ?_, ?_, ?_⟩
  · intro b' hb'
    rcases List.mem_cons.1 hb' with rfl | hb'
    · have e1 : b'.id = nmH H := congrArg (·.1) hbi
      have e2 : b'.h = H := congrArg (·.2) hbi
      rw [e1, e2]
    · exact hid b' hb'
  · show (b :: X.K).length = _
    rw [List.length_cons, hlen, List.length_append, List.length_singleton]; omega
  · intro n hn
    rcases List.mem_append.1 hn with h1 | h1
    · obtain ⟨b', hb', e⟩ := (kE_has _ _).1 (hin n h1)
      exact (kE_has _ _).2 ⟨b', List.mem_cons_of_mem _ hb', e⟩
    · rw [List.mem_singleton.1 h1]
      exact (kE_has _ _).2 ⟨b, List.mem_cons_self, congrArg (·.1) hbi⟩
  · intro k hk
    rcases hR' k hk with h1 | h1
    · exact hR k h1
    · have := h.b.size; have := h.s2; omega
  · intro a e hr
    rcases hp.2.2 a e with h1 | h1
    · exact hnR' a h1 hr
    · have := hd.rl _ hr; have := hb.size; omega
  · intro a e
    rcases hp.2.2 a e with h1 | h1
    · exact h.f a h1
    · have := h.s2; have := hm.size; have := hb.size; omega
  · intro y hy
    exact ((h.ok y hy).kept hmB (fun a e hs => hfr _ hs (hB.2 y hy a e))).kept hm2 (fun a e hs => hfq _ hs (hB.2 y hy a e))
  · have h1 : Below w.heap.size w wb := h.b.trans (hmB.to_below h.b.size (fun k hk hs => by have := (hR k (hSR k hs)).1; omega))
    exact h1.trans (hm2.to_below h1.size (by rintro k hk ⟨a, e, rfl⟩; have h2 := h.f a e; have h3 := h.b.size; have := hnR a e; have h4 : w.heap.size ≤ w2.heap.size := HW2; omega))
  · have := h.s2; have := hmB.size; have := hm2.size; omega
set_option maxRecDepth 20000 in
set_option maxHeartbeats 16000000 in
theorem dagGrows_any (sq : Option Addr) (sc : Nat) (L : List SD) (w : World) (hL : Rd encSD w sq L) (hA : ∀ s ∈ L, argS w s) (hl : L.length ≤ 9223372036854775807) (hT : TabAt w) :
    Calls Tryz.prog 7 #[.slice sq L.length sc] w fun r w' => r = .returned (.bool true) ∧ Below w.heap.size w w' := by
  have HT := Lib.hid hT
  have HAW := Lib.hid (awake13_any w hT)
  have HNEW := Lib.hid (fun (u : World) (h : TabAt u) => dgnew_any u h)
  have HGRN := Lib.hid (fun (u : World) (hb : Below w.heap.size w u) => grown_any sq sc L 16 u (hL.old hb) (fun s hs => (hA s hs).old hb) (by decide) hl)
  obtain ⟨ln, hln⟩ : ∃ ln, ln = L.length := ⟨_, rfl⟩
  rw [← hln] at HGRN ⊢
  clear hL hA hl hT hln
  go_enter Tryz.func7, Tryz.ntmps7
  go_wp2_with fail
  refine HAW.out.mono ?_
  rintro r w0 ⟨rfl, hb0⟩
  have HB0 := Lib.hid hb0
  clear hb0 HAW
  go_wp2_with fail
  refine (HNEW.out w0 (HT.out.old HB0.out)).mono ?_
  rintro r w1 ⟨da, rfl, S, R, X, hdg, hgen, hR, hb1⟩
  have HD0 := Lib.hid hdg
  have HGEN := Lib.hid hgen
  have HR0 : Hid (∀ k, R k → w.heap.size ≤ k) := Lib.hid (fun k hk => Nat.le_trans HB0.out.size (hR k hk))
  have HB1 := Lib.hid (HB0.out.trans (hb1.mono HB0.out.size))
  clear hdg hgen hR hb1 HNEW
  go_wp2_with fail
  refine (HGRN.out w1 HB1.out).mono ?_
  rintro r w2 ⟨hn, hq, hc, D, hn16, rfl, hG⟩
  have HDN : Hid (hn = D.length) := Lib.hid hG.len.symm
  have HBT : Hid (BtH w1 w2 hq D) := Lib.hid ⟨fun a e => ⟨hG.f a e, by have := hG.rw; rw [e] at this; exact this.lt⟩, fun y hy z e => ⟨hG.fr y hy z e, by
    obtain ⟨cur, hcu⟩ := (hG.ok y hy).t z e
    exact (Array.getElem?_eq_some_iff.1 hcu).1⟩⟩
  have HW12 : Hid (w.heap.size ≤ w2.heap.size) := Lib.hid (Nat.le_trans HB1.out.size hG.b.size)
  have H0 : Hid (GwS w w1 w2 da hq D w2 [] none 0) := Lib.hid ⟨⟨S, R, X, HD0.out.old hG.b, (by
      obtain ⟨b, hX, h1, h2⟩ := gen_mem HGEN.out
      intro b' hb'
      rw [hX] at hb'
      rw [List.mem_singleton.1 hb', h1, h2]), (by
      obtain ⟨b, hX, _⟩ := gen_mem HGEN.out
      rw [hX]; rfl), (fun n h => by cases h), fun k hk => ⟨HR0.out k hk, .inl (HD0.out.rl k hk)⟩, fun a e => by cases e⟩, Rw.empty _ _, (fun a e => by cases e), hG.rw.rd, hG.ok, HB1.out.trans (hG.b.mono HB1.out.size), Nat.le_refl _⟩
  clear hG HGRN HD0 HGEN HR0
  go_wp2_with fail
  go_loopw [4, 24] (fun s4 s24 wr => ∃ (k : Nat) (N : List Nm) (q : Option Addr) (c : Nat), k ≤ hn ∧ N.length ≤ k ∧ s24 = .int .i64 (k : Int) ∧ s4 = .slice q N.length c ∧ Hid (GwS w w1 w2 da hq D wr N q c) ∧ Hid (N = [] → q = none ∧ c = 0)) (fun _ s24 _ => hn - (intOf s24).toNat)
  case atStart => exact ⟨0, [], none, 0, by omega, Nat.le_refl _, rfl, rfl, H0, Lib.hid (fun _ => ⟨rfl, rfl⟩)⟩
  case round =>
    clear H0
    obtain ⟨k, N, q, c, hkn, hNk, rfl, rfl, HS, HNE⟩ := hrel
    have k0 : (0 : Int) ≤ k := by omega
    obtain ⟨nn, hnn⟩ : ∃ nn, nn = N.length := ⟨_, rfl⟩
    have HNN := Lib.hid hnn
    rw [← hnn] at hNk ⊢
    clear hnn
    by_cases hlt : k < hn
    · have hlt' : (k : Int) < hn := by omega
      obtain ⟨bs, off, rfl, hbs, cx⟩ := HS.out.rd k (by have := HDN.out; omega)
      obtain ⟨y, hy⟩ : ∃ y, y = D[k]'(by have := HDN.out; omega) := ⟨_, rfl⟩
      rw [← hy] at cx
      have hyk : okH wr y := HS.out.ok y (by rw [hy]; exact List.getElem_mem _)
      have HYK := Lib.hid hyk
      have HCL : Hid (∀ i u, y.cells[i]? = some u → wr.cell? ⟨bs, off + k * 7 + i, none⟩ = some u) := Lib.hid cx
      have HYS : Hid (y.cells.toArray.size = 7) := Lib.hid rfl
      have HYI := Lib.hid (rh_info y)
      have HYO : Hid (∀ v ∈ y.cells.toArray.toList, v.oneCell' = true) := Lib.hid (by simpa using y.one)
      clear hy cx hyk hbs
      go_upto_region 10 with (first
        | (refine wpList_exec rfl (exec_load_rhm (.tmp 26) rfl bs (off + k * 7) rfl y HCL.out) ?_; go_frame)
        | (refine wpList_store_row rfl rfl 29 (.tmp 6) (.tmp 27) rfl wr.heap.size rfl 29 _ y.cells.toArray rfl (heap_alloc_new wr _) HYS.out.symm HYI.out HYO.out ?_))
      refine wp_gen (fun W5 => W5.heap[wr.heap.size]? = some (.cells y.cells.toArray 29 (0, 0)) ∧ Below wr.heap.size wr W5) (row_new wr _ _ y.cells.toArray 29 rfl) (fun W5 hW5 => ?_)
      obtain ⟨hr5, hb5⟩ := hW5
      obtain ⟨g6, hg6⟩ : ∃ g6, g6 = wr.heap.size := ⟨_, rfl⟩
      rw [← hg6] at hr5
      rw [← hg6]
      have HR5 := Lib.hid hr5
      have HS5 := Lib.hid (HS.out.old hb5)
      have HBR5 := Lib.hid hb5
      have HOW : Hid (Calls Tryz.prog 14 #[.agg y.cells.toArray] W5 fun r w' => ∃ q c, r = .returned (.agg (hcells (ownH y.h) q c)) ∧ Rw encN 70 w' q c (ownH y.h).ps ∧ Below W5.heap.size W5 w' ∧ ∀ a, q = some a → W5.heap.size ≤ a.block) := Lib.hid (own_any y.h y.q y.c W5 (HYK.out.a.rd.old hb5) (by have := HYK.out.n; omega))
      have HOK : Hid (HOk (ownH y.h)) := Lib.hid (by
        have h1 := HYK.out.n
        have h2 := HYK.out.k
        have h3 := HYK.out.a
        exact ⟨by show (y.h.ps.map nmOf).length ≤ _; rw [List.length_map]; omega, by show y.h.tk.length ≤ _; omega, h3.pw, h3.b1, h3.b2, h3.b3, h3.b4⟩)
      obtain ⟨H, hH⟩ : ∃ H, H = ownH y.h := ⟨_, rfl⟩
      rw [← hH] at HOW HOK
      obtain ⟨YC, hYC⟩ : ∃ YC, YC = y.cells.toArray := ⟨_, rfl⟩
      rw [← hYC] at HOW HR5 HYI
      clear hr5 hb5 hg6 hH hYC HCL
      go_upto_region 10 with fail
      go_wp2_with (refine wpList_exec rfl (exec_load_row 29 (.tmp 6) rfl g6 rfl 29 YC (0, 0) _ HR5.out Tryz.underlying29 rfl HYI.out) ?_)
      refine HOW.out.mono ?_
      rintro r W6 ⟨oq, oc, rfl, hor, hb6, hof⟩
      obtain ⟨HC, hHC⟩ : ∃ HC, HC = hcells H oq oc := ⟨_, rfl⟩
      have HHC := Lib.hid hHC
      rw [← hHC]
      have HI : Hid ((Tryz.prog.info? 41).map (·.size) = some HC.size) := Lib.hid (by rw [hHC]; exact hinfo)
      have HON : Hid (∀ v ∈ HC.toList, v.oneCell' = true) := Lib.hid (by rw [hHC]; exact hcells_one _ _ _)
      have HSZ : Hid (HC.size = 7) := Lib.hid (by rw [hHC]; rfl)
      have HOR := Lib.hid hor
      have HS6 := Lib.hid (HS5.out.old hb6)
      have HBR6 := Lib.hid (HBR5.out.trans (hb6.mono HBR5.out.size))
      have HOF : Hid (∀ a, oq = some a → wr.heap.size ≤ a.block) := Lib.hid (fun a e => Nat.le_trans HBR5.out.size (hof a e))
      clear hHC hor hb6 hof HOW
      go_upto_region 11 with (refine wpList_store_row rfl rfl 41 (.tmp 7) (.tmp 29) rfl W6.heap.size rfl 41 _ HC rfl (heap_alloc_new W6 _) HSZ.out.symm HI.out HON.out ?_)
      refine wp_gen (fun W7 => W7.heap[W6.heap.size]? = some (.cells HC 41 (0, 0)) ∧ Below W6.heap.size W6 W7) (row_new W6 _ _ HC 41 rfl) (fun W7 hW7 => ?_)
      obtain ⟨hr7, hb7⟩ := hW7
      obtain ⟨g7, hg7⟩ : ∃ g7, g7 = W6.heap.size := ⟨_, rfl⟩
      rw [← hg7] at hr7
      rw [← hg7]
      have HR7 := Lib.hid hr7
      have hs7 := HS6.out.old hb7
      have HS7 := Lib.hid hs7
      obtain ⟨S, R, X, hdg0, hid, hlen, hin, hR, hnR⟩ := HS.out.dg
      have hbr7 : Below wr.heap.size wr W7 := HBR6.out.trans (hb7.mono HBR6.out.size)
      have hdg := hdg0.old hbr7
      have HRL : Hid (∀ a, R a → a < wr.heap.size) := Lib.hid hdg0.rl
      have HDG := Lib.hid hdg
      have HID := Lib.hid hid
      have HLEN := Lib.hid hlen
      have HIN := Lib.hid hin
      have HRR := Lib.hid hR
      have HNR := Lib.hid hnR
      have HOR7 := Lib.hid (HOR.out.old hb7)
      have HADD := Lib.hid (dgadd_any hdg H oq oc HOR7.out.rd HOR7.out.ao HOK.out (by rw [hlen]; have := HNN.out; omega) (HT.out.old hs7.b))
      rw [← HHC.out] at HADD
      have HGL : Hid (wr.heap.size ≤ g7) := Lib.hid (by rw [hg7]; exact HBR6.out.size)
      clear hr7 hb7 hg7 hs7 hdg0 hbr7 hdg hid hlen hin hR hnR HR5 HS5 HS6 HBR5 HBR6
      go_upto_region 11 with fail
      go_upto_region 12 with (refine wpList_exec rfl (exec_load_row 41 (.tmp 7) rfl g7 rfl 41 HC (0, 0) _ HR7.out Tryz.underlying41 rfl HI.out) ?_)
      refine HADD.out.mono ?_
      rintro r W8 ⟨e, rfl, _, hp8⟩
      by_cases he : e = 0
      · subst he
        have hA : AddP S R W7 da X H W8 := by
          rcases hp8 with ⟨h, _⟩ | ⟨_, h⟩
          · exact absurd rfl h
          · exact h
        obtain ⟨S', R', F', nb, hnb, hd8, hm8, _, _⟩ := id hA
        have hr8 : W8.heap[g7]? = some (.cells HC 41 (0, 0)) := (hm8.block g7 (Array.getElem?_eq_some_iff.1 HR7.out).1 (fun h => by have := HRL.out _ (HDG.out.rs _ h); have := HGL.out; omega)).trans HR7.out
        have hor8 : Rd encN W8 oq H.ps := HOR7.out.rd.mod hm8 (fun a e h => by have := HRL.out _ (HDG.out.rs _ h); have := HOF.out a e; omega)
        have hb8 : Below w.heap.size w W8 := HS7.out.b.trans (hm8.to_below HS7.out.b.size (fun k hk h => by have := (HRR.out k (HDG.out.rs k h)).1; omega))
        have HIDC : Hid (Calls Tryz.prog 35 #[.agg HC] W8 fun r w' => r = .returned (.agg (vals (nmH H).1).toArray) ∧ Below W8.heap.size W8 w') := Lib.hid (by rw [HHC.out]; exact hid_any H oq oc W8 hor8 HOK.out (HT.out.old hb8))
        have HRW8 : Hid (Rw encN 70 W8 q c N) := Lib.hid (HS7.out.rw.kept hm8 (fun a e h => HNR.out a e (HDG.out.rs _ h)))
        have HR8 := Lib.hid hr8
        have HAP := Lib.hid hA
        obtain ⟨nm, hnm⟩ : ∃ nm, nm = nmH H := ⟨_, rfl⟩
        have HNM := Lib.hid hnm
        rw [← hnm] at HIDC
        have HNL : Hid (N.length = nn) := Lib.hid HNN.out.symm
        have HNB : Hid (nn + 1 ≤ 100000000000) := Lib.hid (by omega)
        clear hp8 hA hnb hd8 hm8 hr8 hor8 hb8 hnm HADD HR7
        go_upto_region 12 with fail
        go_upto_region 13 with (refine wpList_exec rfl (exec_load_row 41 (.tmp 7) rfl g7 rfl 41 HC (0, 0) _ HR8.out Tryz.underlying41 rfl HI.out) ?_)
        refine HIDC.out.mono ?_
        rintro r W9 ⟨rfl, hb9⟩
        have hb10 := alloc1 W9 (.cells (vals nm.1).toArray 70)
        have HB10 : Hid (Below W8.heap.size W8 (W9.alloc (.cells (vals nm.1).toArray 70))) := Lib.hid (hb9.trans (hb10.mono hb9.size))
        have HRW10 := Lib.hid (HRW8.out.old HB10.out)
        have HRD10 : Hid (Rd encN (W9.alloc (.cells (vals nm.1).toArray 70)) (some ⟨W9.heap.size, 0, none⟩) [nm]) := Lib.hid (by have := Rd.made encN W9 70 [nm] (by simp [maxLen]); rw [enc_one] at this; exact this)
        clear hb9 hb10 HIDC
        go_upto_region 13 with (first
          | (refine wpList_exec rfl (build_name (.tmp 36) rfl nm.1 nm.2 rfl) ?_; go_frame)
          | (at_builtin; refine wpList_pushR encN rfl (.tmp 34) (.tmp 37) 39 70 (.agg (vals zid).toArray) 32 rfl Tryz.underlying39 info_id (id_size (s := zid) rfl) (by decide) q c nn N HNL.out rfl HRW10.out (some ⟨W9.heap.size, 0, none⟩) 1 1 [nm] rfl rfl HRD10.out HNB.out ?_; intro q2 c2 W11 hP; have HP := Lib.hid hP; clear hP; go_frame))
        obtain ⟨N2, hN2⟩ : ∃ N2, N2 = N ++ [nm] := ⟨_, rfl⟩
        obtain ⟨n2, hn2⟩ : ∃ n2, n2 = nn + 1 := ⟨_, rfl⟩
        have HN2 : Hid (n2 = N2.length) := Lib.hid (by rw [hn2, hN2, List.length_append, HNL.out]; rfl)
        have HGW : Hid (GwS w w1 w2 da (some ⟨bs, off, none⟩) D W11 N2 q2 c2) := Lib.hid (by
          rw [hN2, HNM.out]
          exact GwS.add HS7.out HBT.out HDG.out HID.out HLEN.out HIN.out HRR.out HNR.out HAP.out HB10.out (by rw [← HNM.out]; exact HP.out) HW12.out)
        have HNE2 : Hid (N2 = [] → q2 = none ∧ c2 = 0) := Lib.hid (fun h => by rw [hN2] at h; simp at h)
        rw [← hn2]
        have hn2k : n2 ≤ k + 1 := by omega
        clear hN2 hn2 HP HRD10 HRW10 HRW8 HB10
        obtain ⟨S2, R2, X2, hdg2, hid2, hlen2, hin2, _⟩ := HGW.out.dg
        have HDG2 := Lib.hid hdg2
        have HID2 := Lib.hid hid2
        have HIN2 := Lib.hid hin2
        clear hdg2 hid2 hlen2 hin2
        go_wp2_with fail
        go_loopw [41] (fun s41 wx => ∃ j : Nat, j ≤ n2 ∧ s41 = .int .i64 (j : Int) ∧ Hid (Below W11.heap.size W11 wx)) (fun s41 _ => n2 - (intOf s41).toNat)
        case atStart => exact ⟨0, Nat.zero_le _, rfl, Lib.hid (Below.refl _ _)⟩
        case round =>
          obtain ⟨j, hj, rfl, HBJ⟩ := hrel
          have j0 : (0 : Int) ≤ j := by omega
          by_cases hj1 : j < n2
          · have hj1' : (j : Int) < n2 := by omega
            have hjl : j < N2.length := by have := HN2.out; omega
            obtain ⟨bs2, off2, rfl, hbs2, cx2⟩ := (HGW.out.rw.rd.old HBJ.out) j hjl
            obtain ⟨n, hn⟩ : ∃ n : Nm, n = N2[j]'hjl := ⟨N2[j]'hjl, rfl⟩
            rw [← hn] at cx2
            have HCN : Hid (∀ i u, (encN.f n)[i]? = some u → wr.cell? ⟨bs2, off2 + j * 32 + i, none⟩ = some u) := Lib.hid cx2
            have hni : hasE n (kE X2.K) = true := HIN2.out n (by rw [hn]; exact List.getElem_mem _)
            have HNI := Lib.hid hni
            have HI2 : Hid ((Tryz.prog.info? 70).map (·.size) = some (vals n.1).toArray.size) := Lib.hid (id_info n.2)
            have HSZ2 : Hid ((vals n.1).toArray.size = 32) := Lib.hid (id_size n.2)
            have HON2 : Hid (∀ v ∈ (vals n.1).toArray.toList, v.oneCell' = true) := Lib.hid (id_one n.1)
            clear hn cx2 hbs2 hni hjl
            go_upto_region 16 with (first
              | (refine wpList_load_mid rfl (.tmp 43) rfl bs2 (off2 + j * 32) rfl n HCN.out ?_; go_frame)
              | (refine wpList_store_row rfl rfl 70 (.tmp 9) (.tmp 44) rfl wr.heap.size rfl 70 _ (vals n.1).toArray rfl (heap_alloc_new wr _) HSZ2.out.symm HI2.out HON2.out ?_))
            refine wp_gen (fun W20 => W20.heap[wr.heap.size]? = some (.cells (vals n.1).toArray 70 (0, 0)) ∧ Below wr.heap.size wr W20) (row_new wr _ _ (vals n.1).toArray 70 rfl) (fun W20 hW20 => ?_)
            obtain ⟨hr20, hb20⟩ := hW20
            obtain ⟨g9, hg9⟩ : ∃ g9, g9 = wr.heap.size := ⟨_, rfl⟩
            rw [← hg9] at hr20
            rw [← hg9]
            have HR20 := Lib.hid hr20
            have HB20 : Hid (Below W11.heap.size W11 W20) := Lib.hid (HBJ.out.trans (hb20.mono HBJ.out.size))
            have HBK := Lib.hid (dgblock_any (HDG2.out.old HB20.out) n)
            rw [HNI.out] at HBK
            have HC20 : Hid (∀ i u, (encN.f n)[i]? = some u → W20.cell? ⟨g9, 0 + i, none⟩ = some u) := Lib.hid (fun i u hu => by rw [cell_of_row _ g9 (0 + i) _ _ _ hr20, Nat.zero_add, List.getElem?_toArray]; exact hu)
            clear hr20 hb20 hg9 HCN
            go_upto_region 16 with fail
            go_upto_region 17 with (refine wpList_load_mid rfl (.tmp 9) rfl g9 0 rfl n HC20.out ?_; go_frame)
            refine HBK.out.mono ?_
            rintro r W21 ⟨b0, b1, rfl, hbb, hbo, hbk, hb21⟩
            have hbm := hbk trivial
            have hnb1 : nmH b1.h = n := by
              have e1 : b1.h = b0.h := congrArg (·.2) hbb
              rw [e1, ← HID2.out b0 hbm.1, hbm.2]
            have hok1 : HOk b1.h := by
              have e1 : b1.h = b0.h := congrArg (·.2) hbb
              rw [e1]; exact (HDG2.out.ko b0 hbm.1).1
            have HNB1 := Lib.hid hnb1
            have HOK1 := Lib.hid hok1
            have HB21 : Hid (Below W11.heap.size W11 W21) := Lib.hid (HB20.out.trans (hb21.mono HB20.out.size))
            have hr21 := (hb21.block g9 (Array.getElem?_eq_some_iff.1 HR20.out).1).trans HR20.out
            have HR21 := Lib.hid hr21
            have HBO := Lib.hid hbo.ok
            have HQ1 : Hid (b1.cells.toArray.size = 39) := Lib.hid b1.size
            have HQ2 := Lib.hid (blk_info b1)
            have HQ3 : Hid (∀ v ∈ b1.cells.toArray.toList, v.oneCell' = true) := Lib.hid (by simpa using b1.one)
            clear hbb hbo hbk hb21 hbm hnb1 hok1 hr21 HBK HC20
            go_upto_region 17 with (refine wpList_store_row rfl rfl 72 (.tmp 10) (.tmp 49) rfl W21.heap.size rfl 72 _ b1.cells.toArray rfl (heap_alloc_new W21 _) HQ1.out.symm HQ2.out HQ3.out ?_)
            refine wp_gen (fun W22 => W22.heap[W21.heap.size]? = some (.cells b1.cells.toArray 72 (0, 0)) ∧ Below W21.heap.size W21 W22) (row_new W21 _ _ b1.cells.toArray 72 rfl) (fun W22 hW22 => ?_)
            obtain ⟨hr22, hb22⟩ := hW22
            obtain ⟨g10, hg10⟩ : ∃ g10, g10 = W21.heap.size := ⟨_, rfl⟩
            rw [← hg10] at hr22
            rw [← hg10]
            have HR22 := Lib.hid hr22
            have HB22 : Hid (Below W11.heap.size W11 W22) := Lib.hid (HB21.out.trans (hb22.mono HB21.out.size))
            have hr922 := (hb22.block g9 (Array.getElem?_eq_some_iff.1 HR21.out).1).trans HR21.out
            have HR922 := Lib.hid hr922
            have HBO22 := Lib.hid (HBO.out.old hb22)
            have HT22 : Hid (TabAt W22) := Lib.hid (HT.out.old (HGW.out.b.trans (HB22.out.mono HGW.out.b.size)))
            have HDG22 := Lib.hid (HDG2.out.old HB22.out)
            have hneq : ∀ u, (binOp .neq 70 (.agg (vals n.1).toArray) (.agg (vals n.1).toArray)).run Tryz.prog u = .ok (.bool false) u := fun u => by rw [id_neq n.1 n.1 n.2 n.2]; simp
            clear hr22 hb22 hg10 hr922
            have HG0 : Hid (Below W22.heap.size W22 W22.drew) := Lib.hid (Below.refl _ _).drew
            refine wp_region_chain2 (fun t v => match t with
              | 51 => v = Value.bool true
              | 52 => v = Value.bool false
              | 53 => v = Value.bool false
              | 54 => v = .pointer (some ⟨da, 0, none⟩)
              | 55 => v = .agg (vals n.1).toArray
              | 56 => v = Value.bool true
              | 57 => v = Value.bool false
              | 58 => v = Value.bool false
              | 59 => v = Value.bool false
              | 60 => v = .pointer (some ⟨g10, 32, none⟩)
              | 61 => v = .agg (hcells b1.h b1.q b1.c)
              | 62 => v = .agg (vals n.1).toArray
              | 63 => v = .agg (vals n.1).toArray
              | 64 => v = Value.bool false
              | 65 => v = Value.bool false
              | _ => True) (fun (_ : Nat) (_ : Value) (w' : World) => Below W22.heap.size W22 w') [11] 108 (by kernel_rfl) (by decide +kernel) rfl (by decide +kernel) (by decide) (by decide) HG0.out (by
              refine OweAllC.cons (owesC_val 1 (by decide +kernel) (by decide) rfl rfl fun k' a w1_1 x hk ha hG hV => ?_) ?_
              · skip
                have h11 := ha.outer 11 (by decide +kernel)
                simp only [Act.eval] at h11
                exact ⟨Value.bool true, wanted_free rfl, by simp [execOp, go_sem, h11], rfl⟩
              refine OweAllC.cons (owesC_val 1 (by decide +kernel) (by decide) rfl rfl fun k' a w1_1 x hk ha hG hV => ?_) ?_
              · skip
                have h51 : a.tmps.getD 51 undef = Value.bool true := hV.get 51 (by decide +kernel)
                exact ⟨Value.bool false, wanted_free rfl, by simp [execOp, go_sem, h51], rfl⟩
              refine OweAllC.cons (owesC_val 1 (by decide +kernel) (by decide) rfl rfl fun k' a w1_1 x hk ha hG hV => ?_) ?_
              · skip
                have h52 : a.tmps.getD 52 undef = Value.bool false := hV.get 52 (by decide +kernel)
                exact ⟨Value.bool false, wanted_free rfl, by simp [execOp, go_sem, h52], rfl⟩
              refine OweAllC.cons (owesC_val 1 (by decide +kernel) (by decide) rfl rfl fun k' a w1_1 x hk ha hG hV => ?_) ?_
              · skip
                have h3 := ha.outer 3 (by decide +kernel)
                simp only [Act.eval] at h3
                exact ⟨.pointer (some ⟨da, 0, none⟩), (wanted_of (t := 53) rfl rfl (hV.get 53 (by decide +kernel))), by simp [execOp, go_sem, h3], rfl⟩
              refine OweAllC.cons (owesC_val 1 (by decide +kernel) (by decide) rfl rfl fun k' a w1_1 x hk ha hG hV => ?_) ?_
              · skip
                have h9 := ha.outer 9 (by decide +kernel)
                simp only [Act.eval] at h9
                exact ⟨.agg (vals n.1).toArray, (wanted_of (t := 53) rfl rfl (hV.get 53 (by decide +kernel))), exec_load_mid (.tmp 9) rfl g9 0 h9 n (fun i u hu => by rw [cell_of_row _ g9 (0 + i) _ _ _ ((hG.block g9 (Array.getElem?_eq_some_iff.1 HR922.out).1).trans HR922.out), Nat.zero_add, List.getElem?_toArray]; exact hu), rfl⟩
              refine OweAllC.cons (owesC_side 1 (by decide +kernel) (by decide) rfl rfl 34 fun k' a w1_1 x hk ha hG hV => ?_) ?_
              · skip
                have h54 : a.tmps.getD 54 undef = .pointer (some ⟨da, 0, none⟩) := hV.get 54 (by decide +kernel)
                have h55 : a.tmps.getD 55 undef = .agg (vals n.1).toArray := hV.get 55 (by decide +kernel)
                refine ⟨#[.pointer (some ⟨da, 0, none⟩), .agg (vals n.1).toArray], (wanted_of (t := 53) rfl rfl (hV.get 53 (by decide +kernel))), by simp [execOp, resolve, invoke, go_sem, h54, h55], ?_⟩
                refine (dghas_any (HDG22.out.old hG) n).mono ?_
                rintro r u2 ⟨rfl, hb⟩; exact ⟨_, rfl, (by rw [HNI.out]; rfl), hG.trans (hb.mono hG.size)⟩
              refine OweAllC.cons (owesC_val 1 (by decide +kernel) (by decide) rfl rfl fun k' a w1_1 x hk ha hG hV => ?_) ?_
              · skip
                have h56 : a.tmps.getD 56 undef = Value.bool true := hV.get 56 (by decide +kernel)
                exact ⟨Value.bool false, (wanted_of (t := 53) rfl rfl (hV.get 53 (by decide +kernel))), by simp [execOp, go_sem, h56], rfl⟩
              refine OweAllC.cons (owesC_val 1 (by decide +kernel) (by decide) rfl rfl fun k' a w1_1 x hk ha hG hV => ?_) ?_
              · skip
                have h53 : a.tmps.getD 53 undef = Value.bool false := hV.get 53 (by decide +kernel)
                have h57 : a.tmps.getD 57 undef = Value.bool false := hV.get 57 (by decide +kernel)
                exact ⟨Value.bool false, wanted_free rfl, by simp [execOp, go_sem, h53, h57], rfl⟩
              refine OweAllC.cons (owesC_val 1 (by decide +kernel) (by decide) rfl rfl fun k' a w1_1 x hk ha hG hV => ?_) ?_
              · skip
                have h58 : a.tmps.getD 58 undef = Value.bool false := hV.get 58 (by decide +kernel)
                exact ⟨Value.bool false, wanted_free rfl, by simp [execOp, go_sem, h58], rfl⟩
              refine OweAllC.cons (owesC_val 0 (by decide +kernel) (by decide) rfl rfl fun k' a w1_1 x hk ha hG hV => ?_) ?_
              · skip
                have h10 := ha.outer 10 (by decide +kernel)
                simp only [Act.eval] at h10
                exact ⟨.pointer (some ⟨g10, 32, none⟩), (wanted_of (t := 59) rfl rfl (hV.get 59 (by decide +kernel))), by simp [execOp, go_sem, h10], rfl⟩
              refine OweAllC.cons (owesC_val 0 (by decide +kernel) (by decide) rfl rfl fun k' a w1_1 x hk ha hG hV => ?_) ?_
              · skip
                have h60 : a.tmps.getD 60 undef = .pointer (some ⟨g10, 32, none⟩) := hV.get 60 (by decide +kernel)
                exact ⟨.agg (hcells b1.h b1.q b1.c), (wanted_of (t := 59) rfl rfl (hV.get 59 (by decide +kernel))), exec_load_hd (.tmp 60) rfl g10 32 h60 b1.h b1.q b1.c (fun i u hu => blk_hd ((hG.block g10 (Array.getElem?_eq_some_iff.1 HR22.out).1).trans HR22.out) hu), rfl⟩
              refine OweAllC.cons (owesC_call 0 rfl rfl rfl 35 fun a w1_1 x ha hG hx hV => ?_) ?_
              · skip
                have h61 : a.tmps.getD 61 undef = .agg (hcells b1.h b1.q b1.c) := hV.get 61 (by decide +kernel)
                refine ⟨#[.agg (hcells b1.h b1.q b1.c)], (wanted_of (t := 59) rfl rfl (hV.get 59 (by decide +kernel))), by simp [execOp, resolve, invoke, go_sem, h61], ?_⟩
                refine (hid_any b1.h b1.q b1.c w1_1 (HBO22.out.rd.old hG) HOK1.out (HT22.out.old hG)).mono ?_
                rintro r u2 ⟨rfl, hb⟩
                exact ⟨_, rfl, (by rw [← HNB1.out]; rfl), hG.trans (hb.mono hG.size)⟩
              refine OweAllC.cons (owesC_val 1 (by decide +kernel) (by decide) rfl rfl fun k' a w1_1 x hk ha hG hV => ?_) ?_
              · skip
                have h9 := ha.outer 9 (by decide +kernel)
                simp only [Act.eval] at h9
                exact ⟨.agg (vals n.1).toArray, (wanted_of (t := 59) rfl rfl (hV.get 59 (by decide +kernel))), exec_load_mid (.tmp 9) rfl g9 0 h9 n (fun i u hu => by rw [cell_of_row _ g9 (0 + i) _ _ _ ((hG.block g9 (Array.getElem?_eq_some_iff.1 HR922.out).1).trans HR922.out), Nat.zero_add, List.getElem?_toArray]; exact hu), rfl⟩
              refine OweAllC.cons (owesC_val 1 (by decide +kernel) (by decide) rfl rfl fun k' a w1_1 x hk ha hG hV => ?_) ?_
              · skip
                have h62 : a.tmps.getD 62 undef = .agg (vals n.1).toArray := hV.get 62 (by decide +kernel)
                have h63 : a.tmps.getD 63 undef = .agg (vals n.1).toArray := hV.get 63 (by decide +kernel)
                exact ⟨Value.bool false, (wanted_of (t := 59) rfl rfl (hV.get 59 (by decide +kernel))), by simp [execOp, go_sem, h62, h63, hneq], rfl⟩
              refine OweAllC.cons (owesC_val 1 (by decide +kernel) (by decide) rfl rfl fun k' a w1_1 x hk ha hG hV => ?_) ?_
              · skip
                have h59 : a.tmps.getD 59 undef = Value.bool false := hV.get 59 (by decide +kernel)
                have h64 : a.tmps.getD 64 undef = Value.bool false := hV.get 64 (by decide +kernel)
                exact ⟨Value.bool false, wanted_free rfl, by simp [execOp, go_sem, h59, h64], rfl⟩
              exact OweAllC.nil
              ) ?_
            intro f wz xz hG hx hv
            have e65 : f 65 = Value.bool false := hv 14 _ 65 rfl rfl
            first | (rename_i hK; refine hK _ _ ?_; clear hK) | (rename_i hK _; refine hK _ _ ?_; clear hK) | (rename_i hK _ _; refine hK _ _ ?_; clear hK) | (rename_i hK _ _ _; refine hK _ _ ?_; clear hK)
            clear hv hx
            simp only [dsts, puts, List.filterMap_cons, List.filterMap_nil, List.foldl_cons, List.foldl_nil, Act.put, List.setIfInBounds_toArray, List.set_cons_succ, List.set_cons_zero, e65]
            clear e65
            have HBZ : Hid (Below W11.heap.size W11 wz) := Lib.hid (HB22.out.trans (hG.mono HB22.out.size))
            clear hG HG0 hneq
            go_wp2_with fail
            go_roundw
            case rel => exact ⟨j + 1, by omega, by go_num, HBZ⟩
            case measure => simp [intOf] <;> omega
          · obtain rfl : n2 = j := by omega
            have hj1' : ¬ (n2 : Int) < n2 := by omega
            obtain ⟨W3, hW3⟩ : ∃ W3, W3 = wr := ⟨_, rfl⟩
            rw [← hW3] at HBJ
            rw [← hW3]
            have HFJ := Lib.hid (HGW.out.old HBJ.out)
            have hkb : n2 ≤ k + 1 := by omega
            clear hj j0 hW3
            by_cases hz : n2 = 0
            · obtain ⟨hq0, hc0⟩ := HNE2.out (List.length_eq_zero_iff.1 (by rw [← HN2.out]; exact hz))
              subst hq0
              subst hc0
              subst hz
              go_wp2_with fail
              go_loopw [74] (fun s74 wx => s74 = .int .i64 0 ∧ Hid (Below W3.heap.size W3 wx)) (fun _ _ => 0)
              case atStart => exact ⟨rfl, Lib.hid (Below.refl _ _)⟩
              case round =>
                obtain ⟨rfl, HBK⟩ := hrel
                have HFIN := Lib.hid (HFJ.out.old HBK.out)
                go_wp2_with fail
                go_roundw
                case rel => exact ⟨k + 1, N2, none, 0, by omega, by have := HN2.out; omega, by go_num, by rw [← HN2.out], HFIN, Lib.hid (fun _ => ⟨rfl, rfl⟩)⟩
                case measure => simp [intOf] <;> omega
            obtain ⟨m, hm⟩ : ∃ m, m = n2 - 1 := ⟨_, rfl⟩
            have hw1 : IntKind.i64.wrap ((n2 : Int) - 1) = (n2 : Int) - 1 := IntWalk.i64_in _ (by omega)
            have hmt : (max 0 ((n2 : Int) - 1)).toNat = m := by omega
            have hnm : n2 - m = 1 := by omega
            have hcl := HFJ.out.rw.cap_le
            have hcm : ¬ c2 = m := by have := HN2.out; omega
            have hmc : m ≤ c2 := by have := HN2.out; omega
            have hdl : (N2.drop m).length = 1 := by rw [List.length_drop, ← HN2.out]; omega
            have HML : Hid (m < N2.length) := Lib.hid (by rw [← HN2.out]; omega)
            obtain ⟨bs4, off4, hq4, _, _⟩ := HFJ.out.rw.rd m HML.out
            have HQ4 := Lib.hid hq4
            subst hq4
            clear hm hcl hdl HQ4
            go_upto_region 20 with fail
            go_upto_region 21 with fail
            go_loopw [74] (fun s74 wx => ∃ j : Nat, j ≤ 1 ∧ s74 = .int .i64 (j : Int) ∧ Hid (Below W3.heap.size W3 wx)) (fun s74 _ => 1 - (intOf s74).toNat)
            case atStart => exact ⟨0, Nat.zero_le _, rfl, Lib.hid (Below.refl _ _)⟩
            case round =>
              obtain ⟨j, hj, rfl, HBK⟩ := hrel
              have j0 : (0 : Int) ≤ j := by omega
              by_cases hj3 : j < 1
              · obtain rfl : j = 0 := by omega
                obtain ⟨bs3, off3, hq5, hbs3, cx3⟩ := (HFJ.out.rw.rd.old HBK.out) m HML.out
                cases hq5
                obtain ⟨n, hn⟩ : ∃ n : Nm, n = N2[m]'HML.out := ⟨N2[m]'HML.out, rfl⟩
                rw [← hn] at cx3
                have HCN : Hid (∀ i u, (encN.f n)[i]? = some u → wr.cell? ⟨bs4, off4 + m * 32 + i, none⟩ = some u) := Lib.hid cx3
                have hni : hasE n (kE X2.K) = true := HIN2.out n (by rw [hn]; exact List.getElem_mem _)
                have HNI := Lib.hid hni
                have HI2 : Hid ((Tryz.prog.info? 70).map (·.size) = some (vals n.1).toArray.size) := Lib.hid (id_info n.2)
                have HSZ2 : Hid ((vals n.1).toArray.size = 32) := Lib.hid (id_size n.2)
                have HON2 : Hid (∀ v ∈ (vals n.1).toArray.toList, v.oneCell' = true) := Lib.hid (id_one n.1)
                clear hn cx3 hbs3 hni
                go_upto_region 23 with (first
                  | (refine wpList_load_mid rfl (.tmp 76) rfl bs4 (off4 + m * 32) rfl n HCN.out ?_; go_frame)
                  | (refine wpList_store_row rfl rfl 70 (.tmp 13) (.tmp 77) rfl wr.heap.size rfl 70 _ (vals n.1).toArray rfl (heap_alloc_new wr _) HSZ2.out.symm HI2.out HON2.out ?_))
                refine wp_gen (fun W30 => W30.heap[wr.heap.size]? = some (.cells (vals n.1).toArray 70 (0, 0)) ∧ Below wr.heap.size wr W30) (row_new wr _ _ (vals n.1).toArray 70 rfl) (fun W30 hW30 => ?_)
                obtain ⟨hr30, hb30⟩ := hW30
                obtain ⟨g13, hg13⟩ : ∃ g13, g13 = wr.heap.size := ⟨_, rfl⟩
                rw [← hg13] at hr30
                rw [← hg13]
                have HR30 := Lib.hid hr30
                have HB30 : Hid (Below W3.heap.size W3 W30) := Lib.hid (HBK.out.trans (hb30.mono HBK.out.size))
                have hb31 : Below W30.heap.size W30 (W30.alloc (.cells (vals n.1).toArray 70)) := alloc1 W30 _
                have HB31 : Hid (Below W3.heap.size W3 (W30.alloc (.cells (vals n.1).toArray 70))) := Lib.hid (HB30.out.trans (hb31.mono HB30.out.size))
                have HR31 : Hid ((W30.alloc (.cells (vals n.1).toArray 70)).heap[g13]? = some (.cells (vals n.1).toArray 70 (0, 0))) := Lib.hid ((hb31.block g13 (Array.getElem?_eq_some_iff.1 hr30).1).trans hr30)
                have HKY := Lib.hid (key_any (some ⟨W30.heap.size, 0, none⟩) 1 [n] (W30.alloc (.cells (vals n.1).toArray 70)) (by have := Rd.made encN W30 70 [n] (by simp [maxLen]); rw [enc_one] at this; exact this) (.inr ⟨W30.heap.size, 0, rfl⟩) (by simp))
                rw [show ([n] : List Nm).length = 1 from rfl] at HKY
                have HTIP := Lib.hid (fun (u : World) (hb : Below W3.heap.size W3 u) => dgtipset_any ((HDG2.out.old HBJ.out).old hb) (kB (kset [n])) (by rw [kset_self (List.pairwise_singleton _ _), kB_len]; show 1 * 32 ≤ 1000000; decide))
                obtain ⟨KY, hKY⟩ : ∃ KY : ByteArray, KY = ⟨(kB (kset [n])).toArray⟩ := ⟨_, rfl⟩
                rw [← hKY] at HKY HTIP
                clear hr30 hb30 hg13 hb31 hKY HCN
                go_upto_region 23 with fail
                go_upto_region 24 with (first
                  | (refine wpList_exec rfl (exec_load_row 70 (.tmp 13) rfl g13 rfl 70 (vals n.1).toArray (0, 0) _ HR30.out Tryz.underlying70 rfl HI2.out) ?_)
                  | (refine wpList_exec rfl (build_name (.tmp 80) rfl n.1 n.2 rfl) ?_; go_frame))
                refine HKY.out.mono ?_
                rintro r W32 ⟨rfl, hb32⟩
                have HB32 := Lib.hid (HB31.out.trans (hb32.mono HB31.out.size))
                have HR32 := Lib.hid ((hb32.block g13 (Array.getElem?_eq_some_iff.1 HR31.out).1).trans HR31.out)
                clear hb32 HKY
                go_upto_region 24 with fail
                refine (HTIP.out W32 HB32.out).mono ?_
                rintro r W33 ⟨v0, Y, e3, rfl, hv, hp, hb33⟩
                obtain ⟨bt, _, hbt, he3, hY⟩ := tip_one hp HNI.out
                have HB33 := Lib.hid (HB32.out.trans (hb33.mono HB32.out.size))
                have HR33 := Lib.hid ((hb33.block g13 (Array.getElem?_eq_some_iff.1 HR32.out).1).trans HR32.out)
                subst he3
                have HBT1 := Lib.hid hbt
                rw [hY] at hv
                have HVV := Lib.hid hv
                have HONV : Hid (∀ u ∈ (#[v0] : Array Value).toList, u.oneCell' = true) := Lib.hid (by
                  obtain ⟨p', c', L', e, _⟩ := hv
                  intro u hu
                  rw [e] at hu
                  simp only [List.mem_singleton] at hu
                  rw [hu]; rfl)
                have HSIV := Lib.hid (ts_info v0)
                clear hv hp hb33 hbt hY HTIP
                go_upto_region 24 with (refine wpList_store_row rfl rfl 52 (.tmp 14) (.tmp 84) rfl W33.heap.size rfl 52 _ #[v0] rfl (heap_alloc_new W33 _) rfl HSIV.out HONV.out ?_)
                refine wp_gen (fun W34 => W34.heap[W33.heap.size]? = some (.cells #[v0] 52 (0, 0)) ∧ Below W33.heap.size W33 W34) (row_new W33 _ _ #[v0] 52 rfl) (fun W34 hW34 => ?_)
                obtain ⟨hr34, hb34⟩ := hW34
                obtain ⟨g14, hg14⟩ : ∃ g14, g14 = W33.heap.size := ⟨_, rfl⟩
                rw [← hg14] at hr34
                rw [← hg14]
                have HR34 := Lib.hid hr34
                have HR34n := Lib.hid ((hb34.block g13 (Array.getElem?_eq_some_iff.1 HR33.out).1).trans HR33.out)
                have HB34 := Lib.hid (HB33.out.trans (hb34.mono HB33.out.size))
                have HV34 := Lib.hid (HVV.out.old hb34)
                have HHAS := Lib.hid (HV34.out.has n)
                rw [show ([bt.is].any fun b => b.1.1 == n.1) = true by rw [← HBT1.out]; simp [Blk.is]] at HHAS
                clear hr34 hb34 hg14
                go_upto_region 24 with fail
                go_wp2_with (first
                  | (refine wpList_load_rowG rfl 52 (.tmp 14) rfl g14 rfl 52 #[v0] (0, 0) _ HR34.out Tryz.underlying52 rfl HSIV.out ?_)
                  | (refine wpList_load_rowG rfl 70 (.tmp 13) rfl g13 rfl 70 (vals n.1).toArray (0, 0) _ HR34n.out Tryz.underlying70 rfl HI2.out ?_))
                refine HHAS.out.mono ?_
                rintro r W35 ⟨rfl, hb35⟩
                have HB35 := Lib.hid (HB34.out.trans (hb35.mono HB34.out.size))
                have HR35 := Lib.hid ((hb35.block g14 (Array.getElem?_eq_some_iff.1 HR34.out).1).trans HR34.out)
                have HBLK := Lib.hid (HV34.out.old hb35).blocks
                rw [show [bt.is].length = 1 from rfl] at HBLK
                clear hb35
                go_wp2_with (refine wpList_load_rowG rfl 52 (.tmp 14) rfl g14 rfl 52 #[v0] (0, 0) _ HR35.out Tryz.underlying52 rfl HSIV.out ?_)
                refine HBLK.out.mono ?_
                rintro r W36 ⟨q9, c9, K9, rfl, _, _, hb36⟩
                have HB36 := Lib.hid (HB35.out.trans (hb36.mono HB35.out.size))
                clear hb36 HBLK
                go_wp2_with fail
                go_roundw
                case rel => exact ⟨1, by omega, by go_num, HB36⟩
                case measure => simp [intOf] <;> omega
              · obtain rfl : j = 1 := by omega
                have HFIN := Lib.hid (HFJ.out.old HBK.out)
                go_wp2_with fail
                go_roundw
                case rel => exact ⟨k + 1, N2, _, c2, by omega, by have := HN2.out; omega, by go_num, by rw [← HN2.out], HFIN, HNE2⟩
                case measure => simp [intOf] <;> omega
      · have hb8 : Below W7.heap.size W7 W8 := by
          rcases hp8 with ⟨_, h⟩ | ⟨h, _⟩
          · exact h
          · exact absurd h he
        have HGW := Lib.hid (HS7.out.old hb8)
        have hee : (e == 0) = false := by simpa using he
        clear hp8 hb8 HADD HR7
        go_upto_region 13 with fail
        have hn2k : nn ≤ k + 1 := by omega
        obtain ⟨S2, R2, X2, hdg2, hid2, hlen2, hin2, _⟩ := HGW.out.dg
        have HDG2 := Lib.hid hdg2
        have HID2 := Lib.hid hid2
        have HIN2 := Lib.hid hin2
        clear hdg2 hid2 hlen2 hin2
        go_wp2_with fail
        go_loopw [41] (fun s41 wx => ∃ j : Nat, j ≤ nn ∧ s41 = .int .i64 (j : Int) ∧ Hid (Below W8.heap.size W8 wx)) (fun s41 _ => nn - (intOf s41).toNat)
        case atStart => exact ⟨0, Nat.zero_le _, rfl, Lib.hid (Below.refl _ _)⟩
        case round =>
          obtain ⟨j, hj, rfl, HBJ⟩ := hrel
          have j0 : (0 : Int) ≤ j := by omega
          by_cases hj1 : j < nn
          · have hj1' : (j : Int) < nn := by omega
            have hjl : j < N.length := by have := HNN.out; omega
            obtain ⟨bs2, off2, rfl, hbs2, cx2⟩ := (HGW.out.rw.rd.old HBJ.out) j hjl
            obtain ⟨n, hn⟩ : ∃ n : Nm, n = N[j]'hjl := ⟨N[j]'hjl, rfl⟩
            rw [← hn] at cx2
            have HCN : Hid (∀ i u, (encN.f n)[i]? = some u → wr.cell? ⟨bs2, off2 + j * 32 + i, none⟩ = some u) := Lib.hid cx2
            have hni : hasE n (kE X2.K) = true := HIN2.out n (by rw [hn]; exact List.getElem_mem _)
            have HNI := Lib.hid hni
            have HI2 : Hid ((Tryz.prog.info? 70).map (·.size) = some (vals n.1).toArray.size) := Lib.hid (id_info n.2)
            have HSZ2 : Hid ((vals n.1).toArray.size = 32) := Lib.hid (id_size n.2)
            have HON2 : Hid (∀ v ∈ (vals n.1).toArray.toList, v.oneCell' = true) := Lib.hid (id_one n.1)
            clear hn cx2 hbs2 hni hjl
            go_upto_region 16 with (first
              | (refine wpList_load_mid rfl (.tmp 43) rfl bs2 (off2 + j * 32) rfl n HCN.out ?_; go_frame)
              | (refine wpList_store_row rfl rfl 70 (.tmp 9) (.tmp 44) rfl wr.heap.size rfl 70 _ (vals n.1).toArray rfl (heap_alloc_new wr _) HSZ2.out.symm HI2.out HON2.out ?_))
            refine wp_gen (fun W20 => W20.heap[wr.heap.size]? = some (.cells (vals n.1).toArray 70 (0, 0)) ∧ Below wr.heap.size wr W20) (row_new wr _ _ (vals n.1).toArray 70 rfl) (fun W20 hW20 => ?_)
            obtain ⟨hr20, hb20⟩ := hW20
            obtain ⟨g9, hg9⟩ : ∃ g9, g9 = wr.heap.size := ⟨_, rfl⟩
            rw [← hg9] at hr20
            rw [← hg9]
            have HR20 := Lib.hid hr20
            have HB20 : Hid (Below W8.heap.size W8 W20) := Lib.hid (HBJ.out.trans (hb20.mono HBJ.out.size))
            have HBK := Lib.hid (dgblock_any (HDG2.out.old HB20.out) n)
            rw [HNI.out] at HBK
            have HC20 : Hid (∀ i u, (encN.f n)[i]? = some u → W20.cell? ⟨g9, 0 + i, none⟩ = some u) := Lib.hid (fun i u hu => by rw [cell_of_row _ g9 (0 + i) _ _ _ hr20, Nat.zero_add, List.getElem?_toArray]; exact hu)
            clear hr20 hb20 hg9 HCN
            go_upto_region 16 with fail
            go_upto_region 17 with (refine wpList_load_mid rfl (.tmp 9) rfl g9 0 rfl n HC20.out ?_; go_frame)
            refine HBK.out.mono ?_
            rintro r W21 ⟨b0, b1, rfl, hbb, hbo, hbk, hb21⟩
            have hbm := hbk trivial
            have hnb1 : nmH b1.h = n := by
              have e1 : b1.h = b0.h := congrArg (·.2) hbb
              rw [e1, ← HID2.out b0 hbm.1, hbm.2]
            have hok1 : HOk b1.h := by
              have e1 : b1.h = b0.h := congrArg (·.2) hbb
              rw [e1]; exact (HDG2.out.ko b0 hbm.1).1
            have HNB1 := Lib.hid hnb1
            have HOK1 := Lib.hid hok1
            have HB21 : Hid (Below W8.heap.size W8 W21) := Lib.hid (HB20.out.trans (hb21.mono HB20.out.size))
            have hr21 := (hb21.block g9 (Array.getElem?_eq_some_iff.1 HR20.out).1).trans HR20.out
            have HR21 := Lib.hid hr21
            have HBO := Lib.hid hbo.ok
            have HQ1 : Hid (b1.cells.toArray.size = 39) := Lib.hid b1.size
            have HQ2 := Lib.hid (blk_info b1)
            have HQ3 : Hid (∀ v ∈ b1.cells.toArray.toList, v.oneCell' = true) := Lib.hid (by simpa using b1.one)
            clear hbb hbo hbk hb21 hbm hnb1 hok1 hr21 HBK HC20
            go_upto_region 17 with (refine wpList_store_row rfl rfl 72 (.tmp 10) (.tmp 49) rfl W21.heap.size rfl 72 _ b1.cells.toArray rfl (heap_alloc_new W21 _) HQ1.out.symm HQ2.out HQ3.out ?_)
            refine wp_gen (fun W22 => W22.heap[W21.heap.size]? = some (.cells b1.cells.toArray 72 (0, 0)) ∧ Below W21.heap.size W21 W22) (row_new W21 _ _ b1.cells.toArray 72 rfl) (fun W22 hW22 => ?_)
            obtain ⟨hr22, hb22⟩ := hW22
            obtain ⟨g10, hg10⟩ : ∃ g10, g10 = W21.heap.size := ⟨_, rfl⟩
            rw [← hg10] at hr22
            rw [← hg10]
            have HR22 := Lib.hid hr22
            have HB22 : Hid (Below W8.heap.size W8 W22) := Lib.hid (HB21.out.trans (hb22.mono HB21.out.size))
            have hr922 := (hb22.block g9 (Array.getElem?_eq_some_iff.1 HR21.out).1).trans HR21.out
            have HR922 := Lib.hid hr922
            have HBO22 := Lib.hid (HBO.out.old hb22)
            have HT22 : Hid (TabAt W22) := Lib.hid (HT.out.old (HGW.out.b.trans (HB22.out.mono HGW.out.b.size)))
            have HDG22 := Lib.hid (HDG2.out.old HB22.out)
            have hneq : ∀ u, (binOp .neq 70 (.agg (vals n.1).toArray) (.agg (vals n.1).toArray)).run Tryz.prog u = .ok (.bool false) u := fun u => by rw [id_neq n.1 n.1 n.2 n.2]; simp
            clear hr22 hb22 hg10 hr922
            have HG0 : Hid (Below W22.heap.size W22 W22.drew) := Lib.hid (Below.refl _ _).drew
            refine wp_region_chain2 (fun t v => match t with
              | 51 => v = Value.bool true
              | 52 => v = Value.bool false
              | 53 => v = Value.bool false
              | 54 => v = .pointer (some ⟨da, 0, none⟩)
              | 55 => v = .agg (vals n.1).toArray
              | 56 => v = Value.bool true
              | 57 => v = Value.bool false
              | 58 => v = Value.bool false
              | 59 => v = Value.bool false
              | 60 => v = .pointer (some ⟨g10, 32, none⟩)
              | 61 => v = .agg (hcells b1.h b1.q b1.c)
              | 62 => v = .agg (vals n.1).toArray
              | 63 => v = .agg (vals n.1).toArray
              | 64 => v = Value.bool false
              | 65 => v = Value.bool false
              | _ => True) (fun (_ : Nat) (_ : Value) (w' : World) => Below W22.heap.size W22 w') [11] 108 (by kernel_rfl) (by decide +kernel) rfl (by decide +kernel) (by decide) (by decide) HG0.out (by
              refine OweAllC.cons (owesC_val 1 (by decide +kernel) (by decide) rfl rfl fun k' a w1_1 x hk ha hG hV => ?_) ?_
              · skip
                have h11 := ha.outer 11 (by decide +kernel)
                simp only [Act.eval] at h11
                exact ⟨Value.bool true, wanted_free rfl, by simp [execOp, go_sem, h11], rfl⟩
              refine OweAllC.cons (owesC_val 1 (by decide +kernel) (by decide) rfl rfl fun k' a w1_1 x hk ha hG hV => ?_) ?_
              · skip
                have h51 : a.tmps.getD 51 undef = Value.bool true := hV.get 51 (by decide +kernel)
                exact ⟨Value.bool false, wanted_free rfl, by simp [execOp, go_sem, h51], rfl⟩
              refine OweAllC.cons (owesC_val 1 (by decide +kernel) (by decide) rfl rfl fun k' a w1_1 x hk ha hG hV => ?_) ?_
              · skip
                have h52 : a.tmps.getD 52 undef = Value.bool false := hV.get 52 (by decide +kernel)
                exact ⟨Value.bool false, wanted_free rfl, by simp [execOp, go_sem, h52], rfl⟩
              refine OweAllC.cons (owesC_val 1 (by decide +kernel) (by decide) rfl rfl fun k' a w1_1 x hk ha hG hV => ?_) ?_
              · skip
                have h3 := ha.outer 3 (by decide +kernel)
                simp only [Act.eval] at h3
                exact ⟨.pointer (some ⟨da, 0, none⟩), (wanted_of (t := 53) rfl rfl (hV.get 53 (by decide +kernel))), by simp [execOp, go_sem, h3], rfl⟩
              refine OweAllC.cons (owesC_val 1 (by decide +kernel) (by decide) rfl rfl fun k' a w1_1 x hk ha hG hV => ?_) ?_
              · skip
                have h9 := ha.outer 9 (by decide +kernel)
                simp only [Act.eval] at h9
                exact ⟨.agg (vals n.1).toArray, (wanted_of (t := 53) rfl rfl (hV.get 53 (by decide +kernel))), exec_load_mid (.tmp 9) rfl g9 0 h9 n (fun i u hu => by rw [cell_of_row _ g9 (0 + i) _ _ _ ((hG.block g9 (Array.getElem?_eq_some_iff.1 HR922.out).1).trans HR922.out), Nat.zero_add, List.getElem?_toArray]; exact hu), rfl⟩
              refine OweAllC.cons (owesC_side 1 (by decide +kernel) (by decide) rfl rfl 34 fun k' a w1_1 x hk ha hG hV => ?_) ?_
              · skip
                have h54 : a.tmps.getD 54 undef = .pointer (some ⟨da, 0, none⟩) := hV.get 54 (by decide +kernel)
                have h55 : a.tmps.getD 55 undef = .agg (vals n.1).toArray := hV.get 55 (by decide +kernel)
                refine ⟨#[.pointer (some ⟨da, 0, none⟩), .agg (vals n.1).toArray], (wanted_of (t := 53) rfl rfl (hV.get 53 (by decide +kernel))), by simp [execOp, resolve, invoke, go_sem, h54, h55], ?_⟩
                refine (dghas_any (HDG22.out.old hG) n).mono ?_
                rintro r u2 ⟨rfl, hb⟩; exact ⟨_, rfl, (by rw [HNI.out]; rfl), hG.trans (hb.mono hG.size)⟩
              refine OweAllC.cons (owesC_val 1 (by decide +kernel) (by decide) rfl rfl fun k' a w1_1 x hk ha hG hV => ?_) ?_
              · skip
                have h56 : a.tmps.getD 56 undef = Value.bool true := hV.get 56 (by decide +kernel)
                exact ⟨Value.bool false, (wanted_of (t := 53) rfl rfl (hV.get 53 (by decide +kernel))), by simp [execOp, go_sem, h56], rfl⟩
              refine OweAllC.cons (owesC_val 1 (by decide +kernel) (by decide) rfl rfl fun k' a w1_1 x hk ha hG hV => ?_) ?_
              · skip
                have h53 : a.tmps.getD 53 undef = Value.bool false := hV.get 53 (by decide +kernel)
                have h57 : a.tmps.getD 57 undef = Value.bool false := hV.get 57 (by decide +kernel)
                exact ⟨Value.bool false, wanted_free rfl, by simp [execOp, go_sem, h53, h57], rfl⟩
              refine OweAllC.cons (owesC_val 1 (by decide +kernel) (by decide) rfl rfl fun k' a w1_1 x hk ha hG hV => ?_) ?_
              · skip
                have h58 : a.tmps.getD 58 undef = Value.bool false := hV.get 58 (by decide +kernel)
                exact ⟨Value.bool false, wanted_free rfl, by simp [execOp, go_sem, h58], rfl⟩
              refine OweAllC.cons (owesC_val 0 (by decide +kernel) (by decide) rfl rfl fun k' a w1_1 x hk ha hG hV => ?_) ?_
              · skip
                have h10 := ha.outer 10 (by decide +kernel)
                simp only [Act.eval] at h10
                exact ⟨.pointer (some ⟨g10, 32, none⟩), (wanted_of (t := 59) rfl rfl (hV.get 59 (by decide +kernel))), by simp [execOp, go_sem, h10], rfl⟩
              refine OweAllC.cons (owesC_val 0 (by decide +kernel) (by decide) rfl rfl fun k' a w1_1 x hk ha hG hV => ?_) ?_
              · skip
                have h60 : a.tmps.getD 60 undef = .pointer (some ⟨g10, 32, none⟩) := hV.get 60 (by decide +kernel)
                exact ⟨.agg (hcells b1.h b1.q b1.c), (wanted_of (t := 59) rfl rfl (hV.get 59 (by decide +kernel))), exec_load_hd (.tmp 60) rfl g10 32 h60 b1.h b1.q b1.c (fun i u hu => blk_hd ((hG.block g10 (Array.getElem?_eq_some_iff.1 HR22.out).1).trans HR22.out) hu), rfl⟩
              refine OweAllC.cons (owesC_call 0 rfl rfl rfl 35 fun a w1_1 x ha hG hx hV => ?_) ?_
              · skip
                have h61 : a.tmps.getD 61 undef = .agg (hcells b1.h b1.q b1.c) := hV.get 61 (by decide +kernel)
                refine ⟨#[.agg (hcells b1.h b1.q b1.c)], (wanted_of (t := 59) rfl rfl (hV.get 59 (by decide +kernel))), by simp [execOp, resolve, invoke, go_sem, h61], ?_⟩
                refine (hid_any b1.h b1.q b1.c w1_1 (HBO22.out.rd.old hG) HOK1.out (HT22.out.old hG)).mono ?_
                rintro r u2 ⟨rfl, hb⟩
                exact ⟨_, rfl, (by rw [← HNB1.out]; rfl), hG.trans (hb.mono hG.size)⟩
              refine OweAllC.cons (owesC_val 1 (by decide +kernel) (by decide) rfl rfl fun k' a w1_1 x hk ha hG hV => ?_) ?_
              · skip
                have h9 := ha.outer 9 (by decide +kernel)
                simp only [Act.eval] at h9
                exact ⟨.agg (vals n.1).toArray, (wanted_of (t := 59) rfl rfl (hV.get 59 (by decide +kernel))), exec_load_mid (.tmp 9) rfl g9 0 h9 n (fun i u hu => by rw [cell_of_row _ g9 (0 + i) _ _ _ ((hG.block g9 (Array.getElem?_eq_some_iff.1 HR922.out).1).trans HR922.out), Nat.zero_add, List.getElem?_toArray]; exact hu), rfl⟩
              refine OweAllC.cons (owesC_val 1 (by decide +kernel) (by decide) rfl rfl fun k' a w1_1 x hk ha hG hV => ?_) ?_
              · skip
                have h62 : a.tmps.getD 62 undef = .agg (vals n.1).toArray := hV.get 62 (by decide +kernel)
                have h63 : a.tmps.getD 63 undef = .agg (vals n.1).toArray := hV.get 63 (by decide +kernel)
                exact ⟨Value.bool false, (wanted_of (t := 59) rfl rfl (hV.get 59 (by decide +kernel))), by simp [execOp, go_sem, h62, h63, hneq], rfl⟩
              refine OweAllC.cons (owesC_val 1 (by decide +kernel) (by decide) rfl rfl fun k' a w1_1 x hk ha hG hV => ?_) ?_
              · skip
                have h59 : a.tmps.getD 59 undef = Value.bool false := hV.get 59 (by decide +kernel)
                have h64 : a.tmps.getD 64 undef = Value.bool false := hV.get 64 (by decide +kernel)
                exact ⟨Value.bool false, wanted_free rfl, by simp [execOp, go_sem, h59, h64], rfl⟩
              exact OweAllC.nil
              ) ?_
            intro f wz xz hG hx hv
            have e65 : f 65 = Value.bool false := hv 14 _ 65 rfl rfl
            first | (rename_i hK; refine hK _ _ ?_; clear hK) | (rename_i hK _; refine hK _ _ ?_; clear hK) | (rename_i hK _ _; refine hK _ _ ?_; clear hK) | (rename_i hK _ _ _; refine hK _ _ ?_; clear hK)
            clear hv hx
            simp only [dsts, puts, List.filterMap_cons, List.filterMap_nil, List.foldl_cons, List.foldl_nil, Act.put, List.setIfInBounds_toArray, List.set_cons_succ, List.set_cons_zero, e65]
            clear e65
            have HBZ : Hid (Below W8.heap.size W8 wz) := Lib.hid (HB22.out.trans (hG.mono HB22.out.size))
            clear hG HG0 hneq
            go_wp2_with fail
            go_roundw
            case rel => exact ⟨j + 1, by omega, by go_num, HBZ⟩
            case measure => simp [intOf] <;> omega
          · obtain rfl : nn = j := by omega
            have hj1' : ¬ (nn : Int) < nn := by omega
            obtain ⟨W3, hW3⟩ : ∃ W3, W3 = wr := ⟨_, rfl⟩
            rw [← hW3] at HBJ
            rw [← hW3]
            have HFJ := Lib.hid (HGW.out.old HBJ.out)
            have hkb : nn ≤ k + 1 := by omega
            clear hj j0 hW3
            by_cases hz : nn = 0
            · obtain ⟨hq0, hc0⟩ := HNE.out (List.length_eq_zero_iff.1 (by rw [← HNN.out]; exact hz))
              subst hq0
              subst hc0
              subst hz
              go_wp2_with fail
              go_loopw [74] (fun s74 wx => s74 = .int .i64 0 ∧ Hid (Below W3.heap.size W3 wx)) (fun _ _ => 0)
              case atStart => exact ⟨rfl, Lib.hid (Below.refl _ _)⟩
              case round =>
                obtain ⟨rfl, HBK⟩ := hrel
                have HFIN := Lib.hid (HFJ.out.old HBK.out)
                go_wp2_with fail
                go_roundw
                case rel => exact ⟨k + 1, N, none, 0, by omega, by have := HNN.out; omega, by go_num, by rw [← HNN.out], HFIN, Lib.hid (fun _ => ⟨rfl, rfl⟩)⟩
                case measure => simp [intOf] <;> omega
            obtain ⟨m, hm⟩ : ∃ m, m = nn - 1 := ⟨_, rfl⟩
            have hw1 : IntKind.i64.wrap ((nn : Int) - 1) = (nn : Int) - 1 := IntWalk.i64_in _ (by omega)
            have hmt : (max 0 ((nn : Int) - 1)).toNat = m := by omega
            have hnm : nn - m = 1 := by omega
            have hcl := HFJ.out.rw.cap_le
            have hcm : ¬ c = m := by have := HNN.out; omega
            have hmc : m ≤ c := by have := HNN.out; omega
            have hdl : (N.drop m).length = 1 := by rw [List.length_drop, ← HNN.out]; omega
            have HML : Hid (m < N.length) := Lib.hid (by rw [← HNN.out]; omega)
            obtain ⟨bs4, off4, hq4, _, _⟩ := HFJ.out.rw.rd m HML.out
            have HQ4 := Lib.hid hq4
            subst hq4
            clear hm hcl hdl HQ4
            go_upto_region 20 with fail
            go_upto_region 21 with fail
            go_loopw [74] (fun s74 wx => ∃ j : Nat, j ≤ 1 ∧ s74 = .int .i64 (j : Int) ∧ Hid (Below W3.heap.size W3 wx)) (fun s74 _ => 1 - (intOf s74).toNat)
            case atStart => exact ⟨0, Nat.zero_le _, rfl, Lib.hid (Below.refl _ _)⟩
            case round =>
              obtain ⟨j, hj, rfl, HBK⟩ := hrel
              have j0 : (0 : Int) ≤ j := by omega
              by_cases hj3 : j < 1
              · obtain rfl : j = 0 := by omega
                obtain ⟨bs3, off3, hq5, hbs3, cx3⟩ := (HFJ.out.rw.rd.old HBK.out) m HML.out
                cases hq5
                obtain ⟨n, hn⟩ : ∃ n : Nm, n = N[m]'HML.out := ⟨N[m]'HML.out, rfl⟩
                rw [← hn] at cx3
                have HCN : Hid (∀ i u, (encN.f n)[i]? = some u → wr.cell? ⟨bs4, off4 + m * 32 + i, none⟩ = some u) := Lib.hid cx3
                have hni : hasE n (kE X2.K) = true := HIN2.out n (by rw [hn]; exact List.getElem_mem _)
                have HNI := Lib.hid hni
                have HI2 : Hid ((Tryz.prog.info? 70).map (·.size) = some (vals n.1).toArray.size) := Lib.hid (id_info n.2)
                have HSZ2 : Hid ((vals n.1).toArray.size = 32) := Lib.hid (id_size n.2)
                have HON2 : Hid (∀ v ∈ (vals n.1).toArray.toList, v.oneCell' = true) := Lib.hid (id_one n.1)
                clear hn cx3 hbs3 hni
                go_upto_region 23 with (first
                  | (refine wpList_load_mid rfl (.tmp 76) rfl bs4 (off4 + m * 32) rfl n HCN.out ?_; go_frame)
                  | (refine wpList_store_row rfl rfl 70 (.tmp 13) (.tmp 77) rfl wr.heap.size rfl 70 _ (vals n.1).toArray rfl (heap_alloc_new wr _) HSZ2.out.symm HI2.out HON2.out ?_))
                refine wp_gen (fun W30 => W30.heap[wr.heap.size]? = some (.cells (vals n.1).toArray 70 (0, 0)) ∧ Below wr.heap.size wr W30) (row_new wr _ _ (vals n.1).toArray 70 rfl) (fun W30 hW30 => ?_)
                obtain ⟨hr30, hb30⟩ := hW30
                obtain ⟨g13, hg13⟩ : ∃ g13, g13 = wr.heap.size := ⟨_, rfl⟩
                rw [← hg13] at hr30
                rw [← hg13]
                have HR30 := Lib.hid hr30
                have HB30 : Hid (Below W3.heap.size W3 W30) := Lib.hid (HBK.out.trans (hb30.mono HBK.out.size))
                have hb31 : Below W30.heap.size W30 (W30.alloc (.cells (vals n.1).toArray 70)) := alloc1 W30 _
                have HB31 : Hid (Below W3.heap.size W3 (W30.alloc (.cells (vals n.1).toArray 70))) := Lib.hid (HB30.out.trans (hb31.mono HB30.out.size))
                have HR31 : Hid ((W30.alloc (.cells (vals n.1).toArray 70)).heap[g13]? = some (.cells (vals n.1).toArray 70 (0, 0))) := Lib.hid ((hb31.block g13 (Array.getElem?_eq_some_iff.1 hr30).1).trans hr30)
                have HKY := Lib.hid (key_any (some ⟨W30.heap.size, 0, none⟩) 1 [n] (W30.alloc (.cells (vals n.1).toArray 70)) (by have := Rd.made encN W30 70 [n] (by simp [maxLen]); rw [enc_one] at this; exact this) (.inr ⟨W30.heap.size, 0, rfl⟩) (by simp))
                rw [show ([n] : List Nm).length = 1 from rfl] at HKY
                have HTIP := Lib.hid (fun (u : World) (hb : Below W3.heap.size W3 u) => dgtipset_any ((HDG2.out.old HBJ.out).old hb) (kB (kset [n])) (by rw [kset_self (List.pairwise_singleton _ _), kB_len]; show 1 * 32 ≤ 1000000; decide))
                obtain ⟨KY, hKY⟩ : ∃ KY : ByteArray, KY = ⟨(kB (kset [n])).toArray⟩ := ⟨_, rfl⟩
                rw [← hKY] at HKY HTIP
                clear hr30 hb30 hg13 hb31 hKY HCN
                go_upto_region 23 with fail
                go_upto_region 24 with (first
                  | (refine wpList_exec rfl (exec_load_row 70 (.tmp 13) rfl g13 rfl 70 (vals n.1).toArray (0, 0) _ HR30.out Tryz.underlying70 rfl HI2.out) ?_)
                  | (refine wpList_exec rfl (build_name (.tmp 80) rfl n.1 n.2 rfl) ?_; go_frame))
                refine HKY.out.mono ?_
                rintro r W32 ⟨rfl, hb32⟩
                have HB32 := Lib.hid (HB31.out.trans (hb32.mono HB31.out.size))
                have HR32 := Lib.hid ((hb32.block g13 (Array.getElem?_eq_some_iff.1 HR31.out).1).trans HR31.out)
                clear hb32 HKY
                go_upto_region 24 with fail
                refine (HTIP.out W32 HB32.out).mono ?_
                rintro r W33 ⟨v0, Y, e3, rfl, hv, hp, hb33⟩
                obtain ⟨bt, _, hbt, he3, hY⟩ := tip_one hp HNI.out
                have HB33 := Lib.hid (HB32.out.trans (hb33.mono HB32.out.size))
                have HR33 := Lib.hid ((hb33.block g13 (Array.getElem?_eq_some_iff.1 HR32.out).1).trans HR32.out)
                subst he3
                have HBT1 := Lib.hid hbt
                rw [hY] at hv
                have HVV := Lib.hid hv
                have HONV : Hid (∀ u ∈ (#[v0] : Array Value).toList, u.oneCell' = true) := Lib.hid (by
                  obtain ⟨p', c', L', e, _⟩ := hv
                  intro u hu
                  rw [e] at hu
                  simp only [List.mem_singleton] at hu
                  rw [hu]; rfl)
                have HSIV := Lib.hid (ts_info v0)
                clear hv hp hb33 hbt hY HTIP
                go_upto_region 24 with (refine wpList_store_row rfl rfl 52 (.tmp 14) (.tmp 84) rfl W33.heap.size rfl 52 _ #[v0] rfl (heap_alloc_new W33 _) rfl HSIV.out HONV.out ?_)
                refine wp_gen (fun W34 => W34.heap[W33.heap.size]? = some (.cells #[v0] 52 (0, 0)) ∧ Below W33.heap.size W33 W34) (row_new W33 _ _ #[v0] 52 rfl) (fun W34 hW34 => ?_)
                obtain ⟨hr34, hb34⟩ := hW34
                obtain ⟨g14, hg14⟩ : ∃ g14, g14 = W33.heap.size := ⟨_, rfl⟩
                rw [← hg14] at hr34
                rw [← hg14]
                have HR34 := Lib.hid hr34
                have HR34n := Lib.hid ((hb34.block g13 (Array.getElem?_eq_some_iff.1 HR33.out).1).trans HR33.out)
                have HB34 := Lib.hid (HB33.out.trans (hb34.mono HB33.out.size))
                have HV34 := Lib.hid (HVV.out.old hb34)
                have HHAS := Lib.hid (HV34.out.has n)
                rw [show ([bt.is].any fun b => b.1.1 == n.1) = true by rw [← HBT1.out]; simp [Blk.is]] at HHAS
                clear hr34 hb34 hg14
                go_upto_region 24 with fail
                go_wp2_with (first
                  | (refine wpList_load_rowG rfl 52 (.tmp 14) rfl g14 rfl 52 #[v0] (0, 0) _ HR34.out Tryz.underlying52 rfl HSIV.out ?_)
                  | (refine wpList_load_rowG rfl 70 (.tmp 13) rfl g13 rfl 70 (vals n.1).toArray (0, 0) _ HR34n.out Tryz.underlying70 rfl HI2.out ?_))
                refine HHAS.out.mono ?_
                rintro r W35 ⟨rfl, hb35⟩
                have HB35 := Lib.hid (HB34.out.trans (hb35.mono HB34.out.size))
                have HR35 := Lib.hid ((hb35.block g14 (Array.getElem?_eq_some_iff.1 HR34.out).1).trans HR34.out)
                have HBLK := Lib.hid (HV34.out.old hb35).blocks
                rw [show [bt.is].length = 1 from rfl] at HBLK
                clear hb35
                go_wp2_with (refine wpList_load_rowG rfl 52 (.tmp 14) rfl g14 rfl 52 #[v0] (0, 0) _ HR35.out Tryz.underlying52 rfl HSIV.out ?_)
                refine HBLK.out.mono ?_
                rintro r W36 ⟨q9, c9, K9, rfl, _, _, hb36⟩
                have HB36 := Lib.hid (HB35.out.trans (hb36.mono HB35.out.size))
                clear hb36 HBLK
                go_wp2_with fail
                go_roundw
                case rel => exact ⟨1, by omega, by go_num, HB36⟩
                case measure => simp [intOf] <;> omega
              · obtain rfl : j = 1 := by omega
                have HFIN := Lib.hid (HFJ.out.old HBK.out)
                go_wp2_with fail
                go_roundw
                case rel => exact ⟨k + 1, N, _, c, by omega, by have := HNN.out; omega, by go_num, by rw [← HNN.out], HFIN, HNE⟩
                case measure => simp [intOf] <;> omega
    · obtain rfl : k = hn := by omega
      have hlt' : ¬ (k : Int) < k := by omega
      obtain ⟨S, R, X, hdg, _, hlen, _⟩ := HS.out.dg
      have HLN := Lib.hid (dglen_any hdg)
      have hl1 : X.K.length = 1 + nn := by rw [hlen, HNN.out]
      rw [hl1] at HLN
      have HB := Lib.hid HS.out.b
      have hw1 : IntKind.i64.wrap (1 + (nn : Int)) = 1 + (nn : Int) := IntWalk.i64_in _ (by omega)
      have hc1 : ((1 + nn : Nat) : Int) = 1 + (nn : Int) := by omega
      rw [hc1] at HLN
      clear hlt hdg hlen hl1 hc1
      go_wp2_with fail
      refine HLN.out.mono ?_
      rintro r w4 ⟨rfl, rfl⟩
      go_wp2_with fail
      go_ret
      exact ⟨rfl, HB.out⟩
end Go.Proofs.YtkchkloflleilaaGreatDoor
