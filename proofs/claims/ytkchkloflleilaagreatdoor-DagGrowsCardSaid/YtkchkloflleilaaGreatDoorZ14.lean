/- Texts 14: what the laws lean on. -/
import Derived.Test.YtkchkloflleilaaGreatDoorZ13
namespace Go.Proofs.YtkchkloflleilaaGreatDoor
open Go.RowKit

/-- The tipset of one name that is there. -/
theorem tip_one {K : List Blk} {n : Nm} {Y : List BI} {e : Int} (h : TipP K (kB (kset [n])) Y e) (hn : hasE n (kE K) = true) : ∃ b ∈ K, b.id = n ∧ e = 0 ∧ Y = [b.is] := by
  have hp : ([n] : List Nm).Pairwise lN := List.pairwise_singleton _ _
  rw [kset_self hp] at h
  have hok : nmsOk (kB [n]) = true := by rw [nmsOk_of _ hp]; exact decide_eq_true ⟨by simp, by simp⟩
  unfold TipP at h
  rw [hok, pcs_of] at h
  rcases h with ⟨h1, _⟩ | ⟨_, ⟨m, hm, h2⟩, _⟩ | ⟨_, L, hL, hK, h3, h4⟩
  · cases h1
  · rw [List.mem_singleton.1 hm, hn] at h2; cases h2
  · match L, hL with
    | [b], hL =>
      have hb : b.id = n := by simpa using hL
      have he : newE ([b].map Blk.is) = 0 := by
        unfold newE
        rw [if_neg (by simp), if_neg (by simp), if_pos (by simp [oneI, diffI])]
      refine ⟨b, hK b (by simp), hb, h3.trans he, ?_⟩
      rw [h4]
      unfold newX
      rw [if_pos he]
      simp [isort]
theorem gen_mem {K : List Blk} (h : K.map Blk.is = genX) : ∃ b, K = [b] ∧ b.id = nmH ghd ∧ b.h = ghd := by
  have hl : K.length = 1 := by have := congrArg List.length h; simpa [genX] using this
  obtain ⟨b, rfl⟩ := List.length_eq_one_iff.1 hl
  have h2 : b.is = (nmH ghd, ghd) := by simpa [genX] using h
  exact ⟨b, rfl, congrArg (·.1) h2, congrArg (·.2) h2⟩
theorem one_first {K : List Blk} {e : Int} (h : K.map Blk.is = genX) (hc : ChkP K oneHd e) : e = 0 := by
  obtain ⟨b, rfl, hb, hh⟩ := gen_mem h
  have hch : chkH oneHd = 0 := oneHd_chk
  rcases hc with ⟨h1, _⟩ | ⟨_, h1, _⟩ | ⟨_, _, Y, e1, hT, h2⟩
  · exact absurd hch h1
  · obtain ⟨b', hb', e'⟩ := (kE_has _ _).1 h1
    rw [List.mem_singleton.1 hb', hb] at e'
    exact absurd e'.symm one_ne
  · have hps : oneHd.ps = [nmH ghd] := rfl
    rw [hps] at hT
    obtain ⟨b', hb', _, h3, h4⟩ := tip_one hT ((kE_has _ _).2 ⟨b, by simp, hb⟩)
    rw [List.mem_singleton.1 hb'] at h4
    have ht : htX Y = 0 := by rw [h4]; show b.h.ht = 0; rw [hh]; rfl
    have ho : oneHd.ht = 1 := rfl
    rcases h2 with ⟨h5, _⟩ | ⟨_, h5, _⟩ | ⟨_, h5, _⟩ | ⟨_, _, h5⟩
    · omega
    · exact absurd h3 h5
    · omega
    · exact h5
theorem one_again {K : List Blk} {e : Int} (h : hasE (nmH oneHd) (kE K) = true) (hc : ChkP K oneHd e) : e = 9 := by
  have hch : chkH oneHd = 0 := oneHd_chk
  rcases hc with ⟨h1, _⟩ | ⟨_, _, h1⟩ | ⟨_, h1, _⟩
  · exact absurd hch h1
  · exact h1
  · rw [h] at h1; cases h1
set_option maxRecDepth 20000 in
set_option maxHeartbeats 4000000 in
theorem awake13_any (w : World) (hT : TabAt w) : Calls Tryz.prog 8 #[] w fun r w' => r = .returned (.bool true) ∧ Below w.heap.size w w' := by
  have HT := Lib.hid hT
  have HNEW := Lib.hid (dgnew_any w hT)
  have HROOT := Lib.hid root_any
  have HRN : Hid ((⟨rootB, rootB_len⟩ : Nm) = nmH ghd) := Lib.hid rfl
  have Hcl : Hid (∀ q, hcells oneHd q 1 = #[.int .i64 1, .int .i64 0, .string ⟨#[116]⟩, .int .i64 1, .int .u64 2, .slice q 1 1, .int .i64 0]) := Lib.hid (fun q => rfl)
  have Hrd : Hid (∀ u : World, Rd encN (u.alloc (.cells (vals rootB).toArray 70)) (some ⟨u.heap.size, 0, none⟩) oneHd.ps) := Lib.hid (fun u => by
    have := Rd.made encN u 70 [⟨rootB, rootB_len⟩] (by simp [maxLen])
    rw [enc_one] at this; exact this)
  have HRL := Lib.hid rootB_len
  clear hT
  go_enter Tryz.func8, Tryz.ntmps8
  go_wp2_with fail
  refine HNEW.out.mono ?_
  rintro r w1 ⟨da, rfl, S, R, X, hdg, hgen, hR, hb1⟩
  have HDG := Lib.hid hdg
  have HGEN := Lib.hid hgen
  have HB1 := Lib.hid hb1
  have HLEN := Lib.hid (dglen_any hdg)
  obtain ⟨b, hX, hbi, _⟩ := gen_mem hgen
  have hl1 : X.K.length = 1 := by rw [hX]; rfl
  rw [hl1] at HLEN
  have HHAS := Lib.hid (fun (w' : World) (hb : Below w1.heap.size w1 w') => dghas_any (hdg.old hb) ⟨rootB, rootB_len⟩)
  have hhr : hasE (⟨rootB, rootB_len⟩ : Nm) (kE X.K) = true := (kE_has _ _).2 ⟨b, by rw [hX]; simp, by rw [HRN.out]; exact hbi⟩
  rw [hhr] at HHAS
  have HRS : Hid (∀ k, R k → w.heap.size ≤ k) := Lib.hid hR
  have HL1 := Lib.hid hl1
  obtain ⟨RB, hRB⟩ : ∃ RB, RB = rootB := ⟨_, rfl⟩
  have HRBE := Lib.hid hRB
  rw [← hRB] at HROOT HRL
  have HHAS2 : Hid (∀ (w' : World), Below w1.heap.size w1 w' → Calls Tryz.prog 34 #[.pointer (some ⟨da, 0, none⟩), .agg (vals RB).toArray] w' fun r w'' => r = .returned (.bool true) ∧ Below w'.heap.size w' w'') := Lib.hid (by rw [hRB]; exact HHAS.out)
  clear hdg hgen hb1 hX hbi hl1 hhr hR HNEW HHAS hRB
  go_wp2_with fail
  refine HLEN.out.mono ?_
  rintro r w2 ⟨rfl, rfl⟩
  clear HLEN
  go_wp2_with fail
  refine (HROOT.out w1 (HT.out.old HB1.out)).mono ?_
  rintro r w2 ⟨rfl, hb2⟩
  have HB2 := Lib.hid hb2
  clear hb2
  go_wp2_with fail
  refine (HHAS2.out w2 HB2.out).mono ?_
  rintro r w3 ⟨rfl, hb3⟩
  have HB3 := Lib.hid (HB2.out.trans (hb3.mono HB2.out.size))
  clear hb3 HHAS2
  go_wp2_with fail
  refine (HROOT.out w3 (HT.out.old (HB1.out.trans (HB3.out.mono HB1.out.size)))).mono ?_
  rintro r w4 ⟨rfl, hb4⟩
  have HB4 := Lib.hid (HB3.out.trans (hb4.mono HB3.out.size))
  obtain ⟨W5, hW5⟩ : ∃ W5, W5 = w4.alloc (.cells (vals RB).toArray 70) := ⟨_, rfl⟩
  obtain ⟨g5, hg5⟩ : ∃ g5, g5 = w4.heap.size := ⟨_, rfl⟩
  have hb5 : Below w4.heap.size w4 W5 := by rw [hW5]; exact alloc1 _ _
  have hrd5 : Rd encN W5 (some ⟨g5, 0, none⟩) oneHd.ps := by rw [hW5, hg5, HRBE.out]; exact Hrd.out w4
  obtain ⟨HC, hHC⟩ : ∃ HC, HC = hcells oneHd (some ⟨g5, 0, none⟩) 1 := ⟨_, rfl⟩
  have HHC := Lib.hid hHC
  have HI : Hid ((Tryz.prog.info? 41).map (·.size) = some HC.size) := Lib.hid (by rw [hHC]; exact hinfo)
  have HON : Hid (∀ v ∈ HC.toList, v.oneCell' = true) := Lib.hid (by rw [hHC]; exact hcells_one _ _ _)
  have HSZ : Hid (HC.size = 7) := Lib.hid (by rw [hHC]; rfl)
  have hHC2 : #[.int .i64 1, .int .i64 0, .string ⟨#[116]⟩, .int .i64 1, .int .u64 2, .slice (some ⟨g5, 0, none⟩) 1 1, .int .i64 0] = HC := by rw [hHC]; exact (Hcl.out _).symm
  have HHC2 := Lib.hid hHC2
  have HW5 := Lib.hid hW5
  have HG5 := Lib.hid hg5
  have HB5 := Lib.hid (HB4.out.trans (hb5.mono HB4.out.size))
  have HRD5 := Lib.hid hrd5
  clear hb4 hW5 hg5 hb5 hrd5 hHC hHC2
  go_upto_region 5 with (first
    | (refine wpList_exec rfl (build_name (.tmp 17) rfl RB HRL.out rfl) ?_; rw [← HW5.out, ← HG5.out]; go_frame)
    | (refine wpList_store_row rfl rfl 41 (.tmp 2) (.tmp 19) rfl W5.heap.size rfl 41 _ HC (by rw [← HHC2.out]; rfl) (heap_alloc_new W5 _) HSZ.out.symm HI.out HON.out ?_))
  refine wp_gen (fun W6 => W6.heap[W5.heap.size]? = some (.cells HC 41 (0, 0)) ∧ Below W5.heap.size W5 W6) (row_new W5 _ _ HC 41 rfl) (fun W6 hW6 => ?_)
  obtain ⟨hr6, hb6⟩ := hW6
  obtain ⟨g6, hg6⟩ : ∃ g6, g6 = W5.heap.size := ⟨_, rfl⟩
  rw [← hg6] at hr6
  rw [← hg6]
  have HR6 := Lib.hid hr6
  have HB16 : Hid (Below w1.heap.size w1 W6) := Lib.hid (HB5.out.trans (hb6.mono HB5.out.size))
  have hbw6 := HB1.out.trans (HB16.out.mono HB1.out.size)
  have HADD := Lib.hid (dgadd_any (HDG.out.old HB16.out) oneHd (some ⟨g5, 0, none⟩) 1 (HRD5.out.old hb6) (.inr ⟨g5, 0, rfl⟩) (HOk.of oneHd_ok) (by rw [HL1.out]; decide) (HT.out.old hbw6))
  rw [← HHC.out] at HADD
  have HRD6 := Lib.hid (HRD5.out.old hb6)
  have HBW6 := Lib.hid hbw6
  have HG56 : Hid (w1.heap.size ≤ g5 ∧ w1.heap.size ≤ g6) := Lib.hid (by
    have h1 := HB4.out.size
    have h2 := HB5.out.size
    have h3 := HG5.out
    omega)
  clear hr6 hb6 hg6 hbw6
  go_wp2_with (refine wpList_exec rfl (exec_load_row 41 (.tmp 2) rfl g6 rfl 41 HC (0, 0) _ HR6.out Tryz.underlying41 rfl HI.out) ?_)
  refine HADD.out.mono ?_
  rintro r W7 ⟨e, rfl, hc7, hp7⟩
  have he : e = 0 := one_first HGEN.out hc7
  subst he
  rcases hp7 with ⟨h, _⟩ | ⟨_, S', R', F', nb, hnb, hdg7, hm7, hS7, hR7⟩
  · exact absurd rfl h
  have hnS : ∀ k, S k → k < w1.heap.size := fun k hk => HDG.out.rl k (HDG.out.rs k hk)
  have hr7 : W7.heap[g6]? = some (.cells HC 41 (0, 0)) := (hm7.block g6 (Array.getElem?_eq_some_iff.1 HR6.out).1 (fun h => by have := hnS _ h; have := HG56.out.2; omega)).trans HR6.out
  have hrd7 : Rd encN W7 (some ⟨g5, 0, none⟩) oneHd.ps := HRD6.out.mod hm7 (fun a e h => by cases e; have h3 : g5 < w1.heap.size := hnS _ h; have := HG56.out.1; omega)
  have hbw7 : Below w.heap.size w W7 := HBW6.out.trans (hm7.to_below HBW6.out.size (fun k hk h => by have := HRS.out k (HDG.out.rs k h); omega))
  have HADD2 := Lib.hid (dgadd_any hdg7 oneHd (some ⟨g5, 0, none⟩) 1 hrd7 (.inr ⟨g5, 0, rfl⟩) (HOk.of oneHd_ok) (by show (nb :: X.K).length < 100000; rw [List.length_cons, HL1.out]; decide) (HT.out.old hbw7))
  rw [← HHC.out] at HADD2
  have hh7 : hasE (nmH oneHd) (kE (nb :: X.K)) = true := (kE_has _ _).2 ⟨nb, by simp, congrArg (·.1) hnb⟩
  have HH7 := Lib.hid hh7
  have HR7 := Lib.hid hr7
  have HBW7 := Lib.hid hbw7
  have HLN7 := Lib.hid (fun (w' : World) (hb : Below W7.heap.size W7 w') => dglen_any (hdg7.old hb))
  have hln : (nb :: X.K).length = 2 := by rw [List.length_cons, HL1.out]
  rw [show (⟨X.m1, X.m2, nb :: X.K, F'⟩ : DD).K = nb :: X.K from rfl, hln] at HLN7
  clear hc7 hnb hdg7 hm7 hS7 hR7 hr7 hrd7 hbw7 hh7 hln HADD hnS
  go_wp2_with (refine wpList_load_rowG rfl 41 (.tmp 2) rfl g6 rfl 41 HC (0, 0) _ HR7.out Tryz.underlying41 rfl HI.out ?_)
  refine HADD2.out.mono ?_
  rintro r W8 ⟨e, rfl, hc8, hp8⟩
  have he : e = 9 := one_again HH7.out hc8
  subst he
  have hb8 : Below W7.heap.size W7 W8 := by
    rcases hp8 with ⟨_, hb8⟩ | ⟨h, _⟩
    · exact hb8
    · exact absurd h (by decide)
  have HB8 := Lib.hid hb8
  clear hb8 hc8 hp8 HADD2
  go_wp2_with fail
  refine (HLN7.out W8 HB8.out).mono ?_
  rintro r w9 ⟨rfl, rfl⟩
  have HBF := Lib.hid (HBW7.out.trans (HB8.out.mono HBW7.out.size))
  clear HLN7
  go_wp2_with fail
  go_ret
  exact ⟨rfl, HBF.out⟩
end Go.Proofs.YtkchkloflleilaaGreatDoor
