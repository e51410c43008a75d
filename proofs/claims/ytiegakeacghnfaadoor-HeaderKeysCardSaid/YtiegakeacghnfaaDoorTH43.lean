/- The law HeaderKeys. -/
import Derived.Test.YtiegakeacghnfaaDoorM10
namespace Go.Proofs.YtiegakeacghnfaaDoor
open Go.RowKit

set_option maxRecDepth 40000 in
set_option maxHeartbeats 16000000 in
theorem headerKeys_any (ao : Option Addr) (cap : Nat) (L0 : List UInt8) (k0 : List UInt8) (w : World) (hL : Rd encB w ao L0) (hc : L0.length ≤ cap) (hcm : cap ≤ 9223372036854775807) (hk0 : (k0.length : Int) ≤ 9223372036854775807) (hT : TabAt w) :
    Calls Tryd.prog 4 #[.slice ao L0.length cap, .string ⟨k0.toArray⟩] w fun r w' => r = .returned (.bool true) ∧ Below w.heap.size w w' := by
  have hcut : Hid (∀ w, Calls Tryd.prog 25 #[.string ⟨k0.toArray⟩, .int .i64 200] w fun r w' => r = .returned (.string ⟨(k0.take 200).toArray⟩) ∧ w = w') := Lib.hid (fun w => cut_any k0 200 w hk0 (by omega))
  have hTl : (k0.take 200).length ≤ 200 := List.length_take_le _ _
  generalize k0.take 200 = T at hcut hTl
  have l1 : (L0.take 8).length ≤ 8 := List.length_take_le _ _
  obtain ⟨n0, hn0⟩ : ∃ n, n = L0.length := ⟨_, rfl⟩
  rw [← hn0] at hc ⊢
  have Hn0 := Lib.hid hn0
  have HL0 := Lib.hid hL
  clear hn0 hL
  go_enter Tryd.func4, Tryd.ntmps4
  go_wp2_with fail
  refine (awake05_any w hT).mono ?_
  rintro r w1 ⟨rfl, hb1⟩
  have B1 := Lib.hid hb1
  have HL1 := Lib.hid (HL0.out.old hb1)
  clear hb1 HL0 hT
  go_upto_if 23 with fail
  go_cut [0] (fun s0 wx => ∃ m : Nat, m ≤ 8 ∧ s0 = .slice ao m cap ∧ Hid (m = (L0.take 8).length) ∧ wx = w1)
  case first =>
    by_cases h8 : 8 < n0
    · have h9 : (8 : Int) < (n0 : Int) := by omega
      have h8c : 8 ≤ cap := by omega
      have h8d : (8 : Int) ≤ (cap : Int) := by omega
      have Hm : Hid (8 = (L0.take 8).length) := Lib.hid (by rw [List.length_take, ← Hn0.out]; omega)
      obtain ⟨bs, off, rfl, _⟩ := HL1.out 0 (by rw [← Hn0.out]; omega)
      go_wp2_with fail
      go_meet
      exact ⟨8, Nat.le_refl _, rfl, Hm, rfl⟩
    · have h9 : ¬ (8 : Int) < (n0 : Int) := by omega
      have Hm : Hid (n0 = (L0.take 8).length) := Lib.hid (by rw [List.length_take, ← Hn0.out]; omega)
      go_wp2_with fail
      go_meet
      exact ⟨n0, by omega, rfl, Hm, rfl⟩
  case rest =>
  obtain ⟨m, hm8, rfl, HM, rfl⟩ := hcut
  rename World => w1
  have HL := Lib.hid (HL1.out.take 8)
  clear HL1 hc Hn0 hcm l1
  generalize L0.take 8 = L at HM HL
  go_wp2_with fail
  go_loopw [5, 6, 8, 28] (fun s5 s6 _ s28 wr => ∃ (i : Nat) (q5 : Option Addr) (c5 : Nat) (q6 : Option Addr) (c6 : Nat), i ≤ m ∧ s28 = .int .i64 (i : Int) ∧ s5 = .slice q5 i c5 ∧ s6 = .slice q6 i c6 ∧ Hid (AccR encN 39 w1 i ((L.map nmB).take i) q5 c5 wr ∧ AccR encS 9 w1 i ((L.map nameL).take i) q6 c6 wr)) (fun _ _ _ i _ => m - (intOf i).toNat)
  case atStart => exact ⟨0, none, 0, none, 0, Nat.zero_le _, rfl, rfl, rfl, Lib.hid ⟨AccR.zero _ _ _, AccR.zero _ _ _⟩⟩
  case round =>
    obtain ⟨i, q5, c5, q6, c6, hi, rfl, rfl, rfl, HA⟩ := hrel
    by_cases hlt : i < m
    · have hiL : i < L.length := by rw [← HM.out]; exact hlt
      obtain ⟨bs, off, rfl, hbs, cx⟩ := HL.out.old HA.out.1.m i hiL
      obtain ⟨x, hx⟩ : ∃ x, x = L[i] := ⟨_, rfl⟩
      have cc : wr.cell? ⟨bs, off + i, none⟩ = some (.int .u8 (x.toNat : Int)) := by
        have := cx 0 _ rfl
        rw [hx]; simpa [encB] using this
      have hxl := x.toNat_lt
      have nx5 : (L.map nmB).take (i + 1) = (L.map nmB).take i ++ [nmB x] := by rw [List.take_succ_eq_append_getElem (by simpa using hiL), List.getElem_map, hx]
      have nx6 : (L.map nameL).take (i + 1) = (L.map nameL).take i ++ [nameL x] := by rw [List.take_succ_eq_append_getElem (by simpa using hiL), List.getElem_map, hx]
      have hnm : Hid (∀ w, Calls Tryd.prog 20 #[.int .u8 (x.toNat : Int)] w fun r w' => r = .returned (.string ⟨(nameL x).toArray⟩) ∧ Below w.heap.size w w') := Lib.hid (fun w => lawname_any x w)
      have hid : Hid (∀ w, Calls Tryd.prog 19 #[.string ⟨(nameL x).toArray⟩] w fun r w' => r = .returned (.agg (vals (nmB x).1).toArray) ∧ Below w.heap.size w w') := Lib.hid (fun w => by have := idof_any (nameL x) w; rw [idL_self _ (nameL_len x)] at this; exact this)
      obtain ⟨N, hN⟩ : ∃ N, N = nmB x := ⟨_, rfl⟩
      obtain ⟨S, hS⟩ : ∃ S, S = nameL x := ⟨_, rfl⟩
      rw [← hN] at nx5 hid
      rw [← hS] at nx6 hid hnm
      generalize hD5 : (L.map nmB).take i = D5 at HA nx5
      generalize hD6 : (L.map nameL).take i = D6 at HA nx6
      have Nx5 := Lib.hid nx5
      have Nx6 := Lib.hid nx6
      have i0 : (0 : Int) ≤ i := by omega
      have i1 : (i : Int) < m := by omega
      have Hlt := Lib.hid hlt
      obtain ⟨xv, hxv⟩ : ∃ v : Value, v = .int .u8 (x.toNat : Int) := ⟨_, rfl⟩
      rw [← hxv] at cc hnm
      clear cx hx nx5 nx6 hD5 hD6 hN hS hiL hlt hxl hxv
      go_wp2_with fail
      refine (hnm.out _).mono ?_
      rintro r w2 ⟨rfl, hb2⟩
      have A2 := Lib.hid (And.intro (HA.out.1.below hb2) (HA.out.2.below hb2))
      clear hb2 HA
      go_wp2_with fail
      refine (hid.out _).mono ?_
      rintro r w3 ⟨rfl, hb3⟩
      have A3 := Lib.hid (And.intro (A2.out.1.below hb3) (A2.out.2.below hb3))
      clear hb3 A2 hid
      obtain ⟨W4, hW4⟩ : ∃ W, W = w3.alloc (.cells (vals N.1).toArray 39) := ⟨_, rfl⟩
      have hb4 : Below w3.heap.size w3 W4 := by rw [hW4]; exact (Below.refl _ _).alloc (Nat.le_refl _) _
      have hr4 : Rd encN W4 (some ⟨w3.heap.size, 0, none⟩) [N] := by rw [hW4]; have := Rd.made encN w3 39 [N] (by simp [maxLen]); rw [enc_one] at this; exact this
      have A4 := Lib.hid (And.intro (A3.out.1.below hb4) (A3.out.2.below hb4))
      have R4 := Lib.hid hr4
      have HW4 := Lib.hid hW4
      have L5 := Lib.hid A4.out.1.len
      clear hb4 hr4 hW4 A3
      go_wp2_with (first | (refine wpList_exec rfl (build_name (.tmp 35) rfl N.1 N.2 rfl) ?_; rw [← HW4.out]) | (at_builtin; refine wpList_pushR encN rfl (.tmp 32) (.tmp 36) 28 39 _ 32 rfl Tryd.underlying28 info_id (id_size (s := zid) rfl) (by decide) q5 c5 i D5 L5.out rfl A4.out.1.s (some ⟨w3.heap.size, 0, none⟩) 1 1 [N] rfl rfl R4.out (by omega) ?_; intro q5' c5' w5 hP5; have A5 := Lib.hid (And.intro (A4.out.1.push hP5) (And.intro hP5 A4.out)); clear hP5))
      have B5 : Hid (AccR encN 39 w1 (i + 1) (D5 ++ [N]) q5' c5' w5 ∧ AccR encS 9 w1 i D6 q6 c6 w5) := Lib.hid (by
        obtain ⟨h1, ⟨_, hm, _⟩, h5, h6⟩ := A5.out
        refine ⟨h1, h6.s.kept hm ?_, h6.len, h6.new, h1.m⟩
        rintro a rfl ⟨b, rfl, e⟩
        rcases h5.s.shape with ⟨e', _⟩ | ⟨g5, e', hl, _, _, cur, hh, _⟩
        · cases e'
        · cases e'
          rcases h6.s.shape with ⟨e'', _⟩ | ⟨g6, e'', hl6, _, _, cur6, hh6, _⟩
          · cases e''
          · cases e''
            have e9 : g6 = g5 := e
            subst e9
            rw [hh] at hh6
            simp only [Option.some.injEq, Obj.cells.injEq] at hh6
            exact absurd hh6.2.1 (by decide))
      clear A4 R4 HW4 L5 A5
      refine (hnm.out _).mono ?_
      rintro r w6 ⟨rfl, hb6⟩
      have A6 := Lib.hid (And.intro (B5.out.1.below hb6) (B5.out.2.below hb6))
      clear hb6 B5 hnm
      have a7 := A6.out.2.one S
      have A7 := Lib.hid a7
      have A8 := Lib.hid (A6.out.1.below ((Below.refl w6.heap.size w6).alloc (Nat.le_refl _) (.cells #[.string ⟨S.toArray⟩] 9)))
      have L6 := Lib.hid A6.out.2.len
      clear a7
      go_wp2_with (at_builtin; refine wpList_pushR encS rfl (.tmp 38) (.tmp 41) 23 9 (.string ⟨#[]⟩) 16 rfl Tryd.underlying23 info_strH rfl (by decide) q6 c6 i D6 L6.out rfl A7.out.1 (some ⟨w6.heap.size, 0, none⟩) 1 1 [S] rfl rfl A7.out.2.1 (by omega) ?_; intro q6' c6' w7 hP)
      have B7 : Hid (AccR encN 39 w1 (i + 1) (D5 ++ [N]) q5' c5' w7 ∧ AccR encS 9 w1 (i + 1) (D6 ++ [S]) q6' c6' w7) := Lib.hid (by
        have h1 := A7.out.2.2 _ _ _ hP
        obtain ⟨_, hm, _⟩ := hP
        refine ⟨⟨A8.out.s.kept hm ?_, A8.out.len, A8.out.new, h1.m⟩, h1⟩
        rintro a rfl ⟨b, rfl, e⟩
        rcases A8.out.s.shape with ⟨e', _⟩ | ⟨g5, e', hl, _, _, cur, hh, _⟩
        · cases e'
        · cases e'
          rcases A7.out.1.shape with ⟨e'', _⟩ | ⟨g6, e'', hl6, _, _, cur6, hh6, _⟩
          · cases e''
          · cases e''
            have e9 : g5 = g6 := e
            subst e9
            rw [hh] at hh6
            simp only [Option.some.injEq, Obj.cells.injEq] at hh6
            exact absurd hh6.2.1 (by decide))
      have hlt := Hlt.out
      clear hP A6 A7 A8 L6
      go_roundw
      case rel => exact ⟨i + 1, q5', c5', q6', c6', by omega, by go_num, rfl, rfl, Lib.hid (by rw [Nx5.out, Nx6.out]; exact B7.out)⟩
      case measure => simp [intOf]; omega
    · have i1 : ¬ (i : Int) < m := by omega
      have e : i = m := by omega
      subst e
      have hl5 : (L.map nmB).take i = L.map nmB := by rw [HM.out]; exact List.take_of_length_le (by simp)
      have hl6 : (L.map nameL).take i = L.map nameL := by rw [HM.out]; exact List.take_of_length_le (by simp)
      rw [hl5, hl6] at HA
      obtain ⟨I, hI⟩ : ∃ I, I = L.map nmB := ⟨_, rfl⟩
      have hI6 : L.map nameL = I.map (·.1) := by rw [hI, nmB_map]
      rw [hI6, ← hI] at HA
      have hIl : I.length = i := by rw [hI, List.length_map, HM.out]
      obtain ⟨Q, hQ⟩ : ∃ Q, Q = kset I := ⟨_, rfl⟩
      have hQl : Q.length ≤ 8 := by have := kset_len I; rw [hQ]; omega
      have hQp : Q.Pairwise lN := by rw [hQ]; exact kset_strict I
      obtain ⟨KS, hKS⟩ : ∃ K, K = kB Q := ⟨_, rfl⟩
      have hKl : KS.length ≤ 256 := by rw [hKS, kB_len]; omega
      obtain ⟨nq, hnq⟩ : ∃ n, n = Q.length := ⟨_, rfl⟩
      rw [← hnq] at hQl
      -- the calls
      have K1 : Hid (∀ q c M w, M.length = i → (∀ x, x ∈ M ↔ x ∈ I) → Rd encN w q M → (q = none ∨ ∃ b off, q = some ⟨b, off, none⟩) → Calls Tryd.prog 21 #[.slice q i c] w fun r w' => r = .returned (.string ⟨KS.toArray⟩) ∧ Below w.heap.size w w') := Lib.hid (fun q c M w h1 h2 h3 h4 => by
        have := key_any q c M w h3 h4 (by omega)
        rw [kset_congr h2, ← hQ, ← hKS, h1] at this; exact this)
      have K2 : Hid (∀ q c w, Rd encS w q (I.map (·.1)) → Calls Tryd.prog 22 #[.slice q i c] w fun r w' => ∃ q' c', r = .returned (.slice q' nq c') ∧ Rd encS w' q' (Q.map (·.1)) ∧ Below w.heap.size w w') := Lib.hid (fun q c w h => by
        have := rsorts_any q c (I.map (·.1)) w h (by rw [List.length_map]; omega)
        rw [rsort_kset, ← hQ, List.length_map, List.length_map, hIl, ← hnq] at this
        refine this.mono ?_
        rintro r w' ⟨q', c', h1, h2, _, h4⟩
        exact ⟨q', c', h1, h2.rd, h4⟩)
      have K3 : Hid (∀ q c w, Rd encS w q (Q.map (·.1)) → Calls Tryd.prog 23 #[.slice q nq c] w fun r w' => r = .returned (.string ⟨KS.toArray⟩) ∧ w = w') := Lib.hid (fun q c w h => by
        have e : (Q.map (·.1)).flatten = KS := by rw [hKS, kB_flat]
        have := rjoin_any q c (Q.map (·.1)) w h (by rw [List.length_map]; omega) (by rw [e]; omega)
        rw [e, List.length_map, ← hnq] at this; exact this)
      have K4 : Hid (∀ w, Calls Tryd.prog 24 #[.string ⟨KS.toArray⟩] w fun r w' => ∃ q c, r = .returned (.tuple #[.slice q (if 1 ≤ nq ∧ nq ≤ 5 then nq else 0) c, .bool (decide (1 ≤ nq ∧ nq ≤ 5))]) ∧ (1 ≤ nq ∧ nq ≤ 5 → Rd encN w' q Q ∧ (q = none ∨ ∃ b off, q = some ⟨b, off, none⟩)) ∧ Below w.heap.size w w') := Lib.hid (fun w => by
        refine (hnames_any KS w (by omega)).mono ?_
        rintro r w' ⟨q, c, M, h1, h2, h3, h4, h5⟩
        rw [hKS, nmsOk_of Q hQp, ← hnq, pcs_of] at h2
        rw [hKS, nmsOk_of Q hQp, ← hnq] at h1
        refine ⟨q, c, ?_, fun h => ?_, h5⟩
        · rw [h1, h2]
          by_cases h : 1 ≤ nq ∧ nq ≤ 5
          · rw [if_pos (decide_eq_true h), if_pos h, ← hnq]
          · rw [if_neg (by simpa using h), if_neg h]; rfl
        · rw [h2, if_pos (decide_eq_true h)] at h3
          exact ⟨h3.rd, h3.ao⟩)
      obtain ⟨bq, hbq⟩ : ∃ b, b = decide (1 ≤ nq ∧ nq ≤ 5) := ⟨_, rfl⟩
      obtain ⟨nb, hnb⟩ : ∃ n, n = if 1 ≤ nq ∧ nq ≤ 5 then nq else 0 := ⟨_, rfl⟩
      rw [← hbq, ← hnb] at K4
      have HBQ := Lib.hid (And.intro hbq hnb)
      clear hbq hnb
      have K5 : Hid (∀ q c w, Rd encN w q Q → (q = none ∨ ∃ b off, q = some ⟨b, off, none⟩) → Calls Tryd.prog 21 #[.slice q nq c] w fun r w' => r = .returned (.string ⟨KS.toArray⟩) ∧ Below w.heap.size w w') := Lib.hid (fun q c w h3 h4 => by
        have := key_any q c Q w h3 h4 (by omega)
        rw [kset_self hQp, ← hKS, ← hnq] at this; exact this)
      have HIl := Lib.hid hIl
      have hKb : KS.length ≤ 1000000 := by omega
      clear hl5 hl6 hI hI6 hIl hQ hQp hKS hnq HM HL
      have H5 := Lib.hid HA.out.1
      have R6 := Lib.hid HA.out.2.s.rd
      clear HA
      go_wp2_with fail
      refine (K1.out q5 c5 I wr HIl.out (fun _ => Iff.rfl) H5.out.s.rd H5.out.s.ao).mono ?_
      rintro r w2 ⟨rfl, hb2⟩
      have A2 := Lib.hid (H5.out.below hb2)
      have R2 := Lib.hid (R6.out.old hb2)
      clear hb2 H5 R6
      go_wp2_with fail
      refine (K2.out q6 c6 w2 R2.out).mono ?_
      rintro r w3 ⟨q10, c10, rfl, hR3, hb3⟩
      have A3 := Lib.hid (A2.out.below hb3)
      have R3 := Lib.hid hR3
      clear hb3 hR3 A2 R2 K2
      go_wp2_with fail
      refine (K3.out q10 c10 w3 R3.out).mono ?_
      rintro r w3' ⟨rfl, rfl⟩
      clear R3 K3
      go_wp2_with fail
      -- turned round
      rename World => w3
      have ST : Hid (∃ M : List Nm, M.length = i ∧ (∀ x, x ∈ M ↔ x ∈ I) ∧ Rw encN 39 w3 q5 c5 M ∧ (∀ a, q5 = some a → w1.heap.size ≤ a.block) ∧ Below w1.heap.size w1 w3) := Lib.hid ⟨I, HIl.out, fun _ => Iff.rfl, A3.out.s, A3.out.new, A3.out.m⟩
      clear A3
      generalize hmi : i = m at *
      clear hmi
      go_loopw [11, 12, 54] (fun _ _ s54 wr => ∃ i : Nat, i ≤ m ∧ s54 = .int .i64 (i : Int) ∧ Hid (∃ M : List Nm, M.length = m ∧ (∀ x, x ∈ M ↔ x ∈ I) ∧ Rw encN 39 wr q5 c5 M ∧ (∀ a, q5 = some a → w1.heap.size ≤ a.block) ∧ Below w1.heap.size w1 wr)) (fun _ _ i _ => m - (intOf i).toNat)
      case atStart => exact ⟨0, Nat.zero_le _, rfl, ST⟩
      case round =>
        clear ST
        obtain ⟨i, hi, rfl, HS⟩ := hrel
        by_cases hlt : i < m
        · obtain ⟨jj, hjj⟩ : ∃ jj, jj + i + 1 = m := ⟨m - 1 - i, by omega⟩
          have e1 : IntKind.i64.wrap ((m : Int) - 1) = (m : Int) - 1 := IntWalk.i64_in _ (by omega)
          have e2 : IntKind.i64.wrap ((m : Int) - 1 - (i : Int)) = (jj : Int) := by rw [IntWalk.i64_in _ (by omega)]; omega
          have e3 : (m : Int) - 1 - (i : Int) = (jj : Int) := by omega
          have i0 : (0 : Int) ≤ i := by omega
          have i1 : (i : Int) < m := by omega
          have E2 := Lib.hid e3
          have Hlt := Lib.hid hlt
          by_cases hij : i < jj
          · have j1 : (i : Int) < (jj : Int) := by omega
            have j2 : (jj : Int) < (m : Int) := by omega
            have j3 : (0 : Int) ≤ (jj : Int) := by omega
            go_upto_region 21 with fail
            clear e1 e2 e3 E2
            obtain ⟨M, hMl, hMm, hMr, hMf, hMb⟩ := HS.out
            obtain ⟨g5, rfl⟩ : ∃ g, q5 = some ⟨g, 0, none⟩ := by
              rcases hMr.shape with ⟨_, h0, _⟩ | ⟨g, e, _⟩
              · rw [h0] at hMl; simp at hMl; omega
              · exact ⟨g, e⟩
            have hiM : i < M.length := by omega
            have hjM : jj < M.length := by omega
            have hsw := swap_mem M i jj hiM hjM
            obtain ⟨xN, hxN⟩ : ∃ x, x = M[i] := ⟨_, rfl⟩
            obtain ⟨yN, hyN⟩ : ∃ y, y = M[jj] := ⟨_, rfl⟩
            rw [← hxN, ← hyN] at hsw
            have HFR : Hid (w1.heap.size ≤ g5) := Lib.hid (hMf _ rfl)
            have HX : Hid (∀ w', Rw encN 39 w' (some ⟨g5, 0, none⟩) c5 M → ∀ k u, (encN.f xN)[k]? = some u → w'.cell? ⟨g5, i * 32 + k, none⟩ = some u) := Lib.hid (fun w' h => by rw [hxN]; exact rd_nm h.rd i hiM)
            have HY : Hid (∀ w', Rw encN 39 w' (some ⟨g5, 0, none⟩) c5 M → ∀ k u, (encN.f yN)[k]? = some u → w'.cell? ⟨g5, jj * 32 + k, none⟩ = some u) := Lib.hid (fun w' h => by rw [hyN]; exact rd_nm h.rd jj hjM)
            have HW1 : Hid (∀ w', Rw encN 39 w' (some ⟨g5, 0, none⟩) c5 M → ∃ W4, Rw encN 39 W4 (some ⟨g5, 0, none⟩) c5 (M.set i yN) ∧ Mod (fun k => k = g5) w' W4 ∧ ∀ (oo : Oper) (a : Act) (p q : Operand), oo.op = .store 39 p q → a.eval p = .pointer (some ⟨g5, i * 32, none⟩) → a.eval q = .agg (vals yN.1).toArray → (execOp a.eval oo).run Tryd.prog w' = .ok .skip W4) := Lib.hid (fun w' h => rwN_set h i hiM yN)
            have HW2 : Hid (∀ w', Rw encN 39 w' (some ⟨g5, 0, none⟩) c5 (M.set i yN) → ∃ W4, Rw encN 39 W4 (some ⟨g5, 0, none⟩) c5 ((M.set i yN).set jj xN) ∧ Mod (fun k => k = g5) w' W4 ∧ ∀ (oo : Oper) (a : Act) (p q : Operand), oo.op = .store 39 p q → a.eval p = .pointer (some ⟨g5, jj * 32, none⟩) → a.eval q = .agg (vals xN.1).toArray → (execOp a.eval oo).run Tryd.prog w' = .ok .skip W4) := Lib.hid (fun w' h => rwN_set h jj (by rw [List.length_set]; exact hjM) xN)
            have HSW : Hid (((M.set i yN).set jj xN).length = m ∧ ∀ z, z ∈ (M.set i yN).set jj xN ↔ z ∈ I) := Lib.hid ⟨by simpa using hMl, fun z => (hsw z).trans (hMm z)⟩
            have HMB := Lib.hid hMb
            have HG0 : Hid ((fun (j : Nat) (_ : Value) (w' : World) => Rw encN 39 w' (some ⟨g5, 0, none⟩) c5 (match j with | 0 => M | 1 => M.set i yN | _ => (M.set i yN).set jj xN) ∧ Mod (fun k => k = g5) wr w') 0 undef wr.drew) := Lib.hid ⟨hMr.kept (Mod.drew (Mod.refl (fun _ => False) _)) (fun _ _ h => h), (Mod.refl _ _).drew⟩
            clear hMl hMm hMr hMf hMb hiM hjM hsw hxN hyN HS
            refine CV.wp_region_chain (fun t v => match t with
              | 65 => v = .slice (some ⟨g5, 0, none⟩) m c5
              | 66 => v = .int .i64 (i : Int)
              | 67 => v = .slice (some ⟨g5, 0, none⟩) m c5
              | 68 => v = .int .i64 (jj : Int)
              | 69 => v = .slice (some ⟨g5, 0, none⟩) m c5
              | 70 => v = .int .i64 (jj : Int)
              | 71 => v = .pointer (some ⟨g5, jj * 32, none⟩)
              | 72 => v = .agg (vals yN.1).toArray
              | 73 => v = .slice (some ⟨g5, 0, none⟩) m c5
              | 74 => v = .int .i64 (i : Int)
              | 75 => v = .pointer (some ⟨g5, i * 32, none⟩)
              | 76 => v = .agg (vals xN.1).toArray
              | 77 => v = .pointer (some ⟨g5, i * 32, none⟩)
              | 78 => v = .pointer (some ⟨g5, jj * 32, none⟩)
              | _ => True) (fun (j : Nat) (_ : Value) (w' : World) => Rw encN 39 w' (some ⟨g5, 0, none⟩) c5 (match j with | 0 => M | 1 => M.set i yN | _ => (M.set i yN).set jj xN) ∧ Mod (fun k => k = g5) wr w') [13, 15] 173 (by kernel_rfl) (by decide +kernel) rfl (by decide +kernel) (by decide) (by decide) HG0.out (by
              refine OweAllC.cons (owesC_val 0 (by decide +kernel) (by decide) rfl rfl fun k' a w1 x hk ha hG hV => ?_) ?_
              · skip
                have h5 := ha.outer 5 (by decide +kernel)
                simp only [Act.eval] at h5
                exact ⟨.slice (some ⟨g5, 0, none⟩) m c5, wanted_free rfl, by simp [execOp, go_sem, h5], rfl⟩
              refine OweAllC.cons (owesC_val 0 (by decide +kernel) (by decide) rfl rfl fun k' a w1 x hk ha hG hV => ?_) ?_
              · skip
                have h11 := ha.outer 11 (by decide +kernel)
                simp only [Act.eval] at h11
                exact ⟨.int .i64 (i : Int), wanted_free rfl, by simp [execOp, go_sem, h11], rfl⟩
              refine OweAllC.cons (owesC_val 1 (by decide +kernel) (by decide) rfl rfl fun k' a w1 x hk ha hG hV => ?_) ?_
              · skip
                have h5 := ha.outer 5 (by decide +kernel)
                simp only [Act.eval] at h5
                exact ⟨.slice (some ⟨g5, 0, none⟩) m c5, wanted_free rfl, by simp [execOp, go_sem, h5], rfl⟩
              refine OweAllC.cons (owesC_val 1 (by decide +kernel) (by decide) rfl rfl fun k' a w1 x hk ha hG hV => ?_) ?_
              · skip
                have h12 := ha.outer 12 (by decide +kernel)
                simp only [Act.eval] at h12
                exact ⟨.int .i64 (jj : Int), wanted_free rfl, by simp [execOp, go_sem, h12], rfl⟩
              refine OweAllC.cons (owesC_val 0 (by decide +kernel) (by decide) rfl rfl fun k' a w1 x hk ha hG hV => ?_) ?_
              · skip
                have h5 := ha.outer 5 (by decide +kernel)
                simp only [Act.eval] at h5
                exact ⟨.slice (some ⟨g5, 0, none⟩) m c5, wanted_free rfl, by simp [execOp, go_sem, h5], rfl⟩
              refine OweAllC.cons (owesC_val 0 (by decide +kernel) (by decide) rfl rfl fun k' a w1 x hk ha hG hV => ?_) ?_
              · skip
                have h12 := ha.outer 12 (by decide +kernel)
                simp only [Act.eval] at h12
                exact ⟨.int .i64 (jj : Int), wanted_free rfl, by simp [execOp, go_sem, h12], rfl⟩
              refine OweAllC.cons (owesC_val 0 (by decide +kernel) (by decide) rfl rfl fun k' a w1 x hk ha hG hV => ?_) ?_
              · skip
                have h69 : a.tmps.getD 69 undef = .slice (some ⟨g5, 0, none⟩) m c5 := hV.get 69 (by decide +kernel)
                have h70 : a.tmps.getD 70 undef = .int .i64 (jj : Int) := hV.get 70 (by decide +kernel)
                exact ⟨.pointer (some ⟨g5, jj * 32, none⟩), wanted_free rfl, by simp [execOp, go_sem, h69, h70, j2, j3], rfl⟩
              refine OweAllC.cons (owesC_val 0 (by decide +kernel) (by decide) rfl rfl fun k' a w1 x hk ha hG hV => ?_) ?_
              · skip
                have h71 : a.tmps.getD 71 undef = .pointer (some ⟨g5, jj * 32, none⟩) := hV.get 71 (by decide +kernel)
                obtain rfl : k' = 0 := by omega
                exact ⟨.agg (vals yN.1).toArray, wanted_free rfl, exec_load_mid (.tmp 71) rfl g5 (jj * 32) h71 yN (HY.out w1 hG.1), rfl⟩
              refine OweAllC.cons (owesC_val 1 (by decide +kernel) (by decide) rfl rfl fun k' a w1 x hk ha hG hV => ?_) ?_
              · skip
                have h5 := ha.outer 5 (by decide +kernel)
                simp only [Act.eval] at h5
                exact ⟨.slice (some ⟨g5, 0, none⟩) m c5, wanted_free rfl, by simp [execOp, go_sem, h5], rfl⟩
              refine OweAllC.cons (owesC_val 1 (by decide +kernel) (by decide) rfl rfl fun k' a w1 x hk ha hG hV => ?_) ?_
              · skip
                have h11 := ha.outer 11 (by decide +kernel)
                simp only [Act.eval] at h11
                exact ⟨.int .i64 (i : Int), wanted_free rfl, by simp [execOp, go_sem, h11], rfl⟩
              refine OweAllC.cons (owesC_val 1 (by decide +kernel) (by decide) rfl rfl fun k' a w1 x hk ha hG hV => ?_) ?_
              · skip
                have h73 : a.tmps.getD 73 undef = .slice (some ⟨g5, 0, none⟩) m c5 := hV.get 73 (by decide +kernel)
                have h74 : a.tmps.getD 74 undef = .int .i64 (i : Int) := hV.get 74 (by decide +kernel)
                exact ⟨.pointer (some ⟨g5, i * 32, none⟩), wanted_free rfl, by simp [execOp, go_sem, h73, h74, i0, i1], rfl⟩
              refine OweAllC.cons (owesC_val 0 (by decide +kernel) (by decide) rfl rfl fun k' a w1 x hk ha hG hV => ?_) ?_
              · skip
                have h75 : a.tmps.getD 75 undef = .pointer (some ⟨g5, i * 32, none⟩) := hV.get 75 (by decide +kernel)
                obtain rfl : k' = 0 := by omega
                exact ⟨.agg (vals xN.1).toArray, wanted_free rfl, exec_load_mid (.tmp 75) rfl g5 (i * 32) h75 xN (HX.out w1 hG.1), rfl⟩
              refine OweAllC.cons (owesC_val 0 (by decide +kernel) (by decide) rfl rfl fun k' a w1 x hk ha hG hV => ?_) ?_
              · skip
                have h65 : a.tmps.getD 65 undef = .slice (some ⟨g5, 0, none⟩) m c5 := hV.get 65 (by decide +kernel)
                have h66 : a.tmps.getD 66 undef = .int .i64 (i : Int) := hV.get 66 (by decide +kernel)
                exact ⟨.pointer (some ⟨g5, i * 32, none⟩), wanted_free rfl, by simp [execOp, go_sem, h65, h66, i0, i1], rfl⟩
              refine OweAllC.cons (owesC_store 0 rfl rfl rfl fun a w1 x ha hG hx hV => ?_) ?_
              · skip
                have h77 : a.tmps.getD 77 undef = .pointer (some ⟨g5, i * 32, none⟩) := hV.get 77 (by decide +kernel)
                have h72 : a.tmps.getD 72 undef = .agg (vals yN.1).toArray := hV.get 72 (by decide +kernel)
                obtain ⟨W4, hr4, hm4, hst⟩ := HW1.out w1 hG.1
                exact ⟨W4, wanted_free rfl, hst _ _ _ _ rfl h77 h72, hr4, hG.2.trans hm4 (fun _ _ h => h)⟩
              refine OweAllC.cons (owesC_val 1 (by decide +kernel) (by decide) rfl rfl fun k' a w1 x hk ha hG hV => ?_) ?_
              · skip
                have h67 : a.tmps.getD 67 undef = .slice (some ⟨g5, 0, none⟩) m c5 := hV.get 67 (by decide +kernel)
                have h68 : a.tmps.getD 68 undef = .int .i64 (jj : Int) := hV.get 68 (by decide +kernel)
                exact ⟨.pointer (some ⟨g5, jj * 32, none⟩), wanted_free rfl, by simp [execOp, go_sem, h67, h68, j2, j3], rfl⟩
              refine OweAllC.cons (owesC_store 1 rfl rfl rfl fun a w1 x ha hG hx hV => ?_) ?_
              · skip
                have h78 : a.tmps.getD 78 undef = .pointer (some ⟨g5, jj * 32, none⟩) := hV.get 78 (by decide +kernel)
                have h76 : a.tmps.getD 76 undef = .agg (vals xN.1).toArray := hV.get 76 (by decide +kernel)
                obtain ⟨W4, hr4, hm4, hst⟩ := HW2.out w1 hG.1
                exact ⟨W4, wanted_free rfl, hst _ _ _ _ rfl h78 h76, hr4, hG.2.trans hm4 (fun _ _ h => h)⟩
              exact OweAllC.nil
              ) ?_
            intro f wz xz hG hx hv
            refine moves_back (P := Tryd.prog) (ops := #[]) f _ _ _ ?_
            simp only [dsts, List.filterMap_cons, List.filterMap_nil, List.map_cons, List.map_nil]
            clear hv hx
            unfold mv
            obtain ⟨hG2, hG3⟩ : Rw encN 39 wz (some ⟨g5, 0, none⟩) c5 ((M.set i yN).set jj xN) ∧ Mod (fun k => k = g5) wr wz := hG
            have HZ : Hid (∃ M : List Nm, M.length = m ∧ (∀ x, x ∈ M ↔ x ∈ I) ∧ Rw encN 39 wz (some ⟨g5, 0, none⟩) c5 M ∧ (∀ a, some (⟨g5, 0, none⟩ : Addr) = some a → w1.heap.size ≤ a.block) ∧ Below w1.heap.size w1 wz) := Lib.hid ⟨_, HSW.out.1, HSW.out.2, hG2, (fun a e => by cases e; exact HFR.out), ((Mod.of_below HMB.out).trans hG3 (fun k hk h => by subst h; exact HFR.out)).to_below (Nat.le_refl _) (fun k hk h => by omega)⟩
            have hlt := Hlt.out
            clear HG0 hG2 hG3 HX HY HW1 HW2 HSW HMB HFR
            go_wp2_with fail
            go_roundw
            case rel => exact ⟨i + 1, by omega, by go_num, HZ⟩
            case measure => simp [intOf]; omega
          · have j1 : ¬ (i : Int) < (jj : Int) := by omega
            go_wp2_with fail
            have hlt := Hlt.out
            clear e1 e2 e3 E2
            go_roundw
            case rel => exact ⟨i + 1, by omega, by go_num, HS⟩
            case measure => simp [intOf]; omega
        · have i1 : ¬ (i : Int) < m := by omega
          obtain ⟨M, hMl, hMm, hMr, hMf, hMb⟩ := HS.out
          have KM : Hid (∀ w', Below wr.heap.size wr w' → Calls Tryd.prog 21 #[.slice q5 m c5] w' fun r w'' => r = .returned (.string ⟨KS.toArray⟩) ∧ Below w'.heap.size w' w'') := Lib.hid (fun w' hb => K1.out q5 c5 M w' hMl hMm (hMr.old hb).rd hMr.ao)
          have HB := Lib.hid hMb
          clear hMl hMm hMr hMf hMb HS K1
          rename World => w4
          go_wp2_with fail
          refine (K4.out w4).mono ?_
          rintro r w5 ⟨q13, c13, rfl, hq13, hb5⟩
          have HQ := Lib.hid hq13
          have B5 := Lib.hid hb5
          clear hq13 hb5 K4
          go_upto_region 24 with fail
          go_cut [118] (fun s118 wx => s118 = .bool false ∧ Hid (Below w4.heap.size w4 wx))
          case first =>
            by_cases c : 1 ≤ nq ∧ nq ≤ 5
            · obtain ⟨c1, c2⟩ := c
              have hb : bq = true := by rw [HBQ.out.1]; exact decide_eq_true ⟨c1, c2⟩
              have hn : nb = nq := by rw [HBQ.out.2]; exact if_pos ⟨c1, c2⟩
              subst hb
              subst hn
              have c3 : (1 : Int) ≤ nb := by omega
              have c4 : (nb : Int) ≤ 5 := by omega
              have HQ2 := Lib.hid (HQ.out ⟨c1, c2⟩)
              go_wp2_with fail
              refine (KM.out w5 B5.out).mono ?_
              rintro r w6 ⟨rfl, hb6⟩
              have B6 := Lib.hid hb6
              clear hb6
              go_wp2_with fail
              refine (K5.out q13 c13 w6 (HQ2.out.1.old B6.out) HQ2.out.2).mono ?_
              rintro r w7 ⟨rfl, hb7⟩
              have B7 : Hid (Below w4.heap.size w4 w7) := Lib.hid (B5.out.trans ((B6.out.trans (hb7.mono B6.out.size)).mono B5.out.size))
              clear hb7
              go_wp2_with fail
              go_meet
              exact ⟨rfl, B7⟩
            · have hb : bq = false := by rw [HBQ.out.1]; exact decide_eq_false c
              have hn : nb = 0 := by rw [HBQ.out.2]; exact if_neg c
              subst hb
              subst hn
              by_cases c1 : 1 ≤ nq
              · have c3 : (1 : Int) ≤ nq := by omega
                have c4 : decide ((nq : Int) ≤ 5) = false := decide_eq_false (by omega)
                clear c
                go_wp2_with fail
                refine (KM.out w5 B5.out).mono ?_
                rintro r w6 ⟨rfl, hb6⟩
                have B6 : Hid (Below w4.heap.size w4 w6) := Lib.hid (B5.out.trans (hb6.mono B5.out.size))
                clear hb6
                go_wp2_with fail
                go_meet
                exact ⟨rfl, B6⟩
              · have c3 : ¬ (1 : Int) ≤ nq := by omega
                clear c
                go_wp2_with fail
                refine (KM.out w5 B5.out).mono ?_
                rintro r w6 ⟨rfl, hb6⟩
                have B6 : Hid (Below w4.heap.size w4 w6) := Lib.hid (B5.out.trans (hb6.mono B5.out.size))
                clear hb6
                go_wp2_with fail
                go_meet
                exact ⟨rfl, B6⟩
          case rest =>
          obtain ⟨rfl, HC⟩ := hcut
          rename World => w6
          have B6 : Hid (Below w.heap.size w w6) := Lib.hid (by
            have h1 := HB.out.trans (HC.out.mono HB.out.size)
            exact B1.out.trans (h1.mono B1.out.size))
          clear HC HB KM K5 HQ B5 HBQ
          go_wp2_with fail
          refine (hcut.out w6).mono ?_
          rintro r w6' ⟨rfl, rfl⟩
          clear hcut
          -- of any text
          obtain ⟨lt, hlt0⟩ : ∃ n, n = T.length := ⟨_, rfl⟩
          have hG := nmsOk_base T
          obtain ⟨G, hG2⟩ : ∃ G, G = nmsOk T := ⟨_, rfl⟩
          obtain ⟨n15, hn15⟩ : ∃ n, n = (if G = true then pcs T else []).length := ⟨_, rfl⟩
          have K6 : Hid (∀ w, Calls Tryd.prog 24 #[.string ⟨T.toArray⟩] w fun r w' => ∃ q c, r = .returned (.tuple #[.slice q n15 c, .bool G]) ∧ (G = true → Rd encN w' q (pcs T) ∧ (q = none ∨ ∃ b off, q = some ⟨b, off, none⟩)) ∧ Below w.heap.size w w') := Lib.hid (fun w => by
            refine (hnames_any T w (by omega)).mono ?_
            rintro r w' ⟨q, c, M, h1, h2, h3, h4, h5⟩
            rw [← hG2] at h1 h2
            refine ⟨q, c, by rw [h1, hn15, h2], fun h => ?_, h5⟩
            rw [h2, if_pos h] at h3
            exact ⟨h3.rd, h3.ao⟩)
          have K7 : Hid (G = true → ∀ q c w, Rd encN w q (pcs T) → (q = none ∨ ∃ b off, q = some ⟨b, off, none⟩) → Calls Tryd.prog 21 #[.slice q n15 c] w fun r w' => r = .returned (.string ⟨T.toArray⟩) ∧ Below w.heap.size w w') := Lib.hid (fun h q c w h3 h4 => by
            have := key_any q c (pcs T) w h3 h4 (by simp [pcs]; omega)
            rw [hn15, if_pos h]
            rw [pcs_key T (by rw [← hG2]; exact h)] at this; exact this)
          obtain ⟨b0, hb0⟩ : ∃ b, b = decide (T.length % 32 = 0 ∧ 32 ≤ T.length ∧ T.length ≤ 160) := ⟨_, rfl⟩
          rw [← hG2, ← hb0] at hG
          have HG : Hid (G = (b0 && rs ((pcs T).map (·.1)) (lt / 32 - 1))) := Lib.hid (by rw [hG, hlt0])
          rw [← hlt0] at hb0 hTl
          have HB0 := Lib.hid hb0
          have hSz : (ByteArray.mk T.toArray).size = lt := by rw [hlt0]; rfl
          have HLT := Lib.hid hlt0
          clear hG hG2 hn15 hb0 hlt0
          go_wp2_with fail
          refine (K6.out w6).mono ?_
          rintro r w7 ⟨q15, c15, rfl, h15, hb7⟩
          have B7 := Lib.hid (B6.out.trans (hb7.mono B6.out.size))
          have K8 : Hid (G = true → ∀ w', Below w7.heap.size w7 w' → Calls Tryd.prog 21 #[.slice q15 n15 c15] w' fun r w'' => r = .returned (.string ⟨T.toArray⟩) ∧ Below w'.heap.size w' w'') := Lib.hid (fun h w' hb => K7.out h q15 c15 w' ((h15 h).1.old hb) (h15 h).2)
          clear h15 hb7 K6 K7 B6
          go_upto_region 28 with fail
          go_cut [17] (fun s17 wx => s17 = .bool b0 ∧ wx = w7)
          case first =>
            by_cases d1 : lt % 32 = 0
            · have e1 : (lt : Int) % 32 = 0 := by omega
              by_cases d2 : 32 ≤ lt
              · have e2 : (32 : Int) ≤ lt := by omega
                by_cases d3 : lt ≤ 160
                · have e3 : (lt : Int) ≤ 160 := by omega
                  have hb : b0 = true := by rw [HB0.out]; exact decide_eq_true ⟨d1, d2, d3⟩
                  subst hb
                  go_wp2_with fail
                  go_meet
                  exact ⟨rfl, rfl⟩
                · have e3 : ¬ (lt : Int) ≤ 160 := by omega
                  have hb : b0 = false := by rw [HB0.out]; exact decide_eq_false (by omega)
                  subst hb
                  go_wp2_with fail
                  go_meet
                  exact ⟨rfl, rfl⟩
              · have e2 : ¬ (32 : Int) ≤ lt := by omega
                have hb : b0 = false := by rw [HB0.out]; exact decide_eq_false (by omega)
                subst hb
                go_wp2_with fail
                go_meet
                exact ⟨rfl, rfl⟩
            · have e1 : ((lt : Int) % 32 == 0) = false := by simp; omega
              have hb : b0 = false := by rw [HB0.out]; exact decide_eq_false (by omega)
              subst hb
              clear d1
              go_wp2_with fail
              go_meet
              exact ⟨rfl, rfl⟩
          case rest =>
          obtain ⟨rfl, rfl⟩ := hcut
          rename World => w7
          go_wp2_with fail
          go_loopw [17, 18] (fun s17 s18 wr => ∃ (j p : Nat) (b : Bool), p ≤ 192 ∧ s17 = .bool b ∧ s18 = .int .i64 (p : Int) ∧ Hid (p = 32 * (j + 1) ∧ ((b0 = false ∧ b = false) ∨ (b0 = true ∧ j + 1 ≤ lt / 32 ∧ b = rs ((pcs T).map (·.1)) j))) ∧ Hid (Below w7.heap.size w7 wr)) (fun _ i _ => 300 - (intOf i).toNat)
          case atStart =>
            refine ⟨0, 32, b0, by omega, rfl, rfl, Lib.hid ⟨rfl, ?_⟩, Lib.hid (Below.refl _ _)⟩
            cases hb : b0 with
            | false => exact .inl ⟨rfl, rfl⟩
            | true =>
              have h2 := HB0.out
              rw [hb] at h2
              have h3 := of_decide_eq_true h2.symm
              exact .inr ⟨rfl, by omega, rfl⟩
          case round =>
            obtain ⟨j, p, b, hp, rfl, rfl, HJ, HW⟩ := hrel
            cases b with
            | false =>
              have hGf : G = false := by
                rw [HG.out]
                rcases HJ.out.2 with ⟨h1, _⟩ | ⟨h1, h2, h3⟩
                · rw [h1]; rfl
                · cases j with
                  | zero => exact absurd h3 (by simp [rs])
                  | succ k => rw [h1, rs_stop h3.symm (by omega)]; rfl
              subst hGf
              have HE := Lib.hid (B7.out.trans (HW.out.mono B7.out.size))
              clear HJ HG K8 HB0 HLT HW
              go_wp2_with fail
              go_ret
              exact ⟨rfl, HE.out⟩
            | true =>
              have hJ : b0 = true ∧ j + 1 ≤ lt / 32 ∧ rs ((pcs T).map (·.1)) j = true := by
                rcases HJ.out.2 with ⟨_, h⟩ | ⟨h1, h2, h3⟩
                · cases h
                · exact ⟨h1, h2, h3.symm⟩
              obtain ⟨z1, z2, z3⟩ := hJ
              have hpj := HJ.out.1
              have hlb : lt % 32 = 0 ∧ 32 ≤ lt ∧ lt ≤ 160 := by
                have h2 := HB0.out
                rw [z1] at h2
                exact of_decide_eq_true h2.symm
              by_cases hlt : p < lt
              · obtain ⟨pm, hpm⟩ : ∃ pm, pm + 32 = p := ⟨p - 32, by omega⟩
                obtain ⟨pp, hpp⟩ : ∃ pp, pp = p + 32 := ⟨_, rfl⟩
                obtain ⟨A, hA⟩ : ∃ A, A = (T.drop pm).take 32 := ⟨_, rfl⟩
                obtain ⟨B, hB⟩ : ∃ B, B = (T.drop p).take 32 := ⟨_, rfl⟩
                have xA : (ByteArray.mk T.toArray).extract pm p = ⟨A.toArray⟩ := by rw [ext_bytes, hA, show p - pm = 32 by omega]
                have xB : (ByteArray.mk T.toArray).extract p pp = ⟨B.toArray⟩ := by rw [ext_bytes, hB, show pp - p = 32 by omega]
                have gA : ((pcs T).map (·.1)).getD j [] = A := by rw [pcs_getD T j (by rw [← HLT.out]; omega), hA, show j * 32 = pm by omega]
                have gB : ((pcs T).map (·.1)).getD (j + 1) [] = B := by rw [pcs_getD T (j + 1) (by rw [← HLT.out]; omega), hB, show (j + 1) * 32 = p by omega]
                obtain ⟨bb, hbb⟩ : ∃ bb, bb = Op.bytesLess A B := ⟨_, rfl⟩
                have hr : rs ((pcs T).map (·.1)) (j + 1) = bb := by rw [rs_succ, z3, gA, gB, Bool.true_and, hbb, less_cmp]
                have HXA := Lib.hid xA
                have HXB := Lib.hid xB
                have HBB : Hid (Op.bytesLess A B = bb) := Lib.hid hbb.symm
                have HN : Hid (pp = 32 * (j + 1 + 1) ∧ ((b0 = false ∧ bb = false) ∨ (b0 = true ∧ j + 1 + 1 ≤ lt / 32 ∧ bb = rs ((pcs T).map (·.1)) (j + 1)))) := Lib.hid ⟨by omega, .inr ⟨z1, by omega, hr.symm⟩⟩
                have e1 : IntKind.i64.wrap ((p : Int) - 32) = (pm : Int) := by rw [IntWalk.i64_in _ (by omega)]; omega
                have e2 : IntKind.i64.wrap ((p : Int) + 32) = (pp : Int) := by rw [IntWalk.i64_in _ (by omega)]; omega
                have a1 : (0 : Int) ≤ pm := by omega
                have a2 : (pm : Int) ≤ p := by omega
                have a3 : (p : Int) ≤ lt := by omega
                have a4 : (p : Int) ≤ pp := by omega
                have a5 : (pp : Int) ≤ lt := by omega
                have a6 : (0 : Int) ≤ p := by omega
                have a7 : (p : Int) < lt := by omega
                have hp2 : pp ≤ 192 := by omega
                have hp3 : p < pp := by omega
                have H12 := Lib.hid (And.intro e1 e2)
                clear hA hB xA xB gA gB hbb hr hpm hpp z1 z2 z3 hpj hlb hlt HJ e1 e2
                go_upto_region 32 with fail
                refine wp_region_puts (fun t v w => VK (match t with
                  | 149 => .eq (.string ⟨T.toArray⟩)
                  | 150 => .eq (.int .i64 (p : Int))
                  | 151 => .eq (.int .i64 (pm : Int))
                  | 152 => .eq (.int .i64 (p : Int))
                  | 153 => .eq (.string ⟨A.toArray⟩)
                  | 154 => .eq (.string ⟨T.toArray⟩)
                  | 155 => .eq (.int .i64 (p : Int))
                  | 156 => .eq (.int .i64 (p : Int))
                  | 157 => .eq (.int .i64 (pp : Int))
                  | 158 => .eq (.string ⟨B.toArray⟩)
                  | 159 => .eq (.bool bb)
                  | 17 => .eq (.bool bb)
                  | _ => .any) v w) (fun w' => Below wr.heap.size wr w') 173 (by kernel_rfl) (by decide +kernel) rfl (Below.refl _ _).drew (by
                  refine OweAll.cons (owesK rfl rfl fun a w1 ha hG hV => ?_) ?_
                  · skip
                    have h1 := ha.outer 1 (by decide +kernel)
                    simp only [Act.eval] at h1
                    exact ⟨.string ⟨T.toArray⟩, w1, wanted_free rfl, by simp [execOp, go_sem, h1], Below.refl _ _, rfl⟩
                  refine OweAll.cons (owesK rfl rfl fun a w1 ha hG hV => ?_) ?_
                  · skip
                    have h18 := ha.outer 18 (by decide +kernel)
                    simp only [Act.eval] at h18
                    exact ⟨.int .i64 (p : Int), w1, wanted_free rfl, by simp [execOp, go_sem, h18], Below.refl _ _, rfl⟩
                  refine OweAll.cons (owesK rfl rfl fun a w1 ha hG hV => ?_) ?_
                  · skip
                    have h150 : a.tmps.getD 150 undef = .int .i64 (p : Int) := hV.get 150 (by decide +kernel)
                    exact ⟨.int .i64 (pm : Int), w1, wanted_free rfl, by simp [execOp, go_sem, h150, H12.out.1], Below.refl _ _, rfl⟩
                  refine OweAll.cons (owesK rfl rfl fun a w1 ha hG hV => ?_) ?_
                  · skip
                    have h18 := ha.outer 18 (by decide +kernel)
                    simp only [Act.eval] at h18
                    exact ⟨.int .i64 (p : Int), w1, wanted_free rfl, by simp [execOp, go_sem, h18], Below.refl _ _, rfl⟩
                  refine OweAll.cons (owesK rfl rfl fun a w1 ha hG hV => ?_) ?_
                  · skip
                    have h149 : a.tmps.getD 149 undef = .string ⟨T.toArray⟩ := hV.get 149 (by decide +kernel)
                    have h151 : a.tmps.getD 151 undef = .int .i64 (pm : Int) := hV.get 151 (by decide +kernel)
                    have h152 : a.tmps.getD 152 undef = .int .i64 (p : Int) := hV.get 152 (by decide +kernel)
                    exact ⟨.string ⟨A.toArray⟩, w1, wanted_free rfl, by simp [execOp, go_sem, h149, h151, h152, HXA.out, hSz, a1, a2, a3], Below.refl _ _, rfl⟩
                  refine OweAll.cons (owesK rfl rfl fun a w1 ha hG hV => ?_) ?_
                  · skip
                    have h1 := ha.outer 1 (by decide +kernel)
                    simp only [Act.eval] at h1
                    exact ⟨.string ⟨T.toArray⟩, w1, wanted_free rfl, by simp [execOp, go_sem, h1], Below.refl _ _, rfl⟩
                  refine OweAll.cons (owesK rfl rfl fun a w1 ha hG hV => ?_) ?_
                  · skip
                    have h18 := ha.outer 18 (by decide +kernel)
                    simp only [Act.eval] at h18
                    exact ⟨.int .i64 (p : Int), w1, wanted_free rfl, by simp [execOp, go_sem, h18], Below.refl _ _, rfl⟩
                  refine OweAll.cons (owesK rfl rfl fun a w1 ha hG hV => ?_) ?_
                  · skip
                    have h18 := ha.outer 18 (by decide +kernel)
                    simp only [Act.eval] at h18
                    exact ⟨.int .i64 (p : Int), w1, wanted_free rfl, by simp [execOp, go_sem, h18], Below.refl _ _, rfl⟩
                  refine OweAll.cons (owesK rfl rfl fun a w1 ha hG hV => ?_) ?_
                  · skip
                    have h156 : a.tmps.getD 156 undef = .int .i64 (p : Int) := hV.get 156 (by decide +kernel)
                    exact ⟨.int .i64 (pp : Int), w1, wanted_free rfl, by simp [execOp, go_sem, h156, H12.out.2], Below.refl _ _, rfl⟩
                  refine OweAll.cons (owesK rfl rfl fun a w1 ha hG hV => ?_) ?_
                  · skip
                    have h154 : a.tmps.getD 154 undef = .string ⟨T.toArray⟩ := hV.get 154 (by decide +kernel)
                    have h155 : a.tmps.getD 155 undef = .int .i64 (p : Int) := hV.get 155 (by decide +kernel)
                    have h157 : a.tmps.getD 157 undef = .int .i64 (pp : Int) := hV.get 157 (by decide +kernel)
                    exact ⟨.string ⟨B.toArray⟩, w1, wanted_free rfl, by simp [execOp, go_sem, h154, h155, h157, HXB.out, hSz, a4, a5, a6], Below.refl _ _, rfl⟩
                  refine OweAll.cons (owesK rfl rfl fun a w1 ha hG hV => ?_) ?_
                  · skip
                    have h153 : a.tmps.getD 153 undef = .string ⟨A.toArray⟩ := hV.get 153 (by decide +kernel)
                    have h158 : a.tmps.getD 158 undef = .string ⟨B.toArray⟩ := hV.get 158 (by decide +kernel)
                    exact ⟨.bool bb, w1, wanted_free rfl, by simp [execOp, go_sem, h153, h158, HBB.out], Below.refl _ _, rfl⟩
                  refine OweAll.cons (owesK rfl rfl fun a w1 ha hG hV => ?_) ?_
                  · skip
                    have h159 : a.tmps.getD 159 undef = .bool bb := hV.get 159 (by decide +kernel)
                    exact ⟨.bool bb, w1, wanted_free rfl, by simp [execOp, go_sem, h159], Below.refl _ _, rfl⟩
                  exact OweAll.nil
                  ) ?_
                intro f wz hG hv
                have e17 : f 17 = .bool bb := hv 11 _ 17 rfl rfl
                refine moves_back (P := Tryd.prog) (ops := #[]) f _ _ _ ?_
                simp only [dsts, List.filterMap_cons, List.filterMap_nil, List.map_cons, List.map_nil]
                rw [e17]
                clear hv
                unfold mv
                clear e17
                have HZ := Lib.hid (HW.out.trans (hG.mono HW.out.size))
                have e2 := H12.out.2
                clear hG HW H12 HXA HXB HBB a1 a2 a3 a4 a5 a6 a7
                go_wp2_with fail
                clear e2
                go_roundw
                case rel => exact ⟨j + 1, pp, bb, hp2, rfl, rfl, HN, HZ⟩
                case measure => simp [intOf]; omega
              · have hb : G = true := by rw [HG.out, z1, show lt / 32 - 1 = j by omega, z3]; rfl
                subst hb
                have a7 : ¬ (p : Int) < lt := by omega
                clear HJ HG HB0 HLT z1 z2 z3 hpj hlb hlt
                go_wp2_with fail
                refine (K8.out (by trivial) _ HW.out).mono ?_
                rintro r w8 ⟨rfl, hb8⟩
                have HB := Lib.hid (B7.out.trans ((HW.out.trans (hb8.mono HW.out.size)).mono B7.out.size))
                clear hb8
                go_wp2_with fail
                go_ret
                exact ⟨rfl, HB.out⟩
end Go.Proofs.YtiegakeacghnfaaDoor
