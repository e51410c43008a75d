/- The law HeaderShares. -/
import Derived.Test.YtiegakeacghnfaaDoorM10
namespace Go.Proofs.YtiegakeacghnfaaDoor
open Go.RowKit

theorem pc_kB (M : List Nm) (i : Nat) (h : i < M.length) : pc (kB M) i = M[i] := by
  apply Subtype.ext
  have key : ∀ (M : List Nm) (i : Nat) (h : i < M.length), ((kB M).drop (i * 32)).take 32 = M[i].1 := by
    intro M
    induction M with
    | nil => intro i h; exact absurd h (by simp)
    | cons x l ih =>
      intro i h
      have e : kB (x :: l) = x.1 ++ kB l := by simp [kB]
      cases i with
      | zero => rw [e, Nat.zero_mul, List.drop_zero, List.take_left' x.2]; rfl
      | succ j =>
        rw [e, List.drop_append, List.drop_eq_nil_of_le (by rw [x.2]; omega), List.nil_append]
        have := ih j (by simpa using h)
        rw [List.getElem_cons_succ, ← this, x.2, show (j + 1) * 32 - 32 = j * 32 by omega]
  show idL (((kB M).drop (i * 32)).take 32) = M[i].1
  rw [key M i h]; exact idL_self _ M[i].2
theorem pcs_kB (M : List Nm) : pcs (kB M) = M := by
  unfold pcs
  rw [kB_len, Nat.mul_div_cancel _ (by decide)]
  apply List.ext_getElem
  · simp
  · intro i h1 h2
    rw [List.getElem_map, List.getElem_range, pc_kB M i h2]
theorem nmsOk_kB (M : List Nm) (h1 : 1 ≤ M.length) (h5 : M.length ≤ 5) (hp : M.Pairwise lN) : nmsOk (kB M) = true := by
  unfold nmsOk
  rw [pcs_kB, kB_len, Nat.mul_div_cancel _ (by decide), (rs_pair M).2 hp, decide_eq_true ⟨by omega, h1, h5⟩]; rfl

set_option maxRecDepth 20000 in
set_option maxHeartbeats 8000000 in
theorem headerShares_any (X : Hd (List UInt8)) (ao : Option Addr) (cap : Nat) (w : World) (hX : Rd encS w ao X.ps) (kX : (X.tk.length : Int) ≤ 9223372036854775807) (hT : TabAt w) :
    Calls Tryd.prog 5 #[.agg (hcells X ao cap)] w fun r w' => r = .returned (.bool true) ∧ Below w.heap.size w w' := by
  have few : Hid (∀ w, Rd encS w ao X.ps → Calls Tryd.prog 7 #[.agg (hcells X ao cap)] w fun r w' => ∃ q c, r = .returned (.agg (hcells (fewH X) q c)) ∧ Rw encS 9 w' q c (fewH X).ps ∧ Below w.heap.size w w' ∧ ∀ a, q = some a → w.heap.size ≤ a.block) := Lib.hid (fun w h => few_any X ao cap w h kX)
  have lF := few_len X
  have hz : Hid (chk (fewH X) (rs (fewH X).ps ((fewH X).ps.length - 1)) = 0 → FewOk (fewH X) (ownH (fewH X))) := Lib.hid (few_ok X)
  have hck : Hid (chk (ownH (fewH X)) (rs ((ownH (fewH X)).ps.map (·.1)) ((ownH (fewH X)).ps.length - 1)) = chk (fewH X) (rs (fewH X).ps ((fewH X).ps.length - 1))) := Lib.hid (few_chk X)
  obtain ⟨F, hF⟩ : ∃ F, F = fewH X := ⟨_, rfl⟩
  rw [← hF] at few lF hz hck
  obtain ⟨e, he⟩ : ∃ e, e = chk F (rs F.ps (F.ps.length - 1)) := ⟨_, rfl⟩
  rw [← he] at hz hck
  have rck : Hid (∀ q c w, Rd encS w q F.ps → Calls Tryd.prog 10 #[.agg (hcells F q c)] w fun r w' => r = .returned (.int .i64 e) ∧ Below w.heap.size w w') := Lib.hid (fun q c w h => by have := rcheck_any F q c w h; rw [← he] at this; exact this)
  have own : Hid (∀ q c w, Rd encS w q F.ps → Calls Tryd.prog 8 #[.agg (hcells F q c)] w fun r w' => ∃ q' c', r = .returned (.agg (hcells (ownH F) q' c')) ∧ Rw encN 39 w' q' c' (ownH F).ps ∧ Below w.heap.size w w' ∧ ∀ a, q' = some a → w.heap.size ≤ a.block) := Lib.hid (fun q c w h => own_any F q c w h (by omega))
  obtain ⟨A, hA⟩ : ∃ A, A = ownH F := ⟨_, rfl⟩
  rw [← hA] at hz hck own
  have hcx : Hid (∀ q c w, Rd encN w q A.ps → Calls Tryd.prog 9 #[.agg (hcells A q c)] w fun r w' => r = .returned (.int .i64 e) ∧ Below w.heap.size w w') := Lib.hid (fun q c w h => by have := hcheck_any A q c w h; rw [hck.out] at this; exact this)
  have sC : (hcells X ao cap).size = 7 := rfl
  obtain ⟨C, hC⟩ : ∃ C, C = hcells X ao cap := ⟨_, rfl⟩
  rw [← hC] at few sC ⊢
  have qC : (Tryd.prog.info? 25).map (·.size) = some C.size := by rw [sC]; exact rhinfo
  have bC := heap_alloc_new w (.cells C 25)
  obtain ⟨W0, hW0⟩ : ∃ W0, W0 = w.alloc (.cells C 25) := ⟨_, rfl⟩
  rw [← hW0] at bC
  have b0 : Below w.heap.size w W0 := by rw [hW0]; exact (Below.refl _ w).alloc (Nat.le_refl _) _
  have HT := Lib.hid (hT.old b0)
  have HT0 := Lib.hid hT
  have B0 := Lib.hid b0
  have BC := Lib.hid bC
  have HX := Lib.hid hX
  have HW0 := Lib.hid hW0
  clear hF he hA hC hW0 b0 bC hX kX hT lF hck
  go_enter Tryd.func5, Tryd.ntmps5
  go_wp2_with fail
  rw [← HW0.out]
  refine (awake05_any W0 HT.out).mono ?_
  rintro r w1 ⟨rfl, hb1⟩
  have bC := (hb1.block _ (Array.getElem?_eq_some_iff.1 BC.out).1).trans BC.out
  have B1 := Lib.hid (B0.out.trans (hb1.mono B0.out.size))
  clear hb1 HT BC B0
  go_wp2_with (refine wpList_load_row rfl 25 (.tmp 1) rfl w.heap.size rfl 25 C (0, 0) _ bC Tryd.underlying25 rfl qC ?_)
  refine (few.out w1 (HX.out.old B1.out)).mono ?_
  rintro r w2 ⟨q1, c1, rfl, hR, hb2, hf2⟩
  have bC2 := (hb2.block _ (Array.getElem?_eq_some_iff.1 bC).1).trans bC
  have hgl : w.heap.size < w1.heap.size := (Array.getElem?_eq_some_iff.1 bC).1
  have sD : (hcells F q1 c1).size = 7 := rfl
  have oD := hcells_oneA F q1 c1
  have rck1 : Hid (∀ w, Rd encS w q1 F.ps → Calls Tryd.prog 10 #[.agg (hcells F q1 c1)] w fun r w' => r = .returned (.int .i64 e) ∧ Below w.heap.size w w') := Lib.hid (rck.out q1 c1)
  have own1 : Hid (∀ w, Rd encS w q1 F.ps → Calls Tryd.prog 8 #[.agg (hcells F q1 c1)] w fun r w' => ∃ q' c', r = .returned (.agg (hcells A q' c')) ∧ Rw encN 39 w' q' c' A.ps ∧ Below w.heap.size w w' ∧ ∀ a, q' = some a → w.heap.size ≤ a.block) := Lib.hid (own.out q1 c1)
  obtain ⟨D, hD⟩ : ∃ D, D = hcells F q1 c1 := ⟨_, rfl⟩
  rw [← hD] at sD oD rck1 own1 ⊢
  have HD := Lib.hid hD
  have qD : (Tryd.prog.info? 25).map (·.size) = some D.size := by rw [sD]; exact rhinfo
  have qCD : C.size = D.size := by rw [sC, sD]
  obtain ⟨W3, hW3⟩ : ∃ W, W = w2.setRow w.heap.size D := ⟨_, rfl⟩
  have bD : W3.heap[w.heap.size]? = some (.cells D 25 (0, 0)) := by rw [hW3]; exact setRow_heap _ _ _ _ _ _ bC2
  have hm3 : Mod (fun i => i = w.heap.size) w2 W3 := by rw [hW3]; exact ((Mod.refl (fun _ => False) w2).setRow _).mono (fun i _ h => h.elim (fun h => h.elim) id)
  have rD : Rd encS W3 q1 F.ps := hR.rd.mod hm3 (fun a e h => by have := hf2 a e; omega)
  have b3 : Below w.heap.size w W3 := by
    have := B1.out.trans (hb2.mono B1.out.size)
    exact ((Mod.of_below this).trans hm3 (fun i hi h => by omega)).to_below (Nat.le_refl _) (fun k hk h => by omega)
  have tD := HT0.out.old b3
  have HW3 := Lib.hid hW3
  have RD := Lib.hid rD
  have TD := Lib.hid tD
  have B3 := Lib.hid b3
  clear hR hb2 hf2 hgl hD hW3 hm3 rD tD b3 rck own few HX B1 HW0 HT0
  go_wp2_with (first | (refine wpList_store_row rfl rfl 25 (.tmp 1) (.tmp 16) rfl w.heap.size rfl 25 C D rfl bC2 qCD qD oD ?_; rw [← HW3.out]) | (refine wpList_load_row rfl 25 (.tmp 1) rfl w.heap.size rfl 25 D (0, 0) _ bD Tryd.underlying25 rfl qD ?_))
  clear bC bC2 oD qCD qC sC HW3
  refine (rck1.out W3 RD.out).mono ?_
  rintro r w4 ⟨rfl, hb4⟩
  have B4 := Lib.hid (B3.out.trans (hb4.mono B3.out.size))
  by_cases z : e = 0
  case neg =>
    have t1 : (e == 0) = false := by simp [z]
    have t2 : (e != 0) = true := by simp [z]
    clear z hb4 bD
    go_wp2_with fail
    go_ret
    exact ⟨rfl, B4.out⟩
  have FO := Lib.hid (hz.out z)
  subst z
  have bD4 := (hb4.block _ (Array.getElem?_eq_some_iff.1 bD).1).trans bD
  have RD4 := Lib.hid (RD.out.old hb4)
  have TD4 := Lib.hid (TD.out.old hb4)
  clear hz rck1 bD hb4 RD TD B3 hcx
  go_wp2_with (refine wpList_load_row rfl 25 (.tmp 1) rfl w.heap.size rfl 25 D (0, 0) _ bD4 Tryd.underlying25 rfl qD ?_)
  refine (own1.out w4 RD4.out).mono ?_
  rintro r w5 ⟨q3, c3, rfl, hR5, hb5, _⟩
  have sY : (hcells A q3 c3).size = 7 := rfl
  have oY := hcells_oneA A q3 c3
  obtain ⟨n, hn⟩ : ∃ n, n = A.ps.length := ⟨_, rfl⟩
  have yc5 : (hcells A q3 c3)[5]? = some (.slice q3 n c3) := by rw [hn]; rfl
  obtain ⟨Y, hY⟩ : ∃ Y, Y = hcells A q3 c3 := ⟨_, rfl⟩
  rw [← hY] at sY oY yc5 ⊢
  have qY : (Tryd.prog.info? 30).map (·.size) = some Y.size := by rw [sY]; exact hinfo
  have qZY : (#[.int .i64 0, .int .i64 0, .string ⟨#[]⟩, .int .i64 0, .int .u64 0, .slice none 0 0, .int .i64 0] : Array Value).size = Y.size := by rw [sY]; rfl
  have bZ := heap_alloc_new w5 (.cells #[.int .i64 0, .int .i64 0, .string ⟨#[]⟩, .int .i64 0, .int .u64 0, .slice none 0 0, .int .i64 0] 30)
  obtain ⟨W6, hW6⟩ : ∃ W, W = (w5.alloc (.cells #[.int .i64 0, .int .i64 0, .string ⟨#[]⟩, .int .i64 0, .int .u64 0, .slice none 0 0, .int .i64 0] 30)).setRow w5.heap.size Y := ⟨_, rfl⟩
  have b56 : Below w5.heap.size w5 W6 := by rw [hW6]; exact stored_below
  have ST : Hid (TwoAt w W6 w.heap.size w5.heap.size F A q1 q3 c1 c3) := Lib.hid (by
    have b46 := hb5.trans (b56.mono hb5.size)
    refine ⟨?_, ?_, RD4.out.old b46, hR5.old b56, TD4.out.old b46, B4.out.trans (b46.mono B4.out.size)⟩
    · rw [← HD.out]; exact (b46.block _ (Array.getElem?_eq_some_iff.1 bD4).1).trans bD4
    · rw [hW6, ← hY]; exact setRow_heap _ _ _ _ _ _ bZ)
  have HDY : Hid (D = hcells F q1 c1 ∧ Y = hcells A q3 c3) := Lib.hid ⟨HD.out, hY⟩
  have y6 : W6.heap[w5.heap.size]? = some (.cells Y 30 (0, 0)) := by rw [hW6]; exact setRow_heap _ _ _ _ _ _ bZ
  have HW6 := Lib.hid hW6
  have YC := Lib.hid yc5
  have Hn := Lib.hid hn
  have n15 : 1 ≤ n ∧ n ≤ 5 := by have := FO.out.oka.2.2.2.2.2.1; rw [hn]; exact this
  clear hR5 hb5 hY hW6 b56 bD4 own1 RD4 TD4 B4 yc5 hn HD
  have S1 : Hid (∀ w, Rd encN w q3 A.ps → Calls Tryd.prog 12 #[.agg Y] w fun r w' => r = .returned (.string ⟨(hbytes (·.1) A).toArray⟩) ∧ Below w.heap.size w w') := Lib.hid (fun w h => by
    have o := HOk.of FO.out.oka
    rw [HDY.out.2]; exact hbytes_any A q3 c3 w h o.n o.k o.pw o.b1 o.b2 o.b3 o.b4)
  have S5 : Hid (∀ w, Rd encN w q3 A.ps → Calls Tryd.prog 17 #[.agg Y] w fun r w' => r = .returned (.string ⟨(hfam A (kB (kset A.ps))).toArray⟩) ∧ Below w.heap.size w w') := Lib.hid (fun w h => by
    have o := HOk.of FO.out.oka
    rw [HDY.out.2]; exact hfamily_any A q3 c3 w h ST.out.rh.ao o.n o.pw o.b1)
  have S7 : Hid (∀ w, Calls Tryd.prog 11 #[.string ⟨(hbytes (·.1) A).toArray⟩] w (HPost A 0 w)) := Lib.hid (fun w => by
    have o := HOk.of FO.out.oka
    have hl := hbytes_len A o
    have h := hparse_any (hbytes (·.1) A) w (by omega)
    rw [FO.out.par, FO.out.tk, if_pos rfl] at h; exact h)
  have S8 : Hid (∀ w, Rd encN w q3 A.ps → Rd encS w q1 F.ps → Calls Tryd.prog 15 #[.agg Y, .agg D] w fun r w' => r = .returned (.bool true) ∧ Below w.heap.size w w') := Lib.hid (fun w h1 h2 => by
    have := same_any A F q3 q1 c3 c1 w h1 h2 (by rw [← Hn.out]; omega)
    rw [FO.out.sm] at this; rw [HDY.out.1, HDY.out.2]; exact this)
  have S9 : Hid (∀ w, Rd encN w q3 A.ps → Calls Tryd.prog 21 #[.slice q3 n c3] w fun r w' => r = .returned (.string ⟨(kB A.ps).toArray⟩) ∧ Below w.heap.size w w') := Lib.hid (fun w h => by
    have := key_any q3 c3 A.ps w h ST.out.rh.ao (by rw [← Hn.out]; omega)
    rw [FO.out.ks, ← Hn.out] at this; exact this)
  have S10 : Hid (∀ w, Calls Tryd.prog 24 #[.string ⟨(kB A.ps).toArray⟩] w fun r w' => ∃ q c, r = .returned (.tuple #[.slice q n c, .bool true]) ∧ Rw encN 39 w' q c A.ps ∧ (∀ a, q = some a → w.heap.size ≤ a.block) ∧ Below w.heap.size w w') := Lib.hid (fun w => by
    have hl := kB_len A.ps
    refine (hnames_any (kB A.ps) w (by rw [hl, ← Hn.out]; omega)).mono ?_
    rintro r w' ⟨q, c, L, h1, h2, h3, h4, h5⟩
    rw [nmsOk_kB A.ps (by rw [← Hn.out]; omega) (by rw [← Hn.out]; omega) FO.out.pair, if_pos rfl, pcs_kB] at h2
    rw [nmsOk_kB A.ps (by rw [← Hn.out]; omega) (by rw [← Hn.out]; omega) FO.out.pair] at h1
    subst h2
    exact ⟨q, c, by rw [h1, Hn.out], h3, h4, h5⟩)
  generalize hbytes (·.1) A = S at S1 S7
  generalize kB A.ps = K at S9 S10
  generalize hfam A (kB (kset A.ps)) = FM at S5
  clear FO
  go_wp2_with (first | (refine wpList_store_row rfl rfl 30 (.tmp 3) (.tmp 21) rfl w5.heap.size rfl 30 _ Y rfl bZ qZY qY oY ?_; rw [← HW6.out]) | (refine wpList_load_row rfl 30 (.tmp 3) rfl w5.heap.size rfl 30 Y (0, 0) _ y6 Tryd.underlying30 rfl qY ?_))
  clear bZ qZY oY HW6 y6
  generalize hg1 : w.heap.size = g1 at ST ⊢
  generalize hg3 : w5.heap.size = g3 at ST ⊢
  have HG1 : Hid (g1 = w.heap.size) := Lib.hid hg1.symm
  clear hg1 hg3
  have HX : Hid (∀ w', Below W6.heap.size W6 w' → w'.heap[g1]? = some (.cells D 25 (0, 0)) ∧ w'.heap[g3]? = some (.cells Y 30 (0, 0)) ∧ Rd encS w' q1 F.ps ∧ Rd encN w' q3 A.ps ∧ w'.cell? ⟨g3, 5, none⟩ = some (.slice q3 n c3) ∧ Below g1 w w') := Lib.hid (fun w' hb => by
    have h := ST.out.old hb
    have hy : w'.heap[g3]? = some (.cells Y 30 (0, 0)) := by rw [HDY.out.2]; exact h.bh
    exact ⟨by rw [HDY.out.1]; exact h.bd, hy, h.rd, h.rh.rd, by rw [cell_of_row w' g3 5 Y 30 (0, 0) hy]; exact YC.out, by rw [HG1.out]; exact h.b⟩)
  have R6 := Lib.hid ST.out.rh.rd
  clear ST
  refine (S1.out W6 R6.out).mono ?_
  rintro r w7 ⟨rfl, hb7⟩
  have B7 := Lib.hid hb7
  clear hb7 R6
  go_wp2_with fail
  refine (S7.out w7).mono ?_
  rintro r w8 ⟨q5, c5, rfl, hR8, hb8, hf8⟩
  obtain ⟨gr, rfl, hgr, hgr2⟩ : ∃ gr, q5 = some ⟨gr, 0, none⟩ ∧ w7.heap.size ≤ gr ∧ gr < w8.heap.size := by
    rcases hR8.shape with ⟨_, h0, _⟩ | ⟨g, e, hl, _⟩
    · have := Hn.out; rw [h0] at this; simp at this; omega
    · exact ⟨g, e, hf8 _ e, hl⟩
  obtain ⟨o, ho⟩ : ∃ o, o = 0 := ⟨_, rfl⟩
  have sV : (hcells A (some ⟨gr, 0, none⟩) c5).size = 7 := rfl
  have oV := hcells_oneA A (some ⟨gr, 0, none⟩) c5
  have vc5 : (hcells A (some ⟨gr, 0, none⟩) c5)[5]? = some (.slice (some ⟨gr, o, none⟩) n c5) := by rw [ho, Hn.out]; rfl
  obtain ⟨V5, hV⟩ : ∃ Y, Y = hcells A (some ⟨gr, 0, none⟩) c5 := ⟨_, rfl⟩
  rw [← hV] at sV oV vc5 ⊢
  have qV : (Tryd.prog.info? 30).map (·.size) = some V5.size := by rw [sV]; exact hinfo
  have qZV : (#[.int .i64 0, .int .i64 0, .string ⟨#[]⟩, .int .i64 0, .int .u64 0, .slice none 0 0, .int .i64 0] : Array Value).size = V5.size := by rw [sV]; rfl
  have bZ := heap_alloc_new w8 (.cells #[.int .i64 0, .int .i64 0, .string ⟨#[]⟩, .int .i64 0, .int .u64 0, .slice none 0 0, .int .i64 0] 30)
  obtain ⟨W9, hW9⟩ : ∃ W, W = (w8.alloc (.cells #[.int .i64 0, .int .i64 0, .string ⟨#[]⟩, .int .i64 0, .int .u64 0, .slice none 0 0, .int .i64 0] 30)).setRow w8.heap.size V5 := ⟨_, rfl⟩
  have b89 : Below w8.heap.size w8 W9 := by rw [hW9]; exact stored_below
  have b79 := hb8.trans (b89.mono hb8.size)
  have B9 : Hid (Below W6.heap.size W6 W9) := Lib.hid (B7.out.trans (b79.mono B7.out.size))
  have v9 : W9.heap[w8.heap.size]? = some (.cells V5 30 (0, 0)) := by rw [hW9]; exact setRow_heap _ _ _ _ _ _ bZ
  have HV : Hid (W9.heap[w8.heap.size]? = some (.cells V5 30 (0, 0)) ∧ Rw encN 39 W9 (some ⟨gr, 0, none⟩) c5 A.ps) := Lib.hid ⟨v9, hR8.old b89⟩
  have HB79 := Lib.hid b79
  have VC := Lib.hid vc5
  have Ho := Lib.hid ho
  have HGR := Lib.hid (And.intro hgr (And.intro hgr2 hb8.size))
  have y9 := (HX.out W9 B9.out).2.1
  have HW9 := Lib.hid hW9
  clear hV hW9 b89 b79 hR8 hb8 hf8 S7 ho vc5 v9 hgr hgr2
  go_wp2_with (first | (refine wpList_store_row rfl rfl 30 (.tmp 5) (.tmp 27) rfl w8.heap.size rfl 30 _ V5 rfl bZ qZV qV oV ?_; rw [← HW9.out]) | (refine wpList_load_row rfl 30 (.tmp 3) rfl g3 rfl 30 Y (0, 0) _ y9 Tryd.underlying30 rfl qY ?_))
  clear bZ qZV oV y9 HW9
  have HG4 : Hid (w7.heap.size ≤ w8.heap.size) := Lib.hid HGR.out.2.2
  generalize hg4 : w8.heap.size = g4 at HV HGR ⊢
  have HG4b : Hid (g4 = w8.heap.size) := Lib.hid hg4.symm
  clear hg4
  refine (S5.out W9 (HX.out W9 B9.out).2.2.2.1).mono ?_
  rintro r w10 ⟨rfl, hb10⟩
  have B10 := Lib.hid (B9.out.trans (hb10.mono B9.out.size))
  have HV10 : Hid (w10.heap[g4]? = some (.cells V5 30 (0, 0)) ∧ Rw encN 39 w10 (some ⟨gr, 0, none⟩) c5 A.ps ∧ Below w7.heap.size w7 w10) := Lib.hid ⟨(hb10.block _ (Array.getElem?_eq_some_iff.1 HV.out.1).1).trans HV.out.1, HV.out.2.old hb10, HB79.out.trans (hb10.mono HB79.out.size)⟩
  have y5 := (HX.out w10 B10.out).2.2.2.2.1
  clear hb10 HV B9 HB79
  go_wp2_with fail
  clear y5
  refine (S9.out w10 (HX.out w10 B10.out).2.2.2.1).mono ?_
  rintro r w11 ⟨rfl, hb11⟩
  have HV11 : Hid (w11.heap[g4]? = some (.cells V5 30 (0, 0)) ∧ Rw encN 39 w11 (some ⟨gr, 0, none⟩) c5 A.ps ∧ Below w7.heap.size w7 w11) := Lib.hid ⟨(hb11.block _ (Array.getElem?_eq_some_iff.1 HV10.out.1).1).trans HV10.out.1, HV10.out.2.1.old hb11, HV10.out.2.2.trans (hb11.mono HV10.out.2.2.size)⟩
  clear hb11 HV10 B10
  go_wp2_with fail
  refine (S10.out w11).mono ?_
  rintro r w12 ⟨q9, c9, rfl, hR12, hf12, hb12⟩
  obtain ⟨g9, rfl, hg9⟩ : ∃ g, q9 = some ⟨g, 0, none⟩ ∧ w11.heap.size ≤ g := by
    rcases hR12.shape with ⟨_, h0, _⟩ | ⟨g, e, hl, _⟩
    · have := Hn.out; rw [h0] at this; simp at this; omega
    · exact ⟨g, e, hf12 _ e⟩
  have L1 : Hid (∃ L', L'.length = n ∧ Rw encN 39 w12 (some ⟨gr, 0, none⟩) c5 L' ∧ w12.heap[g4]? = some (.cells V5 30 (0, 0)) ∧ Rw encN 39 w12 (some ⟨g9, 0, none⟩) c9 A.ps ∧ Below w7.heap.size w7 w12) := Lib.hid ⟨A.ps, Hn.out.symm, HV11.out.2.1.old hb12, (hb12.block _ (Array.getElem?_eq_some_iff.1 HV11.out.1).1).trans HV11.out.1, hR12, HV11.out.2.2.trans (hb12.mono HV11.out.2.2.size)⟩
  have HGS : Hid (w7.heap.size ≤ gr ∧ gr < g4 ∧ g4 < g9 ∧ w7.heap.size ≤ g9) := Lib.hid (by
    have h1 := (Array.getElem?_eq_some_iff.1 HV11.out.1).1
    have h2 := HGR.out
    exact ⟨h2.1, h2.2.1, by omega, by have := HV11.out.2.2.size; omega⟩)
  have c12 : w12.cell? ⟨g4, 5, none⟩ = some (.slice (some ⟨gr, o, none⟩) n c5) := by
    obtain ⟨_, _, _, h, _⟩ := L1.out
    rw [cell_of_row w12 g4 5 V5 30 (0, 0) h]; exact VC.out
  obtain ⟨o9, ho9⟩ : ∃ o, o = 0 := ⟨_, rfl⟩
  rw [show (some (⟨g9, 0, none⟩ : Addr)) = some ⟨g9, o9, none⟩ by rw [ho9]]
  have Ho9 := Lib.hid ho9
  clear hR12 hf12 hb12 HV11 hg9 HGR HG4 HG4b ho9
  go_wp2_with fail
  clear c12
  obtain ⟨ZA, hZA⟩ : ∃ Z, Z = (vals zid).toArray := ⟨_, rfl⟩
  have hzr : ∀ w, (zeroValue 39).run Tryd.prog w = .ok (.agg ZA) w := by rw [hZA]; exact zid_run
  have HZA := Lib.hid hZA
  clear hZA
  have ST1 : Hid (∀ (g i : Nat) (wr : World) (cq : Nat) (L' : List Nm), L'.length = n → i < n → w7.heap.size ≤ g → Rw encN 39 wr (some ⟨g, 0, none⟩) cq L' → Below w7.heap.size w7 wr → ∃ W4 L2, L2.length = n ∧ Rw encN 39 W4 (some ⟨g, 0, none⟩) cq L2 ∧ Mod (fun k => k = g) wr W4 ∧ Below w7.heap.size w7 W4 ∧
      ∀ (oo : Oper) (a : Act) (x y : Operand), oo.op = .store 39 x y → a.eval x = .pointer (some ⟨g, i * 32, none⟩) → a.eval y = .agg ZA → (execOp a.eval oo).run Tryd.prog wr = .ok .skip W4) := Lib.hid (fun g i wr cq L' hL hi hg hR hb => by
    obtain ⟨cur, hh, hsz, hrw⟩ := hR.setAt i (by omega) zN
    have hm : Mod (fun k => k = g) wr (wr.setRow g (cur.toList.take (i * 32) ++ encN.f zN ++ cur.toList.drop (i * 32 + 32)).toArray) := ((Mod.refl (fun _ => False) wr).setRow _).mono (fun i _ h => h.elim (fun h => h.elim) id)
    refine ⟨_, L'.set i zN, by rw [List.length_set]; exact hL, hrw, hm, ((Mod.of_below hb).trans hm (fun k hk h => by subst h; exact hg)).to_below (Nat.le_refl _) (fun k hk h => by omega), fun oo a x y h1 h2 h3 => ?_⟩
    rw [HZA.out] at h3
    have h := exec_store_at (P := Tryd.prog) (w := wr) 39 x y h1 g (i * 32) h2 39 cur (vals zid) h3 hh (by rw [vals_len]; exact hsz) (by rw [vals_len]; kernel_rfl) (vals_one zid)
    rw [vals_len] at h
    exact h)
  go_loopw [11, 42] (fun _ s42 wr => ∃ i : Nat, i ≤ n ∧ s42 = .int .i64 (i : Int) ∧ Hid (∃ L', L'.length = n ∧ Rw encN 39 wr (some ⟨gr, 0, none⟩) c5 L' ∧ wr.heap[g4]? = some (.cells V5 30 (0, 0)) ∧ Rw encN 39 wr (some ⟨g9, 0, none⟩) c9 A.ps ∧ Below w7.heap.size w7 wr)) (fun _ i _ => n - (intOf i).toNat)
  case atStart => exact ⟨0, Nat.zero_le _, rfl, L1⟩
  case round =>
    clear L1
    obtain ⟨i, hi, rfl, HB⟩ := hrel
    by_cases hlt : i < n
    · obtain ⟨L', hL', hR, hv, hR9, hb⟩ := HB.out
      obtain ⟨W4, L2, hl2, hr2, hm2, hb2, hst⟩ := ST1.out gr i wr c5 L' hL' hlt HGS.out.1 hR hb
      have hgs := HGS.out
      have HW4 : Hid (∃ L', L'.length = n ∧ Rw encN 39 W4 (some ⟨gr, 0, none⟩) c5 L' ∧ W4.heap[g4]? = some (.cells V5 30 (0, 0)) ∧ Rw encN 39 W4 (some ⟨g9, 0, none⟩) c9 A.ps ∧ Below w7.heap.size w7 W4) := Lib.hid ⟨L2, hl2, hr2, (hm2.block _ (Array.getElem?_eq_some_iff.1 hv).1 (by omega)).trans hv, hR9.kept hm2 (fun a e h => by cases e; have h2 : g9 = gr := h; omega), hb2⟩
      have HST : Hid (∀ (oo : Oper) (a : Act), oo.op = .store 39 (.tmp 49) (.tmp 48) → a.eval (.tmp 49) = .pointer (some ⟨gr, o + i * 32, none⟩) → a.eval (.tmp 48) = .agg ZA → (execOp a.eval oo).run Tryd.prog wr = .ok .skip W4) := Lib.hid (fun oo a h1 h2 h3 => hst oo a _ _ h1 (by rw [h2, Ho.out, Nat.zero_add]) h3)
      have cc : wr.cell? ⟨g4, 5, none⟩ = some (.slice (some ⟨gr, o, none⟩) n c5) := by rw [cell_of_row wr g4 5 V5 30 (0, 0) hv]; exact VC.out
      have i0 : (0 : Int) ≤ i := by omega
      have i1 : (i : Int) < n := by omega
      have Hlt := Lib.hid hlt
      clear hL' hR hv hR9 hb hl2 hr2 hm2 hb2 hst HB hlt hgs
      go_wp2_with (refine wpList_skip rfl rfl (HST.out _ _ rfl rfl rfl) ?_)
      have hlt := Hlt.out
      clear HST cc
      go_roundw
      case rel => exact ⟨i + 1, by omega, by go_num, HW4⟩
      case measure => simp [intOf]; omega
    · have i1 : ¬ (i : Int) < n := by omega
      have L2 : Hid (∃ L', L'.length = n ∧ Rw encN 39 wr (some ⟨g9, 0, none⟩) c9 L' ∧ Below w7.heap.size w7 wr) := Lib.hid (by obtain ⟨_, _, _, _, h9, hb⟩ := HB.out; exact ⟨A.ps, Hn.out.symm, h9, hb⟩)
      clear HB hlt
      go_wp2_with fail
      rename World => wa
      go_loopw [12, 53] (fun _ s53 wr => ∃ i : Nat, i ≤ n ∧ s53 = .int .i64 (i : Int) ∧ Hid (∃ L', L'.length = n ∧ Rw encN 39 wr (some ⟨g9, 0, none⟩) c9 L' ∧ Below w7.heap.size w7 wr)) (fun _ i _ => n - (intOf i).toNat)
      case atStart => exact ⟨0, Nat.zero_le _, rfl, L2⟩
      case round =>
        clear L2
        obtain ⟨j, hj, rfl, HB⟩ := hrel
        by_cases hlt : j < n
        · obtain ⟨L', hL', hR, hb⟩ := HB.out
          obtain ⟨W4, L2, hl2, hr2, hm2, hb2, hst⟩ := ST1.out g9 j wr c9 L' hL' hlt HGS.out.2.2.2 hR hb
          have HW4 : Hid (∃ L', L'.length = n ∧ Rw encN 39 W4 (some ⟨g9, 0, none⟩) c9 L' ∧ Below w7.heap.size w7 W4) := Lib.hid ⟨L2, hl2, hr2, hb2⟩
          have HST : Hid (∀ (oo : Oper) (a : Act), oo.op = .store 39 (.tmp 59) (.tmp 58) → a.eval (.tmp 59) = .pointer (some ⟨g9, o9 + j * 32, none⟩) → a.eval (.tmp 58) = .agg ZA → (execOp a.eval oo).run Tryd.prog wr = .ok .skip W4) := Lib.hid (fun oo a h1 h2 h3 => hst oo a _ _ h1 (by rw [h2, Ho9.out, Nat.zero_add]) h3)
          have j0 : (0 : Int) ≤ j := by omega
          have j1 : (j : Int) < n := by omega
          have Hlt := Lib.hid hlt
          clear hL' hR hb hl2 hr2 hm2 hb2 hst HB hlt
          go_wp2_with (refine wpList_skip rfl rfl (HST.out _ _ rfl rfl rfl) ?_)
          have hlt := Hlt.out
          clear HST
          go_roundw
          case rel => exact ⟨j + 1, by omega, by go_num, HW4⟩
          case measure => simp [intOf]; omega
        · have j1 : ¬ (j : Int) < n := by omega
          have BR : Hid (Below W6.heap.size W6 wr) := Lib.hid (by obtain ⟨_, _, _, hb⟩ := HB.out; exact B7.out.trans (hb.mono B7.out.size))
          have h0 := HX.out wr BR.out
          have d0 := h0.1
          have y0 := h0.2.1
          have R0 := Lib.hid h0.2.2
          clear HB hlt h0
          go_wp2_with (first | (refine wpList_load_row rfl 30 (.tmp 3) rfl g3 rfl 30 Y (0, 0) _ y0 Tryd.underlying30 rfl qY ?_) | (refine wpList_load_row rfl 25 (.tmp 1) rfl g1 rfl 25 D (0, 0) _ d0 Tryd.underlying25 rfl qD ?_))
          refine (S8.out wr R0.out.2.1 R0.out.1).mono ?_
          rintro r w13 ⟨rfl, hb13⟩
          have B13 := Lib.hid (BR.out.trans (hb13.mono BR.out.size))
          have y13 := (HX.out w13 B13.out).2.1
          clear hb13 BR d0 y0 R0
          go_wp2_with (refine wpList_load_rowG rfl 30 (.tmp 3) rfl g3 rfl 30 Y (0, 0) _ y13 Tryd.underlying30 rfl qY ?_)
          refine (S1.out w13 (HX.out w13 B13.out).2.2.2.1).mono ?_
          rintro r w14 ⟨rfl, hb14⟩
          have B14 := Lib.hid (B13.out.trans (hb14.mono B13.out.size))
          have y14 := (HX.out w14 B14.out).2.1
          clear hb14 B13 y13
          go_wp2_with (refine wpList_load_rowG rfl 30 (.tmp 3) rfl g3 rfl 30 Y (0, 0) _ y14 Tryd.underlying30 rfl qY ?_)
          refine (S5.out w14 (HX.out w14 B14.out).2.2.2.1).mono ?_
          rintro r w15 ⟨rfl, hb15⟩
          have B15 := Lib.hid (B14.out.trans (hb15.mono B14.out.size))
          have y15 := (HX.out w15 B15.out).2.2.2.2.1
          clear hb15 B14 y14
          go_wp2_with fail
          clear y15
          refine (S9.out w15 (HX.out w15 B15.out).2.2.2.1).mono ?_
          rintro r w16 ⟨rfl, hb16⟩
          have HB16 := Lib.hid (HX.out w16 (B15.out.trans (hb16.mono B15.out.size))).2.2.2.2.2
          clear hb16 B15
          go_wp2_with fail
          go_ret
          exact ⟨rfl, HG1.out ▸ HB16.out⟩
end Go.Proofs.YtiegakeacghnfaaDoor
