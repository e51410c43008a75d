/- The law TableMore. -/
import Derived.Test.YthmgigojgagpeaaTP
namespace Go.Proofs.Ythmgigojgagpeaa
open Go.RowKit

theorem IntsAt.take {w : World} {ao : Option Addr} {S : List Int} (h : IntsAt w ao S) (n : Nat) : IntsAt w ao (S.take n) := by
  intro j hj
  have hj2 : j < S.length := by rw [List.length_take] at hj; omega
  obtain ⟨bs, off, e, hlt, c1⟩ := h j hj2
  refine ⟨bs, off, e, hlt, ?_⟩
  rw [List.getElem_take]; exact c1
/-- The law's table: its entries, its box. -/
structure LawT (w : World) (E : List (Nat × Nat)) (q : Option Addr) (c g : Nat) (A : Array Value) (wr : World) : Prop where
  row : Pr 46 wr q c E
  old : ∀ a, q = some a → a.block < g
  box : wr.heap[g]? = some (.cells A 28 (0, 0))
  m : Below w.heap.size w wr
theorem LawT.below {w : World} {E : List (Nat × Nat)} {q : Option Addr} {c g : Nat} {A : Array Value} {wr w' : World} (h : LawT w E q c g A wr) (hb : Below wr.heap.size wr w') : LawT w E q c g A w' :=
  ⟨h.row.old hb, h.old, (hb.block _ (Array.getElem?_eq_some_iff.1 h.box).1).trans h.box, h.m.trans (hb.mono h.m.size)⟩

set_option maxRecDepth 20000 in
set_option maxHeartbeats 8000000 in
theorem more_walk (ao : Option Addr) (cap : Nat) (L : List (Int × Int)) (bo : Option Addr) (capS : Nat) (S : List Int) (m : Int) (w : World) (hL : EntsI w ao L) (hcL : L.length ≤ cap) (hS : IntsAt w bo S) (hcS : S.length ≤ capS) :
    Calls Try.prog 5 #[.slice ao L.length cap, .slice bo S.length capS, .int .i64 m] w fun r w' => r = .returned (.bool true) ∧ Below w.heap.size w w' := by
  have HL := Lib.hid hL
  have HS := Lib.hid hS
  obtain ⟨nS, hnS⟩ : ∃ n, n = S.length := ⟨_, rfl⟩
  obtain ⟨nL, hnL⟩ : ∃ n, n = L.length := ⟨_, rfl⟩
  have Hright := Lib.hid (fun w h => right_any ao cap L w h hcL)
  rw [← hnS] at hcS
  rw [← hnL] at Hright
  rw [← hnS, ← hnL]
  have HnS := Lib.hid hnS
  obtain ⟨Z, hZ⟩ : ∃ Z, Z = (nums .i64 (List.replicate 64 0)).toArray := ⟨_, rfl⟩
  have hz : ∀ w : World, (zeroValue 28).run Try.prog w = .ok (.agg Z) w := by rw [hZ]; exact fun _ => by kernel_rfl
  have hZs : Z.size = 64 := by rw [hZ]; simp [nums_len]
  clear hL hS hnS hnL hcL hZ
  go_enter Try.func5, Try.ntmps5
  go_wp2_with fail
  refine (awake_any _).mono ?_
  rintro r w1 ⟨rfl, hb1⟩
  go_wp2_with fail
  refine (Hright.out _ (HL.out.old hb1)).mono ?_
  rintro r w2 ⟨E, q, c, rfl, hE, hok, hne, hb2⟩
  have hB2 := hb1.trans (hb2.mono hb1.size)
  have hown := fun w h => own_any q c E w h hok.len
  have hall := Lib.hid (sig_all hok hne)
  have htab := isTab_zero.wth hok
  have hlen := hok.len
  obtain ⟨k, hk⟩ : ∃ k, k = E.length := ⟨_, rfl⟩
  rw [← hk] at hown hlen ⊢
  have Hown := Lib.hid hown
  have Hok := Lib.hid hok
  have Hne := Lib.hid hne
  have Hk := Lib.hid hk
  have Htab := Lib.hid htab
  clear hb1 hb2 hown hok hne hk htab
  go_wp2_with fail
  refine (Hown.out _ hE.ents).mono ?_
  rintro r w3 ⟨q3, c3, rfl, hE3, hb3⟩
  have hE2 := hE.old hb3
  have hB3 := hB2.trans (hb3.mono hB2.size)
  clear hb3 hE hB2
  go_wp2_with fail
  have hnew := new_any q3 c3 E w3 hE3.ents Hok.out Hok.out.len Hne.out
  rw [← Hk.out] at hnew
  refine hnew.mono ?_
  rintro r w4 ⟨rfl, hb4⟩
  have hE4 := hE2.old hb4
  have hB4 := hB3.trans (hb4.mono hB3.size)
  clear hnew hb4 hE2 hE3 hB3 Hown
  unfold tval
  obtain ⟨A, hA⟩ : ∃ A, A = (nums .i64 (wth (List.replicate 64 0) E)).toArray := ⟨_, rfl⟩
  have hAs : A.size = 64 := Htab.out.row hA
  have h1A : Hid (∀ v ∈ A.toList, v.oneCell' = true) := Lib.hid (by rw [hA]; intro v hv; exact nums_one .i64 _ v (by simpa using hv))
  rw [← hA]
  have HA := Lib.hid hA
  clear hA
  have hr1 : (w4.alloc (.cells Z 28)).heap[w4.heap.size]? = some (.cells Z 28 (0, 0)) := heap_alloc_new _ _
  have hT : LawT w E q c w4.heap.size A ((w4.alloc (.cells Z 28)).setRow w4.heap.size A) := by
    refine ⟨?_, ?_, setRow_heap _ w4.heap.size Z A 28 (0, 0) hr1, ((Mod.of_below (hB4.alloc hB4.size (.cells Z 28))).setRow A).to_below (Nat.le_refl _) (by have := hB4.size; rintro k hk (h | h) <;> omega)⟩
    · refine (hE4.old ((Below.refl _ _).alloc (Nat.le_refl _) (.cells Z 28))).kept ((Mod.refl (fun _ => False) _).setRow (g := w4.heap.size) A) ?_
      rintro a rfl (h | h)
      · exact h
      · have h' : a.block = w4.heap.size := h
        rcases hE4.shape with ⟨e, _⟩ | ⟨g', e, hl, _⟩
        · cases e
        · cases e; exact Nat.lt_irrefl _ (h' ▸ hl)
    · rintro a rfl
      rcases hE4.shape with ⟨e, _⟩ | ⟨g', e, hl, _⟩
      · cases e
      · cases e; exact hl
  clear hE4 hB4
  go_upto_region 5 with (refine wpList_store_row rfl rfl 28 (.tmp 8) (.tmp 22) rfl w4.heap.size rfl 28 Z A rfl hr1 ?s2 ?s3 ?s4 ?_)
  case s2 => rw [hZs, hAs]
  case s3 => rw [hAs]; kernel_rfl
  case s4 => exact h1A.out
  clear hr1 hz hZs
  generalize (w4.alloc (.cells Z 28)).setRow w4.heap.size A = W at hT ⊢
  generalize w4.heap.size = g at hT ⊢
  go_upto_if 26 with fail
  go_cut [1] (fun s1 wx => ∃ S2 : List Int, s1 = .slice bo S2.length capS ∧ S2.length ≤ 70 ∧ S2.length ≤ capS ∧ Hid (IntsAt w bo S2) ∧ wx = W)
  case first =>
    by_cases h70 : 70 < nS
    · have b1 : (70 : Int) < nS := by omega
      have b2 : (70 : Int) ≤ capS := by omega
      have b3 : 70 ≤ capS := by omega
      have hS2 : Hid (IntsAt w bo (S.take 70)) := Lib.hid (HS.out.take 70)
      have hl2 : (S.take 70).length = 70 := by rw [List.length_take, ← HnS.out]; omega
      go_wp2_with fail
      go_meet
      exact ⟨S.take 70, (by rw [hl2]), by omega, by omega, hS2, rfl⟩
    · have b1 : ¬ (70 : Int) < nS := by omega
      have hl2 := HnS.out
      go_wp2_with fail
      go_meet
      exact ⟨S, rfl, by omega, by omega, HS, rfl⟩
  case rest =>
    obtain ⟨S2, rfl, h70, hc2, hS2, rfl⟩ := hcut
    clear HS HnS hcS
    obtain ⟨n, hn⟩ : ∃ n, n = S2.length := ⟨_, rfl⟩
    rw [← hn] at h70 hc2 ⊢
    have Hn := Lib.hid hn
    clear hn
    rename World => W0
    have hK : AccI 3 W0 0 [] (some ⟨W0.heap.size, 0, none⟩) 0 (W0.alloc (.cells #[] 3)) :=
      ⟨Ri.of_row (heap_alloc_new _ _) (Nat.le_refl _) (Nat.zero_le _) rfl rfl, rfl, (fun a e => by cases e; exact Nat.le_refl _), (Below.refl _ _).alloc (Nat.le_refl _) _⟩
    have hYm : IntsAt (W0.alloc (.cells #[] 3)) bo S2 := hS2.out.old (hT.m.trans (hK.m.mono hT.m.size))
    go_wp2_with (at_builtin; (first | (refine wpList_pushI rfl _ _ 23 3 _ rfl Try.underlying23 info_int rfl (some ⟨W0.heap.size, 0, none⟩) 0 0 [] rfl rfl hK.s bo n capS S2 Hn.out.symm rfl hYm (by omega) ?_; intro q5 c5 W5 hP; have hK5 := hK.push hP; rw [List.nil_append, Nat.zero_add, ← Hn.out] at hK5; have hK6 := hK5.below ((Below.refl _ _).alloc (Nat.le_refl _) (.cells #[.int .i64 m] 3)); clear hP hK hYm) | (refine wpList_pushI rfl _ _ 23 3 _ rfl Try.underlying23 info_int rfl q5 c5 n S2 Hn.out.symm rfl hK6.s (some ⟨W5.heap.size, 0, none⟩) 1 1 [m] rfl rfl (ints1 _ _ _) (by omega) ?_; intro q7 c7 W7 hP)))
    have hK7 := hK6.push hP
    have hT7 := hT.below hK7.m
    have hmore := hK7.s
    rw [show ([m] : List Int).length = 1 from rfl] at hK7
    have hB7 := hK7.m
    clear hP hK5 hK6 hK7
    have HS2 : Hid (IntsAt W7 bo S2) := Lib.hid (hS2.out.old hT7.m)
    have hQ : AccI 3 W7 0 [] none 0 W7 := ⟨Ri.empty _ _, rfl, (fun a e => by cases e), Below.refl _ _⟩
    clear hT hB7 hS2
    go_wp2_with fail
    go_loopw [11, 37] (fun s11 s37 wr => ∃ (j : Nat) (D : List Int) (p : Option Addr) (d : Nat), j ≤ k ∧ s11 = .slice p j d ∧ s37 = .int .i64 (j : Int) ∧ Hid (D = (E.take j).map fun e => (e.1 : Int)) ∧ AccI 3 W7 j D p d wr) (fun _ s37 _ => k - (intOf s37).toNat)
    case atStart => exact ⟨0, [], none, 0, by omega, rfl, rfl, Lib.hid rfl, hQ⟩
    case round =>
      clear hQ
      obtain ⟨j, D, p, d, hj, rfl, rfl, hD, hR⟩ := hrel
      by_cases hjk : j < k
      · have hjl : j < E.length := by have := Hk.out; omega
        obtain ⟨bs, off, rfl, hbs, c1, c2⟩ := (hT7.row.ents.old hR.m) j hjl
        have hD2 : Hid (D ++ [(E[j].1 : Int)] = (E.take (j + 1)).map fun e => (e.1 : Int)) := Lib.hid (by rw [hD.out, ← List.take_append_getElem hjl, List.map_append]; rfl)
        generalize E[j].1 = a at c1 hD2
        generalize E[j].2 = b at c2
        have j1 : (j : Int) < k := by omega
        have j0 : (0 : Int) ≤ j := by omega
        have hR2 := (hR.below ((Below.refl _ wr).alloc (Nat.le_refl _) (.cells #[.int .i64 (a : Int), .int .i64 (b : Int)] 46)))
        have hR3 := hR2.below ((Below.refl _ _).alloc (Nat.le_refl _) (.cells #[.int .i64 (a : Int)] 3))
        have hl3 := Lib.hid hR3.len
        clear hR hR2 hD
        go_wp2_with (at_builtin; refine wpList_pushI rfl _ _ 23 3 _ rfl Try.underlying23 info_int rfl p d j D hl3.out rfl hR3.s (some ⟨wr.heap.size + 1, 0, none⟩) 1 1 [(a : Int)] rfl rfl (by have := ints1 (wr.alloc (.cells #[.int .i64 (a : Int), .int .i64 (b : Int)] 46)) 3 (a : Int); rw [World.size_alloc] at this; exact this) (by omega) ?_; intro p2 d2 w8 hP)
        have hR8 := hR3.push hP
        clear hP hR3 hl3
        go_wp2_with fail
        go_roundw
        case rel => exact ⟨j + 1, D ++ [(a : Int)], p2, d2, by omega, rfl, by go_num, hD2, hR8⟩
        case measure => simp [intOf]; omega
      · obtain rfl : j = k := by omega
        have hT9 := hT7.below hR.m
        have hD3 : D = E.map fun e => (e.1 : Int) := by rw [hD.out, List.take_of_length_le (by rw [← Hk.out]; exact Nat.le_refl _)]
        have hDl := hR.len
        have hIa : Hid (IntsAt wr bo S2) := Lib.hid (HS2.out.old hR.m)
        have hIm : Hid (IntsAt wr q7 (S2 ++ [m])) := Lib.hid (hmore.ints.old hR.m)
        have hIl : Hid (IntsAt wr p D) := Lib.hid hR.s.ints
        obtain ⟨b, hb⟩ : ∃ b, b = decide (2 * tsum (wth (List.replicate 64 0) E) < 3 * tsum (sig (wth (List.replicate 64 0) E) S2)) := ⟨_, rfl⟩
        have Hq1 : Hid (∀ w', Below wr.heap.size wr w' → Calls Try.prog 10 #[.agg A, .slice bo n capS] w' fun r w'' => r = .returned (.bool b) ∧ Below w'.heap.size w' w'') := Lib.hid (by
          intro w' hb'
          have := quorum_any (wth (List.replicate 64 0) E) bo capS S2 w' Htab.out (hIa.out.old hb') (by rw [← Hn.out]; omega)
          unfold tval at this; rw [← HA.out, ← Hn.out, ← hb] at this; exact this)
        have Hq2 : Hid (b = true → ∀ w', Below wr.heap.size wr w' → Calls Try.prog 10 #[.agg A, .slice q7 (n + 1) c7] w' fun r w'' => r = .returned (.bool true) ∧ Below w'.heap.size w' w'') := Lib.hid (by
          intro hbt w' hb'
          have := quorum_any (wth (List.replicate 64 0) E) q7 c7 (S2 ++ [m]) w' Htab.out (hIm.out.old hb') (by rw [List.length_append, ← Hn.out, List.length_singleton]; omega)
          unfold tval at this
          rw [← HA.out, List.length_append, ← Hn.out, List.length_singleton, decide_eq_true (by rw [hbt] at hb; have h1 := of_decide_eq_true hb.symm; have h2 := sig_mono Htab.out.len S2 m; omega)] at this
          exact this)
        have Hq3 : Hid (∀ w', Calls Try.prog 10 #[.agg A, .slice none 0 0] w' fun r w'' => r = .returned (.bool false) ∧ Below w'.heap.size w' w'') := Lib.hid (by
          intro w'
          have := quorum_any (wth (List.replicate 64 0) E) none 0 [] w' Htab.out (fun j h => by simp at h) (by decide)
          unfold tval at this
          rw [← HA.out, sig_none, decide_eq_false (by omega)] at this
          exact this)
        have Hq4 : Hid (∀ w', Below wr.heap.size wr w' → Calls Try.prog 10 #[.agg A, .slice p j d] w' fun r w'' => r = .returned (.bool true) ∧ Below w'.heap.size w' w'') := Lib.hid (by
          intro w' hb'
          have := quorum_any (wth (List.replicate 64 0) E) p d D w' Htab.out (hIl.out.old hb') (by rw [hDl]; omega)
          unfold tval at this
          rw [← HA.out, hDl, hD3, decide_eq_true hall.out] at this
          exact this)
        clear hb hR hD hD3 hDl hIa hIm hIl hT7 hmore HS2
        have hbx := hT9.box
        have hB9 := hT9.m
        have hgl := Lib.hid (Array.getElem?_eq_some_iff.1 hbx).1
        have Hsz : Hid ((Try.prog.info? 28).map (·.size) = some A.size) := Lib.hid (by rw [hAs]; kernel_rfl)
        clear hT9
        cases b with
        | false =>
          clear Hq2
          go_wp2_with (refine wpList_load_rowG rfl 28 (.tmp 8) rfl g rfl 28 A (0, 0) _ hbx Try.underlying28 rfl Hsz.out ?_)
          refine (Hq1.out _ (Below.refl _ _)).mono ?_
          rintro r v1 ⟨rfl, hv1⟩
          have hx1 := (hv1.block _ hgl.out).trans hbx
          clear hbx
          go_wp2_with (refine wpList_load_rowG rfl 28 (.tmp 8) rfl g rfl 28 A (0, 0) _ hx1 Try.underlying28 rfl Hsz.out ?_)
          refine (Hq3.out _).mono ?_
          rintro r v2 ⟨rfl, hv2⟩
          have hV2 := hv1.trans (hv2.mono hv1.size)
          have hx2 := (hV2.block _ hgl.out).trans (((hv1.block _ hgl.out).symm.trans hx1))
          clear hx1 hv1 hv2
          go_wp2_with (refine wpList_load_rowG rfl 28 (.tmp 8) rfl g rfl 28 A (0, 0) _ hx2 Try.underlying28 rfl Hsz.out ?_)
          refine (Hq4.out _ hV2).mono ?_
          rintro r v3 ⟨rfl, hv3⟩
          have hV3 := hB9.trans ((hV2.trans (hv3.mono hV2.size)).mono hB9.size)
          go_wp2_with fail
          go_ret
          exact ⟨rfl, hV3⟩
        | true =>
          go_wp2_with (refine wpList_load_rowG rfl 28 (.tmp 8) rfl g rfl 28 A (0, 0) _ hbx Try.underlying28 rfl Hsz.out ?_)
          refine (Hq1.out _ (Below.refl _ _)).mono ?_
          rintro r v1 ⟨rfl, hv1⟩
          have hx1 := (hv1.block _ hgl.out).trans hbx
          clear hbx
          go_wp2_with (refine wpList_load_rowG rfl 28 (.tmp 8) rfl g rfl 28 A (0, 0) _ hx1 Try.underlying28 rfl Hsz.out ?_)
          refine (Hq2.out trivial _ hv1).mono ?_
          rintro r v2 ⟨rfl, hv2⟩
          have hV2 := hv1.trans (hv2.mono hv1.size)
          have hx2 := (hV2.block _ hgl.out).trans (((hv1.block _ hgl.out).symm.trans hx1))
          clear hx1 hv1 hv2
          go_wp2_with (refine wpList_load_rowG rfl 28 (.tmp 8) rfl g rfl 28 A (0, 0) _ hx2 Try.underlying28 rfl Hsz.out ?_)
          refine (Hq3.out _).mono ?_
          rintro r v3 ⟨rfl, hv3⟩
          have hV3 := hV2.trans (hv3.mono hV2.size)
          have hx3 := (hV3.block _ hgl.out).trans (((hV2.block _ hgl.out).symm.trans hx2))
          clear hx2 hV2 hv3
          go_wp2_with (refine wpList_load_rowG rfl 28 (.tmp 8) rfl g rfl 28 A (0, 0) _ hx3 Try.underlying28 rfl Hsz.out ?_)
          refine (Hq4.out _ hV3).mono ?_
          rintro r v4 ⟨rfl, hv4⟩
          have hV4 := hB9.trans ((hV3.trans (hv4.mono hV3.size)).mono hB9.size)
          go_wp2_with fail
          go_ret
          exact ⟨rfl, hV4⟩
end Go.Proofs.Ythmgigojgagpeaa
