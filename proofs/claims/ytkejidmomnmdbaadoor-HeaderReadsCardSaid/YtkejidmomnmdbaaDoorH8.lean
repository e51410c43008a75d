/- A header is taken. -/
import Derived.Test.YtkejidmomnmdbaaDoorH7
namespace Go.Proofs.YtkejidmomnmdbaaDoor
open Go.RowKit

set_option maxRecDepth 20000 in
set_option maxHeartbeats 4000000 in
theorem take_any (b : Nat) (s : List UInt8) (w : World) (h : InAt 175 w b s 0) (hl : s.length ≤ 1000000000) :
    Calls Tryd.prog 97 #[.pointer (some ⟨b, 0, none⟩)] w fun r w' => ∃ q c, r = .returned (.agg (hcells (takeS s).1 q c)) ∧ Rw encN 25 w' q c (takeS s).1.ps ∧ InAt 175 w' b (takeS s).2.1 (takeS s).2.2 ∧ Mod (· = b) w w' ∧ ∀ a, q = some a → w.heap.size ≤ a.block := by
  obtain ⟨⟨x1, s1, e1⟩, h1⟩ : ∃ p, p = numS s 0 4611686018427387904 := ⟨_, rfl⟩
  have l1 : s1.length ≤ s.length := by have := numS_len s 0 4611686018427387904; rw [← h1] at this; exact this
  obtain ⟨⟨x2, s2, e2⟩, h2⟩ : ∃ p, p = numS s1 e1 4611686018427387904 := ⟨_, rfl⟩
  have l2 : s2.length ≤ s1.length := by have := numS_len s1 e1 4611686018427387904; rw [← h2] at this; exact this
  obtain ⟨⟨x3, s3, e3⟩, h3⟩ : ∃ p, p = textS s2 e2 8 := ⟨_, rfl⟩
  have l3 : s3.length ≤ s2.length := by have := textS_len s2 e2 8; rw [← h3] at this; exact this
  obtain ⟨⟨x4, s4, e4⟩, h4⟩ : ∃ p, p = numS s3 e3 4611686018427387904 := ⟨_, rfl⟩
  have l4 : s4.length ≤ s3.length := by have := numS_len s3 e3 4611686018427387904; rw [← h4] at this; exact this
  obtain ⟨⟨x5, s5, e5⟩, h5⟩ : ∃ p, p = numS s4 e4 4611686018427387904 := ⟨_, rfl⟩
  have l5 : s5.length ≤ s4.length := by have := numS_len s4 e4 4611686018427387904; rw [← h5] at this; exact this
  obtain ⟨⟨x6, s6, e6⟩, h6⟩ : ∃ p, p = numS s5 e5 5 := ⟨_, rfl⟩
  have l6 : s6.length ≤ s5.length := by have := numS_len s5 e5 5; rw [← h6] at this; exact this
  have N1 : Hid (∀ w, InAt 175 w b s 0 → Calls Tryd.prog 135 #[.pointer (some ⟨b, 0, none⟩), .int .i64 4611686018427387904] w (InPost 175 b (.int .i64 x1) (s1, e1) w)) := Lib.hid (fun w hi => by have := innum_any b s 0 4611686018427387904 w hi (by omega); rw [← h1] at this; exact this)
  have N2 : Hid (∀ w, InAt 175 w b s1 e1 → Calls Tryd.prog 135 #[.pointer (some ⟨b, 0, none⟩), .int .i64 4611686018427387904] w (InPost 175 b (.int .i64 x2) (s2, e2) w)) := Lib.hid (fun w hi => by have := innum_any b s1 e1 4611686018427387904 w hi (by omega); rw [← h2] at this; exact this)
  have N3 : Hid (∀ w, InAt 175 w b s2 e2 → Calls Tryd.prog 78 #[.pointer (some ⟨b, 0, none⟩), .int .i64 8] w (InPost 175 b (.string ⟨x3.toArray⟩) (s3, e3) w)) := Lib.hid (fun w hi => by have := intext_any b s2 e2 8 w hi (by omega); rw [← h3] at this; exact this)
  have N4 : Hid (∀ w, InAt 175 w b s3 e3 → Calls Tryd.prog 135 #[.pointer (some ⟨b, 0, none⟩), .int .i64 4611686018427387904] w (InPost 175 b (.int .i64 x4) (s4, e4) w)) := Lib.hid (fun w hi => by have := innum_any b s3 e3 4611686018427387904 w hi (by omega); rw [← h4] at this; exact this)
  have N5 : Hid (∀ w, InAt 175 w b s4 e4 → Calls Tryd.prog 135 #[.pointer (some ⟨b, 0, none⟩), .int .i64 4611686018427387904] w (InPost 175 b (.int .i64 x5) (s5, e5) w)) := Lib.hid (fun w hi => by have := innum_any b s4 e4 4611686018427387904 w hi (by omega); rw [← h5] at this; exact this)
  have N6 : Hid (∀ w, InAt 175 w b s5 e5 → Calls Tryd.prog 135 #[.pointer (some ⟨b, 0, none⟩), .int .i64 5] w (InPost 175 b (.int .i64 x6) (s6, e6) w)) := Lib.hid (fun w hi => by have := innum_any b s5 e5 5 w hi (by omega); rw [← h6] at this; exact this)
  have lo5 := numS_lo s4 e4 4611686018427387904
  have hi5 := numS_hi s4 e4 4611686018427387904 (by omega)
  rw [← h5] at lo5 hi5
  obtain ⟨p5, rfl⟩ : ∃ n : Nat, x5 = n := ⟨x5.toNat, by simp only at lo5; omega⟩
  have c5 : IntKind.u64.wrap (p5 : Int) = (p5 : Int) := by rw [IntKind.wrap_u64]; simp only at hi5; omega
  have lo6 := numS_lo s5 e5 5
  have hi6 := numS_hi s5 e5 5 (by decide)
  rw [← h6] at lo6 hi6
  obtain ⟨n, rfl⟩ : ∃ n : Nat, x6 = n := ⟨x6.toNat, by simp only at lo6; omega⟩
  have hn5 : n ≤ 5 := by simp only at hi6; omega
  obtain ⟨⟨x8, s8, e8⟩, h8⟩ : ∃ p, p = numS (parS n s6 e6).2.1 (parS n s6 e6).2.2 4611686018427387904 := ⟨_, rfl⟩
  have l7 := parS_short n s6 e6
  have N8 : Hid (∀ w, InAt 175 w b (parS n s6 e6).2.1 (parS n s6 e6).2.2 → Calls Tryd.prog 135 #[.pointer (some ⟨b, 0, none⟩), .int .i64 4611686018427387904] w (InPost 175 b (.int .i64 x8) (s8, e8) w)) := Lib.hid (fun w hi => by have := innum_any b _ _ 4611686018427387904 w hi (by omega); rw [← h8] at this; exact this)
  have hfin : takeS s = (⟨x1, x2, x3, x4, p5, (parS n s6 e6).1, x8⟩, s8, e8) := by
    simp only [takeS, ← h1, ← h2, ← h3, ← h4, ← h5, ← h6, Int.toNat_natCast, ← h8]
  rw [hfin]
  have L6 : Hid (s6.length ≤ 1000000000) := Lib.hid (by omega)
  obtain ⟨W0, hW0⟩ : ∃ W0, W0 = (w.alloc (.cells #[.int .i64 0, .int .i64 0, .string ⟨#[]⟩, .int .i64 0, .int .u64 0, .slice none 0 0, .int .i64 0] 43)).alloc (.cells #[.int .i64 0, .int .i64 0, .string ⟨#[]⟩, .int .i64 0, .int .u64 0, .slice none 0 0, .int .i64 0] 43) := ⟨_, rfl⟩
  obtain ⟨g, hg⟩ : ∃ g, g = w.heap.size + 1 := ⟨_, rfl⟩
  have st : TkSt w b g #[.int .i64 0, .int .i64 0, .string ⟨#[]⟩, .int .i64 0, .int .u64 0, .slice none 0 0, .int .i64 0] s 0 W0 := by
    have hlt := h.lt
    refine ⟨?_, ?_, ?_, hlt, by omega, #[.int .i64 0, .int .i64 0, .string ⟨#[]⟩, .int .i64 0, .int .u64 0, .slice none 0 0, .int .i64 0], rfl, ?_⟩
    · rw [hW0, hg]; have := heap_alloc_new (w.alloc (.cells #[.int .i64 0, .int .i64 0, .string ⟨#[]⟩, .int .i64 0, .int .u64 0, .slice none 0 0, .int .i64 0] 43)) (.cells #[.int .i64 0, .int .i64 0, .string ⟨#[]⟩, .int .i64 0, .int .u64 0, .slice none 0 0, .int .i64 0] 43); simpa using this
    · rw [hW0]; unfold InAt; rw [Below.heap_alloc _ _ _ (by simp; omega), Below.heap_alloc _ _ _ hlt]; exact h
    · rw [hW0]; exact ((Mod.refl _ w).alloc _).alloc _
    · rw [hW0, Below.heap_alloc _ _ _ (by simp)]; exact heap_alloc_new w _
  have HW0 := Lib.hid hW0
  have Hg := Lib.hid hg
  clear h1 h2 h3 h4 h5 h6 h8 hfin l1 l2 l3 l4 l5 l6 l7 lo5 hi5 lo6 hi6 hl hW0 hg h
  go_enter Tryd.func97, Tryd.ntmps97
  go_wp2_with fail
  rw [← HW0.out, ← Hg.out]
  refine (N1.out _ st.inp).mono ?_
  rintro r w1 hp
  obtain ⟨rfl, sa⟩ := st.call hp
  clear hp st N1
  have c0 : w1.cell? ⟨g, 0, none⟩ = some (.int .i64 0) := sa.cell 0
  have f0 := sa.froz 0
  go_wp2_with fail
  have sb : TkSt w b g #[.int .i64 x1, .int .i64 0, .string ⟨#[]⟩, .int .i64 0, .int .u64 0, .slice none 0 0, .int .i64 0] s1 e1 (w1.setCell ⟨g, 0, none⟩ (.int .i64 x1)) := sa.put 0 _
  generalize w1.setCell ⟨g, 0, none⟩ (.int .i64 x1) = v1 at sb ⊢
  clear c0 f0 sa
  refine (N2.out _ sb.inp).mono ?_
  rintro r w1 hp
  obtain ⟨rfl, sa⟩ := sb.call hp
  clear hp sb N2
  have c0 : w1.cell? ⟨g, 1, none⟩ = some (.int .i64 0) := sa.cell 1
  have f0 := sa.froz 1
  go_wp2_with fail
  have sb : TkSt w b g #[.int .i64 x1, .int .i64 x2, .string ⟨#[]⟩, .int .i64 0, .int .u64 0, .slice none 0 0, .int .i64 0] s2 e2 (w1.setCell ⟨g, 1, none⟩ (.int .i64 x2)) := sa.put 1 _
  generalize w1.setCell ⟨g, 1, none⟩ (.int .i64 x2) = v2 at sb ⊢
  clear c0 f0 sa
  refine (N3.out _ sb.inp).mono ?_
  rintro r w1 hp
  obtain ⟨rfl, sa⟩ := sb.call hp
  clear hp sb N3
  have c0 : w1.cell? ⟨g, 2, none⟩ = some (.string ⟨#[]⟩) := sa.cell 2
  have f0 := sa.froz 2
  go_wp2_with fail
  have sb : TkSt w b g #[.int .i64 x1, .int .i64 x2, .string ⟨x3.toArray⟩, .int .i64 0, .int .u64 0, .slice none 0 0, .int .i64 0] s3 e3 (w1.setCell ⟨g, 2, none⟩ (.string ⟨x3.toArray⟩)) := sa.put 2 _
  generalize w1.setCell ⟨g, 2, none⟩ (.string ⟨x3.toArray⟩) = v3 at sb ⊢
  clear c0 f0 sa
  refine (N4.out _ sb.inp).mono ?_
  rintro r w1 hp
  obtain ⟨rfl, sa⟩ := sb.call hp
  clear hp sb N4
  have c0 : w1.cell? ⟨g, 3, none⟩ = some (.int .i64 0) := sa.cell 3
  have f0 := sa.froz 3
  go_wp2_with fail
  have sb : TkSt w b g #[.int .i64 x1, .int .i64 x2, .string ⟨x3.toArray⟩, .int .i64 x4, .int .u64 0, .slice none 0 0, .int .i64 0] s4 e4 (w1.setCell ⟨g, 3, none⟩ (.int .i64 x4)) := sa.put 3 _
  generalize w1.setCell ⟨g, 3, none⟩ (.int .i64 x4) = v4 at sb ⊢
  clear c0 f0 sa
  refine (N5.out _ sb.inp).mono ?_
  rintro r w1 hp
  obtain ⟨rfl, sa⟩ := sb.call hp
  clear hp sb N5
  have c0 : w1.cell? ⟨g, 4, none⟩ = some (.int .u64 0) := sa.cell 4
  have f0 := sa.froz 4
  go_wp2_with fail
  have sb : TkSt w b g #[.int .i64 x1, .int .i64 x2, .string ⟨x3.toArray⟩, .int .i64 x4, .int .u64 (p5 : Int), .slice none 0 0, .int .i64 0] s5 e5 (w1.setCell ⟨g, 4, none⟩ (.int .u64 (p5 : Int))) := sa.put 4 _
  generalize w1.setCell ⟨g, 4, none⟩ (.int .u64 (p5 : Int)) = v5 at sb ⊢
  clear c0 f0 sa
  clear c5
  refine (N6.out _ sb.inp).mono ?_
  rintro r w1 hp
  obtain ⟨rfl, sa⟩ := sb.call hp
  clear hp sb N6
  go_wp2_with fail
  have sb : Hid (TkSt w b g #[.int .i64 x1, .int .i64 x2, .string ⟨x3.toArray⟩, .int .i64 x4, .int .u64 (p5 : Int), .slice none 0 0, .int .i64 0] s6 e6 w1) := Lib.hid sa
  clear sa
  go_loopw [22] (fun s22 wr => ∃ k q c, k ≤ n ∧ s22 = .int .i64 (k : Int) ∧ Hid (TkSt w b g #[.int .i64 x1, .int .i64 x2, .string ⟨x3.toArray⟩, .int .i64 x4, .int .u64 (p5 : Int), .slice q k c, .int .i64 0] (parS k s6 e6).2.1 (parS k s6 e6).2.2 wr ∧ Rw encN 25 wr q c (parS k s6 e6).1 ∧ ∀ a, q = some a → g < a.block)) (fun i _ => n - (intOf i).toNat)
  case atStart => exact ⟨0, none, 0, Nat.zero_le _, rfl, Lib.hid ⟨sb.out, Rw.empty _ _, fun a e => by cases e⟩⟩
  case round =>
    clear sb
    obtain ⟨k, q, c, hk, rfl, hst⟩ := hrel
    by_cases hlt : k < n
    · obtain ⟨st0, rw0, fr0⟩ := hst.out
      clear hst
      have hps := parS_short k s6 e6
      have hsk : (parS k s6 e6).2.1.length ≤ 1000000000 := Nat.le_trans hps L6.out
      have hDl := parS_len k s6 e6
      have hnx : parS (k + 1) s6 e6 = ((parS k s6 e6).1 ++ [⟨idL (rawS (parS k s6 e6).2.1 (parS k s6 e6).2.2 32).1, idL_len _⟩], (rawS (parS k s6 e6).2.1 (parS k s6 e6).2.2 32).2) := rfl
      have Hnx := Lib.hid hnx
      clear hnx hps
      generalize parS k s6 e6 = P at st0 rw0 hsk hDl Hnx
      obtain ⟨D, sk, ek⟩ := P
      simp only at st0 rw0 hsk hDl
      have hraw : Hid (∀ w, InAt 175 w b sk ek → Calls Tryd.prog 81 #[.pointer (some ⟨b, 0, none⟩), .int .i64 32] w (InPost 175 b (.string ⟨(rawS sk ek 32).1.toArray⟩) (rawS sk ek 32).2 w)) := Lib.hid (fun w hi => inraw_any b sk ek 32 w hi (by omega))
      obtain ⟨⟨rt, sk', ek'⟩, hrk⟩ : ∃ p, p = rawS sk ek 32 := ⟨_, rfl⟩
      rw [← hrk] at hraw
      have Hnx2 : Hid (parS (k + 1) s6 e6 = (D ++ [⟨idL rt, idL_len rt⟩], sk', ek')) := Lib.hid (by rw [Hnx.out]; simp only [← hrk])
      clear Hnx hrk
      obtain ⟨nm, hnm⟩ : ∃ nm : Nm, nm = ⟨idL rt, idL_len rt⟩ := ⟨_, rfl⟩
      have hname : Hid (∀ w, Calls Tryd.prog 108 #[.string ⟨rt.toArray⟩] w fun r w' => r = .returned (.agg (vals nm.1).toArray) ∧ Below w.heap.size w w') := Lib.hid (fun w => by rw [hnm]; exact name_any rt w)
      rw [← hnm] at Hnx2
      clear hnm
      have HDl := Lib.hid hDl
      have Hst := Lib.hid st0
      have Hrw := Lib.hid rw0
      have Hfr := Lib.hid fr0
      clear hDl st0 rw0 fr0 hsk
      go_wp2_with fail
      have HG0 : Hid ((fun (j : Nat) (x : Value) (w1 : World) => (j = 0 → TkSt w b g #[.int .i64 x1, .int .i64 x2, .string ⟨x3.toArray⟩, .int .i64 x4, .int .u64 (p5 : Int), .slice q k c, .int .i64 0] sk ek w1) ∧ (1 ≤ j → j ≤ 4 → TkSt w b g #[.int .i64 x1, .int .i64 x2, .string ⟨x3.toArray⟩, .int .i64 x4, .int .u64 (p5 : Int), .slice q k c, .int .i64 0] sk' ek' w1) ∧ (j ≤ 3 → Rw encN 25 w1 q c D) ∧ (j = 3 → ∃ p, x = .slice (some ⟨p, 0, none⟩) 1 1 ∧ Rd encN w1 (some ⟨p, 0, none⟩) [nm]) ∧ (j = 4 → ∃ q' c', x = .slice q' (k + 1) c' ∧ Rw encN 25 w1 q' c' (D ++ [nm]) ∧ ∀ a, q' = some a → g < a.block) ∧ (j = 5 → ∃ q' c', TkSt w b g #[.int .i64 x1, .int .i64 x2, .string ⟨x3.toArray⟩, .int .i64 x4, .int .u64 (p5 : Int), .slice q' (k + 1) c', .int .i64 0] sk' ek' w1 ∧ Rw encN 25 w1 q' c' (D ++ [nm]) ∧ ∀ a, q' = some a → g < a.block)) 0 undef wr.drew) := Lib.hid ⟨fun _ => Hst.out.drew, fun h => absurd h (by omega), fun _ => Hrw.out.old ((Below.refl _ _).drew), fun h => absurd h (by omega), fun h => absurd h (by omega), fun h => absurd h (by omega)⟩
      clear Hst Hrw
      refine wp_region_chain (fun t v => match t with
        | 24 => v = .pointer (some ⟨g, 5, none⟩)
        | 25 => v = .slice q k c
        | 26 => v = .pointer (some ⟨b, 0, none⟩)
        | 27 => v = .string ⟨rt.toArray⟩
        | 28 => v = .agg (vals nm.1).toArray
        | 31 => v = .pointer (some ⟨g, 5, none⟩)
        | _ => True) (fun (j : Nat) (x : Value) (w1 : World) => (j = 0 → TkSt w b g #[.int .i64 x1, .int .i64 x2, .string ⟨x3.toArray⟩, .int .i64 x4, .int .u64 (p5 : Int), .slice q k c, .int .i64 0] sk ek w1) ∧ (1 ≤ j → j ≤ 4 → TkSt w b g #[.int .i64 x1, .int .i64 x2, .string ⟨x3.toArray⟩, .int .i64 x4, .int .u64 (p5 : Int), .slice q k c, .int .i64 0] sk' ek' w1) ∧ (j ≤ 3 → Rw encN 25 w1 q c D) ∧ (j = 3 → ∃ p, x = .slice (some ⟨p, 0, none⟩) 1 1 ∧ Rd encN w1 (some ⟨p, 0, none⟩) [nm]) ∧ (j = 4 → ∃ q' c', x = .slice q' (k + 1) c' ∧ Rw encN 25 w1 q' c' (D ++ [nm]) ∧ ∀ a, q' = some a → g < a.block) ∧ (j = 5 → ∃ q' c', TkSt w b g #[.int .i64 x1, .int .i64 x2, .string ⟨x3.toArray⟩, .int .i64 x4, .int .u64 (p5 : Int), .slice q' (k + 1) c', .int .i64 0] sk' ek' w1 ∧ Rw encN 25 w1 q' c' (D ++ [nm]) ∧ ∀ a, q' = some a → g < a.block)) [3, 4, 5, 6, 8] 37 (by kernel_rfl) (by decide +kernel) rfl (by decide +kernel) (by decide) (by decide) HG0.out (by
        refine OweAllC.cons (owesC_val 3 (by decide +kernel) (by decide) rfl rfl fun k' a w1 x hk ha hG hV => ?_) ?_
        · skip
          have h3 := ha.outer 3 (by decide +kernel)
          simp only [Act.eval] at h3
          exact ⟨.pointer (some ⟨g, 5, none⟩), wanted_free rfl, by simp [execOp, go_sem, h3], rfl⟩
        refine OweAllC.cons (owesC_val 3 (by decide +kernel) (by decide) rfl rfl fun k' a w1 x hk ha hG hV => ?_) ?_
        · skip
          have h24 : a.tmps.getD 24 undef = .pointer (some ⟨g, 5, none⟩) := hV.get 24 (by decide +kernel)
          have cc : w1.cell? ⟨g, 5, none⟩ = some (.slice q k c) := by by_cases h0 : k' = 0; exact (hG.1 h0).cell 5; exact (hG.2.1 (by omega) (by omega)).cell 5
          exact ⟨.slice q k c, wanted_free rfl, by simp [execOp, go_sem, h24, cc], rfl⟩
        refine OweAllC.cons (owesC_val 0 (by decide +kernel) (by decide) rfl rfl fun k' a w1 x hk ha hG hV => ?_) ?_
        · skip
          have h0 := ha.outer 0 (by decide +kernel)
          simp only [Act.eval] at h0
          exact ⟨.pointer (some ⟨b, 0, none⟩), wanted_free rfl, by simp [execOp, go_sem, h0], rfl⟩
        refine OweAllC.cons (owesC_call 0 rfl rfl rfl 81 fun a w1 x ha hG hx hV => ?_) ?_
        · skip
          have h26 : a.tmps.getD 26 undef = .pointer (some ⟨b, 0, none⟩) := hV.get 26 (by decide +kernel)
          refine ⟨#[.pointer (some ⟨b, 0, none⟩), .int .i64 32], wanted_free rfl, by simp [execOp, resolve, invoke, go_sem, h26], ?_⟩
          have st1 := hG.1 rfl
          have r1 := hG.2.2.1 (by omega)
          refine (hraw.out w1 st1.inp).mono ?_
          rintro r u2 hp
          have hm := hp.2.2
          obtain ⟨rfl, st2⟩ := st1.call hp
          exact ⟨_, rfl, rfl, (fun h => absurd h (by omega)), (fun _ _ => st2), (fun _ => r1.kept hm (fun a e h => by have := Hfr.out a e; have := st1.lo; have := st1.hi; omega)), (fun h => absurd h (by omega)), (fun h => absurd h (by omega)), (fun h => absurd h (by omega))⟩
        refine OweAllC.cons (owesC_call 1 rfl rfl rfl 108 fun a w1 x ha hG hx hV => ?_) ?_
        · skip
          have h27 : a.tmps.getD 27 undef = .string ⟨rt.toArray⟩ := hV.get 27 (by decide +kernel)
          refine ⟨#[.string ⟨rt.toArray⟩], wanted_free rfl, by simp [execOp, resolve, invoke, go_sem, h27], ?_⟩
          have st1 := hG.2.1 (by omega) (by omega)
          have r1 := hG.2.2.1 (by omega)
          refine (hname.out w1).mono ?_
          rintro r u2 ⟨rfl, hb⟩
          exact ⟨_, rfl, rfl, (fun h => absurd h (by omega)), (fun _ _ => st1.grow hb), (fun _ => r1.old hb), (fun h => absurd h (by omega)), (fun h => absurd h (by omega)), (fun h => absurd h (by omega))⟩
        refine OweAllC.cons (owesC_mem 2 rfl rfl rfl fun a w1 x ha hG hx hV => ?_) ?_
        · skip
          have h28 : a.tmps.getD 28 undef = .agg (vals nm.1).toArray := hV.get 28 (by decide +kernel)
          have g28 : a.tmps[28]?.getD undef = .agg (vals nm.1).toArray := by simpa using h28
          have st1 := hG.2.1 (by omega) (by omega)
          have r1 := hG.2.2.1 (by omega)
          have hb : Below w1.heap.size w1 (w1.alloc (.cells (vals nm.1).toArray 25)) := (Below.refl _ _).alloc (Nat.le_refl _) _
          have hr : Rd encN (w1.alloc (.cells (vals nm.1).toArray 25)) (some ⟨w1.heap.size, 0, none⟩) [nm] := by have := Rd.made encN w1 25 [nm] (by simp [maxLen]); simpa [Enc.all, encN] using this
          exact ⟨_, _, wanted_free rfl, build_name (.tmp 28) rfl nm.1 nm.2 h28, trivial, (fun h => absurd h (by omega)), (fun _ _ => st1.grow hb), (fun _ => r1.old hb), (fun _ => ⟨_, rfl, hr⟩), (fun h => absurd h (by omega)), (fun h => absurd h (by omega))⟩
        refine OweAllC.cons (owesC_law 3 rfl rfl fun a w1 x ha hG hx hV => ?_) ?_
        · skip
          have h25 : a.tmps.getD 25 undef = .slice q k c := hV.get 25 (by decide +kernel)
          have h29 := hx 2 5 _ 29 rfl rfl rfl rfl
          have st1 := hG.2.1 (by omega) (by omega)
          have r1 := hG.2.2.1 (by omega)
          obtain ⟨p, rfl, hr⟩ := hG.2.2.2.1 rfl
          refine ⟨wanted_free rfl, fun K hK => ?_⟩
          refine wp_pushR1 encN (.tmp 25) (.tmp 29) 41 25 _ 32 rfl Tryd.underlying41 info_id (id_size (s := zid) rfl) (by decide) q c k D HDl.out h25 r1 (some ⟨p, 0, none⟩) 1 nm h29 hr (by omega) ?_
          rintro q' c' w' ⟨hR, hM, hor⟩
          have hfr : ∀ a, q' = some a → g < a.block := by intro a e; rcases hor a e with h | h; exact Hfr.out a h; have := (Array.getElem?_eq_some_iff.1 st1.box).1; omega
          have st2 : TkSt w b g #[.int .i64 x1, .int .i64 x2, .string ⟨x3.toArray⟩, .int .i64 x4, .int .u64 (p5 : Int), .slice q k c, .int .i64 0] sk' ek' w' := by
            obtain ⟨Z, hz, hZ⟩ := st1.res
            have e1 := st1.lo
            have e2 := st1.hi
            exact ⟨(hM.block g (Array.getElem?_eq_some_iff.1 st1.box).1 (by rintro ⟨a, e, rfl⟩; have := Hfr.out a e; omega)).trans st1.box, (hM.block b st1.inp.lt (by rintro ⟨a, e, rfl⟩; have := Hfr.out a e; omega)).trans st1.inp, st1.m.trans hM (by rintro i hi ⟨a, e, rfl⟩; have := Hfr.out a e; omega), e1, e2, Z, hz, (hM.block _ (Array.getElem?_eq_some_iff.1 hZ).1 (by rintro ⟨a, e, e'⟩; have := Hfr.out a e; omega)).trans hZ⟩
          exact hK _ _ (fun t ht => by cases ht; trivial) ⟨(fun h => absurd h (by omega)), (fun _ _ => st2), (fun h => absurd h (by omega)), (fun h => absurd h (by omega)), (fun _ => ⟨q', c', rfl, hR, hfr⟩), (fun h => absurd h (by omega))⟩
        refine OweAllC.cons (owesC_val 4 (by decide +kernel) (by decide) rfl rfl fun k' a w1 x hk ha hG hV => ?_) ?_
        · skip
          have h3 := ha.outer 3 (by decide +kernel)
          simp only [Act.eval] at h3
          exact ⟨.pointer (some ⟨g, 5, none⟩), wanted_free rfl, by simp [execOp, go_sem, h3], rfl⟩
        refine OweAllC.cons (owesC_store 4 rfl rfl rfl fun a w1 x ha hG hx hV => ?_) ?_
        · skip
          have h31 : a.tmps.getD 31 undef = .pointer (some ⟨g, 5, none⟩) := hV.get 31 (by decide +kernel)
          have h30 := hx 3 6 _ 30 rfl rfl rfl rfl
          simp only [Act.eval] at h30
          have st1 := hG.2.1 (by omega) (by omega)
          obtain ⟨q', c', rfl, hR, hfr⟩ := hG.2.2.2.2.1 rfl
          have cc : w1.cell? ⟨g, 5, none⟩ = some (.slice q k c) := st1.cell 5
          have cf := st1.froz 5
          have hR2 : Rw encN 25 (w1.setCell ⟨g, 5, none⟩ (.slice q' (k + 1) c')) q' c' (D ++ [nm]) := hR.kept ((Mod.refl (· = g) w1).setCell (p := ⟨g, 5, none⟩) (fun _ => rfl) _) (fun a e h => by have := hfr a e; omega)
          exact ⟨w1.setCell ⟨g, 5, none⟩ (.slice q' (k + 1) c'), wanted_free rfl, by simp [execOp, go_sem, h31, h30, cc, cf], (fun h => absurd h (by omega)), (fun _ h => absurd h (by omega)), (fun h => absurd h (by omega)), (fun h => absurd h (by omega)), (fun h => absurd h (by omega)), (fun _ => ⟨q', c', st1.put 5 _, hR2, hfr⟩)⟩
        exact OweAllC.nil
        ) ?_
      intro f wz xz hG hx hv
      first | (rename_i hK; refine hK _ _ ?_; clear hK) | (rename_i hK _; refine hK _ _ ?_; clear hK) | (rename_i hK _ _; refine hK _ _ ?_; clear hK) | (rename_i hK _ _ _; refine hK _ _ ?_; clear hK)
      clear hv hx
      simp only [dsts, puts, List.filterMap_cons, List.filterMap_nil, List.foldl_cons, List.foldl_nil, Act.put, List.setIfInBounds_toArray, List.set_cons_succ, List.set_cons_zero]
      have hG5 : ∃ q' c', TkSt w b g #[.int .i64 x1, .int .i64 x2, .string ⟨x3.toArray⟩, .int .i64 x4, .int .u64 (p5 : Int), .slice q' (k + 1) c', .int .i64 0] sk' ek' wz ∧ Rw encN 25 wz q' c' (D ++ [nm]) ∧ ∀ a, q' = some a → g < a.block := hG.2.2.2.2.2 rfl
      obtain ⟨q', c', st5, rw5, fr5⟩ := hG5
      clear hG HG0
      have S5 : Hid (TkSt w b g #[.int .i64 x1, .int .i64 x2, .string ⟨x3.toArray⟩, .int .i64 x4, .int .u64 (p5 : Int), .slice q' (k + 1) c', .int .i64 0] sk' ek' wz ∧ Rw encN 25 wz q' c' (D ++ [nm]) ∧ ∀ a, q' = some a → g < a.block) := Lib.hid ⟨st5, rw5, fr5⟩
      clear st5 rw5 fr5
      go_wp2_with fail
      go_roundw
      case rel => exact ⟨k + 1, q', c', by omega, by go_num, Lib.hid (by rw [Hnx2.out]; exact S5.out)⟩
      case measure => simp [intOf]; omega
    · obtain rfl : k = n := by omega
      obtain ⟨st0, rw0, fr0⟩ := hst.out
      clear hst
      have hDl := parS_len k s6 e6
      obtain ⟨P, hP⟩ : ∃ P, P = parS k s6 e6 := ⟨_, rfl⟩
      rw [← hP] at st0 rw0 hDl N8
      obtain ⟨D, sk, ek⟩ := P
      simp only at st0 rw0 hDl
      have HP := Lib.hid hP
      clear hP
      go_wp2_with fail
      refine (N8.out _ st0.inp).mono ?_
      rintro r w1' hp
      have hm := hp.2.2
      have rw1 : Rw encN 25 w1' q c D := rw0.kept hm (fun a e h => by have := fr0 a e; have := st0.lo; have := st0.hi; omega)
      obtain ⟨rfl, sa⟩ := st0.call hp
      have HR := Lib.hid rw1
      clear hp hm rw0 rw1 st0
      have c0 : w1'.cell? ⟨g, 6, none⟩ = some (.int .i64 0) := sa.cell 6
      have f0 := sa.froz 6
      have sb : TkSt w b g #[.int .i64 x1, .int .i64 x2, .string ⟨x3.toArray⟩, .int .i64 x4, .int .u64 (p5 : Int), .slice q k c, .int .i64 x8] s8 e8 (w1'.setCell ⟨g, 6, none⟩ (.int .i64 x8)) := sa.put 6 _
      have HR2 : Hid (Rw encN 25 (w1'.setCell ⟨g, 6, none⟩ (.int .i64 x8)) q c D) := Lib.hid (HR.out.kept ((Mod.refl (· = g) w1').setCell (p := ⟨g, 6, none⟩) (fun _ => rfl) _) (fun a e h => by have := fr0 a e; omega))
      obtain ⟨v8, hv8⟩ : ∃ v, v = w1'.setCell ⟨g, 6, none⟩ (.int .i64 x8) := ⟨_, rfl⟩
      rw [← hv8] at sb HR2
      have box := sb.box
      obtain ⟨Z, hZs, hZ⟩ := sb.res
      obtain ⟨Y, hY⟩ : ∃ Y : Array Value, Y = #[.int .i64 x1, .int .i64 x2, .string ⟨x3.toArray⟩, .int .i64 x4, .int .u64 (p5 : Int), .slice q k c, .int .i64 x8] := ⟨_, rfl⟩
      rw [← hY] at box
      have hYs : Y.size = 7 := by rw [hY]; rfl
      have q3 : (Tryd.prog.info? 43).map (·.size) = some Y.size := by rw [hYs]; kernel_rfl
      have q2 : Z.size = Y.size := by rw [hZs, hYs]
      have q4 : ∀ v ∈ Y.toList, v.oneCell' = true := by
        rw [hY]; intro v hv
        simp only [List.mem_cons, List.not_mem_nil, or_false] at hv
        rcases hv with rfl | rfl | rfl | rfl | rfl | rfl | rfl <;> rfl
      have L0 := Lib.hid (setRow_heap v8 w.heap.size Z Y 43 (0, 0) hZ)
      have hlo := sb.lo
      have hhi := sb.hi
      have LI : Hid (InAt 175 (v8.setRow w.heap.size Y) b s8 e8) := Lib.hid ((setRow_other v8 _ _ Y (by omega)).trans sb.inp)
      have LM : Hid (Mod (· = b) w (v8.setRow w.heap.size Y)) := Lib.hid ((sb.m.setRow (g := w.heap.size) Y).drop_new (Nat.le_refl _))
      have LR : Hid (Rw encN 25 (v8.setRow w.heap.size Y) q c D) := Lib.hid (HR2.out.kept ((Mod.refl (fun _ => False) v8).setRow (g := w.heap.size) Y) (fun a e h => by have := fr0 a e; rcases h with h | h; exact h; omega))
      have HY := Lib.hid hY
      have Hv8 := Lib.hid hv8
      clear sa sb hY hv8
      go_wp2_with (first | (rw [← Hv8.out]; refine wpList_load_row rfl 43 (.tmp 3) rfl g rfl 43 Y (0, 0) _ box Tryd.underlying43 rfl q3 ?_) | (refine wpList_store_row rfl rfl 43 (.tmp 2) (.tmp 36) rfl w.heap.size rfl 43 Z Y rfl hZ q2 q3 q4 ?_))
      exact bodyPost_ret (v := .agg Y) (results_cell_row Tryd.results97 _ _ w.heap.size 43 Y (0, 0) _ rfl L0.out Tryd.underlying43 rfl q3) rfl ⟨q, c, by rw [HY.out]; unfold hcells; simp only [← HP.out, hDl], by simp only [← HP.out]; exact LR.out, LI.out, LM.out, fun a e => by have := fr0 a e; omega⟩
end Go.Proofs.YtkejidmomnmdbaaDoor
