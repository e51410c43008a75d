/- TipsetOrder's walk. (PARTS; tools/mk-tvj.py) -/
import Derived.Test.YtlhndibfdccohaaDoorZ7
namespace Go.Proofs.YtlhndibfdccohaaDoor
open Go.RowKit Go.Sort

/-- What stands while two pieces are joined. -/
def OG9 (W : World) (D : List RH) (k n : Nat) (j : Nat) (x : Value) (w1 : World) : Prop :=
  Below W.heap.size W w1 ∧
  (j = 1 → ∃ g, x = .slice (some ⟨g, 0, none⟩) 0 0 ∧ Rw encR 34 w1 (some ⟨g, 0, none⟩) 0 [] ∧ W.heap.size ≤ g) ∧
  (j = 2 → ∃ q c, x = .slice q (k - n) c ∧ Rw encR 34 w1 q c (D.drop n) ∧ ∀ a, q = some a → W.heap.size ≤ a.block) ∧
  (j = 3 → ∃ q c, x = .slice q (k - n + n) c ∧ Rw encR 34 w1 q c (D.drop n ++ D.take n) ∧ ∀ a, q = some a → W.heap.size ≤ a.block) ∧
  (j = 4 → ∃ q c, x = .slice q (k - n + n) c ∧ Rw encR 34 w1 q c (D.drop n ++ D.take n) ∧ ∀ a, q = some a → W.heap.size ≤ a.block)
/-- What stands while two change places. -/
def OG13 (W : World) (g c : Nat) (M M1 M2 : List RH) (j : Nat) (_ : Value) (w1 : World) : Prop :=
  Mod (fun k => k = g) W w1 ∧
  (j = 0 → Rw encR 34 w1 (some ⟨g, 0, none⟩) c M) ∧
  (j = 1 → Rw encR 34 w1 (some ⟨g, 0, none⟩) c M1) ∧
  (j = 2 → Rw encR 34 w1 (some ⟨g, 0, none⟩) c M2)
/-- What holds while the other row is turned round. -/
structure OrR (W wr : World) (k : Nat) (q : Option Addr) (c : Nat) (D : List RH) (q9 : Option Addr) (c9 : Nat) (M : List RH) : Prop where
  d : BsR W wr k q c D
  p : M.Perm D
  rw : Rw encR 34 wr q9 c9 M
  ne : ∀ a b, q = some a → q9 = some b → a.block ≠ b.block
  f : ∀ a, q9 = some a → W.heap.size ≤ a.block
theorem OrR.ok {W wr : World} {k : Nat} {q : Option Addr} {c : Nat} {D : List RH} {q9 : Option Addr} {c9 : Nat} {M : List RH} (h : OrR W wr k q c D q9 c9 M) : ∀ x ∈ M, okR wr x := fun x hx => h.d.ok x (h.p.mem_iff.1 hx)
theorem newOk_of {w : World} {D : List RH} {K : List Blk} (hg : ∀ x ∈ D, GoodR x.h) (hK : K.map Blk.is = D.map blkI) (ho : ∀ b ∈ K, okK w b) : ∀ b ∈ K, newOk w b := by
  intro b hb
  have h1 : b.is ∈ D.map blkI := hK ▸ List.mem_map.2 ⟨b, hb, rfl⟩
  obtain ⟨x, hx, e⟩ := List.mem_map.1 h1
  have e2 : b.h = ownH x.h := (congrArg Prod.snd e).symm
  have g := hg x hx
  refine ⟨⟨ho b hb, ?_, ?_⟩, ?_⟩
  · rw [e2]; have := g.pw; show x.h.pw < _; omega
  · rw [e2]; have := g.ht; show _ ≤ x.h.ht ∧ x.h.ht ≤ _; omega
  · rw [e2]; have := g.mi; show _ ≤ x.h.mi ∧ x.h.mi ≤ _; omega
/-- The law's blocks, then New. -/
theorem lawNew {w : World} {ao : Option Addr} {cap : Nat} {D : List RH} (hD : Rd encR w ao D) (hA : ∀ x ∈ D, okR w x) (hn : D.length ≤ 1000) (hT : TabAt w) :
    Calls Tryd.prog 9 #[.slice ao D.length cap] w fun r w1 => ∃ q c, r = .returned (.slice q D.length c) ∧ Below w.heap.size w w1 ∧
      Calls Tryd.prog 8 #[.slice q D.length c] w1 fun r w2 => ∃ v, r = .returned (.tuple #[.agg #[v], .int .i64 (newE (D.map blkI))]) ∧ TsV w2 v (newX (D.map blkI)) ∧ Below w1.heap.size w1 w2 := by
  refine (blocks_any ao cap D w hD hA hn hT).mono ?_
  rintro r w1 ⟨q, c, K, rfl, hB⟩
  have hl : K.length = D.length := hB.len
  have hK : K.map Blk.is = D.map blkI := by rw [hB.is, List.take_of_length_le (Nat.le_refl _)]
  refine ⟨q, c, rfl, hB.b, ?_⟩
  have h := tsnew_any q c K w1 hB.rw.rd (by omega) hB.rw.cap_le (newOk_of (fun x hx => (hA x hx).good) hK (fun b hb => (hB.ok b hb).ok))
  rw [hl, hK] at h
  exact h.mono (fun r w2 h2 => h2.v (by rw [List.length_map]))
set_option maxRecDepth 20000 in
set_option maxHeartbeats 8000000 in
theorem tipsetOrder_any (ao : Option Addr) (cap : Nat) (L : List RH) (turn : Int) (w : World) (hL : Rd encR w ao L) (hA : ∀ s ∈ L, argR w s) (_ : L.length ≤ 9223372036854775807) (b1 : -9223372036854775808 ≤ turn) (b2 : turn ≤ 9223372036854775807) (hT : TabAt w) :
    Calls Tryd.prog 3 #[.slice ao L.length cap, .int .i64 turn] w fun r w' => r = .returned (.bool true) ∧ Below w.heap.size w w' := by
  have HAW := Lib.hid (awake08_any w hT)
  have HBE := Lib.hid (fun w' (hb : Below w.heap.size w w') => beside_any ao cap L w' (hL.old hb) (fun x hx => (hA x hx).old hb))
  have HT := Lib.hid hT
  have HNW : Hid (∀ w', Calls Tryd.prog 8 #[.slice none 0 0] w' fun r w2 => ∃ p n c, r = .returned (.tuple #[.agg #[.slice p n c], .int .i64 15]) ∧ Below w'.heap.size w' w2) := Lib.hid (fun w' => (tsnew_any none 0 [] w' (Rd.nil _ _) (by simp) (Nat.le_refl _) (fun x hx => by cases hx)).mono (by
    rintro r w2 h
    obtain ⟨v, h1, ⟨p, c, K, rfl, _⟩, h3⟩ := h.v rfl
    exact ⟨p, _, c, h1, h3⟩))
  obtain ⟨n, hn⟩ : ∃ n, n = L.length := ⟨_, rfl⟩
  rw [← hn] at HBE ⊢
  have HB12 := Lib.hid (And.intro b1 b2)
  clear hL hA hT hn b1 b2
  go_enter Tryd.func3, Tryd.ntmps3
  go_wp2_with fail
  refine HAW.out.mono ?_
  rintro r w1 ⟨rfl, hb1⟩
  have HB1 := Lib.hid hb1
  clear hb1 HAW
  go_wp2_with fail
  refine (HBE.out w1 HB1.out).mono ?_
  rintro r w2 ⟨k, q, c, D, rfl, hk7, _, _, hB⟩
  have HS := Lib.hid hB
  have HB2 := Lib.hid (HB1.out.trans (hB.b.mono HB1.out.size))
  clear hB HBE
  by_cases hk0 : k = 0
  · subst hk0
    go_wp2_with fail
    refine (HNW.out w2).mono ?_
    rintro r w3 ⟨p3, n3, c3, rfl, hb3⟩
    have HB3 := Lib.hid (HB2.out.trans (hb3.mono HB2.out.size))
    clear hb3
    go_wp2_with fail
    go_ret
    exact ⟨rfl, HB3.out.trans (((Below.refl _ w3).alloc (Nat.le_refl _) _).mono HB3.out.size)⟩
  · have hkz : ((k : Int) == 0) = false := by simp; omega
    have hkp : (0 : Int) < (k : Int) := by omega
    have hkn : ¬ (k : Int) = 0 := by omega
    obtain ⟨r1, hr1, hra, hrb⟩ : ∃ r : Int, Int.tmod turn (k : Int) = r ∧ -(k : Int) < r ∧ r < (k : Int) := ⟨_, rfl, by
        by_cases ht : 0 ≤ turn
        · have := Int.tmod_nonneg (k : Int) ht; omega
        · have h1 := Int.tmod_lt_of_pos (-turn) hkp
          rw [Int.neg_tmod] at h1; omega, Int.tmod_lt_of_pos _ hkp⟩
    have hw1 : wrap64 (r1 + (k : Int)) = r1 + k := by unfold wrap64; omega
    obtain ⟨j, hj, hjk⟩ : ∃ j : Nat, Int.tmod (r1 + (k : Int)) (k : Int) = (j : Int) ∧ j < k := by
      have h1 := Int.tmod_nonneg (k : Int) (show 0 ≤ r1 + (k : Int) by omega)
      have h2 := Int.tmod_lt_of_pos (r1 + (k : Int)) hkp
      exact ⟨(Int.tmod (r1 + (k : Int)) (k : Int)).toNat, by omega, by omega⟩
    have HRW := Lib.hid HS.out.rw
    obtain ⟨g0, rfl, hkc⟩ : ∃ g0, q = some ⟨g0, 0, none⟩ ∧ k ≤ c := by
      have hl := HS.out.len
      have hc := HS.out.rw.cap_le
      rcases HS.out.rw.shape with ⟨_, e, _⟩ | ⟨g, e, _⟩
      · rw [e] at hl; simp at hl; omega
      · exact ⟨g, e, by omega⟩
    have j0 : (0 : Int) ≤ (j : Int) := by omega
    have jk : (j : Int) ≤ (k : Int) := by omega
    have jc : (j : Int) ≤ (c : Int) := by omega
    have jn : ¬ c - j = 0 := by omega
    have jne : ¬ c = j := by omega
    have kc : (k : Int) ≤ (c : Int) := by omega
    go_upto_region 9 with fail
    have HDL : Hid ((D.drop j).length = k - j) := Lib.hid (by rw [List.length_drop, HS.out.len])
    have HTL : Hid ((D.take j).length = j) := Lib.hid (by rw [List.length_take, HS.out.len]; omega)
    have HDR : Hid (Rd encR w2 (some ⟨g0, j * 7, none⟩) (D.drop j)) := Lib.hid (by have := HRW.out.rd.dropE j; rwa [Nat.zero_add] at this)
    have HTR : Hid (Rd encR w2 (some ⟨g0, 0, none⟩) (D.take j)) := Lib.hid (HRW.out.rd.take j)
    have HG0 : Hid (OG9 w2 D k j 0 undef w2.drew) := Lib.hid ⟨(Below.refl _ w2).drew, (fun h => absurd h (by omega)), (fun h => absurd h (by omega)), (fun h => absurd h (by omega)), (fun h => absurd h (by omega))⟩
    refine wp_region_chain (fun t v => match t with
      | 38 => v = .slice (some ⟨g0, 0, none⟩) k c
      | 39 => v = .int .i64 (j : Int)
      | 40 => v = .slice (some ⟨g0, j * 7, none⟩) (k - j) (c - j)
      | 42 => v = .slice (some ⟨g0, 0, none⟩) k c
      | 43 => v = .int .i64 (j : Int)
      | 44 => v = .slice (some ⟨g0, 0, none⟩) j c
      | _ => True) (OG9 w2 D k j) [0, 4, 8, 9] 114 (by kernel_rfl) (by decide +kernel) rfl (by decide +kernel) (by decide) (by decide) HG0.out (by
      refine OweAllC.cons (owesC_mem 0 rfl rfl rfl fun a w1 x ha hG hx hV => ?_) ?_
      · skip
        have hb : Below w1.heap.size w1 (w1.alloc (.cells #[] 34)) := (Below.refl _ _).alloc (Nat.le_refl _) _
        exact ⟨_, _, wanted_free rfl, exec_nos 22 34 rfl Tryd.underlying22 (sz := 7) (by kernel_rfl), trivial, hG.1.trans (hb.mono hG.1.size), (fun _ => ⟨_, rfl, Rw.made (E := encR) 34 w1 [] (by simp), hG.1.size⟩), (fun h => absurd h (by omega)), (fun h => absurd h (by omega)), (fun h => absurd h (by omega))⟩
      refine OweAllC.cons (owesC_val 1 (by decide +kernel) (by decide) rfl rfl fun k' a w1 x hk ha hG hV => ?_) ?_
      · skip
        have h0 := ha.outer 0 (by decide +kernel)
        simp only [Act.eval] at h0
        exact ⟨.slice (some ⟨g0, 0, none⟩) k c, wanted_free rfl, by simp [execOp, go_sem, h0], rfl⟩
      refine OweAllC.cons (owesC_val 1 (by decide +kernel) (by decide) rfl rfl fun k' a w1 x hk ha hG hV => ?_) ?_
      · skip
        have h8 := ha.outer 8 (by decide +kernel)
        simp only [Act.eval] at h8
        exact ⟨.int .i64 (j : Int), wanted_free rfl, by simp [execOp, go_sem, h8], rfl⟩
      refine OweAllC.cons (owesC_val 1 (by decide +kernel) (by decide) rfl rfl fun k' a w1 x hk ha hG hV => ?_) ?_
      · skip
        have h38 : a.tmps.getD 38 undef = .slice (some ⟨g0, 0, none⟩) k c := hV.get 38 (by decide +kernel)
        have h39 : a.tmps.getD 39 undef = .int .i64 (j : Int) := hV.get 39 (by decide +kernel)
        exact ⟨.slice (some ⟨g0, j * 7, none⟩) (k - j) (c - j), wanted_free rfl, by simp [execOp, go_sem, h38, h39, j0, jk, jne], rfl⟩
      refine OweAllC.cons (owesC_law 1 rfl rfl fun a w1 x ha hG hx hV => ?_) ?_
      · skip
        have h40 : a.tmps.getD 40 undef = .slice (some ⟨g0, j * 7, none⟩) (k - j) (c - j) := hV.get 40 (by decide +kernel)
        have h37 := hx 0 0 _ 37 rfl rfl rfl rfl
        obtain ⟨g9, rfl, hr9, hl9⟩ := hG.2.1 rfl
        obtain ⟨z, hz1, hz2, hz3⟩ := info_rh
        refine ⟨wanted_free rfl, fun K hK => ?_⟩
        refine wp_pushRn encR (.tmp 37) (.tmp 40) 22 34 z _ rfl Tryd.underlying22 hz1 hz2 hz3 (some ⟨g9, 0, none⟩) 0 0 [] rfl h37 hr9 (some ⟨g0, j * 7, none⟩) (k - j) (c - j) (D.drop j) (HDL.out) h40 (HDR.out.old hG.1) (by omega) ?_
        rintro q' c' w' ⟨hR, hM, hor⟩
        refine hK _ _ (fun t ht => by cases ht; trivial) ⟨hG.1.trans (hM.to_below hG.1.size (by rintro i hi ⟨a, e, rfl⟩; cases e; simp only at hi; omega)), (fun h => absurd h (by omega)), (fun _ => ⟨q', c', by simp, by simpa using hR, fun a e => (hor a e).elim (fun e => by cases e; exact hl9) (fun h => Nat.le_trans hG.1.size h)⟩), (fun h => absurd h (by omega)), (fun h => absurd h (by omega))⟩
      refine OweAllC.cons (owesC_val 2 (by decide +kernel) (by decide) rfl rfl fun k' a w1 x hk ha hG hV => ?_) ?_
      · skip
        have h0 := ha.outer 0 (by decide +kernel)
        simp only [Act.eval] at h0
        exact ⟨.slice (some ⟨g0, 0, none⟩) k c, wanted_free rfl, by simp [execOp, go_sem, h0], rfl⟩
      refine OweAllC.cons (owesC_val 2 (by decide +kernel) (by decide) rfl rfl fun k' a w1 x hk ha hG hV => ?_) ?_
      · skip
        have h8 := ha.outer 8 (by decide +kernel)
        simp only [Act.eval] at h8
        exact ⟨.int .i64 (j : Int), wanted_free rfl, by simp [execOp, go_sem, h8], rfl⟩
      refine OweAllC.cons (owesC_val 2 (by decide +kernel) (by decide) rfl rfl fun k' a w1 x hk ha hG hV => ?_) ?_
      · skip
        have h42 : a.tmps.getD 42 undef = .slice (some ⟨g0, 0, none⟩) k c := hV.get 42 (by decide +kernel)
        have h43 : a.tmps.getD 43 undef = .int .i64 (j : Int) := hV.get 43 (by decide +kernel)
        exact ⟨.slice (some ⟨g0, 0, none⟩) j c, wanted_free rfl, by simp [execOp, go_sem, h42, h43, j0, jc], rfl⟩
      refine OweAllC.cons (owesC_law 2 rfl rfl fun a w1 x ha hG hx hV => ?_) ?_
      · skip
        have h44 : a.tmps.getD 44 undef = .slice (some ⟨g0, 0, none⟩) j c := hV.get 44 (by decide +kernel)
        have h41 := hx 1 4 _ 41 rfl rfl rfl rfl
        obtain ⟨q9, c9, rfl, hr9, hl9⟩ := hG.2.2.1 rfl
        obtain ⟨z, hz1, hz2, hz3⟩ := info_rh
        refine ⟨wanted_free rfl, fun K hK => ?_⟩
        refine wp_pushRn encR (.tmp 41) (.tmp 44) 22 34 z _ rfl Tryd.underlying22 hz1 hz2 hz3 q9 c9 (k - j) (D.drop j) HDL.out h41 hr9 (some ⟨g0, 0, none⟩) j c (D.take j) (HTL.out) h44 (HTR.out.old hG.1) (by omega) ?_
        rintro q' c' w' ⟨hR, hM, hor⟩
        refine hK _ _ (fun t ht => by cases ht; trivial) ⟨hG.1.trans (hM.to_below hG.1.size (by rintro i hi ⟨a, e, rfl⟩; have := hl9 a e; omega)), (fun h => absurd h (by omega)), (fun h => absurd h (by omega)), (fun _ => ⟨q', c', rfl, hR, fun a e => (hor a e).elim (hl9 a) (fun h => Nat.le_trans hG.1.size h)⟩), (fun h => absurd h (by omega))⟩
      refine OweAllC.cons (owesC_mem 3 rfl rfl rfl fun a w1 x ha hG hx hV => ?_) ?_
      · skip
        have h45 := hx 2 8 _ 45 rfl rfl rfl rfl
        obtain ⟨q9, c9, rfl, hr9, hl9⟩ := hG.2.2.2.1 rfl
        simp only [Act.eval] at h45
        exact ⟨_, w1, wanted_free rfl, by simp [execOp, go_sem, h45], trivial, hG.1, (fun h => absurd h (by omega)), (fun h => absurd h (by omega)), (fun h => absurd h (by omega)), (fun _ => ⟨q9, c9, rfl, hr9, hl9⟩)⟩
      exact OweAllC.nil
      ) ?_
    intro f wz xz hG hx hv
    have e9 : f 9 = xz := hx 3 9 _ 9 rfl rfl rfl rfl
    first | (rename_i hK; refine hK _ _ ?_; clear hK) | (rename_i hK _; refine hK _ _ ?_; clear hK) | (rename_i hK _ _; refine hK _ _ ?_; clear hK) | (rename_i hK _ _ _; refine hK _ _ ?_; clear hK)
    clear hv hx
    simp only [dsts, puts, List.filterMap_cons, List.filterMap_nil, List.foldl_cons, List.foldl_nil, Act.put, List.setIfInBounds_toArray, List.set_cons_succ, List.set_cons_zero, e9]
    clear e9
    obtain ⟨hbz, _, _, _, hz⟩ := hG
    obtain ⟨q9, c9, rfl, hr9, hf9⟩ := hz rfl
    rw [show k - j + j = k by omega]
    have HO : Hid (OrR w1 wz k (some ⟨g0, 0, none⟩) c D q9 c9 (D.drop j ++ D.take j)) := Lib.hid ⟨HS.out.old hbz, List.perm_append_comm.trans (by rw [List.take_append_drop]), hr9, fun a b ea eb => by
      cases ea
      have h1 := hf9 b eb
      have h2 := HRW.out.lt
      simp only at h2 ⊢
      omega, fun a e => Nat.le_trans HS.out.b.size (hf9 a e)⟩
    have HB3 := Lib.hid (HB2.out.trans (hbz.mono HB2.out.size))
    clear HG0 hbz hz hr9 hf9 HDL HTL HDR HTR HRW HS
    obtain ⟨h, hh, hh2⟩ : ∃ h : Nat, (k : Int) / 2 = (h : Int) ∧ h = k / 2 := ⟨k / 2, by omega, rfl⟩
    have HH2 := Lib.hid hh2
    clear hh2
    go_wp2_with fail
    have ST : Hid (∃ M : List RH, OrR w1 wz k (some ⟨g0, 0, none⟩) c D q9 c9 M) := Lib.hid ⟨_, HO.out⟩
    clear HO
    rename World => w3
    go_loopw [10, 48] (fun _ s48 wr => ∃ i : Nat, i ≤ h ∧ s48 = .int .i64 (i : Int) ∧ Hid (Below w.heap.size w wr ∧ ∃ M : List RH, OrR w1 wr k (some ⟨g0, 0, none⟩) c D q9 c9 M)) (fun _ i _ => h - (intOf i).toNat)
    case atStart => exact ⟨0, Nat.zero_le _, rfl, Lib.hid ⟨HB3.out, ST.out⟩⟩
    case round =>
      clear ST
      obtain ⟨i, hi, rfl, HS⟩ := hrel
      by_cases hlt : i < h
      · obtain ⟨jj, hjj⟩ : ∃ jj, jj + i + 1 = k := ⟨k - 1 - i, by have := HH2.out; omega⟩
        have hlt' : (i : Int) < (h : Int) := by omega
        have e1 : IntKind.i64.wrap ((k : Int) - 1) = (k : Int) - 1 := IntWalk.i64_in _ (by omega)
        have e2 : IntKind.i64.wrap (jj : Int) = (jj : Int) := IntWalk.i64_in _ (by omega)
        have e3 : (k : Int) - 1 - (i : Int) = (jj : Int) := by omega
        have i0 : (0 : Int) ≤ (i : Int) := by omega
        have ik : (i : Int) < (k : Int) := by have := HH2.out; omega
        have jj0 : (0 : Int) ≤ (jj : Int) := by omega
        have jjk : (jj : Int) < (k : Int) := by omega
        go_upto_region 13 with fail
        obtain ⟨hbw, M, hO⟩ := HS.out
        have hMl : M.length = k := by rw [hO.p.length_eq, hO.d.len]
        obtain ⟨g9, rfl⟩ : ∃ g, q9 = some ⟨g, 0, none⟩ := by
          rcases hO.rw.shape with ⟨_, h0, _⟩ | ⟨g, e, _⟩
          · rw [h0] at hMl; simp at hMl; omega
          · exact ⟨g, e⟩
        have hiM : i < M.length := by omega
        have hjM : jj < M.length := by omega
        obtain ⟨xN, hxN⟩ : ∃ x, x = M[i] := ⟨_, rfl⟩
        obtain ⟨yN, hyN⟩ : ∃ y, y = M[jj] := ⟨_, rfl⟩
        have HO := Lib.hid hO
        have HPM : Hid (((M.set i yN).set jj xN).Perm M) := Lib.hid (by rw [hxN, hyN]; exact swap_perm M i jj hiM hjM)
        have HX : Hid (∀ w', Rw encR 34 w' (some ⟨g9, 0, none⟩) c9 M → ∀ k u, xN.cells[k]? = some u → w'.cell? ⟨g9, i * 7 + k, none⟩ = some u) := Lib.hid (fun w' h => by rw [hxN]; exact rdR_at h.rd i hiM)
        have HY : Hid (∀ w', Rw encR 34 w' (some ⟨g9, 0, none⟩) c9 M → ∀ k u, yN.cells[k]? = some u → w'.cell? ⟨g9, jj * 7 + k, none⟩ = some u) := Lib.hid (fun w' h => by rw [hyN]; exact rdR_at h.rd jj hjM)
        have HW1 : Hid (∀ w', Rw encR 34 w' (some ⟨g9, 0, none⟩) c9 M → ∃ W4, Rw encR 34 W4 (some ⟨g9, 0, none⟩) c9 (M.set i yN) ∧ Mod (fun k => k = g9) w' W4 ∧ ∀ (oo : Oper) (a : Act) (p q : Operand), oo.op = .store 34 p q → a.eval p = .pointer (some ⟨g9, i * 7, none⟩) → a.eval q = .agg yN.cells.toArray → (execOp a.eval oo).run Tryd.prog w' = .ok .skip W4) := Lib.hid (fun w' h => rwR_set h i hiM yN)
        have HW2 : Hid (∀ w', Rw encR 34 w' (some ⟨g9, 0, none⟩) c9 (M.set i yN) → ∃ W4, Rw encR 34 W4 (some ⟨g9, 0, none⟩) c9 ((M.set i yN).set jj xN) ∧ Mod (fun k => k = g9) w' W4 ∧ ∀ (oo : Oper) (a : Act) (p q : Operand), oo.op = .store 34 p q → a.eval p = .pointer (some ⟨g9, jj * 7, none⟩) → a.eval q = .agg xN.cells.toArray → (execOp a.eval oo).run Tryd.prog w' = .ok .skip W4) := Lib.hid (fun w' h => rwR_set h jj (by rw [List.length_set]; exact hjM) xN)
        have HG0 : Hid (OG13 wr g9 c9 M (M.set i yN) ((M.set i yN).set jj xN) 0 undef wr.drew) := Lib.hid ⟨(Mod.refl _ wr).drew, (fun _ => hO.rw), (fun h => absurd h (by omega)), (fun h => absurd h (by omega))⟩
        have HBW := Lib.hid hbw
        clear hbw hO hMl hiM hjM hxN hyN HS
        refine wp_region_chain2 (fun t v => match t with
          | 51 => v = .slice (some ⟨g9, 0, none⟩) k c9
          | 52 => v = .int .i64 (i : Int)
          | 53 => v = .slice (some ⟨g9, 0, none⟩) k c9
          | 54 => v = .int .i64 (k : Int)
          | 55 => v = .int .i64 ((k : Int) - 1)
          | 56 => v = .int .i64 (i : Int)
          | 57 => v = .int .i64 (jj : Int)
          | 58 => v = .slice (some ⟨g9, 0, none⟩) k c9
          | 59 => v = .int .i64 (k : Int)
          | 60 => v = .int .i64 ((k : Int) - 1)
          | 61 => v = .int .i64 (i : Int)
          | 62 => v = .int .i64 (jj : Int)
          | 63 => v = .pointer (some ⟨g9, jj * 7, none⟩)
          | 64 => v = .agg yN.cells.toArray
          | 65 => v = .slice (some ⟨g9, 0, none⟩) k c9
          | 66 => v = .int .i64 (i : Int)
          | 67 => v = .pointer (some ⟨g9, i * 7, none⟩)
          | 68 => v = .agg xN.cells.toArray
          | 69 => v = .pointer (some ⟨g9, i * 7, none⟩)
          | 70 => v = .pointer (some ⟨g9, jj * 7, none⟩)
          | _ => True) (OG13 wr g9 c9 M (M.set i yN) ((M.set i yN).set jj xN)) [19, 21] 114 (by kernel_rfl) (by decide +kernel) rfl (by decide +kernel) (by decide) (by decide) HG0.out (by
          refine OweAllC.cons (owesC_val 0 (by decide +kernel) (by decide) rfl rfl fun k' a w1 x hk ha hG hV => ?_) ?_
          · skip
            have h9 := ha.outer 9 (by decide +kernel)
            simp only [Act.eval] at h9
            exact ⟨.slice (some ⟨g9, 0, none⟩) k c9, wanted_free rfl, by simp [execOp, go_sem, h9], rfl⟩
          refine OweAllC.cons (owesC_val 0 (by decide +kernel) (by decide) rfl rfl fun k' a w1 x hk ha hG hV => ?_) ?_
          · skip
            have h10 := ha.outer 10 (by decide +kernel)
            simp only [Act.eval] at h10
            exact ⟨.int .i64 (i : Int), wanted_free rfl, by simp [execOp, go_sem, h10], rfl⟩
          refine OweAllC.cons (owesC_val 1 (by decide +kernel) (by decide) rfl rfl fun k' a w1 x hk ha hG hV => ?_) ?_
          · skip
            have h9 := ha.outer 9 (by decide +kernel)
            simp only [Act.eval] at h9
            exact ⟨.slice (some ⟨g9, 0, none⟩) k c9, wanted_free rfl, by simp [execOp, go_sem, h9], rfl⟩
          refine OweAllC.cons (owesC_val 1 (by decide +kernel) (by decide) rfl rfl fun k' a w1 x hk ha hG hV => ?_) ?_
          · skip
            have h7 := ha.outer 7 (by decide +kernel)
            simp only [Act.eval] at h7
            exact ⟨.int .i64 (k : Int), wanted_free rfl, by simp [execOp, go_sem, h7], rfl⟩
          refine OweAllC.cons (owesC_val 1 (by decide +kernel) (by decide) rfl rfl fun k' a w1 x hk ha hG hV => ?_) ?_
          · skip
            have h54 : a.tmps.getD 54 undef = .int .i64 (k : Int) := hV.get 54 (by decide +kernel)
            exact ⟨.int .i64 ((k : Int) - 1), wanted_free rfl, by simp [execOp, go_sem, h54, e1], rfl⟩
          refine OweAllC.cons (owesC_val 1 (by decide +kernel) (by decide) rfl rfl fun k' a w1 x hk ha hG hV => ?_) ?_
          · skip
            have h10 := ha.outer 10 (by decide +kernel)
            simp only [Act.eval] at h10
            exact ⟨.int .i64 (i : Int), wanted_free rfl, by simp [execOp, go_sem, h10], rfl⟩
          refine OweAllC.cons (owesC_val 1 (by decide +kernel) (by decide) rfl rfl fun k' a w1 x hk ha hG hV => ?_) ?_
          · skip
            have h55 : a.tmps.getD 55 undef = .int .i64 ((k : Int) - 1) := hV.get 55 (by decide +kernel)
            have h56 : a.tmps.getD 56 undef = .int .i64 (i : Int) := hV.get 56 (by decide +kernel)
            exact ⟨.int .i64 (jj : Int), wanted_free rfl, by simp [execOp, go_sem, h55, h56, e2, e3], rfl⟩
          refine OweAllC.cons (owesC_val 0 (by decide +kernel) (by decide) rfl rfl fun k' a w1 x hk ha hG hV => ?_) ?_
          · skip
            have h9 := ha.outer 9 (by decide +kernel)
            simp only [Act.eval] at h9
            exact ⟨.slice (some ⟨g9, 0, none⟩) k c9, wanted_free rfl, by simp [execOp, go_sem, h9], rfl⟩
          refine OweAllC.cons (owesC_val 0 (by decide +kernel) (by decide) rfl rfl fun k' a w1 x hk ha hG hV => ?_) ?_
          · skip
            have h7 := ha.outer 7 (by decide +kernel)
            simp only [Act.eval] at h7
            exact ⟨.int .i64 (k : Int), wanted_free rfl, by simp [execOp, go_sem, h7], rfl⟩
          refine OweAllC.cons (owesC_val 0 (by decide +kernel) (by decide) rfl rfl fun k' a w1 x hk ha hG hV => ?_) ?_
          · skip
            have h59 : a.tmps.getD 59 undef = .int .i64 (k : Int) := hV.get 59 (by decide +kernel)
            exact ⟨.int .i64 ((k : Int) - 1), wanted_free rfl, by simp [execOp, go_sem, h59, e1], rfl⟩
          refine OweAllC.cons (owesC_val 0 (by decide +kernel) (by decide) rfl rfl fun k' a w1 x hk ha hG hV => ?_) ?_
          · skip
            have h10 := ha.outer 10 (by decide +kernel)
            simp only [Act.eval] at h10
            exact ⟨.int .i64 (i : Int), wanted_free rfl, by simp [execOp, go_sem, h10], rfl⟩
          refine OweAllC.cons (owesC_val 0 (by decide +kernel) (by decide) rfl rfl fun k' a w1 x hk ha hG hV => ?_) ?_
          · skip
            have h60 : a.tmps.getD 60 undef = .int .i64 ((k : Int) - 1) := hV.get 60 (by decide +kernel)
            have h61 : a.tmps.getD 61 undef = .int .i64 (i : Int) := hV.get 61 (by decide +kernel)
            exact ⟨.int .i64 (jj : Int), wanted_free rfl, by simp [execOp, go_sem, h60, h61, e2, e3], rfl⟩
          refine OweAllC.cons (owesC_val 0 (by decide +kernel) (by decide) rfl rfl fun k' a w1 x hk ha hG hV => ?_) ?_
          · skip
            have h58 : a.tmps.getD 58 undef = .slice (some ⟨g9, 0, none⟩) k c9 := hV.get 58 (by decide +kernel)
            have h62 : a.tmps.getD 62 undef = .int .i64 (jj : Int) := hV.get 62 (by decide +kernel)
            exact ⟨.pointer (some ⟨g9, jj * 7, none⟩), wanted_free rfl, by simp [execOp, go_sem, h58, h62, jj0, jjk], rfl⟩
          refine OweAllC.cons (owesC_val 0 (by decide +kernel) (by decide) rfl rfl fun k' a w1 x hk ha hG hV => ?_) ?_
          · skip
            have h63 : a.tmps.getD 63 undef = .pointer (some ⟨g9, jj * 7, none⟩) := hV.get 63 (by decide +kernel)
            exact ⟨.agg yN.cells.toArray, wanted_free rfl, exec_load_rhm (.tmp 63) rfl g9 (jj * 7) h63 yN (HY.out w1 (hG.2.1 (by omega))), rfl⟩
          refine OweAllC.cons (owesC_val 1 (by decide +kernel) (by decide) rfl rfl fun k' a w1 x hk ha hG hV => ?_) ?_
          · skip
            have h9 := ha.outer 9 (by decide +kernel)
            simp only [Act.eval] at h9
            exact ⟨.slice (some ⟨g9, 0, none⟩) k c9, wanted_free rfl, by simp [execOp, go_sem, h9], rfl⟩
          refine OweAllC.cons (owesC_val 1 (by decide +kernel) (by decide) rfl rfl fun k' a w1 x hk ha hG hV => ?_) ?_
          · skip
            have h10 := ha.outer 10 (by decide +kernel)
            simp only [Act.eval] at h10
            exact ⟨.int .i64 (i : Int), wanted_free rfl, by simp [execOp, go_sem, h10], rfl⟩
          refine OweAllC.cons (owesC_val 1 (by decide +kernel) (by decide) rfl rfl fun k' a w1 x hk ha hG hV => ?_) ?_
          · skip
            have h65 : a.tmps.getD 65 undef = .slice (some ⟨g9, 0, none⟩) k c9 := hV.get 65 (by decide +kernel)
            have h66 : a.tmps.getD 66 undef = .int .i64 (i : Int) := hV.get 66 (by decide +kernel)
            exact ⟨.pointer (some ⟨g9, i * 7, none⟩), wanted_free rfl, by simp [execOp, go_sem, h65, h66, i0, ik], rfl⟩
          refine OweAllC.cons (owesC_val 0 (by decide +kernel) (by decide) rfl rfl fun k' a w1 x hk ha hG hV => ?_) ?_
          · skip
            have h67 : a.tmps.getD 67 undef = .pointer (some ⟨g9, i * 7, none⟩) := hV.get 67 (by decide +kernel)
            exact ⟨.agg xN.cells.toArray, wanted_free rfl, exec_load_rhm (.tmp 67) rfl g9 (i * 7) h67 xN (HX.out w1 (hG.2.1 (by omega))), rfl⟩
          refine OweAllC.cons (owesC_val 0 (by decide +kernel) (by decide) rfl rfl fun k' a w1 x hk ha hG hV => ?_) ?_
          · skip
            have h51 : a.tmps.getD 51 undef = .slice (some ⟨g9, 0, none⟩) k c9 := hV.get 51 (by decide +kernel)
            have h52 : a.tmps.getD 52 undef = .int .i64 (i : Int) := hV.get 52 (by decide +kernel)
            exact ⟨.pointer (some ⟨g9, i * 7, none⟩), wanted_free rfl, by simp [execOp, go_sem, h51, h52, i0, ik], rfl⟩
          refine OweAllC.cons (owesC_store 0 rfl rfl rfl fun a w1 x ha hG hx hV => ?_) ?_
          · skip
            have h69 : a.tmps.getD 69 undef = .pointer (some ⟨g9, i * 7, none⟩) := hV.get 69 (by decide +kernel)
            have h64 : a.tmps.getD 64 undef = .agg yN.cells.toArray := hV.get 64 (by decide +kernel)
            obtain ⟨w', hR, hM, hs⟩ := HW1.out w1 (hG.2.1 rfl)
            exact ⟨w', wanted_free rfl, hs _ a (.tmp 69) (.tmp 64) rfl h69 h64, hG.1.trans hM (fun _ _ h => h), (fun h => absurd h (by omega)), (fun _ => hR), (fun h => absurd h (by omega))⟩
          refine OweAllC.cons (owesC_val 1 (by decide +kernel) (by decide) rfl rfl fun k' a w1 x hk ha hG hV => ?_) ?_
          · skip
            have h53 : a.tmps.getD 53 undef = .slice (some ⟨g9, 0, none⟩) k c9 := hV.get 53 (by decide +kernel)
            have h57 : a.tmps.getD 57 undef = .int .i64 (jj : Int) := hV.get 57 (by decide +kernel)
            exact ⟨.pointer (some ⟨g9, jj * 7, none⟩), wanted_free rfl, by simp [execOp, go_sem, h53, h57, jj0, jjk], rfl⟩
          refine OweAllC.cons (owesC_store 1 rfl rfl rfl fun a w1 x ha hG hx hV => ?_) ?_
          · skip
            have h70 : a.tmps.getD 70 undef = .pointer (some ⟨g9, jj * 7, none⟩) := hV.get 70 (by decide +kernel)
            have h68 : a.tmps.getD 68 undef = .agg xN.cells.toArray := hV.get 68 (by decide +kernel)
            obtain ⟨w', hR, hM, hs⟩ := HW2.out w1 (hG.2.2.1 rfl)
            exact ⟨w', wanted_free rfl, hs _ a (.tmp 70) (.tmp 68) rfl h70 h68, hG.1.trans hM (fun _ _ h => h), (fun h => absurd h (by omega)), (fun h => absurd h (by omega)), (fun _ => hR)⟩
          exact OweAllC.nil
          ) ?_
        intro f wz xz hG hx hv
        first | (rename_i hK; refine hK _ _ ?_; clear hK) | (rename_i hK _; refine hK _ _ ?_; clear hK) | (rename_i hK _ _; refine hK _ _ ?_; clear hK) | (rename_i hK _ _ _; refine hK _ _ ?_; clear hK)
        clear hv hx
        simp only [dsts, puts, List.filterMap_cons, List.filterMap_nil, List.foldl_cons, List.foldl_nil, Act.put, List.setIfInBounds_toArray, List.set_cons_succ, List.set_cons_zero]
        obtain ⟨hmz, _, _, hz⟩ := hG
        have hrz := hz rfl
        have HN : Hid (Below w.heap.size w wz ∧ ∃ M : List RH, OrR w1 wz k (some ⟨g0, 0, none⟩) c D (some ⟨g9, 0, none⟩) c9 M) := Lib.hid (by
          have hO := HO.out
          have hg9 := hO.f _ rfl
          have hne := hO.ne _ _ rfl rfl
          have hns : ∀ i, i = g9 → ∀ cur, wr.heap[i]? ≠ some (.cells cur 9 (0, 0)) := by
            rintro i rfl
            exact rw_notS hO.rw _ ⟨_, rfl, rfl⟩
          refine ⟨HBW.out.trans (hmz.to_below HBW.out.size (by rintro i hi rfl; have := HB1.out.size; simp only at hg9; omega)), _, ⟨hO.d.len, hO.d.rw.kept hmz (fun a e q => by cases e; exact hne q), fun x hx => (hO.d.ok x hx).kept hmz hns, hO.d.b.trans (hmz.to_below hO.d.b.size (by rintro i hi rfl; simp only at hg9; omega)), hO.d.f⟩, HPM.out.trans hO.p, hrz, hO.ne, hO.f⟩)
        clear HG0 hmz hz hrz HO HBW HX HY HW1 HW2 HPM
        go_wp2_with fail
        go_roundw
        case rel => exact ⟨i + 1, by omega, by go_num, HN⟩
        case measure => simp [intOf]; omega
      · have hlt' : ¬ (i : Int) < (h : Int) := by omega
        obtain ⟨hbw, M, hO⟩ := HS.out
        have HO := Lib.hid hO
        have HBW := Lib.hid hbw
        clear hbw hO HS hlt hr1 hra hrb hw1 hj hh hkz
        have HDK : Hid (D.length = k) := Lib.hid HO.out.d.len
        have HMK : Hid (M.length = k) := Lib.hid (by rw [HO.out.p.length_eq, HO.out.d.len])
        have HLA := Lib.hid (lawNew (w := wr) (cap := c) HO.out.d.rw.rd HO.out.d.ok (by rw [HDK.out]; omega) (HT.out.old HBW.out))
        rw [HDK.out] at HLA
        obtain ⟨ec, hec⟩ : ∃ e, e = newE (D.map blkI) := ⟨_, rfl⟩
        obtain ⟨Z, hZ⟩ : ∃ Z, Z = newX (D.map blkI) := ⟨_, rfl⟩
        have hPB : (M.map blkI).Perm (D.map blkI) := HO.out.p.map blkI
        have HLB : Hid (∀ w', Below wr.heap.size wr w' → Calls Tryd.prog 9 #[.slice q9 k c9] w' fun r w1 => ∃ q c, r = .returned (.slice q k c) ∧ Below w'.heap.size w' w1 ∧ Calls Tryd.prog 8 #[.slice q k c] w1 fun r w2 => ∃ v, r = .returned (.tuple #[.agg #[v], .int .i64 ec]) ∧ TsV w2 v Z ∧ Below w1.heap.size w1 w2) := Lib.hid (fun w' hb => by
          have := lawNew (w := w') (cap := c9) (HO.out.rw.rd.old hb) (fun x hx => (HO.out.ok x hx).old hb) (by rw [HMK.out]; omega) ((HT.out.old HBW.out).old hb)
          rw [HMK.out, newE_perm hPB, newX_perm hPB, ← hec, ← hZ] at this
          exact this)
        rw [← hec, ← hZ] at HLA
        have HQ3 : Hid ((Tryd.prog.info? 27).map (·.size) = some 1) := Lib.hid (by kernel_rfl)
        have HONE : Hid (∀ (w' : World) (v : Value), TsV w' v Z → ∀ x ∈ (#[v] : Array Value).toList, x.oneCell' = true) := Lib.hid (fun w' v h => by
          obtain ⟨p, c, L, rfl, _⟩ := h
          intro x hx; simp at hx; rw [hx]; rfl)
        clear hec hZ hPB HDK HMK HO
        go_wp2_with fail
        refine HLA.out.mono ?_
        rintro r w5 ⟨q5, c5, rfl, hb5, hN5⟩
        have HN5 := Lib.hid hN5
        have HB5 := Lib.hid hb5
        clear hb5 hN5 HLA
        go_wp2_with fail
        refine HN5.out.mono ?_
        rintro r w6 ⟨tva, rfl, hva, hb6⟩
        have HVA0 := Lib.hid hva
        have HB6 := Lib.hid (HB5.out.trans (hb6.mono HB5.out.size))
        clear hva hb6 HN5 HB5
        go_upto_region 16 with (refine wpList_store_row rfl rfl 27 (.tmp 11) (.tmp 76) rfl w6.heap.size rfl 27 _ #[tva] rfl (heap_alloc_new w6 _) rfl HQ3.out (HONE.out _ _ HVA0.out) ?_)
        refine wp_gen (fun W => W.heap[w6.heap.size]? = some (.cells #[tva] 27 (0, 0)) ∧ Below w6.heap.size w6 W) (row_new w6 _ _ #[tva] 27 rfl) (fun W4 hW4 => ?_)
        have HB110 := Lib.hid hW4.1
        have HVA1 := Lib.hid (HVA0.out.old hW4.2)
        have HB7 := Lib.hid (HB6.out.trans (hW4.2.mono HB6.out.size))
        obtain ⟨g11, hg11⟩ : ∃ g, g = w6.heap.size := ⟨_, rfl⟩
        rw [← hg11] at HB110
        rw [← hg11]
        clear hW4 HVA0 HB6 hg11
        go_wp2_with fail
        refine (HLB.out W4 HB7.out).mono ?_
        rintro r w8 ⟨q8, c8, rfl, hb8, hN8⟩
        have HN8 := Lib.hid hN8
        have HB8 := Lib.hid hb8
        clear hb8 hN8 HLB
        go_wp2_with fail
        refine HN8.out.mono ?_
        rintro r w9 ⟨tvb, rfl, hvb, hb9⟩
        have hb49 := HB8.out.trans (hb9.mono HB8.out.size)
        have HVB0 := Lib.hid hvb
        have HVA2 := Lib.hid (HVA1.out.old hb49)
        have HB112 := Lib.hid ((hb49.block _ (Array.getElem?_eq_some_iff.1 HB110.out).1).trans HB110.out)
        have HB9 := Lib.hid (HB7.out.trans (hb49.mono HB7.out.size))
        clear hvb hb9 hb49 HN8 HB8 HVA1 HB110 HB7
        go_upto_region 17 with (refine wpList_store_row rfl rfl 27 (.tmp 13) (.tmp 82) rfl w9.heap.size rfl 27 _ #[tvb] rfl (heap_alloc_new w9 _) rfl HQ3.out (HONE.out _ _ HVB0.out) ?_)
        refine wp_gen (fun W => W.heap[w9.heap.size]? = some (.cells #[tvb] 27 (0, 0)) ∧ Below w9.heap.size w9 W) (row_new w9 _ _ #[tvb] 27 rfl) (fun W5 hW5 => ?_)
        have HB13 := Lib.hid hW5.1
        have HVB := Lib.hid (HVB0.out.old hW5.2)
        have HVA := Lib.hid (HVA2.out.old hW5.2)
        have HB11 := Lib.hid ((hW5.2.block _ (Array.getElem?_eq_some_iff.1 HB112.out).1).trans HB112.out)
        have HBE := Lib.hid (HBW.out.trans ((HB9.out.trans (hW5.2.mono HB9.out.size)).mono HBW.out.size))
        obtain ⟨g13, hg13⟩ : ∃ g, g = w9.heap.size := ⟨_, rfl⟩
        rw [← hg13] at HB13
        rw [← hg13]
        clear hW5 HVB0 HVA2 HB112 HB9 hg13 HONE HQ3 hlt' HH2
        refine wp_region_puts (fun t v w => VK (match t with
          | 84 => .eq (.int .i64 ec)
          | 85 => .eq (.int .i64 ec)
          | 86 => .eq (Value.bool true)
          | 87 => .eq (Value.bool true)
          | 88 => .eq (.agg #[tva])
          | 89 => .eq (.string ⟨(keyX Z).toArray⟩)
          | 90 => .eq (.agg #[tvb])
          | 91 => .eq (.string ⟨(keyX Z).toArray⟩)
          | 92 => .eq (Value.bool true)
          | 93 => .eq (Value.bool true)
          | 94 => .eq (Value.bool true)
          | 95 => .eq (.agg #[tva])
          | 96 => .eq (.string ⟨(tickX Z).toArray⟩)
          | 97 => .eq (.agg #[tvb])
          | 98 => .eq (.string ⟨(tickX Z).toArray⟩)
          | 99 => .eq (Value.bool true)
          | 100 => .eq (Value.bool true)
          | 101 => .eq (Value.bool true)
          | 102 => .eq (.agg #[tva])
          | 103 => .eq (.int .i64 (winsX Z))
          | 104 => .eq (.agg #[tvb])
          | 105 => .eq (.int .i64 (winsX Z))
          | 106 => .eq (Value.bool true)
          | 107 => .eq (Value.bool true)
          | 108 => .eq (Value.bool true)
          | 109 => .eq (.agg #[tva])
          | 110 => .eq (.agg #[tvb])
          | 111 => .eq (.int .i64 0)
          | 112 => .eq (Value.bool true)
          | 113 => .eq (Value.bool true)
          | 4 => .eq (Value.bool true)
          | _ => .any) v w) (fun w' => Below W5.heap.size W5 w') 114 (by kernel_rfl) (by decide +kernel) rfl (Below.refl _ _).drew (by
          refine OweAll.cons (owesK rfl rfl fun a w1 ha hG hV => ?_) ?_
          · skip
            have h12 := ha.outer 12 (by decide +kernel)
            simp only [Act.eval] at h12
            exact ⟨.int .i64 ec, w1, wanted_free rfl, by simp [execOp, go_sem, h12], Below.refl _ _, rfl⟩
          refine OweAll.cons (owesK rfl rfl fun a w1 ha hG hV => ?_) ?_
          · skip
            have h14 := ha.outer 14 (by decide +kernel)
            simp only [Act.eval] at h14
            exact ⟨.int .i64 ec, w1, wanted_free rfl, by simp [execOp, go_sem, h14], Below.refl _ _, rfl⟩
          refine OweAll.cons (owesK rfl rfl fun a w1 ha hG hV => ?_) ?_
          · skip
            have h84 : a.tmps.getD 84 undef = .int .i64 ec := hV.get 84 (by decide +kernel)
            have h85 : a.tmps.getD 85 undef = .int .i64 ec := hV.get 85 (by decide +kernel)
            exact ⟨Value.bool true, w1, wanted_free rfl, by simp [execOp, go_sem, h84, h85], Below.refl _ _, rfl⟩
          refine OweAll.cons (owesK rfl rfl fun a w1 ha hG hV => ?_) ?_
          · skip
            have h86 : a.tmps.getD 86 undef = Value.bool true := hV.get 86 (by decide +kernel)
            exact ⟨Value.bool true, w1, wanted_free rfl, by simp [execOp, go_sem, h86], Below.refl _ _, rfl⟩
          refine OweAll.cons (owesK rfl rfl fun a w1 ha hG hV => ?_) ?_
          · skip
            have h11 := ha.outer 11 (by decide +kernel)
            simp only [Act.eval] at h11
            have cc : w1.cell? ⟨g11, 0, none⟩ = some tva := cell_of_row w1 g11 0 _ _ _ ((hG.block _ (Array.getElem?_eq_some_iff.1 HB11.out).1).trans HB11.out)
            exact ⟨.agg #[tva], w1, (wanted_of (t := 87) rfl rfl (hV.get 87 (by decide +kernel))), by simp [execOp, go_sem, h11, cc], Below.refl _ _, rfl⟩
          refine OweAll.cons (owesK_call rfl rfl 10 fun a w1 ha hG hV => ?_) ?_
          · skip
            have h88 : a.tmps.getD 88 undef = .agg #[tva] := hV.get 88 (by decide +kernel)
            refine ⟨#[.agg #[tva]], (wanted_of (t := 87) rfl rfl (hV.get 87 (by decide +kernel))), by simp [go_sem, h88], ?_⟩
            refine ((HVA.out.old hG).key).mono ?_
            rintro r u2 ⟨rfl, hb⟩; exact ⟨_, rfl, rfl, hb⟩
          refine OweAll.cons (owesK rfl rfl fun a w1 ha hG hV => ?_) ?_
          · skip
            have h13 := ha.outer 13 (by decide +kernel)
            simp only [Act.eval] at h13
            have cc : w1.cell? ⟨g13, 0, none⟩ = some tvb := cell_of_row w1 g13 0 _ _ _ ((hG.block _ (Array.getElem?_eq_some_iff.1 HB13.out).1).trans HB13.out)
            exact ⟨.agg #[tvb], w1, (wanted_of (t := 87) rfl rfl (hV.get 87 (by decide +kernel))), by simp [execOp, go_sem, h13, cc], Below.refl _ _, rfl⟩
          refine OweAll.cons (owesK_call rfl rfl 10 fun a w1 ha hG hV => ?_) ?_
          · skip
            have h90 : a.tmps.getD 90 undef = .agg #[tvb] := hV.get 90 (by decide +kernel)
            refine ⟨#[.agg #[tvb]], (wanted_of (t := 87) rfl rfl (hV.get 87 (by decide +kernel))), by simp [go_sem, h90], ?_⟩
            refine ((HVB.out.old hG).key).mono ?_
            rintro r u2 ⟨rfl, hb⟩; exact ⟨_, rfl, rfl, hb⟩
          refine OweAll.cons (owesK rfl rfl fun a w1 ha hG hV => ?_) ?_
          · skip
            have h89 : a.tmps.getD 89 undef = .string ⟨(keyX Z).toArray⟩ := hV.get 89 (by decide +kernel)
            have h91 : a.tmps.getD 91 undef = .string ⟨(keyX Z).toArray⟩ := hV.get 91 (by decide +kernel)
            exact ⟨Value.bool true, w1, (wanted_of (t := 87) rfl rfl (hV.get 87 (by decide +kernel))), by simp [execOp, go_sem, h89, h91], Below.refl _ _, rfl⟩
          refine OweAll.cons (owesK rfl rfl fun a w1 ha hG hV => ?_) ?_
          · skip
            have h87 : a.tmps.getD 87 undef = Value.bool true := hV.get 87 (by decide +kernel)
            have h92 : a.tmps.getD 92 undef = Value.bool true := hV.get 92 (by decide +kernel)
            exact ⟨Value.bool true, w1, wanted_free rfl, by simp [execOp, go_sem, h87, h92], Below.refl _ _, rfl⟩
          refine OweAll.cons (owesK rfl rfl fun a w1 ha hG hV => ?_) ?_
          · skip
            have h93 : a.tmps.getD 93 undef = Value.bool true := hV.get 93 (by decide +kernel)
            exact ⟨Value.bool true, w1, wanted_free rfl, by simp [execOp, go_sem, h93], Below.refl _ _, rfl⟩
          refine OweAll.cons (owesK rfl rfl fun a w1 ha hG hV => ?_) ?_
          · skip
            have h11 := ha.outer 11 (by decide +kernel)
            simp only [Act.eval] at h11
            have cc : w1.cell? ⟨g11, 0, none⟩ = some tva := cell_of_row w1 g11 0 _ _ _ ((hG.block _ (Array.getElem?_eq_some_iff.1 HB11.out).1).trans HB11.out)
            exact ⟨.agg #[tva], w1, (wanted_of (t := 94) rfl rfl (hV.get 94 (by decide +kernel))), by simp [execOp, go_sem, h11, cc], Below.refl _ _, rfl⟩
          refine OweAll.cons (owesK_call rfl rfl 11 fun a w1 ha hG hV => ?_) ?_
          · skip
            have h95 : a.tmps.getD 95 undef = .agg #[tva] := hV.get 95 (by decide +kernel)
            refine ⟨#[.agg #[tva]], (wanted_of (t := 94) rfl rfl (hV.get 94 (by decide +kernel))), by simp [go_sem, h95], ?_⟩
            refine ((HVA.out.old hG).ticket).mono ?_
            rintro r u2 ⟨rfl, hb⟩; exact ⟨_, rfl, rfl, hb⟩
          refine OweAll.cons (owesK rfl rfl fun a w1 ha hG hV => ?_) ?_
          · skip
            have h13 := ha.outer 13 (by decide +kernel)
            simp only [Act.eval] at h13
            have cc : w1.cell? ⟨g13, 0, none⟩ = some tvb := cell_of_row w1 g13 0 _ _ _ ((hG.block _ (Array.getElem?_eq_some_iff.1 HB13.out).1).trans HB13.out)
            exact ⟨.agg #[tvb], w1, (wanted_of (t := 94) rfl rfl (hV.get 94 (by decide +kernel))), by simp [execOp, go_sem, h13, cc], Below.refl _ _, rfl⟩
          refine OweAll.cons (owesK_call rfl rfl 11 fun a w1 ha hG hV => ?_) ?_
          · skip
            have h97 : a.tmps.getD 97 undef = .agg #[tvb] := hV.get 97 (by decide +kernel)
            refine ⟨#[.agg #[tvb]], (wanted_of (t := 94) rfl rfl (hV.get 94 (by decide +kernel))), by simp [go_sem, h97], ?_⟩
            refine ((HVB.out.old hG).ticket).mono ?_
            rintro r u2 ⟨rfl, hb⟩; exact ⟨_, rfl, rfl, hb⟩
          refine OweAll.cons (owesK rfl rfl fun a w1 ha hG hV => ?_) ?_
          · skip
            have h96 : a.tmps.getD 96 undef = .string ⟨(tickX Z).toArray⟩ := hV.get 96 (by decide +kernel)
            have h98 : a.tmps.getD 98 undef = .string ⟨(tickX Z).toArray⟩ := hV.get 98 (by decide +kernel)
            exact ⟨Value.bool true, w1, (wanted_of (t := 94) rfl rfl (hV.get 94 (by decide +kernel))), by simp [execOp, go_sem, h96, h98], Below.refl _ _, rfl⟩
          refine OweAll.cons (owesK rfl rfl fun a w1 ha hG hV => ?_) ?_
          · skip
            have h94 : a.tmps.getD 94 undef = Value.bool true := hV.get 94 (by decide +kernel)
            have h99 : a.tmps.getD 99 undef = Value.bool true := hV.get 99 (by decide +kernel)
            exact ⟨Value.bool true, w1, wanted_free rfl, by simp [execOp, go_sem, h94, h99], Below.refl _ _, rfl⟩
          refine OweAll.cons (owesK rfl rfl fun a w1 ha hG hV => ?_) ?_
          · skip
            have h100 : a.tmps.getD 100 undef = Value.bool true := hV.get 100 (by decide +kernel)
            exact ⟨Value.bool true, w1, wanted_free rfl, by simp [execOp, go_sem, h100], Below.refl _ _, rfl⟩
          refine OweAll.cons (owesK rfl rfl fun a w1 ha hG hV => ?_) ?_
          · skip
            have h11 := ha.outer 11 (by decide +kernel)
            simp only [Act.eval] at h11
            have cc : w1.cell? ⟨g11, 0, none⟩ = some tva := cell_of_row w1 g11 0 _ _ _ ((hG.block _ (Array.getElem?_eq_some_iff.1 HB11.out).1).trans HB11.out)
            exact ⟨.agg #[tva], w1, (wanted_of (t := 101) rfl rfl (hV.get 101 (by decide +kernel))), by simp [execOp, go_sem, h11, cc], Below.refl _ _, rfl⟩
          refine OweAll.cons (owesK_call rfl rfl 12 fun a w1 ha hG hV => ?_) ?_
          · skip
            have h102 : a.tmps.getD 102 undef = .agg #[tva] := hV.get 102 (by decide +kernel)
            refine ⟨#[.agg #[tva]], (wanted_of (t := 101) rfl rfl (hV.get 101 (by decide +kernel))), by simp [go_sem, h102], ?_⟩
            refine ((HVA.out.old hG).wins).mono ?_
            rintro r u2 ⟨rfl, hb⟩; exact ⟨_, rfl, rfl, hb⟩
          refine OweAll.cons (owesK rfl rfl fun a w1 ha hG hV => ?_) ?_
          · skip
            have h13 := ha.outer 13 (by decide +kernel)
            simp only [Act.eval] at h13
            have cc : w1.cell? ⟨g13, 0, none⟩ = some tvb := cell_of_row w1 g13 0 _ _ _ ((hG.block _ (Array.getElem?_eq_some_iff.1 HB13.out).1).trans HB13.out)
            exact ⟨.agg #[tvb], w1, (wanted_of (t := 101) rfl rfl (hV.get 101 (by decide +kernel))), by simp [execOp, go_sem, h13, cc], Below.refl _ _, rfl⟩
          refine OweAll.cons (owesK_call rfl rfl 12 fun a w1 ha hG hV => ?_) ?_
          · skip
            have h104 : a.tmps.getD 104 undef = .agg #[tvb] := hV.get 104 (by decide +kernel)
            refine ⟨#[.agg #[tvb]], (wanted_of (t := 101) rfl rfl (hV.get 101 (by decide +kernel))), by simp [go_sem, h104], ?_⟩
            refine ((HVB.out.old hG).wins).mono ?_
            rintro r u2 ⟨rfl, hb⟩; exact ⟨_, rfl, rfl, hb⟩
          refine OweAll.cons (owesK rfl rfl fun a w1 ha hG hV => ?_) ?_
          · skip
            have h103 : a.tmps.getD 103 undef = .int .i64 (winsX Z) := hV.get 103 (by decide +kernel)
            have h105 : a.tmps.getD 105 undef = .int .i64 (winsX Z) := hV.get 105 (by decide +kernel)
            exact ⟨Value.bool true, w1, (wanted_of (t := 101) rfl rfl (hV.get 101 (by decide +kernel))), by simp [execOp, go_sem, h103, h105], Below.refl _ _, rfl⟩
          refine OweAll.cons (owesK rfl rfl fun a w1 ha hG hV => ?_) ?_
          · skip
            have h101 : a.tmps.getD 101 undef = Value.bool true := hV.get 101 (by decide +kernel)
            have h106 : a.tmps.getD 106 undef = Value.bool true := hV.get 106 (by decide +kernel)
            exact ⟨Value.bool true, w1, wanted_free rfl, by simp [execOp, go_sem, h101, h106], Below.refl _ _, rfl⟩
          refine OweAll.cons (owesK rfl rfl fun a w1 ha hG hV => ?_) ?_
          · skip
            have h107 : a.tmps.getD 107 undef = Value.bool true := hV.get 107 (by decide +kernel)
            exact ⟨Value.bool true, w1, wanted_free rfl, by simp [execOp, go_sem, h107], Below.refl _ _, rfl⟩
          refine OweAll.cons (owesK rfl rfl fun a w1 ha hG hV => ?_) ?_
          · skip
            have h11 := ha.outer 11 (by decide +kernel)
            simp only [Act.eval] at h11
            have cc : w1.cell? ⟨g11, 0, none⟩ = some tva := cell_of_row w1 g11 0 _ _ _ ((hG.block _ (Array.getElem?_eq_some_iff.1 HB11.out).1).trans HB11.out)
            exact ⟨.agg #[tva], w1, (wanted_of (t := 108) rfl rfl (hV.get 108 (by decide +kernel))), by simp [execOp, go_sem, h11, cc], Below.refl _ _, rfl⟩
          refine OweAll.cons (owesK rfl rfl fun a w1 ha hG hV => ?_) ?_
          · skip
            have h13 := ha.outer 13 (by decide +kernel)
            simp only [Act.eval] at h13
            have cc : w1.cell? ⟨g13, 0, none⟩ = some tvb := cell_of_row w1 g13 0 _ _ _ ((hG.block _ (Array.getElem?_eq_some_iff.1 HB13.out).1).trans HB13.out)
            exact ⟨.agg #[tvb], w1, (wanted_of (t := 108) rfl rfl (hV.get 108 (by decide +kernel))), by simp [execOp, go_sem, h13, cc], Below.refl _ _, rfl⟩
          refine OweAll.cons (owesK_call rfl rfl 13 fun a w1 ha hG hV => ?_) ?_
          · skip
            have h109 : a.tmps.getD 109 undef = .agg #[tva] := hV.get 109 (by decide +kernel)
            have h110 : a.tmps.getD 110 undef = .agg #[tvb] := hV.get 110 (by decide +kernel)
            refine ⟨#[.agg #[tva], .agg #[tvb]], (wanted_of (t := 108) rfl rfl (hV.get 108 (by decide +kernel))), by simp [go_sem, h109, h110], ?_⟩
            refine (TsV.compare (HVA.out.old hG) (HVB.out.old hG)).mono ?_
            rintro r u2 ⟨rfl, hb⟩; exact ⟨_, rfl, (by show Value.int _ _ = _; rw [cmpB_self, cmpB_self]; rfl), hb⟩
          refine OweAll.cons (owesK rfl rfl fun a w1 ha hG hV => ?_) ?_
          · skip
            have h111 : a.tmps.getD 111 undef = .int .i64 0 := hV.get 111 (by decide +kernel)
            exact ⟨Value.bool true, w1, (wanted_of (t := 108) rfl rfl (hV.get 108 (by decide +kernel))), by simp [execOp, go_sem, h111], Below.refl _ _, rfl⟩
          refine OweAll.cons (owesK rfl rfl fun a w1 ha hG hV => ?_) ?_
          · skip
            have h108 : a.tmps.getD 108 undef = Value.bool true := hV.get 108 (by decide +kernel)
            have h112 : a.tmps.getD 112 undef = Value.bool true := hV.get 112 (by decide +kernel)
            exact ⟨Value.bool true, w1, wanted_free rfl, by simp [execOp, go_sem, h108, h112], Below.refl _ _, rfl⟩
          refine OweAll.cons (owesK rfl rfl fun a w1 ha hG hV => ?_) ?_
          · skip
            have h113 : a.tmps.getD 113 undef = Value.bool true := hV.get 113 (by decide +kernel)
            exact ⟨Value.bool true, w1, wanted_free rfl, by simp [execOp, go_sem, h113], Below.refl _ _, rfl⟩
          exact OweAll.nil
          ) ?_
        intro f wz hG hv
        have e4 : f 4 = Value.bool true := hv 30 _ 4 rfl rfl
        rename_i hK
        refine hK _ _ ?_
        clear hK hv
        simp only [dsts, puts, List.filterMap_cons, List.filterMap_nil, List.foldl_cons, List.foldl_nil, Act.put, List.setIfInBounds_toArray, List.set_cons_succ, List.set_cons_zero, e4]
        clear e4
        have HE := Lib.hid (HBE.out.trans (hG.mono HBE.out.size))
        clear hG
        go_wp2_with fail
        go_ret
        exact ⟨rfl, HE.out⟩
end Go.Proofs.YtlhndibfdccohaaDoor
