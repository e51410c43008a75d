import Derived.Test.YtepibfpdkjkdjaaDoorN1
import Derived.Test.YtepibfpdkjkdjaaDoorNum2
import Derived.Test.YtepibfpdkjkdjaaDoorLaw
import Derived.Deep.CutBlock
import Derived.StillTailTactics
import Derived.BigRegion
namespace Go.Proofs.YtepibfpdkjkdjaaDoor
open Go.RowKit

/-- While it is added. -/
structure AddR (W : World) (g n x y i : Nat) (S : List Nat) (c : Nat) (wr : World) : Prop where
  s : Sl .u32 38 wr (some ⟨g, 0, none⟩) (n + 1) S
  len : S.length = n + 1
  lt : ∀ z ∈ S, z < 4294967296
  zero : ∀ t (h : t < S.length), i ≤ t → S[t] = 0
  val : vl 4294967296 S + 4294967296 ^ i * c = x % 4294967296 ^ i + y % 4294967296 ^ i
  c1 : c ≤ 1
  m : Mod (· = g) W wr
theorem set_lt {l : List Nat} {b i v : Nat} (h : ∀ z ∈ l, z < b) (hv : v < b) : ∀ z ∈ l.set i v, z < b := by
  intro z hz
  rcases List.mem_or_eq_of_mem_set hz with h1 | h1
  · exact h z h1
  · omega
theorem set_zero {l : List Nat} {i v : Nat} (h : ∀ t (h : t < l.length), i ≤ t → l[t] = 0) : ∀ t (h : t < (l.set i v).length), i + 1 ≤ t → (l.set i v)[t] = 0 := by
  intro t ht hi
  rw [List.getElem_set_ne (by omega)]
  exact h t (by simpa using ht) (by omega)
theorem AddR.next {W : World} {g n x y i : Nat} {S : List Nat} {c : Nat} {wr : World} (h : AddR W g n x y i S c wr) (hi : i ≤ n) (s : Nat) (hs : s = c + x / 4294967296 ^ i % 4294967296 + y / 4294967296 ^ i % 4294967296) :
    AddR W g n x y (i + 1) (S.set i (s % 4294967296)) (s / 4294967296) (wr.setCell ⟨g, i, none⟩ (.int .u32 ((s % 4294967296 : Nat) : Int))) := by
  have hl : i < S.length := by rw [h.len]; omega
  have hz := h.zero i hl (Nat.le_refl _)
  have hv := vl_set 4294967296 S i (s % 4294967296) hl
  rw [hz, Nat.mul_zero, Nat.add_zero] at hv
  refine ⟨h.s.set _ _, by simpa using h.len, set_lt h.lt (Nat.mod_lt _ (by decide)), set_zero h.zero, ?_, ?_, h.m.setCell (fun _ => rfl) _⟩
  · rw [hv]; exact add_step _ x y i _ c s hs h.val
  · have h1 := h.c1
    have h2 : x / 4294967296 ^ i % 4294967296 < 4294967296 := Nat.mod_lt _ (by decide)
    have h3 : y / 4294967296 ^ i % 4294967296 < 4294967296 := Nat.mod_lt _ (by decide)
    generalize x / 4294967296 ^ i % 4294967296 = dx at *
    generalize y / 4294967296 ^ i % 4294967296 = dy at *
    omega

set_option maxHeartbeats 1000000 in
theorem add_any (p q : Option Addr) (cp cq x y : Nat) (w : World) (hx : NatIn w p cp x) (hy : NatIn w q cq y) (lx : (lb x).length ≤ 100000) (ly : (lb y).length ≤ 100000) :
    Calls Tryd.prog 20 #[.agg #[.slice p (lb x).length cp], .agg #[.slice q (lb y).length cq]] w (NatOut w (x + y)) := by
  obtain ⟨z, hz⟩ : ∃ z, z = x + y := ⟨_, rfl⟩
  rw [← hz]
  have Hz := Lib.hid hz
  clear hz
  go_enter Tryd.func20, Tryd.ntmps20
  go_upto_region 3 with fail
  obtain ⟨P, rfl⟩ : ∃ P, P = q := ⟨_, rfl⟩
  obtain ⟨C, rfl⟩ : ∃ C, C = cq := ⟨_, rfl⟩
  obtain ⟨X, rfl⟩ : ∃ X, X = y := ⟨_, rfl⟩
  obtain ⟨Q, rfl⟩ : ∃ Q, Q = p := ⟨_, rfl⟩
  obtain ⟨D, rfl⟩ : ∃ D, D = cp := ⟨_, rfl⟩
  obtain ⟨Y, rfl⟩ : ∃ Y, Y = x := ⟨_, rfl⟩
  have hX := hy
  have hY := hx
  have lX := ly
  have lY := lx
  have hle0 : (lb Y).length ≤ (lb X).length := by omega
  have HZ : Hid (z = X + Y) := Lib.hid (by rw [Hz.out, Nat.add_comm])
  clear hx hy lx ly Hz
  revert HZ hle0 lX lY hX hY
  rotate_left
  obtain ⟨P, rfl⟩ : ∃ P, P = p := ⟨_, rfl⟩
  obtain ⟨C, rfl⟩ : ∃ C, C = cp := ⟨_, rfl⟩
  obtain ⟨X, rfl⟩ : ∃ X, X = x := ⟨_, rfl⟩
  obtain ⟨Q, rfl⟩ : ∃ Q, Q = q := ⟨_, rfl⟩
  obtain ⟨D, rfl⟩ : ∃ D, D = cq := ⟨_, rfl⟩
  obtain ⟨Y, rfl⟩ : ∃ Y, Y = y := ⟨_, rfl⟩
  have hX := hx
  have hY := hy
  have lX := lx
  have lY := ly
  have hle0 : (lb Y).length ≤ (lb X).length := by omega
  have HZ : Hid (z = X + Y) := Hz
  clear hx hy lx ly Hz
  revert HZ hle0 lX lY hX hY
  all_goals
    intro hX hY lX lY hle0 HZ
    have h2 : Boxed (((w.alloc (.cells #[.slice P (lb X).length C] 25)).alloc (.cells #[.slice Q (lb Y).length D] 25)).alloc (.cells #[.slice none 0 0] 25)) w.heap.size 25 (.slice P (lb X).length C) := ((Boxed.new w _ _).alloc _).alloc _
    have h3 : Boxed (((w.alloc (.cells #[.slice P (lb X).length C] 25)).alloc (.cells #[.slice Q (lb Y).length D] 25)).alloc (.cells #[.slice none 0 0] 25)) (w.heap.size + 1) 25 (.slice Q (lb Y).length D) := by
      have := (Boxed.new (w.alloc (.cells #[.slice P (lb X).length C] 25)) 25 (.slice Q (lb Y).length D)).alloc (.cells #[.slice none 0 0] 25)
      rwa [World.size_alloc] at this
    have h4 : Boxed (((w.alloc (.cells #[.slice P (lb X).length C] 25)).alloc (.cells #[.slice Q (lb Y).length D] 25)).alloc (.cells #[.slice none 0 0] 25)) (w.heap.size + 1 + 1) 25 (.slice none 0 0) := by
      have := Boxed.new ((w.alloc (.cells #[.slice P (lb X).length C] 25)).alloc (.cells #[.slice Q (lb Y).length D] 25)) 25 (.slice none 0 0)
      rwa [World.size_alloc, World.size_alloc] at this
    have hB : Below w.heap.size w (((w.alloc (.cells #[.slice P (lb X).length C] 25)).alloc (.cells #[.slice Q (lb Y).length D] 25)).alloc (.cells #[.slice none 0 0] 25)) := (((Below.refl _ _).alloc (Nat.le_refl _) _).alloc (by simp) _).alloc (by simp; omega) _
    have hsz : (((w.alloc (.cells #[.slice P (lb X).length C] 25)).alloc (.cells #[.slice Q (lb Y).length D] 25)).alloc (.cells #[.slice none 0 0] 25)).heap.size = w.heap.size + 3 := by simp
    generalize (((w.alloc (.cells #[.slice P (lb X).length C] 25)).alloc (.cells #[.slice Q (lb Y).length D] 25)).alloc (.cells #[.slice none 0 0] 25)) = W at h2 h3 h4 hB hsz ⊢
    obtain ⟨nX, hnX⟩ : ∃ n, n = (lb X).length := ⟨_, rfl⟩
    obtain ⟨nY, hnY⟩ : ∃ n, n = (lb Y).length := ⟨_, rfl⟩
    rw [← hnX] at h2 lX ⊢
    rw [← hnY] at h3 lY ⊢
    replace hle0 := Lib.hid hle0
    have HnX := Lib.hid hnX
    have HnY := Lib.hid hnY
    clear hnX hnY
    have c2 := h2.cell
    have c3 := h3.cell
    have c4 := h4.cell
    have Hsz := Lib.hid hsz
    clear hsz
    go_upto_block 0 with (first | (at_make; refine wpList_make32 rfl _ _ rfl (nX + 1) _ _ rfl rfl (by go_num) (by go_num) (by omega) ?_; intro W1 hS1 hb1 hl1; have k2 := Boxed.below' h2 hb1 h2.lt; have k3 := Boxed.below' h3 hb1 h3.lt; have k4 := Boxed.below' h4 hb1 h4.lt; have d2 := k2.cell; have d3 := k3.cell; have f4 := k4.frozen; have d4 := k4.cell) | fail)
    clear c2 c3 c4 h2 h3 h4
    have hXP : NatIn W1 P C X := hX.below (hB.trans (hb1.mono (by rw [Hsz.out]; omega))) (fun a e => by subst e; exact hX.lt)
    have hYQ : NatIn W1 Q D Y := hY.below (hB.trans (hb1.mono (by rw [Hsz.out]; omega))) (fun a e => by subst e; exact hY.lt)
    have hW1 : Below w.heap.size w W1 := hB.trans (hb1.mono (by rw [Hsz.out]; omega))
    have bX : ∀ a, P = some a → a.block < W.heap.size := by rintro a rfl; have := hX.lt; rw [Hsz.out]; omega
    have bY : ∀ a, Q = some a → a.block < W.heap.size := by rintro a rfl; have := hY.lt; rw [Hsz.out]; omega
    have n2 : w.heap.size < W.heap.size := by rw [Hsz.out]; omega
    have n3 : w.heap.size + 1 < W.heap.size := by rw [Hsz.out]; omega
    have n4 : w.heap.size + 1 + 1 < W.heap.size := by rw [Hsz.out]; omega
    have hle : nY ≤ nX := by rw [HnX.out, HnY.out]; exact hle0.out
    generalize W.heap.size = g at hS1 bX bY n2 n3 n4 ⊢
    have hA0 : AddR W1 g nX X Y 0 (List.replicate (nX + 1) 0) 0 W1 := ⟨hS1, by simp, by intro z hz; rw [List.eq_of_mem_replicate hz]; decide, by intro t ht _; simp, by rw [vl_zeros]; simp [Nat.mod_one], by omega, Mod.refl _ _⟩
    clear hX hY hb1 hl1 hB d2 d3 d4 f4 hS1
    go_cut [6] (fun s6 wx => ∃ (S : List Nat) (c : Nat), s6 = .int .u64 (c : Int) ∧ AddR W1 g nX X Y nX S c wx)
    case first =>
      go_wp2_with fail
      go_loopw [6, 26] (fun s6 s26 wr => ∃ (i : Nat) (S : List Nat) (c : Nat), i ≤ nX ∧ s26 = .int .i64 (i : Int) ∧ s6 = .int .u64 (c : Int) ∧ AddR W1 g nX X Y i S c wr) (fun _ i _ => nX - (intOf i).toNat)
      case atStart => exact ⟨0, _, 0, by omega, rfl, rfl, hA0⟩
      case round =>
        clear hA0
        obtain ⟨i, S, c, hi, rfl, rfl, hA⟩ := hrel
        by_cases hin : i < nX
        · skip
          have hne : lb X ≠ [] := by intro e; have := HnX.out; rw [e] at this; simp at this; omega
          obtain ⟨gP, rfl⟩ := hXP.isPtr hne
          have hgP : gP < g := bX _ rfl
          have hXr := hXP.kept hA.m (by rintro a e; cases e; show ¬ gP = g; omega)
          have hil : i < (lb X).length := by rw [← HnX.out]; exact hin
          obtain ⟨dx, hdx⟩ : ∃ d, d = X / 4294967296 ^ i % 4294967296 := ⟨_, rfl⟩
          obtain ⟨dy, hdy⟩ : ∃ d, d = Y / 4294967296 ^ i % 4294967296 := ⟨_, rfl⟩
          have ldx : dx < 4294967296 := by rw [hdx]; exact Nat.mod_lt _ (by decide)
          have ldy : dy < 4294967296 := by rw [hdy]; exact Nat.mod_lt _ (by decide)
          have cx : wr.cell? ⟨gP, i, none⟩ = some (.int .u32 (dx : Int)) := by rw [hdx, ← dg_at 4294967296 (by decide) X i hil]; exact hXr.cell i hil
          have r3 := (Boxed.mod' k3 hA.m (by omega)).cell
          have hSl : i < S.length := by rw [hA.len]; omega
          have cS := hA.s.cell i hSl
          have fS := hA.s.froz i
          have c1 := hA.c1
          have i0 : (0 : Int) ≤ i := by omega
          have i1 : (i : Int) < nX := by omega
          have i2 : (i : Int) < nX + 1 := by omega
          generalize S[i] = old at cS
          obtain ⟨s, hs⟩ : ∃ s, s = c + dx + dy := ⟨_, rfl⟩
          have Hn := Lib.hid (hA.next (by omega) s (by rw [hs, hdx, hdy]))
          obtain ⟨v, hv⟩ : ∃ v, v = s % 4294967296 := ⟨_, rfl⟩
          obtain ⟨c2, hc2⟩ : ∃ c2, c2 = s / 4294967296 := ⟨_, rfl⟩
          rw [← hv, ← hc2] at Hn
          by_cases hiy : i < nY
          · have hne2 : lb Y ≠ [] := by intro e; have := HnY.out; rw [e] at this; simp at this; omega
            obtain ⟨gQ, rfl⟩ := hYQ.isPtr hne2
            have hgQ : gQ < g := bY _ rfl
            have hYr := hYQ.kept hA.m (by rintro a e; cases e; show ¬ gQ = g; omega)
            have hil2 : i < (lb Y).length := by rw [← HnY.out]; exact hiy
            have cy : wr.cell? ⟨gQ, i, none⟩ = some (.int .u32 (dy : Int)) := by rw [hdy, ← dg_at 4294967296 (by decide) Y i hil2]; exact hYr.cell i hil2
            have e1 : ((c : Int) + dx + dy) % 4294967296 = v := by omega
            have e2 : ((c : Int) + dx + dy) / 4294967296 = c2 := by omega
            have i3 : (i : Int) < nY := by omega
            clear hdx hdy hs hv hc2
            go_wp2_with fail
            go_roundw
            case rel => exact ⟨i + 1, _, c2, by omega, by go_num, rfl, Hn.out⟩
            case measure => simp [intOf]; omega
          · have hy0 : dy = 0 := by
              have h := dg_getD 4294967296 (by decide) Y i
              rw [List.getD_eq_getElem?_getD, List.getElem?_eq_none (by show (lb Y).length ≤ i; rw [← HnY.out]; omega)] at h
              rw [hdy, ← h]; rfl
            have e1 : ((c : Int) + dx) % 4294967296 = v := by omega
            have e2 : ((c : Int) + dx) / 4294967296 = c2 := by omega
            clear hdx hdy hs hv hc2 hy0
            go_wp2_with fail
            go_roundw
            case rel => exact ⟨i + 1, _, c2, by omega, by go_num, rfl, Hn.out⟩
            case measure => simp [intOf]; omega
        · obtain rfl : i = nX := by omega
          go_wp2_with fail
          go_meet
          exact ⟨S, c, rfl, hA⟩
    case rest =>
    obtain ⟨S, c, rfl, hA⟩ := hcut
    clear hA0
    rename World => wz
    have r2 := (Boxed.mod' k2 hA.m (by omega)).cell
    have hSl : nX < S.length := by rw [hA.len]; omega
    have cS := hA.s.cell nX hSl
    have fS := hA.s.froz nX
    have c1 := hA.c1
    have i0 : (0 : Int) ≤ nX := by omega
    have i1 : (nX : Int) < nX + 1 := by omega
    generalize S[nX] = old at cS
    have e1 : (c : Int) % 4294967296 = c := by omega
    have hval : Hid (vl 4294967296 (S.set nX c) = z) := Lib.hid (by
      have hv := vl_set 4294967296 S nX c hSl
      rw [hA.zero nX hSl (Nat.le_refl _), Nat.mul_zero, Nat.add_zero, hA.val] at hv
      have hx := lt_pow_dg 4294967296 (by decide) X
      have hy := lt_pow_dg 4294967296 (by decide) Y
      have hxn : X < 4294967296 ^ nX := by rw [HnX.out]; exact hx
      have hyn : Y < 4294967296 ^ nX := Nat.lt_of_lt_of_le hy (Nat.pow_le_pow_right (by decide) (by show (lb Y).length ≤ nX; rw [← HnY.out]; exact hle))
      rw [HZ.out, hv, Nat.mod_eq_of_lt hxn, Nat.mod_eq_of_lt hyn])
    have hTS := hA.s.set nX c
    have hTl : (S.set nX c).length = nX + 1 := by rw [List.length_set]; exact hA.len
    have hTb := set_lt (i := nX) hA.lt (show c < 4294967296 by omega)
    have hM2 : Mod (· = g) W1 (wz.setCell ⟨g, nX, none⟩ (.int .u32 (c : Int))) := hA.m.setCell (fun _ => rfl) _
    generalize S.set nX c = T at hval hTS hTl hTb
    clear hA hSl hle
    go_wp2_with fail
    generalize wz.setCell ⟨g, nX, none⟩ (.int .u32 (c : Int)) = wy at hTS hM2 ⊢
    clear cS fS r2 e1
    have htr := trim_any (some ⟨g, 0, none⟩) (nX + 1) T wy hTS hTb (by omega)
    rw [hTl, hval.out] at htr
    refine htr.mono ?_
    clear htr
    rintro r w' ⟨q, c', rfl, hN, hb, hq⟩
    have hm3 : Mod (· = g) W1 w' := hM2.trans (Mod.of_below hb) (by have := hTS.lt; intro i hi h; have := hM2.size; omega)
    have b4 := Boxed.mod' k4 hm3 (by omega)
    have hq2 : ∀ a, q = some a → w.heap.size + 1 + 1 < a.block := by rintro a rfl; rcases hq with h | h <;> cases h; exact n4
    have hB2 : Below w.heap.size w w' := hW1.trans (hm3.to_below (by have := hW1.size; omega) (by intro k hk h; omega))
    have c4 := b4.cell
    have f4 := b4.frozen
    clear hb hq hm3 hM2 hTS hTb k2 k3 k4 hW1 hXP hYQ bX bY
    go_wp2_with fail
    have c5 := (b4.set (.slice q (lb z).length c')).cell
    refine bodyPost_ret (v := .agg #[.slice q (lb z).length c']) (by simp [results, Tryd.results20, go_sem, c5]) rfl ⟨q, c', rfl, ?_, ?_, fun a e => by have := hq2 a e; omega⟩
    · exact hN.other ⟨w.heap.size + 1 + 1, 0, none⟩ _ (fun a e => by have := hq2 a e; show a.block ≠ w.heap.size + 1 + 1; omega)
    · exact hB2.setCell (p := ⟨w.heap.size + 1 + 1, 0, none⟩) (by show w.heap.size ≤ w.heap.size + 1 + 1; omega) _
end Go.Proofs.YtepibfpdkjkdjaaDoor
