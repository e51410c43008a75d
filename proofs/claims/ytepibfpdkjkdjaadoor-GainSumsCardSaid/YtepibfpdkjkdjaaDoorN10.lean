import Derived.Test.YtepibfpdkjkdjaaDoorN9
import Derived.StillTailTactics
namespace Go.Proofs.YtepibfpdkjkdjaaDoor
open Go.RowKit

/-- While it is taken away. -/
structure SubR (W : World) (pc : Option Addr) (n x y i : Nat) (S : List Nat) (c : Nat) (cs : Nat) (wr : World) : Prop where
  s : Sl .u32 38 wr pc cs S
  len : S.length = n
  lt : ∀ z ∈ S, z < 4294967296
  high : ∀ t (h : t < S.length), i ≤ t → S[t] = x / 4294967296 ^ t % 4294967296
  val : vl 4294967296 (S.take i) + y % 4294967296 ^ i = x % 4294967296 ^ i + 4294967296 ^ i * c
  c1 : c ≤ 1
  m : Mod (fun i => ∃ a, pc = some a ∧ i = a.block) W wr
theorem SubR.next {W : World} {g n x y i : Nat} {S : List Nat} {c cs : Nat} {wr : World} (h : SubR W (some ⟨g, 0, none⟩) n x y i S c cs wr) (hi : i < n) (dx dy : Nat) (hdx : dx = x / 4294967296 ^ i % 4294967296) (hdy : dy = y / 4294967296 ^ i % 4294967296) :
    SubR W (some ⟨g, 0, none⟩) n x y (i + 1) (S.set i ((4294967296 + dx - dy - c) % 4294967296)) (if dx < dy + c then 1 else 0) cs (wr.setCell ⟨g, i, none⟩ (.int .u32 (((4294967296 + dx - dy - c) % 4294967296 : Nat) : Int))) := by
  have hl : i < S.length := by rw [h.len]; exact hi
  have hst := sub_step 4294967296 x y i _ c dx dy (by decide) hdx hdy h.c1 h.val
  refine ⟨h.s.set _ _, by simpa using h.len, set_lt h.lt (Nat.mod_lt _ (by decide)), ?_, ?_, by split <;> omega, h.m.setCell (p := ⟨g, i, none⟩) (fun _ => ⟨⟨g, 0, none⟩, rfl, rfl⟩) _⟩
  · intro t ht hit
    rw [List.getElem_set_ne (by omega)]
    exact h.high t (by simpa using ht) (by omega)
  · have e : (S.set i ((4294967296 + dx - dy - c) % 4294967296)).take (i + 1) = S.take i ++ [(4294967296 + dx - dy - c) % 4294967296] := by
      rw [List.take_succ_eq_append_getElem (by simpa using hl), List.getElem_set_self, List.take_set_of_le (Nat.le_refl i)]
    rw [e, vl_app, List.length_take, Nat.min_eq_left (Nat.le_of_lt hl)]
    simp only [vl, Nat.mul_zero, Nat.add_zero]
    exact hst

/-- b is greater: nothing. -/
def SubNo (w : World) (r : Ending) (w' : World) : Prop := r = .returned (.tuple #[.agg #[.slice none 0 0], .bool false]) ∧ Below w.heap.size w w'
def SubYes (w : World) (z : Nat) (r : Ending) (w' : World) : Prop :=
  ∃ q c, r = .returned (.tuple #[.agg #[.slice q (lb z).length c], .bool true]) ∧ NatIn w' q c z ∧ Below w.heap.size w w' ∧ (∀ a, q = some a → w.heap.size ≤ a.block)

set_option maxHeartbeats 1000000 in
theorem sub_no (p q : Option Addr) (cp cq x y : Nat) (w : World) (hx : NatIn w p cp x) (hy : NatIn w q cq y) (lx : (lb x).length ≤ 100000) (hlt : x < y) :
    Calls Tryd.prog 19 #[.agg #[.slice p (lb x).length cp], .agg #[.slice q (lb y).length cq]] w (SubNo w) := by
  have e : cmpI x y = -1 := by unfold cmpI; rw [if_pos hlt]
  have hB : Below w.heap.size w (((w.alloc (.cells #[.slice p (lb x).length cp] 25)).alloc (.cells #[.slice q (lb y).length cq] 25)).alloc (.cells #[.slice none 0 0] 25)) := (((Below.refl _ _).alloc (Nat.le_refl _) _).alloc (by simp) _).alloc (by simp; omega) _
  have h4 : Boxed (((w.alloc (.cells #[.slice p (lb x).length cp] 25)).alloc (.cells #[.slice q (lb y).length cq] 25)).alloc (.cells #[.slice none 0 0] 25)) (w.heap.size + 1 + 1) 25 (.slice none 0 0) := by
    have := Boxed.new ((w.alloc (.cells #[.slice p (lb x).length cp] 25)).alloc (.cells #[.slice q (lb y).length cq] 25)) 25 (.slice none 0 0)
    rwa [World.size_alloc, World.size_alloc] at this
  have hc := cmp_any p q cp cq x y _ (hx.old hB) (hy.old hB) (by omega)
  rw [e] at hc
  have Hc := Lib.hid hc
  clear hc e
  go_enter Tryd.func19, Tryd.ntmps19
  go_wp2_with fail
  refine Hc.out.mono ?_
  rintro r w1 ⟨rfl, hb⟩
  have k4 := Boxed.below' h4 hb h4.lt
  have hB1 := hB.trans (hb.mono hB.size)
  have c4 := k4.cell
  have f4 := k4.frozen
  clear hB hb h4
  go_wp2_with fail
  have c5 := (k4.set (.slice none 0 0)).cell
  refine bodyPost_ret (v := .tuple #[.agg #[.slice none 0 0], .bool false]) (by simp [results, Tryd.results19, go_sem, c5]) rfl ⟨rfl, ?_⟩
  exact hB1.setCell (p := ⟨w.heap.size + 1 + 1, 0, none⟩) (by show w.heap.size ≤ w.heap.size + 1 + 1; omega) _

set_option maxHeartbeats 2000000 in
theorem sub_yes (p q : Option Addr) (cp cq x y : Nat) (w : World) (hx : NatIn w p cp x) (hy : NatIn w q cq y) (lx : (lb x).length ≤ 100000) (hle : Hid (y ≤ x)) :
    Calls Tryd.prog 19 #[.agg #[.slice p (lb x).length cp], .agg #[.slice q (lb y).length cq]] w (SubYes w (x - y)) := by
  obtain ⟨z, hz⟩ : ∃ z, z = x - y := ⟨_, rfl⟩
  rw [← hz]
  have HZ := Lib.hid hz
  clear hz
  have hB : Below w.heap.size w (((w.alloc (.cells #[.slice p (lb x).length cp] 25)).alloc (.cells #[.slice q (lb y).length cq] 25)).alloc (.cells #[.slice none 0 0] 25)) := (((Below.refl _ _).alloc (Nat.le_refl _) _).alloc (by simp) _).alloc (by simp; omega) _
  have h2 : Boxed (((w.alloc (.cells #[.slice p (lb x).length cp] 25)).alloc (.cells #[.slice q (lb y).length cq] 25)).alloc (.cells #[.slice none 0 0] 25)) w.heap.size 25 (.slice p (lb x).length cp) := ((Boxed.new w _ _).alloc _).alloc _
  have h3 : Boxed (((w.alloc (.cells #[.slice p (lb x).length cp] 25)).alloc (.cells #[.slice q (lb y).length cq] 25)).alloc (.cells #[.slice none 0 0] 25)) (w.heap.size + 1) 25 (.slice q (lb y).length cq) := by
    have := (Boxed.new (w.alloc (.cells #[.slice p (lb x).length cp] 25)) 25 (.slice q (lb y).length cq)).alloc (.cells #[.slice none 0 0] 25)
    rwa [World.size_alloc] at this
  have h4 : Boxed (((w.alloc (.cells #[.slice p (lb x).length cp] 25)).alloc (.cells #[.slice q (lb y).length cq] 25)).alloc (.cells #[.slice none 0 0] 25)) (w.heap.size + 1 + 1) 25 (.slice none 0 0) := by
    have := Boxed.new ((w.alloc (.cells #[.slice p (lb x).length cp] 25)).alloc (.cells #[.slice q (lb y).length cq] 25)) 25 (.slice none 0 0)
    rwa [World.size_alloc, World.size_alloc] at this
  have Hc := Lib.hid (cmp_any p q cp cq x y _ (hx.old hB) (hy.old hB) (by omega))
  have hcb : decide (cmpI x y < 0) = false := by have := hle.out; unfold cmpI; rw [if_neg (by omega)]; split <;> rfl
  have hly : (lb y).length ≤ (lb x).length := lb_le hle.out
  generalize cmpI x y = cv at Hc hcb
  go_enter Tryd.func19, Tryd.ntmps19
  go_wp2_with fail
  refine Hc.out.mono ?_
  clear Hc
  rintro r w1 ⟨rfl, hb⟩
  have k2 := Boxed.below' h2 hb h2.lt
  have k3 := Boxed.below' h3 hb h3.lt
  have k4 := Boxed.below' h4 hb h4.lt
  have hB1 := hB.trans (hb.mono hB.size)
  have hx1 := hx.old hB1
  have hy1 := hy.old hB1
  have hyl : ∀ a, q = some a → a.block < w.heap.size := by rintro a rfl; exact hy.lt
  have c2 := k2.cell
  clear hB hb h2 h3 h4 hx hy k2
  go_wp2_with fail
  refine (clone_any p cp (lb x) w1 hx1 (by omega)).mono ?_
  rintro r w2 ⟨pc, cc, rfl, hS, hb2, hf2⟩
  have k3' := Boxed.below' k3 hb2 k3.lt
  have k4' := Boxed.below' k4 hb2 k4.lt
  have hB2 := hB1.trans (hb2.mono hB1.size)
  have hy2 := hy1.old hb2
  have s1 := k4.lt
  have hf3 : ∀ a, pc = some a → w.heap.size + 2 < a.block := by intro a e; have := hf2 a e; omega
  clear c2 k3 k4 hB1 hx1 hy1 hb2 hf2 s1
  obtain ⟨n, hn⟩ : ∃ n, n = (lb x).length := ⟨_, rfl⟩
  rw [← hn] at lx hly ⊢
  have Hn := Lib.hid hn
  clear hn
  have hS' : Sl .u32 38 w2 pc cc (lb x) := hS
  have hR0 : SubR w2 pc n x y 0 (lb x) 0 cc w2 := by
    refine ⟨hS', Hn.out.symm, lb_lt x, ?_, by simp [vl, Nat.mod_one], by omega, Mod.refl _ _⟩
    intro t ht _
    exact dg_at 4294967296 (by decide) x t ht
  clear hS hS'
  obtain ⟨nY, hnY⟩ : ∃ m, m = (lb y).length := ⟨_, rfl⟩
  rw [← hnY] at hly k3' ⊢
  have HnY := Lib.hid hnY
  clear hnY
  go_upto_block 0 with fail
  go_cut [7] (fun s7 wx => ∃ (S : List Nat) (c : Nat), s7 = .int .u32 (c : Int) ∧ SubR w2 pc n x y n S c cc wx)
  case first =>
    go_wp2_with fail
    go_loopw [7, 21] (fun s7 s21 wr => ∃ (i : Nat) (S : List Nat) (c : Nat), i ≤ n ∧ s21 = .int .i64 (i : Int) ∧ s7 = .int .u32 (c : Int) ∧ SubR w2 pc n x y i S c cc wr) (fun _ i _ => n - (intOf i).toNat)
    case atStart => exact ⟨0, _, 0, by omega, rfl, rfl, hR0⟩
    case round =>
      clear hR0
      obtain ⟨i, S, c, hi, rfl, rfl, hR⟩ := hrel
      by_cases hin : i < n
      · have hiS : i < S.length := by rw [hR.len]; exact hin
        obtain ⟨g, rfl⟩ := hR.s.isPtr (by intro e; rw [e] at hiS; simp at hiS)
        have hg : w.heap.size + 2 < g := hf3 _ rfl
        obtain ⟨dx, hdx⟩ : ∃ d, d = x / 4294967296 ^ i % 4294967296 := ⟨_, rfl⟩
        obtain ⟨dy, hdy⟩ : ∃ d, d = y / 4294967296 ^ i % 4294967296 := ⟨_, rfl⟩
        have ldx : dx < 4294967296 := by rw [hdx]; exact Nat.mod_lt _ (by decide)
        have ldy : dy < 4294967296 := by rw [hdy]; exact Nat.mod_lt _ (by decide)
        have cx : wr.cell? ⟨g, i, none⟩ = some (.int .u32 (dx : Int)) := by rw [hdx, ← hR.high i hiS (Nat.le_refl _)]; exact hR.s.cell i hiS
        have fx := hR.s.froz i
        have r3 := (Boxed.mod' k3' hR.m (by rintro ⟨a, e, he⟩; cases e; have : w.heap.size + 1 = g := he; omega)).cell
        have i0 : (0 : Int) ≤ i := by omega
        have i1 : (i : Int) < n := by omega
        have c1 := hR.c1
        have Hn' := Lib.hid (hR.next hin dx dy hdx hdy)
        have hsb := sub32_any dx dy c wr ldx ldy c1
        obtain ⟨v, hv⟩ : ∃ v, v = (4294967296 + dx - dy - c) % 4294967296 := ⟨_, rfl⟩
        obtain ⟨c2, hc2⟩ : ∃ c2, c2 = if dx < dy + c then 1 else 0 := ⟨_, rfl⟩
        rw [← hv, ← hc2] at hsb Hn'
        have Hsb := Lib.hid hsb
        clear hsb hv hc2
        by_cases hiy : i < nY
        · have hiy2 : i < (lb y).length := by rw [← HnY.out]; exact hiy
          obtain ⟨gy, rfl⟩ := hy2.isPtr (by intro e; rw [e] at hiy2; simp at hiy2)
          have hgy : gy < w.heap.size := hyl _ rfl
          have hyr := hy2.kept hR.m (by rintro a e ⟨b, e', he⟩; cases e; cases e'; have : gy = g := he; omega)
          have cy : wr.cell? ⟨gy, i, none⟩ = some (.int .u32 (dy : Int)) := by rw [hdy, ← dg_at 4294967296 (by decide) y i hiy2]; exact hyr.cell i hiy2
          have i3 : (i : Int) < nY := by omega
          clear hdx hdy hyr hR
          go_wp2_with fail
          refine Hsb.out.mono ?_
          rintro r w3 ⟨rfl, rfl⟩
          go_wp2_with fail
          go_roundw
          case rel => exact ⟨i + 1, _, c2, by omega, by go_num, rfl, Hn'.out⟩
          case measure => simp [intOf]; omega
        · have hy0 : dy = 0 := by
            have h := dg_getD 4294967296 (by decide) y i
            rw [List.getD_eq_getElem?_getD, List.getElem?_eq_none (by show (lb y).length ≤ i; rw [← HnY.out]; omega)] at h
            rw [hdy, ← h]; rfl
          subst hy0
          clear hdx hdy hR
          go_wp2_with fail
          refine Hsb.out.mono ?_
          rintro r w3 ⟨rfl, rfl⟩
          go_wp2_with fail
          go_roundw
          case rel => exact ⟨i + 1, _, c2, by omega, by go_num, rfl, Hn'.out⟩
          case measure => simp [intOf]; omega
      · obtain rfl : i = n := by omega
        go_wp2_with fail
        go_meet
        exact ⟨S, c, rfl, hR⟩
  case rest =>
  obtain ⟨S, c, rfl, hR⟩ := hcut
  rename World => wz
  have hval : Hid (vl 4294967296 S = z) := Lib.hid (by
    have hv := hR.val
    have hx := lt_pow_dg 4294967296 (by decide) x
    have hxn : x < 4294967296 ^ n := by rw [Hn.out]; exact hx
    have hle' := hle.out
    have hyn : y < 4294967296 ^ n := by omega
    have hvl := vl_lt 4294967296 S hR.lt
    rw [hR.len] at hvl
    rw [List.take_of_length_le (by rw [hR.len]; exact Nat.le_refl _), Nat.mod_eq_of_lt hxn, Nat.mod_eq_of_lt hyn] at hv
    have hc := hR.c1
    rw [HZ.out]
    generalize 4294967296 ^ n = P at *
    rcases (show c = 0 ∨ c = 1 by omega) with rfl | rfl
    · omega
    · omega)
  have hTS := hR.s
  have hTl := hR.len
  have hTb := hR.lt
  have hM2 := hR.m
  have k4z := Boxed.mod' k4' hM2 (by rintro ⟨a, e, he⟩; have := hf3 a e; omega)
  have hBz := hB2.trans (hM2.to_below (B := w.heap.size) hB2.size (by rintro k hk ⟨a, e, he⟩; have := hf3 a e; omega))
  clear hR hR0 hM2 hB2 k4' k3' hy2
  go_wp2_with fail
  have htr := trim_any pc cc S wz hTS hTb (by omega)
  rw [hTl, hval.out] at htr
  refine htr.mono ?_
  clear htr
  rintro r w' ⟨q3, c', rfl, hN, hb, hq⟩
  have b4 := Boxed.below' k4z hb k4z.lt
  have hB3 := hBz.trans (hb.mono hBz.size)
  have hq2 : ∀ a, q3 = some a → w.heap.size + 2 < a.block := by
    rintro a rfl
    rcases hq with h | h
    · cases h
    · exact hf3 a h.symm
  have c4 := b4.cell
  have f4 := b4.frozen
  clear hb hq hBz k4z hTS hTb
  go_wp2_with fail
  have c5 := (b4.set (.slice q3 (lb z).length c')).cell
  refine bodyPost_ret (v := .tuple #[.agg #[.slice q3 (lb z).length c'], .bool true]) (by simp [results, Tryd.results19, go_sem, c5]) rfl ⟨q3, c', rfl, ?_, ?_, fun a e => by have := hq2 a e; omega⟩
  · exact hN.other ⟨w.heap.size + 1 + 1, 0, none⟩ _ (fun a e => by have := hq2 a e; show a.block ≠ w.heap.size + 1 + 1; omega)
  · exact hB3.setCell (p := ⟨w.heap.size + 1 + 1, 0, none⟩) (by show w.heap.size ≤ w.heap.size + 1 + 1; omega) _
end Go.Proofs.YtepibfpdkjkdjaaDoor
