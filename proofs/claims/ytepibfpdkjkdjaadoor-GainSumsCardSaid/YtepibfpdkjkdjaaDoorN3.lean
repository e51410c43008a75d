import Derived.Test.YtepibfpdkjkdjaaDoorN2
namespace Go.Proofs.YtepibfpdkjkdjaaDoor
open Go.RowKit

/-- While it is multiplied: i limbs of x are. -/
structure MulR (W : World) (g n nY x y i : Nat) (S : List Nat) (wr : World) : Prop where
  s : Sl .u32 38 wr (some ⟨g, 0, none⟩) n S
  len : S.length = n
  lt : ∀ z ∈ S, z < 4294967296
  zero : ∀ t (h : t < S.length), i + nY ≤ t → S[t] = 0
  val : vl 4294967296 S = x % 4294967296 ^ i * y
  m : Mod (· = g) W wr
/-- .. and j limbs of y with the next one. -/
structure MulI (W : World) (g n nY x y i j : Nat) (S : List Nat) (c : Nat) (wr : World) : Prop where
  s : Sl .u32 38 wr (some ⟨g, 0, none⟩) n S
  len : S.length = n
  lt : ∀ z ∈ S, z < 4294967296
  zero : ∀ t (h : t < S.length), i + nY ≤ t → S[t] = 0
  val : vl 4294967296 S + 4294967296 ^ i * 4294967296 ^ j * c = x % 4294967296 ^ i * y + 4294967296 ^ i * (x / 4294967296 ^ i % 4294967296) * (y % 4294967296 ^ j)
  c1 : c < 4294967296
  m : Mod (· = g) W wr
theorem MulR.begin {W : World} {g n nY x y i : Nat} {S : List Nat} {wr : World} (h : MulR W g n nY x y i S wr) : MulI W g n nY x y i 0 S 0 wr :=
  ⟨h.s, h.len, h.lt, h.zero, by rw [h.val]; simp [Nat.mod_one], by decide, h.m⟩
theorem MulI.next {W : World} {g n nY x y i j : Nat} {S : List Nat} {c : Nat} {wr : World} (h : MulI W g n nY x y i j S c wr) (hl : i + j < S.length) (hj : j < nY) (s : Nat)
    (hs : s = c + (x / 4294967296 ^ i % 4294967296) * (y / 4294967296 ^ j % 4294967296) + S[i + j]) :
    MulI W g n nY x y i (j + 1) (S.set (i + j) (s % 4294967296)) (s / 4294967296) (wr.setCell ⟨g, i + j, none⟩ (.int .u32 ((s % 4294967296 : Nat) : Int))) := by
  have hv := vl_set 4294967296 S (i + j) (s % 4294967296) hl
  rw [Nat.pow_add] at hv
  refine ⟨h.s.set _ _, by simpa using h.len, set_lt h.lt (Nat.mod_lt _ (by decide)), ?_, mul_step _ y j _ _ _ _ c s _ _ hs h.val hv, ?_, h.m.setCell (fun _ => rfl) _⟩
  · intro t ht hit
    rw [List.getElem_set_ne (by omega)]
    exact h.zero t (by simpa using ht) hit
  · have h1 := h.c1
    have h2 : x / 4294967296 ^ i % 4294967296 ≤ 4294967295 := Nat.le_of_lt_succ (Nat.mod_lt _ (by decide))
    have h3 : y / 4294967296 ^ j % 4294967296 ≤ 4294967295 := Nat.le_of_lt_succ (Nat.mod_lt _ (by decide))
    have h4 := h.lt S[i + j] (List.getElem_mem _)
    have h5 := Nat.mul_le_mul h2 h3
    generalize (x / 4294967296 ^ i % 4294967296) * (y / 4294967296 ^ j % 4294967296) = p at *
    generalize S[i + j] = r at *
    omega
theorem MulI.fin {W : World} {g n nY x y i : Nat} {S : List Nat} {c : Nat} {wr : World} (h : MulI W g n nY x y i nY S c wr) (hl : i + nY < S.length) (hy : y < 4294967296 ^ nY) :
    MulR W g n nY x y (i + 1) (S.set (i + nY) c) (wr.setCell ⟨g, i + nY, none⟩ (.int .u32 (c : Int))) := by
  have hv := vl_set 4294967296 S (i + nY) c hl
  rw [h.zero (i + nY) hl (Nat.le_refl _), Nat.mul_zero, Nat.add_zero, Nat.pow_add, h.val, Nat.mod_eq_of_lt hy] at hv
  refine ⟨h.s.set _ _, by simpa using h.len, set_lt h.lt h.c1, ?_, ?_, h.m.setCell (fun _ => rfl) _⟩
  · intro t ht hit
    rw [List.getElem_set_ne (by omega)]
    exact h.zero t (by simpa using ht) (by omega)
  · rw [hv, mod_succ, Nat.add_mul]

set_option maxHeartbeats 2000000 in
theorem mul_any (p q : Option Addr) (cp cq x y : Nat) (w : World) (hx : NatIn w p cp x) (hy : NatIn w q cq y) (lx : (lb x).length ≤ 100000) (ly : (lb y).length ≤ 100000) :
    Calls Tryd.prog 24 #[.agg #[.slice p (lb x).length cp], .agg #[.slice q (lb y).length cq]] w (NatOut w (x * y)) := by
  obtain ⟨z, hz⟩ : ∃ z, z = x * y := ⟨_, rfl⟩
  rw [← hz]
  have HZ := Lib.hid hz
  clear hz
  go_enter Tryd.func24, Tryd.ntmps24
  go_upto_region 1 with fail
  have h2 : Boxed (((w.alloc (.cells #[.slice p (lb x).length cp] 25)).alloc (.cells #[.slice q (lb y).length cq] 25)).alloc (.cells #[.slice none 0 0] 25)) w.heap.size 25 (.slice p (lb x).length cp) := ((Boxed.new w _ _).alloc _).alloc _
  have h3 : Boxed (((w.alloc (.cells #[.slice p (lb x).length cp] 25)).alloc (.cells #[.slice q (lb y).length cq] 25)).alloc (.cells #[.slice none 0 0] 25)) (w.heap.size + 1) 25 (.slice q (lb y).length cq) := by
    have := (Boxed.new (w.alloc (.cells #[.slice p (lb x).length cp] 25)) 25 (.slice q (lb y).length cq)).alloc (.cells #[.slice none 0 0] 25)
    rwa [World.size_alloc] at this
  have h4 : Boxed (((w.alloc (.cells #[.slice p (lb x).length cp] 25)).alloc (.cells #[.slice q (lb y).length cq] 25)).alloc (.cells #[.slice none 0 0] 25)) (w.heap.size + 1 + 1) 25 (.slice none 0 0) := by
    have := Boxed.new ((w.alloc (.cells #[.slice p (lb x).length cp] 25)).alloc (.cells #[.slice q (lb y).length cq] 25)) 25 (.slice none 0 0)
    rwa [World.size_alloc, World.size_alloc] at this
  have hB : Below w.heap.size w (((w.alloc (.cells #[.slice p (lb x).length cp] 25)).alloc (.cells #[.slice q (lb y).length cq] 25)).alloc (.cells #[.slice none 0 0] 25)) := (((Below.refl _ _).alloc (Nat.le_refl _) _).alloc (by simp) _).alloc (by simp; omega) _
  have hsz : (((w.alloc (.cells #[.slice p (lb x).length cp] 25)).alloc (.cells #[.slice q (lb y).length cq] 25)).alloc (.cells #[.slice none 0 0] 25)).heap.size = w.heap.size + 3 := by simp
  generalize (((w.alloc (.cells #[.slice p (lb x).length cp] 25)).alloc (.cells #[.slice q (lb y).length cq] 25)).alloc (.cells #[.slice none 0 0] 25)) = W at h2 h3 h4 hB hsz ⊢
  obtain ⟨nX, hnX⟩ : ∃ n, n = (lb x).length := ⟨_, rfl⟩
  obtain ⟨nY, hnY⟩ : ∃ n, n = (lb y).length := ⟨_, rfl⟩
  rw [← hnX] at h2 lx ⊢
  rw [← hnY] at h3 ly ⊢
  have HnX := Lib.hid hnX
  have HnY := Lib.hid hnY
  clear hnX hnY
  have c2 := h2.cell
  have c3 := h3.cell
  have Hsz := Lib.hid hsz
  clear hsz
  go_upto_block 0 with (first | (at_make; refine wpList_make32 rfl _ _ rfl (nX + nY) _ _ rfl rfl (by go_num) (by go_num) (by omega) ?_; intro W1 hS1 hb1 hl1; have k2 := Boxed.below' h2 hb1 h2.lt; have k3 := Boxed.below' h3 hb1 h3.lt; have k4 := Boxed.below' h4 hb1 h4.lt; have d2 := k2.cell; have d3 := k3.cell) | fail)
  clear c2 c3 h2 h3 h4
  have hXP : NatIn W1 p cp x := hx.below (hB.trans (hb1.mono (by rw [Hsz.out]; omega))) (fun a e => by subst e; exact hx.lt)
  have hYQ : NatIn W1 q cq y := hy.below (hB.trans (hb1.mono (by rw [Hsz.out]; omega))) (fun a e => by subst e; exact hy.lt)
  have hW1 : Below w.heap.size w W1 := hB.trans (hb1.mono (by rw [Hsz.out]; omega))
  have bX : ∀ a, p = some a → a.block < W.heap.size := by rintro a rfl; have := hx.lt; rw [Hsz.out]; omega
  have bY : ∀ a, q = some a → a.block < W.heap.size := by rintro a rfl; have := hy.lt; rw [Hsz.out]; omega
  have n2 : w.heap.size < W.heap.size := by rw [Hsz.out]; omega
  have n3 : w.heap.size + 1 < W.heap.size := by rw [Hsz.out]; omega
  have n4 : w.heap.size + 1 + 1 < W.heap.size := by rw [Hsz.out]; omega
  generalize W.heap.size = g at hS1 bX bY n2 n3 n4 ⊢
  have hA0 : MulR W1 g (nX + nY) nY x y 0 (List.replicate (nX + nY) 0) W1 := ⟨hS1, by simp, by intro z hz; rw [List.eq_of_mem_replicate hz]; decide, by intro t ht _; simp, by rw [vl_zeros]; simp [Nat.mod_one], Mod.refl _ _⟩
  have hyn : Hid (y < 4294967296 ^ nY) := Lib.hid (by rw [HnY.out]; exact lt_pow_dg 4294967296 (by decide) y)
  clear hx hy hb1 hl1 hB d2 d3 hS1
  go_cut [] (fun wx => ∃ (S : List Nat), MulR W1 g (nX + nY) nY x y nX S wx)
  case first =>
    go_wp2_with fail
    go_loopw [22] (fun s22 wr => ∃ (i : Nat) (S : List Nat), i ≤ nX ∧ s22 = .int .i64 (i : Int) ∧ MulR W1 g (nX + nY) nY x y i S wr) (fun i _ => nX - (intOf i).toNat)
    case atStart => exact ⟨0, _, by omega, rfl, hA0⟩
    case round =>
      clear hA0
      obtain ⟨i, S, hi, rfl, hA⟩ := hrel
      by_cases hin : i < nX
      · have hne : lb x ≠ [] := by intro e; have := HnX.out; rw [e] at this; simp at this; omega
        obtain ⟨gP, rfl⟩ := hXP.isPtr hne
        have hgP : gP < g := bX _ rfl
        have hXr := hXP.kept hA.m (by rintro a e; cases e; show ¬ gP = g; omega)
        have hil : i < (lb x).length := by rw [← HnX.out]; exact hin
        obtain ⟨dx, hdx⟩ : ∃ d, d = x / 4294967296 ^ i % 4294967296 := ⟨_, rfl⟩
        have ldx : dx < 4294967296 := by rw [hdx]; exact Nat.mod_lt _ (by decide)
        have cx : wr.cell? ⟨gP, i, none⟩ = some (.int .u32 (dx : Int)) := by rw [hdx, ← dg_at 4294967296 (by decide) x i hil]; exact hXr.cell i hil
        have r3 := (Boxed.mod' k3 hA.m (by omega)).cell
        have i0 : (0 : Int) ≤ i := by omega
        have i1 : (i : Int) < nX := by omega
        have Hdx := Lib.hid hdx
        clear hdx
        go_upto_block 2 with fail
        have hI0 := hA.begin
        clear hA cx r3 hXr
        go_cut [8] (fun s8 wx => ∃ (S : List Nat) (c : Nat), s8 = .int .u64 (c : Int) ∧ MulI W1 g (nX + nY) nY x y i nY S c wx)
        case first =>
          go_wp2_with fail
          obtain ⟨wo, rfl⟩ : ∃ wo : World, wo = wr := ⟨_, rfl⟩
          go_loopw [8, 30] (fun s8 s30 wr => ∃ (j : Nat) (S : List Nat) (c : Nat), j ≤ nY ∧ s30 = .int .i64 (j : Int) ∧ s8 = .int .u64 (c : Int) ∧ MulI W1 g (nX + nY) nY x y i j S c wr) (fun _ j _ => nY - (intOf j).toNat)
          case atStart => exact ⟨0, _, 0, by omega, rfl, rfl, hI0⟩
          case round =>
            clear hI0
            obtain ⟨j, S, c, hj, rfl, rfl, hI⟩ := hrel
            by_cases hjn : j < nY
            · have hne2 : lb y ≠ [] := by intro e; have := HnY.out; rw [e] at this; simp at this; omega
              obtain ⟨gQ, rfl⟩ := hYQ.isPtr hne2
              have hgQ : gQ < g := bY _ rfl
              have hYr := hYQ.kept hI.m (by rintro a e; cases e; show ¬ gQ = g; omega)
              have hjl : j < (lb y).length := by rw [← HnY.out]; exact hjn
              obtain ⟨dy, hdy⟩ : ∃ d, d = y / 4294967296 ^ j % 4294967296 := ⟨_, rfl⟩
              have ldy : dy < 4294967296 := by rw [hdy]; exact Nat.mod_lt _ (by decide)
              have cy : wr.cell? ⟨gQ, j, none⟩ = some (.int .u32 (dy : Int)) := by rw [hdy, ← dg_at 4294967296 (by decide) y j hjl]; exact hYr.cell j hjl
              have hSl : i + j < S.length := by rw [hI.len]; omega
              have cS := hI.s.cell (i + j) hSl
              have fS := hI.s.froz (i + j)
              have lr := hI.lt S[i + j] (List.getElem_mem _)
              have c1 := hI.c1
              obtain ⟨r, hr⟩ : ∃ r, r = S[i + j] := ⟨_, rfl⟩
              rw [← hr] at cS lr
              obtain ⟨m, hm⟩ : ∃ m, m = dx * dy := ⟨_, rfl⟩
              obtain ⟨s, hs⟩ : ∃ s, s = c + m + r := ⟨_, rfl⟩
              have Hn := Lib.hid (hI.next hSl hjn s (by rw [hs, hm, Hdx.out, hdy, hr]))
              obtain ⟨v, hv⟩ : ∃ v, v = s % 4294967296 := ⟨_, rfl⟩
              obtain ⟨c2, hc2⟩ : ∃ c2, c2 = s / 4294967296 := ⟨_, rfl⟩
              rw [← hv, ← hc2] at Hn
              have hmb : m ≤ 4294967295 * 4294967295 := by rw [hm]; exact Nat.mul_le_mul (by omega) (by omega)
              have e0 : (dx : Int) * (dy : Int) = (m : Int) := by rw [hm]; exact (Int.natCast_mul _ _).symm
              have w1 : IntKind.u64.wrap (m : Int) = (m : Int) := by rw [IntKind.wrap_u64]; omega
              have w2 : IntKind.u64.wrap ((m : Int) + r) = (m : Int) + r := by rw [IntKind.wrap_u64]; omega
              have w3 : IntKind.u64.wrap ((c : Int) + ((m : Int) + r)) = (c : Int) + ((m : Int) + r) := by rw [IntKind.wrap_u64]; omega
              have e1 : ((c : Int) + ((m : Int) + r)) % 4294967296 = v := by omega
              have e2 : ((c : Int) + ((m : Int) + r)) / 4294967296 = c2 := by omega
              have j0 : (0 : Int) ≤ j := by omega
              have j1 : (j : Int) < nY := by omega
              have i2 : (i : Int) + j < nX + nY := by omega
              have i3 : (0 : Int) ≤ (i : Int) + j := by omega
              have i4 : ((i : Int) + j).toNat = i + j := by omega
              have w4 : IntKind.i64.wrap ((i : Int) + j) = (i : Int) + j := by rw [IntKind.wrap_i64]; omega
              clear hdy hs hv hc2 hm hr hmb
              go_wp2_with fail
              go_roundw
              case rel => exact ⟨j + 1, _, c2, by omega, by go_num, rfl, Hn.out⟩
              case measure => simp [intOf]; omega
            · obtain rfl : j = nY := by omega
              go_wp2_with fail
              go_meet
              exact ⟨S, c, rfl, hI⟩
        case rest =>
        obtain ⟨S, c, rfl, hI⟩ := hcut
        clear hI0
        have hSl : i + nY < S.length := by rw [hI.len]; omega
        have cS := hI.s.cell (i + nY) hSl
        have fS := hI.s.froz (i + nY)
        have r3 := (Boxed.mod' k3 hI.m (by omega)).cell
        have c1 := hI.c1
        have e1 : (c : Int) % 4294967296 = c := by omega
        have i2 : (i : Int) + nY < nX + nY := by omega
        have i3 : (0 : Int) ≤ (i : Int) + nY := by omega
        have i4 : ((i : Int) + nY).toNat = i + nY := by omega
        have w4 : IntKind.i64.wrap ((i : Int) + nY) = (i : Int) + nY := by rw [IntKind.wrap_i64]; omega
        generalize S[i + nY] = old at cS
        have Hn := Lib.hid (hI.fin hSl hyn.out)
        clear hI
        go_wp2_with fail
        go_roundw
        case rel => exact ⟨i + 1, _, by omega, by go_num, Hn.out⟩
        case measure => simp [intOf]; omega
      · obtain rfl : i = nX := by omega
        go_wp2_with fail
        go_meet
        exact ⟨S, hA⟩
  case rest =>
  obtain ⟨S, hA⟩ := hcut
  clear hA0
  rename World => wz
  have hval : Hid (vl 4294967296 S = z) := Lib.hid (by
    have hxn : x < 4294967296 ^ nX := by rw [HnX.out]; exact lt_pow_dg 4294967296 (by decide) x
    rw [hA.val, Nat.mod_eq_of_lt hxn, HZ.out])
  have hTS := hA.s
  have hTl := hA.len
  have hTb := hA.lt
  have hM2 := hA.m
  clear hA
  go_wp2_with fail
  have htr := trim_any (some ⟨g, 0, none⟩) (nX + nY) S wz hTS hTb (by omega)
  rw [hTl, hval.out] at htr
  refine htr.mono ?_
  clear htr
  rintro r w' ⟨q, c', rfl, hN, hb, hq⟩
  have hm3 : Mod (· = g) W1 w' := hM2.trans (Mod.of_below hb) (by have := hTS.lt; intro i hi h; have := hM2.size; omega)
  have b4 := Boxed.mod' k4 hm3 (by omega)
  have hq2 : ∀ a, q = some a → w.heap.size + 1 + 1 < a.block := by rintro a rfl; rcases hq with h | h <;> cases h; exact n4
  have hB2 : Below w.heap.size w w' := hW1.trans (hm3.to_below (by have := hW1.size; omega) (by intro k hk h; omega))
  have c4 := b4.cell
  have f4 := b4.frozen
  clear hb hq hm3 hM2 hTS hTb k2 k3 k4 hW1 hXP hYQ bX bY
  go_wp2_with fail
  have c5 := (b4.set (.slice q (lb z).length c')).cell
  refine bodyPost_ret (v := .agg #[.slice q (lb z).length c']) (by simp [results, Tryd.results24, go_sem, c5]) rfl ⟨q, c', rfl, ?_, ?_, fun a e => by have := hq2 a e; omega⟩
  · exact hN.other ⟨w.heap.size + 1 + 1, 0, none⟩ _ (fun a e => by have := hq2 a e; show a.block ≠ w.heap.size + 1 + 1; omega)
  · exact hB2.setCell (p := ⟨w.heap.size + 1 + 1, 0, none⟩) (by show w.heap.size ≤ w.heap.size + 1 + 1; omega) _
end Go.Proofs.YtepibfpdkjkdjaaDoor
