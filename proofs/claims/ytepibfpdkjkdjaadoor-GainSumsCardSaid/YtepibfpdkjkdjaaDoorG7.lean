/- The document's logarithm: square. -/
import Derived.Test.YtepibfpdkjkdjaaDoorG6
namespace Go.Proofs.YtepibfpdkjkdjaaDoor
open Go.RowKit

/-- While it is multiplied: i limbs of x are. -/
structure SqR (W : World) (g n nY x y i : Nat) (S : List Nat) (wr : World) : Prop where
  s : Sl .i64 3 wr (some ⟨g, 0, none⟩) n S
  len : S.length = n
  lt : ∀ z ∈ S, z < 1000000
  zero : ∀ t (h : t < S.length), i + nY ≤ t → S[t] = 0
  val : vl 1000000 S = x % 1000000 ^ i * y
  m : Mod (· = g) W wr
/-- .. and j limbs of y with the next one. -/
structure SqI (W : World) (g n nY x y i j : Nat) (S : List Nat) (c : Nat) (wr : World) : Prop where
  s : Sl .i64 3 wr (some ⟨g, 0, none⟩) n S
  len : S.length = n
  lt : ∀ z ∈ S, z < 1000000
  zero : ∀ t (h : t < S.length), i + nY ≤ t → S[t] = 0
  val : vl 1000000 S + 1000000 ^ i * 1000000 ^ j * c = x % 1000000 ^ i * y + 1000000 ^ i * (x / 1000000 ^ i % 1000000) * (y % 1000000 ^ j)
  c1 : c < 1000000
  m : Mod (· = g) W wr
theorem SqR.begin {W : World} {g n nY x y i : Nat} {S : List Nat} {wr : World} (h : SqR W g n nY x y i S wr) : SqI W g n nY x y i 0 S 0 wr :=
  ⟨h.s, h.len, h.lt, h.zero, by rw [h.val]; simp [Nat.mod_one], by decide, h.m⟩
theorem SqI.next {W : World} {g n nY x y i j : Nat} {S : List Nat} {c : Nat} {wr : World} (h : SqI W g n nY x y i j S c wr) (hl : i + j < S.length) (hj : j < nY) (s : Nat)
    (hs : s = c + (x / 1000000 ^ i % 1000000) * (y / 1000000 ^ j % 1000000) + S[i + j]) :
    SqI W g n nY x y i (j + 1) (S.set (i + j) (s % 1000000)) (s / 1000000) (wr.setCell ⟨g, i + j, none⟩ (.int .i64 ((s % 1000000 : Nat) : Int))) := by
  have hv := vl_set 1000000 S (i + j) (s % 1000000) hl
  rw [Nat.pow_add] at hv
  refine ⟨h.s.set _ _, by simpa using h.len, set_lt h.lt (Nat.mod_lt _ (by decide)), ?_, mul_step _ y j _ _ _ _ c s _ _ hs h.val hv, ?_, h.m.setCell (fun _ => rfl) _⟩
  · intro t ht hit
    rw [List.getElem_set_ne (by omega)]
    exact h.zero t (by simpa using ht) hit
  · have h1 := h.c1
    have h2 : x / 1000000 ^ i % 1000000 ≤ 999999 := Nat.le_of_lt_succ (Nat.mod_lt _ (by decide))
    have h3 : y / 1000000 ^ j % 1000000 ≤ 999999 := Nat.le_of_lt_succ (Nat.mod_lt _ (by decide))
    have h4 := h.lt S[i + j] (List.getElem_mem _)
    have h5 := Nat.mul_le_mul h2 h3
    generalize (x / 1000000 ^ i % 1000000) * (y / 1000000 ^ j % 1000000) = p at *
    generalize S[i + j] = r at *
    omega
theorem SqI.fin {W : World} {g n nY x y i : Nat} {S : List Nat} {c : Nat} {wr : World} (h : SqI W g n nY x y i nY S c wr) (hl : i + nY < S.length) (hy : y < 1000000 ^ nY) :
    SqR W g n nY x y (i + 1) (S.set (i + nY) c) (wr.setCell ⟨g, i + nY, none⟩ (.int .i64 (c : Int))) := by
  have hv := vl_set 1000000 S (i + nY) c hl
  rw [h.zero (i + nY) hl (Nat.le_refl _), Nat.mul_zero, Nat.add_zero, Nat.pow_add, h.val, Nat.mod_eq_of_lt hy] at hv
  refine ⟨h.s.set _ _, by simpa using h.len, set_lt h.lt h.c1, ?_, ?_, h.m.setCell (fun _ => rfl) _⟩
  · intro t ht hit
    rw [List.getElem_set_ne (by omega)]
    exact h.zero t (by simpa using ht) (by omega)
  · rw [hv, mod_succ, Nat.add_mul]

/-- No carry is left: nothing is stored. -/
theorem SqI.fin0 {W : World} {g n nY x y i : Nat} {S : List Nat} {wr : World} (h : SqI W g n nY x y i nY S 0 wr) (_hl : i + nY < S.length) (hy : y < 1000000 ^ nY) : SqR W g n nY x y (i + 1) S wr := by
  refine ⟨h.s, h.len, h.lt, fun t ht hit => h.zero t ht (by omega), ?_, h.m⟩
  have hv := h.val
  rw [Nat.mul_zero, Nat.add_zero, Nat.mod_eq_of_lt hy] at hv
  rw [hv, mod_succ, Nat.add_mul]

set_option maxHeartbeats 8000000 in
set_option maxRecDepth 20000 in
theorem square_any (p : Option Addr) (cp x : Nat) (w : World) (hx : M6 w p cp x) (lx : (dg 1000000 x).length ≤ 100000) :
    Calls Tryd.prog 62 #[.slice p (dg 1000000 x).length cp] w (M6Out w (x * x)) := by
  obtain ⟨n, hn⟩ : ∃ n, (dg 1000000 x).length = n := ⟨_, rfl⟩
  obtain ⟨z, hz⟩ : ∃ z, z = x * x := ⟨_, rfl⟩
  obtain ⟨M, hM⟩ : ∃ M, M = 2 * n + 1 := ⟨_, rfl⟩
  rw [hn] at lx ⊢
  rw [← hz]
  have Hn := Lib.hid hn
  have Hz := Lib.hid hz
  have eM : 2 * (n : Int) + 1 = (M : Int) := by omega
  have hMn : n + n < M := by omega
  have hMb : M ≤ 200001 := by omega
  have hxn : Hid (x < 1000000 ^ n) := Lib.hid (by rw [← hn]; exact lt_pow_dg 1000000 (by decide) x)
  clear hn hz hM
  have hpl : ∀ a, p = some a → a.block < w.heap.size := by rintro a rfl; exact hx.lt
  go_enter Tryd.func62, Tryd.ntmps62
  go_upto_block 0 with (first | (at_make; refine wpList_makeI rfl _ _ rfl M _ _ rfl rfl (by go_num) (by go_num) (by omega) ?_; intro W1 hS1 hb1 hl1) | fail)
  have hXP : M6 W1 p cp x := hx.old hb1
  have hR0 : SqR W1 w.heap.size M n x x 0 (List.replicate M 0) W1 := ⟨hS1, by simp, by intro z hz; rw [List.eq_of_mem_replicate hz]; decide, by intro t ht _; simp, by rw [vl_zeros]; simp [Nat.mod_one], Mod.refl _ _⟩
  have hB := hb1
  clear hx hS1 hb1 hl1
  obtain ⟨g, hg⟩ : ∃ g, g = w.heap.size := ⟨_, rfl⟩
  have Hg := Lib.hid hg
  rw [← hg] at hR0 hpl hB ⊢
  clear hg
  go_cut [] (fun wx => ∃ (S : List Nat), SqR W1 g M n x x n S wx)
  case first =>
    go_wp2_with fail
    go_loopw [19] (fun s19 wr => ∃ (i : Nat) (S : List Nat), i ≤ n ∧ s19 = .int .i64 (i : Int) ∧ SqR W1 g M n x x i S wr) (fun i _ => n - (intOf i).toNat)
    case atStart => exact ⟨0, _, by omega, rfl, hR0⟩
    case round =>
      clear hR0
      obtain ⟨i, S, hi, rfl, hA⟩ := hrel
      by_cases hin : i < n
      · have hne : dg 1000000 x ≠ [] := by intro e; have := Hn.out; rw [e] at this; simp at this; omega
        obtain ⟨gP, rfl⟩ := hXP.isPtr hne
        have hgP : gP < g := hpl _ rfl
        have hXr := hXP.kept hA.m (by rintro a e; cases e; show ¬ gP = g; omega)
        have hil : i < (dg 1000000 x).length := by rw [Hn.out]; exact hin
        obtain ⟨dx, hdx⟩ : ∃ d, d = x / 1000000 ^ i % 1000000 := ⟨_, rfl⟩
        have ldx : dx < 1000000 := by rw [hdx]; exact Nat.mod_lt _ (by decide)
        have cx : wr.cell? ⟨gP, i, none⟩ = some (.int .i64 (dx : Int)) := by rw [hdx, ← dg_at 1000000 (by decide) x i hil]; exact hXr.cell i hil
        have i0 : (0 : Int) ≤ i := by omega
        have i1 : (i : Int) < n := by omega
        have Hdx := Lib.hid hdx
        clear hdx
        go_upto_block 2 with fail
        have hI0 := hA.begin
        clear hA cx hXr
        go_cut [6] (fun s6 wx => ∃ (S : List Nat) (c : Nat), s6 = .int .i64 (c : Int) ∧ SqI W1 g M n x x i n S c wx)
        case first =>
          go_wp2_with fail
          obtain ⟨wo, rfl⟩ : ∃ wo : World, wo = wr := ⟨_, rfl⟩
          go_loopw [6, 26] (fun s6 s26 wr => ∃ (j : Nat) (S : List Nat) (c : Nat), j ≤ n ∧ s26 = .int .i64 (j : Int) ∧ s6 = .int .i64 (c : Int) ∧ SqI W1 g M n x x i j S c wr) (fun _ j _ => n - (intOf j).toNat)
          case atStart => exact ⟨0, _, 0, by omega, rfl, rfl, hI0⟩
          case round =>
            clear hI0
            obtain ⟨j, S, c, hj, rfl, rfl, hI⟩ := hrel
            by_cases hjn : j < n
            · have hYr := hXP.kept hI.m (by rintro a e; cases e; show ¬ gP = g; omega)
              have hjl : j < (dg 1000000 x).length := by rw [Hn.out]; exact hjn
              obtain ⟨dy, hdy⟩ : ∃ d, d = x / 1000000 ^ j % 1000000 := ⟨_, rfl⟩
              have ldy : dy < 1000000 := by rw [hdy]; exact Nat.mod_lt _ (by decide)
              have cy : wr.cell? ⟨gP, j, none⟩ = some (.int .i64 (dy : Int)) := by rw [hdy, ← dg_at 1000000 (by decide) x j hjl]; exact hYr.cell j hjl
              have hSl : i + j < S.length := by rw [hI.len]; omega
              have cS := hI.s.cell (i + j) hSl
              have fS := hI.s.froz (i + j)
              have lr := hI.lt S[i + j] (List.getElem_mem _)
              have c1 := hI.c1
              obtain ⟨r, hr⟩ : ∃ r, r = S[i + j] := ⟨_, rfl⟩
              rw [← hr] at cS lr
              obtain ⟨m, hm⟩ : ∃ m, m = dx * dy := ⟨_, rfl⟩
              obtain ⟨s, hs⟩ : ∃ s, s = c + m + r := ⟨_, rfl⟩
              have Hnx := Lib.hid (hI.next hSl hjn s (by rw [hs, hm, Hdx.out, hdy, hr]))
              obtain ⟨v, hv⟩ : ∃ v, v = s % 1000000 := ⟨_, rfl⟩
              obtain ⟨c2, hc2⟩ : ∃ c2, c2 = s / 1000000 := ⟨_, rfl⟩
              rw [← hv, ← hc2] at Hnx
              have hmb : m ≤ 999999 * 999999 := by rw [hm]; exact Nat.mul_le_mul (by omega) (by omega)
              have e0 : (dx : Int) * (dy : Int) = (m : Int) := by rw [hm]; exact (Int.natCast_mul _ _).symm
              have w1 : IntKind.i64.wrap (m : Int) = (m : Int) := by rw [IntKind.wrap_i64]; omega
              have w2 : IntKind.i64.wrap ((r : Int) + m) = (r : Int) + m := by rw [IntKind.wrap_i64]; omega
              have w3 : IntKind.i64.wrap ((r : Int) + m + c) = (s : Int) := by rw [IntKind.wrap_i64]; omega
              have w4 : (r : Int) + m + c = (s : Int) := by omega
              have w5 : IntKind.i64.wrap (s : Int) = s := by rw [IntKind.wrap_i64]; omega
              have e1 : (s : Int) % 1000000 = v := by omega
              have e2 : (s : Int) / 1000000 = c2 := by omega
              have e3 : (s : Int).tmod 1000000 = v := by rw [Int.tmod_eq_emod_of_nonneg (by omega)]; exact e1
              have e4 : (s : Int).tdiv 1000000 = c2 := by rw [Int.tdiv_eq_ediv_of_nonneg (by omega)]; exact e2
              have w6 : IntKind.i64.wrap (v : Int) = v := by rw [IntKind.wrap_i64]; omega
              have w7 : IntKind.i64.wrap (c2 : Int) = c2 := by rw [IntKind.wrap_i64]; omega
              have j0 : (0 : Int) ≤ j := by omega
              have j1 : (j : Int) < n := by omega
              have i2 : (i : Int) + j < M := by omega
              have i3 : (0 : Int) ≤ (i : Int) + j := by omega
              have i4 : ((i : Int) + j).toNat = i + j := by omega
              have w8 : IntKind.i64.wrap ((i : Int) + j) = (i : Int) + j := by rw [IntKind.wrap_i64]; omega
              clear hdy hs hv hc2 hm hr hmb hI hYr
              go_wp2_with fail
              go_roundw
              case rel => exact ⟨j + 1, _, c2, by omega, by go_num, rfl, Hnx.out⟩
              case measure => simp [intOf]; omega
            · obtain rfl : j = n := by omega
              go_wp2_with fail
              go_meet
              exact ⟨S, c, rfl, hI⟩
        case rest =>
        obtain ⟨S, c, rfl, hI⟩ := hcut
        clear hI0
        go_upto_block 4 with fail
        have hSl : i + n < S.length := by rw [hI.len]; omega
        have c1 := hI.c1
        have hz0 := hI.zero (i + n) hSl (Nat.le_refl _)
        go_wp2_with fail
        obtain ⟨wo, rfl⟩ : ∃ wo : World, wo = wc := ⟨_, rfl⟩
        go_loopw [6, 10] (fun s6 s10 wr => (s6 = .int .i64 (c : Int) ∧ s10 = .int .i64 ((i : Int) + n) ∧ 0 < c ∧ wr = wo) ∨ (s6 = .int .i64 0 ∧ ∃ (z : Int) (S : List Nat), s10 = .int .i64 z ∧ SqR W1 g M n x x (i + 1) S wr)) (fun s6 _ _ => (intOf s6).toNat)
        case atStart =>
          by_cases hc0 : c = 0
          · subst hc0
            exact .inr ⟨rfl, _, S, rfl, hI.fin0 hSl hxn.out⟩
          · exact .inl ⟨rfl, by first | rfl | go_num, by omega, rfl⟩
        case round =>
          rcases hrel with ⟨rfl, rfl, hc0, rfl⟩ | ⟨rfl, z, S', rfl, hR⟩
          · have cS := hI.s.cell (i + n) hSl
            have fS := hI.s.froz (i + n)
            rw [hz0] at cS
            have Hnx := Lib.hid (hI.fin hSl hxn.out)
            have b0 : (0 : Int) < c := by omega
            have e1 : (c : Int) % 1000000 = c := by omega
            have e2 : (c : Int) / 1000000 = 0 := by omega
            have e3 : (c : Int).tmod 1000000 = c := by rw [Int.tmod_eq_emod_of_nonneg (by omega)]; exact e1
            have e4 : (c : Int).tdiv 1000000 = 0 := by rw [Int.tdiv_eq_ediv_of_nonneg (by omega)]; exact e2
            have i2 : (i : Int) + n < M := by omega
            have i3 : (0 : Int) ≤ (i : Int) + n := by omega
            have i4 : ((i : Int) + n).toNat = i + n := by omega
            have w5 : IntKind.i64.wrap (c : Int) = c := by rw [IntKind.wrap_i64]; omega
            have w8 : IntKind.i64.wrap ((i : Int) + n) = (i : Int) + n := by rw [IntKind.wrap_i64]; omega
            have w9 : IntKind.i64.wrap ((i : Int) + n + 1) = (i : Int) + n + 1 := by rw [IntKind.wrap_i64]; omega
            clear hI hz0
            go_wp2_with fail
            go_roundw
            case rel => exact .inr ⟨rfl, _, _, rfl, Hnx.out⟩
            case measure => simp [intOf]; omega
          · clear hI hz0
            go_wp2_with fail
            go_roundw
            case rel => exact ⟨i + 1, S', by omega, by go_num, hR⟩
            case measure => simp [intOf]; omega
      · obtain rfl : i = n := by omega
        go_wp2_with fail
        go_meet
        exact ⟨S, hA⟩
  case rest =>
  obtain ⟨A, hR⟩ := hcut
  rename World => wz
  have hv := hR.val
  rw [Nat.mod_eq_of_lt hxn.out, ← Hz.out] at hv
  have hAl := Lib.hid hR.len
  have hS := hR.s
  have hA := Lib.hid hR.lt
  have hm : Below w.heap.size w wz := by rw [← Hg.out]; exact hB.trans (hR.m.to_below (by have := hB.size; have := Hg.out; omega) (by rintro k hk rfl; omega))
  have Hv := Lib.hid hv
  clear hR0 hR hv hB hXP
  go_wp2_with fail
  go_loopw [3] (fun s0 wr => ∃ k : Nat, k ≤ M ∧ s0 = .slice (some ⟨g, 0, none⟩) k M ∧ Hid (∀ i (hi : i < A.length), k ≤ i → A[i] = 0) ∧ wr = wz) (fun v _ => match v with | .slice _ k _ => k | _ => 0)
  case atStart => exact ⟨M, by omega, rfl, fun i hi h => by have := hAl.out; omega, rfl⟩
  case round =>
    obtain ⟨k3, hk3, rfl, hz, rfl⟩ := hrel
    by_cases hk0 : 0 < k3
    · have hlt : k3 - 1 < A.length := by have := hAl.out; omega
      obtain ⟨c, hc0⟩ : ∃ c, c = A[k3 - 1] := ⟨_, rfl⟩
      have hc := hS.cell (k3 - 1) hlt
      rw [← hc0] at hc
      have i0 : (0 : Int) ≤ (k3 : Int) - 1 := by omega
      have i1 : (k3 : Int) - 1 < k3 := by omega
      have i2 : ((k3 : Int) - 1).toNat = k3 - 1 := by omega
      have b0 : (0 : Int) < (k3 : Int) := by omega
      have hwr : IntKind.i64.wrap ((k3 : Int) - 1) = (k3 : Int) - 1 := by rw [IntKind.wrap_i64]; omega
      have i3 : (k3 : Int) - 1 ≤ M := by omega
      have i4 : (k3 - 1) ≤ M := by omega
      have Hx := Lib.hid hc0
      clear hc0
      by_cases hx0 : c = 0
      · subst hx0
        have hz2 : Hid (∀ i (hi : i < A.length), k3 - 1 ≤ i → A[i] = 0) := by
          intro i hi h
          by_cases e : i = k3 - 1
          · subst e; exact Hx.out.symm
          · exact hz.out i hi (by omega)
        clear Hx hz
        go_wp2_with fail
        go_roundw
        case rel => exact ⟨k3 - 1, by omega, by go_num, hz2, trivial⟩
        case measure => simp; omega
      · have hxb : ((c : Int) == 0) = false := by rw [beq_eq_false_iff_ne]; omega
        have hd : Hid (dg 1000000 (vl 1000000 A) = A.take k3) := dg_take _ (by decide) A hA.out k3 (by have := hAl.out; omega) (fun i hi h => hz.out i hi h) (fun _ => by rw [← Hx.out]; exact hx0)
        have hln : Hid ((A.take k3).length = k3) := Lib.hid (by rw [List.length_take]; have := hAl.out; omega)
        clear Hx hz
        go_wp2_with fail
        go_ret
        refine ⟨some ⟨g, 0, none⟩, M, by rw [← Hv.out, hd.out, hln.out]; rfl, ?_, hm, fun a e => by cases e; exact Nat.le_of_eq Hg.out.symm⟩
        show Sl _ _ _ _ _ (dg 1000000 _); rw [← Hv.out, hd.out]; exact hS.take k3 (by have := hAl.out; omega)
    · obtain rfl : k3 = 0 := by omega
      have hd : Hid (dg 1000000 (vl 1000000 A) = []) := dg_take _ (by decide) A hA.out 0 (by omega) (fun i hi h => hz.out i hi h) (fun h => by omega)
      clear hz
      go_wp2_with fail
      go_ret
      refine ⟨some ⟨g, 0, none⟩, M, by rw [← Hv.out, hd.out]; rfl, ?_, hm, fun a e => by cases e; exact Nat.le_of_eq Hg.out.symm⟩
      show Sl _ _ _ _ _ (dg 1000000 _); rw [← Hv.out, hd.out]; exact hS.take 0 (by omega)
end Go.Proofs.YtepibfpdkjkdjaaDoor
