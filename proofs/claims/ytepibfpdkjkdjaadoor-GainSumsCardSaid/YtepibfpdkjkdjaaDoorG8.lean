/- The document's logarithm, and what a tipset weighs more. -/
import Derived.Test.YtepibfpdkjkdjaaDoorG7
import Derived.Test.YtepibfpdkjkdjaaDoorN26
namespace Go.Proofs.YtepibfpdkjkdjaaDoor
open Go.RowKit

theorem m6_len {x n : Nat} (h : x < 1000000 ^ n) : (dg 1000000 x).length ≤ n := dg_len_le 1000000 (by decide) x n h
theorem bl_drop (x k : Nat) (h : x / 2 ^ k ≠ 0) : bl x = bl (x / 2 ^ k) + k := by
  obtain ⟨h1, h2, h3⟩ := bl_bounds h
  have hp : 0 < 2 ^ k := Nat.pow_pos (by decide)
  refine bl_unique (by omega) ?_ ?_
  · rw [show bl (x / 2 ^ k) + k - 1 = (bl (x / 2 ^ k) - 1) + k by omega, Nat.pow_add]
    exact (Nat.le_div_iff_mul_le hp).1 h2
  · rw [Nat.pow_add]
    exact (Nat.div_lt_iff_lt_mul hp).1 h3

/-- While it is halved: by m in all. -/
structure HalR (w : World) (L g y m nd : Nat) (q : Option Addr) (c : Nat) (wr : World) : Prop where
  y0 : y ≠ 0
  val : L + 1 = bl y + m
  len : nd = (dg 1000000 y).length
  ndb : nd ≤ 1024
  s : M6 wr q c y
  t : Sl .i64 3 wr (some ⟨g, 0, none⟩) 2 [30, 1]
  m : Below w.heap.size w wr

set_option maxHeartbeats 8000000 in
set_option maxRecDepth 20000 in
theorem rlog_any (p : Nat) (w : World) (hp : Hid (p < 18446744073709551616)) :
    Calls Tryd.prog 45 #[.int .u64 (p : Int)] w fun r w' => r = .returned (.int .i64 (lg p : Int)) ∧ Below w.heap.size w w' := by
  have hlb := lg_le p hp.out
  by_cases hp0 : p = 0
  · subst hp0
    rw [lg_zero]
    go_enter Tryd.func45, Tryd.ntmps45
    go_wp2_with fail
    go_ret
    exact ⟨rfl, Below.refl _ _⟩
  · have b0 : ((p : Int) == 0) = false := by rw [beq_eq_false_iff_ne]; omega
    obtain ⟨X, hX⟩ : ∃ X, X = p ^ 256 := ⟨_, rfl⟩
    have hX0 : X ≠ 0 := by rw [hX]; exact Nat.ne_of_gt (Nat.pow_pos (Nat.pos_of_ne_zero hp0))
    obtain ⟨L, hL⟩ : ∃ L, L = lg p := ⟨_, rfl⟩
    have hLX : Hid (L = bl X - 1) := Lib.hid (by rw [hL, hX]; rfl)
    rw [← hL] at hlb ⊢
    have HX := Lib.hid hX
    have HX0 := Lib.hid hX0
    have hpl : Hid ((dg 1000000 p).length ≤ 4) := Lib.hid (m6_len (Nat.lt_of_lt_of_le hp.out (by decide)))
    have Hp0 := Lib.hid hp0
    clear hX hX0 hL hp0
    go_enter Tryd.func45, Tryd.ntmps45
    go_wp2_with fail
    refine (limbs_any p w hp).mono ?_
    rintro r w1 ⟨q, c, rfl, hN, hB, -⟩
    go_upto_block 0 with fail
    go_cut [3, 4] (fun s3 s4 wr => ∃ (nd : Nat) (q : Option Addr) (c : Nat), s3 = .slice q nd c ∧ Hid (nd = (dg 1000000 X).length) ∧ nd ≤ 1024 ∧ M6 wr q c X ∧ Below w.heap.size w wr)
    case first =>
      go_wp2_with fail
      go_loopw [3, 4] (fun s3 s4 wr => ∃ (i y nd : Nat) (q : Option Addr) (c : Nat), i ≤ 8 ∧ s4 = .int .i64 (i : Int) ∧ s3 = .slice q nd c ∧ Hid (nd = (dg 1000000 y).length) ∧ Hid (y = p ^ 2 ^ i) ∧ Hid (nd ≤ 4 * 2 ^ i) ∧ M6 wr q c y ∧ Below w.heap.size w wr) (fun _ i _ => 8 - (intOf i).toNat)
      case atStart => exact ⟨0, p, _, q, c, by omega, rfl, rfl, Lib.hid rfl, Lib.hid (by simp), hpl, hN, hB⟩
      case round =>
        clear hN hB hpl
        obtain ⟨i, y, nd, q, c, hi, rfl, rfl, hnd, hy, hly, hN, hB⟩ := hrel
        have hly2 : nd ≤ 1024 := Nat.le_trans hly.out (by have := Nat.pow_le_pow_right (n := 2) (by decide) hi; omega)
        by_cases hi8 : i < 8
        · have i1 : (i : Int) < 8 := by omega
          have hsq := square_any q c y wr hN (by rw [← hnd.out]; omega)
          rw [← hnd.out] at hsq
          go_wp2_with fail
          refine hsq.mono ?_
          clear hsq
          rintro r w2 ⟨q2, c2, rfl, hN2, hb2, -⟩
          obtain ⟨z, hz⟩ : ∃ z, z = y * y := ⟨_, rfl⟩
          rw [← hz] at hN2 ⊢
          have hB2 := hB.trans (hb2.mono hB.size)
          have hzp : Hid (z = p ^ 2 ^ (i + 1)) := Lib.hid (by rw [hz, hy.out, ← Nat.pow_add, Nat.pow_succ 2 i, show 2 ^ i * 2 = 2 ^ i + 2 ^ i by omega])
          have hzl : Hid ((dg 1000000 z).length ≤ 4 * 2 ^ (i + 1)) := Lib.hid (by rw [hz]; have := dg_len_mul 1000000 (by decide) y y; have h2 := hly.out; rw [hnd.out] at h2; rw [Nat.pow_succ 2 i]; omega)
          clear hz hN hB hb2 hy hly hnd
          go_wp2_with fail
          go_roundw
          case rel => exact ⟨i + 1, z, _, q2, c2, by omega, by go_num, rfl, Lib.hid rfl, hzp, hzl, hN2, hB2⟩
          case measure => simp [intOf]; omega
        · obtain rfl : i = 8 := by omega
          have hyX : y = X := by rw [hy.out, HX.out]
          subst hyX
          go_wp2_with fail
          go_meet
          exact ⟨nd, q, c, rfl, hnd, hly2, hN, hB⟩
    case rest =>
    obtain ⟨nd, q3, c3, rfl, hnd, hndb, hN3, hB3⟩ := hcut
    clear hN hB hpl
    have hT0 : HalR w L wc.heap.size X 0 nd q3 c3 (wc.alloc (.cells #[.int .i64 30, .int .i64 1] 3)) :=
      ⟨HX0.out, by have := hLX.out; have := bl_ge1 HX0.out; omega, hnd.out, hndb, hN3.alloc _, Sl.made (k := .i64) (T := 3) wc [30, 1] (by simp [maxLen]), hB3.alloc hB3.size _⟩
    clear hnd hN3 hB3 hLX HX hndb HX0
    go_upto_region 10 with fail
    generalize (wc.alloc (.cells #[.int .i64 30, .int .i64 1] 3)) = W at hT0 ⊢
    generalize wc.heap.size = g at hT0 ⊢
    go_loopw [3, 5, 21] (fun s3 s5 s21 wr => ∃ (j y m nd : Nat) (q : Option Addr) (c : Nat), j ≤ 2 ∧ s3 = .slice q nd c ∧ s5 = .int .i64 (m : Int) ∧ s21 = .int .i64 (j : Int) ∧ (j = 2 → y = 1) ∧ HalR w L g y m nd q c wr) (fun _ _ s21 _ => 2 - (intOf s21).toNat)
    case atStart => exact ⟨0, X, 0, nd, q3, c3, by omega, rfl, rfl, rfl, by omega, hT0⟩
    case round =>
      clear hT0
      obtain ⟨j, y, m, nd, q, c, hj, rfl, rfl, rfl, hj2, hR⟩ := hrel
      have hj3 : j = 0 ∨ j = 1 ∨ j = 2 := by omega
      rcases hj3 with rfl | rfl | rfl
      · have ct := hR.t.cell 0 (by decide)
        obtain ⟨M, hM⟩ : ∃ M, M = y + 1 := ⟨_, rfl⟩
        go_wp2_with fail
        go_loopg [3, 5] M (fun mm s3 s5 wr => ∃ (y m nd : Nat) (q : Option Addr) (c : Nat), s3 = .slice q nd c ∧ s5 = .int .i64 (m : Int) ∧ y < mm ∧ HalR w L g y m nd q c wr)
        case atStart => exact ⟨y, m, nd, q, c, rfl, rfl, by omega, hR⟩
        case round =>
          clear hR ct hM
          obtain ⟨y, m, nd, q, c, rfl, rfl, hym, hR⟩ := hrel
          obtain ⟨y2, hy2⟩ : ∃ z, z = y / 2 ^ 30 := ⟨_, rfl⟩
          have hh := half_any q c y 30 wr hR.s (by rw [← hR.len]; have := hR.ndb; omega) (by decide)
          rw [← hR.len, ← hy2] at hh
          have HY2 := Lib.hid hy2
          clear hy2
          go_wp2_with fail
          refine hh.mono ?_
          clear hh
          rintro r w2 ⟨q2, c2, rfl, hN2, hb2, -⟩
          by_cases hz : y2 = 0
          · subst hz
            have hl0 : (dg 1000000 0).length = 0 := by rw [dg_zero]; rfl
            have hy1 : (1 = 2 → y = 1) := by omega
            have hR2 : HalR w L g y m nd q c w2 := ⟨hR.y0, hR.val, hR.len, hR.ndb, hR.s.old hb2, hR.t.old hb2, hR.m.trans (hb2.mono hR.m.size)⟩
            clear hR hb2 hN2
            go_wp2_with fail
            go_roundw
            case rel => exact ⟨1, y, m, nd, q, c, by omega, rfl, rfl, by go_num, fun h => by first | exact hy1 trivial | exact hy1 h | omega, hR2⟩
            case measure => simp [intOf]
          · have hv := bl_drop y 30 (by rw [← HY2.out]; exact hz)
            rw [← HY2.out] at hv
            have hval := hR.val
            have hlt : y2 < y := by rw [HY2.out]; exact Nat.div_lt_self (Nat.pos_of_ne_zero hR.y0) (by decide)
            obtain ⟨n2, hn2⟩ : ∃ n, n = (dg 1000000 y2).length := ⟨_, rfl⟩
            have hn2b : n2 ≤ 1024 := by rw [hn2]; exact Nat.le_trans (dg_len_mono 1000000 (by decide) (Nat.le_of_lt hlt)) (by rw [← hR.len]; exact hR.ndb)
            have hn20 : n2 ≠ 0 := by rw [hn2]; exact fun e => hz (dg_nil 1000000 (by decide) (List.eq_nil_of_length_eq_zero e))
            have b1 : ((n2 : Int) == 0) = false := by rw [beq_eq_false_iff_ne]; omega
            have wm : IntKind.i64.wrap ((m : Int) + 30) = (m : Int) + 30 := by rw [IntKind.wrap_i64]; omega
            have hR2 : HalR w L g y2 (m + 30) n2 q2 c2 w2 := ⟨hz, by omega, hn2, hn2b, hN2, hR.t.old hb2, hR.m.trans (hb2.mono hR.m.size)⟩
            rw [← hn2]
            clear hR hb2 hN2 hv hval hn2 hn20
            go_wp2_with fail
            go_roundg (y2 + 1)
            case rel => exact ⟨y2, m + 30, n2, q2, c2, rfl, by go_num, by omega, hR2⟩
            case measure => omega
      · have ct := hR.t.cell 1 (by decide)
        obtain ⟨M, hM⟩ : ∃ M, M = y + 1 := ⟨_, rfl⟩
        go_wp2_with fail
        go_loopg [3, 5] M (fun mm s3 s5 wr => ∃ (y m nd : Nat) (q : Option Addr) (c : Nat), s3 = .slice q nd c ∧ s5 = .int .i64 (m : Int) ∧ y < mm ∧ HalR w L g y m nd q c wr)
        case atStart => exact ⟨y, m, nd, q, c, rfl, rfl, by omega, hR⟩
        case round =>
          clear hR ct hM
          obtain ⟨y, m, nd, q, c, rfl, rfl, hym, hR⟩ := hrel
          obtain ⟨y2, hy2⟩ : ∃ z, z = y / 2 ^ 1 := ⟨_, rfl⟩
          have hh := half_any q c y 1 wr hR.s (by rw [← hR.len]; have := hR.ndb; omega) (by decide)
          rw [← hR.len, ← hy2] at hh
          have HY2 := Lib.hid hy2
          clear hy2
          go_wp2_with fail
          refine hh.mono ?_
          clear hh
          rintro r w2 ⟨q2, c2, rfl, hN2, hb2, -⟩
          by_cases hz : y2 = 0
          · subst hz
            have hl0 : (dg 1000000 0).length = 0 := by rw [dg_zero]; rfl
            have hy1 : (2 = 2 → y = 1) := by intro _; have := HY2.out; have := hR.y0; omega
            have hR2 : HalR w L g y m nd q c w2 := ⟨hR.y0, hR.val, hR.len, hR.ndb, hR.s.old hb2, hR.t.old hb2, hR.m.trans (hb2.mono hR.m.size)⟩
            clear hR hb2 hN2
            go_wp2_with fail
            go_roundw
            case rel => exact ⟨2, y, m, nd, q, c, by omega, rfl, rfl, by go_num, fun h => by first | exact hy1 trivial | exact hy1 h | omega, hR2⟩
            case measure => simp [intOf]
          · have hv := bl_drop y 1 (by rw [← HY2.out]; exact hz)
            rw [← HY2.out] at hv
            have hval := hR.val
            have hlt : y2 < y := by rw [HY2.out]; exact Nat.div_lt_self (Nat.pos_of_ne_zero hR.y0) (by decide)
            obtain ⟨n2, hn2⟩ : ∃ n, n = (dg 1000000 y2).length := ⟨_, rfl⟩
            have hn2b : n2 ≤ 1024 := by rw [hn2]; exact Nat.le_trans (dg_len_mono 1000000 (by decide) (Nat.le_of_lt hlt)) (by rw [← hR.len]; exact hR.ndb)
            have hn20 : n2 ≠ 0 := by rw [hn2]; exact fun e => hz (dg_nil 1000000 (by decide) (List.eq_nil_of_length_eq_zero e))
            have b1 : ((n2 : Int) == 0) = false := by rw [beq_eq_false_iff_ne]; omega
            have wm : IntKind.i64.wrap ((m : Int) + 1) = (m : Int) + 1 := by rw [IntKind.wrap_i64]; omega
            have hR2 : HalR w L g y2 (m + 1) n2 q2 c2 w2 := ⟨hz, by omega, hn2, hn2b, hN2, hR.t.old hb2, hR.m.trans (hb2.mono hR.m.size)⟩
            rw [← hn2]
            clear hR hb2 hN2 hv hval hn2 hn20
            go_wp2_with fail
            go_roundg (y2 + 1)
            case rel => exact ⟨y2, m + 1, n2, q2, c2, rfl, by go_num, by omega, hR2⟩
            case measure => omega
      · obtain rfl := hj2 rfl
        have hv := hR.val
        have hm := hR.m
        have hb1 : bl 1 = 1 := bl_unique (by decide) (by decide) (by decide)
        obtain rfl : m = L := by omega
        clear hR hv hb1 hj2
        go_wp2_with fail
        go_ret
        exact ⟨rfl, hm⟩
end Go.Proofs.YtepibfpdkjkdjaaDoor
