/- The law NatTwo. -/
import Derived.Test.YtepibfpdkjkdjaaDoorN24
namespace Go.Proofs.YtepibfpdkjkdjaaDoor
open Go.RowKit

theorem dlen_pow {x n : Nat} (h : x < 10 ^ n) : (dg 10 x).length ≤ n := dg_len_le 10 (by decide) x n h

/-- Two numbers in their boxes, and the document's digits of both. -/
structure Two (ga gb : Nat) (q : Option Addr) (c : Nat) (q' : Option Addr) (c' x : Nat) (p : Option Addr) (d : Nat) (p' : Option Addr) (d' y : Nat) (w : World) : Prop where
  kx : Boxed w ga 25 (.slice q (lb x).length c)
  ky : Boxed w gb 25 (.slice p (lb y).length d)
  nx : NatIn w q c x
  ny : NatIn w p d y
  ex : DecIn w q' c' x
  ey : DecIn w p' d' y
theorem Two.old {ga gb : Nat} {q : Option Addr} {c : Nat} {q' : Option Addr} {c' x : Nat} {p : Option Addr} {d : Nat} {p' : Option Addr} {d' y : Nat} {w w' : World} (h : Two ga gb q c q' c' x p d p' d' y w) (hb : Below w.heap.size w w') : Two ga gb q c q' c' x p d p' d' y w' :=
  ⟨Boxed.below' h.kx hb h.kx.lt, Boxed.below' h.ky hb h.ky.lt, h.nx.old hb, h.ny.old hb, h.ex.old hb, h.ey.old hb⟩

set_option maxHeartbeats 4000000 in
set_option maxRecDepth 20000 in
theorem natTwo_any (s t : ByteArray) (w : World) (hs : s.size ≤ maxLen) (ht : t.size ≤ maxLen) :
    Calls Tryd.prog 3 #[.string s, .string t] w fun r w' => r = .returned (.bool true) ∧ Below w.heap.size w w' := by
  have Hs := Lib.hid hs
  have Ht := Lib.hid ht
  clear hs ht
  go_enter Tryd.func3, Tryd.ntmps3
  go_wp2_with fail
  refine (awake_any w).mono ?_
  rintro r w1 ⟨rfl, hb1⟩
  go_wp2_with fail
  have hof := lawOf_any s 60 w1 Hs.out (by decide) (by decide)
  refine hof.mono ?_
  clear hof
  rintro r w2 ⟨q, c, q', c', x, rfl, hx, hN, hD, hb2, -, -⟩
  have hB2 := hb1.trans (hb2.mono hb1.size)
  have lx := lb_pow hx.out
  have dx := dlen_pow hx.out
  have kx := Boxed.new w2 25 (.slice q (lb x).length c)
  have hB3 := hB2.alloc hB2.size (.cells #[.slice q (lb x).length c] 25)
  have nx := hN.alloc (.cells #[.slice q (lb x).length c] 25)
  have ex := hD.alloc (.cells #[.slice q (lb x).length c] 25)
  clear hb1 hb2 hD hN hB2 hx
  go_wp2_with fail
  generalize (w2.alloc (.cells #[.slice q (lb x).length c] 25)) = w3 at kx hB3 nx ex ⊢
  generalize w2.heap.size = ga at kx ⊢
  have hof := lawOf_any t 60 w3 Ht.out (by decide) (by decide)
  refine hof.mono ?_
  clear hof
  rintro r w4 ⟨p, d, p', d', y, rfl, hy, hN, hD, hb4, -, -⟩
  have hB4 := hB3.trans (hb4.mono hB3.size)
  have ly := lb_pow hy.out
  have dy := dlen_pow hy.out
  have ky := Boxed.new w4 25 (.slice p (lb y).length d)
  have kx4 := (Boxed.below' kx hb4 kx.lt).alloc (.cells #[.slice p (lb y).length d] 25)
  have hB5 := hB4.alloc hB4.size (.cells #[.slice p (lb y).length d] 25)
  have ny := hN.alloc (.cells #[.slice p (lb y).length d] 25)
  have ey := hD.alloc (.cells #[.slice p (lb y).length d] 25)
  have nx4 := (nx.old hb4).alloc (.cells #[.slice p (lb y).length d] 25)
  have ex4 := (ex.old hb4).alloc (.cells #[.slice p (lb y).length d] 25)
  clear hb4 hD hN hB4 hB3 hy kx nx ex
  go_wp2_with fail
  generalize (w4.alloc (.cells #[.slice p (lb y).length d] 25)) = W at ky kx4 hB5 ny nx4 ey ex4 ⊢
  generalize w4.heap.size = gb at ky ⊢
  have m1 := lb_mul x y
  have m2 := lb_add x y
  have m3 : (dg 10 (x + y)).length ≤ 61 := by have := dg_len_add 10 (by decide) x y; omega
  have m4 : (dg 10 (x * y)).length ≤ 120 := by have := dg_len_mul 10 (by decide) x y; omega
  refine (rcmp_any q' p' c' d' x y W ex4 ey (by omega) (by omega)).mono ?_
  rintro r w5 ⟨rfl, rfl⟩
  have hcase : (x < y ∧ cmpI x y = -1 ∧ cmpI y x = 1) ∨ (y ≤ x ∧ ((cmpI x y = 0 ∧ cmpI y x = 0) ∨ (cmpI x y = 1 ∧ cmpI y x = -1))) := by
    rcases Nat.lt_trichotomy x y with h | h | h
    · left; unfold cmpI; exact ⟨h, by rw [if_pos h], by rw [if_neg (by omega), if_pos h]⟩
    · right; subst h; exact ⟨Nat.le_refl _, .inl ⟨cmpI_self x, cmpI_self x⟩⟩
    · right; unfold cmpI; exact ⟨by omega, .inr ⟨by rw [if_neg (by omega), if_pos h], by rw [if_pos h]⟩⟩
  have c5 := kx4.cell
  have c7 := ky.cell
  have T : Two ga gb q c q' c' x p d p' d' y w5 := ⟨kx4, ky, nx4, ny, ex4, ey⟩
  have hB := hB5
  clear kx4 ky nx4 ny ex4 ey hB5
  rcases hcase with ⟨hlt, hc1, hc2⟩ | ⟨hle, ⟨hc1, hc2⟩ | ⟨hc1, hc2⟩⟩
  all_goals rw [hc1]
  case' inl =>
    go_wp2_with fail
    refine (sub_no q p c d x y w5 T.nx T.ny (by omega) hlt).mono ?_
    rintro r w6 ⟨rfl, hb⟩
    have kd0 := Boxed.new w6 25 (.slice none 0 0)
    have hba := hb.alloc hb.size (.cells #[.slice none 0 0] 25)
    have T0 := T.old hba
    have B0 := hB.trans (hba.mono hB.size)
    have nd0 : NatIn (w6.alloc (.cells #[.slice none 0 0] 25)) none 0 0 := by show Sl _ _ _ _ _ (lb 0); rw [lb_zero]; exact Sl.empty _ _ _
    have cx0 := T0.kx.cell
    have cy0 := T0.ky.cell
    have cd0 := kd0.cell
    clear hb hba T hB c5 c7
    go_wp2_with fail
    generalize (w6.alloc (.cells #[.slice none 0 0] 25)) = W0 at *
    generalize w6.heap.size = gd at *
    refine (add_any q p c d x y W0 T0.nx T0.ny (by omega) (by omega)).mono ?_
    rintro r W1 ⟨qa, ca, rfl, na, hb, -⟩
    have B1 := B0.trans (hb.mono B0.size)
    have T1 := T0.old hb
    have kd1 := Boxed.below' kd0 hb kd0.lt
    have nd1 := nd0.old hb
    have cd1 := kd1.cell
    clear kd0 nd0 cd0
    have cx1 := T1.kx.cell
    have cy1 := T1.ky.cell
    clear hb T0 B0 cx0 cy0
    go_wp2_with fail
    refine (text_any qa ca (x + y) W1 na (by omega)).mono ?_
    rintro r W2 ⟨rfl, hb⟩
    have B2 := B1.trans (hb.mono B1.size)
    have T2 := T1.old hb
    have kd2 := Boxed.below' kd1 hb kd1.lt
    have nd2 := nd1.old hb
    have cd2 := kd2.cell
    clear kd1 nd1 cd1
    have cx2 := T2.kx.cell
    have cy2 := T2.ky.cell
    clear hb T1 B1 cx1 cy1
    go_wp2_with fail
    refine (radd_any q' p' c' d' x y W2 T2.ex T2.ey (by omega) (by omega)).mono ?_
    rintro r W3 ⟨qb, cb, rfl, nb, hb, -⟩
    have B3 := B2.trans (hb.mono B2.size)
    have T3 := T2.old hb
    have kd3 := Boxed.below' kd2 hb kd2.lt
    have nd3 := nd2.old hb
    have cd3 := kd3.cell
    clear kd2 nd2 cd2
    have cx3 := T3.kx.cell
    have cy3 := T3.ky.cell
    clear hb T2 B2 cx2 cy2
    go_wp2_with fail
    refine (rtext_any qb cb (x + y) W3 nb (by omega)).mono ?_
    rintro r W4 ⟨rfl, hb⟩
    have B4 := B3.trans (hb.mono B3.size)
    have T4 := T3.old hb
    have kd4 := Boxed.below' kd3 hb kd3.lt
    have nd4 := nd3.old hb
    have cd4 := kd4.cell
    clear kd3 nd3 cd3
    have cx4 := T4.kx.cell
    have cy4 := T4.ky.cell
    clear hb T3 B3 cx3 cy3
    go_wp2_with fail
    refine (mul_any q p c d x y W4 T4.nx T4.ny (by omega) (by omega)).mono ?_
    rintro r W5 ⟨qm, cm, rfl, nm, hb, -⟩
    have B5 := B4.trans (hb.mono B4.size)
    have T5 := T4.old hb
    have kd5 := Boxed.below' kd4 hb kd4.lt
    have nd5 := nd4.old hb
    have cd5 := kd5.cell
    clear kd4 nd4 cd4
    have cx5 := T5.kx.cell
    have cy5 := T5.ky.cell
    clear hb T4 B4 cx4 cy4
    go_wp2_with fail
    refine (text_any qm cm (x * y) W5 nm (by omega)).mono ?_
    rintro r W6 ⟨rfl, hb⟩
    have B6 := B5.trans (hb.mono B5.size)
    have T6 := T5.old hb
    have kd6 := Boxed.below' kd5 hb kd5.lt
    have nd6 := nd5.old hb
    have cd6 := kd6.cell
    clear kd5 nd5 cd5
    have cx6 := T6.kx.cell
    have cy6 := T6.ky.cell
    clear hb T5 B5 cx5 cy5
    go_wp2_with fail
    refine (rmul_any q' p' c' d' x y W6 T6.ex T6.ey (by omega) (by omega)).mono ?_
    rintro r W7 ⟨qn, cn, rfl, nn, hb, -⟩
    have B7 := B6.trans (hb.mono B6.size)
    have T7 := T6.old hb
    have kd7 := Boxed.below' kd6 hb kd6.lt
    have nd7 := nd6.old hb
    have cd7 := kd7.cell
    clear kd6 nd6 cd6
    have cx7 := T7.kx.cell
    have cy7 := T7.ky.cell
    clear hb T6 B6 cx6 cy6
    go_wp2_with fail
    refine (rtext_any qn cn (x * y) W7 nn (by omega)).mono ?_
    rintro r W8 ⟨rfl, hb⟩
    have B8 := B7.trans (hb.mono B7.size)
    have T8 := T7.old hb
    have kd8 := Boxed.below' kd7 hb kd7.lt
    have nd8 := nd7.old hb
    have cd8 := kd8.cell
    clear kd7 nd7 cd7
    have cx8 := T8.kx.cell
    have cy8 := T8.ky.cell
    clear hb T7 B7 cx7 cy7
    go_wp2_with fail
    refine (cmp_any q p c d x y W8 T8.nx T8.ny (by omega)).mono ?_
    rintro r W9 ⟨rfl, hb⟩
    have B9 := B8.trans (hb.mono B8.size)
    have T9 := T8.old hb
    have kd9 := Boxed.below' kd8 hb kd8.lt
    have nd9 := nd8.old hb
    have cd9 := kd9.cell
    clear kd8 nd8 cd8
    rw [hc1]
    have cx9 := T9.kx.cell
    have cy9 := T9.ky.cell
    clear hb T8 B8 cx8 cy8
    go_wp2_with fail
    refine (cmp_any p q d c y x W9 T9.ny T9.nx (by omega)).mono ?_
    rintro r W10 ⟨rfl, hb⟩
    have B10 := B9.trans (hb.mono B9.size)
    have T10 := T9.old hb
    have kd10 := Boxed.below' kd9 hb kd9.lt
    have nd10 := nd9.old hb
    have cd10 := kd10.cell
    clear kd9 nd9 cd9
    rw [hc2]
    have cx10 := T10.kx.cell
    have cy10 := T10.ky.cell
    clear hb T9 B9 cx9 cy9
    go_wp2_with fail
    have hz := zero_any none 0 0 W10
    rw [show (lb 0).length = 0 by rw [lb_zero]; rfl] at hz
    refine hz.mono ?_
    rintro r W11 ⟨rfl, hb⟩
    have B11 := B10.trans (hb.mono B10.size)
    have hz0 : ((0 : Nat) == 0) = true := rfl
    go_wp2_with fail
    go_ret
    exact ⟨rfl, B11⟩
  all_goals
    go_wp2_with fail
    refine (sub_yes q p c d x y w5 T.nx T.ny (by omega) (Lib.hid hle)).mono ?_
    rintro r w6 ⟨qd, cd, rfl, hnd, hb, -⟩
    obtain ⟨z, hz⟩ : ∃ z, z = x - y := ⟨_, rfl⟩
    rw [← hz] at hnd ⊢
    have Hz := Lib.hid hz
    have lz : (lb z).length ≤ (lb x).length := lb_le (by omega)
    have dz : (dg 10 z).length ≤ (dg 10 x).length := dg_len_mono 10 (by decide) (by omega)
    clear hz
    have kd0 := Boxed.new w6 25 (.slice qd (lb z).length cd)
    have hba := hb.alloc hb.size (.cells #[.slice qd (lb z).length cd] 25)
    have T0 := T.old hba
    have B0 := hB.trans (hba.mono hB.size)
    have nd0 : NatIn (w6.alloc (.cells #[.slice qd (lb z).length cd] 25)) qd cd z := hnd.alloc _
    have cx0 := T0.kx.cell
    have cy0 := T0.ky.cell
    have cd0 := kd0.cell
    clear hb hba T hB c5 c7 hnd
    go_wp2_with fail
    generalize (w6.alloc (.cells #[.slice qd (lb z).length cd] 25)) = W0 at *
    generalize w6.heap.size = gd at *
    refine (add_any q p c d x y W0 T0.nx T0.ny (by omega) (by omega)).mono ?_
    rintro r W1 ⟨qa, ca, rfl, na, hb, -⟩
    have B1 := B0.trans (hb.mono B0.size)
    have T1 := T0.old hb
    have kd1 := Boxed.below' kd0 hb kd0.lt
    have nd1 := nd0.old hb
    have cd1 := kd1.cell
    clear kd0 nd0 cd0
    have cx1 := T1.kx.cell
    have cy1 := T1.ky.cell
    clear hb T0 B0 cx0 cy0
    go_wp2_with fail
    refine (text_any qa ca (x + y) W1 na (by omega)).mono ?_
    rintro r W2 ⟨rfl, hb⟩
    have B2 := B1.trans (hb.mono B1.size)
    have T2 := T1.old hb
    have kd2 := Boxed.below' kd1 hb kd1.lt
    have nd2 := nd1.old hb
    have cd2 := kd2.cell
    clear kd1 nd1 cd1
    have cx2 := T2.kx.cell
    have cy2 := T2.ky.cell
    clear hb T1 B1 cx1 cy1
    go_wp2_with fail
    refine (radd_any q' p' c' d' x y W2 T2.ex T2.ey (by omega) (by omega)).mono ?_
    rintro r W3 ⟨qb, cb, rfl, nb, hb, -⟩
    have B3 := B2.trans (hb.mono B2.size)
    have T3 := T2.old hb
    have kd3 := Boxed.below' kd2 hb kd2.lt
    have nd3 := nd2.old hb
    have cd3 := kd3.cell
    clear kd2 nd2 cd2
    have cx3 := T3.kx.cell
    have cy3 := T3.ky.cell
    clear hb T2 B2 cx2 cy2
    go_wp2_with fail
    refine (rtext_any qb cb (x + y) W3 nb (by omega)).mono ?_
    rintro r W4 ⟨rfl, hb⟩
    have B4 := B3.trans (hb.mono B3.size)
    have T4 := T3.old hb
    have kd4 := Boxed.below' kd3 hb kd3.lt
    have nd4 := nd3.old hb
    have cd4 := kd4.cell
    clear kd3 nd3 cd3
    have cx4 := T4.kx.cell
    have cy4 := T4.ky.cell
    clear hb T3 B3 cx3 cy3
    go_wp2_with fail
    refine (mul_any q p c d x y W4 T4.nx T4.ny (by omega) (by omega)).mono ?_
    rintro r W5 ⟨qm, cm, rfl, nm, hb, -⟩
    have B5 := B4.trans (hb.mono B4.size)
    have T5 := T4.old hb
    have kd5 := Boxed.below' kd4 hb kd4.lt
    have nd5 := nd4.old hb
    have cd5 := kd5.cell
    clear kd4 nd4 cd4
    have cx5 := T5.kx.cell
    have cy5 := T5.ky.cell
    clear hb T4 B4 cx4 cy4
    go_wp2_with fail
    refine (text_any qm cm (x * y) W5 nm (by omega)).mono ?_
    rintro r W6 ⟨rfl, hb⟩
    have B6 := B5.trans (hb.mono B5.size)
    have T6 := T5.old hb
    have kd6 := Boxed.below' kd5 hb kd5.lt
    have nd6 := nd5.old hb
    have cd6 := kd6.cell
    clear kd5 nd5 cd5
    have cx6 := T6.kx.cell
    have cy6 := T6.ky.cell
    clear hb T5 B5 cx5 cy5
    go_wp2_with fail
    refine (rmul_any q' p' c' d' x y W6 T6.ex T6.ey (by omega) (by omega)).mono ?_
    rintro r W7 ⟨qn, cn, rfl, nn, hb, -⟩
    have B7 := B6.trans (hb.mono B6.size)
    have T7 := T6.old hb
    have kd7 := Boxed.below' kd6 hb kd6.lt
    have nd7 := nd6.old hb
    have cd7 := kd7.cell
    clear kd6 nd6 cd6
    have cx7 := T7.kx.cell
    have cy7 := T7.ky.cell
    clear hb T6 B6 cx6 cy6
    go_wp2_with fail
    refine (rtext_any qn cn (x * y) W7 nn (by omega)).mono ?_
    rintro r W8 ⟨rfl, hb⟩
    have B8 := B7.trans (hb.mono B7.size)
    have T8 := T7.old hb
    have kd8 := Boxed.below' kd7 hb kd7.lt
    have nd8 := nd7.old hb
    have cd8 := kd8.cell
    clear kd7 nd7 cd7
    have cx8 := T8.kx.cell
    have cy8 := T8.ky.cell
    clear hb T7 B7 cx7 cy7
    go_wp2_with fail
    refine (cmp_any q p c d x y W8 T8.nx T8.ny (by omega)).mono ?_
    rintro r W9 ⟨rfl, hb⟩
    have B9 := B8.trans (hb.mono B8.size)
    have T9 := T8.old hb
    have kd9 := Boxed.below' kd8 hb kd8.lt
    have nd9 := nd8.old hb
    have cd9 := kd9.cell
    clear kd8 nd8 cd8
    rw [hc1]
    have cx9 := T9.kx.cell
    have cy9 := T9.ky.cell
    clear hb T8 B8 cx8 cy8
    go_wp2_with fail
    refine (cmp_any p q d c y x W9 T9.ny T9.nx (by omega)).mono ?_
    rintro r W10 ⟨rfl, hb⟩
    have B10 := B9.trans (hb.mono B9.size)
    have T10 := T9.old hb
    have kd10 := Boxed.below' kd9 hb kd9.lt
    have nd10 := nd9.old hb
    have cd10 := kd10.cell
    clear kd9 nd9 cd9
    rw [hc2]
    have cx10 := T10.kx.cell
    have cy10 := T10.ky.cell
    clear hb T9 B9 cx9 cy9
    go_wp2_with fail
    refine (text_any qd cd z W10 nd10 (by omega)).mono ?_
    rintro r W11 ⟨rfl, hb⟩
    have B11 := B10.trans (hb.mono B10.size)
    have T11 := T10.old hb
    clear hb T10 B10 cx10 cy10 cd10 kd10 nd10
    go_wp2_with fail
    refine (rsub_any q' p' c' d' x y W11 T11.ex T11.ey (by omega) (Lib.hid hle)).mono ?_
    rintro r W12 ⟨qs, cs, rfl, ns, hb, -⟩
    rw [← Hz.out] at ns ⊢
    have B12 := B11.trans (hb.mono B11.size)
    clear hb T11 B11
    go_wp2_with fail
    refine (rtext_any qs cs z W12 ns (by omega)).mono ?_
    rintro r W13 ⟨rfl, hb⟩
    have B13 := B12.trans (hb.mono B12.size)
    go_wp2_with fail
    go_ret
    exact ⟨rfl, B13⟩
end Go.Proofs.YtepibfpdkjkdjaaDoor
