/- The document's numbers: Mul. -/
import Derived.Test.YtepibfpdkjkdjaaDoorN23
import Derived.Test.YtepibfpdkjkdjaaDoorLaw3
namespace Go.Proofs.YtepibfpdkjkdjaaDoor
open Go.RowKit

set_option maxHeartbeats 2000000 in
set_option maxRecDepth 20000 in
theorem rmul_any (p q : Option Addr) (cp cq x y : Nat) (w : World) (hx : DecIn w p cp x) (hy : DecIn w q cq y) (lx : (dg 10 x).length ≤ 10000) (ly : (dg 10 y).length ≤ 10000) :
    Calls Tryd.prog 25 #[.slice p (dg 10 x).length cp, .slice q (dg 10 y).length cq] w (DecOut w (x * y)) := by
  obtain ⟨la, hla⟩ : ∃ n, (dg 10 x).length = n := ⟨_, rfl⟩
  rw [hla] at lx ⊢
  have Hla := Lib.hid hla
  have hxl : x < 10 ^ la := by rw [← hla]; exact dlt x
  have hlen : Hid (∀ t, t ≤ x * y → (dg 10 t).length ≤ 20000) := Lib.hid (by
    intro t ht
    have h1 : x * y < 10 ^ (la + (dg 10 y).length) := by
      rw [Nat.pow_add]
      have hyl := dlt y
      exact Nat.lt_of_le_of_lt (Nat.mul_le_mul_left x (Nat.le_of_lt hyl)) (Nat.mul_lt_mul_of_pos_right hxl (Nat.pow_pos (by decide)))
    have := dlen_le (Nat.lt_of_le_of_lt ht h1)
    omega)
  have hw1 : IntKind.i64.wrap ((la : Int) - 1) = (la : Int) - 1 := by rw [IntKind.wrap_i64]; omega
  have hK : DecIn (w.alloc (.cells #[] 3)) (some ⟨w.heap.size, 0, none⟩) 0 0 := by
    have := Sl.made (k := .i64) (T := 3) w [] (by simp [maxLen])
    show Sl _ _ _ _ _ (dg 10 0)
    rw [dg_zero]; exact this
  have hB0 : Below w.heap.size w (w.alloc (.cells #[] 3)) := (Below.refl _ _).alloc (Nat.le_refl _) _
  have hd0 : (dg 10 0).length = 0 := by rw [dg_zero]; rfl
  have ht0 : Hid (0 = x / 10 ^ la * y) := Lib.hid (by rw [Nat.div_eq_of_lt hxl, Nat.zero_mul])
  have Hd0 := Lib.hid hd0
  clear hla hxl hd0
  go_enter Tryd.func25, Tryd.ntmps25
  go_wp2_with fail
  generalize (w.alloc (.cells #[] 3)) = W at hK hB0 ⊢
  go_loopw [5, 6] (fun s5 s6 wr => ∃ (j t m : Nat) (z : Int) (pq : Option Addr) (c : Nat), s5 = .slice pq m c ∧ s6 = .int .i64 z ∧ z = (j : Int) - 1 ∧ j ≤ la ∧ Hid (t = x / 10 ^ j * y) ∧ Hid ((dg 10 t).length = m) ∧ DecIn wr pq c t ∧ Below w.heap.size w wr ∧ (∀ a, pq = some a → w.heap.size ≤ a.block)) (fun _ i _ => (intOf i + 1).toNat)
  case atStart => exact ⟨la, 0, 0, _, _, 0, rfl, rfl, rfl, by omega, ht0, Hd0, hK, hB0, fun a e => by cases e; exact Nat.le_refl _⟩
  case round =>
    clear hK hB0 ht0 Hd0
    obtain ⟨j, t, m, z, pq, c, rfl, rfl, hz, hj, ht, hm, hN, hB, hnew⟩ := hrel
    by_cases hj0 : 0 < j
    · obtain ⟨i, rfl⟩ : ∃ i, j = i + 1 := ⟨j - 1, by omega⟩
      obtain rfl : z = (i : Int) := by omega
      have hil : i < (dg 10 x).length := by rw [Hla.out]; omega
      have hne : dg 10 x ≠ [] := by intro e; rw [e] at hil; simp at hil
      obtain ⟨g, rfl⟩ := hx.isPtr hne
      obtain ⟨dx, hdx⟩ : ∃ d, d = x / 10 ^ i % 10 := ⟨_, rfl⟩
      have ldx : dx < 10 := by rw [hdx]; exact Nat.mod_lt _ (by decide)
      have hcellx : ∀ wr, Below w.heap.size w wr → wr.cell? ⟨g, i, none⟩ = some (.int .i64 (dx : Int)) := by
        intro wr hb
        have := (hx.old hb).cell i hil
        rw [dg_at 10 (by decide) x i hil, ← hdx] at this; exact this
      have Hcell := Lib.hid hcellx
      have hsp := div_split x i
      rw [← hdx] at hsp
      have hti : Hid (x / 10 ^ i * y = 10 * t + dx * y) := Lib.hid (by rw [hsp, Nat.add_mul, ht.out, Nat.mul_assoc])
      have htop : Hid (x / 10 ^ i * y ≤ x * y) := Lib.hid (Nat.mul_le_mul_right y (Nat.div_le_self x _))
      have b0 : (0 : Int) ≤ i := by omega
      have b1 : (i : Int) < la := by omega
      have a5 : IntKind.i64.wrap ((i : Int) - 1) = (i : Int) - 1 := by rw [IntKind.wrap_i64]; omega
      have hm20 : m ≤ 20000 := by
        rw [← hm.out]
        refine hlen.out t (Nat.le_trans ?_ htop.out)
        rw [hti.out]; omega
      have hS1 := Sl.made (k := .i64) (T := 3) wr [0] (by simp [maxLen])
      have hN1 := hN.alloc (.cells (nums .i64 [0]).toArray 3)
      have hB1 := hB.alloc hB.size (.cells (nums .i64 [0]).toArray 3)
      have hbs := hB.size
      clear hdx hcellx hsp hz hj0 ht
      go_wp2_with (at_builtin; refine wpList_cat rfl _ _ .i64 26 3 (.int .i64 0) 8 rfl Tryd.underlying26 info_int rfl (by decide) wr.heap.size 1 1 pq c m [0] (dg 10 t) rfl hm.out rfl hS1 rfl hN1 (by omega) ?_; intro pq2 c2 W5 hP)
      obtain ⟨hS5, hm5, g5, rfl, hor⟩ := hP
      have hB5 : Below w.heap.size w W5 := hB1.trans (hm5.to_below hB1.size (by rintro k hk ⟨a, e, rfl⟩; cases e; exact absurd hk (Nat.not_lt.2 hbs)))
      have hg5 : w.heap.size ≤ g5 := by
        rcases hor with h | h
        · cases h; exact hbs
        · exact Nat.le_trans hB1.size h
      have htr := rtrim_any (some ⟨g5, 0, none⟩) c2 (1 + m) ([0] ++ dg 10 t) W5 hS5 (by rw [List.length_append, hm.out]; rfl) (by
        intro u hu
        rw [List.mem_append, List.mem_singleton] at hu
        rcases hu with rfl | hu
        · decide
        · exact dg_lt 10 (by decide) t u hu) (by omega)
      have hvt : vl 10 ([0] ++ dg 10 t) = 10 * t := by
        show 0 + 10 * vl 10 (dg 10 t) = _
        rw [vl_dg 10 (by decide)]; omega
      rw [hvt] at htr
      clear hS1 hN1 hB1 hS5 hm5 hor hN hB hnew hvt hbs
      go_wp2_with fail
      refine htr.mono ?_
      clear htr
      rintro r W6 ⟨rfl, hN6, rfl⟩
      obtain ⟨m6, hm6⟩ : ∃ k, (dg 10 (10 * t)).length = k := ⟨_, rfl⟩
      rw [hm6]
      have Hm6 := Lib.hid hm6
      clear hm6
      go_wp2_with fail
      obtain ⟨wo, rfl⟩ : ∃ wo : World, wo = wr := ⟨_, rfl⟩
      go_loopw [5, 7] (fun s5 s7 wr => ∃ (k t2 m2 : Nat) (pq : Option Addr) (c : Nat), s5 = .slice pq m2 c ∧ s7 = .int .i64 (k : Int) ∧ k ≤ dx ∧ Hid (t2 = 10 * t + k * y) ∧ Hid ((dg 10 t2).length = m2) ∧ DecIn wr pq c t2 ∧ Below w.heap.size w wr ∧ (∀ a, pq = some a → w.heap.size ≤ a.block)) (fun _ i _ => dx - (intOf i).toNat)
      case atStart => exact ⟨0, 10 * t, m6, _, c2, rfl, rfl, by omega, Lib.hid (by omega), Hm6, hN6, hB5, fun a e => by cases e; exact hg5⟩
      case round =>
        clear hN6 hB5 hg5 Hm6
        obtain ⟨k, t2, m2, pq, c, rfl, rfl, hk, ht2, hm2, hN, hB, hnew⟩ := hrel
        have hcell := Hcell.out wr hB
        by_cases hkd : k < dx
        · have c1 : (k : Int) < dx := by omega
          have hkw : IntKind.i64.wrap ((k : Int) + 1) = (k : Int) + 1 := by rw [IntKind.wrap_i64]; omega
          have hb2 : (dg 10 t2).length ≤ 20000 := hlen.out t2 (Nat.le_trans (by
            rw [hti.out, ht2.out]
            have := Nat.mul_le_mul_right y hk
            omega) htop.out)
          have hadd := radd_any pq q c cq t2 y wr hN (hy.old hB) (by omega) (by omega)
          rw [hm2.out] at hadd
          have ht3 : Hid (t2 + y = 10 * t + (k + 1) * y) := Lib.hid (by rw [ht2.out, Nat.add_mul, Nat.one_mul]; omega)
          clear hb2
          go_wp2_with fail
          refine hadd.mono ?_
          clear hadd
          rintro r W7 ⟨pq7, c7, rfl, hN7, hb7, hn7⟩
          have hB7 := hB.trans (hb7.mono hB.size)
          have hbz := hB.size
          have hnew7 : ∀ a, pq7 = some a → w.heap.size ≤ a.block := fun a e => Nat.le_trans hbz (hn7 a e)
          obtain ⟨m7, hm7⟩ : ∃ k, (dg 10 (t2 + y)).length = k := ⟨_, rfl⟩
          rw [hm7]
          have Hm7 := Lib.hid hm7
          clear hm7 hN hB hnew hb7 hn7 hcell hbz
          go_wp2_with fail
          go_roundw
          case rel => exact ⟨k + 1, t2 + y, m7, pq7, c7, rfl, by go_num, by omega, ht3, Hm7, hN7, hB7, hnew7⟩
          case measure => simp [intOf]; omega
        · obtain rfl : k = dx := by omega
          have c1 : ¬ (k : Int) < k := by omega
          have ht3 : Hid (t2 = x / 10 ^ i * y) := Lib.hid (by rw [hti.out, ht2.out])
          clear ht2 hkd hk
          go_wp2_with fail
          go_roundw
          case rel => exact ⟨i, t2, m2, _, pq, c, rfl, rfl, by omega, by omega, ht3, hm2, hN, hB, hnew⟩
          case measure => simp [intOf]
    · obtain rfl : j = 0 := by omega
      obtain rfl : z = -1 := by omega
      have hxy : t = x * y := by rw [ht.out, Nat.pow_zero, Nat.div_one]
      subst hxy
      clear ht hz hj0 hj
      go_wp2_with fail
      go_ret
      exact ⟨pq, c, by rw [hm.out]; rfl, hN, hB, hnew⟩
end Go.Proofs.YtepibfpdkjkdjaaDoor
