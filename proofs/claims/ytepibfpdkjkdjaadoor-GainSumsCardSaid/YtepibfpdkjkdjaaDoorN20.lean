/- The law NatBits. -/
import Derived.Test.YtepibfpdkjkdjaaDoorN18
import Derived.Test.YtepibfpdkjkdjaaDoorVal
namespace Go.Proofs.YtepibfpdkjkdjaaDoor
open Go.RowKit

theorem bl_ge {x k : Nat} (h : 2 ^ k ≤ x) : k + 1 ≤ bl x := by
  apply Nat.lt_of_not_le
  intro hle
  have h3 : x < 2 ^ bl x := lt_pow_dg 2 (by decide) x
  have h4 : 2 ^ bl x ≤ 2 ^ k := Nat.pow_le_pow_right (by decide) hle
  omega
theorem bl_up {x k : Nat} (h : x < 2 ^ k) : bl x ≤ k := dg_len_le 2 (by decide) x k h
theorem bl_mul {x y : Nat} (hx : x ≠ 0) (hy : y ≠ 0) : bl (x * y) = bl x + bl y ∨ bl (x * y) = bl x + bl y - 1 := by
  obtain ⟨a1, a2, a3⟩ := bl_bounds hx
  obtain ⟨b1, b2, b3⟩ := bl_bounds hy
  have h1 := bl_ge (x := x * y) (k := bl x - 1 + (bl y - 1)) (by rw [Nat.pow_add]; exact Nat.mul_le_mul a2 b2)
  have h2 := bl_up (x := x * y) (k := bl x + bl y) (by
    rw [Nat.pow_add]
    exact Nat.lt_of_le_of_lt (Nat.mul_le_mul_left x (Nat.le_of_lt b3)) (Nat.mul_lt_mul_of_pos_right a3 (Nat.pow_pos (by decide))))
  omega
theorem bl_add {x y : Nat} (hx : x ≠ 0) (hy : y ≠ 0) : bl (x + y) = max (bl x) (bl y) ∨ bl (x + y) = max (bl x) (bl y) + 1 := by
  obtain ⟨a1, a2, a3⟩ := bl_bounds hx
  obtain ⟨b1, b2, b3⟩ := bl_bounds hy
  have hx2 : x < 2 ^ max (bl x) (bl y) := Nat.lt_of_lt_of_le a3 (Nat.pow_le_pow_right (by decide) (Nat.le_max_left _ _))
  have hy2 : y < 2 ^ max (bl x) (bl y) := Nat.lt_of_lt_of_le b3 (Nat.pow_le_pow_right (by decide) (Nat.le_max_right _ _))
  have h2 := bl_up (x := x + y) (k := max (bl x) (bl y) + 1) (by rw [Nat.pow_succ]; omega)
  have h1 : max (bl x) (bl y) ≤ bl (x + y) := by
    rcases Nat.le_total (bl x) (bl y) with h | h
    · rw [Nat.max_eq_right h]
      have := bl_ge (x := x + y) (k := bl y - 1) (by omega)
      omega
    · rw [Nat.max_eq_left h]
      have := bl_ge (x := x + y) (k := bl x - 1) (by omega)
      omega
  omega

set_option maxHeartbeats 2000000 in
theorem natBits_any (s t : ByteArray) (w : World) (hs : s.size ≤ maxLen) (ht : t.size ≤ maxLen) :
    Calls Tryd.prog 8 #[.string s, .string t] w fun r w' => r = .returned (.bool true) ∧ Below w.heap.size w w' := by
  have Hs := Lib.hid hs
  have Ht := Lib.hid ht
  clear hs ht
  go_enter Tryd.func8, Tryd.ntmps8
  go_wp2_with fail
  refine (awake_any w).mono ?_
  rintro r w1 ⟨rfl, hb1⟩
  go_wp2_with fail
  have hof := lawOf_any s 80 w1 Hs.out (by decide) (by decide)
  refine hof.mono ?_
  clear hof
  rintro r w2 ⟨q, c, q', c', x, rfl, hx, hN, hD, hb2, -, -⟩
  have hB2 := hb1.trans (hb2.mono hb1.size)
  have lx := lb_pow hx.out
  have kx := Boxed.new w2 25 (.slice q (lb x).length c)
  have hB3 := hB2.alloc hB2.size (.cells #[.slice q (lb x).length c] 25)
  have nx := hN.alloc (.cells #[.slice q (lb x).length c] 25)
  clear hb1 hb2 hD hN hB2 hx
  go_wp2_with fail
  generalize (w2.alloc (.cells #[.slice q (lb x).length c] 25)) = w3 at kx hB3 nx ⊢
  generalize w2.heap.size = ga at kx ⊢
  have hof := lawOf_any t 80 w3 Ht.out (by decide) (by decide)
  refine hof.mono ?_
  clear hof
  rintro r w4 ⟨p, d, p', d', y, rfl, hy, hN, hD, hb4, -, -⟩
  have hB4 := hB3.trans (hb4.mono hB3.size)
  have ly := lb_pow hy.out
  have ky := Boxed.new w4 25 (.slice p (lb y).length d)
  have kx4 := (Boxed.below' kx hb4 kx.lt).alloc (.cells #[.slice p (lb y).length d] 25)
  have hB5 := hB4.alloc hB4.size (.cells #[.slice p (lb y).length d] 25)
  have ny := hN.alloc (.cells #[.slice p (lb y).length d] 25)
  have nx4 := (nx.old hb4).alloc (.cells #[.slice p (lb y).length d] 25)
  clear hb4 hD hN hB4 hB3 hy kx nx
  go_upto_region 5 with fail
  generalize (w4.alloc (.cells #[.slice p (lb y).length d] 25)) = W at ky kx4 hB5 ny nx4 ⊢
  generalize w4.heap.size = gb at ky ⊢
  have m1 := lb_mul x y
  have m2 := lb_add x y
  refine wp_region_puts (fun t v w' => Val (match t with
    | 25 => .nat (x)
    | 26 => .nat (y)
    | 27 => .nat (x * y)
    | 28 => .eq (Value.int .i64 ((bl (x * y) : Int)))
    | 29 => .nat (x)
    | 30 => .nat (y)
    | 31 => .nat (x + y)
    | 32 => .eq (Value.int .i64 ((bl (x + y) : Int)))
    | 9 => .eq (Value.int .i64 ((bl (x * y) : Int)))
    | 10 => .eq (Value.int .i64 ((bl (x + y) : Int)))
    | _ => .any) v w') (fun w' => Below W.heap.size W w') 80 (by kernel_rfl) (by decide +kernel) rfl (Below.refl _ _).drew (by
  refine OweAll.cons (owes_val rfl rfl fun a w1 ha hG hV => ?_) ?_
  · skip
    have h5 := ha.outer 5 (by decide +kernel)
    simp only [Act.eval] at h5
    have c5 := (Boxed.below' kx4 hG kx4.lt).cell
    exact ⟨.agg #[.slice q (lb x).length c], wanted_free rfl, by simp [execOp, go_sem, h5, c5], ⟨_, _, rfl, nx4.old hG⟩⟩
  refine OweAll.cons (owes_val rfl rfl fun a w1 ha hG hV => ?_) ?_
  · skip
    have h7 := ha.outer 7 (by decide +kernel)
    simp only [Act.eval] at h7
    have c7 := (Boxed.below' ky hG ky.lt).cell
    exact ⟨.agg #[.slice p (lb y).length d], wanted_free rfl, by simp [execOp, go_sem, h7, c7], ⟨_, _, rfl, ny.old hG⟩⟩
  refine OweAll.cons (owes_call rfl rfl 24 fun a w1 ha hG hV => ?_) ?_
  · skip
    obtain ⟨q25, c25, h25, n25⟩ : NV (x) (a.tmps.getD 25 undef) w1 := hV.get 25 (by decide +kernel)
    obtain ⟨q26, c26, h26, n26⟩ : NV (y) (a.tmps.getD 26 undef) w1 := hV.get 26 (by decide +kernel)
    refine ⟨#[.agg #[.slice q25 (lb (x)).length c25], .agg #[.slice q26 (lb (y)).length c26]], wanted_free rfl, by simp [execOp, resolve, invoke, go_sem, h25, h26], ?_⟩
    refine (mul_any q25 q26 c25 c26 x y w1 n25 n26 (by omega) (by omega)).mono ?_
    rintro r w2 ⟨qr, cr, rfl, hN, hb, -⟩; exact ⟨_, rfl, ⟨qr, cr, rfl, hN⟩, hG.trans (hb.mono hG.size), fun _ _ h => Val.old h hb⟩
  refine OweAll.cons (owes_call rfl rfl 30 fun a w1 ha hG hV => ?_) ?_
  · skip
    obtain ⟨q27, c27, h27, n27⟩ : NV (x * y) (a.tmps.getD 27 undef) w1 := hV.get 27 (by decide +kernel)
    refine ⟨#[.agg #[.slice q27 (lb (x * y)).length c27]], wanted_free rfl, by simp [execOp, resolve, invoke, go_sem, h27], ?_⟩
    refine (bits_any q27 c27 (x * y) w1 n27 (by omega)).mono ?_
    rintro r w2 ⟨rfl, hb⟩; exact ⟨_, rfl, rfl, hG.trans (hb.mono hG.size), fun _ _ h => Val.old h hb⟩
  refine OweAll.cons (owes_val rfl rfl fun a w1 ha hG hV => ?_) ?_
  · skip
    have h5 := ha.outer 5 (by decide +kernel)
    simp only [Act.eval] at h5
    have c5 := (Boxed.below' kx4 hG kx4.lt).cell
    exact ⟨.agg #[.slice q (lb x).length c], wanted_free rfl, by simp [execOp, go_sem, h5, c5], ⟨_, _, rfl, nx4.old hG⟩⟩
  refine OweAll.cons (owes_val rfl rfl fun a w1 ha hG hV => ?_) ?_
  · skip
    have h7 := ha.outer 7 (by decide +kernel)
    simp only [Act.eval] at h7
    have c7 := (Boxed.below' ky hG ky.lt).cell
    exact ⟨.agg #[.slice p (lb y).length d], wanted_free rfl, by simp [execOp, go_sem, h7, c7], ⟨_, _, rfl, ny.old hG⟩⟩
  refine OweAll.cons (owes_call rfl rfl 20 fun a w1 ha hG hV => ?_) ?_
  · skip
    obtain ⟨q29, c29, h29, n29⟩ : NV (x) (a.tmps.getD 29 undef) w1 := hV.get 29 (by decide +kernel)
    obtain ⟨q30, c30, h30, n30⟩ : NV (y) (a.tmps.getD 30 undef) w1 := hV.get 30 (by decide +kernel)
    refine ⟨#[.agg #[.slice q29 (lb (x)).length c29], .agg #[.slice q30 (lb (y)).length c30]], wanted_free rfl, by simp [execOp, resolve, invoke, go_sem, h29, h30], ?_⟩
    refine (add_any q29 q30 c29 c30 x y w1 n29 n30 (by omega) (by omega)).mono ?_
    rintro r w2 ⟨qr, cr, rfl, hN, hb, -⟩; exact ⟨_, rfl, ⟨qr, cr, rfl, hN⟩, hG.trans (hb.mono hG.size), fun _ _ h => Val.old h hb⟩
  refine OweAll.cons (owes_call rfl rfl 30 fun a w1 ha hG hV => ?_) ?_
  · skip
    obtain ⟨q31, c31, h31, n31⟩ : NV (x + y) (a.tmps.getD 31 undef) w1 := hV.get 31 (by decide +kernel)
    refine ⟨#[.agg #[.slice q31 (lb (x + y)).length c31]], wanted_free rfl, by simp [execOp, resolve, invoke, go_sem, h31], ?_⟩
    refine (bits_any q31 c31 (x + y) w1 n31 (by omega)).mono ?_
    rintro r w2 ⟨rfl, hb⟩; exact ⟨_, rfl, rfl, hG.trans (hb.mono hG.size), fun _ _ h => Val.old h hb⟩
  refine OweAll.cons (owes_val rfl rfl fun a w1 ha hG hV => ?_) ?_
  · skip
    have h28 : a.tmps.getD 28 undef = Value.int .i64 ((bl (x * y) : Int)) := hV.get 28 (by decide +kernel)
    exact ⟨Value.int .i64 ((bl (x * y) : Int)), wanted_free rfl, by simp [execOp, go_sem, h28], rfl⟩
  refine OweAll.cons (owes_val rfl rfl fun a w1 ha hG hV => ?_) ?_
  · skip
    have h32 : a.tmps.getD 32 undef = Value.int .i64 ((bl (x + y) : Int)) := hV.get 32 (by decide +kernel)
    exact ⟨Value.int .i64 ((bl (x + y) : Int)), wanted_free rfl, by simp [execOp, go_sem, h32], rfl⟩
  exact OweAll.nil
  ) ?_
  intro f w1 hG hv
  have h9 : f 9 = .int .i64 (bl (x * y) : Int) := hv 8 _ 9 rfl rfl
  have h10 : f 10 = .int .i64 (bl (x + y) : Int) := hv 9 _ 10 rfl rfl
  rename_i hK
  refine hK _ _ ?_
  clear hK hv
  have kx := Boxed.below' kx4 hG kx4.lt
  have ky1 := Boxed.below' ky hG ky.lt
  have nx := nx4.old hG
  have ny1 := ny.old hG
  have hB := hB5.trans (hG.mono hB5.size)
  clear hG kx4 ky nx4 ny hB5
  simp only [dsts, puts, List.filterMap_cons, List.filterMap_nil, List.foldl_cons, List.foldl_nil, Act.put, List.setIfInBounds_toArray, List.set_cons_succ, List.set_cons_zero, h9, h10]
  have cx := kx.cell
  have cy := ky1.cell
  have lxx : (lb x).length ≤ 100000 := by omega
  have lyy : (lb y).length ≤ 100000 := by omega
  have bx80 : bl x ≤ 32 * 80 := bl_le lx
  have by80 : bl y ≤ 32 * 80 := bl_le ly
  by_cases h0 : x = 0 ∨ y = 0
  · have hm0 : bl (x * y) = 0 := by
      rcases h0 with h | h
      · rw [h, Nat.zero_mul, bl_zero]
      · rw [h, Nat.mul_zero, bl_zero]
    have ha0 : bl (x + y) = max (bl x) (bl y) := by
      rcases h0 with h | h
      · rw [h, Nat.zero_add, bl_zero, Nat.zero_max]
      · rw [h, Nat.add_zero, bl_zero, Nat.max_zero]
    have e40 : ((bl (x * y) : Int) == 0) = true := by rw [hm0]; rfl
    have e48 : ((bl (x + y) : Int) == max (bl x : Int) (bl y : Int)) = true := by rw [ha0, beq_iff_eq]; omega
    have hcase : (x == 0) = true ∨ ((x == 0) = false ∧ (y == 0) = true) := by
      rcases Bool.eq_false_or_eq_true (x == 0) with h | h
      · exact .inl h
      · refine .inr ⟨h, ?_⟩
        rcases h0 with h1 | h1
        · rw [h1] at h; cases h
        · rw [h1]; rfl
    have E40 := Lib.hid e40
    have E48 := Lib.hid e48
    clear h0 hm0 ha0 e40 e48
    go_wp2_with fail
    refine (zero_any q c x w1).mono ?_
    rintro r w3 ⟨rfl, hb⟩
    have kx3 := Boxed.below' kx hb kx.lt
    have ky3 := Boxed.below' ky1 hb ky1.lt
    have nx3 := nx.old hb
    have ny3 := ny1.old hb
    have hB3 := hB.trans (hb.mono hB.size)
    clear hb hB nx ny1 kx ky1 cx cy
    have hgo : ∃ w2, Boxed w2 ga 25 (.slice q (lb x).length c) ∧ True := ⟨w3, kx3, trivial⟩
    clear hgo
    have cy3 := ky3.cell
    rcases hcase with b0 | ⟨b0, b1⟩
    all_goals rw [b0]
    case' inr =>
      go_wp2_with fail
      refine (zero_any p d y w3).mono ?_
      rintro r w2 ⟨rfl, hb⟩
      rw [b1]
      have kx2 := Boxed.below' kx3 hb kx3.lt
      have ky2 := Boxed.below' ky3 hb ky3.lt
      have nx2 := nx3.old hb
      have ny2 := ny3.old hb
      have hB2 := hB3.trans (hb.mono hB3.size)
      clear hb hB3 nx3 ny3 kx3 ky3 cy3 b1
    case' inl =>
      obtain ⟨w2, hw2⟩ : ∃ w2, w2 = w3 := ⟨_, rfl⟩
      have kx2 := kx3
      have ky2 := ky3
      have nx2 := nx3
      have ny2 := ny3
      have hB2 := hB3
      rw [← hw2] at kx2 ky2 nx2 ny2 hB2 ⊢
      clear hw2 hB3 nx3 ny3 kx3 ky3 cy3
    all_goals
      clear b0
      go_upto_region 7 with fail
      have e40 := E40.out
      have e48 := E48.out
      refine wp_region_vals (fun t v w' => Val (match t with
      | 39 => .eq (Value.int .i64 ((bl (x * y) : Int)))
      | 40 => .eq (Value.bool true)
      | 41 => .eq (Value.bool true)
      | 42 => .eq (Value.int .i64 ((bl (x + y) : Int)))
      | 43 => .nat (x)
      | 44 => .eq (Value.int .i64 ((bl x : Int)))
      | 45 => .nat (y)
      | 46 => .eq (Value.int .i64 ((bl y : Int)))
      | 47 => .eq (Value.int .i64 (max (bl x : Int) (bl y : Int)))
      | 48 => .eq (Value.bool true)
      | 49 => .eq (Value.bool true)
      | 4 => .eq (Value.bool true)
      | _ => .any) v w') (fun w' => Below w2.heap.size w2 w') 80 (by kernel_rfl) (by decide +kernel) rfl (Below.refl _ _).drew (by
        refine OweAll.cons (owes_val rfl rfl fun a w1 ha hG hV => ?_) ?_
        · skip
          have h9 := ha.outer 9 (by decide +kernel)
          simp only [Act.eval] at h9
          exact ⟨Value.int .i64 ((bl (x * y) : Int)), wanted_free rfl, by simp [execOp, go_sem, h9], rfl⟩
        refine OweAll.cons (owes_val rfl rfl fun a w1 ha hG hV => ?_) ?_
        · skip
          have h39 : a.tmps.getD 39 undef = Value.int .i64 ((bl (x * y) : Int)) := hV.get 39 (by decide +kernel)
          exact ⟨Value.bool true, wanted_free rfl, by simp [execOp, go_sem, h39, e40], rfl⟩
        refine OweAll.cons (owes_val rfl rfl fun a w1 ha hG hV => ?_) ?_
        · skip
          have h40 : a.tmps.getD 40 undef = Value.bool true := hV.get 40 (by decide +kernel)
          exact ⟨Value.bool true, wanted_free rfl, by simp [execOp, go_sem, h40], rfl⟩
        refine OweAll.cons (owes_val rfl rfl fun a w1 ha hG hV => ?_) ?_
        · skip
          have h10 := ha.outer 10 (by decide +kernel)
          simp only [Act.eval] at h10
          exact ⟨Value.int .i64 ((bl (x + y) : Int)), (wanted_of (t := 41) rfl rfl (hV.get 41 (by decide +kernel))), by simp [execOp, go_sem, h10], rfl⟩
        refine OweAll.cons (owes_val rfl rfl fun a w1 ha hG hV => ?_) ?_
        · skip
          have h5 := ha.outer 5 (by decide +kernel)
          simp only [Act.eval] at h5
          have c5 := (Boxed.below' kx2 hG kx2.lt).cell
          exact ⟨.agg #[.slice q (lb x).length c], (wanted_of (t := 41) rfl rfl (hV.get 41 (by decide +kernel))), by simp [execOp, go_sem, h5, c5], ⟨_, _, rfl, nx2.old hG⟩⟩
        refine OweAll.cons (owes_call rfl rfl 30 fun a w1 ha hG hV => ?_) ?_
        · skip
          obtain ⟨q43, c43, h43, n43⟩ : NV (x) (a.tmps.getD 43 undef) w1 := hV.get 43 (by decide +kernel)
          refine ⟨#[.agg #[.slice q43 (lb (x)).length c43]], (wanted_of (t := 41) rfl rfl (hV.get 41 (by decide +kernel))), by simp [execOp, resolve, invoke, go_sem, h43], ?_⟩
          refine (bits_any q43 c43 x w1 n43 lxx).mono ?_
          rintro r w2 ⟨rfl, hb⟩; exact ⟨_, rfl, rfl, hG.trans (hb.mono hG.size), fun _ _ h => Val.old h hb⟩
        refine OweAll.cons (owes_val rfl rfl fun a w1 ha hG hV => ?_) ?_
        · skip
          have h7 := ha.outer 7 (by decide +kernel)
          simp only [Act.eval] at h7
          have c7 := (Boxed.below' ky2 hG ky2.lt).cell
          exact ⟨.agg #[.slice p (lb y).length d], (wanted_of (t := 41) rfl rfl (hV.get 41 (by decide +kernel))), by simp [execOp, go_sem, h7, c7], ⟨_, _, rfl, ny2.old hG⟩⟩
        refine OweAll.cons (owes_call rfl rfl 30 fun a w1 ha hG hV => ?_) ?_
        · skip
          obtain ⟨q45, c45, h45, n45⟩ : NV (y) (a.tmps.getD 45 undef) w1 := hV.get 45 (by decide +kernel)
          refine ⟨#[.agg #[.slice q45 (lb (y)).length c45]], (wanted_of (t := 41) rfl rfl (hV.get 41 (by decide +kernel))), by simp [execOp, resolve, invoke, go_sem, h45], ?_⟩
          refine (bits_any q45 c45 y w1 n45 lyy).mono ?_
          rintro r w2 ⟨rfl, hb⟩; exact ⟨_, rfl, rfl, hG.trans (hb.mono hG.size), fun _ _ h => Val.old h hb⟩
        refine OweAll.cons (owes_val rfl rfl fun a w1 ha hG hV => ?_) ?_
        · skip
          have h44 : a.tmps.getD 44 undef = Value.int .i64 ((bl x : Int)) := hV.get 44 (by decide +kernel)
          have h46 : a.tmps.getD 46 undef = Value.int .i64 ((bl y : Int)) := hV.get 46 (by decide +kernel)
          exact ⟨Value.int .i64 (max (bl x : Int) (bl y : Int)), (wanted_of (t := 41) rfl rfl (hV.get 41 (by decide +kernel))), by simp [execOp, go_sem, h44, h46, resolve, invoke, builtin], rfl⟩
        refine OweAll.cons (owes_val rfl rfl fun a w1 ha hG hV => ?_) ?_
        · skip
          have h42 : a.tmps.getD 42 undef = Value.int .i64 ((bl (x + y) : Int)) := hV.get 42 (by decide +kernel)
          have h47 : a.tmps.getD 47 undef = Value.int .i64 (max (bl x : Int) (bl y : Int)) := hV.get 47 (by decide +kernel)
          exact ⟨Value.bool true, (wanted_of (t := 41) rfl rfl (hV.get 41 (by decide +kernel))), by simp [execOp, go_sem, h42, h47, e48], rfl⟩
        refine OweAll.cons (owes_val rfl rfl fun a w1 ha hG hV => ?_) ?_
        · skip
          have h41 : a.tmps.getD 41 undef = Value.bool true := hV.get 41 (by decide +kernel)
          have h48 : a.tmps.getD 48 undef = Value.bool true := hV.get 48 (by decide +kernel)
          exact ⟨Value.bool true, wanted_free rfl, by simp [execOp, go_sem, h41, h48], rfl⟩
        refine OweAll.cons (owes_val rfl rfl fun a w1 ha hG hV => ?_) ?_
        · skip
          have h49 : a.tmps.getD 49 undef = Value.bool true := hV.get 49 (by decide +kernel)
          exact ⟨Value.bool true, wanted_free rfl, by simp [execOp, go_sem, h49], rfl⟩
        exact OweAll.nil
      ) ?_
      intro a w9 ha hG hv
      rename_i hK
      have h4 : a.tmps.getD 4 undef = .bool true := hv 11 _ 4 rfl rfl
      refine hK _ _ (wp_ret ?_)
      simp only [Exit.then]
      show bodyPost Tryd.prog Tryd.f8 _ .ret a w9
      refine bodyPost_ret (results_tmp (t := 4) rfl _ _ _) ha.defers ?_
      rw [h4]
      exact ⟨rfl, hB2.trans (hG.mono hB2.size)⟩
  · have hx0 : x ≠ 0 := fun h => h0 (.inl h)
    have hy0 : y ≠ 0 := fun h => h0 (.inr h)
    have b0 : (x == 0) = false := by rw [beq_eq_false_iff_ne]; exact hx0
    have b1 : (y == 0) = false := by rw [beq_eq_false_iff_ne]; exact hy0
    have hmul := Lib.hid (bl_mul hx0 hy0)
    have hadd := Lib.hid (bl_add hx0 hy0)
    have hbx1 := (bl_bounds hx0).1
    clear h0 hx0 hy0
    go_wp2_with fail
    refine (zero_any q c x w1).mono ?_
    rintro r w2 ⟨rfl, hb⟩
    rw [b0]
    have kx2 := Boxed.below' kx hb kx.lt
    have ky2 := Boxed.below' ky1 hb ky1.lt
    have nx2 := nx.old hb
    have ny2 := ny1.old hb
    have hB2 := hB.trans (hb.mono hB.size)
    have cy2 := ky2.cell
    clear hb hB nx ny1 kx ky1 cx cy b0
    go_wp2_with fail
    refine (zero_any p d y w2).mono ?_
    rintro r w3 ⟨rfl, hb⟩
    rw [b1]
    have kx3 := Boxed.below' kx2 hb kx2.lt
    have ky3 := Boxed.below' ky2 hb ky2.lt
    have nx3 := nx2.old hb
    have ny3 := ny2.old hb
    have hB3 := hB2.trans (hb.mono hB2.size)
    clear hb hB2 nx2 ny2 kx2 ky2 cy2 b1
    go_upto_region 8 with fail
    have e54 : IntKind.i64.wrap ((bl x : Int) + (bl y : Int)) = (bl x : Int) + (bl y : Int) := by rw [IntKind.wrap_i64]; omega
    refine wp_region_puts (fun t v w' => Val (match t with
      | 50 => .nat (x)
      | 51 => .eq (Value.int .i64 ((bl x : Int)))
      | 52 => .nat (y)
      | 53 => .eq (Value.int .i64 ((bl y : Int)))
      | 54 => .eq (Value.int .i64 ((bl x : Int) + (bl y : Int)))
      | 11 => .eq (Value.int .i64 ((bl x : Int) + (bl y : Int)))
      | _ => .any) v w') (fun w' => Below w3.heap.size w3 w') 80 (by kernel_rfl) (by decide +kernel) rfl (Below.refl _ _).drew (by
    refine OweAll.cons (owes_val rfl rfl fun a w1 ha hG hV => ?_) ?_
    · skip
      have h5 := ha.outer 5 (by decide +kernel)
      simp only [Act.eval] at h5
      have c5 := (Boxed.below' kx3 hG kx3.lt).cell
      exact ⟨.agg #[.slice q (lb x).length c], wanted_free rfl, by simp [execOp, go_sem, h5, c5], ⟨_, _, rfl, nx3.old hG⟩⟩
    refine OweAll.cons (owes_call rfl rfl 30 fun a w1 ha hG hV => ?_) ?_
    · skip
      obtain ⟨q50, c50, h50, n50⟩ : NV (x) (a.tmps.getD 50 undef) w1 := hV.get 50 (by decide +kernel)
      refine ⟨#[.agg #[.slice q50 (lb (x)).length c50]], wanted_free rfl, by simp [execOp, resolve, invoke, go_sem, h50], ?_⟩
      refine (bits_any q50 c50 x w1 n50 lxx).mono ?_
      rintro r w2 ⟨rfl, hb⟩; exact ⟨_, rfl, rfl, hG.trans (hb.mono hG.size), fun _ _ h => Val.old h hb⟩
    refine OweAll.cons (owes_val rfl rfl fun a w1 ha hG hV => ?_) ?_
    · skip
      have h7 := ha.outer 7 (by decide +kernel)
      simp only [Act.eval] at h7
      have c7 := (Boxed.below' ky3 hG ky3.lt).cell
      exact ⟨.agg #[.slice p (lb y).length d], wanted_free rfl, by simp [execOp, go_sem, h7, c7], ⟨_, _, rfl, ny3.old hG⟩⟩
    refine OweAll.cons (owes_call rfl rfl 30 fun a w1 ha hG hV => ?_) ?_
    · skip
      obtain ⟨q52, c52, h52, n52⟩ : NV (y) (a.tmps.getD 52 undef) w1 := hV.get 52 (by decide +kernel)
      refine ⟨#[.agg #[.slice q52 (lb (y)).length c52]], wanted_free rfl, by simp [execOp, resolve, invoke, go_sem, h52], ?_⟩
      refine (bits_any q52 c52 y w1 n52 lyy).mono ?_
      rintro r w2 ⟨rfl, hb⟩; exact ⟨_, rfl, rfl, hG.trans (hb.mono hG.size), fun _ _ h => Val.old h hb⟩
    refine OweAll.cons (owes_val rfl rfl fun a w1 ha hG hV => ?_) ?_
    · skip
      have h51 : a.tmps.getD 51 undef = Value.int .i64 ((bl x : Int)) := hV.get 51 (by decide +kernel)
      have h53 : a.tmps.getD 53 undef = Value.int .i64 ((bl y : Int)) := hV.get 53 (by decide +kernel)
      exact ⟨Value.int .i64 ((bl x : Int) + (bl y : Int)), wanted_free rfl, by simp [execOp, go_sem, h51, h53, e54], rfl⟩
    refine OweAll.cons (owes_val rfl rfl fun a w1 ha hG hV => ?_) ?_
    · skip
      have h54 : a.tmps.getD 54 undef = Value.int .i64 ((bl x : Int) + (bl y : Int)) := hV.get 54 (by decide +kernel)
      exact ⟨Value.int .i64 ((bl x : Int) + (bl y : Int)), wanted_free rfl, by simp [execOp, go_sem, h54], rfl⟩
    exact OweAll.nil
    ) ?_
    intro f8 w4 hG hv
    have h11 : f8 11 = .int .i64 ((bl x : Int) + (bl y : Int)) := hv 5 _ 11 rfl rfl
    rename_i hK
    refine hK _ _ ?_
    clear hK hv
    have kx4 := Boxed.below' kx3 hG kx3.lt
    have ky4 := Boxed.below' ky3 hG ky3.lt
    have nx5 := nx3.old hG
    have ny5 := ny3.old hG
    have hB4 := hB3.trans (hG.mono hB3.size)
    clear hG kx3 ky3 nx3 ny3 hB3
    simp only [dsts, puts, List.filterMap_cons, List.filterMap_nil, List.foldl_cons, List.foldl_nil, Act.put, List.setIfInBounds_toArray, List.set_cons_succ, List.set_cons_zero, h11]
    clear h11
    go_upto_region 9 with fail
    refine wp_region_puts (fun t v w' => Val (match t with
      | 55 => .nat (x)
      | 56 => .eq (Value.int .i64 ((bl x : Int)))
      | 57 => .nat (y)
      | 58 => .eq (Value.int .i64 ((bl y : Int)))
      | 59 => .eq (Value.int .i64 (max (bl x : Int) (bl y : Int)))
      | 12 => .eq (Value.int .i64 (max (bl x : Int) (bl y : Int)))
      | _ => .any) v w') (fun w' => Below w4.heap.size w4 w') 80 (by kernel_rfl) (by decide +kernel) rfl (Below.refl _ _).drew (by
    refine OweAll.cons (owes_val rfl rfl fun a w1 ha hG hV => ?_) ?_
    · skip
      have h5 := ha.outer 5 (by decide +kernel)
      simp only [Act.eval] at h5
      have c5 := (Boxed.below' kx4 hG kx4.lt).cell
      exact ⟨.agg #[.slice q (lb x).length c], wanted_free rfl, by simp [execOp, go_sem, h5, c5], ⟨_, _, rfl, nx5.old hG⟩⟩
    refine OweAll.cons (owes_call rfl rfl 30 fun a w1 ha hG hV => ?_) ?_
    · skip
      obtain ⟨q55, c55, h55, n55⟩ : NV (x) (a.tmps.getD 55 undef) w1 := hV.get 55 (by decide +kernel)
      refine ⟨#[.agg #[.slice q55 (lb (x)).length c55]], wanted_free rfl, by simp [execOp, resolve, invoke, go_sem, h55], ?_⟩
      refine (bits_any q55 c55 x w1 n55 lxx).mono ?_
      rintro r w2 ⟨rfl, hb⟩; exact ⟨_, rfl, rfl, hG.trans (hb.mono hG.size), fun _ _ h => Val.old h hb⟩
    refine OweAll.cons (owes_val rfl rfl fun a w1 ha hG hV => ?_) ?_
    · skip
      have h7 := ha.outer 7 (by decide +kernel)
      simp only [Act.eval] at h7
      have c7 := (Boxed.below' ky4 hG ky4.lt).cell
      exact ⟨.agg #[.slice p (lb y).length d], wanted_free rfl, by simp [execOp, go_sem, h7, c7], ⟨_, _, rfl, ny5.old hG⟩⟩
    refine OweAll.cons (owes_call rfl rfl 30 fun a w1 ha hG hV => ?_) ?_
    · skip
      obtain ⟨q57, c57, h57, n57⟩ : NV (y) (a.tmps.getD 57 undef) w1 := hV.get 57 (by decide +kernel)
      refine ⟨#[.agg #[.slice q57 (lb (y)).length c57]], wanted_free rfl, by simp [execOp, resolve, invoke, go_sem, h57], ?_⟩
      refine (bits_any q57 c57 y w1 n57 lyy).mono ?_
      rintro r w2 ⟨rfl, hb⟩; exact ⟨_, rfl, rfl, hG.trans (hb.mono hG.size), fun _ _ h => Val.old h hb⟩
    refine OweAll.cons (owes_val rfl rfl fun a w1 ha hG hV => ?_) ?_
    · skip
      have h56 : a.tmps.getD 56 undef = Value.int .i64 ((bl x : Int)) := hV.get 56 (by decide +kernel)
      have h58 : a.tmps.getD 58 undef = Value.int .i64 ((bl y : Int)) := hV.get 58 (by decide +kernel)
      exact ⟨Value.int .i64 (max (bl x : Int) (bl y : Int)), wanted_free rfl, by simp [execOp, go_sem, h56, h58, resolve, invoke, builtin], rfl⟩
    refine OweAll.cons (owes_val rfl rfl fun a w1 ha hG hV => ?_) ?_
    · skip
      have h59 : a.tmps.getD 59 undef = Value.int .i64 (max (bl x : Int) (bl y : Int)) := hV.get 59 (by decide +kernel)
      exact ⟨Value.int .i64 (max (bl x : Int) (bl y : Int)), wanted_free rfl, by simp [execOp, go_sem, h59], rfl⟩
    exact OweAll.nil
    ) ?_
    intro f9 w5 hG hv
    have h12 : f9 12 = .int .i64 (max (bl x : Int) (bl y : Int)) := hv 5 _ 12 rfl rfl
    rename_i hK
    refine hK _ _ ?_
    clear hK hv
    have hB5 := hB4.trans (hG.mono hB4.size)
    clear hG kx4 ky4 nx5 ny5 hB4
    simp only [dsts, puts, List.filterMap_cons, List.filterMap_nil, List.foldl_cons, List.foldl_nil, Act.put, List.setIfInBounds_toArray, List.set_cons_succ, List.set_cons_zero, h12]
    clear h12
    have hm := hmul.out
    have ha := hadd.out
    clear hmul hadd
    obtain ⟨n, hn⟩ : ∃ n, n = bl x + bl y := ⟨_, rfl⟩
    obtain ⟨m, hmx⟩ : ∃ m, m = max (bl x) (bl y) := ⟨_, rfl⟩
    rw [← hn] at hm
    rw [← hmx] at ha
    rw [show (bl x : Int) + (bl y : Int) = (n : Int) by omega, show max (bl x : Int) (bl y : Int) = (m : Int) by omega]
    generalize bl (x * y) = P at hm ⊢
    generalize bl (x + y) = S at ha ⊢
    have hmb : m ≤ 10000 := by omega
    have hnb : n ≤ 10000 := by omega
    have hn1 : 1 ≤ n := by omega
    have wn : IntKind.i64.wrap ((n : Int) - 1) = (n : Int) - 1 := by rw [IntKind.wrap_i64]; omega
    have wm : IntKind.i64.wrap ((m : Int) + 1) = (m : Int) + 1 := by rw [IntKind.wrap_i64]; omega
    have h1 : ((P : Int) == (n : Int)) = true ∨ (((P : Int) == (n : Int)) = false ∧ ((P : Int) == (n : Int) - 1) = true) := by
      rcases hm with h | h
      · exact .inl (by rw [beq_iff_eq]; omega)
      · exact .inr ⟨by rw [beq_eq_false_iff_ne]; omega, by rw [beq_iff_eq]; omega⟩
    have h2 : ((S : Int) == (m : Int)) = true ∨ (((S : Int) == (m : Int)) = false ∧ ((S : Int) == (m : Int) + 1) = true) := by
      rcases ha with h | h
      · exact .inl (by rw [beq_iff_eq]; omega)
      · exact .inr ⟨by rw [beq_eq_false_iff_ne]; omega, by rw [beq_iff_eq]; omega⟩
    clear hm ha hn hmx hmb hnb hn1 bx80 by80 m1 m2 lx ly lxx lyy hbx1
    rcases h1 with p1 | ⟨p1, p2⟩ <;> rcases h2 with q1 | ⟨q1, q2⟩
    all_goals
      go_wp2_with fail
      go_ret
      exact ⟨rfl, hB5⟩
end Go.Proofs.YtepibfpdkjkdjaaDoor
