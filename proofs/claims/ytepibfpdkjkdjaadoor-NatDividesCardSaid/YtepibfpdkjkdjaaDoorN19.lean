/- The law NatDivides. -/
import Derived.Test.YtepibfpdkjkdjaaDoorN18
import Derived.Test.YtepibfpdkjkdjaaDoorVal
namespace Go.Proofs.YtepibfpdkjkdjaaDoor
open Go.RowKit

set_option maxHeartbeats 2000000 in
theorem natDivides_any (s : ByteArray) (d0 y : Nat) (w : World) (hs : s.size ≤ maxLen) (hd0 : d0 < 4294967296) (hy : Hid (y < 18446744073709551616)) :
    Calls Tryd.prog 7 #[.string s, .int .u32 (d0 : Int), .int .u64 (y : Int)] w fun r w' => r = .returned (.bool true) ∧ Below w.heap.size w w' := by
  obtain ⟨d, hd, hd1, hd2⟩ : ∃ d : Nat, (d0 = 0 ∧ d = 1 ∨ d0 ≠ 0 ∧ d = d0) ∧ 0 < d ∧ d < 4294967296 := by
    by_cases h : d0 = 0
    · exact ⟨1, .inl ⟨h, rfl⟩, by omega, by omega⟩
    · exact ⟨d0, .inr ⟨h, rfl⟩, by omega, hd0⟩
  have Hs := Lib.hid hs
  clear hs
  go_enter Tryd.func7, Tryd.ntmps7
  go_wp2_with fail
  refine (awake_any w).mono ?_
  rintro r w1 ⟨rfl, hb1⟩
  go_wp2_with fail
  have hof := lawOf_any s 100 w1 Hs.out (by decide) (by decide)
  refine hof.mono ?_
  clear hof
  rintro r w2 ⟨q, c, q', c', x, rfl, hx, hN, hD, hb2, -, -⟩
  have hB2 := hb1.trans (hb2.mono hb1.size)
  have lx := lb_pow hx.out
  have hk := Boxed.new w2 25 (.slice q (lb x).length c)
  have hB3 := hB2.alloc hB2.size (.cells #[.slice q (lb x).length c] 25)
  have hN3 := hN.alloc (.cells #[.slice q (lb x).length c] 25)
  clear hb1 hb2 hD hN hB2
  go_upto_region 4 with fail
  generalize (w2.alloc (.cells #[.slice q (lb x).length c] 25)) = w3 at hk hB3 hN3 ⊢
  generalize w2.heap.size = ga at hk ⊢
  have hslot : (((d0 : Int) == 0) = true ∧ Hid (Value.int .u32 1 = Value.int .u32 (d : Int))) ∨ (((d0 : Int) == 0) = false ∧ Hid (Value.int .u32 (d0 : Int) = Value.int .u32 (d : Int))) := by
    rcases hd with ⟨h0, h1⟩ | ⟨h0, h1⟩
    · exact .inl ⟨by rw [h0]; rfl, Lib.hid (by rw [h1]; rfl)⟩
    · exact .inr ⟨by rw [beq_eq_false_iff_ne]; omega, Lib.hid (by rw [h1])⟩
  clear hd hd0
  rcases hslot with ⟨b0, es⟩ | ⟨b0, es⟩
  all_goals
    go_upto_region 6 with fail
    rw [es.out]
    clear es b0
    have hkc := hk.cell
    go_wp2_with fail
    have hdiv := div_any q c x d w3 hN3 (by omega) hd1 hd2
    obtain ⟨y1, hy1⟩ : ∃ z, z = x / d := ⟨_, rfl⟩
    obtain ⟨y2, hy2⟩ : ∃ z, z = x % d := ⟨_, rfl⟩
    rw [← hy1, ← hy2] at hdiv
    refine hdiv.mono ?_
    clear hdiv
    rintro r w4 ⟨q4, c4, rfl, hN4, hb4, -⟩
    have hB4 := hB3.trans (hb4.mono hB3.size)
    have hk4 := Boxed.below' hk hb4 hk.lt
    have hx4 := hN3.old hb4
    have hk5 := hk4.alloc (.cells #[.slice q4 (lb y1).length c4] 25)
    have hk6 := Boxed.new w4 25 (.slice q4 (lb y1).length c4)
    have hB5 := hB4.alloc hB4.size (.cells #[.slice q4 (lb y1).length c4] 25)
    have hN5 := hN4.alloc (.cells #[.slice q4 (lb y1).length c4] 25)
    have hx5 := hx4.alloc (.cells #[.slice q4 (lb y1).length c4] 25)
    have l1 : (lb y1).length ≤ (lb x).length := lb_le (by rw [hy1]; exact Nat.div_le_self _ _)
    have e1 : Hid (y1 * d + y2 = x) := Lib.hid (by rw [hy1, hy2, Nat.mul_comm]; exact Nat.div_add_mod x d)
    have e2 : y2 < d := by rw [hy2]; exact Nat.mod_lt _ hd1
    clear hy1 hy2 hk hkc hB3 hN3 hN4 hb4 hB4 hk4 hx4
    go_wp2_with fail
    generalize (w4.alloc (.cells #[.slice q4 (lb y1).length c4] 25)) = w5 at hk5 hk6 hB5 hN5 hx5 ⊢
    generalize w4.heap.size = gb at hk6 ⊢
    refine (nofn_any y w5 hy).mono ?_
    rintro r w6 ⟨q6, c6, rfl, hN6, hb6, -⟩
    go_wp2_with fail
    refine (small_yes q6 c6 y w6 hN6 hy).mono ?_
    rintro r w7 ⟨rfl, hb7⟩
    have hb57 := hb6.trans (hb7.mono hb6.size)
    have ka := Boxed.below' hk5 hb57 hk5.lt
    have kb := Boxed.below' hk6 hb57 hk6.lt
    have n1 := hN5.old hb57
    have nx := hx5.old hb57
    have hB7 := hB5.trans (hb57.mono hB5.size)
    clear hb6 hb7 hN6 hb57 hk5 hk6 hN5 hx5 hB5
    go_upto_region 8 with fail
    have ld : Hid (d < 18446744073709551616) := Lib.hid (by omega)
    have ly2 : Hid (y2 < 18446744073709551616) := Lib.hid (by omega)
    have m1 := lb_64 ld.out
    have m2 := lb_64 ly2.out
    have m3 := lb_mul y1 d
    have m4 := lb_add (y1 * d) y2
    have i2 : (y2 : Int) < d := by omega
    have wd : IntKind.u64.wrap (d : Int) = d := by rw [IntKind.wrap_u64]; omega
    have wy2 : IntKind.u64.wrap (y2 : Int) = y2 := by rw [IntKind.wrap_u64]; omega
    refine wp_region_vals (fun t v w' => Val (match t with
      | 36 => .eq (Value.bool true)
      | 37 => .eq (Value.bool true)
      | 38 => .eq (Value.int .u32 (y2 : Int))
      | 39 => .eq (Value.int .u32 (d : Int))
      | 40 => .eq (Value.bool true)
      | 41 => .eq (Value.bool true)
      | 42 => .eq (Value.bool true)
      | 43 => .nat (y1)
      | 44 => .eq (Value.int .u32 (d : Int))
      | 45 => .eq (Value.int .u64 (d : Int))
      | 46 => .nat (d)
      | 47 => .nat (y1 * d)
      | 48 => .eq (Value.int .u32 (y2 : Int))
      | 49 => .eq (Value.int .u64 (y2 : Int))
      | 50 => .nat (y2)
      | 51 => .nat (y1 * d + y2)
      | 52 => .nat (x)
      | 53 => .eq (Value.int .i64 0)
      | 54 => .eq (Value.bool true)
      | 55 => .eq (Value.bool true)
      | 56 => .eq (Value.bool true)
      | 57 => .eq (Value.bool true)
      | 58 => .eq (Value.bool true)
      | 59 => .eq (Value.bool true)
      | 60 => .eq (Value.int .u64 (y : Int))
      | 61 => .eq (Value.int .u64 (y : Int))
      | 62 => .eq (Value.bool true)
      | 63 => .eq (Value.bool true)
      | 6 => .eq (Value.bool true)
      | _ => .any) v w') (fun w' => Below w7.heap.size w7 w') 64 (by kernel_rfl) (by decide +kernel) rfl (Below.refl _ _).drew ?_ ?_
    rotate_left
    · intro a w1 ha hG hv
      rename_i hK
      have h4 : a.tmps.getD 6 undef = .bool true := hv 28 _ 6 rfl rfl
      refine hK _ _ (wp_ret ?_)
      show bodyPost Tryd.prog Tryd.f7 _ .ret a w1
      refine bodyPost_ret (results_tmp (t := 6) rfl _ _ _) ha.defers ?_
      rw [h4]
      exact ⟨rfl, hB7.trans (hG.mono hB7.size)⟩
    refine OweAll.cons (owes_val rfl rfl fun a w1 ha hG hV => ?_) ?_
    · skip
      have h11 := ha.outer 11 (by decide +kernel)
      simp only [Act.eval] at h11
      exact ⟨Value.bool true, wanted_free rfl, by simp [execOp, go_sem, h11], rfl⟩
    refine OweAll.cons (owes_val rfl rfl fun a w1 ha hG hV => ?_) ?_
    · skip
      have h36 : a.tmps.getD 36 undef = Value.bool true := hV.get 36 (by decide +kernel)
      exact ⟨Value.bool true, wanted_free rfl, by simp [execOp, go_sem, h36], rfl⟩
    refine OweAll.cons (owes_val rfl rfl fun a w1 ha hG hV => ?_) ?_
    · skip
      have h10 := ha.outer 10 (by decide +kernel)
      simp only [Act.eval] at h10
      exact ⟨Value.int .u32 (y2 : Int), (wanted_of (t := 37) rfl rfl (hV.get 37 (by decide +kernel))), by simp [execOp, go_sem, h10], rfl⟩
    refine OweAll.cons (owes_val rfl rfl fun a w1 ha hG hV => ?_) ?_
    · skip
      have h1 := ha.outer 1 (by decide +kernel)
      simp only [Act.eval] at h1
      exact ⟨Value.int .u32 (d : Int), (wanted_of (t := 37) rfl rfl (hV.get 37 (by decide +kernel))), by simp [execOp, go_sem, h1], rfl⟩
    refine OweAll.cons (owes_val rfl rfl fun a w1 ha hG hV => ?_) ?_
    · skip
      have h38 : a.tmps.getD 38 undef = Value.int .u32 (y2 : Int) := hV.get 38 (by decide +kernel)
      have h39 : a.tmps.getD 39 undef = Value.int .u32 (d : Int) := hV.get 39 (by decide +kernel)
      exact ⟨Value.bool true, (wanted_of (t := 37) rfl rfl (hV.get 37 (by decide +kernel))), by simp [execOp, go_sem, h38, h39, i2], rfl⟩
    refine OweAll.cons (owes_val rfl rfl fun a w1 ha hG hV => ?_) ?_
    · skip
      have h37 : a.tmps.getD 37 undef = Value.bool true := hV.get 37 (by decide +kernel)
      have h40 : a.tmps.getD 40 undef = Value.bool true := hV.get 40 (by decide +kernel)
      exact ⟨Value.bool true, wanted_free rfl, by simp [execOp, go_sem, h37, h40], rfl⟩
    refine OweAll.cons (owes_val rfl rfl fun a w1 ha hG hV => ?_) ?_
    · skip
      have h41 : a.tmps.getD 41 undef = Value.bool true := hV.get 41 (by decide +kernel)
      exact ⟨Value.bool true, wanted_free rfl, by simp [execOp, go_sem, h41], rfl⟩
    refine OweAll.cons (owes_val rfl rfl fun a w1 ha hG hV => ?_) ?_
    · skip
      have h9 := ha.outer 9 (by decide +kernel)
      simp only [Act.eval] at h9
      have c9 := (Boxed.below' kb hG kb.lt).cell
      exact ⟨.agg #[.slice q4 (lb y1).length c4], (wanted_of (t := 42) rfl rfl (hV.get 42 (by decide +kernel))), by simp [execOp, go_sem, h9, c9], ⟨_, _, rfl, n1.old hG⟩⟩
    refine OweAll.cons (owes_val rfl rfl fun a w1 ha hG hV => ?_) ?_
    · skip
      have h1 := ha.outer 1 (by decide +kernel)
      simp only [Act.eval] at h1
      exact ⟨Value.int .u32 (d : Int), (wanted_of (t := 42) rfl rfl (hV.get 42 (by decide +kernel))), by simp [execOp, go_sem, h1], rfl⟩
    refine OweAll.cons (owes_val rfl rfl fun a w1 ha hG hV => ?_) ?_
    · skip
      have h44 : a.tmps.getD 44 undef = Value.int .u32 (d : Int) := hV.get 44 (by decide +kernel)
      exact ⟨Value.int .u64 (d : Int), (wanted_of (t := 42) rfl rfl (hV.get 42 (by decide +kernel))), by simp [execOp, go_sem, h44, wd], rfl⟩
    refine OweAll.cons (owes_call rfl rfl 36 fun a w1 ha hG hV => ?_) ?_
    · skip
      have h45 : a.tmps.getD 45 undef = Value.int .u64 (d : Int) := hV.get 45 (by decide +kernel)
      refine ⟨#[Value.int .u64 (d : Int)], (wanted_of (t := 42) rfl rfl (hV.get 42 (by decide +kernel))), by simp [execOp, resolve, invoke, go_sem, h45], ?_⟩
      refine (nofn_any d w1 ld).mono ?_
      rintro r w2 ⟨qr, cr, rfl, hN, hb, -⟩; exact ⟨_, rfl, ⟨qr, cr, rfl, hN⟩, hG.trans (hb.mono hG.size), fun _ _ h => Val.old h hb⟩
    refine OweAll.cons (owes_call rfl rfl 24 fun a w1 ha hG hV => ?_) ?_
    · skip
      obtain ⟨q43, c43, h43, n43⟩ : NV (y1) (a.tmps.getD 43 undef) w1 := hV.get 43 (by decide +kernel)
      obtain ⟨q46, c46, h46, n46⟩ : NV (d) (a.tmps.getD 46 undef) w1 := hV.get 46 (by decide +kernel)
      refine ⟨#[.agg #[.slice q43 (lb (y1)).length c43], .agg #[.slice q46 (lb (d)).length c46]], (wanted_of (t := 42) rfl rfl (hV.get 42 (by decide +kernel))), by simp [execOp, resolve, invoke, go_sem, h43, h46], ?_⟩
      refine (mul_any q43 q46 c43 c46 y1 d w1 n43 n46 (by omega) (by omega)).mono ?_
      rintro r w2 ⟨qr, cr, rfl, hN, hb, -⟩; exact ⟨_, rfl, ⟨qr, cr, rfl, hN⟩, hG.trans (hb.mono hG.size), fun _ _ h => Val.old h hb⟩
    refine OweAll.cons (owes_val rfl rfl fun a w1 ha hG hV => ?_) ?_
    · skip
      have h10 := ha.outer 10 (by decide +kernel)
      simp only [Act.eval] at h10
      exact ⟨Value.int .u32 (y2 : Int), (wanted_of (t := 42) rfl rfl (hV.get 42 (by decide +kernel))), by simp [execOp, go_sem, h10], rfl⟩
    refine OweAll.cons (owes_val rfl rfl fun a w1 ha hG hV => ?_) ?_
    · skip
      have h48 : a.tmps.getD 48 undef = Value.int .u32 (y2 : Int) := hV.get 48 (by decide +kernel)
      exact ⟨Value.int .u64 (y2 : Int), (wanted_of (t := 42) rfl rfl (hV.get 42 (by decide +kernel))), by simp [execOp, go_sem, h48, wy2], rfl⟩
    refine OweAll.cons (owes_call rfl rfl 36 fun a w1 ha hG hV => ?_) ?_
    · skip
      have h49 : a.tmps.getD 49 undef = Value.int .u64 (y2 : Int) := hV.get 49 (by decide +kernel)
      refine ⟨#[Value.int .u64 (y2 : Int)], (wanted_of (t := 42) rfl rfl (hV.get 42 (by decide +kernel))), by simp [execOp, resolve, invoke, go_sem, h49], ?_⟩
      refine (nofn_any y2 w1 ly2).mono ?_
      rintro r w2 ⟨qr, cr, rfl, hN, hb, -⟩; exact ⟨_, rfl, ⟨qr, cr, rfl, hN⟩, hG.trans (hb.mono hG.size), fun _ _ h => Val.old h hb⟩
    refine OweAll.cons (owes_call rfl rfl 20 fun a w1 ha hG hV => ?_) ?_
    · skip
      obtain ⟨q47, c47, h47, n47⟩ : NV (y1 * d) (a.tmps.getD 47 undef) w1 := hV.get 47 (by decide +kernel)
      obtain ⟨q50, c50, h50, n50⟩ : NV (y2) (a.tmps.getD 50 undef) w1 := hV.get 50 (by decide +kernel)
      refine ⟨#[.agg #[.slice q47 (lb (y1 * d)).length c47], .agg #[.slice q50 (lb (y2)).length c50]], (wanted_of (t := 42) rfl rfl (hV.get 42 (by decide +kernel))), by simp [execOp, resolve, invoke, go_sem, h47, h50], ?_⟩
      refine (add_any q47 q50 c47 c50 (y1 * d) y2 w1 n47 n50 (by omega) (by omega)).mono ?_
      rintro r w2 ⟨qr, cr, rfl, hN, hb, -⟩; exact ⟨_, rfl, ⟨qr, cr, rfl, hN⟩, hG.trans (hb.mono hG.size), fun _ _ h => Val.old h hb⟩
    refine OweAll.cons (owes_val rfl rfl fun a w1 ha hG hV => ?_) ?_
    · skip
      have h7 := ha.outer 7 (by decide +kernel)
      simp only [Act.eval] at h7
      have c7 := (Boxed.below' ka hG ka.lt).cell
      exact ⟨.agg #[.slice q (lb x).length c], (wanted_of (t := 42) rfl rfl (hV.get 42 (by decide +kernel))), by simp [execOp, go_sem, h7, c7], ⟨_, _, rfl, nx.old hG⟩⟩
    refine OweAll.cons (owes_call rfl rfl 26 fun a w1 ha hG hV => ?_) ?_
    · skip
      obtain ⟨q51, c51, h51, n51⟩ : NV (y1 * d + y2) (a.tmps.getD 51 undef) w1 := hV.get 51 (by decide +kernel)
      obtain ⟨q52, c52, h52, n52⟩ : NV (x) (a.tmps.getD 52 undef) w1 := hV.get 52 (by decide +kernel)
      refine ⟨#[.agg #[.slice q51 (lb (y1 * d + y2)).length c51], .agg #[.slice q52 (lb (x)).length c52]], (wanted_of (t := 42) rfl rfl (hV.get 42 (by decide +kernel))), by simp [execOp, resolve, invoke, go_sem, h51, h52], ?_⟩
      refine (cmp_any q51 q52 c51 c52 (y1 * d + y2) x w1 n51 n52 (by omega)).mono ?_
      rintro r w2 ⟨rfl, hb⟩; exact ⟨_, rfl, by show Value.int .i64 (cmpI (y1 * d + y2) x) = _; rw [e1.out, cmpI_self], hG.trans (hb.mono hG.size), fun _ _ h => Val.old h hb⟩
    refine OweAll.cons (owes_val rfl rfl fun a w1 ha hG hV => ?_) ?_
    · skip
      have h53 : a.tmps.getD 53 undef = Value.int .i64 0 := hV.get 53 (by decide +kernel)
      exact ⟨Value.bool true, (wanted_of (t := 42) rfl rfl (hV.get 42 (by decide +kernel))), by simp [execOp, go_sem, h53], rfl⟩
    refine OweAll.cons (owes_val rfl rfl fun a w1 ha hG hV => ?_) ?_
    · skip
      have h42 : a.tmps.getD 42 undef = Value.bool true := hV.get 42 (by decide +kernel)
      have h54 : a.tmps.getD 54 undef = Value.bool true := hV.get 54 (by decide +kernel)
      exact ⟨Value.bool true, wanted_free rfl, by simp [execOp, go_sem, h42, h54], rfl⟩
    refine OweAll.cons (owes_val rfl rfl fun a w1 ha hG hV => ?_) ?_
    · skip
      have h55 : a.tmps.getD 55 undef = Value.bool true := hV.get 55 (by decide +kernel)
      exact ⟨Value.bool true, wanted_free rfl, by simp [execOp, go_sem, h55], rfl⟩
    refine OweAll.cons (owes_val rfl rfl fun a w1 ha hG hV => ?_) ?_
    · skip
      have h13 := ha.outer 13 (by decide +kernel)
      simp only [Act.eval] at h13
      exact ⟨Value.bool true, (wanted_of (t := 56) rfl rfl (hV.get 56 (by decide +kernel))), by simp [execOp, go_sem, h13], rfl⟩
    refine OweAll.cons (owes_val rfl rfl fun a w1 ha hG hV => ?_) ?_
    · skip
      have h56 : a.tmps.getD 56 undef = Value.bool true := hV.get 56 (by decide +kernel)
      have h57 : a.tmps.getD 57 undef = Value.bool true := hV.get 57 (by decide +kernel)
      exact ⟨Value.bool true, wanted_free rfl, by simp [execOp, go_sem, h56, h57], rfl⟩
    refine OweAll.cons (owes_val rfl rfl fun a w1 ha hG hV => ?_) ?_
    · skip
      have h58 : a.tmps.getD 58 undef = Value.bool true := hV.get 58 (by decide +kernel)
      exact ⟨Value.bool true, wanted_free rfl, by simp [execOp, go_sem, h58], rfl⟩
    refine OweAll.cons (owes_val rfl rfl fun a w1 ha hG hV => ?_) ?_
    · skip
      have h12 := ha.outer 12 (by decide +kernel)
      simp only [Act.eval] at h12
      exact ⟨Value.int .u64 (y : Int), (wanted_of (t := 59) rfl rfl (hV.get 59 (by decide +kernel))), by simp [execOp, go_sem, h12], rfl⟩
    refine OweAll.cons (owes_val rfl rfl fun a w1 ha hG hV => ?_) ?_
    · skip
      have h2 := ha.outer 2 (by decide +kernel)
      simp only [Act.eval] at h2
      exact ⟨Value.int .u64 (y : Int), (wanted_of (t := 59) rfl rfl (hV.get 59 (by decide +kernel))), by simp [execOp, go_sem, h2], rfl⟩
    refine OweAll.cons (owes_val rfl rfl fun a w1 ha hG hV => ?_) ?_
    · skip
      have h60 : a.tmps.getD 60 undef = Value.int .u64 (y : Int) := hV.get 60 (by decide +kernel)
      have h61 : a.tmps.getD 61 undef = Value.int .u64 (y : Int) := hV.get 61 (by decide +kernel)
      exact ⟨Value.bool true, (wanted_of (t := 59) rfl rfl (hV.get 59 (by decide +kernel))), by simp [execOp, go_sem, h60, h61], rfl⟩
    refine OweAll.cons (owes_val rfl rfl fun a w1 ha hG hV => ?_) ?_
    · skip
      have h59 : a.tmps.getD 59 undef = Value.bool true := hV.get 59 (by decide +kernel)
      have h62 : a.tmps.getD 62 undef = Value.bool true := hV.get 62 (by decide +kernel)
      exact ⟨Value.bool true, wanted_free rfl, by simp [execOp, go_sem, h59, h62], rfl⟩
    refine OweAll.cons (owes_val rfl rfl fun a w1 ha hG hV => ?_) ?_
    · skip
      have h63 : a.tmps.getD 63 undef = Value.bool true := hV.get 63 (by decide +kernel)
      exact ⟨Value.bool true, wanted_free rfl, by simp [execOp, go_sem, h63], rfl⟩
    exact OweAll.nil
end Go.Proofs.YtepibfpdkjkdjaaDoor
