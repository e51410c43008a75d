/- The law GainOf. -/
import Derived.Test.YtepibfpdkjkdjaaDoorG9
import Derived.Test.YtepibfpdkjkdjaaDoorAuto2
namespace Go.Proofs.YtepibfpdkjkdjaaDoor
open Go.RowKit

theorem gw_mono (p : Nat) {a b : Int} (h : a ≤ b) : gw p a ≤ gw p b := by
  unfold gw
  have h1 : lg p * a.toNat ≤ lg p * b.toNat := Nat.mul_le_mul_left _ (by omega)
  have := Nat.div_le_div_right (c := 10) h1
  omega
theorem gw_lb (p : Nat) (wins : Int) (hp : p < 18446744073709551616) (hw : wins ≤ 9223372036854775807) : (lb (gw p wins)).length ≤ 100000 ∧ (dg 10 (gw p wins)).length ≤ 100000 := by
  have h1 := lg_le p hp
  have h2 : lg p * wins.toNat ≤ 16384 * 9223372036854775807 := Nat.mul_le_mul h1 (by omega)
  have h3 : gw p wins ≤ 16384 + 16384 * 9223372036854775807 := by
    unfold gw
    have := Nat.div_le_self (lg p * wins.toNat) 10
    omega
  refine ⟨Nat.le_trans (dg_len_le _ (by decide) _ 4 (Nat.lt_of_le_of_lt h3 (by decide))) (by decide), Nat.le_trans (dg_len_le 10 (by decide) _ 40 (Nat.lt_of_le_of_lt h3 (by decide))) (by decide)⟩

set_option maxRecDepth 20000 in
set_option maxHeartbeats 8000000 in
theorem gainOf_any (p : Nat) (wins : Int) (w : World) (hp : Hid (p < 18446744073709551616)) (hw : Hid (-9223372036854775808 ≤ wins ∧ wins ≤ 9223372036854775807)) :
    Calls Tryd.prog 12 #[.int .u64 (p : Int), .int .i64 wins] w fun r w' => r = .returned (.bool true) ∧ Below w.heap.size w w' := by
  obtain ⟨s, hs⟩ : ∃ s, s = min (max wins 0) 1099511627776 := ⟨_, rfl⟩
  have ws : IntKind.i64.wrap (s + 1) = s + 1 := by rw [IntKind.wrap_i64]; omega
  have hs1 : s ≤ 1099511627776 := by omega
  obtain ⟨x, hx⟩ : ∃ x, x = gw p wins := ⟨_, rfl⟩
  obtain ⟨m, hm⟩ : ∃ x, x = gw p (s + 1) := ⟨_, rfl⟩
  obtain ⟨l, hl⟩ : ∃ x, x = gw p s := ⟨_, rfl⟩
  have lx := gw_lb p wins hp.out hw.out.2
  have lm := (gw_lb p (s + 1) hp.out (by omega)).1
  have ll := (gw_lb p s hp.out (by omega)).1
  have hle : decide (m < l) = false := by
    rw [decide_eq_false_iff_not, hm, hl]
    have := gw_mono p (show s ≤ s + 1 by omega); omega
  have h256 : ¬ p < 2 → decide (x < 256) = false := by
    intro h
    rw [decide_eq_false_iff_not, hx]
    have := lg_mono (show 2 ≤ p by omega)
    rw [lg_two] at this
    unfold gw; omega
  have h1 := fun w => gof_any p wins w hp (Lib.hid hw.out.2)
  have h2 := fun w => gof_any p (s + 1) w hp (Lib.hid (by omega))
  have h3 := fun w => gof_any p s w hp (Lib.hid (by omega))
  have h4 := fun w => rgof_any p wins w hp (Lib.hid hw.out.2)
  rw [← hx] at h1 h4 lx
  rw [← hm] at h2 lm
  rw [← hl] at h3 ll
  obtain ⟨lx, ldx⟩ := lx
  have H1 := Lib.hid h1
  have H2 := Lib.hid h2
  have H3 := Lib.hid h3
  have hrg := Lib.hid h4
  have l2 : (lb 256).length ≤ 2 := lb_64 (by decide)
  have es : min (max wins 0) 1099511627776 = s := hs.symm
  clear h1 h2 h3 h4 hx hm hl hs hw
  go_enter Tryd.func12, Tryd.ntmps12
  go_wp2_with fail
  refine (awake04_any w).mono ?_
  rintro r w1 ⟨rfl, hB⟩
  go_wp2_with fail
  refine (H1.out _).mono ?_
  rintro r w2 ⟨q, c, rfl, nx, hb, -⟩
  replace hB := hB.trans (hb.mono hB.size)
  have kx := Boxed.new w2 25 (.slice q (lb x).length c)
  replace hB := hB.alloc hB.size (.cells #[.slice q (lb x).length c] 25)
  replace nx := nx.alloc (.cells #[.slice q (lb x).length c] 25)
  clear hb
  go_upto_region 4 with fail
  generalize (w2.alloc (.cells #[.slice q (lb x).length c] 25)) = w3 at *
  generalize w2.heap.size = ga at *
  go_wp2_with fail
  refine (H2.out _).mono ?_
  rintro r w4 ⟨q2, c2, rfl, nm, hb, -⟩
  replace hB := hB.trans (hb.mono hB.size)
  have km := Boxed.new w4 25 (.slice q2 (lb m).length c2)
  replace hB := hB.alloc hB.size (.cells #[.slice q2 (lb m).length c2] 25)
  replace nx := (nx.old hb).alloc (.cells #[.slice q2 (lb m).length c2] 25)
  replace kx := (Boxed.below' kx hb kx.lt).alloc (.cells #[.slice q2 (lb m).length c2] 25)
  replace nm := nm.alloc (.cells #[.slice q2 (lb m).length c2] 25)
  clear hb
  go_upto_region 5 with fail
  generalize (w4.alloc (.cells #[.slice q2 (lb m).length c2] 25)) = w5 at *
  generalize w4.heap.size = gb at *
  go_wp2_with fail
  refine (H3.out _).mono ?_
  rintro r w6 ⟨q3, c3, rfl, nl, hb, -⟩
  replace hB := hB.trans (hb.mono hB.size)
  have kl := Boxed.new w6 25 (.slice q3 (lb l).length c3)
  replace hB := hB.alloc hB.size (.cells #[.slice q3 (lb l).length c3] 25)
  replace nx := (nx.old hb).alloc (.cells #[.slice q3 (lb l).length c3] 25)
  replace kx := (Boxed.below' kx hb kx.lt).alloc (.cells #[.slice q3 (lb l).length c3] 25)
  replace nm := (nm.old hb).alloc (.cells #[.slice q3 (lb l).length c3] 25)
  replace km := (Boxed.below' km hb km.lt).alloc (.cells #[.slice q3 (lb l).length c3] 25)
  replace nl := nl.alloc (.cells #[.slice q3 (lb l).length c3] 25)
  clear hb
  go_upto_region 6 with fail
  generalize (w6.alloc (.cells #[.slice q3 (lb l).length c3] 25)) = W at *
  generalize w6.heap.size = gc at *
  by_cases hp1 : p < 2
  · have hp2 : (p : Int) < 2 := by omega
    refine wp_region_vals (fun t v w' => Vae (match t with
        | 24 => .nat (x)
        | 25 => .eq (.string ⟨(dec x).toArray⟩)
        | 26 => .eq (Value.int .u64 (p : Int))
        | 27 => .eq (Value.int .i64 wins)
        | 28 => .dec (x)
        | 29 => .eq (.string ⟨(dec x).toArray⟩)
        | 30 => .eq (Value.bool true)
        | 31 => .eq (Value.bool true)
        | 32 => .nat (l)
        | 33 => .nat (m)
        | 34 => .eq (Value.bool false)
        | 35 => .eq (Value.bool true)
        | 36 => .eq (Value.bool true)
        | 37 => .eq (Value.bool true)
        | 38 => .eq (Value.int .u64 (p : Int))
        | 39 => .eq (Value.bool true)
        | 40 => .eq (Value.bool true)
        | 41 => .eq (undef)
        | 42 => .eq (undef)
        | 43 => .eq (undef)
        | 44 => .eq (undef)
        | 45 => .eq (Value.bool true)
        | 46 => .eq (Value.bool true)
        | 4 => .eq (Value.bool true)
        | _ => .any) v w') (fun w' => Below W.heap.size W w') 47 (by kernel_rfl) (by decide +kernel) rfl (Below.refl _ _).drew ?_ ?_
    · skip
      refine OweAll.cons (owes_val rfl rfl fun a w1 ha hG hV => ?_) ?_
      · skip
        have h5 := ha.outer 5 (by decide +kernel)
        simp only [Act.eval] at h5
        have c5 := (Boxed.below' kx hG kx.lt).cell
        exact ⟨.agg #[.slice q (lb x).length c], wanted_free rfl, by simp [execOp, go_sem, h5, c5], ⟨_, _, rfl, nx.old hG⟩⟩
      refine OweAll.cons (owes_call rfl rfl 21 fun a w1 ha hG hV => ?_) ?_
      · skip
        obtain ⟨q24, c24, h24, n24⟩ : NV (x) (a.tmps.getD 24 undef) w1 := hV.get 24 (by decide +kernel)
        refine ⟨#[.agg #[.slice q24 (lb (x)).length c24]], wanted_free rfl, by simp [execOp, resolve, invoke, go_sem, h24], ?_⟩
        refine (text_any q24 c24 x w1 n24 (by omega)).mono ?_
        rintro r w2 ⟨rfl, hb⟩; exact ⟨_, rfl, rfl, hG.trans (hb.mono hG.size), fun _ _ h => Vae.old h hb⟩
      refine OweAll.cons (owes_val rfl rfl fun a w1 ha hG hV => ?_) ?_
      · skip
        have h0 := ha.outer 0 (by decide +kernel)
        simp only [Act.eval] at h0
        exact ⟨Value.int .u64 (p : Int), wanted_free rfl, by simp [execOp, go_sem, h0], rfl⟩
      refine OweAll.cons (owes_val rfl rfl fun a w1 ha hG hV => ?_) ?_
      · skip
        have h1 := ha.outer 1 (by decide +kernel)
        simp only [Act.eval] at h1
        exact ⟨Value.int .i64 wins, wanted_free rfl, by simp [execOp, go_sem, h1], rfl⟩
      refine OweAll.cons (owes_call rfl rfl 47 fun a w1 ha hG hV => ?_) ?_
      · skip
        have h26 : a.tmps.getD 26 undef = Value.int .u64 (p : Int) := hV.get 26 (by decide +kernel)
        have h27 : a.tmps.getD 27 undef = Value.int .i64 wins := hV.get 27 (by decide +kernel)
        refine ⟨#[Value.int .u64 (p : Int), Value.int .i64 wins], wanted_free rfl, by simp [execOp, resolve, invoke, go_sem, h26, h27], ?_⟩
        refine (hrg.out w1).mono ?_
        rintro r w2 ⟨qr, cr, rfl, hN, hb, -⟩; exact ⟨_, rfl, ⟨qr, cr, rfl, hN⟩, hG.trans (hb.mono hG.size), fun _ _ h => Vae.old h hb⟩
      refine OweAll.cons (owes_call rfl rfl 22 fun a w1 ha hG hV => ?_) ?_
      · skip
        obtain ⟨q28, c28, h28, n28⟩ : DV (x) (a.tmps.getD 28 undef) w1 := hV.get 28 (by decide +kernel)
        refine ⟨#[.slice q28 (dg 10 (x)).length c28], wanted_free rfl, by simp [execOp, resolve, invoke, go_sem, h28], ?_⟩
        refine (rtext_any q28 c28 x w1 n28 (by omega)).mono ?_
        rintro r w2 ⟨rfl, hb⟩; exact ⟨_, rfl, rfl, hG.trans (hb.mono hG.size), fun _ _ h => Vae.old h hb⟩
      refine OweAll.cons (owes_val rfl rfl fun a w1 ha hG hV => ?_) ?_
      · skip
        have h25 : a.tmps.getD 25 undef = .string ⟨(dec x).toArray⟩ := hV.get 25 (by decide +kernel)
        have h29 : a.tmps.getD 29 undef = .string ⟨(dec x).toArray⟩ := hV.get 29 (by decide +kernel)
        exact ⟨Value.bool true, wanted_free rfl, by simp [execOp, go_sem, h25, h29], rfl⟩
      refine OweAll.cons (owes_val rfl rfl fun a w1 ha hG hV => ?_) ?_
      · skip
        have h30 : a.tmps.getD 30 undef = Value.bool true := hV.get 30 (by decide +kernel)
        exact ⟨Value.bool true, wanted_free rfl, by simp [execOp, go_sem, h30], rfl⟩
      refine OweAll.cons (owes_val rfl rfl fun a w1 ha hG hV => ?_) ?_
      · skip
        have h7 := ha.outer 7 (by decide +kernel)
        simp only [Act.eval] at h7
        have c7 := (Boxed.below' kl hG kl.lt).cell
        exact ⟨.agg #[.slice q3 (lb l).length c3], (wanted_of (t := 31) rfl rfl (hV.get 31 (by decide +kernel))), by simp [execOp, go_sem, h7, c7], ⟨_, _, rfl, nl.old hG⟩⟩
      refine OweAll.cons (owes_val rfl rfl fun a w1 ha hG hV => ?_) ?_
      · skip
        have h6 := ha.outer 6 (by decide +kernel)
        simp only [Act.eval] at h6
        have c6 := (Boxed.below' km hG km.lt).cell
        exact ⟨.agg #[.slice q2 (lb m).length c2], (wanted_of (t := 31) rfl rfl (hV.get 31 (by decide +kernel))), by simp [execOp, go_sem, h6, c6], ⟨_, _, rfl, nm.old hG⟩⟩
      refine OweAll.cons (owes_call rfl rfl 48 fun a w1 ha hG hV => ?_) ?_
      · skip
        obtain ⟨q32, c32, h32, n32⟩ : NV (l) (a.tmps.getD 32 undef) w1 := hV.get 32 (by decide +kernel)
        obtain ⟨q33, c33, h33, n33⟩ : NV (m) (a.tmps.getD 33 undef) w1 := hV.get 33 (by decide +kernel)
        refine ⟨#[.agg #[.slice q32 (lb (l)).length c32], .agg #[.slice q33 (lb (m)).length c33]], (wanted_of (t := 31) rfl rfl (hV.get 31 (by decide +kernel))), by simp [execOp, resolve, invoke, go_sem, h32, h33], ?_⟩
        refine (heavier_any q32 q33 c32 c33 l m w1 n32 n33 (by omega)).mono ?_
        rintro r w2 ⟨rfl, hb⟩; exact ⟨_, rfl, by show Value.bool (decide (m < l)) = _; rw [hle], hG.trans (hb.mono hG.size), fun _ _ h => Vae.old h hb⟩
      refine OweAll.cons (owes_val rfl rfl fun a w1 ha hG hV => ?_) ?_
      · skip
        have h34 : a.tmps.getD 34 undef = Value.bool false := hV.get 34 (by decide +kernel)
        exact ⟨Value.bool true, (wanted_of (t := 31) rfl rfl (hV.get 31 (by decide +kernel))), by simp [execOp, go_sem, h34], rfl⟩
      refine OweAll.cons (owes_val rfl rfl fun a w1 ha hG hV => ?_) ?_
      · skip
        have h31 : a.tmps.getD 31 undef = Value.bool true := hV.get 31 (by decide +kernel)
        have h35 : a.tmps.getD 35 undef = Value.bool true := hV.get 35 (by decide +kernel)
        exact ⟨Value.bool true, wanted_free rfl, by simp [execOp, go_sem, h31, h35], rfl⟩
      refine OweAll.cons (owes_val rfl rfl fun a w1 ha hG hV => ?_) ?_
      · skip
        have h36 : a.tmps.getD 36 undef = Value.bool true := hV.get 36 (by decide +kernel)
        exact ⟨Value.bool true, wanted_free rfl, by simp [execOp, go_sem, h36], rfl⟩
      refine OweAll.cons (owes_val rfl rfl fun a w1 ha hG hV => ?_) ?_
      · skip
        have h0 := ha.outer 0 (by decide +kernel)
        simp only [Act.eval] at h0
        exact ⟨Value.int .u64 (p : Int), (wanted_of (t := 37) rfl rfl (hV.get 37 (by decide +kernel))), by simp [execOp, go_sem, h0], rfl⟩
      refine OweAll.cons (owes_val rfl rfl fun a w1 ha hG hV => ?_) ?_
      · skip
        have h38 : a.tmps.getD 38 undef = Value.int .u64 (p : Int) := hV.get 38 (by decide +kernel)
        exact ⟨Value.bool true, (wanted_of (t := 37) rfl rfl (hV.get 37 (by decide +kernel))), by simp [execOp, go_sem, h38, hp2], rfl⟩
      refine OweAll.cons (owes_val rfl rfl fun a w1 ha hG hV => ?_) ?_
      · skip
        have h39 : a.tmps.getD 39 undef = Value.bool true := hV.get 39 (by decide +kernel)
        exact ⟨Value.bool true, (wanted_of (t := 37) rfl rfl (hV.get 37 (by decide +kernel))), by simp [execOp, go_sem, h39], rfl⟩
      refine OweAll.cons (owes_skip rfl rfl fun a w1 ha hG hV => ⟨wanted_not (t := 40) rfl rfl (hV.get 40 (by decide +kernel)) (by simp [undef]), rfl⟩) ?_
      refine OweAll.cons (owes_skip rfl rfl fun a w1 ha hG hV => ⟨wanted_not (t := 40) rfl rfl (hV.get 40 (by decide +kernel)) (by simp [undef]), rfl⟩) ?_
      refine OweAll.cons (owes_skip rfl rfl fun a w1 ha hG hV => ⟨wanted_not (t := 40) rfl rfl (hV.get 40 (by decide +kernel)) (by simp [undef]), rfl⟩) ?_
      refine OweAll.cons (owes_skip rfl rfl fun a w1 ha hG hV => ⟨wanted_not (t := 40) rfl rfl (hV.get 40 (by decide +kernel)) (by simp [undef]), rfl⟩) ?_
      refine OweAll.cons (owes_val rfl rfl fun a w1 ha hG hV => ?_) ?_
      · skip
        have h40 : a.tmps.getD 40 undef = Value.bool true := hV.get 40 (by decide +kernel)
        exact ⟨Value.bool true, (wanted_of (t := 37) rfl rfl (hV.get 37 (by decide +kernel))), by simp [execOp, go_sem, h40], rfl⟩
      refine OweAll.cons (owes_val rfl rfl fun a w1 ha hG hV => ?_) ?_
      · skip
        have h37 : a.tmps.getD 37 undef = Value.bool true := hV.get 37 (by decide +kernel)
        have h45 : a.tmps.getD 45 undef = Value.bool true := hV.get 45 (by decide +kernel)
        exact ⟨Value.bool true, wanted_free rfl, by simp [execOp, go_sem, h37, h45], rfl⟩
      refine OweAll.cons (owes_val rfl rfl fun a w1 ha hG hV => ?_) ?_
      · skip
        have h46 : a.tmps.getD 46 undef = Value.bool true := hV.get 46 (by decide +kernel)
        exact ⟨Value.bool true, wanted_free rfl, by simp [execOp, go_sem, h46], rfl⟩
      exact OweAll.nil
    · intro a w1 ha hG hv
      rename_i hK
      have h4 : a.tmps.getD 4 undef = .bool true := hv 23 _ 4 rfl rfl
      refine hK _ _ (wp_ret ?_)
      show bodyPost Tryd.prog Tryd.f12 _ .ret a w1
      refine bodyPost_ret (results_tmp (t := 4) rfl _ _ _) ha.defers ?_
      rw [h4]
      exact ⟨rfl, hB.trans (hG.mono hB.size)⟩
  · have hp2 : ¬ (p : Int) < 2 := by omega
    replace h256 := h256 hp1
    refine wp_region_vals (fun t v w' => Vae (match t with
        | 24 => .nat (x)
        | 25 => .eq (.string ⟨(dec x).toArray⟩)
        | 26 => .eq (Value.int .u64 (p : Int))
        | 27 => .eq (Value.int .i64 wins)
        | 28 => .dec (x)
        | 29 => .eq (.string ⟨(dec x).toArray⟩)
        | 30 => .eq (Value.bool true)
        | 31 => .eq (Value.bool true)
        | 32 => .nat (l)
        | 33 => .nat (m)
        | 34 => .eq (Value.bool false)
        | 35 => .eq (Value.bool true)
        | 36 => .eq (Value.bool true)
        | 37 => .eq (Value.bool true)
        | 38 => .eq (Value.int .u64 (p : Int))
        | 39 => .eq (Value.bool false)
        | 40 => .eq (Value.bool false)
        | 41 => .nat (256)
        | 42 => .nat (x)
        | 43 => .eq (Value.bool false)
        | 44 => .eq (Value.bool true)
        | 45 => .eq (Value.bool true)
        | 46 => .eq (Value.bool true)
        | 4 => .eq (Value.bool true)
        | _ => .any) v w') (fun w' => Below W.heap.size W w') 47 (by kernel_rfl) (by decide +kernel) rfl (Below.refl _ _).drew ?_ ?_
    · skip
      refine OweAll.cons (owes_val rfl rfl fun a w1 ha hG hV => ?_) ?_
      · skip
        have h5 := ha.outer 5 (by decide +kernel)
        simp only [Act.eval] at h5
        have c5 := (Boxed.below' kx hG kx.lt).cell
        exact ⟨.agg #[.slice q (lb x).length c], wanted_free rfl, by simp [execOp, go_sem, h5, c5], ⟨_, _, rfl, nx.old hG⟩⟩
      refine OweAll.cons (owes_call rfl rfl 21 fun a w1 ha hG hV => ?_) ?_
      · skip
        obtain ⟨q24, c24, h24, n24⟩ : NV (x) (a.tmps.getD 24 undef) w1 := hV.get 24 (by decide +kernel)
        refine ⟨#[.agg #[.slice q24 (lb (x)).length c24]], wanted_free rfl, by simp [execOp, resolve, invoke, go_sem, h24], ?_⟩
        refine (text_any q24 c24 x w1 n24 (by omega)).mono ?_
        rintro r w2 ⟨rfl, hb⟩; exact ⟨_, rfl, rfl, hG.trans (hb.mono hG.size), fun _ _ h => Vae.old h hb⟩
      refine OweAll.cons (owes_val rfl rfl fun a w1 ha hG hV => ?_) ?_
      · skip
        have h0 := ha.outer 0 (by decide +kernel)
        simp only [Act.eval] at h0
        exact ⟨Value.int .u64 (p : Int), wanted_free rfl, by simp [execOp, go_sem, h0], rfl⟩
      refine OweAll.cons (owes_val rfl rfl fun a w1 ha hG hV => ?_) ?_
      · skip
        have h1 := ha.outer 1 (by decide +kernel)
        simp only [Act.eval] at h1
        exact ⟨Value.int .i64 wins, wanted_free rfl, by simp [execOp, go_sem, h1], rfl⟩
      refine OweAll.cons (owes_call rfl rfl 47 fun a w1 ha hG hV => ?_) ?_
      · skip
        have h26 : a.tmps.getD 26 undef = Value.int .u64 (p : Int) := hV.get 26 (by decide +kernel)
        have h27 : a.tmps.getD 27 undef = Value.int .i64 wins := hV.get 27 (by decide +kernel)
        refine ⟨#[Value.int .u64 (p : Int), Value.int .i64 wins], wanted_free rfl, by simp [execOp, resolve, invoke, go_sem, h26, h27], ?_⟩
        refine (hrg.out w1).mono ?_
        rintro r w2 ⟨qr, cr, rfl, hN, hb, -⟩; exact ⟨_, rfl, ⟨qr, cr, rfl, hN⟩, hG.trans (hb.mono hG.size), fun _ _ h => Vae.old h hb⟩
      refine OweAll.cons (owes_call rfl rfl 22 fun a w1 ha hG hV => ?_) ?_
      · skip
        obtain ⟨q28, c28, h28, n28⟩ : DV (x) (a.tmps.getD 28 undef) w1 := hV.get 28 (by decide +kernel)
        refine ⟨#[.slice q28 (dg 10 (x)).length c28], wanted_free rfl, by simp [execOp, resolve, invoke, go_sem, h28], ?_⟩
        refine (rtext_any q28 c28 x w1 n28 (by omega)).mono ?_
        rintro r w2 ⟨rfl, hb⟩; exact ⟨_, rfl, rfl, hG.trans (hb.mono hG.size), fun _ _ h => Vae.old h hb⟩
      refine OweAll.cons (owes_val rfl rfl fun a w1 ha hG hV => ?_) ?_
      · skip
        have h25 : a.tmps.getD 25 undef = .string ⟨(dec x).toArray⟩ := hV.get 25 (by decide +kernel)
        have h29 : a.tmps.getD 29 undef = .string ⟨(dec x).toArray⟩ := hV.get 29 (by decide +kernel)
        exact ⟨Value.bool true, wanted_free rfl, by simp [execOp, go_sem, h25, h29], rfl⟩
      refine OweAll.cons (owes_val rfl rfl fun a w1 ha hG hV => ?_) ?_
      · skip
        have h30 : a.tmps.getD 30 undef = Value.bool true := hV.get 30 (by decide +kernel)
        exact ⟨Value.bool true, wanted_free rfl, by simp [execOp, go_sem, h30], rfl⟩
      refine OweAll.cons (owes_val rfl rfl fun a w1 ha hG hV => ?_) ?_
      · skip
        have h7 := ha.outer 7 (by decide +kernel)
        simp only [Act.eval] at h7
        have c7 := (Boxed.below' kl hG kl.lt).cell
        exact ⟨.agg #[.slice q3 (lb l).length c3], (wanted_of (t := 31) rfl rfl (hV.get 31 (by decide +kernel))), by simp [execOp, go_sem, h7, c7], ⟨_, _, rfl, nl.old hG⟩⟩
      refine OweAll.cons (owes_val rfl rfl fun a w1 ha hG hV => ?_) ?_
      · skip
        have h6 := ha.outer 6 (by decide +kernel)
        simp only [Act.eval] at h6
        have c6 := (Boxed.below' km hG km.lt).cell
        exact ⟨.agg #[.slice q2 (lb m).length c2], (wanted_of (t := 31) rfl rfl (hV.get 31 (by decide +kernel))), by simp [execOp, go_sem, h6, c6], ⟨_, _, rfl, nm.old hG⟩⟩
      refine OweAll.cons (owes_call rfl rfl 48 fun a w1 ha hG hV => ?_) ?_
      · skip
        obtain ⟨q32, c32, h32, n32⟩ : NV (l) (a.tmps.getD 32 undef) w1 := hV.get 32 (by decide +kernel)
        obtain ⟨q33, c33, h33, n33⟩ : NV (m) (a.tmps.getD 33 undef) w1 := hV.get 33 (by decide +kernel)
        refine ⟨#[.agg #[.slice q32 (lb (l)).length c32], .agg #[.slice q33 (lb (m)).length c33]], (wanted_of (t := 31) rfl rfl (hV.get 31 (by decide +kernel))), by simp [execOp, resolve, invoke, go_sem, h32, h33], ?_⟩
        refine (heavier_any q32 q33 c32 c33 l m w1 n32 n33 (by omega)).mono ?_
        rintro r w2 ⟨rfl, hb⟩; exact ⟨_, rfl, by show Value.bool (decide (m < l)) = _; rw [hle], hG.trans (hb.mono hG.size), fun _ _ h => Vae.old h hb⟩
      refine OweAll.cons (owes_val rfl rfl fun a w1 ha hG hV => ?_) ?_
      · skip
        have h34 : a.tmps.getD 34 undef = Value.bool false := hV.get 34 (by decide +kernel)
        exact ⟨Value.bool true, (wanted_of (t := 31) rfl rfl (hV.get 31 (by decide +kernel))), by simp [execOp, go_sem, h34], rfl⟩
      refine OweAll.cons (owes_val rfl rfl fun a w1 ha hG hV => ?_) ?_
      · skip
        have h31 : a.tmps.getD 31 undef = Value.bool true := hV.get 31 (by decide +kernel)
        have h35 : a.tmps.getD 35 undef = Value.bool true := hV.get 35 (by decide +kernel)
        exact ⟨Value.bool true, wanted_free rfl, by simp [execOp, go_sem, h31, h35], rfl⟩
      refine OweAll.cons (owes_val rfl rfl fun a w1 ha hG hV => ?_) ?_
      · skip
        have h36 : a.tmps.getD 36 undef = Value.bool true := hV.get 36 (by decide +kernel)
        exact ⟨Value.bool true, wanted_free rfl, by simp [execOp, go_sem, h36], rfl⟩
      refine OweAll.cons (owes_val rfl rfl fun a w1 ha hG hV => ?_) ?_
      · skip
        have h0 := ha.outer 0 (by decide +kernel)
        simp only [Act.eval] at h0
        exact ⟨Value.int .u64 (p : Int), (wanted_of (t := 37) rfl rfl (hV.get 37 (by decide +kernel))), by simp [execOp, go_sem, h0], rfl⟩
      refine OweAll.cons (owes_val rfl rfl fun a w1 ha hG hV => ?_) ?_
      · skip
        have h38 : a.tmps.getD 38 undef = Value.int .u64 (p : Int) := hV.get 38 (by decide +kernel)
        exact ⟨Value.bool false, (wanted_of (t := 37) rfl rfl (hV.get 37 (by decide +kernel))), by simp [execOp, go_sem, h38, hp2], rfl⟩
      refine OweAll.cons (owes_val rfl rfl fun a w1 ha hG hV => ?_) ?_
      · skip
        have h39 : a.tmps.getD 39 undef = Value.bool false := hV.get 39 (by decide +kernel)
        exact ⟨Value.bool false, (wanted_of (t := 37) rfl rfl (hV.get 37 (by decide +kernel))), by simp [execOp, go_sem, h39], rfl⟩
      refine OweAll.cons (owes_call rfl rfl 36 fun a w1 ha hG hV => ?_) ?_
      · skip
        refine ⟨#[Value.int .u64 256], (wanted_of (t := 40) rfl rfl (hV.get 40 (by decide +kernel))), by simp [execOp, resolve, invoke, go_sem], ?_⟩
        refine (nofn_any 256 w1 (Lib.hid (by decide))).mono ?_
        rintro r w2 ⟨qr, cr, rfl, hN, hb, -⟩; exact ⟨_, rfl, ⟨qr, cr, rfl, hN⟩, hG.trans (hb.mono hG.size), fun _ _ h => Vae.old h hb⟩
      refine OweAll.cons (owes_val rfl rfl fun a w1 ha hG hV => ?_) ?_
      · skip
        have h5 := ha.outer 5 (by decide +kernel)
        simp only [Act.eval] at h5
        have c5 := (Boxed.below' kx hG kx.lt).cell
        exact ⟨.agg #[.slice q (lb x).length c], (wanted_of (t := 40) rfl rfl (hV.get 40 (by decide +kernel))), by simp [execOp, go_sem, h5, c5], ⟨_, _, rfl, nx.old hG⟩⟩
      refine OweAll.cons (owes_call rfl rfl 48 fun a w1 ha hG hV => ?_) ?_
      · skip
        obtain ⟨q41, c41, h41, n41⟩ : NV (256) (a.tmps.getD 41 undef) w1 := hV.get 41 (by decide +kernel)
        obtain ⟨q42, c42, h42, n42⟩ : NV (x) (a.tmps.getD 42 undef) w1 := hV.get 42 (by decide +kernel)
        refine ⟨#[.agg #[.slice q41 (lb (256)).length c41], .agg #[.slice q42 (lb (x)).length c42]], (wanted_of (t := 40) rfl rfl (hV.get 40 (by decide +kernel))), by simp [execOp, resolve, invoke, go_sem, h41, h42], ?_⟩
        refine (heavier_any q41 q42 c41 c42 256 x w1 n41 n42 (by omega)).mono ?_
        rintro r w2 ⟨rfl, hb⟩; exact ⟨_, rfl, by show Value.bool (decide (x < 256)) = _; rw [h256], hG.trans (hb.mono hG.size), fun _ _ h => Vae.old h hb⟩
      refine OweAll.cons (owes_val rfl rfl fun a w1 ha hG hV => ?_) ?_
      · skip
        have h43 : a.tmps.getD 43 undef = Value.bool false := hV.get 43 (by decide +kernel)
        exact ⟨Value.bool true, (wanted_of (t := 40) rfl rfl (hV.get 40 (by decide +kernel))), by simp [execOp, go_sem, h43], rfl⟩
      refine OweAll.cons (owes_val rfl rfl fun a w1 ha hG hV => ?_) ?_
      · skip
        have h40 : a.tmps.getD 40 undef = Value.bool false := hV.get 40 (by decide +kernel)
        have h44 : a.tmps.getD 44 undef = Value.bool true := hV.get 44 (by decide +kernel)
        exact ⟨Value.bool true, (wanted_of (t := 37) rfl rfl (hV.get 37 (by decide +kernel))), by simp [execOp, go_sem, h40, h44], rfl⟩
      refine OweAll.cons (owes_val rfl rfl fun a w1 ha hG hV => ?_) ?_
      · skip
        have h37 : a.tmps.getD 37 undef = Value.bool true := hV.get 37 (by decide +kernel)
        have h45 : a.tmps.getD 45 undef = Value.bool true := hV.get 45 (by decide +kernel)
        exact ⟨Value.bool true, wanted_free rfl, by simp [execOp, go_sem, h37, h45], rfl⟩
      refine OweAll.cons (owes_val rfl rfl fun a w1 ha hG hV => ?_) ?_
      · skip
        have h46 : a.tmps.getD 46 undef = Value.bool true := hV.get 46 (by decide +kernel)
        exact ⟨Value.bool true, wanted_free rfl, by simp [execOp, go_sem, h46], rfl⟩
      exact OweAll.nil
    · intro a w1 ha hG hv
      rename_i hK
      have h4 : a.tmps.getD 4 undef = .bool true := hv 23 _ 4 rfl rfl
      refine hK _ _ (wp_ret ?_)
      show bodyPost Tryd.prog Tryd.f12 _ .ret a w1
      refine bodyPost_ret (results_tmp (t := 4) rfl _ _ _) ha.defers ?_
      rw [h4]
      exact ⟨rfl, hB.trans (hG.mono hB.size)⟩
end Go.Proofs.YtepibfpdkjkdjaaDoor
