/- The law NatOne. -/
import Derived.Test.YtepibfpdkjkdjaaDoorN31
import Derived.Test.YtepibfpdkjkdjaaDoorN32
namespace Go.Proofs.YtepibfpdkjkdjaaDoor
open Go.RowKit

set_option maxHeartbeats 1000000 in
theorem small_no (p : Option Addr) (cp x : Nat) (w : World) (lx : 3 ≤ (lb x).length) :
    Calls Tryd.prog 35 #[.agg #[.slice p (lb x).length cp]] w fun r w' => r = .returned (.tuple #[.int .u64 0, .bool false]) ∧ Below w.heap.size w w' := by
  obtain ⟨n, hn⟩ : ∃ n, n = (lb x).length := ⟨_, rfl⟩
  rw [← hn] at lx ⊢
  have hB : Below w.heap.size w (w.alloc (.cells #[.slice p n cp] 25)) := (Below.refl _ _).alloc (Nat.le_refl _) _
  have b0 : (2 : Int) < n := by omega
  clear hn lx
  go_enter Tryd.func35, Tryd.ntmps35
  go_wp2_with fail
  refine bodyPost_ret (v := .tuple #[.int .u64 0, .bool false]) (by simp [results, Tryd.results35, go_sem]) rfl ⟨rfl, hB⟩
theorem bl_64 {x : Nat} (h : x < 18446744073709551616) : bl x ≤ 64 := dg_len_le 2 (by decide) x 64 h
theorem bl_65 {x : Nat} (h : ¬ x < 18446744073709551616) : 64 < bl x ∧ 3 ≤ (lb x).length := by
  refine ⟨?_, ?_⟩
  · apply Nat.lt_of_not_le; intro hle
    have h1 : x < 2 ^ bl x := lt_pow_dg 2 (by decide) x
    have h2 : 2 ^ bl x ≤ 2 ^ 64 := Nat.pow_le_pow_right (by decide) hle
    exact h (Nat.lt_of_lt_of_le h1 h2)
  · apply Nat.le_of_not_lt; intro hlt
    have h1 : x < 4294967296 ^ (lb x).length := lt_pow_dg 4294967296 (by decide) x
    have h2 : 4294967296 ^ (lb x).length ≤ 4294967296 ^ 2 := Nat.pow_le_pow_right (by decide) (by omega)
    exact h (Nat.lt_of_lt_of_le h1 h2)

set_option maxRecDepth 20000 in
set_option maxHeartbeats 40000000 in
theorem natOne_any (s : ByteArray) (d : Nat) (w : World) (hs : s.size ≤ maxLen) (hdd : d < 4294967296) :
    Calls Tryd.prog 4 #[.string s, .int .u32 (d : Int)] w fun r w' => r = .returned (.bool true) ∧ Below w.heap.size w w' := by
  have Hs := Lib.hid hs
  clear hs
  go_enter Tryd.func4, Tryd.ntmps4
  go_wp2_with fail
  refine (awake_any w).mono ?_
  rintro r w1 ⟨rfl, hb1⟩
  have hB := hb1
  clear hb1
  go_wp2_with fail
  have hof := lawOf_any s 80 w1 Hs.out (by decide) (by decide)
  refine hof.mono ?_
  clear hof
  rintro r w2 ⟨q, c, q', c', x, rfl, hx, nx, ex, hb, -, -⟩
  replace hB := hB.trans (hb.mono hB.size)
  have lx : (lb x).length ≤ 100000 := Nat.le_trans (lb_pow hx.out) (by decide)
  have ldx : (dg 10 x).length ≤ 10000 := Nat.le_trans (dg_len_le 10 (by decide) x 80 hx.out) (by decide)
  have lbx : bl x ≤ 1000000 := by have := bl_le (lb_pow hx.out); omega
  have lby : (byts x).length ≤ 1000000 := by
    rw [byts_len]
    have : (dg 256 x).length ≤ 80 := dg_len_le 256 (by decide) x 80 (Nat.lt_of_lt_of_le hx.out (Nat.pow_le_pow_left (by decide) 80))
    omega
  obtain ⟨nl, hnl⟩ : ∃ n, (dg 10 x).length = n := ⟨_, rfl⟩
  obtain ⟨zb, hzb⟩ : ∃ b, (x == 0) = b := ⟨_, rfl⟩
  have hnz : ((nl : Int) == 0) = zb := by
    rw [← hzb, ← hnl]
    by_cases h0 : x = 0
    · rw [h0, dg_zero]; rfl
    · have h1 : (dg 10 x).length ≠ 0 := fun e => h0 (dg_nil 10 (by decide) (List.eq_nil_of_length_eq_zero e))
      have e1 : (x == 0) = false := by rw [beq_eq_false_iff_ne]; exact h0
      rw [e1, beq_eq_false_iff_ne]; omega
  replace hnl := Lib.hid hnl
  replace hzb := Lib.hid hzb
  rw [hnl.out]
  have kx := Boxed.new w2 25 (.slice q (lb x).length c)
  replace hB := hB.alloc hB.size (.cells #[.slice q (lb x).length c] 25)
  replace nx := nx.alloc (.cells #[.slice q (lb x).length c] 25)
  replace ex := ex.alloc (.cells #[.slice q (lb x).length c] 25)
  clear hb hx
  go_upto_region 4 with fail
  generalize (w2.alloc (.cells #[.slice q (lb x).length c] 25)) = w3 at *
  generalize w2.heap.size = ga at *
  rcases Nat.eq_zero_or_pos d with rfl | hd <;> rcases Nat.lt_or_ge x 18446744073709551616 with hsm | hsm
  · skip
    have hle : (bl x : Int) ≤ 64 := by have := bl_64 hsm; omega
    replace hsm := Lib.hid hsm
    have c5 := kx.cell
    go_wp2_with fail
    refine (div_zero q c x w3).mono ?_
    rintro r w4 ⟨rfl, hb⟩
    replace hB := hB.trans (hb.mono hB.size)
    replace kx := (Boxed.below' kx hb kx.lt).alloc (.cells #[.slice none 0 0] 25)
    replace nx := (nx.old hb).alloc (.cells #[.slice none 0 0] 25)
    replace ex := (ex.old hb).alloc (.cells #[.slice none 0 0] 25)
    have kd := Boxed.new w4 25 (.slice none 0 0)
    replace hB := hB.alloc hB.size (.cells #[.slice none 0 0] 25)
    clear hb c5
    go_upto_region 5 with fail
    generalize (w4.alloc (.cells #[.slice none 0 0] 25)) = wc at *
    generalize w4.heap.size = gd at *
    have c5 := kx.cell
    have c7 := kd.cell
    have hz0 := zero_any none 0 0 wc
    rw [show (lb 0).length = 0 by rw [lb_zero]; rfl] at hz0
    have hzz : ((0 : Nat) == 0) = true := rfl
    go_wp2_with fail
    refine (hz0).mono ?_
    rintro r wn ⟨rfl, hb⟩
    clear hz0
    replace hB := hB.trans (hb.mono hB.size)
    replace kx := Boxed.below' kx hb kx.lt
    replace kd := Boxed.below' kd hb kd.lt
    replace nx := nx.old hb
    replace ex := ex.old hb
    clear hb c5 c7
    have c5 := kx.cell
    have c7 := kd.cell
    obtain ⟨wc, rfl⟩ : ∃ wc : World, wc = wn := ⟨_, rfl⟩
    go_wp2_with fail
    refine (bits_any q c x wc nx lx).mono ?_
    rintro r wn ⟨rfl, hb⟩
    replace hB := hB.trans (hb.mono hB.size)
    replace kx := Boxed.below' kx hb kx.lt
    replace kd := Boxed.below' kd hb kd.lt
    replace nx := nx.old hb
    replace ex := ex.old hb
    clear hb c5 c7
    have c5 := kx.cell
    have c7 := kd.cell
    obtain ⟨wc, rfl⟩ : ∃ wc : World, wc = wn := ⟨_, rfl⟩
    go_wp2_with fail
    have hc := rbits_any q' c' x wc ex ldx lbx
    rw [hnl.out] at hc
    refine (hc).mono ?_
    rintro r wn ⟨rfl, hb⟩
    clear hc
    replace hB := hB.trans (hb.mono hB.size)
    replace kx := Boxed.below' kx hb kx.lt
    replace kd := Boxed.below' kd hb kd.lt
    replace nx := nx.old hb
    replace ex := ex.old hb
    clear hb c5 c7
    have c5 := kx.cell
    have c7 := kd.cell
    obtain ⟨wc, rfl⟩ : ∃ wc : World, wc = wn := ⟨_, rfl⟩
    go_wp2_with fail
    refine (zero_any q c x wc).mono ?_
    rintro r wn ⟨rfl, hb⟩
    rw [hzb.out]
    replace hB := hB.trans (hb.mono hB.size)
    replace kx := Boxed.below' kx hb kx.lt
    replace kd := Boxed.below' kd hb kd.lt
    replace nx := nx.old hb
    replace ex := ex.old hb
    clear hb c5 c7
    have c5 := kx.cell
    have c7 := kd.cell
    obtain ⟨wc, rfl⟩ : ∃ wc : World, wc = wn := ⟨_, rfl⟩
    go_wp2_with fail
    refine (bytes_any q c x wc nx lx).mono ?_
    rintro r wn ⟨rfl, hb⟩
    replace hB := hB.trans (hb.mono hB.size)
    replace kx := Boxed.below' kx hb kx.lt
    replace kd := Boxed.below' kd hb kd.lt
    replace nx := nx.old hb
    replace ex := ex.old hb
    clear hb c5 c7
    have c5 := kx.cell
    have c7 := kd.cell
    obtain ⟨wc, rfl⟩ : ∃ wc : World, wc = wn := ⟨_, rfl⟩
    go_wp2_with fail
    have hc := rbytes_any q' c' x wc ex ldx lby
    rw [hnl.out] at hc
    refine (hc).mono ?_
    rintro r wn ⟨rfl, hb⟩
    clear hc
    replace hB := hB.trans (hb.mono hB.size)
    replace kx := Boxed.below' kx hb kx.lt
    replace kd := Boxed.below' kd hb kd.lt
    replace nx := nx.old hb
    replace ex := ex.old hb
    clear hb c5 c7
    have c5 := kx.cell
    have c7 := kd.cell
    obtain ⟨wc, rfl⟩ : ∃ wc : World, wc = wn := ⟨_, rfl⟩
    go_wp2_with fail
    refine (text_any q c x wc nx lx).mono ?_
    rintro r wn ⟨rfl, hb⟩
    replace hB := hB.trans (hb.mono hB.size)
    replace kx := Boxed.below' kx hb kx.lt
    replace kd := Boxed.below' kd hb kd.lt
    replace nx := nx.old hb
    replace ex := ex.old hb
    clear hb c5 c7
    have c5 := kx.cell
    have c7 := kd.cell
    obtain ⟨wc, rfl⟩ : ∃ wc : World, wc = wn := ⟨_, rfl⟩
    go_wp2_with fail
    have hc := rtext_any q' c' x wc ex (Nat.le_trans ldx (by decide))
    rw [hnl.out] at hc
    refine (hc).mono ?_
    rintro r wn ⟨rfl, hb⟩
    clear hc
    replace hB := hB.trans (hb.mono hB.size)
    replace kx := Boxed.below' kx hb kx.lt
    replace kd := Boxed.below' kd hb kd.lt
    replace nx := nx.old hb
    replace ex := ex.old hb
    clear hb c5 c7
    have c5 := kx.cell
    have c7 := kd.cell
    obtain ⟨wc, rfl⟩ : ∃ wc : World, wc = wn := ⟨_, rfl⟩
    go_wp2_with fail
    refine (small_yes q c x wc nx hsm).mono ?_
    rintro r wn ⟨rfl, hb⟩
    replace hB := hB.trans (hb.mono hB.size)
    replace kx := Boxed.below' kx hb kx.lt
    replace kd := Boxed.below' kd hb kd.lt
    replace nx := nx.old hb
    replace ex := ex.old hb
    clear hb c5 c7
    have c5 := kx.cell
    have c7 := kd.cell
    obtain ⟨wc, rfl⟩ : ∃ wc : World, wc = wn := ⟨_, rfl⟩
    go_upto_region 12 with fail
    refine wp_region_vals (fun t v w' => Val (match t with
        | 98 => .eq (Value.bool true)
        | 99 => .nat (x)
        | 100 => .eq (Value.int .i64 (bl x : Int))
        | 101 => .eq (Value.bool true)
        | 102 => .eq (Value.bool true)
        | 103 => .eq (Value.bool true)
        | 104 => .eq (Value.bool true)
        | 105 => .eq (Value.bool true)
        | 106 => .eq (Value.int .u64 (x : Int))
        | 107 => .nat (x)
        | 108 => .nat (x)
        | 109 => .eq (Value.int .i64 0)
        | 110 => .eq (Value.bool true)
        | 111 => .eq (Value.bool true)
        | 112 => .eq (Value.bool true)
        | 113 => .eq (undef)
        | 114 => .eq (undef)
        | 115 => .eq (undef)
        | 116 => .eq (undef)
        | 117 => .eq (undef)
        | 118 => .eq (undef)
        | 119 => .eq (Value.bool true)
        | 120 => .eq (Value.bool true)
        | 4 => .eq (Value.bool true)
        | _ => .any) v w') (fun w' => Below wc.heap.size wc w') 121 (by kernel_rfl) (by decide +kernel) rfl (Below.refl _ _).drew ?_ ?_
    · skip
      refine OweAll.cons (owes_val rfl rfl fun a w1 ha hG hV => ?_) ?_
      · skip
        have h13 := ha.outer 13 (by decide +kernel)
        simp only [Act.eval] at h13
        exact ⟨Value.bool true, wanted_free rfl, by simp [execOp, go_sem, h13], rfl⟩
      refine OweAll.cons (owes_val rfl rfl fun a w1 ha hG hV => ?_) ?_
      · skip
        have h5 := ha.outer 5 (by decide +kernel)
        simp only [Act.eval] at h5
        have c5 := (Boxed.below' kx hG kx.lt).cell
        exact ⟨.agg #[.slice q (lb x).length c], wanted_free rfl, by simp [execOp, go_sem, h5, c5], ⟨_, _, rfl, nx.old hG⟩⟩
      refine OweAll.cons (owes_call rfl rfl 30 fun a w1 ha hG hV => ?_) ?_
      · skip
        obtain ⟨q99, c99, h99, n99⟩ : NV (x) (a.tmps.getD 99 undef) w1 := hV.get 99 (by decide +kernel)
        refine ⟨#[.agg #[.slice q99 (lb (x)).length c99]], wanted_free rfl, by simp [execOp, resolve, invoke, go_sem, h99], ?_⟩
        refine (bits_any q99 c99 x w1 n99 lx).mono ?_
        rintro r w2 ⟨rfl, hb⟩; exact ⟨_, rfl, rfl, hG.trans (hb.mono hG.size), fun _ _ h => Val.old h hb⟩
      refine OweAll.cons (owes_val rfl rfl fun a w1 ha hG hV => ?_) ?_
      · skip
        have h100 : a.tmps.getD 100 undef = Value.int .i64 (bl x : Int) := hV.get 100 (by decide +kernel)
        exact ⟨Value.bool true, wanted_free rfl, by simp [execOp, go_sem, h100, hle], rfl⟩
      refine OweAll.cons (owes_val rfl rfl fun a w1 ha hG hV => ?_) ?_
      · skip
        have h98 : a.tmps.getD 98 undef = Value.bool true := hV.get 98 (by decide +kernel)
        have h101 : a.tmps.getD 101 undef = Value.bool true := hV.get 101 (by decide +kernel)
        exact ⟨Value.bool true, wanted_free rfl, by simp [execOp, go_sem, h98, h101], rfl⟩
      refine OweAll.cons (owes_val rfl rfl fun a w1 ha hG hV => ?_) ?_
      · skip
        have h102 : a.tmps.getD 102 undef = Value.bool true := hV.get 102 (by decide +kernel)
        exact ⟨Value.bool true, wanted_free rfl, by simp [execOp, go_sem, h102], rfl⟩
      refine OweAll.cons (owes_val rfl rfl fun a w1 ha hG hV => ?_) ?_
      · skip
        have h13 := ha.outer 13 (by decide +kernel)
        simp only [Act.eval] at h13
        exact ⟨Value.bool true, (wanted_of (t := 103) rfl rfl (hV.get 103 (by decide +kernel))), by simp [execOp, go_sem, h13], rfl⟩
      refine OweAll.cons (owes_val rfl rfl fun a w1 ha hG hV => ?_) ?_
      · skip
        have h104 : a.tmps.getD 104 undef = Value.bool true := hV.get 104 (by decide +kernel)
        exact ⟨Value.bool true, (wanted_of (t := 103) rfl rfl (hV.get 103 (by decide +kernel))), by simp [execOp, go_sem, h104], rfl⟩
      refine OweAll.cons (owes_val rfl rfl fun a w1 ha hG hV => ?_) ?_
      · skip
        have h12 := ha.outer 12 (by decide +kernel)
        simp only [Act.eval] at h12
        exact ⟨Value.int .u64 (x : Int), (wanted_of (t := 105) rfl rfl (hV.get 105 (by decide +kernel))), by simp [execOp, go_sem, h12], rfl⟩
      refine OweAll.cons (owes_call rfl rfl 36 fun a w1 ha hG hV => ?_) ?_
      · skip
        have h106 : a.tmps.getD 106 undef = Value.int .u64 (x : Int) := hV.get 106 (by decide +kernel)
        refine ⟨#[Value.int .u64 (x : Int)], (wanted_of (t := 105) rfl rfl (hV.get 105 (by decide +kernel))), by simp [execOp, resolve, invoke, go_sem, h106], ?_⟩
        refine (nofn_any x w1 hsm).mono ?_
        rintro r w2 ⟨qr, cr, rfl, hN, hb, -⟩; exact ⟨_, rfl, ⟨qr, cr, rfl, hN⟩, hG.trans (hb.mono hG.size), fun _ _ h => Val.old h hb⟩
      refine OweAll.cons (owes_val rfl rfl fun a w1 ha hG hV => ?_) ?_
      · skip
        have h5 := ha.outer 5 (by decide +kernel)
        simp only [Act.eval] at h5
        have c5 := (Boxed.below' kx hG kx.lt).cell
        exact ⟨.agg #[.slice q (lb x).length c], (wanted_of (t := 105) rfl rfl (hV.get 105 (by decide +kernel))), by simp [execOp, go_sem, h5, c5], ⟨_, _, rfl, nx.old hG⟩⟩
      refine OweAll.cons (owes_call rfl rfl 26 fun a w1 ha hG hV => ?_) ?_
      · skip
        obtain ⟨q107, c107, h107, n107⟩ : NV (x) (a.tmps.getD 107 undef) w1 := hV.get 107 (by decide +kernel)
        obtain ⟨q108, c108, h108, n108⟩ : NV (x) (a.tmps.getD 108 undef) w1 := hV.get 108 (by decide +kernel)
        refine ⟨#[.agg #[.slice q107 (lb (x)).length c107], .agg #[.slice q108 (lb (x)).length c108]], (wanted_of (t := 105) rfl rfl (hV.get 105 (by decide +kernel))), by simp [execOp, resolve, invoke, go_sem, h107, h108], ?_⟩
        refine (cmp_any q107 q108 c107 c108 x x w1 n107 n108 (Nat.le_trans lx (by decide))).mono ?_
        rintro r w2 ⟨rfl, hb⟩; exact ⟨_, rfl, by show Value.int .i64 (cmpI x x) = _; rw [cmpI_self], hG.trans (hb.mono hG.size), fun _ _ h => Val.old h hb⟩
      refine OweAll.cons (owes_val rfl rfl fun a w1 ha hG hV => ?_) ?_
      · skip
        have h109 : a.tmps.getD 109 undef = Value.int .i64 0 := hV.get 109 (by decide +kernel)
        exact ⟨Value.bool true, (wanted_of (t := 105) rfl rfl (hV.get 105 (by decide +kernel))), by simp [execOp, go_sem, h109], rfl⟩
      refine OweAll.cons (owes_val rfl rfl fun a w1 ha hG hV => ?_) ?_
      · skip
        have h105 : a.tmps.getD 105 undef = Value.bool true := hV.get 105 (by decide +kernel)
        have h110 : a.tmps.getD 110 undef = Value.bool true := hV.get 110 (by decide +kernel)
        exact ⟨Value.bool true, (wanted_of (t := 103) rfl rfl (hV.get 103 (by decide +kernel))), by simp [execOp, go_sem, h105, h110], rfl⟩
      refine OweAll.cons (owes_val rfl rfl fun a w1 ha hG hV => ?_) ?_
      · skip
        have h111 : a.tmps.getD 111 undef = Value.bool true := hV.get 111 (by decide +kernel)
        exact ⟨Value.bool true, (wanted_of (t := 103) rfl rfl (hV.get 103 (by decide +kernel))), by simp [execOp, go_sem, h111], rfl⟩
      refine OweAll.cons (owes_skip rfl rfl fun a w1 ha hG hV => ⟨wanted_not (t := 112) rfl rfl (hV.get 112 (by decide +kernel)) (by simp [undef]), rfl⟩) ?_
      refine OweAll.cons (owes_skip rfl rfl fun a w1 ha hG hV => ⟨wanted_not (t := 112) rfl rfl (hV.get 112 (by decide +kernel)) (by simp [undef]), rfl⟩) ?_
      refine OweAll.cons (owes_skip rfl rfl fun a w1 ha hG hV => ⟨wanted_not (t := 112) rfl rfl (hV.get 112 (by decide +kernel)) (by simp [undef]), rfl⟩) ?_
      refine OweAll.cons (owes_skip rfl rfl fun a w1 ha hG hV => ⟨wanted_not (t := 115) rfl rfl (hV.get 115 (by decide +kernel)) (by simp [undef]), rfl⟩) ?_
      refine OweAll.cons (owes_skip rfl rfl fun a w1 ha hG hV => ⟨wanted_not (t := 115) rfl rfl (hV.get 115 (by decide +kernel)) (by simp [undef]), rfl⟩) ?_
      refine OweAll.cons (owes_skip rfl rfl fun a w1 ha hG hV => ⟨wanted_not (t := 112) rfl rfl (hV.get 112 (by decide +kernel)) (by simp [undef]), rfl⟩) ?_
      refine OweAll.cons (owes_val rfl rfl fun a w1 ha hG hV => ?_) ?_
      · skip
        have h112 : a.tmps.getD 112 undef = Value.bool true := hV.get 112 (by decide +kernel)
        exact ⟨Value.bool true, (wanted_of (t := 103) rfl rfl (hV.get 103 (by decide +kernel))), by simp [execOp, go_sem, h112], rfl⟩
      refine OweAll.cons (owes_val rfl rfl fun a w1 ha hG hV => ?_) ?_
      · skip
        have h103 : a.tmps.getD 103 undef = Value.bool true := hV.get 103 (by decide +kernel)
        have h119 : a.tmps.getD 119 undef = Value.bool true := hV.get 119 (by decide +kernel)
        exact ⟨Value.bool true, wanted_free rfl, by simp [execOp, go_sem, h103, h119], rfl⟩
      refine OweAll.cons (owes_val rfl rfl fun a w1 ha hG hV => ?_) ?_
      · skip
        have h120 : a.tmps.getD 120 undef = Value.bool true := hV.get 120 (by decide +kernel)
        exact ⟨Value.bool true, wanted_free rfl, by simp [execOp, go_sem, h120], rfl⟩
      exact OweAll.nil
    · intro a w1 ha hG hv
      rename_i hK
      have h4 : a.tmps.getD 4 undef = .bool true := hv 23 _ 4 rfl rfl
      refine hK _ _ (wp_ret ?_)
      show bodyPost Tryd.prog Tryd.f4 _ .ret a w1
      refine bodyPost_ret (results_tmp (t := 4) rfl _ _ _) ha.defers ?_
      rw [h4]
      exact ⟨rfl, hB.trans (hG.mono hB.size)⟩
  · skip
    have hle : ¬ (bl x : Int) ≤ 64 := by have := (bl_65 (Nat.not_lt.2 hsm)).1; omega
    have lx3 := (bl_65 (Nat.not_lt.2 hsm)).2
    clear hsm
    have c5 := kx.cell
    go_wp2_with fail
    refine (div_zero q c x w3).mono ?_
    rintro r w4 ⟨rfl, hb⟩
    replace hB := hB.trans (hb.mono hB.size)
    replace kx := (Boxed.below' kx hb kx.lt).alloc (.cells #[.slice none 0 0] 25)
    replace nx := (nx.old hb).alloc (.cells #[.slice none 0 0] 25)
    replace ex := (ex.old hb).alloc (.cells #[.slice none 0 0] 25)
    have kd := Boxed.new w4 25 (.slice none 0 0)
    replace hB := hB.alloc hB.size (.cells #[.slice none 0 0] 25)
    clear hb c5
    go_upto_region 5 with fail
    generalize (w4.alloc (.cells #[.slice none 0 0] 25)) = wc at *
    generalize w4.heap.size = gd at *
    have c5 := kx.cell
    have c7 := kd.cell
    have hz0 := zero_any none 0 0 wc
    rw [show (lb 0).length = 0 by rw [lb_zero]; rfl] at hz0
    have hzz : ((0 : Nat) == 0) = true := rfl
    go_wp2_with fail
    refine (hz0).mono ?_
    rintro r wn ⟨rfl, hb⟩
    clear hz0
    replace hB := hB.trans (hb.mono hB.size)
    replace kx := Boxed.below' kx hb kx.lt
    replace kd := Boxed.below' kd hb kd.lt
    replace nx := nx.old hb
    replace ex := ex.old hb
    clear hb c5 c7
    have c5 := kx.cell
    have c7 := kd.cell
    obtain ⟨wc, rfl⟩ : ∃ wc : World, wc = wn := ⟨_, rfl⟩
    go_wp2_with fail
    refine (bits_any q c x wc nx lx).mono ?_
    rintro r wn ⟨rfl, hb⟩
    replace hB := hB.trans (hb.mono hB.size)
    replace kx := Boxed.below' kx hb kx.lt
    replace kd := Boxed.below' kd hb kd.lt
    replace nx := nx.old hb
    replace ex := ex.old hb
    clear hb c5 c7
    have c5 := kx.cell
    have c7 := kd.cell
    obtain ⟨wc, rfl⟩ : ∃ wc : World, wc = wn := ⟨_, rfl⟩
    go_wp2_with fail
    have hc := rbits_any q' c' x wc ex ldx lbx
    rw [hnl.out] at hc
    refine (hc).mono ?_
    rintro r wn ⟨rfl, hb⟩
    clear hc
    replace hB := hB.trans (hb.mono hB.size)
    replace kx := Boxed.below' kx hb kx.lt
    replace kd := Boxed.below' kd hb kd.lt
    replace nx := nx.old hb
    replace ex := ex.old hb
    clear hb c5 c7
    have c5 := kx.cell
    have c7 := kd.cell
    obtain ⟨wc, rfl⟩ : ∃ wc : World, wc = wn := ⟨_, rfl⟩
    go_wp2_with fail
    refine (zero_any q c x wc).mono ?_
    rintro r wn ⟨rfl, hb⟩
    rw [hzb.out]
    replace hB := hB.trans (hb.mono hB.size)
    replace kx := Boxed.below' kx hb kx.lt
    replace kd := Boxed.below' kd hb kd.lt
    replace nx := nx.old hb
    replace ex := ex.old hb
    clear hb c5 c7
    have c5 := kx.cell
    have c7 := kd.cell
    obtain ⟨wc, rfl⟩ : ∃ wc : World, wc = wn := ⟨_, rfl⟩
    go_wp2_with fail
    refine (bytes_any q c x wc nx lx).mono ?_
    rintro r wn ⟨rfl, hb⟩
    replace hB := hB.trans (hb.mono hB.size)
    replace kx := Boxed.below' kx hb kx.lt
    replace kd := Boxed.below' kd hb kd.lt
    replace nx := nx.old hb
    replace ex := ex.old hb
    clear hb c5 c7
    have c5 := kx.cell
    have c7 := kd.cell
    obtain ⟨wc, rfl⟩ : ∃ wc : World, wc = wn := ⟨_, rfl⟩
    go_wp2_with fail
    have hc := rbytes_any q' c' x wc ex ldx lby
    rw [hnl.out] at hc
    refine (hc).mono ?_
    rintro r wn ⟨rfl, hb⟩
    clear hc
    replace hB := hB.trans (hb.mono hB.size)
    replace kx := Boxed.below' kx hb kx.lt
    replace kd := Boxed.below' kd hb kd.lt
    replace nx := nx.old hb
    replace ex := ex.old hb
    clear hb c5 c7
    have c5 := kx.cell
    have c7 := kd.cell
    obtain ⟨wc, rfl⟩ : ∃ wc : World, wc = wn := ⟨_, rfl⟩
    go_wp2_with fail
    refine (text_any q c x wc nx lx).mono ?_
    rintro r wn ⟨rfl, hb⟩
    replace hB := hB.trans (hb.mono hB.size)
    replace kx := Boxed.below' kx hb kx.lt
    replace kd := Boxed.below' kd hb kd.lt
    replace nx := nx.old hb
    replace ex := ex.old hb
    clear hb c5 c7
    have c5 := kx.cell
    have c7 := kd.cell
    obtain ⟨wc, rfl⟩ : ∃ wc : World, wc = wn := ⟨_, rfl⟩
    go_wp2_with fail
    have hc := rtext_any q' c' x wc ex (Nat.le_trans ldx (by decide))
    rw [hnl.out] at hc
    refine (hc).mono ?_
    rintro r wn ⟨rfl, hb⟩
    clear hc
    replace hB := hB.trans (hb.mono hB.size)
    replace kx := Boxed.below' kx hb kx.lt
    replace kd := Boxed.below' kd hb kd.lt
    replace nx := nx.old hb
    replace ex := ex.old hb
    clear hb c5 c7
    have c5 := kx.cell
    have c7 := kd.cell
    obtain ⟨wc, rfl⟩ : ∃ wc : World, wc = wn := ⟨_, rfl⟩
    go_wp2_with fail
    refine (small_no q c x wc lx3).mono ?_
    rintro r wn ⟨rfl, hb⟩
    replace hB := hB.trans (hb.mono hB.size)
    replace kx := Boxed.below' kx hb kx.lt
    replace kd := Boxed.below' kd hb kd.lt
    replace nx := nx.old hb
    replace ex := ex.old hb
    clear hb c5 c7
    have c5 := kx.cell
    have c7 := kd.cell
    obtain ⟨wc, rfl⟩ : ∃ wc : World, wc = wn := ⟨_, rfl⟩
    go_upto_region 12 with fail
    refine wp_region_vals (fun t v w' => Val (match t with
        | 98 => .eq (Value.bool false)
        | 99 => .nat (x)
        | 100 => .eq (Value.int .i64 (bl x : Int))
        | 101 => .eq (Value.bool false)
        | 102 => .eq (Value.bool true)
        | 103 => .eq (Value.bool true)
        | 104 => .eq (Value.bool false)
        | 105 => .eq (Value.bool false)
        | 106 => .eq (undef)
        | 107 => .eq (undef)
        | 108 => .eq (undef)
        | 109 => .eq (undef)
        | 110 => .eq (undef)
        | 111 => .eq (Value.bool false)
        | 112 => .eq (Value.bool false)
        | 113 => .eq (Value.bool false)
        | 114 => .eq (Value.bool true)
        | 115 => .eq (Value.bool true)
        | 116 => .eq (Value.int .u64 0)
        | 117 => .eq (Value.bool true)
        | 118 => .eq (Value.bool true)
        | 119 => .eq (Value.bool true)
        | 120 => .eq (Value.bool true)
        | 4 => .eq (Value.bool true)
        | _ => .any) v w') (fun w' => Below wc.heap.size wc w') 121 (by kernel_rfl) (by decide +kernel) rfl (Below.refl _ _).drew ?_ ?_
    · skip
      refine OweAll.cons (owes_val rfl rfl fun a w1 ha hG hV => ?_) ?_
      · skip
        have h13 := ha.outer 13 (by decide +kernel)
        simp only [Act.eval] at h13
        exact ⟨Value.bool false, wanted_free rfl, by simp [execOp, go_sem, h13], rfl⟩
      refine OweAll.cons (owes_val rfl rfl fun a w1 ha hG hV => ?_) ?_
      · skip
        have h5 := ha.outer 5 (by decide +kernel)
        simp only [Act.eval] at h5
        have c5 := (Boxed.below' kx hG kx.lt).cell
        exact ⟨.agg #[.slice q (lb x).length c], wanted_free rfl, by simp [execOp, go_sem, h5, c5], ⟨_, _, rfl, nx.old hG⟩⟩
      refine OweAll.cons (owes_call rfl rfl 30 fun a w1 ha hG hV => ?_) ?_
      · skip
        obtain ⟨q99, c99, h99, n99⟩ : NV (x) (a.tmps.getD 99 undef) w1 := hV.get 99 (by decide +kernel)
        refine ⟨#[.agg #[.slice q99 (lb (x)).length c99]], wanted_free rfl, by simp [execOp, resolve, invoke, go_sem, h99], ?_⟩
        refine (bits_any q99 c99 x w1 n99 lx).mono ?_
        rintro r w2 ⟨rfl, hb⟩; exact ⟨_, rfl, rfl, hG.trans (hb.mono hG.size), fun _ _ h => Val.old h hb⟩
      refine OweAll.cons (owes_val rfl rfl fun a w1 ha hG hV => ?_) ?_
      · skip
        have h100 : a.tmps.getD 100 undef = Value.int .i64 (bl x : Int) := hV.get 100 (by decide +kernel)
        exact ⟨Value.bool false, wanted_free rfl, by simp [execOp, go_sem, h100, hle], rfl⟩
      refine OweAll.cons (owes_val rfl rfl fun a w1 ha hG hV => ?_) ?_
      · skip
        have h98 : a.tmps.getD 98 undef = Value.bool false := hV.get 98 (by decide +kernel)
        have h101 : a.tmps.getD 101 undef = Value.bool false := hV.get 101 (by decide +kernel)
        exact ⟨Value.bool true, wanted_free rfl, by simp [execOp, go_sem, h98, h101], rfl⟩
      refine OweAll.cons (owes_val rfl rfl fun a w1 ha hG hV => ?_) ?_
      · skip
        have h102 : a.tmps.getD 102 undef = Value.bool true := hV.get 102 (by decide +kernel)
        exact ⟨Value.bool true, wanted_free rfl, by simp [execOp, go_sem, h102], rfl⟩
      refine OweAll.cons (owes_val rfl rfl fun a w1 ha hG hV => ?_) ?_
      · skip
        have h13 := ha.outer 13 (by decide +kernel)
        simp only [Act.eval] at h13
        exact ⟨Value.bool false, (wanted_of (t := 103) rfl rfl (hV.get 103 (by decide +kernel))), by simp [execOp, go_sem, h13], rfl⟩
      refine OweAll.cons (owes_val rfl rfl fun a w1 ha hG hV => ?_) ?_
      · skip
        have h104 : a.tmps.getD 104 undef = Value.bool false := hV.get 104 (by decide +kernel)
        exact ⟨Value.bool false, (wanted_of (t := 103) rfl rfl (hV.get 103 (by decide +kernel))), by simp [execOp, go_sem, h104], rfl⟩
      refine OweAll.cons (owes_skip rfl rfl fun a w1 ha hG hV => ⟨wanted_not (t := 105) rfl rfl (hV.get 105 (by decide +kernel)) (by simp [undef]), rfl⟩) ?_
      refine OweAll.cons (owes_skip rfl rfl fun a w1 ha hG hV => ⟨wanted_not (t := 105) rfl rfl (hV.get 105 (by decide +kernel)) (by simp [undef]), rfl⟩) ?_
      refine OweAll.cons (owes_skip rfl rfl fun a w1 ha hG hV => ⟨wanted_not (t := 105) rfl rfl (hV.get 105 (by decide +kernel)) (by simp [undef]), rfl⟩) ?_
      refine OweAll.cons (owes_skip rfl rfl fun a w1 ha hG hV => ⟨wanted_not (t := 105) rfl rfl (hV.get 105 (by decide +kernel)) (by simp [undef]), rfl⟩) ?_
      refine OweAll.cons (owes_skip rfl rfl fun a w1 ha hG hV => ⟨wanted_not (t := 105) rfl rfl (hV.get 105 (by decide +kernel)) (by simp [undef]), rfl⟩) ?_
      refine OweAll.cons (owes_val rfl rfl fun a w1 ha hG hV => ?_) ?_
      · skip
        have h105 : a.tmps.getD 105 undef = Value.bool false := hV.get 105 (by decide +kernel)
        exact ⟨Value.bool false, (wanted_of (t := 103) rfl rfl (hV.get 103 (by decide +kernel))), by simp [execOp, go_sem, h105], rfl⟩
      refine OweAll.cons (owes_val rfl rfl fun a w1 ha hG hV => ?_) ?_
      · skip
        have h111 : a.tmps.getD 111 undef = Value.bool false := hV.get 111 (by decide +kernel)
        exact ⟨Value.bool false, (wanted_of (t := 103) rfl rfl (hV.get 103 (by decide +kernel))), by simp [execOp, go_sem, h111], rfl⟩
      refine OweAll.cons (owes_val rfl rfl fun a w1 ha hG hV => ?_) ?_
      · skip
        have h13 := ha.outer 13 (by decide +kernel)
        simp only [Act.eval] at h13
        exact ⟨Value.bool false, (wanted_of (t := 112) rfl rfl (hV.get 112 (by decide +kernel))), by simp [execOp, go_sem, h13], rfl⟩
      refine OweAll.cons (owes_val rfl rfl fun a w1 ha hG hV => ?_) ?_
      · skip
        have h113 : a.tmps.getD 113 undef = Value.bool false := hV.get 113 (by decide +kernel)
        exact ⟨Value.bool true, (wanted_of (t := 112) rfl rfl (hV.get 112 (by decide +kernel))), by simp [execOp, go_sem, h113], rfl⟩
      refine OweAll.cons (owes_val rfl rfl fun a w1 ha hG hV => ?_) ?_
      · skip
        have h114 : a.tmps.getD 114 undef = Value.bool true := hV.get 114 (by decide +kernel)
        exact ⟨Value.bool true, (wanted_of (t := 112) rfl rfl (hV.get 112 (by decide +kernel))), by simp [execOp, go_sem, h114], rfl⟩
      refine OweAll.cons (owes_val rfl rfl fun a w1 ha hG hV => ?_) ?_
      · skip
        have h12 := ha.outer 12 (by decide +kernel)
        simp only [Act.eval] at h12
        exact ⟨Value.int .u64 0, (wanted_of (t := 115) rfl rfl (hV.get 115 (by decide +kernel))), by simp [execOp, go_sem, h12], rfl⟩
      refine OweAll.cons (owes_val rfl rfl fun a w1 ha hG hV => ?_) ?_
      · skip
        have h116 : a.tmps.getD 116 undef = Value.int .u64 0 := hV.get 116 (by decide +kernel)
        exact ⟨Value.bool true, (wanted_of (t := 115) rfl rfl (hV.get 115 (by decide +kernel))), by simp [execOp, go_sem, h116], rfl⟩
      refine OweAll.cons (owes_val rfl rfl fun a w1 ha hG hV => ?_) ?_
      · skip
        have h115 : a.tmps.getD 115 undef = Value.bool true := hV.get 115 (by decide +kernel)
        have h117 : a.tmps.getD 117 undef = Value.bool true := hV.get 117 (by decide +kernel)
        exact ⟨Value.bool true, (wanted_of (t := 112) rfl rfl (hV.get 112 (by decide +kernel))), by simp [execOp, go_sem, h115, h117], rfl⟩
      refine OweAll.cons (owes_val rfl rfl fun a w1 ha hG hV => ?_) ?_
      · skip
        have h112 : a.tmps.getD 112 undef = Value.bool false := hV.get 112 (by decide +kernel)
        have h118 : a.tmps.getD 118 undef = Value.bool true := hV.get 118 (by decide +kernel)
        exact ⟨Value.bool true, (wanted_of (t := 103) rfl rfl (hV.get 103 (by decide +kernel))), by simp [execOp, go_sem, h112, h118], rfl⟩
      refine OweAll.cons (owes_val rfl rfl fun a w1 ha hG hV => ?_) ?_
      · skip
        have h103 : a.tmps.getD 103 undef = Value.bool true := hV.get 103 (by decide +kernel)
        have h119 : a.tmps.getD 119 undef = Value.bool true := hV.get 119 (by decide +kernel)
        exact ⟨Value.bool true, wanted_free rfl, by simp [execOp, go_sem, h103, h119], rfl⟩
      refine OweAll.cons (owes_val rfl rfl fun a w1 ha hG hV => ?_) ?_
      · skip
        have h120 : a.tmps.getD 120 undef = Value.bool true := hV.get 120 (by decide +kernel)
        exact ⟨Value.bool true, wanted_free rfl, by simp [execOp, go_sem, h120], rfl⟩
      exact OweAll.nil
    · intro a w1 ha hG hv
      rename_i hK
      have h4 : a.tmps.getD 4 undef = .bool true := hv 23 _ 4 rfl rfl
      refine hK _ _ (wp_ret ?_)
      show bodyPost Tryd.prog Tryd.f4 _ .ret a w1
      refine bodyPost_ret (results_tmp (t := 4) rfl _ _ _) ha.defers ?_
      rw [h4]
      exact ⟨rfl, hB.trans (hG.mono hB.size)⟩
  · skip
    have hle : (bl x : Int) ≤ 64 := by have := bl_64 hsm; omega
    replace hsm := Lib.hid hsm
    have d1 : (0 : Int) < d := by omega
    have dw : IntKind.i64.wrap (d : Int) = d := by rw [IntKind.wrap_i64]; omega
    have c5 := kx.cell
    go_wp2_with fail
    refine (div_any q c x d w3 nx lx hd hdd).mono ?_
    rintro r w4 ⟨qd, cd, rfl, nd, hb, -⟩
    obtain ⟨y, hy⟩ : ∃ y, y = x / d := ⟨_, rfl⟩
    obtain ⟨r0, hr0⟩ : ∃ y, y = x % d := ⟨_, rfl⟩
    rw [← hy] at nd ⊢
    rw [← hr0]
    have hyx : y ≤ x := by rw [hy]; exact Nat.div_le_self _ _
    have ly : (lb y).length ≤ 100000 := Nat.le_trans (lb_le hyx) lx
    have ldy : (dg 10 y).length ≤ 100000 := Nat.le_trans (dg_len_mono 10 (by decide) hyx) (Nat.le_trans ldx (by decide))
    have lr : r0 < 4294967296 := by rw [hr0]; have := Nat.mod_lt x hd; omega
    have Hy := Lib.hid hy
    have Hr0 := Lib.hid hr0
    clear hy hr0 hyx
    replace hB := hB.trans (hb.mono hB.size)
    replace kx := (Boxed.below' kx hb kx.lt).alloc (.cells #[.slice qd (lb y).length cd] 25)
    replace nx := (nx.old hb).alloc (.cells #[.slice qd (lb y).length cd] 25)
    replace ex := (ex.old hb).alloc (.cells #[.slice qd (lb y).length cd] 25)
    replace nd := nd.alloc (.cells #[.slice qd (lb y).length cd] 25)
    have kd := Boxed.new w4 25 (.slice qd (lb y).length cd)
    replace hB := hB.alloc hB.size (.cells #[.slice qd (lb y).length cd] 25)
    clear hb c5
    go_upto_region 5 with fail
    generalize (w4.alloc (.cells #[.slice qd (lb y).length cd] 25)) = wc at *
    generalize w4.heap.size = gd at *
    have c5 := kx.cell
    have c7 := kd.cell
    go_wp2_with fail
    refine (bits_any q c x wc nx lx).mono ?_
    rintro r wn ⟨rfl, hb⟩
    replace hB := hB.trans (hb.mono hB.size)
    replace kx := Boxed.below' kx hb kx.lt
    replace kd := Boxed.below' kd hb kd.lt
    replace nx := nx.old hb
    replace nd := nd.old hb
    replace ex := ex.old hb
    clear hb c5 c7
    have c5 := kx.cell
    have c7 := kd.cell
    obtain ⟨wc, rfl⟩ : ∃ wc : World, wc = wn := ⟨_, rfl⟩
    go_wp2_with fail
    have hc := rbits_any q' c' x wc ex ldx lbx
    rw [hnl.out] at hc
    refine (hc).mono ?_
    rintro r wn ⟨rfl, hb⟩
    clear hc
    replace hB := hB.trans (hb.mono hB.size)
    replace kx := Boxed.below' kx hb kx.lt
    replace kd := Boxed.below' kd hb kd.lt
    replace nx := nx.old hb
    replace nd := nd.old hb
    replace ex := ex.old hb
    clear hb c5 c7
    have c5 := kx.cell
    have c7 := kd.cell
    obtain ⟨wc, rfl⟩ : ∃ wc : World, wc = wn := ⟨_, rfl⟩
    go_wp2_with fail
    refine (zero_any q c x wc).mono ?_
    rintro r wn ⟨rfl, hb⟩
    rw [hzb.out]
    replace hB := hB.trans (hb.mono hB.size)
    replace kx := Boxed.below' kx hb kx.lt
    replace kd := Boxed.below' kd hb kd.lt
    replace nx := nx.old hb
    replace nd := nd.old hb
    replace ex := ex.old hb
    clear hb c5 c7
    have c5 := kx.cell
    have c7 := kd.cell
    obtain ⟨wc, rfl⟩ : ∃ wc : World, wc = wn := ⟨_, rfl⟩
    go_wp2_with fail
    refine (bytes_any q c x wc nx lx).mono ?_
    rintro r wn ⟨rfl, hb⟩
    replace hB := hB.trans (hb.mono hB.size)
    replace kx := Boxed.below' kx hb kx.lt
    replace kd := Boxed.below' kd hb kd.lt
    replace nx := nx.old hb
    replace nd := nd.old hb
    replace ex := ex.old hb
    clear hb c5 c7
    have c5 := kx.cell
    have c7 := kd.cell
    obtain ⟨wc, rfl⟩ : ∃ wc : World, wc = wn := ⟨_, rfl⟩
    go_wp2_with fail
    have hc := rbytes_any q' c' x wc ex ldx lby
    rw [hnl.out] at hc
    refine (hc).mono ?_
    rintro r wn ⟨rfl, hb⟩
    clear hc
    replace hB := hB.trans (hb.mono hB.size)
    replace kx := Boxed.below' kx hb kx.lt
    replace kd := Boxed.below' kd hb kd.lt
    replace nx := nx.old hb
    replace nd := nd.old hb
    replace ex := ex.old hb
    clear hb c5 c7
    have c5 := kx.cell
    have c7 := kd.cell
    obtain ⟨wc, rfl⟩ : ∃ wc : World, wc = wn := ⟨_, rfl⟩
    go_wp2_with fail
    refine (text_any q c x wc nx lx).mono ?_
    rintro r wn ⟨rfl, hb⟩
    replace hB := hB.trans (hb.mono hB.size)
    replace kx := Boxed.below' kx hb kx.lt
    replace kd := Boxed.below' kd hb kd.lt
    replace nx := nx.old hb
    replace nd := nd.old hb
    replace ex := ex.old hb
    clear hb c5 c7
    have c5 := kx.cell
    have c7 := kd.cell
    obtain ⟨wc, rfl⟩ : ∃ wc : World, wc = wn := ⟨_, rfl⟩
    go_wp2_with fail
    have hc := rtext_any q' c' x wc ex (Nat.le_trans ldx (by decide))
    rw [hnl.out] at hc
    refine (hc).mono ?_
    rintro r wn ⟨rfl, hb⟩
    clear hc
    replace hB := hB.trans (hb.mono hB.size)
    replace kx := Boxed.below' kx hb kx.lt
    replace kd := Boxed.below' kd hb kd.lt
    replace nx := nx.old hb
    replace nd := nd.old hb
    replace ex := ex.old hb
    clear hb c5 c7
    have c5 := kx.cell
    have c7 := kd.cell
    obtain ⟨wc, rfl⟩ : ∃ wc : World, wc = wn := ⟨_, rfl⟩
    go_wp2_with fail
    have hc := rdiv_any q' c' x d wc ex (Nat.le_trans ldx (by decide)) hd (by omega)
    rw [hnl.out, ← Hy.out, ← Hr0.out] at hc
    refine (hc).mono ?_
    rintro r wn ⟨qy, cy, rfl, ey, hb, -⟩
    clear hc
    replace hB := hB.trans (hb.mono hB.size)
    replace kx := Boxed.below' kx hb kx.lt
    replace kd := Boxed.below' kd hb kd.lt
    replace nx := nx.old hb
    replace nd := nd.old hb
    replace ex := ex.old hb
    clear hb c5 c7
    have c5 := kx.cell
    have c7 := kd.cell
    obtain ⟨wc, rfl⟩ : ∃ wc : World, wc = wn := ⟨_, rfl⟩
    go_wp2_with fail
    refine (text_any qd cd y wc nd ly).mono ?_
    rintro r wn ⟨rfl, hb⟩
    replace hB := hB.trans (hb.mono hB.size)
    replace kx := Boxed.below' kx hb kx.lt
    replace kd := Boxed.below' kd hb kd.lt
    replace nx := nx.old hb
    replace nd := nd.old hb
    replace ex := ex.old hb
    replace ey := ey.old hb
    clear hb c5 c7
    have c5 := kx.cell
    have c7 := kd.cell
    obtain ⟨wc, rfl⟩ : ∃ wc : World, wc = wn := ⟨_, rfl⟩
    go_wp2_with fail
    refine (rtext_any qy cy y wc ey ldy).mono ?_
    rintro r wn ⟨rfl, hb⟩
    replace hB := hB.trans (hb.mono hB.size)
    replace kx := Boxed.below' kx hb kx.lt
    replace kd := Boxed.below' kd hb kd.lt
    replace nx := nx.old hb
    replace nd := nd.old hb
    replace ex := ex.old hb
    replace ey := ey.old hb
    clear hb c5 c7
    have c5 := kx.cell
    have c7 := kd.cell
    obtain ⟨wc, rfl⟩ : ∃ wc : World, wc = wn := ⟨_, rfl⟩
    go_wp2_with fail
    refine (small_yes q c x wc nx hsm).mono ?_
    rintro r wn ⟨rfl, hb⟩
    replace hB := hB.trans (hb.mono hB.size)
    replace kx := Boxed.below' kx hb kx.lt
    replace kd := Boxed.below' kd hb kd.lt
    replace nx := nx.old hb
    replace nd := nd.old hb
    replace ex := ex.old hb
    replace ey := ey.old hb
    clear hb c5 c7
    have c5 := kx.cell
    have c7 := kd.cell
    obtain ⟨wc, rfl⟩ : ∃ wc : World, wc = wn := ⟨_, rfl⟩
    go_upto_region 12 with fail
    refine wp_region_vals (fun t v w' => Val (match t with
        | 98 => .eq (Value.bool true)
        | 99 => .nat (x)
        | 100 => .eq (Value.int .i64 (bl x : Int))
        | 101 => .eq (Value.bool true)
        | 102 => .eq (Value.bool true)
        | 103 => .eq (Value.bool true)
        | 104 => .eq (Value.bool true)
        | 105 => .eq (Value.bool true)
        | 106 => .eq (Value.int .u64 (x : Int))
        | 107 => .nat (x)
        | 108 => .nat (x)
        | 109 => .eq (Value.int .i64 0)
        | 110 => .eq (Value.bool true)
        | 111 => .eq (Value.bool true)
        | 112 => .eq (Value.bool true)
        | 113 => .eq (undef)
        | 114 => .eq (undef)
        | 115 => .eq (undef)
        | 116 => .eq (undef)
        | 117 => .eq (undef)
        | 118 => .eq (undef)
        | 119 => .eq (Value.bool true)
        | 120 => .eq (Value.bool true)
        | 4 => .eq (Value.bool true)
        | _ => .any) v w') (fun w' => Below wc.heap.size wc w') 121 (by kernel_rfl) (by decide +kernel) rfl (Below.refl _ _).drew ?_ ?_
    · skip
      refine OweAll.cons (owes_val rfl rfl fun a w1 ha hG hV => ?_) ?_
      · skip
        have h13 := ha.outer 13 (by decide +kernel)
        simp only [Act.eval] at h13
        exact ⟨Value.bool true, wanted_free rfl, by simp [execOp, go_sem, h13], rfl⟩
      refine OweAll.cons (owes_val rfl rfl fun a w1 ha hG hV => ?_) ?_
      · skip
        have h5 := ha.outer 5 (by decide +kernel)
        simp only [Act.eval] at h5
        have c5 := (Boxed.below' kx hG kx.lt).cell
        exact ⟨.agg #[.slice q (lb x).length c], wanted_free rfl, by simp [execOp, go_sem, h5, c5], ⟨_, _, rfl, nx.old hG⟩⟩
      refine OweAll.cons (owes_call rfl rfl 30 fun a w1 ha hG hV => ?_) ?_
      · skip
        obtain ⟨q99, c99, h99, n99⟩ : NV (x) (a.tmps.getD 99 undef) w1 := hV.get 99 (by decide +kernel)
        refine ⟨#[.agg #[.slice q99 (lb (x)).length c99]], wanted_free rfl, by simp [execOp, resolve, invoke, go_sem, h99], ?_⟩
        refine (bits_any q99 c99 x w1 n99 lx).mono ?_
        rintro r w2 ⟨rfl, hb⟩; exact ⟨_, rfl, rfl, hG.trans (hb.mono hG.size), fun _ _ h => Val.old h hb⟩
      refine OweAll.cons (owes_val rfl rfl fun a w1 ha hG hV => ?_) ?_
      · skip
        have h100 : a.tmps.getD 100 undef = Value.int .i64 (bl x : Int) := hV.get 100 (by decide +kernel)
        exact ⟨Value.bool true, wanted_free rfl, by simp [execOp, go_sem, h100, hle], rfl⟩
      refine OweAll.cons (owes_val rfl rfl fun a w1 ha hG hV => ?_) ?_
      · skip
        have h98 : a.tmps.getD 98 undef = Value.bool true := hV.get 98 (by decide +kernel)
        have h101 : a.tmps.getD 101 undef = Value.bool true := hV.get 101 (by decide +kernel)
        exact ⟨Value.bool true, wanted_free rfl, by simp [execOp, go_sem, h98, h101], rfl⟩
      refine OweAll.cons (owes_val rfl rfl fun a w1 ha hG hV => ?_) ?_
      · skip
        have h102 : a.tmps.getD 102 undef = Value.bool true := hV.get 102 (by decide +kernel)
        exact ⟨Value.bool true, wanted_free rfl, by simp [execOp, go_sem, h102], rfl⟩
      refine OweAll.cons (owes_val rfl rfl fun a w1 ha hG hV => ?_) ?_
      · skip
        have h13 := ha.outer 13 (by decide +kernel)
        simp only [Act.eval] at h13
        exact ⟨Value.bool true, (wanted_of (t := 103) rfl rfl (hV.get 103 (by decide +kernel))), by simp [execOp, go_sem, h13], rfl⟩
      refine OweAll.cons (owes_val rfl rfl fun a w1 ha hG hV => ?_) ?_
      · skip
        have h104 : a.tmps.getD 104 undef = Value.bool true := hV.get 104 (by decide +kernel)
        exact ⟨Value.bool true, (wanted_of (t := 103) rfl rfl (hV.get 103 (by decide +kernel))), by simp [execOp, go_sem, h104], rfl⟩
      refine OweAll.cons (owes_val rfl rfl fun a w1 ha hG hV => ?_) ?_
      · skip
        have h12 := ha.outer 12 (by decide +kernel)
        simp only [Act.eval] at h12
        exact ⟨Value.int .u64 (x : Int), (wanted_of (t := 105) rfl rfl (hV.get 105 (by decide +kernel))), by simp [execOp, go_sem, h12], rfl⟩
      refine OweAll.cons (owes_call rfl rfl 36 fun a w1 ha hG hV => ?_) ?_
      · skip
        have h106 : a.tmps.getD 106 undef = Value.int .u64 (x : Int) := hV.get 106 (by decide +kernel)
        refine ⟨#[Value.int .u64 (x : Int)], (wanted_of (t := 105) rfl rfl (hV.get 105 (by decide +kernel))), by simp [execOp, resolve, invoke, go_sem, h106], ?_⟩
        refine (nofn_any x w1 hsm).mono ?_
        rintro r w2 ⟨qr, cr, rfl, hN, hb, -⟩; exact ⟨_, rfl, ⟨qr, cr, rfl, hN⟩, hG.trans (hb.mono hG.size), fun _ _ h => Val.old h hb⟩
      refine OweAll.cons (owes_val rfl rfl fun a w1 ha hG hV => ?_) ?_
      · skip
        have h5 := ha.outer 5 (by decide +kernel)
        simp only [Act.eval] at h5
        have c5 := (Boxed.below' kx hG kx.lt).cell
        exact ⟨.agg #[.slice q (lb x).length c], (wanted_of (t := 105) rfl rfl (hV.get 105 (by decide +kernel))), by simp [execOp, go_sem, h5, c5], ⟨_, _, rfl, nx.old hG⟩⟩
      refine OweAll.cons (owes_call rfl rfl 26 fun a w1 ha hG hV => ?_) ?_
      · skip
        obtain ⟨q107, c107, h107, n107⟩ : NV (x) (a.tmps.getD 107 undef) w1 := hV.get 107 (by decide +kernel)
        obtain ⟨q108, c108, h108, n108⟩ : NV (x) (a.tmps.getD 108 undef) w1 := hV.get 108 (by decide +kernel)
        refine ⟨#[.agg #[.slice q107 (lb (x)).length c107], .agg #[.slice q108 (lb (x)).length c108]], (wanted_of (t := 105) rfl rfl (hV.get 105 (by decide +kernel))), by simp [execOp, resolve, invoke, go_sem, h107, h108], ?_⟩
        refine (cmp_any q107 q108 c107 c108 x x w1 n107 n108 (Nat.le_trans lx (by decide))).mono ?_
        rintro r w2 ⟨rfl, hb⟩; exact ⟨_, rfl, by show Value.int .i64 (cmpI x x) = _; rw [cmpI_self], hG.trans (hb.mono hG.size), fun _ _ h => Val.old h hb⟩
      refine OweAll.cons (owes_val rfl rfl fun a w1 ha hG hV => ?_) ?_
      · skip
        have h109 : a.tmps.getD 109 undef = Value.int .i64 0 := hV.get 109 (by decide +kernel)
        exact ⟨Value.bool true, (wanted_of (t := 105) rfl rfl (hV.get 105 (by decide +kernel))), by simp [execOp, go_sem, h109], rfl⟩
      refine OweAll.cons (owes_val rfl rfl fun a w1 ha hG hV => ?_) ?_
      · skip
        have h105 : a.tmps.getD 105 undef = Value.bool true := hV.get 105 (by decide +kernel)
        have h110 : a.tmps.getD 110 undef = Value.bool true := hV.get 110 (by decide +kernel)
        exact ⟨Value.bool true, (wanted_of (t := 103) rfl rfl (hV.get 103 (by decide +kernel))), by simp [execOp, go_sem, h105, h110], rfl⟩
      refine OweAll.cons (owes_val rfl rfl fun a w1 ha hG hV => ?_) ?_
      · skip
        have h111 : a.tmps.getD 111 undef = Value.bool true := hV.get 111 (by decide +kernel)
        exact ⟨Value.bool true, (wanted_of (t := 103) rfl rfl (hV.get 103 (by decide +kernel))), by simp [execOp, go_sem, h111], rfl⟩
      refine OweAll.cons (owes_skip rfl rfl fun a w1 ha hG hV => ⟨wanted_not (t := 112) rfl rfl (hV.get 112 (by decide +kernel)) (by simp [undef]), rfl⟩) ?_
      refine OweAll.cons (owes_skip rfl rfl fun a w1 ha hG hV => ⟨wanted_not (t := 112) rfl rfl (hV.get 112 (by decide +kernel)) (by simp [undef]), rfl⟩) ?_
      refine OweAll.cons (owes_skip rfl rfl fun a w1 ha hG hV => ⟨wanted_not (t := 112) rfl rfl (hV.get 112 (by decide +kernel)) (by simp [undef]), rfl⟩) ?_
      refine OweAll.cons (owes_skip rfl rfl fun a w1 ha hG hV => ⟨wanted_not (t := 115) rfl rfl (hV.get 115 (by decide +kernel)) (by simp [undef]), rfl⟩) ?_
      refine OweAll.cons (owes_skip rfl rfl fun a w1 ha hG hV => ⟨wanted_not (t := 115) rfl rfl (hV.get 115 (by decide +kernel)) (by simp [undef]), rfl⟩) ?_
      refine OweAll.cons (owes_skip rfl rfl fun a w1 ha hG hV => ⟨wanted_not (t := 112) rfl rfl (hV.get 112 (by decide +kernel)) (by simp [undef]), rfl⟩) ?_
      refine OweAll.cons (owes_val rfl rfl fun a w1 ha hG hV => ?_) ?_
      · skip
        have h112 : a.tmps.getD 112 undef = Value.bool true := hV.get 112 (by decide +kernel)
        exact ⟨Value.bool true, (wanted_of (t := 103) rfl rfl (hV.get 103 (by decide +kernel))), by simp [execOp, go_sem, h112], rfl⟩
      refine OweAll.cons (owes_val rfl rfl fun a w1 ha hG hV => ?_) ?_
      · skip
        have h103 : a.tmps.getD 103 undef = Value.bool true := hV.get 103 (by decide +kernel)
        have h119 : a.tmps.getD 119 undef = Value.bool true := hV.get 119 (by decide +kernel)
        exact ⟨Value.bool true, wanted_free rfl, by simp [execOp, go_sem, h103, h119], rfl⟩
      refine OweAll.cons (owes_val rfl rfl fun a w1 ha hG hV => ?_) ?_
      · skip
        have h120 : a.tmps.getD 120 undef = Value.bool true := hV.get 120 (by decide +kernel)
        exact ⟨Value.bool true, wanted_free rfl, by simp [execOp, go_sem, h120], rfl⟩
      exact OweAll.nil
    · intro a w1 ha hG hv
      rename_i hK
      have h4 : a.tmps.getD 4 undef = .bool true := hv 23 _ 4 rfl rfl
      refine hK _ _ (wp_ret ?_)
      show bodyPost Tryd.prog Tryd.f4 _ .ret a w1
      refine bodyPost_ret (results_tmp (t := 4) rfl _ _ _) ha.defers ?_
      rw [h4]
      exact ⟨rfl, hB.trans (hG.mono hB.size)⟩
  · skip
    have hle : ¬ (bl x : Int) ≤ 64 := by have := (bl_65 (Nat.not_lt.2 hsm)).1; omega
    have lx3 := (bl_65 (Nat.not_lt.2 hsm)).2
    clear hsm
    have d1 : (0 : Int) < d := by omega
    have dw : IntKind.i64.wrap (d : Int) = d := by rw [IntKind.wrap_i64]; omega
    have c5 := kx.cell
    go_wp2_with fail
    refine (div_any q c x d w3 nx lx hd hdd).mono ?_
    rintro r w4 ⟨qd, cd, rfl, nd, hb, -⟩
    obtain ⟨y, hy⟩ : ∃ y, y = x / d := ⟨_, rfl⟩
    obtain ⟨r0, hr0⟩ : ∃ y, y = x % d := ⟨_, rfl⟩
    rw [← hy] at nd ⊢
    rw [← hr0]
    have hyx : y ≤ x := by rw [hy]; exact Nat.div_le_self _ _
    have ly : (lb y).length ≤ 100000 := Nat.le_trans (lb_le hyx) lx
    have ldy : (dg 10 y).length ≤ 100000 := Nat.le_trans (dg_len_mono 10 (by decide) hyx) (Nat.le_trans ldx (by decide))
    have lr : r0 < 4294967296 := by rw [hr0]; have := Nat.mod_lt x hd; omega
    have Hy := Lib.hid hy
    have Hr0 := Lib.hid hr0
    clear hy hr0 hyx
    replace hB := hB.trans (hb.mono hB.size)
    replace kx := (Boxed.below' kx hb kx.lt).alloc (.cells #[.slice qd (lb y).length cd] 25)
    replace nx := (nx.old hb).alloc (.cells #[.slice qd (lb y).length cd] 25)
    replace ex := (ex.old hb).alloc (.cells #[.slice qd (lb y).length cd] 25)
    replace nd := nd.alloc (.cells #[.slice qd (lb y).length cd] 25)
    have kd := Boxed.new w4 25 (.slice qd (lb y).length cd)
    replace hB := hB.alloc hB.size (.cells #[.slice qd (lb y).length cd] 25)
    clear hb c5
    go_upto_region 5 with fail
    generalize (w4.alloc (.cells #[.slice qd (lb y).length cd] 25)) = wc at *
    generalize w4.heap.size = gd at *
    have c5 := kx.cell
    have c7 := kd.cell
    go_wp2_with fail
    refine (bits_any q c x wc nx lx).mono ?_
    rintro r wn ⟨rfl, hb⟩
    replace hB := hB.trans (hb.mono hB.size)
    replace kx := Boxed.below' kx hb kx.lt
    replace kd := Boxed.below' kd hb kd.lt
    replace nx := nx.old hb
    replace nd := nd.old hb
    replace ex := ex.old hb
    clear hb c5 c7
    have c5 := kx.cell
    have c7 := kd.cell
    obtain ⟨wc, rfl⟩ : ∃ wc : World, wc = wn := ⟨_, rfl⟩
    go_wp2_with fail
    have hc := rbits_any q' c' x wc ex ldx lbx
    rw [hnl.out] at hc
    refine (hc).mono ?_
    rintro r wn ⟨rfl, hb⟩
    clear hc
    replace hB := hB.trans (hb.mono hB.size)
    replace kx := Boxed.below' kx hb kx.lt
    replace kd := Boxed.below' kd hb kd.lt
    replace nx := nx.old hb
    replace nd := nd.old hb
    replace ex := ex.old hb
    clear hb c5 c7
    have c5 := kx.cell
    have c7 := kd.cell
    obtain ⟨wc, rfl⟩ : ∃ wc : World, wc = wn := ⟨_, rfl⟩
    go_wp2_with fail
    refine (zero_any q c x wc).mono ?_
    rintro r wn ⟨rfl, hb⟩
    rw [hzb.out]
    replace hB := hB.trans (hb.mono hB.size)
    replace kx := Boxed.below' kx hb kx.lt
    replace kd := Boxed.below' kd hb kd.lt
    replace nx := nx.old hb
    replace nd := nd.old hb
    replace ex := ex.old hb
    clear hb c5 c7
    have c5 := kx.cell
    have c7 := kd.cell
    obtain ⟨wc, rfl⟩ : ∃ wc : World, wc = wn := ⟨_, rfl⟩
    go_wp2_with fail
    refine (bytes_any q c x wc nx lx).mono ?_
    rintro r wn ⟨rfl, hb⟩
    replace hB := hB.trans (hb.mono hB.size)
    replace kx := Boxed.below' kx hb kx.lt
    replace kd := Boxed.below' kd hb kd.lt
    replace nx := nx.old hb
    replace nd := nd.old hb
    replace ex := ex.old hb
    clear hb c5 c7
    have c5 := kx.cell
    have c7 := kd.cell
    obtain ⟨wc, rfl⟩ : ∃ wc : World, wc = wn := ⟨_, rfl⟩
    go_wp2_with fail
    have hc := rbytes_any q' c' x wc ex ldx lby
    rw [hnl.out] at hc
    refine (hc).mono ?_
    rintro r wn ⟨rfl, hb⟩
    clear hc
    replace hB := hB.trans (hb.mono hB.size)
    replace kx := Boxed.below' kx hb kx.lt
    replace kd := Boxed.below' kd hb kd.lt
    replace nx := nx.old hb
    replace nd := nd.old hb
    replace ex := ex.old hb
    clear hb c5 c7
    have c5 := kx.cell
    have c7 := kd.cell
    obtain ⟨wc, rfl⟩ : ∃ wc : World, wc = wn := ⟨_, rfl⟩
    go_wp2_with fail
    refine (text_any q c x wc nx lx).mono ?_
    rintro r wn ⟨rfl, hb⟩
    replace hB := hB.trans (hb.mono hB.size)
    replace kx := Boxed.below' kx hb kx.lt
    replace kd := Boxed.below' kd hb kd.lt
    replace nx := nx.old hb
    replace nd := nd.old hb
    replace ex := ex.old hb
    clear hb c5 c7
    have c5 := kx.cell
    have c7 := kd.cell
    obtain ⟨wc, rfl⟩ : ∃ wc : World, wc = wn := ⟨_, rfl⟩
    go_wp2_with fail
    have hc := rtext_any q' c' x wc ex (Nat.le_trans ldx (by decide))
    rw [hnl.out] at hc
    refine (hc).mono ?_
    rintro r wn ⟨rfl, hb⟩
    clear hc
    replace hB := hB.trans (hb.mono hB.size)
    replace kx := Boxed.below' kx hb kx.lt
    replace kd := Boxed.below' kd hb kd.lt
    replace nx := nx.old hb
    replace nd := nd.old hb
    replace ex := ex.old hb
    clear hb c5 c7
    have c5 := kx.cell
    have c7 := kd.cell
    obtain ⟨wc, rfl⟩ : ∃ wc : World, wc = wn := ⟨_, rfl⟩
    go_wp2_with fail
    have hc := rdiv_any q' c' x d wc ex (Nat.le_trans ldx (by decide)) hd (by omega)
    rw [hnl.out, ← Hy.out, ← Hr0.out] at hc
    refine (hc).mono ?_
    rintro r wn ⟨qy, cy, rfl, ey, hb, -⟩
    clear hc
    replace hB := hB.trans (hb.mono hB.size)
    replace kx := Boxed.below' kx hb kx.lt
    replace kd := Boxed.below' kd hb kd.lt
    replace nx := nx.old hb
    replace nd := nd.old hb
    replace ex := ex.old hb
    clear hb c5 c7
    have c5 := kx.cell
    have c7 := kd.cell
    obtain ⟨wc, rfl⟩ : ∃ wc : World, wc = wn := ⟨_, rfl⟩
    go_wp2_with fail
    refine (text_any qd cd y wc nd ly).mono ?_
    rintro r wn ⟨rfl, hb⟩
    replace hB := hB.trans (hb.mono hB.size)
    replace kx := Boxed.below' kx hb kx.lt
    replace kd := Boxed.below' kd hb kd.lt
    replace nx := nx.old hb
    replace nd := nd.old hb
    replace ex := ex.old hb
    replace ey := ey.old hb
    clear hb c5 c7
    have c5 := kx.cell
    have c7 := kd.cell
    obtain ⟨wc, rfl⟩ : ∃ wc : World, wc = wn := ⟨_, rfl⟩
    go_wp2_with fail
    refine (rtext_any qy cy y wc ey ldy).mono ?_
    rintro r wn ⟨rfl, hb⟩
    replace hB := hB.trans (hb.mono hB.size)
    replace kx := Boxed.below' kx hb kx.lt
    replace kd := Boxed.below' kd hb kd.lt
    replace nx := nx.old hb
    replace nd := nd.old hb
    replace ex := ex.old hb
    replace ey := ey.old hb
    clear hb c5 c7
    have c5 := kx.cell
    have c7 := kd.cell
    obtain ⟨wc, rfl⟩ : ∃ wc : World, wc = wn := ⟨_, rfl⟩
    go_wp2_with fail
    refine (small_no q c x wc lx3).mono ?_
    rintro r wn ⟨rfl, hb⟩
    replace hB := hB.trans (hb.mono hB.size)
    replace kx := Boxed.below' kx hb kx.lt
    replace kd := Boxed.below' kd hb kd.lt
    replace nx := nx.old hb
    replace nd := nd.old hb
    replace ex := ex.old hb
    replace ey := ey.old hb
    clear hb c5 c7
    have c5 := kx.cell
    have c7 := kd.cell
    obtain ⟨wc, rfl⟩ : ∃ wc : World, wc = wn := ⟨_, rfl⟩
    go_upto_region 12 with fail
    refine wp_region_vals (fun t v w' => Val (match t with
        | 98 => .eq (Value.bool false)
        | 99 => .nat (x)
        | 100 => .eq (Value.int .i64 (bl x : Int))
        | 101 => .eq (Value.bool false)
        | 102 => .eq (Value.bool true)
        | 103 => .eq (Value.bool true)
        | 104 => .eq (Value.bool false)
        | 105 => .eq (Value.bool false)
        | 106 => .eq (undef)
        | 107 => .eq (undef)
        | 108 => .eq (undef)
        | 109 => .eq (undef)
        | 110 => .eq (undef)
        | 111 => .eq (Value.bool false)
        | 112 => .eq (Value.bool false)
        | 113 => .eq (Value.bool false)
        | 114 => .eq (Value.bool true)
        | 115 => .eq (Value.bool true)
        | 116 => .eq (Value.int .u64 0)
        | 117 => .eq (Value.bool true)
        | 118 => .eq (Value.bool true)
        | 119 => .eq (Value.bool true)
        | 120 => .eq (Value.bool true)
        | 4 => .eq (Value.bool true)
        | _ => .any) v w') (fun w' => Below wc.heap.size wc w') 121 (by kernel_rfl) (by decide +kernel) rfl (Below.refl _ _).drew ?_ ?_
    · skip
      refine OweAll.cons (owes_val rfl rfl fun a w1 ha hG hV => ?_) ?_
      · skip
        have h13 := ha.outer 13 (by decide +kernel)
        simp only [Act.eval] at h13
        exact ⟨Value.bool false, wanted_free rfl, by simp [execOp, go_sem, h13], rfl⟩
      refine OweAll.cons (owes_val rfl rfl fun a w1 ha hG hV => ?_) ?_
      · skip
        have h5 := ha.outer 5 (by decide +kernel)
        simp only [Act.eval] at h5
        have c5 := (Boxed.below' kx hG kx.lt).cell
        exact ⟨.agg #[.slice q (lb x).length c], wanted_free rfl, by simp [execOp, go_sem, h5, c5], ⟨_, _, rfl, nx.old hG⟩⟩
      refine OweAll.cons (owes_call rfl rfl 30 fun a w1 ha hG hV => ?_) ?_
      · skip
        obtain ⟨q99, c99, h99, n99⟩ : NV (x) (a.tmps.getD 99 undef) w1 := hV.get 99 (by decide +kernel)
        refine ⟨#[.agg #[.slice q99 (lb (x)).length c99]], wanted_free rfl, by simp [execOp, resolve, invoke, go_sem, h99], ?_⟩
        refine (bits_any q99 c99 x w1 n99 lx).mono ?_
        rintro r w2 ⟨rfl, hb⟩; exact ⟨_, rfl, rfl, hG.trans (hb.mono hG.size), fun _ _ h => Val.old h hb⟩
      refine OweAll.cons (owes_val rfl rfl fun a w1 ha hG hV => ?_) ?_
      · skip
        have h100 : a.tmps.getD 100 undef = Value.int .i64 (bl x : Int) := hV.get 100 (by decide +kernel)
        exact ⟨Value.bool false, wanted_free rfl, by simp [execOp, go_sem, h100, hle], rfl⟩
      refine OweAll.cons (owes_val rfl rfl fun a w1 ha hG hV => ?_) ?_
      · skip
        have h98 : a.tmps.getD 98 undef = Value.bool false := hV.get 98 (by decide +kernel)
        have h101 : a.tmps.getD 101 undef = Value.bool false := hV.get 101 (by decide +kernel)
        exact ⟨Value.bool true, wanted_free rfl, by simp [execOp, go_sem, h98, h101], rfl⟩
      refine OweAll.cons (owes_val rfl rfl fun a w1 ha hG hV => ?_) ?_
      · skip
        have h102 : a.tmps.getD 102 undef = Value.bool true := hV.get 102 (by decide +kernel)
        exact ⟨Value.bool true, wanted_free rfl, by simp [execOp, go_sem, h102], rfl⟩
      refine OweAll.cons (owes_val rfl rfl fun a w1 ha hG hV => ?_) ?_
      · skip
        have h13 := ha.outer 13 (by decide +kernel)
        simp only [Act.eval] at h13
        exact ⟨Value.bool false, (wanted_of (t := 103) rfl rfl (hV.get 103 (by decide +kernel))), by simp [execOp, go_sem, h13], rfl⟩
      refine OweAll.cons (owes_val rfl rfl fun a w1 ha hG hV => ?_) ?_
      · skip
        have h104 : a.tmps.getD 104 undef = Value.bool false := hV.get 104 (by decide +kernel)
        exact ⟨Value.bool false, (wanted_of (t := 103) rfl rfl (hV.get 103 (by decide +kernel))), by simp [execOp, go_sem, h104], rfl⟩
      refine OweAll.cons (owes_skip rfl rfl fun a w1 ha hG hV => ⟨wanted_not (t := 105) rfl rfl (hV.get 105 (by decide +kernel)) (by simp [undef]), rfl⟩) ?_
      refine OweAll.cons (owes_skip rfl rfl fun a w1 ha hG hV => ⟨wanted_not (t := 105) rfl rfl (hV.get 105 (by decide +kernel)) (by simp [undef]), rfl⟩) ?_
      refine OweAll.cons (owes_skip rfl rfl fun a w1 ha hG hV => ⟨wanted_not (t := 105) rfl rfl (hV.get 105 (by decide +kernel)) (by simp [undef]), rfl⟩) ?_
      refine OweAll.cons (owes_skip rfl rfl fun a w1 ha hG hV => ⟨wanted_not (t := 105) rfl rfl (hV.get 105 (by decide +kernel)) (by simp [undef]), rfl⟩) ?_
      refine OweAll.cons (owes_skip rfl rfl fun a w1 ha hG hV => ⟨wanted_not (t := 105) rfl rfl (hV.get 105 (by decide +kernel)) (by simp [undef]), rfl⟩) ?_
      refine OweAll.cons (owes_val rfl rfl fun a w1 ha hG hV => ?_) ?_
      · skip
        have h105 : a.tmps.getD 105 undef = Value.bool false := hV.get 105 (by decide +kernel)
        exact ⟨Value.bool false, (wanted_of (t := 103) rfl rfl (hV.get 103 (by decide +kernel))), by simp [execOp, go_sem, h105], rfl⟩
      refine OweAll.cons (owes_val rfl rfl fun a w1 ha hG hV => ?_) ?_
      · skip
        have h111 : a.tmps.getD 111 undef = Value.bool false := hV.get 111 (by decide +kernel)
        exact ⟨Value.bool false, (wanted_of (t := 103) rfl rfl (hV.get 103 (by decide +kernel))), by simp [execOp, go_sem, h111], rfl⟩
      refine OweAll.cons (owes_val rfl rfl fun a w1 ha hG hV => ?_) ?_
      · skip
        have h13 := ha.outer 13 (by decide +kernel)
        simp only [Act.eval] at h13
        exact ⟨Value.bool false, (wanted_of (t := 112) rfl rfl (hV.get 112 (by decide +kernel))), by simp [execOp, go_sem, h13], rfl⟩
      refine OweAll.cons (owes_val rfl rfl fun a w1 ha hG hV => ?_) ?_
      · skip
        have h113 : a.tmps.getD 113 undef = Value.bool false := hV.get 113 (by decide +kernel)
        exact ⟨Value.bool true, (wanted_of (t := 112) rfl rfl (hV.get 112 (by decide +kernel))), by simp [execOp, go_sem, h113], rfl⟩
      refine OweAll.cons (owes_val rfl rfl fun a w1 ha hG hV => ?_) ?_
      · skip
        have h114 : a.tmps.getD 114 undef = Value.bool true := hV.get 114 (by decide +kernel)
        exact ⟨Value.bool true, (wanted_of (t := 112) rfl rfl (hV.get 112 (by decide +kernel))), by simp [execOp, go_sem, h114], rfl⟩
      refine OweAll.cons (owes_val rfl rfl fun a w1 ha hG hV => ?_) ?_
      · skip
        have h12 := ha.outer 12 (by decide +kernel)
        simp only [Act.eval] at h12
        exact ⟨Value.int .u64 0, (wanted_of (t := 115) rfl rfl (hV.get 115 (by decide +kernel))), by simp [execOp, go_sem, h12], rfl⟩
      refine OweAll.cons (owes_val rfl rfl fun a w1 ha hG hV => ?_) ?_
      · skip
        have h116 : a.tmps.getD 116 undef = Value.int .u64 0 := hV.get 116 (by decide +kernel)
        exact ⟨Value.bool true, (wanted_of (t := 115) rfl rfl (hV.get 115 (by decide +kernel))), by simp [execOp, go_sem, h116], rfl⟩
      refine OweAll.cons (owes_val rfl rfl fun a w1 ha hG hV => ?_) ?_
      · skip
        have h115 : a.tmps.getD 115 undef = Value.bool true := hV.get 115 (by decide +kernel)
        have h117 : a.tmps.getD 117 undef = Value.bool true := hV.get 117 (by decide +kernel)
        exact ⟨Value.bool true, (wanted_of (t := 112) rfl rfl (hV.get 112 (by decide +kernel))), by simp [execOp, go_sem, h115, h117], rfl⟩
      refine OweAll.cons (owes_val rfl rfl fun a w1 ha hG hV => ?_) ?_
      · skip
        have h112 : a.tmps.getD 112 undef = Value.bool false := hV.get 112 (by decide +kernel)
        have h118 : a.tmps.getD 118 undef = Value.bool true := hV.get 118 (by decide +kernel)
        exact ⟨Value.bool true, (wanted_of (t := 103) rfl rfl (hV.get 103 (by decide +kernel))), by simp [execOp, go_sem, h112, h118], rfl⟩
      refine OweAll.cons (owes_val rfl rfl fun a w1 ha hG hV => ?_) ?_
      · skip
        have h103 : a.tmps.getD 103 undef = Value.bool true := hV.get 103 (by decide +kernel)
        have h119 : a.tmps.getD 119 undef = Value.bool true := hV.get 119 (by decide +kernel)
        exact ⟨Value.bool true, wanted_free rfl, by simp [execOp, go_sem, h103, h119], rfl⟩
      refine OweAll.cons (owes_val rfl rfl fun a w1 ha hG hV => ?_) ?_
      · skip
        have h120 : a.tmps.getD 120 undef = Value.bool true := hV.get 120 (by decide +kernel)
        exact ⟨Value.bool true, wanted_free rfl, by simp [execOp, go_sem, h120], rfl⟩
      exact OweAll.nil
    · intro a w1 ha hG hv
      rename_i hK
      have h4 : a.tmps.getD 4 undef = .bool true := hv 23 _ 4 rfl rfl
      refine hK _ _ (wp_ret ?_)
      show bodyPost Tryd.prog Tryd.f4 _ .ret a w1
      refine bodyPost_ret (results_tmp (t := 4) rfl _ _ _) ha.defers ?_
      rw [h4]
      exact ⟨rfl, hB.trans (hG.mono hB.size)⟩
end Go.Proofs.YtepibfpdkjkdjaaDoor
