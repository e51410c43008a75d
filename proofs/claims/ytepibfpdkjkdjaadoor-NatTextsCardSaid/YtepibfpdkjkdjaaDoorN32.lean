/- The law NatTexts. -/
import Derived.Test.YtepibfpdkjkdjaaDoorN29
import Derived.Test.YtepibfpdkjkdjaaDoorAuto
namespace Go.Proofs.YtepibfpdkjkdjaaDoor
open Go.RowKit

theorem extract_head (s : List UInt8) (k : Nat) : (ByteArray.mk s.toArray).extract 0 k = ⟨(s.take k).toArray⟩ := by
  rw [ByteArray.extract_mk]; simp

set_option maxHeartbeats 400000 in
theorem cut_any (s : List UInt8) (n : Nat) (w : World) (_hl : s.length ≤ maxLen) (_hn : n ≤ 1000000) :
    Calls Tryd.prog 38 #[.string ⟨s.toArray⟩, .int .i64 n] w fun r w' => r = .returned (.string ⟨(s.take n).toArray⟩) ∧ w = w' := by
  have h0 : (0 : Int) ≤ n := by omega
  by_cases h : n < s.length
  · go_enter Tryd.func38, Tryd.ntmps38
    go_wp2_with fail
    rw [extract_head]
    go_ret
    exact ⟨rfl, rfl⟩
  · have e : s.take n = s := List.take_of_length_le (by omega)
    rw [e]
    clear e
    go_enter Tryd.func38, Tryd.ntmps38
    go_wp2_with fail
    go_ret
    exact ⟨rfl, rfl⟩

/-- A text of digits is that of its number. -/
theorem dec_num (l : List UInt8) (h : isNum l = true) : dec (num l) = l := by
  unfold isNum at h
  simp only [Bool.and_eq_true, Bool.or_eq_true, decide_eq_true_eq, Bool.not_eq_true'] at h
  obtain ⟨⟨⟨h1, h2⟩, h3⟩, h4⟩ := h
  have hne : l ≠ [] := by intro e; rw [e] at h1; cases h1
  rcases h3 with h3 | h3
  · have hd : ∀ c ∈ l, 48 ≤ c.toNat ∧ c.toNat ≤ 57 := by
      intro c hc
      have := List.all_eq_true.1 h4 c hc
      unfold isD at this; simpa using this
    obtain ⟨D, hD⟩ : ∃ D, D = (l.map fun c => c.toNat - 48).reverse := ⟨_, rfl⟩
    have hD10 : ∀ z ∈ D, z < 10 := by
      intro z hz
      rw [hD] at hz
      obtain ⟨c, hc, rfl⟩ := List.mem_map.1 (List.mem_reverse.1 hz)
      have := hd c hc; omega
    have hl : chars (D.reverse.map (48 + ·)) = l := by
      rw [hD, List.reverse_reverse, List.map_map]
      unfold chars
      rw [List.map_map]
      have : l.map (UInt8.ofNat ∘ ((48 + ·) ∘ fun c => c.toNat - 48)) = l.map id := by
        apply List.map_congr_left
        intro c hc
        have := hd c hc
        show UInt8.ofNat (48 + (c.toNat - 48)) = c
        rw [show 48 + (c.toNat - 48) = c.toNat by omega, UInt8.ofNat_toNat]
      rw [this, List.map_id]
    have hnum : num l = vl 10 D := by rw [← num_chars D hD10, hl]
    have hDne : D ≠ [] := by intro e; rw [e] at hD; have := congrArg List.length hD; simp at this; exact hne (List.eq_nil_of_length_eq_zero this.symm)
    have htop : Top D := by
      intro z hz hz0
      subst hz0
      rw [hD, List.getLast?_reverse, List.head?_map] at hz
      cases l with
      | nil => exact hne rfl
      | cons c t =>
        apply h3
        have e0 : c.toNat - 48 = 0 := Option.some.inj hz
        have := hd c (by simp)
        rw [List.head?_cons]
        congr 1
        apply UInt8.toNat_inj.1
        show c.toNat = 48
        omega
    have h0 : vl 10 D ≠ 0 := vl_top_ne 10 (by decide) D htop hDne
    rw [hnum, dec, if_neg h0, dg_vl 10 (by decide) D hD10 htop, hl]
  · subst h3; rfl

/-- What is asked of bytes. -/
theorem text_cases (v : List UInt8) (S : ByteArray) (n : Nat) (hS : S = ByteArray.mk v.toArray) (hn : n = v.length) :
    ((¬ (n : Int) ≤ 160) ∧ 160 < v.length) ∨ ((n : Int) ≤ 160 ∧ (S.toList == []) = true ∧ v.length ≤ 160 ∧ v.head? ≠ some 0) ∨
    ((n : Int) ≤ 160 ∧ (S.toList == []) = false ∧ 0 < n ∧ ∃ (h0 : 0 < S.size) (v0 : UInt8), S[0]'h0 = v0 ∧ ((v0.toNat : Int) == 0) = true ∧ (v0.toNat : Int) = 0 ∧ v.head? = some 0) ∨
    ((n : Int) ≤ 160 ∧ (S.toList == []) = false ∧ 0 < n ∧ v.length ≤ 160 ∧ v.head? ≠ some 0 ∧ ∃ (h0 : 0 < S.size) (v0 : UInt8), S[0]'h0 = v0 ∧ ((v0.toNat : Int) == 0) = false ∧ ¬ (v0.toNat : Int) = 0) := by
  by_cases h160 : n ≤ 160
  · have b1 : (n : Int) ≤ 160 := by omega
    right
    cases v with
    | nil => left; exact ⟨b1, by rw [hS, ByteArray.toList_mk]; rfl, by simp, fun h => by cases h⟩
    | cons a t =>
      right
      have e0 : (S.toList == []) = false := by rw [hS, ByteArray.toList_mk]; rfl
      have n0 : 0 < n := by rw [hn]; simp
      have h0 : 0 < S.size := by rw [hS]; show 0 < (a :: t).length; simp
      have hv0 : S[0]'h0 = a := by subst hS; rfl
      by_cases hz : a = 0
      · left; exact ⟨b1, e0, n0, h0, a, hv0, by rw [hz]; rfl, by rw [hz]; rfl, by rw [hz]; rfl⟩
      · right
        have hz2 : ¬ (a.toNat : Int) = 0 := fun e => hz (UInt8.toNat_inj.1 (by show a.toNat = 0; omega))
        exact ⟨b1, e0, n0, by omega, fun h => hz (Option.some.inj h), h0, a, hv0, by rw [beq_eq_false_iff_ne]; exact hz2, hz2⟩
  · left; exact ⟨by omega, by omega⟩
theorem lb_bval (v : List UInt8) (h : v.length ≤ 160) : (lb (bval v)).length ≤ 100000 := by
  have := vl_lt 256 (v.map UInt8.toNat).reverse (bval_lt v)
  rw [List.length_reverse, List.length_map] at this
  have h2 : bval v < 4294967296 ^ v.length := Nat.lt_of_lt_of_le this (Nat.pow_le_pow_left (by decide) _)
  have := dg_len_le 4294967296 (by decide) (bval v) _ h2
  show (dg 4294967296 (bval v)).length ≤ _; omega

set_option maxRecDepth 20000 in
set_option maxHeartbeats 8000000 in
theorem natTexts_any (s t : ByteArray) (w : World) (hs : s.size ≤ maxLen) (ht : t.size ≤ maxLen) :
    Calls Tryd.prog 6 #[.string s, .string t] w fun r w' => r = .returned (.bool true) ∧ Below w.heap.size w w' := by
  obtain ⟨l, rfl⟩ : ∃ l : List UInt8, s = ⟨l.toArray⟩ := ⟨s.data.toList, by simp⟩
  obtain ⟨m, rfl⟩ : ∃ l : List UInt8, t = ⟨l.toArray⟩ := ⟨t.data.toList, by simp⟩
  have hl : l.length ≤ maxLen := hs
  have hm : m.length ≤ maxLen := ht
  clear hs ht
  go_enter Tryd.func6, Tryd.ntmps6
  go_wp2_with fail
  refine (awake_any w).mono ?_
  rintro r w1 ⟨rfl, hb1⟩
  have hB := hb1
  clear hb1
  go_wp2_with fail
  refine (cut_any l 402 w1 hl (by decide)).mono ?_
  rintro r w2 ⟨rfl, rfl⟩
  have hu : (l.take 402).length ≤ 402 := by rw [List.length_take]; exact Nat.min_le_left _ _
  go_wp2_with fail
  generalize l.take 402 = u at hu ⊢
  refine (parse_any u w1 (by omega)).mono ?_
  rintro r w2 ⟨q, c, x, rfl, hx, nx, hb, -⟩
  replace hB := hB.trans (hb.mono hB.size)
  have kx := Boxed.new w2 25 (.slice q (lb x).length c)
  replace hB := hB.alloc hB.size (.cells #[.slice q (lb x).length c] 25)
  replace nx := nx.alloc (.cells #[.slice q (lb x).length c] 25)
  clear hb
  go_upto_region 5 with fail
  generalize (w2.alloc (.cells #[.slice q (lb x).length c] 25)) = w3 at *
  generalize w2.heap.size = ga at *
  go_wp2_with fail
  refine (rparse_any u w3 (by omega)).mono ?_
  rintro r W ⟨q', c', x', rfl, hx', ex, hb, -⟩
  obtain rfl : x = x' := by rw [hx'.out, hx.out]
  replace hB := hB.trans (hb.mono hB.size)
  replace kx := Boxed.below' kx hb kx.lt
  replace nx := nx.old hb
  clear hb hx'
  go_upto_region 6 with fail
  go_cut [0, 6, 7, 8, 14, 15, 16, 17, 18, 19, 20, 21, 22, 23, 24, 52] (fun s0 s6 s7 s8 s14 s15 s16 s17 s18 s19 s20 s21 s22 s23 s24 s52 wx => s52 = .bool false ∧ Below w.heap.size w wx)
  case first =>
    rcases Bool.eq_false_or_eq_true (isNum u) with hok | hok
    · have hxu : x = num u := by rw [hx.out, hok, if_pos rfl]
      have hux : dec x = u := by rw [hxu]; exact dec_num u hok
      have hx4 : x < 10 ^ u.length := by
        rw [hxu]; apply num_lt
        unfold isNum at hok
        simp only [Bool.and_eq_true] at hok
        exact hok.2
      have bx : (lb x).length ≤ 402 := Nat.le_trans (lb_pow hx4) hu
      have h10 : (dg 10 x).length ≤ 100000 := Nat.le_trans (dg_len_le 10 (by decide) x _ hx4) (by omega)
      rw [hok]
      clear hx hok hxu hx4
      subst hux
    -- region 6, True
      refine wp_region_puts (fun t v w' => Val (match t with
        | 25 => .eq (Value.bool true)
        | 26 => .eq (Value.bool true)
        | 27 => .eq (Value.bool false)
        | 28 => .eq (Value.bool false)
        | 29 => .eq (Value.bool true)
        | 30 => .eq (Value.bool true)
        | 31 => .nat (x)
        | 32 => .eq (.string ⟨(dec x).toArray⟩)
        | 33 => .eq (.string ⟨(dec x).toArray⟩)
        | 34 => .eq (Value.bool false)
        | 35 => .eq (Value.bool false)
        | 36 => .eq (Value.bool false)
        | 37 => .eq (Value.bool false)
        | 38 => .eq (Value.bool true)
        | 39 => .eq (Value.bool false)
        | 40 => .eq (Value.bool false)
        | 41 => .eq (undef)
        | 42 => .eq (undef)
        | 43 => .eq (undef)
        | 44 => .eq (Value.bool false)
        | 45 => .eq (Value.bool false)
        | 46 => .eq (Value.bool false)
        | 47 => .eq (.slice q' (dg 10 x).length c')
        | 48 => .eq (.string ⟨(dec x).toArray⟩)
        | 49 => .nat (x)
        | 50 => .eq (.string ⟨(dec x).toArray⟩)
        | 51 => .eq (Value.bool false)
        | 52 => .eq (Value.bool false)
        | _ => .any) v w') (fun w' => Below W.heap.size W w') 89 (by kernel_rfl) (by decide +kernel) rfl (Below.refl _ _).drew (by
      refine OweAll.cons (owes_val rfl rfl fun a w1 ha hG hV => ?_) ?_
      · skip
        have h6 := ha.outer 6 (by decide +kernel)
        simp only [Act.eval] at h6
        exact ⟨Value.bool true, wanted_free rfl, by simp [execOp, go_sem, h6], rfl⟩
      refine OweAll.cons (owes_val rfl rfl fun a w1 ha hG hV => ?_) ?_
      · skip
        have h8 := ha.outer 8 (by decide +kernel)
        simp only [Act.eval] at h8
        exact ⟨Value.bool true, wanted_free rfl, by simp [execOp, go_sem, h8], rfl⟩
      refine OweAll.cons (owes_val rfl rfl fun a w1 ha hG hV => ?_) ?_
      · skip
        have h25 : a.tmps.getD 25 undef = Value.bool true := hV.get 25 (by decide +kernel)
        have h26 : a.tmps.getD 26 undef = Value.bool true := hV.get 26 (by decide +kernel)
        exact ⟨Value.bool false, wanted_free rfl, by simp [execOp, go_sem, h25, h26], rfl⟩
      refine OweAll.cons (owes_val rfl rfl fun a w1 ha hG hV => ?_) ?_
      · skip
        have h27 : a.tmps.getD 27 undef = Value.bool false := hV.get 27 (by decide +kernel)
        exact ⟨Value.bool false, wanted_free rfl, by simp [execOp, go_sem, h27], rfl⟩
      refine OweAll.cons (owes_val rfl rfl fun a w1 ha hG hV => ?_) ?_
      · skip
        have h6 := ha.outer 6 (by decide +kernel)
        simp only [Act.eval] at h6
        exact ⟨Value.bool true, (wanted_of (t := 28) rfl rfl (hV.get 28 (by decide +kernel))), by simp [execOp, go_sem, h6], rfl⟩
      refine OweAll.cons (owes_val rfl rfl fun a w1 ha hG hV => ?_) ?_
      · skip
        have h29 : a.tmps.getD 29 undef = Value.bool true := hV.get 29 (by decide +kernel)
        exact ⟨Value.bool true, (wanted_of (t := 28) rfl rfl (hV.get 28 (by decide +kernel))), by simp [execOp, go_sem, h29], rfl⟩
      refine OweAll.cons (owes_val rfl rfl fun a w1 ha hG hV => ?_) ?_
      · skip
        have h5 := ha.outer 5 (by decide +kernel)
        simp only [Act.eval] at h5
        have c5 := (Boxed.below' kx hG kx.lt).cell
        exact ⟨.agg #[.slice q (lb x).length c], (wanted_of (t := 30) rfl rfl (hV.get 30 (by decide +kernel))), by simp [execOp, go_sem, h5, c5], ⟨_, _, rfl, nx.old hG⟩⟩
      refine OweAll.cons (owes_call rfl rfl 21 fun a w1 ha hG hV => ?_) ?_
      · skip
        obtain ⟨q31, c31, h31, n31⟩ : NV (x) (a.tmps.getD 31 undef) w1 := hV.get 31 (by decide +kernel)
        refine ⟨#[.agg #[.slice q31 (lb (x)).length c31]], (wanted_of (t := 30) rfl rfl (hV.get 30 (by decide +kernel))), by simp [execOp, resolve, invoke, go_sem, h31], ?_⟩
        refine (text_any q31 c31 x w1 n31 (by omega)).mono ?_
        rintro r w2 ⟨rfl, hb⟩; exact ⟨_, rfl, rfl, hG.trans (hb.mono hG.size), fun _ _ h => Val.old h hb⟩
      refine OweAll.cons (owes_val rfl rfl fun a w1 ha hG hV => ?_) ?_
      · skip
        have h0 := ha.outer 0 (by decide +kernel)
        simp only [Act.eval] at h0
        exact ⟨.string ⟨(dec x).toArray⟩, (wanted_of (t := 30) rfl rfl (hV.get 30 (by decide +kernel))), by simp [execOp, go_sem, h0], rfl⟩
      refine OweAll.cons (owes_val rfl rfl fun a w1 ha hG hV => ?_) ?_
      · skip
        have h32 : a.tmps.getD 32 undef = .string ⟨(dec x).toArray⟩ := hV.get 32 (by decide +kernel)
        have h33 : a.tmps.getD 33 undef = .string ⟨(dec x).toArray⟩ := hV.get 33 (by decide +kernel)
        exact ⟨Value.bool false, (wanted_of (t := 30) rfl rfl (hV.get 30 (by decide +kernel))), by simp [execOp, go_sem, h32, h33], rfl⟩
      refine OweAll.cons (owes_val rfl rfl fun a w1 ha hG hV => ?_) ?_
      · skip
        have h30 : a.tmps.getD 30 undef = Value.bool true := hV.get 30 (by decide +kernel)
        have h34 : a.tmps.getD 34 undef = Value.bool false := hV.get 34 (by decide +kernel)
        exact ⟨Value.bool false, (wanted_of (t := 28) rfl rfl (hV.get 28 (by decide +kernel))), by simp [execOp, go_sem, h30, h34], rfl⟩
      refine OweAll.cons (owes_val rfl rfl fun a w1 ha hG hV => ?_) ?_
      · skip
        have h28 : a.tmps.getD 28 undef = Value.bool false := hV.get 28 (by decide +kernel)
        have h35 : a.tmps.getD 35 undef = Value.bool false := hV.get 35 (by decide +kernel)
        exact ⟨Value.bool false, wanted_free rfl, by simp [execOp, go_sem, h28, h35], rfl⟩
      refine OweAll.cons (owes_val rfl rfl fun a w1 ha hG hV => ?_) ?_
      · skip
        have h36 : a.tmps.getD 36 undef = Value.bool false := hV.get 36 (by decide +kernel)
        exact ⟨Value.bool false, wanted_free rfl, by simp [execOp, go_sem, h36], rfl⟩
      refine OweAll.cons (owes_val rfl rfl fun a w1 ha hG hV => ?_) ?_
      · skip
        have h6 := ha.outer 6 (by decide +kernel)
        simp only [Act.eval] at h6
        exact ⟨Value.bool true, (wanted_of (t := 37) rfl rfl (hV.get 37 (by decide +kernel))), by simp [execOp, go_sem, h6], rfl⟩
      refine OweAll.cons (owes_val rfl rfl fun a w1 ha hG hV => ?_) ?_
      · skip
        have h38 : a.tmps.getD 38 undef = Value.bool true := hV.get 38 (by decide +kernel)
        exact ⟨Value.bool false, (wanted_of (t := 37) rfl rfl (hV.get 37 (by decide +kernel))), by simp [execOp, go_sem, h38], rfl⟩
      refine OweAll.cons (owes_val rfl rfl fun a w1 ha hG hV => ?_) ?_
      · skip
        have h39 : a.tmps.getD 39 undef = Value.bool false := hV.get 39 (by decide +kernel)
        exact ⟨Value.bool false, (wanted_of (t := 37) rfl rfl (hV.get 37 (by decide +kernel))), by simp [execOp, go_sem, h39], rfl⟩
      refine OweAll.cons (owes_skip rfl rfl fun a w1 ha hG hV => ⟨wanted_not (t := 40) rfl rfl (hV.get 40 (by decide +kernel)) (by simp [undef]), rfl⟩) ?_
      refine OweAll.cons (owes_skip rfl rfl fun a w1 ha hG hV => ⟨wanted_not (t := 40) rfl rfl (hV.get 40 (by decide +kernel)) (by simp [undef]), rfl⟩) ?_
      refine OweAll.cons (owes_skip rfl rfl fun a w1 ha hG hV => ⟨wanted_not (t := 40) rfl rfl (hV.get 40 (by decide +kernel)) (by simp [undef]), rfl⟩) ?_
      refine OweAll.cons (owes_val rfl rfl fun a w1 ha hG hV => ?_) ?_
      · skip
        have h40 : a.tmps.getD 40 undef = Value.bool false := hV.get 40 (by decide +kernel)
        exact ⟨Value.bool false, (wanted_of (t := 37) rfl rfl (hV.get 37 (by decide +kernel))), by simp [execOp, go_sem, h40], rfl⟩
      refine OweAll.cons (owes_val rfl rfl fun a w1 ha hG hV => ?_) ?_
      · skip
        have h37 : a.tmps.getD 37 undef = Value.bool false := hV.get 37 (by decide +kernel)
        have h44 : a.tmps.getD 44 undef = Value.bool false := hV.get 44 (by decide +kernel)
        exact ⟨Value.bool false, wanted_free rfl, by simp [execOp, go_sem, h37, h44], rfl⟩
      refine OweAll.cons (owes_val rfl rfl fun a w1 ha hG hV => ?_) ?_
      · skip
        have h45 : a.tmps.getD 45 undef = Value.bool false := hV.get 45 (by decide +kernel)
        exact ⟨Value.bool false, wanted_free rfl, by simp [execOp, go_sem, h45], rfl⟩
      refine OweAll.cons (owes_val rfl rfl fun a w1 ha hG hV => ?_) ?_
      · skip
        have h7 := ha.outer 7 (by decide +kernel)
        simp only [Act.eval] at h7
        exact ⟨.slice q' (dg 10 x).length c', (wanted_of (t := 46) rfl rfl (hV.get 46 (by decide +kernel))), by simp [execOp, go_sem, h7], rfl⟩
      refine OweAll.cons (owes_call rfl rfl 22 fun a w1 ha hG hV => ?_) ?_
      · skip
        have h47 : a.tmps.getD 47 undef = .slice q' (dg 10 x).length c' := hV.get 47 (by decide +kernel)
        refine ⟨#[.slice q' (dg 10 x).length c'], (wanted_of (t := 46) rfl rfl (hV.get 46 (by decide +kernel))), by simp [execOp, resolve, invoke, go_sem, h47], ?_⟩
        refine (rtext_any q' c' x w1 (ex.old hG) h10).mono ?_
        rintro r w2 ⟨rfl, hb⟩; exact ⟨_, rfl, rfl, hG.trans (hb.mono hG.size), fun _ _ h => Val.old h hb⟩
      refine OweAll.cons (owes_val rfl rfl fun a w1 ha hG hV => ?_) ?_
      · skip
        have h5 := ha.outer 5 (by decide +kernel)
        simp only [Act.eval] at h5
        have c5 := (Boxed.below' kx hG kx.lt).cell
        exact ⟨.agg #[.slice q (lb x).length c], (wanted_of (t := 46) rfl rfl (hV.get 46 (by decide +kernel))), by simp [execOp, go_sem, h5, c5], ⟨_, _, rfl, nx.old hG⟩⟩
      refine OweAll.cons (owes_call rfl rfl 21 fun a w1 ha hG hV => ?_) ?_
      · skip
        obtain ⟨q49, c49, h49, n49⟩ : NV (x) (a.tmps.getD 49 undef) w1 := hV.get 49 (by decide +kernel)
        refine ⟨#[.agg #[.slice q49 (lb (x)).length c49]], (wanted_of (t := 46) rfl rfl (hV.get 46 (by decide +kernel))), by simp [execOp, resolve, invoke, go_sem, h49], ?_⟩
        refine (text_any q49 c49 x w1 n49 (by omega)).mono ?_
        rintro r w2 ⟨rfl, hb⟩; exact ⟨_, rfl, rfl, hG.trans (hb.mono hG.size), fun _ _ h => Val.old h hb⟩
      refine OweAll.cons (owes_val rfl rfl fun a w1 ha hG hV => ?_) ?_
      · skip
        have h48 : a.tmps.getD 48 undef = .string ⟨(dec x).toArray⟩ := hV.get 48 (by decide +kernel)
        have h50 : a.tmps.getD 50 undef = .string ⟨(dec x).toArray⟩ := hV.get 50 (by decide +kernel)
        exact ⟨Value.bool false, (wanted_of (t := 46) rfl rfl (hV.get 46 (by decide +kernel))), by simp [execOp, go_sem, h48, h50], rfl⟩
      refine OweAll.cons (owes_val rfl rfl fun a w1 ha hG hV => ?_) ?_
      · skip
        have h46 : a.tmps.getD 46 undef = Value.bool false := hV.get 46 (by decide +kernel)
        have h51 : a.tmps.getD 51 undef = Value.bool false := hV.get 51 (by decide +kernel)
        exact ⟨Value.bool false, wanted_free rfl, by simp [execOp, go_sem, h46, h51], rfl⟩
      exact OweAll.nil
      ) ?_
      intro f w1 hG hv
      have h52 : f 52 = .bool false := hv 27 _ 52 rfl rfl
      have hB2 := hB.trans (hG.mono hB.size)
      clear hv
      simp only [dsts, puts, List.filterMap_cons, List.filterMap_nil, List.foldl_cons, List.foldl_nil, Act.put, List.setIfInBounds_toArray, List.set_cons_succ, List.set_cons_zero, h52]
      go_wp2_with fail
      go_meet
      exact ⟨rfl, hB2⟩
    -- end of region 6, True
    · obtain rfl : x = 0 := by rw [hx.out, hok]; rfl
      have bx : (lb 0).length = 0 := by rw [lb_zero]; rfl
      have h10 : (dg 10 0).length ≤ 100000 := by rw [dg_zero]; exact Nat.zero_le _
      rw [hok]
      clear hx hok
    -- region 6, False
      refine wp_region_puts (fun t v w' => Val (match t with
        | 25 => .eq (Value.bool false)
        | 26 => .eq (Value.bool false)
        | 27 => .eq (Value.bool false)
        | 28 => .eq (Value.bool false)
        | 29 => .eq (Value.bool false)
        | 30 => .eq (Value.bool false)
        | 31 => .eq (undef)
        | 32 => .eq (undef)
        | 33 => .eq (undef)
        | 34 => .eq (undef)
        | 35 => .eq (Value.bool false)
        | 36 => .eq (Value.bool false)
        | 37 => .eq (Value.bool false)
        | 38 => .eq (Value.bool false)
        | 39 => .eq (Value.bool true)
        | 40 => .eq (Value.bool true)
        | 41 => .nat (0)
        | 42 => .eq (Value.bool true)
        | 43 => .eq (Value.bool false)
        | 44 => .eq (Value.bool false)
        | 45 => .eq (Value.bool false)
        | 46 => .eq (Value.bool false)
        | 47 => .eq (.slice q' (dg 10 0).length c')
        | 48 => .eq (.string ⟨(dec 0).toArray⟩)
        | 49 => .nat (0)
        | 50 => .eq (.string ⟨(dec 0).toArray⟩)
        | 51 => .eq (Value.bool false)
        | 52 => .eq (Value.bool false)
        | _ => .any) v w') (fun w' => Below W.heap.size W w') 89 (by kernel_rfl) (by decide +kernel) rfl (Below.refl _ _).drew (by
      refine OweAll.cons (owes_val rfl rfl fun a w1 ha hG hV => ?_) ?_
      · skip
        have h6 := ha.outer 6 (by decide +kernel)
        simp only [Act.eval] at h6
        exact ⟨Value.bool false, wanted_free rfl, by simp [execOp, go_sem, h6], rfl⟩
      refine OweAll.cons (owes_val rfl rfl fun a w1 ha hG hV => ?_) ?_
      · skip
        have h8 := ha.outer 8 (by decide +kernel)
        simp only [Act.eval] at h8
        exact ⟨Value.bool false, wanted_free rfl, by simp [execOp, go_sem, h8], rfl⟩
      refine OweAll.cons (owes_val rfl rfl fun a w1 ha hG hV => ?_) ?_
      · skip
        have h25 : a.tmps.getD 25 undef = Value.bool false := hV.get 25 (by decide +kernel)
        have h26 : a.tmps.getD 26 undef = Value.bool false := hV.get 26 (by decide +kernel)
        exact ⟨Value.bool false, wanted_free rfl, by simp [execOp, go_sem, h25, h26], rfl⟩
      refine OweAll.cons (owes_val rfl rfl fun a w1 ha hG hV => ?_) ?_
      · skip
        have h27 : a.tmps.getD 27 undef = Value.bool false := hV.get 27 (by decide +kernel)
        exact ⟨Value.bool false, wanted_free rfl, by simp [execOp, go_sem, h27], rfl⟩
      refine OweAll.cons (owes_val rfl rfl fun a w1 ha hG hV => ?_) ?_
      · skip
        have h6 := ha.outer 6 (by decide +kernel)
        simp only [Act.eval] at h6
        exact ⟨Value.bool false, (wanted_of (t := 28) rfl rfl (hV.get 28 (by decide +kernel))), by simp [execOp, go_sem, h6], rfl⟩
      refine OweAll.cons (owes_val rfl rfl fun a w1 ha hG hV => ?_) ?_
      · skip
        have h29 : a.tmps.getD 29 undef = Value.bool false := hV.get 29 (by decide +kernel)
        exact ⟨Value.bool false, (wanted_of (t := 28) rfl rfl (hV.get 28 (by decide +kernel))), by simp [execOp, go_sem, h29], rfl⟩
      refine OweAll.cons (owes_skip rfl rfl fun a w1 ha hG hV => ⟨wanted_not (t := 30) rfl rfl (hV.get 30 (by decide +kernel)) (by simp [undef]), rfl⟩) ?_
      refine OweAll.cons (owes_skip rfl rfl fun a w1 ha hG hV => ⟨wanted_not (t := 30) rfl rfl (hV.get 30 (by decide +kernel)) (by simp [undef]), rfl⟩) ?_
      refine OweAll.cons (owes_skip rfl rfl fun a w1 ha hG hV => ⟨wanted_not (t := 30) rfl rfl (hV.get 30 (by decide +kernel)) (by simp [undef]), rfl⟩) ?_
      refine OweAll.cons (owes_skip rfl rfl fun a w1 ha hG hV => ⟨wanted_not (t := 30) rfl rfl (hV.get 30 (by decide +kernel)) (by simp [undef]), rfl⟩) ?_
      refine OweAll.cons (owes_val rfl rfl fun a w1 ha hG hV => ?_) ?_
      · skip
        have h30 : a.tmps.getD 30 undef = Value.bool false := hV.get 30 (by decide +kernel)
        exact ⟨Value.bool false, (wanted_of (t := 28) rfl rfl (hV.get 28 (by decide +kernel))), by simp [execOp, go_sem, h30], rfl⟩
      refine OweAll.cons (owes_val rfl rfl fun a w1 ha hG hV => ?_) ?_
      · skip
        have h28 : a.tmps.getD 28 undef = Value.bool false := hV.get 28 (by decide +kernel)
        have h35 : a.tmps.getD 35 undef = Value.bool false := hV.get 35 (by decide +kernel)
        exact ⟨Value.bool false, wanted_free rfl, by simp [execOp, go_sem, h28, h35], rfl⟩
      refine OweAll.cons (owes_val rfl rfl fun a w1 ha hG hV => ?_) ?_
      · skip
        have h36 : a.tmps.getD 36 undef = Value.bool false := hV.get 36 (by decide +kernel)
        exact ⟨Value.bool false, wanted_free rfl, by simp [execOp, go_sem, h36], rfl⟩
      refine OweAll.cons (owes_val rfl rfl fun a w1 ha hG hV => ?_) ?_
      · skip
        have h6 := ha.outer 6 (by decide +kernel)
        simp only [Act.eval] at h6
        exact ⟨Value.bool false, (wanted_of (t := 37) rfl rfl (hV.get 37 (by decide +kernel))), by simp [execOp, go_sem, h6], rfl⟩
      refine OweAll.cons (owes_val rfl rfl fun a w1 ha hG hV => ?_) ?_
      · skip
        have h38 : a.tmps.getD 38 undef = Value.bool false := hV.get 38 (by decide +kernel)
        exact ⟨Value.bool true, (wanted_of (t := 37) rfl rfl (hV.get 37 (by decide +kernel))), by simp [execOp, go_sem, h38], rfl⟩
      refine OweAll.cons (owes_val rfl rfl fun a w1 ha hG hV => ?_) ?_
      · skip
        have h39 : a.tmps.getD 39 undef = Value.bool true := hV.get 39 (by decide +kernel)
        exact ⟨Value.bool true, (wanted_of (t := 37) rfl rfl (hV.get 37 (by decide +kernel))), by simp [execOp, go_sem, h39], rfl⟩
      refine OweAll.cons (owes_val rfl rfl fun a w1 ha hG hV => ?_) ?_
      · skip
        have h5 := ha.outer 5 (by decide +kernel)
        simp only [Act.eval] at h5
        have c5 := (Boxed.below' kx hG kx.lt).cell
        exact ⟨.agg #[.slice q (lb 0).length c], (wanted_of (t := 40) rfl rfl (hV.get 40 (by decide +kernel))), by simp [execOp, go_sem, h5, c5], ⟨_, _, rfl, nx.old hG⟩⟩
      refine OweAll.cons (owes_call rfl rfl 28 fun a w1 ha hG hV => ?_) ?_
      · skip
        obtain ⟨q41, c41, h41, n41⟩ : NV (0) (a.tmps.getD 41 undef) w1 := hV.get 41 (by decide +kernel)
        refine ⟨#[.agg #[.slice q41 (lb (0)).length c41]], (wanted_of (t := 40) rfl rfl (hV.get 40 (by decide +kernel))), by simp [execOp, resolve, invoke, go_sem, h41], ?_⟩
        refine (zero_any q41 c41 0 w1).mono ?_
        rintro r w2 ⟨rfl, hb⟩; exact ⟨_, rfl, rfl, hG.trans (hb.mono hG.size), fun _ _ h => Val.old h hb⟩
      refine OweAll.cons (owes_val rfl rfl fun a w1 ha hG hV => ?_) ?_
      · skip
        have h42 : a.tmps.getD 42 undef = Value.bool true := hV.get 42 (by decide +kernel)
        exact ⟨Value.bool false, (wanted_of (t := 40) rfl rfl (hV.get 40 (by decide +kernel))), by simp [execOp, go_sem, h42], rfl⟩
      refine OweAll.cons (owes_val rfl rfl fun a w1 ha hG hV => ?_) ?_
      · skip
        have h40 : a.tmps.getD 40 undef = Value.bool true := hV.get 40 (by decide +kernel)
        have h43 : a.tmps.getD 43 undef = Value.bool false := hV.get 43 (by decide +kernel)
        exact ⟨Value.bool false, (wanted_of (t := 37) rfl rfl (hV.get 37 (by decide +kernel))), by simp [execOp, go_sem, h40, h43], rfl⟩
      refine OweAll.cons (owes_val rfl rfl fun a w1 ha hG hV => ?_) ?_
      · skip
        have h37 : a.tmps.getD 37 undef = Value.bool false := hV.get 37 (by decide +kernel)
        have h44 : a.tmps.getD 44 undef = Value.bool false := hV.get 44 (by decide +kernel)
        exact ⟨Value.bool false, wanted_free rfl, by simp [execOp, go_sem, h37, h44], rfl⟩
      refine OweAll.cons (owes_val rfl rfl fun a w1 ha hG hV => ?_) ?_
      · skip
        have h45 : a.tmps.getD 45 undef = Value.bool false := hV.get 45 (by decide +kernel)
        exact ⟨Value.bool false, wanted_free rfl, by simp [execOp, go_sem, h45], rfl⟩
      refine OweAll.cons (owes_val rfl rfl fun a w1 ha hG hV => ?_) ?_
      · skip
        have h7 := ha.outer 7 (by decide +kernel)
        simp only [Act.eval] at h7
        exact ⟨.slice q' (dg 10 0).length c', (wanted_of (t := 46) rfl rfl (hV.get 46 (by decide +kernel))), by simp [execOp, go_sem, h7], rfl⟩
      refine OweAll.cons (owes_call rfl rfl 22 fun a w1 ha hG hV => ?_) ?_
      · skip
        have h47 : a.tmps.getD 47 undef = .slice q' (dg 10 0).length c' := hV.get 47 (by decide +kernel)
        refine ⟨#[.slice q' (dg 10 0).length c'], (wanted_of (t := 46) rfl rfl (hV.get 46 (by decide +kernel))), by simp [execOp, resolve, invoke, go_sem, h47], ?_⟩
        refine (rtext_any q' c' 0 w1 (ex.old hG) h10).mono ?_
        rintro r w2 ⟨rfl, hb⟩; exact ⟨_, rfl, rfl, hG.trans (hb.mono hG.size), fun _ _ h => Val.old h hb⟩
      refine OweAll.cons (owes_val rfl rfl fun a w1 ha hG hV => ?_) ?_
      · skip
        have h5 := ha.outer 5 (by decide +kernel)
        simp only [Act.eval] at h5
        have c5 := (Boxed.below' kx hG kx.lt).cell
        exact ⟨.agg #[.slice q (lb 0).length c], (wanted_of (t := 46) rfl rfl (hV.get 46 (by decide +kernel))), by simp [execOp, go_sem, h5, c5], ⟨_, _, rfl, nx.old hG⟩⟩
      refine OweAll.cons (owes_call rfl rfl 21 fun a w1 ha hG hV => ?_) ?_
      · skip
        obtain ⟨q49, c49, h49, n49⟩ : NV (0) (a.tmps.getD 49 undef) w1 := hV.get 49 (by decide +kernel)
        refine ⟨#[.agg #[.slice q49 (lb (0)).length c49]], (wanted_of (t := 46) rfl rfl (hV.get 46 (by decide +kernel))), by simp [execOp, resolve, invoke, go_sem, h49], ?_⟩
        refine (text_any q49 c49 0 w1 n49 (by omega)).mono ?_
        rintro r w2 ⟨rfl, hb⟩; exact ⟨_, rfl, rfl, hG.trans (hb.mono hG.size), fun _ _ h => Val.old h hb⟩
      refine OweAll.cons (owes_val rfl rfl fun a w1 ha hG hV => ?_) ?_
      · skip
        have h48 : a.tmps.getD 48 undef = .string ⟨(dec 0).toArray⟩ := hV.get 48 (by decide +kernel)
        have h50 : a.tmps.getD 50 undef = .string ⟨(dec 0).toArray⟩ := hV.get 50 (by decide +kernel)
        exact ⟨Value.bool false, (wanted_of (t := 46) rfl rfl (hV.get 46 (by decide +kernel))), by simp [execOp, go_sem, h48, h50], rfl⟩
      refine OweAll.cons (owes_val rfl rfl fun a w1 ha hG hV => ?_) ?_
      · skip
        have h46 : a.tmps.getD 46 undef = Value.bool false := hV.get 46 (by decide +kernel)
        have h51 : a.tmps.getD 51 undef = Value.bool false := hV.get 51 (by decide +kernel)
        exact ⟨Value.bool false, wanted_free rfl, by simp [execOp, go_sem, h46, h51], rfl⟩
      exact OweAll.nil
      ) ?_
      intro f w1 hG hv
      have h52 : f 52 = .bool false := hv 27 _ 52 rfl rfl
      have hB2 := hB.trans (hG.mono hB.size)
      clear hv
      simp only [dsts, puts, List.filterMap_cons, List.filterMap_nil, List.foldl_cons, List.foldl_nil, Act.put, List.setIfInBounds_toArray, List.set_cons_succ, List.set_cons_zero, h52]
      go_wp2_with fail
      go_meet
      exact ⟨rfl, hB2⟩
    -- end of region 6, False
  case rest =>
  obtain ⟨rfl, hB2⟩ := hcut
  rename World => wz
  clear kx nx ex hB hx hu hl
  go_wp2_with fail
  refine (cut_any m 162 wz hm (by decide)).mono ?_
  rintro r w2 ⟨rfl, rfl⟩
  have hv : (m.take 162).length ≤ 162 := by rw [List.length_take]; exact Nat.min_le_left _ _
  generalize m.take 162 = v at hv ⊢
  clear hm
  have hyes := fun h1 h2 => from_yes v wz h1 h2
  have hno := fun h => from_no v wz (Nat.le_trans hv (by decide)) h
  obtain ⟨S, hS⟩ : ∃ S, S = ByteArray.mk v.toArray := ⟨_, rfl⟩
  rw [← hS] at hyes hno ⊢
  obtain ⟨n, hn⟩ : ∃ n, n = v.length := ⟨_, rfl⟩
  have n1 : S.size = n := by rw [hS, hn]; rfl
  have HS := Lib.hid hS
  have hcs := text_cases v S n hS hn
  clear hS
  rcases hcs with ⟨b1, h1⟩ | ⟨b1, e0, h1, h2⟩ | ⟨b1, e0, n0, h0, v0, hv0, v1, v2, h1⟩ | ⟨b1, e0, n0, h1, h2, h0, v0, hv0, v1, v2⟩
  · have hd := hno (.inl h1)
    clear h1
    clear hyes hno hn
    go_wp2_with fail
    refine hd.mono ?_
    clear hd
    rintro r W2 ⟨rfl, hb⟩
    have hB3 := hB2.trans (hb.mono hB2.size)
    have k2 := Boxed.new W2 25 (.slice none 0 0)
    replace hB3 := hB3.alloc hB3.size (.cells #[.slice none 0 0] 25)
    have c9 := k2.cell
    clear hb hB2
    go_upto_region 12 with fail
    generalize (W2.alloc (.cells #[.slice none 0 0] 25)) = W3 at *
    generalize W2.heap.size = gb at *
    have hz0 := zero_any none 0 0 W3
    rw [show (lb 0).length = 0 by rw [lb_zero]; rfl] at hz0
    go_wp2_with fail
    refine hz0.mono ?_
    clear hz0
    rintro r W4 ⟨rfl, hb⟩
    replace hB3 := hB3.trans (hb.mono hB3.size)
    have hzz : ((0 : Nat) == 0) = true := rfl
    go_wp2_with fail
    go_ret
    exact ⟨rfl, hB3⟩
  · skip
    have hy := hyes h1 h2
    have hbv := Lib.hid (byts_bval v h2)
    have hlen := lb_bval v h1
    clear hyes hno hn h1 h2
    go_wp2_with fail
    refine hy.mono ?_
    clear hy
    rintro r W2 ⟨q2, c2, rfl, n2, hb, -⟩
    have hB3 := hB2.trans (hb.mono hB2.size)
    have k2 := Boxed.new W2 25 (.slice q2 (lb (bval v)).length c2)
    replace hB3 := hB3.alloc hB3.size (.cells #[.slice q2 (lb (bval v)).length c2] 25)
    replace n2 := n2.alloc (.cells #[.slice q2 (lb (bval v)).length c2] 25)
    have c9 := k2.cell
    clear hb hB2
    go_upto_region 12 with fail
    generalize (W2.alloc (.cells #[.slice q2 (lb (bval v)).length c2] 25)) = W3 at *
    generalize W2.heap.size = gb at *
    go_wp2_with fail
    have hby := bytes_any q2 c2 (bval v) W3 n2 hlen
    rw [hbv.out, ← HS.out] at hby
    refine hby.mono ?_
    clear hby
    rintro r W4 ⟨rfl, hb⟩
    replace hB3 := hB3.trans (hb.mono hB3.size)
    go_wp2_with fail
    go_ret
    exact ⟨rfl, hB3⟩
  · have hd := hno (.inr h1)
    clear h1
    clear hyes hno hn
    go_wp2_with fail
    refine hd.mono ?_
    clear hd
    rintro r W2 ⟨rfl, hb⟩
    have hB3 := hB2.trans (hb.mono hB2.size)
    have k2 := Boxed.new W2 25 (.slice none 0 0)
    replace hB3 := hB3.alloc hB3.size (.cells #[.slice none 0 0] 25)
    have c9 := k2.cell
    clear hb hB2
    go_upto_region 12 with fail
    generalize (W2.alloc (.cells #[.slice none 0 0] 25)) = W3 at *
    generalize W2.heap.size = gb at *
    have hz0 := zero_any none 0 0 W3
    rw [show (lb 0).length = 0 by rw [lb_zero]; rfl] at hz0
    go_wp2_with fail
    refine hz0.mono ?_
    clear hz0
    rintro r W4 ⟨rfl, hb⟩
    replace hB3 := hB3.trans (hb.mono hB3.size)
    have hzz : ((0 : Nat) == 0) = true := rfl
    go_wp2_with fail
    go_ret
    exact ⟨rfl, hB3⟩
  · have v3 : ((v0.toNat : Int) != 0) = true := by rw [bne_iff_ne]; exact v2
    have v4 : ¬ v0.toNat = 0 := by omega
    have v5 : ¬ v0 = 0 := fun e => v4 (by rw [e]; rfl)
    have hy := hyes h1 h2
    have hbv := Lib.hid (byts_bval v h2)
    have hlen := lb_bval v h1
    clear hyes hno hn h1 h2
    go_wp2_with fail
    refine hy.mono ?_
    clear hy
    rintro r W2 ⟨q2, c2, rfl, n2, hb, -⟩
    have hB3 := hB2.trans (hb.mono hB2.size)
    have k2 := Boxed.new W2 25 (.slice q2 (lb (bval v)).length c2)
    replace hB3 := hB3.alloc hB3.size (.cells #[.slice q2 (lb (bval v)).length c2] 25)
    replace n2 := n2.alloc (.cells #[.slice q2 (lb (bval v)).length c2] 25)
    have c9 := k2.cell
    clear hb hB2
    go_upto_region 12 with fail
    generalize (W2.alloc (.cells #[.slice q2 (lb (bval v)).length c2] 25)) = W3 at *
    generalize W2.heap.size = gb at *
    go_wp2_with fail
    have hby := bytes_any q2 c2 (bval v) W3 n2 hlen
    rw [hbv.out, ← HS.out] at hby
    refine hby.mono ?_
    clear hby
    rintro r W4 ⟨rfl, hb⟩
    replace hB3 := hB3.trans (hb.mono hB3.size)
    go_wp2_with fail
    go_ret
    exact ⟨rfl, hB3⟩
end Go.Proofs.YtepibfpdkjkdjaaDoor
