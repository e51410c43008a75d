/- The document's numbers: Sub. -/
import Derived.Test.YtepibfpdkjkdjaaDoorN22
namespace Go.Proofs.YtepibfpdkjkdjaaDoor
open Go.RowKit

theorem AccR.drew {w : World} {i : Nat} {D : List Nat} {q : Option Addr} {c : Nat} {wr : World} (h : AccR w i D q c wr) : AccR w i D q c wr.drew :=
  ⟨h.s.drew, h.len, h.lt, h.new, h.m.drew⟩

set_option maxHeartbeats 2000000 in
set_option maxRecDepth 20000 in
theorem rsub_any (p q : Option Addr) (cp cq x y : Nat) (w : World) (hx : DecIn w p cp x) (hy : DecIn w q cq y) (lx : (dg 10 x).length ≤ 100000) (hle : Hid (y ≤ x)) :
    Calls Tryd.prog 27 #[.slice p (dg 10 x).length cp, .slice q (dg 10 y).length cq] w (DecOut w (x - y)) := by
  obtain ⟨la, hla⟩ : ∃ n, (dg 10 x).length = n := ⟨_, rfl⟩
  obtain ⟨lb', hlb⟩ : ∃ n, (dg 10 y).length = n := ⟨_, rfl⟩
  rw [hla] at lx ⊢
  rw [hlb]
  have Hla := Lib.hid hla
  have Hlb := Lib.hid hlb
  have hxl : Hid (x < 10 ^ la) := Lib.hid (by rw [← hla]; exact dlt x)
  have hK := AccR.empty w
  clear hla hlb
  go_enter Tryd.func27, Tryd.ntmps27
  go_wp2_with fail
  generalize (w.alloc (.cells #[] 3)) = W at hK ⊢
  go_loopw [5, 6, 7] (fun s5 s6 s7 wr => ∃ (i c : Nat) (D : List Nat) (pq : Option Addr) (cq' : Nat), s5 = .slice pq i cq' ∧ s6 = .int .i64 (c : Int) ∧ s7 = .int .i64 (i : Int) ∧ i ≤ la ∧ c ≤ 1 ∧ AccR w i D pq cq' wr ∧ Hid (vl 10 D + y % 10 ^ i = x % 10 ^ i + 10 ^ i * c)) (fun _ _ i _ => la - (intOf i).toNat)
  case atStart => exact ⟨0, 0, [], _, 0, rfl, rfl, rfl, by omega, by omega, hK, Lib.hid (by simp [vl, Nat.mod_one])⟩
  case round =>
    clear hK
    obtain ⟨i, c, D, pq, cq', rfl, rfl, rfl, hi, hc1, hR, hval⟩ := hrel
    by_cases hin : i < la
    · have hil : i < (dg 10 x).length := by rw [Hla.out]; exact hin
      have hne : dg 10 x ≠ [] := by intro e; rw [e] at hil; simp at hil
      obtain ⟨g, rfl⟩ := hx.isPtr hne
      obtain ⟨dx, hdx⟩ : ∃ d, d = x / 10 ^ i % 10 := ⟨_, rfl⟩
      obtain ⟨dy, hdy⟩ : ∃ d, d = y / 10 ^ i % 10 := ⟨_, rfl⟩
      have ldx : dx < 10 := by rw [hdx]; exact Nat.mod_lt _ (by decide)
      have ldy : dy < 10 := by rw [hdy]; exact Nat.mod_lt _ (by decide)
      have hcell := ((hx.old hR.m).drew).cell i hil
      rw [dg_at 10 (by decide) x i hil, ← hdx] at hcell
      have hay : ∀ w1, w1 = wr.drew → Calls Tryd.prog 50 #[.slice q lb' cq, .int .i64 (i : Int)] w1 fun r w' => r = .returned (.int .i64 (dy : Int)) ∧ w1 = w' := by
        intro w1 e
        subst e
        have := rat_any q cq lb' i (dg 10 y) wr.drew ((hy.old hR.m).drew) Hlb.out
        rw [dg_getD 10 (by decide) y i, ← hdy] at this; exact this
      have Hay := Lib.hid hay
      have hst := sub_step 10 x y i (vl 10 D) c dx dy (by decide) hdx hdy hc1 hval.out
      obtain ⟨d, hd⟩ : ∃ d, d = (10 + dx - dy - c) % 10 := ⟨_, rfl⟩
      obtain ⟨c2, hc2⟩ : ∃ d, d = (if dx < dy + c then 1 else 0) := ⟨_, rfl⟩
      have hval2 : Hid (vl 10 (D ++ [d]) + y % 10 ^ (i + 1) = x % 10 ^ (i + 1) + 10 ^ (i + 1) * c2) := Lib.hid (by
        rw [vl_app, hR.len]
        simp only [vl, Nat.mul_zero, Nat.add_zero]
        rw [hd, hc2]; exact hst)
      have hor : ((dx : Int) - dy - c < 0 ∧ (dx : Int) - dy - c + 10 = d ∧ c2 = 1) ∨ (¬ (dx : Int) - dy - c < 0 ∧ (dx : Int) - dy - c = d ∧ c2 = 0) := by
        by_cases h : dx < dy + c
        · rw [if_pos h] at hc2; left; refine ⟨by omega, by omega, hc2⟩
        · rw [if_neg h] at hc2; right; refine ⟨by omega, by omega, hc2⟩
      have e1 : IntKind.i64.wrap ((dx : Int) - dy) = (dx : Int) - dy := by rw [IntKind.wrap_i64]; omega
      have e2 : IntKind.i64.wrap ((dx : Int) - dy - c) = (dx : Int) - dy - c := by rw [IntKind.wrap_i64]; omega
      have hd10 : d < 10 := by omega
      have i0 : (0 : Int) ≤ i := by omega
      have i1 : (i : Int) < la := by omega
      have w1 : IntKind.i64.wrap ((i : Int) + 1) = (i : Int) + 1 := by rw [IntKind.wrap_i64]; omega
      have HD := Lib.hid hR.len
      have hRd := hR.drew
      clear hst hval hdx hdy hd hc2 hay hR ldx ldy hc1
      go_upto_region 6 with fail
      refine wp_region_puts (fun t v w' => Val (match t with
          | 16 => .eq (Value.slice (some ⟨g, 0, none⟩) la cp)
          | 17 => .eq (Value.int .i64 ((i : Int)))
          | 18 => .eq (Value.pointer (some ⟨g, i, none⟩))
          | 19 => .eq (Value.int .i64 ((dx : Int)))
          | 20 => .eq (Value.slice q lb' cq)
          | 21 => .eq (Value.int .i64 ((i : Int)))
          | 22 => .eq (Value.int .i64 ((dy : Int)))
          | 23 => .eq (Value.int .i64 ((dx : Int) - (dy : Int)))
          | 24 => .eq (Value.int .i64 ((c : Int)))
          | 25 => .eq (Value.int .i64 ((dx : Int) - (dy : Int) - (c : Int)))
          | 8 => .eq (Value.int .i64 ((dx : Int) - (dy : Int) - (c : Int)))
          | _ => .any) v w') (fun w' => w' = wr.drew) 36 (by kernel_rfl) (by decide +kernel) rfl rfl (by
        refine OweAll.cons (owes_val rfl rfl fun a w1 ha hG hV => ?_) ?_
        · skip
          have h0 := ha.outer 0 (by decide +kernel)
          simp only [Act.eval] at h0
          exact ⟨Value.slice (some ⟨g, 0, none⟩) la cp, wanted_free rfl, by simp [execOp, go_sem, h0], rfl⟩
        refine OweAll.cons (owes_val rfl rfl fun a w1 ha hG hV => ?_) ?_
        · skip
          have h7 := ha.outer 7 (by decide +kernel)
          simp only [Act.eval] at h7
          exact ⟨Value.int .i64 ((i : Int)), wanted_free rfl, by simp [execOp, go_sem, h7], rfl⟩
        refine OweAll.cons (owes_val rfl rfl fun a w1 ha hG hV => ?_) ?_
        · skip
          have h16 : a.tmps.getD 16 undef = Value.slice (some ⟨g, 0, none⟩) la cp := hV.get 16 (by decide +kernel)
          have h17 : a.tmps.getD 17 undef = Value.int .i64 ((i : Int)) := hV.get 17 (by decide +kernel)
          exact ⟨Value.pointer (some ⟨g, i, none⟩), wanted_free rfl, by simp [execOp, go_sem, h16, h17, i0, i1], rfl⟩
        refine OweAll.cons (owes_val rfl rfl fun a w1 ha hG hV => ?_) ?_
        · skip
          have h18 : a.tmps.getD 18 undef = Value.pointer (some ⟨g, i, none⟩) := hV.get 18 (by decide +kernel)
          subst hG
          exact ⟨Value.int .i64 ((dx : Int)), wanted_free rfl, by simp [execOp, go_sem, h18, hcell], rfl⟩
        refine OweAll.cons (owes_val rfl rfl fun a w1 ha hG hV => ?_) ?_
        · skip
          have h1 := ha.outer 1 (by decide +kernel)
          simp only [Act.eval] at h1
          exact ⟨Value.slice q lb' cq, wanted_free rfl, by simp [execOp, go_sem, h1], rfl⟩
        refine OweAll.cons (owes_val rfl rfl fun a w1 ha hG hV => ?_) ?_
        · skip
          have h7 := ha.outer 7 (by decide +kernel)
          simp only [Act.eval] at h7
          exact ⟨Value.int .i64 ((i : Int)), wanted_free rfl, by simp [execOp, go_sem, h7], rfl⟩
        refine OweAll.cons (owes_call rfl rfl 50 fun a w1 ha hG hV => ?_) ?_
        · skip
          have h20 : a.tmps.getD 20 undef = Value.slice q lb' cq := hV.get 20 (by decide +kernel)
          have h21 : a.tmps.getD 21 undef = Value.int .i64 ((i : Int)) := hV.get 21 (by decide +kernel)
          refine ⟨#[Value.slice q lb' cq, Value.int .i64 ((i : Int))], wanted_free rfl, by simp [execOp, resolve, invoke, go_sem, h20, h21], ?_⟩
          refine (Hay.out w1 hG).mono ?_
          rintro r w2 ⟨rfl, rfl⟩; exact ⟨_, rfl, rfl, hG, fun _ _ h => h⟩
        refine OweAll.cons (owes_val rfl rfl fun a w1 ha hG hV => ?_) ?_
        · skip
          have h19 : a.tmps.getD 19 undef = Value.int .i64 ((dx : Int)) := hV.get 19 (by decide +kernel)
          have h22 : a.tmps.getD 22 undef = Value.int .i64 ((dy : Int)) := hV.get 22 (by decide +kernel)
          exact ⟨Value.int .i64 ((dx : Int) - (dy : Int)), wanted_free rfl, by simp [execOp, go_sem, h19, h22, e1], rfl⟩
        refine OweAll.cons (owes_val rfl rfl fun a w1 ha hG hV => ?_) ?_
        · skip
          have h6 := ha.outer 6 (by decide +kernel)
          simp only [Act.eval] at h6
          exact ⟨Value.int .i64 ((c : Int)), wanted_free rfl, by simp [execOp, go_sem, h6], rfl⟩
        refine OweAll.cons (owes_val rfl rfl fun a w1 ha hG hV => ?_) ?_
        · skip
          have h23 : a.tmps.getD 23 undef = Value.int .i64 ((dx : Int) - (dy : Int)) := hV.get 23 (by decide +kernel)
          have h24 : a.tmps.getD 24 undef = Value.int .i64 ((c : Int)) := hV.get 24 (by decide +kernel)
          exact ⟨Value.int .i64 ((dx : Int) - (dy : Int) - (c : Int)), wanted_free rfl, by simp [execOp, go_sem, h23, h24, e2], rfl⟩
        refine OweAll.cons (owes_val rfl rfl fun a w1 ha hG hV => ?_) ?_
        · skip
          have h25 : a.tmps.getD 25 undef = Value.int .i64 ((dx : Int) - (dy : Int) - (c : Int)) := hV.get 25 (by decide +kernel)
          exact ⟨Value.int .i64 ((dx : Int) - (dy : Int) - (c : Int)), wanted_free rfl, by simp [execOp, go_sem, h25], rfl⟩
        exact OweAll.nil
        ) ?_
      intro f w2 hG hv
      subst hG
      have h8 : f 8 = .int .i64 ((dx : Int) - dy - c) := hv 10 _ 8 rfl rfl
      rename_i hK
      refine hK _ _ ?_
      clear hK hv
      simp only [dsts, puts, List.filterMap_cons, List.filterMap_nil, List.foldl_cons, List.foldl_nil, Act.put, List.setIfInBounds_toArray, List.set_cons_succ, List.set_cons_zero, h8]
      clear h8 e1 e2
      generalize hs : (dx : Int) - dy - c = s at hor ⊢
      clear hs hcell Hay
      generalize wr.drew = wd at hRd ⊢
      have hRs := hRd.s
      have e3 : IntKind.i64.wrap (d : Int) = d := by rw [IntKind.wrap_i64]; omega
      rcases hor with ⟨b1, b2, b3⟩ | ⟨b1, b2, b3⟩
      all_goals
        have Hc2 := Lib.hid b3
        clear b3
        go_wp2_with (at_builtin; refine wpList_push rfl _ _ .i64 26 3 (.int .i64 0) 8 rfl Tryd.underlying26 info_int rfl (by decide) pq cq' i 1 D [d] HD.out rfl (by decide) rfl hRs rfl (by omega) ?_; intro pq2 cq2 W5 hP)
        have hR5 := hRd.push hd10 hP
        clear hP hRd hRs
        go_wp2_with fail
        go_roundw
        case rel => exact ⟨i + 1, c2, D ++ [d], pq2, cq2, rfl, by rw [Hc2.out]; rfl, by go_num, by omega, by have := Hc2.out; omega, hR5, hval2⟩
        case measure => simp [intOf]; omega
    · obtain rfl : i = la := by omega
      have hv : vl 10 D = x - y := by
        have h1 := hval.out
        have h2 := hxl.out
        have h3 := hle.out
        rw [Nat.mod_eq_of_lt h2, Nat.mod_eq_of_lt (Nat.lt_of_le_of_lt h3 h2)] at h1
        have h4 := vl_lt 10 D hR.lt
        rw [hR.len] at h4
        by_cases hc : c = 0
        · subst hc; rw [Nat.mul_zero] at h1; omega
        · have : c = 1 := by omega
          subst this; rw [Nat.mul_one] at h1; omega
      have htr := rtrim_any pq cq' i D wr hR.s hR.len hR.lt (by omega)
      rw [hv] at htr
      clear hv hval hin hi
      go_wp2_with fail
      refine htr.mono ?_
      clear htr
      rintro r w2 ⟨rfl, hD, rfl⟩
      have hB := hR.m
      have hnew := hR.new
      clear hR
      go_wp2_with fail
      go_ret
      exact ⟨pq, cq', rfl, hD, hB, hnew⟩
end Go.Proofs.YtepibfpdkjkdjaaDoor
