/- A header's bytes. -/
import Derived.Test.YtkejidmomnmdbaaDoorH4
import Derived.Test.YtkejidmomnmdbaaDoorO
import Derived.Test.YtkejidmomnmdbaaDoorChain
namespace Go.Proofs.YtkejidmomnmdbaaDoor
open Go.RowKit

theorem wpList_load_mid {ops : Array Oper} {rest : List Oper} {o : Oper} {a : Act} {w : World} {Q : Exit → Act → World → Prop} (hgd : o.guard = none) (x : Operand) (ho : o.op = .load 25 x) (b off : Nat) (hx : a.eval x = .pointer (some ⟨b, off, none⟩)) (s : Nm)
    (hc : ∀ i u, (encN.f s)[i]? = some u → w.cell? ⟨b, off + i, none⟩ = some u) (h : wpList Tryd.prog ops Q rest (a.put o.dst (.agg (vals s.1).toArray)) w) : wpList Tryd.prog ops Q (o :: rest) a w := by
  refine wpList_plain hgd fun K hK => ?_
  have he := exec_load_mid x ho b off hx s hc
  unfold Oper.wp
  rw [he]
  exact hK _ _ h
theorem flat_succ (L : List Nm) (k : Nat) (h : k < L.length) : ((L.take (k + 1)).map (·.1)).flatten = ((L.take k).map (·.1)).flatten ++ L[k].1 := by
  rw [List.take_succ_eq_append_getElem h, List.map_append, List.flatten_append]
  simp only [List.map_cons, List.map_nil, List.flatten_cons, List.flatten_nil, List.append_nil]
theorem flat_len (L : List Nm) : ((L.map (·.1)).flatten).length = 32 * L.length := by
  induction L with
  | nil => rfl
  | cons x l ih => rw [List.map_cons, List.flatten_cons, List.length_append, ih, x.2, List.length_cons]; omega
/-- A power as a number that has bytes. -/
def pwN (p : Nat) : Int := if 9223372036854775807 < p then 0 else p
theorem pwN_bd (p : Nat) : 0 ≤ pwN p ∧ pwN p ≤ 9223372036854775807 := by unfold pwN; split <;> omega
set_option maxRecDepth 20000 in
set_option maxHeartbeats 1000000 in
theorem hnumber_any (p : Nat) (w : World) (hp : p < 18446744073709551616) :
    Calls Tryd.prog 99 #[.int .u64 (p : Int)] w fun r w' => r = .returned (.int .i64 (pwN p)) ∧ w = w' := by
  by_cases h : 9223372036854775807 < p
  · have hfin : pwN p = 0 := by unfold pwN; rw [if_pos h]
    rw [hfin]
    have h1 : (9223372036854775807 : Int) < p := by omega
    clear hfin
    go_enter Tryd.func99, Tryd.ntmps99
    go_wp2_with fail
    go_ret
    exact ⟨rfl, rfl⟩
  · have hfin : pwN p = p := by unfold pwN; rw [if_neg h]
    rw [hfin]
    have h1 : ¬ (9223372036854775807 : Int) < p := by omega
    have h2 : (p : Int) ≤ 9223372036854775807 := by omega
    have h3 : IntKind.i64.wrap (p : Int) = (p : Int) := IntWalk.i64_in _ (by omega)
    clear hfin
    go_enter Tryd.func99, Tryd.ntmps99
    go_wp2_with fail
    go_ret
    exact ⟨rfl, rfl⟩
/-- The bytes ahead of the parents. -/
def hhead {α : Type} (h : Hd α) : List UInt8 := numL h.ht ++ numL h.mi ++ (numL h.tk.length ++ h.tk) ++ numL h.wi ++ numL (pwN h.pw)
def hbytes {α : Type} (f : α → List UInt8) (h : Hd α) : List UInt8 := hhead h ++ numL h.ps.length ++ (h.ps.map f).flatten ++ numL h.sa

set_option maxRecDepth 20000 in
set_option maxHeartbeats 8000000 in
theorem hbytes_any (h : Hd Nm) (ao : Option Addr) (cap : Nat) (w : World) (hL : Rd encN w ao h.ps) (hn : h.ps.length ≤ 1000000) (hk : h.tk.length ≤ 1000000) (hpw : h.pw < 18446744073709551616)
    (b1 : -9223372036854775808 ≤ h.ht ∧ h.ht ≤ 9223372036854775807) (b2 : -9223372036854775808 ≤ h.mi ∧ h.mi ≤ 9223372036854775807) (b3 : -9223372036854775808 ≤ h.wi ∧ h.wi ≤ 9223372036854775807) (b4 : -9223372036854775808 ≤ h.sa ∧ h.sa ≤ 9223372036854775807) :
    Calls Tryd.prog 32 #[.agg (hcells h ao cap)] w fun r w' => r = .returned (.string ⟨(hbytes (·.1) h).toArray⟩) ∧ Below w.heap.size w w' := by
  obtain ⟨ht, mi, tk, wi, pw, ps, sa⟩ := h
  simp only at hL hn hk hpw b1 b2 b3 b4
  have n1 := numL_len ht (by have := b1.2; omega)
  have n2 := numL_len mi (by have := b2.2; omega)
  have n3 := numL_len (tk.length : Int) (by omega)
  have n4 := numL_len wi (by have := b3.2; omega)
  have n6 := numL_len (ps.length : Int) (by omega)
  have n7 := numL_len sa (by have := b4.2; omega)
  have hp5 := pwN_bd pw
  have n5 := numL_len (pwN pw) (by omega)
  have hnum := Lib.hid (fun w => hnumber_any pw w hpw)
  obtain ⟨n, hnp⟩ : ∃ n, n = ps.length := ⟨_, rfl⟩
  obtain ⟨B1, hB1⟩ : ∃ B, B = numL ht := ⟨_, rfl⟩
  obtain ⟨B2, hB2⟩ : ∃ B, B = B1 ++ numL mi := ⟨_, rfl⟩
  obtain ⟨B3, hB3⟩ : ∃ B, B = B2 ++ (numL tk.length ++ tk) := ⟨_, rfl⟩
  obtain ⟨B4, hB4⟩ : ∃ B, B = B3 ++ numL wi := ⟨_, rfl⟩
  obtain ⟨B5, hB5⟩ : ∃ B, B = B4 ++ numL (pwN pw) := ⟨_, rfl⟩
  obtain ⟨B6, hB6⟩ : ∃ B, B = B5 ++ numL ps.length := ⟨_, rfl⟩
  have l1 : B1.length ≤ 9 := by rw [hB1]; exact n1
  have l2 : B2.length ≤ 18 := by rw [hB2, List.length_append]; omega
  have l3 : B3.length ≤ 1000027 := by rw [hB3, List.length_append, List.length_append]; omega
  have l4 : B4.length ≤ 1000036 := by rw [hB4, List.length_append]; omega
  have l5 : B5.length ≤ 1000045 := by rw [hB5, List.length_append]; omega
  have l6 : B6.length ≤ 1000054 := by rw [hB6, List.length_append]; omega
  obtain ⟨F, hF⟩ : ∃ F, F = B6 ++ (ps.map (·.1)).flatten ++ numL sa := ⟨_, rfl⟩
  have hfin : hbytes (·.1) (⟨ht, mi, tk, wi, pw, ps, sa⟩ : Hd Nm) = F := by rw [hF, hB6, hB5, hB4, hB3, hB2, hB1]; rfl
  rw [hfin]
  unfold hcells
  simp only
  rw [← hnp]
  obtain ⟨W0, hW0⟩ : ∃ W0, W0 = w.alloc (.cells #[.int .i64 ht, .int .i64 mi, .string ⟨tk.toArray⟩, .int .i64 wi, .int .u64 (pw : Int), .slice ao n cap, .int .i64 sa] 43) := ⟨_, rfl⟩
  have hbox : W0.heap[w.heap.size]? = some (.cells #[.int .i64 ht, .int .i64 mi, .string ⟨tk.toArray⟩, .int .i64 wi, .int .u64 (pw : Int), .slice ao n cap, .int .i64 sa] 43 (0, 0)) := by rw [hW0]; exact heap_alloc_new _ _
  have hbw : Below w.heap.size w W0 := by rw [hW0]; exact (Below.refl _ _).alloc (Nat.le_refl _) _
  obtain ⟨b, hb⟩ : ∃ b, b = W0.heap.size := ⟨_, rfl⟩
  have hgb : w.heap.size < b := by rw [hb]; exact (Array.getElem?_eq_some_iff.1 hbox).1
  have hmade := OutSt.made W0
  rw [← hb] at hmade
  -- what the box's cells are, whatever is written
  have hread : Hid (∀ (bs : List UInt8) (w1 : World), OutSt W0 b bs w1 → w1.cell? ⟨w.heap.size, 0, none⟩ = some (.int .i64 ht) ∧ w1.cell? ⟨w.heap.size, 1, none⟩ = some (.int .i64 mi) ∧ w1.cell? ⟨w.heap.size, 2, none⟩ = some (.string ⟨tk.toArray⟩) ∧ w1.cell? ⟨w.heap.size, 3, none⟩ = some (.int .i64 wi) ∧ w1.cell? ⟨w.heap.size, 4, none⟩ = some (.int .u64 (pw : Int)) ∧ w1.cell? ⟨w.heap.size, 5, none⟩ = some (.slice ao n cap) ∧ w1.cell? ⟨w.heap.size, 6, none⟩ = some (.int .i64 sa)) := Lib.hid (by
    intro bs w1 h1
    have hh := (h1.below.block _ hgb).trans hbox
    have hc := fun i => cell_of_row w1 w.heap.size i _ 43 (0, 0) hh
    exact ⟨hc 0, hc 1, hc 2, hc 3, hc 4, hc 5, hc 6⟩)
  have hrd : Hid (∀ (bs : List UInt8) (w1 : World), OutSt W0 b bs w1 → Rd encN w1 ao ps ∧ Below w.heap.size w w1) := Lib.hid (by
    intro bs w1 h1
    have h2 : Below w.heap.size w w1 := hbw.trans (h1.below.mono (Nat.le_of_lt hgb))
    exact ⟨hL.old h2, h2⟩)
  have HB1 := Lib.hid hB1
  have HB2 := Lib.hid hB2
  have HB3 := Lib.hid hB3
  have HB4 := Lib.hid hB4
  have HB5 := Lib.hid hB5
  have HB6 := Lib.hid hB6
  have HF := Lib.hid hF
  have Hnp := Lib.hid hnp
  have HW0 := Lib.hid hW0
  have Hb2 : Hid (w.heap.size + 1 = b) := Lib.hid (by rw [hb, hW0, World.size_alloc])
  clear hB1 hB2 hB3 hB4 hB5 hB6 hF hnp hfin hbox hbw hW0 hb hL n1 n2 n3 n4 n5 n6
  go_enter Tryd.func32, Tryd.ntmps32
  go_wp2_with fail
  rw [← HW0.out, Hb2.out]
  have HG0 : Hid ((fun (j : Nat) (_ : Value) (w1 : World) => OutSt W0 b (match j with | 0 => [] | 1 => B1 | 2 => B2 | 3 => B3 | 4 => B4 | _ => B5) w1) 0 undef (W0.alloc (.cells #[.slice none 0 0] 105)).drew) := Lib.hid (by
    obtain ⟨v, h1, h2, h3⟩ := hmade
    exact ⟨v, h1.kept (Mod.drew (Mod.refl (fun _ => False) _)) (fun h => h) (fun _ _ h => h), h2, h3.drew⟩)
  clear hmade
  generalize W0.alloc (.cells #[.slice none 0 0] 105) = W1 at HG0 ⊢
  generalize hgg : w.heap.size = g at hread hrd hgb ⊢
  have HGG : Hid (g = w.heap.size) := Lib.hid hgg.symm
  clear hgg
  refine wp_region_chain (fun t v => match t with
    | 6 => v = .pointer (some ⟨g, 0, none⟩)
    | 7 => v = .int .i64 ht
    | 8 => v = .pointer (some ⟨b, 0, none⟩)
    | 9 => v = .pointer (some ⟨g, 1, none⟩)
    | 10 => v = .int .i64 mi
    | 11 => v = .pointer (some ⟨b, 0, none⟩)
    | 12 => v = .pointer (some ⟨g, 2, none⟩)
    | 13 => v = .string ⟨tk.toArray⟩
    | 14 => v = .pointer (some ⟨b, 0, none⟩)
    | 15 => v = .pointer (some ⟨g, 3, none⟩)
    | 16 => v = .int .i64 wi
    | 17 => v = .pointer (some ⟨b, 0, none⟩)
    | 18 => v = .pointer (some ⟨g, 4, none⟩)
    | 19 => v = .int .u64 (pw : Int)
    | 20 => v = .int .i64 (pwN pw)
    | 21 => v = .pointer (some ⟨b, 0, none⟩)
    | _ => True) (fun (j : Nat) (_ : Value) (w1 : World) => OutSt W0 b (match j with | 0 => [] | 1 => B1 | 2 => B2 | 3 => B3 | 4 => B4 | _ => B5) w1) [2, 5, 8, 11, 15] 41 (by kernel_rfl) (by decide +kernel) rfl (by decide +kernel) (by decide) (by decide) HG0.out (by
    refine OweAllC.cons (owesC_val 0 (by decide +kernel) (by decide) rfl rfl fun k' a w1 x hk ha hG hV => ?_) ?_
    · skip
      have h1 := ha.outer 1 (by decide +kernel)
      simp only [Act.eval] at h1
      exact ⟨.pointer (some ⟨g, 0, none⟩), wanted_free rfl, by simp [execOp, go_sem, h1], rfl⟩
    refine OweAllC.cons (owesC_val 0 (by decide +kernel) (by decide) rfl rfl fun k' a w1 x hk ha hG hV => ?_) ?_
    · skip
      have h6 : a.tmps.getD 6 undef = .pointer (some ⟨g, 0, none⟩) := hV.get 6 (by decide +kernel)
      have cc := hread.out _ w1 hG
      exact ⟨.int .i64 ht, wanted_free rfl, by simp [execOp, go_sem, h6, cc.1], rfl⟩
    refine OweAllC.cons (owesC_call 0 rfl rfl rfl 98 fun a w1 x ha hG hx hV => ?_) ?_
    · skip
      have h3 := ha.outer 3 (by decide +kernel)
      simp only [Act.eval] at h3
      have h7 : a.tmps.getD 7 undef = .int .i64 ht := hV.get 7 (by decide +kernel)
      refine ⟨#[.pointer (some ⟨b, 0, none⟩), .int .i64 ht], wanted_free rfl, by simp [execOp, resolve, invoke, go_sem, h3, h7], ?_⟩
      refine (out_num W0 b [] ht w1 hG (by simp) b1.1 b1.2).mono ?_
      rintro r u2 ⟨rfl, hO⟩; exact ⟨_, rfl, rfl, by rw [List.nil_append, ← HB1.out] at hO; exact hO⟩
    refine OweAllC.cons (owesC_val 1 (by decide +kernel) (by decide) rfl rfl fun k' a w1 x hk ha hG hV => ?_) ?_
    · skip
      have h1 := ha.outer 1 (by decide +kernel)
      simp only [Act.eval] at h1
      exact ⟨.pointer (some ⟨g, 1, none⟩), wanted_free rfl, by simp [execOp, go_sem, h1], rfl⟩
    refine OweAllC.cons (owesC_val 1 (by decide +kernel) (by decide) rfl rfl fun k' a w1 x hk ha hG hV => ?_) ?_
    · skip
      have h9 : a.tmps.getD 9 undef = .pointer (some ⟨g, 1, none⟩) := hV.get 9 (by decide +kernel)
      have cc := hread.out _ w1 hG
      exact ⟨.int .i64 mi, wanted_free rfl, by simp [execOp, go_sem, h9, cc.2.1], rfl⟩
    refine OweAllC.cons (owesC_call 1 rfl rfl rfl 98 fun a w1 x ha hG hx hV => ?_) ?_
    · skip
      have h8 : a.tmps.getD 8 undef = .pointer (some ⟨b, 0, none⟩) := hV.get 8 (by decide +kernel)
      have h10 : a.tmps.getD 10 undef = .int .i64 mi := hV.get 10 (by decide +kernel)
      refine ⟨#[.pointer (some ⟨b, 0, none⟩), .int .i64 mi], wanted_free rfl, by simp [execOp, resolve, invoke, go_sem, h8, h10], ?_⟩
      refine (out_num W0 b B1 mi w1 hG (by omega) b2.1 b2.2).mono ?_
      rintro r u2 ⟨rfl, hO⟩; exact ⟨_, rfl, rfl, by rw [← HB2.out] at hO; exact hO⟩
    refine OweAllC.cons (owesC_val 2 (by decide +kernel) (by decide) rfl rfl fun k' a w1 x hk ha hG hV => ?_) ?_
    · skip
      have h1 := ha.outer 1 (by decide +kernel)
      simp only [Act.eval] at h1
      exact ⟨.pointer (some ⟨g, 2, none⟩), wanted_free rfl, by simp [execOp, go_sem, h1], rfl⟩
    refine OweAllC.cons (owesC_val 2 (by decide +kernel) (by decide) rfl rfl fun k' a w1 x hk ha hG hV => ?_) ?_
    · skip
      have h12 : a.tmps.getD 12 undef = .pointer (some ⟨g, 2, none⟩) := hV.get 12 (by decide +kernel)
      have cc := hread.out _ w1 hG
      exact ⟨.string ⟨tk.toArray⟩, wanted_free rfl, by simp [execOp, go_sem, h12, cc.2.2.1], rfl⟩
    refine OweAllC.cons (owesC_call 2 rfl rfl rfl 72 fun a w1 x ha hG hx hV => ?_) ?_
    · skip
      have h11 : a.tmps.getD 11 undef = .pointer (some ⟨b, 0, none⟩) := hV.get 11 (by decide +kernel)
      have h13 : a.tmps.getD 13 undef = .string ⟨tk.toArray⟩ := hV.get 13 (by decide +kernel)
      refine ⟨#[.pointer (some ⟨b, 0, none⟩), .string ⟨tk.toArray⟩], wanted_free rfl, by simp [execOp, resolve, invoke, go_sem, h11, h13], ?_⟩
      refine (out_text W0 b B2 tk w1 hG (by omega) (by omega)).mono ?_
      rintro r u2 ⟨rfl, hO⟩; exact ⟨_, rfl, rfl, by rw [← HB3.out] at hO; exact hO⟩
    refine OweAllC.cons (owesC_val 3 (by decide +kernel) (by decide) rfl rfl fun k' a w1 x hk ha hG hV => ?_) ?_
    · skip
      have h1 := ha.outer 1 (by decide +kernel)
      simp only [Act.eval] at h1
      exact ⟨.pointer (some ⟨g, 3, none⟩), wanted_free rfl, by simp [execOp, go_sem, h1], rfl⟩
    refine OweAllC.cons (owesC_val 3 (by decide +kernel) (by decide) rfl rfl fun k' a w1 x hk ha hG hV => ?_) ?_
    · skip
      have h15 : a.tmps.getD 15 undef = .pointer (some ⟨g, 3, none⟩) := hV.get 15 (by decide +kernel)
      have cc := hread.out _ w1 hG
      exact ⟨.int .i64 wi, wanted_free rfl, by simp [execOp, go_sem, h15, cc.2.2.2.1], rfl⟩
    refine OweAllC.cons (owesC_call 3 rfl rfl rfl 98 fun a w1 x ha hG hx hV => ?_) ?_
    · skip
      have h14 : a.tmps.getD 14 undef = .pointer (some ⟨b, 0, none⟩) := hV.get 14 (by decide +kernel)
      have h16 : a.tmps.getD 16 undef = .int .i64 wi := hV.get 16 (by decide +kernel)
      refine ⟨#[.pointer (some ⟨b, 0, none⟩), .int .i64 wi], wanted_free rfl, by simp [execOp, resolve, invoke, go_sem, h14, h16], ?_⟩
      refine (out_num W0 b B3 wi w1 hG (by omega) b3.1 b3.2).mono ?_
      rintro r u2 ⟨rfl, hO⟩; exact ⟨_, rfl, rfl, by rw [← HB4.out] at hO; exact hO⟩
    refine OweAllC.cons (owesC_val 4 (by decide +kernel) (by decide) rfl rfl fun k' a w1 x hk ha hG hV => ?_) ?_
    · skip
      have h1 := ha.outer 1 (by decide +kernel)
      simp only [Act.eval] at h1
      exact ⟨.pointer (some ⟨g, 4, none⟩), wanted_free rfl, by simp [execOp, go_sem, h1], rfl⟩
    refine OweAllC.cons (owesC_val 4 (by decide +kernel) (by decide) rfl rfl fun k' a w1 x hk ha hG hV => ?_) ?_
    · skip
      have h18 : a.tmps.getD 18 undef = .pointer (some ⟨g, 4, none⟩) := hV.get 18 (by decide +kernel)
      have cc := hread.out _ w1 hG
      exact ⟨.int .u64 (pw : Int), wanted_free rfl, by simp [execOp, go_sem, h18, cc.2.2.2.2.1], rfl⟩
    refine OweAllC.cons (owesC_side 4 (by decide +kernel) (by decide) rfl rfl 99 fun k' a w1 x hk ha hG hV => ?_) ?_
    · skip
      have h19 : a.tmps.getD 19 undef = .int .u64 (pw : Int) := hV.get 19 (by decide +kernel)
      refine ⟨#[.int .u64 (pw : Int)], wanted_free rfl, by simp [execOp, resolve, invoke, go_sem, h19], ?_⟩
      refine (hnum.out w1).mono ?_
      rintro r u2 ⟨rfl, rfl⟩; exact ⟨_, rfl, rfl, hG⟩
    refine OweAllC.cons (owesC_call 4 rfl rfl rfl 98 fun a w1 x ha hG hx hV => ?_) ?_
    · skip
      have h17 : a.tmps.getD 17 undef = .pointer (some ⟨b, 0, none⟩) := hV.get 17 (by decide +kernel)
      have h20 : a.tmps.getD 20 undef = .int .i64 (pwN pw) := hV.get 20 (by decide +kernel)
      refine ⟨#[.pointer (some ⟨b, 0, none⟩), .int .i64 (pwN pw)], wanted_free rfl, by simp [execOp, resolve, invoke, go_sem, h17, h20], ?_⟩
      refine (out_num W0 b B4 (pwN pw) w1 hG (by omega) (by omega) (by omega)).mono ?_
      rintro r u2 ⟨rfl, hO⟩; exact ⟨_, rfl, rfl, by rw [← HB5.out] at hO; exact hO⟩
    exact OweAllC.nil
    ) ?_
  intro f wz xz hG hx hv
  have e21 : f 21 = .pointer (some ⟨b, 0, none⟩) := hv 15 _ 21 rfl rfl
  first | (rename_i hK; refine hK _ _ ?_; clear hK) | (rename_i hK _; refine hK _ _ ?_; clear hK) | (rename_i hK _ _; refine hK _ _ ?_; clear hK) | (rename_i hK _ _ _; refine hK _ _ ?_; clear hK)
  clear hv hx
  simp only [dsts, puts, List.filterMap_cons, List.filterMap_nil, List.foldl_cons, List.foldl_nil, Act.put, List.setIfInBounds_toArray, List.set_cons_succ, List.set_cons_zero, e21]
  clear e21
  have hG5 : OutSt W0 b B5 wz := hG
  have c5 := (hread.out _ wz hG5).2.2.2.2.2.1
  clear hG HG0
  go_wp2_with fail
  refine (out_num W0 b B5 (n : Int) wz hG5 (by omega) (by omega) (by have := Hnp.out; omega)).mono ?_
  rintro r w3 ⟨rfl, hG6⟩
  rw [Hnp.out, ← HB6.out] at hG6
  have c6 := (hread.out _ w3 hG6).2.2.2.2.2.1
  clear hG5 c5
  have HG6 := Lib.hid hG6
  clear hG6
  go_wp2_with fail
  go_loopw [29] (fun s29 wr => ∃ (k : Nat) (bs : List UInt8), k ≤ n ∧ s29 = .int .i64 (k : Int) ∧ Hid (bs = B6 ++ ((ps.take k).map (·.1)).flatten) ∧ OutSt W0 b bs wr) (fun i _ => n - (intOf i).toNat)
  case atStart => exact ⟨0, B6, by omega, rfl, Lib.hid (by simp), HG6.out⟩
  case round =>
    clear HG6 c6
    obtain ⟨k, bs, hk, rfl, hbs, hO⟩ := hrel
    have hbl : bs.length ≤ 33000054 := by
      have e := hbs.out
      have := flat_len (ps.take k)
      rw [e, List.length_append, this, List.length_take]; omega
    by_cases hkn : k < n
    · have hkl : k < ps.length := by rw [← Hnp.out]; exact hkn
      obtain ⟨bb, off, rfl, hlt, c1⟩ := (hrd.out _ wr hO).1 k hkl
      obtain ⟨x, hx⟩ : ∃ x, x = ps[k] := ⟨_, rfl⟩
      have hnx : Hid (bs ++ x.1 = B6 ++ ((ps.take (k + 1)).map (·.1)).flatten) := Lib.hid (by rw [hbs.out, flat_succ ps k hkl, hx, List.append_assoc])
      rw [← hx] at c1
      have c1' : ∀ i u, (encN.f x)[i]? = some u → wr.cell? ⟨bb, off + k * 32 + i, none⟩ = some u := c1
      have C1 := Lib.hid c1'
      have k1 : (k : Int) < n := by omega
      have k0 : (0 : Int) ≤ k := by omega
      have hz := zid_run
      have q2 := zid_len.trans (id_size x.2).symm
      have q3 := id_info x.2
      have q4 := id_one x.1
      have hI := IdAt.stored (w := wr) (A := (vals zid).toArray) x.2
      have hBz := stored_below (w := wr) (A := (vals zid).toArray) (C := (vals x.1).toArray) (T := 25)
      have htx := Lib.hid hI.text
      have HO := Lib.hid (hO.old hBz)
      have hxl : x.1.length = 32 := x.2
      have Hxl := Lib.hid hxl
      clear hx c1 c1' hI hBz hxl hbs hO
      generalize (vals zid).toArray = ZA at hz q2 htx HO
      go_upto_region 7 with (first | (refine wpList_load_mid rfl (.tmp 31) rfl bb (off + k * 32) rfl x C1.out ?_) | (refine wpList_store_row rfl rfl 25 (.tmp 5) (.tmp 32) rfl wr.heap.size rfl 25 ZA (vals x.1).toArray rfl (heap_alloc_new _ _) q2 q3 q4 ?_))
      have ht := htx.out
      generalize (wr.alloc (.cells ZA 25)).setRow wr.heap.size (vals x.1).toArray = W2 at ht HO ⊢
      clear htx C1 hz q2 q3 q4
      go_wp2_with fail
      refine (out_raw W0 b bs x.1 _ HO.out (by have := Hxl.out; omega)).mono ?_
      rintro r w4 ⟨rfl, hO4⟩
      clear ht HO
      go_wp2_with fail
      go_roundw
      case rel => exact ⟨k + 1, bs ++ x.1, by omega, by go_num, hnx, hO4⟩
      case measure => simp [intOf]; omega
    · obtain rfl : k = n := by omega
      have c6 := (hread.out _ wr hO).2.2.2.2.2.2
      have hbF : Hid (bs ++ numL sa = F) := Lib.hid (by rw [hbs.out, HF.out, Hnp.out, List.take_of_length_le (Nat.le_refl _)])
      clear hbs
      go_wp2_with fail
      refine (out_num W0 b bs sa wr hO (by omega) b4.1 b4.2).mono ?_
      rintro r w5 ⟨rfl, hO5⟩
      rw [hbF.out] at hO5
      have hB5 := Lib.hid (hrd.out _ w5 hO5).2
      clear hO c6
      go_wp2_with fail
      refine (out_bytes W0 b F w5 hO5).mono ?_
      rintro r w6 ⟨rfl, rfl⟩
      clear hO5
      go_wp2_with fail
      go_ret
      exact ⟨rfl, HGG.out ▸ hB5.out⟩
end Go.Proofs.YtkejidmomnmdbaaDoor
