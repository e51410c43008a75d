/- Texts 10: what the laws lean on. -/
import Derived.Test.YtiegakeacghnfaaDoorM2
import Derived.Test.YtiegakeacghnfaaDoorM9
import Derived.Test.YtiegakeacghnfaaDoorM5
import Derived.Test.YtiegakeacghnfaaDoorM4
import Derived.Test.YtiegakeacghnfaaDoorSort
import Derived.Test.YtiegakeacghnfaaDoorRows
import Derived.Test.YtiegakeacghnfaaDoorM1
import Derived.WalkKit
import Derived.ProofKit
import Derived.OpenShut
import Derived.SliceStrings
import Derived.Lib.LaidTab
import Derived.LaidSub
import Derived.Deep.SlicePairs
import Derived.Deep.Fields
import Derived.Deep.Slices
namespace Go.Proofs.YtiegakeacghnfaaDoor
open Go.RowKit

theorem refofB (s : List UInt8) (w : World) (hl : s.length ≤ 1073741824) :
    Calls Tryd.prog 41 #[.string ⟨s.toArray⟩] w fun r w' => r = .returned (.string ⟨(shaB s).toArray⟩) ∧ Below w.heap.size w w' :=
  (refof_any s w hl).mono fun _ _ ⟨h1, h2⟩ => ⟨by rw [h1, sha_bytes], h2.to_below (Nat.le_refl _) (fun _ _ h => h)⟩
end Go.Proofs.YtiegakeacghnfaaDoor

namespace Go.Proofs.YtiegakeacghnfaaDoor
open Go.RowKit

theorem exec_add_str {P : Program} {o : Oper} {a : Act} {w : World} (ty ty' : TypeId) (x y : Operand) (ho : o.op = .binOp .add ty x y ty') (A B : List UInt8) (hx : a.eval x = .string ⟨A.toArray⟩) (hy : a.eval y = .string ⟨B.toArray⟩) (h : A.length + B.length ≤ 9223372036854775807) :
    (execOp a.eval o).run P w = .ok (.value (.string ⟨(A ++ B).toArray⟩)) w := by
  have hr := run_string_add_sum (P := P) (w := w) (⟨A.toArray⟩ : ByteArray) ⟨B.toArray⟩ (by simpa [ByteArray.size] using h)
  rw [cat_bytes] at hr
  simp [execOp, ho, hx, hy, eqGuard, binOp_string_add, hr]
/-- A header's numbers are from 0 on, its power is an int. -/
structure HPos {α : Type} (h : Hd α) : Prop where
  n : h.ps.length ≤ 1000000
  k : h.tk.length ≤ 1000000
  pw : h.pw ≤ 9223372036854775807
  b1 : -9223372036854775808 ≤ h.ht ∧ h.ht ≤ 9223372036854775807
  b2 : -9223372036854775808 ≤ h.mi ∧ h.mi ≤ 9223372036854775807
  b3 : -9223372036854775808 ≤ h.wi ∧ h.wi ≤ 9223372036854775807
  b4 : -9223372036854775808 ≤ h.sa ∧ h.sa ≤ 9223372036854775807

set_option maxRecDepth 20000 in
set_option maxHeartbeats 8000000 in
theorem rbytes_any (h : Hd (List UInt8)) (ao : Option Addr) (cap : Nat) (w : World) (hL : Rd encS w ao h.ps) (ok : HPos h) (hf : h.ps.flatten.length ≤ 100000000) :
    Calls Tryd.prog 14 #[.agg (hcells h ao cap)] w fun r w' => r = .returned (.string ⟨(hbytes id h).toArray⟩) ∧ Below w.heap.size w w' := by
  obtain ⟨ht, mi, tk, wi, pw, ps, sa⟩ := h
  obtain ⟨o1, o2, o3, b1, b2, b3, b4⟩ := ok
  simp only at hL hf o1 o2 o3 b1 b2 b3 b4
  have n1 := numL_len ht (by have := b1.2; omega)
  have n2 := numL_len mi (by have := b2.2; omega)
  have n3 := numL_len (tk.length : Int) (by omega)
  have n4 := numL_len wi (by have := b3.2; omega)
  have n5 := numL_len (pw : Int) (by omega)
  have n6 := numL_len (ps.length : Int) (by omega)
  have n7 := numL_len sa (by have := b4.2; omega)
  have hp5 : pwN pw = (pw : Int) := by unfold pwN; rw [if_neg (by omega)]
  have hfin : hbytes id (⟨ht, mi, tk, wi, pw, ps, sa⟩ : Hd (List UInt8)) = ((numL ht ++ numL mi) ++ (numL tk.length ++ tk)) ++ ((numL wi ++ numL pw) ++ numL ps.length) ++ ps.flatten ++ numL sa := by
    simp [hbytes, hhead, hp5, List.append_assoc]
  rw [hfin]
  have K1 : Hid (∀ w, Calls Tryd.prog 39 #[.int .i64 ht] w fun r w' => r = .returned (.string ⟨(numL ht).toArray⟩) ∧ Below w.heap.size w w') := Lib.hid (fun w => refnum_any ht w b1.1 b1.2)
  have K2 : Hid (∀ w, Calls Tryd.prog 39 #[.int .i64 mi] w fun r w' => r = .returned (.string ⟨(numL mi).toArray⟩) ∧ Below w.heap.size w w') := Lib.hid (fun w => refnum_any mi w b2.1 b2.2)
  have K3 : Hid (∀ w, Calls Tryd.prog 40 #[.string ⟨tk.toArray⟩] w fun r w' => r = .returned (.string ⟨(numL tk.length ++ tk).toArray⟩) ∧ Below w.heap.size w w') := Lib.hid (fun w => reftext_any tk w (by omega))
  have K4 : Hid (∀ w, Calls Tryd.prog 39 #[.int .i64 wi] w fun r w' => r = .returned (.string ⟨(numL wi).toArray⟩) ∧ Below w.heap.size w w') := Lib.hid (fun w => refnum_any wi w b3.1 b3.2)
  have K5 : Hid (∀ w, Calls Tryd.prog 39 #[.int .i64 (pw : Int)] w fun r w' => r = .returned (.string ⟨(numL pw).toArray⟩) ∧ Below w.heap.size w w') := Lib.hid (fun w => refnum_any pw w (by omega) (by omega))
  obtain ⟨n, hn⟩ : ∃ n, n = ps.length := ⟨_, rfl⟩
  rw [← hn] at n6 ⊢
  have o1n : n ≤ 1000000 := by omega
  have K6 : Hid (∀ w, Calls Tryd.prog 39 #[.int .i64 (n : Int)] w fun r w' => r = .returned (.string ⟨(numL n).toArray⟩) ∧ Below w.heap.size w w') := Lib.hid (fun w => refnum_any n w (by omega) (by omega))
  have K7 : Hid (∀ w, Calls Tryd.prog 39 #[.int .i64 sa] w fun r w' => r = .returned (.string ⟨(numL sa).toArray⟩) ∧ Below w.heap.size w w') := Lib.hid (fun w => refnum_any sa w b4.1 b4.2)
  have l3 : (numL tk.length ++ tk).length ≤ 1000009 := by rw [List.length_append]; omega
  generalize numL ht = N1 at K1 n1 ⊢
  generalize numL mi = N2 at K2 n2 ⊢
  generalize numL tk.length ++ tk = N3 at K3 l3 ⊢
  generalize numL wi = N4 at K4 n4 ⊢
  generalize numL (pw : Int) = N5 at K5 n5 ⊢
  generalize numL (n : Int) = N6 at K6 n6 ⊢
  generalize numL sa = N7 at K7 n7 ⊢
  obtain ⟨N8, h8⟩ : ∃ N, N = ps.flatten := ⟨_, rfl⟩
  rw [← h8] at hf ⊢
  have a1 : (N1 ++ N2).length ≤ 18 := by rw [List.length_append]; omega
  have a2 : (N1 ++ N2 ++ N3).length ≤ 1000027 := by rw [List.length_append]; omega
  have a3 : (N4 ++ N5).length ≤ 18 := by rw [List.length_append]; omega
  have a4 : (N4 ++ N5 ++ N6).length ≤ 27 := by rw [List.length_append]; omega
  have hwr : IntKind.i64.wrap (pw : Int) = (pw : Int) := IntWalk.i64_in _ (by omega)
  unfold hcells
  simp only
  rw [← hn]
  obtain ⟨W0, hW0⟩ : ∃ W0, W0 = w.alloc (.cells #[.int .i64 ht, .int .i64 mi, .string ⟨tk.toArray⟩, .int .i64 wi, .int .u64 (pw : Int), .slice ao n cap, .int .i64 sa] 25) := ⟨_, rfl⟩
  have hbox : W0.heap[w.heap.size]? = some (.cells #[.int .i64 ht, .int .i64 mi, .string ⟨tk.toArray⟩, .int .i64 wi, .int .u64 (pw : Int), .slice ao n cap, .int .i64 sa] 25 (0, 0)) := by rw [hW0]; exact heap_alloc_new _ _
  have hbw : Below w.heap.size w W0 := by rw [hW0]; exact (Below.refl _ _).alloc (Nat.le_refl _) _
  have hread : Hid (∀ (w1 : World), Below W0.heap.size W0 w1 → w1.cell? ⟨w.heap.size, 0, none⟩ = some (.int .i64 ht) ∧ w1.cell? ⟨w.heap.size, 1, none⟩ = some (.int .i64 mi) ∧ w1.cell? ⟨w.heap.size, 2, none⟩ = some (.string ⟨tk.toArray⟩) ∧ w1.cell? ⟨w.heap.size, 3, none⟩ = some (.int .i64 wi) ∧ w1.cell? ⟨w.heap.size, 4, none⟩ = some (.int .u64 (pw : Int)) ∧ w1.cell? ⟨w.heap.size, 5, none⟩ = some (.slice ao n cap) ∧ w1.cell? ⟨w.heap.size, 6, none⟩ = some (.int .i64 sa) ∧ Rd encS w1 ao ps ∧ Below w.heap.size w w1) := Lib.hid (by
    intro w1 h1
    have hh := (h1.block _ (Array.getElem?_eq_some_iff.1 hbox).1).trans hbox
    have hc := fun i => cell_of_row w1 w.heap.size i _ 25 (0, 0) hh
    have h2 := hbw.trans (h1.mono hbw.size)
    exact ⟨hc 0, hc 1, hc 2, hc 3, hc 4, hc 5, hc 6, hL.old h2, h2⟩)
  have HW0 := Lib.hid hW0
  have Hn := Lib.hid hn
  have H8 := Lib.hid h8
  clear h8 hn hW0 hbox hbw hL hfin hp5
  go_enter Tryd.func14, Tryd.ntmps14
  go_wp2_with fail
  rw [← HW0.out]
  generalize hgg : w.heap.size = g at hread ⊢
  have HGG : Hid (g = w.heap.size) := Lib.hid hgg.symm
  clear hgg
  refine wp_region_puts (fun t v w => VK (match t with
    | 6 => .eq (.pointer (some ⟨g, 0, none⟩))
    | 7 => .eq (.int .i64 ht)
    | 8 => .eq (.string ⟨N1.toArray⟩)
    | 9 => .eq (.pointer (some ⟨g, 1, none⟩))
    | 10 => .eq (.int .i64 mi)
    | 11 => .eq (.string ⟨N2.toArray⟩)
    | 12 => .eq (.string ⟨((N1) ++ (N2)).toArray⟩)
    | 13 => .eq (.pointer (some ⟨g, 2, none⟩))
    | 14 => .eq (.string ⟨tk.toArray⟩)
    | 15 => .eq (.string ⟨N3.toArray⟩)
    | 16 => .eq (.string ⟨((N1 ++ N2) ++ (N3)).toArray⟩)
    | 3 => .eq (.string ⟨((N1 ++ N2) ++ (N3)).toArray⟩)
    | _ => .any) v w) (fun w' => Below W0.heap.size W0 w') 48 (by kernel_rfl) (by decide +kernel) rfl (Below.refl _ _).drew (by
    refine OweAll.cons (owesK rfl rfl fun a w1 ha hG hV => ?_) ?_
    · skip
      have h1 := ha.outer 1 (by decide +kernel)
      simp only [Act.eval] at h1
      exact ⟨.pointer (some ⟨g, 0, none⟩), w1, wanted_free rfl, by simp [execOp, go_sem, h1], Below.refl _ _, rfl⟩
    refine OweAll.cons (owesK rfl rfl fun a w1 ha hG hV => ?_) ?_
    · skip
      have h6 : a.tmps.getD 6 undef = .pointer (some ⟨g, 0, none⟩) := hV.get 6 (by decide +kernel)
      have cc := hread.out w1 hG
      exact ⟨.int .i64 ht, w1, wanted_free rfl, by simp [execOp, go_sem, h6, cc.1], Below.refl _ _, rfl⟩
    refine OweAll.cons (owesK_call rfl rfl 39 fun a w1 ha hG hV => ?_) ?_
    · skip
      have h7 : a.tmps.getD 7 undef = .int .i64 ht := hV.get 7 (by decide +kernel)
      refine ⟨#[.int .i64 ht], wanted_free rfl, by simp [go_sem, h7], ?_⟩
      refine (K1.out w1).mono ?_
      rintro r u2 ⟨rfl, hb⟩; exact ⟨_, rfl, rfl, hb⟩
    refine OweAll.cons (owesK rfl rfl fun a w1 ha hG hV => ?_) ?_
    · skip
      have h1 := ha.outer 1 (by decide +kernel)
      simp only [Act.eval] at h1
      exact ⟨.pointer (some ⟨g, 1, none⟩), w1, wanted_free rfl, by simp [execOp, go_sem, h1], Below.refl _ _, rfl⟩
    refine OweAll.cons (owesK rfl rfl fun a w1 ha hG hV => ?_) ?_
    · skip
      have h9 : a.tmps.getD 9 undef = .pointer (some ⟨g, 1, none⟩) := hV.get 9 (by decide +kernel)
      have cc := hread.out w1 hG
      exact ⟨.int .i64 mi, w1, wanted_free rfl, by simp [execOp, go_sem, h9, cc.2.1], Below.refl _ _, rfl⟩
    refine OweAll.cons (owesK_call rfl rfl 39 fun a w1 ha hG hV => ?_) ?_
    · skip
      have h10 : a.tmps.getD 10 undef = .int .i64 mi := hV.get 10 (by decide +kernel)
      refine ⟨#[.int .i64 mi], wanted_free rfl, by simp [go_sem, h10], ?_⟩
      refine (K2.out w1).mono ?_
      rintro r u2 ⟨rfl, hb⟩; exact ⟨_, rfl, rfl, hb⟩
    refine OweAll.cons (owesK rfl rfl fun a w1 ha hG hV => ?_) ?_
    · skip
      have h8 : a.tmps.getD 8 undef = .string ⟨N1.toArray⟩ := hV.get 8 (by decide +kernel)
      have h11 : a.tmps.getD 11 undef = .string ⟨N2.toArray⟩ := hV.get 11 (by decide +kernel)
      exact ⟨.string ⟨((N1) ++ (N2)).toArray⟩, w1, wanted_free rfl, exec_add_str 9 9 (.tmp 8) (.tmp 11) rfl (N1) (N2) h8 h11 (by omega), Below.refl _ _, rfl⟩
    refine OweAll.cons (owesK rfl rfl fun a w1 ha hG hV => ?_) ?_
    · skip
      have h1 := ha.outer 1 (by decide +kernel)
      simp only [Act.eval] at h1
      exact ⟨.pointer (some ⟨g, 2, none⟩), w1, wanted_free rfl, by simp [execOp, go_sem, h1], Below.refl _ _, rfl⟩
    refine OweAll.cons (owesK rfl rfl fun a w1 ha hG hV => ?_) ?_
    · skip
      have h13 : a.tmps.getD 13 undef = .pointer (some ⟨g, 2, none⟩) := hV.get 13 (by decide +kernel)
      have cc := hread.out w1 hG
      exact ⟨.string ⟨tk.toArray⟩, w1, wanted_free rfl, by simp [execOp, go_sem, h13, cc.2.2.1], Below.refl _ _, rfl⟩
    refine OweAll.cons (owesK_call rfl rfl 40 fun a w1 ha hG hV => ?_) ?_
    · skip
      have h14 : a.tmps.getD 14 undef = .string ⟨tk.toArray⟩ := hV.get 14 (by decide +kernel)
      refine ⟨#[.string ⟨tk.toArray⟩], wanted_free rfl, by simp [go_sem, h14], ?_⟩
      refine (K3.out w1).mono ?_
      rintro r u2 ⟨rfl, hb⟩; exact ⟨_, rfl, rfl, hb⟩
    refine OweAll.cons (owesK rfl rfl fun a w1 ha hG hV => ?_) ?_
    · skip
      have h12 : a.tmps.getD 12 undef = .string ⟨((N1) ++ (N2)).toArray⟩ := hV.get 12 (by decide +kernel)
      have h15 : a.tmps.getD 15 undef = .string ⟨N3.toArray⟩ := hV.get 15 (by decide +kernel)
      exact ⟨.string ⟨((N1 ++ N2) ++ (N3)).toArray⟩, w1, wanted_free rfl, exec_add_str 9 9 (.tmp 12) (.tmp 15) rfl (N1 ++ N2) (N3) h12 h15 (by omega), Below.refl _ _, rfl⟩
    refine OweAll.cons (owesK rfl rfl fun a w1 ha hG hV => ?_) ?_
    · skip
      have h16 : a.tmps.getD 16 undef = .string ⟨((N1 ++ N2) ++ (N3)).toArray⟩ := hV.get 16 (by decide +kernel)
      exact ⟨.string ⟨((N1 ++ N2) ++ (N3)).toArray⟩, w1, wanted_free rfl, by simp [execOp, go_sem, h16], Below.refl _ _, rfl⟩
    exact OweAll.nil
    ) ?_
  intro f wz hG hv
  have e3 : f 3 = .string ⟨((N1 ++ N2) ++ (N3)).toArray⟩ := hv 11 _ 3 rfl rfl
  rename_i hK
  refine hK _ _ ?_
  clear hK hv
  simp only [dsts, puts, List.filterMap_cons, List.filterMap_nil, List.foldl_cons, List.foldl_nil, Act.put, List.setIfInBounds_toArray, List.set_cons_succ, List.set_cons_zero, e3]
  clear e3
  have hwz := hG
  clear hG
  have hread2 : Hid (∀ w1 : World, Below wz.heap.size wz w1 → Below W0.heap.size W0 w1) := Lib.hid (fun w1 h => hwz.trans (h.mono hwz.size))
  have HZ := Lib.hid hwz
  clear hwz
  generalize hS1 : N1 ++ N2 ++ N3 = S1 at a2 ⊢
  have HS1 := Lib.hid hS1.symm
  clear hS1 a1
  have HG0 : Hid (Below wz.heap.size wz wz.drew) := Lib.hid (Below.refl _ _).drew
  go_wp2_with fail
  refine wp_region_chain (fun t v => match t with
    | 17 => v = .string ⟨S1.toArray⟩
    | 18 => v = .pointer (some ⟨g, 3, none⟩)
    | 19 => v = .int .i64 wi
    | 20 => v = .string ⟨N4.toArray⟩
    | 21 => v = .pointer (some ⟨g, 4, none⟩)
    | 22 => v = .int .u64 (pw : Int)
    | 23 => v = .int .i64 (pw : Int)
    | 24 => v = .string ⟨N5.toArray⟩
    | 25 => v = .string ⟨((N4) ++ (N5)).toArray⟩
    | 26 => v = .pointer (some ⟨g, 5, none⟩)
    | 27 => v = .slice ao n cap
    | 28 => v = .int .i64 (n : Int)
    | 29 => v = .string ⟨N6.toArray⟩
    | 30 => v = .string ⟨((N4 ++ N5) ++ (N6)).toArray⟩
    | 31 => v = .string ⟨((S1) ++ (N4 ++ N5 ++ N6)).toArray⟩
    | 3 => v = .string ⟨(S1 ++ (N4 ++ N5 ++ N6)).toArray⟩
    | _ => True) (fun (_ : Nat) (_ : Value) (w1 : World) => Below wz.heap.size wz w1) [15] 48 (by kernel_rfl) (by decide +kernel) rfl (by decide +kernel) (by decide) (by decide) HG0.out (by
    refine OweAllC.cons (owesC_val 0 (by decide +kernel) (by decide) rfl rfl fun k' a w1 x hk ha hG hV => ?_) ?_
    · skip
      have h3 := ha.kp 0 15 _ 3 (by omega) rfl rfl rfl
      simp only [Act.eval] at h3
      exact ⟨.string ⟨S1.toArray⟩, wanted_free rfl, by simp [execOp, go_sem, h3], rfl⟩
    refine OweAllC.cons (owesC_val 0 (by decide +kernel) (by decide) rfl rfl fun k' a w1 x hk ha hG hV => ?_) ?_
    · skip
      have h1 := ha.outer 1 (by decide +kernel)
      simp only [Act.eval] at h1
      exact ⟨.pointer (some ⟨g, 3, none⟩), wanted_free rfl, by simp [execOp, go_sem, h1], rfl⟩
    refine OweAllC.cons (owesC_val 0 (by decide +kernel) (by decide) rfl rfl fun k' a w1 x hk ha hG hV => ?_) ?_
    · skip
      have h18 : a.tmps.getD 18 undef = .pointer (some ⟨g, 3, none⟩) := hV.get 18 (by decide +kernel)
      have cc := hread.out w1 (hread2.out w1 hG)
      exact ⟨.int .i64 wi, wanted_free rfl, by simp [execOp, go_sem, h18, cc.2.2.2.1], rfl⟩
    refine OweAllC.cons (owesC_side 0 (by decide +kernel) (by decide) rfl rfl 39 fun k' a w1 x hk ha hG hV => ?_) ?_
    · skip
      have h19 : a.tmps.getD 19 undef = .int .i64 wi := hV.get 19 (by decide +kernel)
      refine ⟨#[.int .i64 wi], wanted_free rfl, by simp [go_sem, h19], ?_⟩
      refine (K4.out w1).mono ?_
      rintro r u2 ⟨rfl, hb⟩; exact ⟨_, rfl, rfl, hG.trans (hb.mono hG.size)⟩
    refine OweAllC.cons (owesC_val 0 (by decide +kernel) (by decide) rfl rfl fun k' a w1 x hk ha hG hV => ?_) ?_
    · skip
      have h1 := ha.outer 1 (by decide +kernel)
      simp only [Act.eval] at h1
      exact ⟨.pointer (some ⟨g, 4, none⟩), wanted_free rfl, by simp [execOp, go_sem, h1], rfl⟩
    refine OweAllC.cons (owesC_val 0 (by decide +kernel) (by decide) rfl rfl fun k' a w1 x hk ha hG hV => ?_) ?_
    · skip
      have h21 : a.tmps.getD 21 undef = .pointer (some ⟨g, 4, none⟩) := hV.get 21 (by decide +kernel)
      have cc := hread.out w1 (hread2.out w1 hG)
      exact ⟨.int .u64 (pw : Int), wanted_free rfl, by simp [execOp, go_sem, h21, cc.2.2.2.2.1], rfl⟩
    refine OweAllC.cons (owesC_val 0 (by decide +kernel) (by decide) rfl rfl fun k' a w1 x hk ha hG hV => ?_) ?_
    · skip
      have h22 : a.tmps.getD 22 undef = .int .u64 (pw : Int) := hV.get 22 (by decide +kernel)
      exact ⟨.int .i64 (pw : Int), wanted_free rfl, by simp [execOp, go_sem, h22, hwr, Tryd.underlying22, Tryd.underlying3], rfl⟩
    refine OweAllC.cons (owesC_side 0 (by decide +kernel) (by decide) rfl rfl 39 fun k' a w1 x hk ha hG hV => ?_) ?_
    · skip
      have h23 : a.tmps.getD 23 undef = .int .i64 (pw : Int) := hV.get 23 (by decide +kernel)
      refine ⟨#[.int .i64 (pw : Int)], wanted_free rfl, by simp [go_sem, h23], ?_⟩
      refine (K5.out w1).mono ?_
      rintro r u2 ⟨rfl, hb⟩; exact ⟨_, rfl, rfl, hG.trans (hb.mono hG.size)⟩
    refine OweAllC.cons (owesC_val 0 (by decide +kernel) (by decide) rfl rfl fun k' a w1 x hk ha hG hV => ?_) ?_
    · skip
      have h20 : a.tmps.getD 20 undef = .string ⟨N4.toArray⟩ := hV.get 20 (by decide +kernel)
      have h24 : a.tmps.getD 24 undef = .string ⟨N5.toArray⟩ := hV.get 24 (by decide +kernel)
      exact ⟨.string ⟨((N4) ++ (N5)).toArray⟩, wanted_free rfl, exec_add_str 9 9 (.tmp 20) (.tmp 24) rfl (N4) (N5) h20 h24 (by omega), rfl⟩
    refine OweAllC.cons (owesC_val 0 (by decide +kernel) (by decide) rfl rfl fun k' a w1 x hk ha hG hV => ?_) ?_
    · skip
      have h1 := ha.outer 1 (by decide +kernel)
      simp only [Act.eval] at h1
      exact ⟨.pointer (some ⟨g, 5, none⟩), wanted_free rfl, by simp [execOp, go_sem, h1], rfl⟩
    refine OweAllC.cons (owesC_val 0 (by decide +kernel) (by decide) rfl rfl fun k' a w1 x hk ha hG hV => ?_) ?_
    · skip
      have h26 : a.tmps.getD 26 undef = .pointer (some ⟨g, 5, none⟩) := hV.get 26 (by decide +kernel)
      have cc := hread.out w1 (hread2.out w1 hG)
      exact ⟨.slice ao n cap, wanted_free rfl, by simp [execOp, go_sem, h26, cc.2.2.2.2.2.1], rfl⟩
    refine OweAllC.cons (owesC_val 0 (by decide +kernel) (by decide) rfl rfl fun k' a w1 x hk ha hG hV => ?_) ?_
    · skip
      have h27 : a.tmps.getD 27 undef = .slice ao n cap := hV.get 27 (by decide +kernel)
      exact ⟨.int .i64 (n : Int), wanted_free rfl, by simp [go_sem, h27], rfl⟩
    refine OweAllC.cons (owesC_side 0 (by decide +kernel) (by decide) rfl rfl 39 fun k' a w1 x hk ha hG hV => ?_) ?_
    · skip
      have h28 : a.tmps.getD 28 undef = .int .i64 (n : Int) := hV.get 28 (by decide +kernel)
      refine ⟨#[.int .i64 (n : Int)], wanted_free rfl, by simp [go_sem, h28], ?_⟩
      refine (K6.out w1).mono ?_
      rintro r u2 ⟨rfl, hb⟩; exact ⟨_, rfl, rfl, hG.trans (hb.mono hG.size)⟩
    refine OweAllC.cons (owesC_val 0 (by decide +kernel) (by decide) rfl rfl fun k' a w1 x hk ha hG hV => ?_) ?_
    · skip
      have h25 : a.tmps.getD 25 undef = .string ⟨((N4) ++ (N5)).toArray⟩ := hV.get 25 (by decide +kernel)
      have h29 : a.tmps.getD 29 undef = .string ⟨N6.toArray⟩ := hV.get 29 (by decide +kernel)
      exact ⟨.string ⟨((N4 ++ N5) ++ (N6)).toArray⟩, wanted_free rfl, exec_add_str 9 9 (.tmp 25) (.tmp 29) rfl (N4 ++ N5) (N6) h25 h29 (by omega), rfl⟩
    refine OweAllC.cons (owesC_val 0 (by decide +kernel) (by decide) rfl rfl fun k' a w1 x hk ha hG hV => ?_) ?_
    · skip
      have h17 : a.tmps.getD 17 undef = .string ⟨S1.toArray⟩ := hV.get 17 (by decide +kernel)
      have h30 : a.tmps.getD 30 undef = .string ⟨((N4 ++ N5) ++ (N6)).toArray⟩ := hV.get 30 (by decide +kernel)
      exact ⟨.string ⟨((S1) ++ (N4 ++ N5 ++ N6)).toArray⟩, wanted_free rfl, exec_add_str 9 9 (.tmp 17) (.tmp 30) rfl (S1) (N4 ++ N5 ++ N6) h17 h30 (by omega), rfl⟩
    refine OweAllC.cons (owesC_mem 0 rfl rfl rfl fun a w1 x ha hG hx hV => ?_) ?_
    · skip
      have h31 : a.tmps.getD 31 undef = .string ⟨((S1) ++ (N4 ++ N5 ++ N6)).toArray⟩ := hV.get 31 (by decide +kernel)
      exact ⟨.string ⟨(S1 ++ (N4 ++ N5 ++ N6)).toArray⟩, w1, wanted_free rfl, by simp [execOp, go_sem, h31], rfl, hG⟩
    exact OweAllC.nil
    ) ?_
  intro f wy xy hG hx hv
  have e3 : f 3 = .string ⟨(S1 ++ (N4 ++ N5 ++ N6)).toArray⟩ := hv 15 _ 3 rfl rfl
  first | (rename_i hK; refine hK _ _ ?_; clear hK) | (rename_i hK _; refine hK _ _ ?_; clear hK) | (rename_i hK _ _; refine hK _ _ ?_; clear hK) | (rename_i hK _ _ _; refine hK _ _ ?_; clear hK)
  clear hv hx
  simp only [dsts, puts, List.filterMap_cons, List.filterMap_nil, List.foldl_cons, List.foldl_nil, Act.put, List.setIfInBounds_toArray, List.set_cons_succ, List.set_cons_zero, e3]
  clear e3
  have hwy := hread2.out wy hG
  clear hG HZ hread2
  have l2 : (S1 ++ (N4 ++ N5 ++ N6)).length ≤ 1000054 := by rw [List.length_append]; omega
  generalize hS2 : S1 ++ (N4 ++ N5 ++ N6) = S2 at l2 ⊢
  have HS2 := Lib.hid hS2.symm
  have cc := hread.out wy hwy
  have c5 := cc.2.2.2.2.2.1
  have c6 := cc.2.2.2.2.2.2.1
  have HR := Lib.hid cc.2.2.2.2.2.2.2.1
  have HB := Lib.hid cc.2.2.2.2.2.2.2.2
  clear hS2 a2 a3 a4 cc hwy
  go_wp2_with fail
  go_loopw [3, 5, 35] (fun s3 _ s35 wr => ∃ (i : Nat) (D : List UInt8), i ≤ n ∧ s35 = .int .i64 (i : Int) ∧ s3 = .string ⟨D.toArray⟩ ∧ Hid (D = S2 ++ (ps.take i).flatten) ∧ Hid (wy = wr)) (fun _ _ i _ => n - (intOf i).toNat)
  case atStart => exact ⟨0, S2, Nat.zero_le _, rfl, rfl, Lib.hid (by simp), Lib.hid rfl⟩
  case round =>
    obtain ⟨i, D, hi, rfl, rfl, HD, HW⟩ := hrel
    have hw := HW.out
    subst hw
    by_cases hlt : i < n
    · have hiL : i < ps.length := by rw [← Hn.out]; exact hlt
      obtain ⟨bs, off, rfl, hbs, cx⟩ := HR.out.str i hiL
      have hnx : ps.take (i + 1) = ps.take i ++ [ps[i]] := List.take_succ_eq_append_getElem hiL
      obtain ⟨x, hx⟩ : ∃ x, x = ps[i] := ⟨_, rfl⟩
      rw [← hx] at cx hnx
      have Hnx : Hid (D ++ x = S2 ++ (ps.take (i + 1)).flatten) := Lib.hid (by rw [hnx, List.flatten_append, HD.out]; simp)
      have i0 : (0 : Int) ≤ i := by omega
      have i1 : (i : Int) < n := by omega
      have Hlt := Lib.hid hlt
      have hle : D.length + x.length ≤ 101000054 := by
        have e : N8 = (ps.take (i + 1)).flatten ++ (ps.drop (i + 1)).flatten := by rw [H8.out, ← List.flatten_append, List.take_append_drop]
        have e2 := congrArg List.length e
        have e3 := congrArg List.length Hnx.out
        rw [List.length_append] at e2 e3
        rw [List.length_append] at e3
        omega
      have hle2 : (D.length : Int) + x.length ≤ 9223372036854775807 := by omega
      have hle3 : D.length + x.length ≤ 9223372036854775807 := by omega
      clear hle hx hnx hiL hlt
      go_wp2_with fail
      go_roundw
      case rel => exact ⟨i + 1, D ++ x, by have := Hlt.out; omega, by go_num, val_str (cat_bytes D x), Hnx, Lib.hid trivial⟩
      case measure => have := Hlt.out; simp [intOf]; omega
    · have i1 : ¬ (i : Int) < n := by omega
      have e : i = n := by omega
      obtain ⟨D2, hD2⟩ : ∃ D2, D2 = S2 ++ N8 := ⟨_, rfl⟩
      obtain rfl : D = D2 := by rw [HD.out, hD2, H8.out, e, Hn.out, List.take_length]
      have hDl : D.length ≤ 101000054 := by rw [hD2, List.length_append]; omega
      have HD2 : Hid (((N1 ++ N2) ++ N3) ++ ((N4 ++ N5) ++ N6) ++ N8 ++ N7 = D ++ N7) := Lib.hid (by rw [hD2, HS2.out, HS1.out])
      clear e hD2 HD
      have hle2 : (D.length : Int) + N7.length ≤ 9223372036854775807 := by omega
      have hle3 : D.length + N7.length ≤ 9223372036854775807 := by omega
      go_wp2_with fail
      refine (K7.out _).mono ?_
      rintro r w9 ⟨rfl, hb9⟩
      have HB9 := Lib.hid (HB.out.trans (hb9.mono (by rw [HGG.out]; exact HB.out.size)))
      clear hb9
      go_wp2_with fail
      go_ret
      exact ⟨by rw [HD2.out]; exact ret_str (cat_bytes D N7), HGG.out ▸ HB9.out⟩

set_option maxRecDepth 20000 in
set_option maxHeartbeats 4000000 in
theorem rid_any (h : Hd (List UInt8)) (ao : Option Addr) (cap : Nat) (w : World) (hL : Rd encS w ao h.ps) (ok : HPos h) (hf : h.ps.flatten.length ≤ 100000000) :
    Calls Tryd.prog 16 #[.agg (hcells h ao cap)] w fun r w' => r = .returned (.string ⟨(shaB (hbytes id h)).toArray⟩) ∧ Below w.heap.size w w' := by
  have hlen : (hbytes id h).length ≤ 1073741824 := by
    have n1 := numL_len h.ht (by have := ok.b1.2; omega)
    have n2 := numL_len h.mi (by have := ok.b2.2; omega)
    have n3 := numL_len (h.tk.length : Int) (by have := ok.k; omega)
    have n4 := numL_len h.wi (by have := ok.b3.2; omega)
    have n5 := numL_len (pwN h.pw) (by have := pwN_bd h.pw; omega)
    have n6 := numL_len (h.ps.length : Int) (by have := ok.n; omega)
    have n7 := numL_len h.sa (by have := ok.b4.2; omega)
    have hk := ok.k
    simp only [hbytes, hhead, List.length_append, List.map_id]
    omega
  have hby := Lib.hid (fun w' (hb : Below w.heap.size w w') => rbytes_any h ao cap w' (hL.old hb) ok hf)
  obtain ⟨C, hC⟩ : ∃ C, C = hcells h ao cap := ⟨_, rfl⟩
  have hCs : C.size = 7 := by rw [hC]; rfl
  rw [← hC] at hby ⊢
  obtain ⟨S, hS⟩ : ∃ S, S = hbytes id h := ⟨_, rfl⟩
  rw [← hS] at hby hlen ⊢
  have hof := Lib.hid (fun w => refofB S w hlen)
  generalize shaB S = Z at hof ⊢
  have hci : (Tryd.prog.info? 25).map (·.size) = some C.size := by rw [hCs]; exact rhinfo
  have hb0 : Below w.heap.size w (w.alloc (.cells C 25)) := (Below.refl _ w).alloc (Nat.le_refl _) _
  have HB0 := Lib.hid hb0
  clear hS hC hCs hlen hL hb0
  go_enter Tryd.func16, Tryd.ntmps16
  go_wp2_with (refine wpList_load_row rfl 25 (.tmp 1) rfl w.heap.size rfl 25 C (0, 0) _ (heap_alloc_new _ _) Tryd.underlying25 rfl hci ?_)
  refine (hby.out _ HB0.out).mono ?_
  rintro r w1 ⟨rfl, hb1⟩
  have HB1 := Lib.hid (HB0.out.trans (hb1.mono HB0.out.size))
  clear hb1
  go_wp2_with fail
  refine (hof.out w1).mono ?_
  rintro r w2 ⟨rfl, hb2⟩
  have HB2 := Lib.hid (HB1.out.trans (hb2.mono HB1.out.size))
  clear hb2
  go_wp2_with fail
  go_ret
  exact ⟨rfl, HB2.out⟩
end Go.Proofs.YtiegakeacghnfaaDoor

namespace Go.Proofs.YtiegakeacghnfaaDoor
open Go.RowKit Go.Sort

instance : Inhabited Nm := ⟨zN⟩
/-- Two names against each other. -/
def cfN (x y : Nm) : Int := Lib.compareBytes x.1 y.1
theorem cfN_lt (x y : Nm) : ltOf cfN x y = decide (Lib.compareBytes x.1 y.1 < 0) := rfl
theorem cfN_total (x y : Nm) (h1 : ltOf cfN x y = false) (h2 : ltOf cfN y x = false) : x = y := by
  rw [cfN_lt, decide_eq_false_iff_not] at h1 h2
  exact Subtype.ext (cmpB_eq _ _ h1 h2)
theorem cfN_trans (x y z : Nm) (h1 : ltOf cfN x y = true) (h2 : ltOf cfN y z = true) : ltOf cfN x z = true := by
  rw [cfN_lt, decide_eq_true_iff] at *
  exact cmpB_trans _ _ _ h1 h2
theorem cfN_swo : SWO (ltOf cfN) where
  irrefl x := by rw [cfN_lt, cmpB_self]; rfl
  trans := cfN_trans
  ntrans x y z h1 h2 := by
    cases h : ltOf cfN x z with
    | false => rfl
    | true =>
      cases h3 : ltOf cfN y x with
      | true => rw [cfN_trans y x z h3 h] at h2; cases h2
      | false => rw [cfN_total x y h1 h3, h2] at h; cases h
/-- The names sorted. -/
def ksort (L : List Nm) : List Nm := L.mergeSort fun x y => !(ltOf cfN) y x

section
variable {P : Program} {ops : Array Oper} {Q : Exit → Act → World → Prop} {md : Region.Mode} {K : Tmp → Kd} {W : World} {a0 : Act}
/-- An operation that reads. -/
theorem owesQ {i : Nat} {o : Oper} {t : Tmp} (hi : ops[i]? = some o) (ht : o.dst = some t) (h : ∀ a w, Agree ops a0 a → (∃ q, w = W.drewN q) → AllV (fun t v w => VK (K t) v w) a w (waits md ops o) →
    ∃ v, Region.wanted o (yielded ops a.tmps) = true ∧ (execOp a.eval o).run P w = .ok (.value v) w ∧ VK (K t) v w) : Owes P md ops Q (fun t v w => VK (K t) v w) (fun w => ∃ q, w = W.drewN q) a0 i o := by
  intro a w ha hG hV
  obtain ⟨v, hw, hr, hv⟩ := h a w ha hG hV
  unfold wpOp
  rw [hi]
  simp only [hw, if_true, Oper.wp, hr, Oper.upon]
  exact .inl ⟨v, rfl, fun u hu => by rw [ht] at hu; cases hu; exact hv, hG, fun _ _ h => h⟩
theorem owesQ_call {i : Nat} {o : Oper} {t : Tmp} (hi : ops[i]? = some o) (ht : o.dst = some t) (f : FuncId) (h : ∀ a w, Agree ops a0 a → (∃ q, w = W.drewN q) → AllV (fun t v w => VK (K t) v w) a w (waits md ops o) →
    ∃ args, Region.wanted o (yielded ops a.tmps) = true ∧ (execOp a.eval o).run P w = .ok (.enter f args) w ∧
      Calls P f args w fun e w' => ∃ v, e = .returned v ∧ VK (K t) v w' ∧ w = w') : Owes P md ops Q (fun t v w => VK (K t) v w) (fun w => ∃ q, w = W.drewN q) a0 i o := by
  intro a w ha hG hV
  obtain ⟨args, hw, hr, hc⟩ := h a w ha hG hV
  unfold wpOp
  rw [hi]
  simp only [hw, if_true, Oper.wp, hr, Oper.upon]
  refine .inl (hc.mono ?_)
  rintro e w' ⟨v, rfl, h1, rfl⟩
  exact ⟨v, rfl, fun u hu => by rw [ht] at hu; cases hu; exact h1, hG, fun _ _ h => h⟩
end

set_option maxHeartbeats 1000000 in
set_option maxRecDepth 20000 in
/-- compare lays two blocks, and draws. -/
theorem hcompare_grow (n1 n2 : List UInt8) (w : World) (hs : n1.length = 32) (ht : n2.length = 32) :
    Calls Tryd.prog 44 #[.agg (vals n1).toArray, .agg (vals n2).toArray] w fun r w' => r = .returned (.int .i64 (Lib.compareBytes n1 n2)) ∧ ∃ q os', w' = grow (w.drewN q) os' := by
  have hA : IdAt ((w.alloc (.cells (vals n1).toArray 39)).alloc (.cells (vals n2).toArray 39)) w.heap.size n1 := ⟨hs, by rw [Below.heap_alloc _ _ _ (by simp)]; exact heap_alloc_new w _⟩
  have hB : IdAt ((w.alloc (.cells (vals n1).toArray 39)).alloc (.cells (vals n2).toArray 39)) (w.heap.size + 1) n2 := ⟨ht, by have := heap_alloc_new (w.alloc (.cells (vals n1).toArray 39)) (.cells (vals n2).toArray 39); simpa using this⟩
  have hb : ∃ os, (w.alloc (.cells (vals n1).toArray 39)).alloc (.cells (vals n2).toArray 39) = grow w os := ⟨_, by rw [alloc_eq_grow, alloc_eq_grow, grow_grow]⟩
  have s1 := id_size hs
  have s2 := id_size ht
  have HA := Lib.hid hA
  have HB := Lib.hid hB
  have Hb := Lib.hid hb
  clear hA hB hb
  generalize (vals n1).toArray = S at s1 HA HB Hb ⊢
  generalize (vals n2).toArray = T at s2 HA HB Hb ⊢
  go_enter Tryd.func44, Tryd.ntmps44
  go_wp2_with fail
  generalize (w.alloc (.cells S 39)).alloc (.cells T 39) = W at HA HB Hb ⊢
  generalize w.heap.size = n0 at HA HB ⊢
  have Hq : Hid (∀ w' q, w' = W.drewN q → Below W.heap.size W w') := Lib.hid (fun w' q e => by rw [e]; exact ⟨rfl, rfl, rfl, Nat.le_refl _, fun _ _ => rfl⟩)
  refine wp_region_puts (fun t v w => VK (match t with
    | 5 => .eq (.slice (some ⟨n0, 0, none⟩) 32 32)
    | 6 => .eq (.slice (some ⟨n0 + 1, 0, none⟩) 32 32)
    | 7 => .eq (.int .i64 (Lib.compareBytes n1 n2))
    | 4 => .eq (.int .i64 (Lib.compareBytes n1 n2))
    | _ => .any) v w) (fun w' => ∃ q, w' = W.drewN q) 8 (by kernel_rfl) (by decide +kernel) rfl ⟨1, rfl⟩ (by
    refine OweAll.cons (owesQ rfl rfl fun a w1 ha hG hV => ?_) ?_
    · skip
      have h2 := ha.outer 2 (by decide +kernel)
      simp only [Act.eval] at h2
      exact ⟨.slice (some ⟨n0, 0, none⟩) 32 32, wanted_free rfl, by simp [execOp, go_sem, h2], rfl⟩
    refine OweAll.cons (owesQ rfl rfl fun a w1 ha hG hV => ?_) ?_
    · skip
      have h3 := ha.outer 3 (by decide +kernel)
      simp only [Act.eval] at h3
      exact ⟨.slice (some ⟨n0 + 1, 0, none⟩) 32 32, wanted_free rfl, by simp [execOp, go_sem, h3], rfl⟩
    refine OweAll.cons (owesQ_call rfl rfl 59 fun a w1 ha hG hV => ?_) ?_
    · skip
      have h5 : a.tmps.getD 5 undef = .slice (some ⟨n0, 0, none⟩) 32 32 := hV.get 5 (by decide +kernel)
      have h6 : a.tmps.getD 6 undef = .slice (some ⟨n0 + 1, 0, none⟩) 32 32 := hV.get 6 (by decide +kernel)
      refine ⟨#[.slice (some ⟨n0, 0, none⟩) 32 32, .slice (some ⟨n0 + 1, 0, none⟩) 32 32], wanted_free rfl, by simp [go_sem, h5, h6], ?_⟩
      obtain ⟨q, hq⟩ := hG
      have hG := Hq.out w1 q hq
      refine (bcompare_any _ _ n1 n2 w1 (HA.out.old hG) (HB.out.old hG)).mono ?_
      rintro r u2 ⟨rfl, rfl⟩; exact ⟨_, rfl, rfl, rfl⟩
    refine OweAll.cons (owesQ rfl rfl fun a w1 ha hG hV => ?_) ?_
    · skip
      have h7 : a.tmps.getD 7 undef = .int .i64 (Lib.compareBytes n1 n2) := hV.get 7 (by decide +kernel)
      exact ⟨.int .i64 (Lib.compareBytes n1 n2), wanted_free rfl, by simp [execOp, go_sem, h7], rfl⟩
    exact OweAll.nil
    ) ?_
  intro f wz hG hv
  have e4 : f 4 = .int .i64 (Lib.compareBytes n1 n2) := hv 3 _ 4 rfl rfl
  rename_i hK
  refine hK _ _ ?_
  clear hK hv
  simp only [dsts, puts, List.filterMap_cons, List.filterMap_nil, List.foldl_cons, List.foldl_nil, Act.put, List.setIfInBounds_toArray, List.set_cons_succ, List.set_cons_zero, e4]
  clear e4
  have HG : Hid (∃ q os', wz = grow (w.drewN q) os') := Lib.hid (by
    obtain ⟨q, rfl⟩ := hG
    obtain ⟨os, rfl⟩ := Hb.out
    exact ⟨q, os, rfl⟩)
  clear hG
  go_wp2_with fail
  go_ret
  exact ⟨rfl, HG.out⟩

theorem flat_get (M : Array Nm) (t : Nat) (h : t < M.size * 32) : (encN.all M.toList)[t]? = some ((flatK encN.f 32 M)[t]!) := by
  have hd : t / 32 < M.toList.length := by rw [Array.length_toList]; omega
  have hr : t % 32 < 32 := Nat.mod_lt _ (by decide)
  have he : t / 32 * 32 + t % 32 = t := by omega
  have h1 := encN.all_get M.toList (t / 32) (t % 32) hd hr
  rw [show encN.k = 32 from rfl, he] at h1
  rw [h1, get_flatK _ _ _ _ h]
  have hd2 : t / 32 < M.size := by simpa using hd
  rw [getElem!_pos M _ hd2, Array.getElem_toList]
  have hl : t % 32 < (encN.f M[t / 32]).length := by rw [encN.len]; exact hr
  rw [List.getElem?_eq_getElem hl, getElem!_pos (encN.f M[t / 32]) (t % 32) hl]
theorem Rw.holds {w : World} {g c : Nat} {L : List Nm} (h : Rw encN 39 w (some ⟨g, 0, none⟩) c L) : HoldsK encN.f 32 w g 0 L.toArray := by
  obtain ⟨cur, hh, h3, h1, h2, R, hR⟩ := h.parts
  intro j hj
  have hj2 : j < L.toArray.size * 32 := by simpa using hj
  refine ⟨?_, frozen_of_row w g _ _ 39 hh⟩
  rw [cell_of_row w g _ _ 39 (0, 0) hh, Nat.zero_add]
  have hl : j < (encN.all L).length := by rw [encN.all_len, show encN.k = 32 from rfl]; simpa using hj2
  have e := flat_get L.toArray j hj2
  rw [List.toList_toArray] at e
  rw [← Array.getElem?_toList, hR, List.getElem?_append_left hl, e]; rfl
theorem Rw.sorted {w : World} {g c : Nat} {L : List Nm} (h : Rw encN 39 w (some ⟨g, 0, none⟩) c L) (d : Array Nm) (hd : d.size = L.length) (m : Nat) (os : Array Obj) :
    Rw encN 39 (sortWorldK encN.f 32 w g 0 m d os) (some ⟨g, 0, none⟩) c d.toList ∧ Mod (fun i => i = g) w (sortWorldK encN.f 32 w g 0 m d os) := by
  obtain ⟨cur, hh, h3, h1, h2, R, hR⟩ := h.parts
  have hgl : g < w.heap.size := h.lt
  have hk : ∀ k, k < w.heap.size → (sortWorldK encN.f 32 w g 0 m d os).heap[k]? = if g = k then some (.cells (putCells id 0 (flatK encN.f 32 d) cur) 39 (0, 0)) else w.heap[k]? := by
    intro k hk
    have e : (sortWorldK encN.f 32 w g 0 m d os).heap = (w.heap.modify g (onCells (putCells id 0 (flatK encN.f 32 d)))) ++ os := rfl
    rw [e, Array.getElem?_append_left (by rw [Array.size_modify]; exact hk), Array.getElem?_modify]
    by_cases e1 : g = k
    · subst e1; rw [if_pos rfl, if_pos rfl, hh]; rfl
    · rw [if_neg e1, if_neg e1]
  refine ⟨Rw.of_row (by rw [hk g hgl, if_pos rfl]) (by rw [Array.length_toList, hd]; exact h1) h2 (by rw [← h3]; simp [putCells]) ?_, rfl, rfl, rfl, size_sortWorldK_c encN.f 32 w g 0 m d os, fun k hk1 hn => by rw [hk k hk1, if_neg (fun e => hn e.symm)]⟩
  have hcl : d.size * 32 ≤ cur.size := by rw [h3, hd]; exact Nat.mul_le_mul_right 32 h1
  apply List.ext_getElem?
  intro t
  by_cases ht : t < d.size * 32
  · rw [flat_get d t ht, List.getElem?_take_of_lt (by rw [Array.length_toList]; exact ht), Array.getElem?_toList]
    have htc : t < cur.size := by omega
    simp [putCells, htc, ht]
  · have h5 : (encN.all d.toList).length = d.size * 32 := by rw [encN.all_len, Array.length_toList]; rfl
    rw [List.getElem?_eq_none (by rw [List.length_take, Array.length_toList]; exact Nat.le_trans (Nat.min_le_left _ _) (Nat.le_of_not_lt ht)), List.getElem?_eq_none (by rw [h5]; omega)]

theorem sort_any (p : Option Addr) (c : Nat) (L : List Nm) (w : World) (hL : Rw encN 39 w p c L) (hn : L.length ≤ 1000000) :
    Calls Tryd.prog 43 #[.slice p L.length c, .func (.func 44) #[] #[]] w fun r w' => r = .returned (.tuple #[]) ∧ Rw encN 39 w' p c (ksort L) ∧ Mod (fun i => ∃ a, p = some a ∧ i = a.block) w w' := by
  by_cases h0 : L = []
  · subst h0
    have h := AnyF.slices_SortFunc_none Tryd.sortID p c (.func (.func 44) #[] #[]) w
    refine Calls.mono (show Calls Tryd.prog 43 _ _ _ from h) ?_
    rintro r w' ⟨rfl, rfl⟩
    refine ⟨rfl, ?_, Mod.refl _ _⟩
    rw [show ksort [] = [] by simp [ksort]]; exact hL
  · rcases hL.shape with ⟨_, e, _⟩ | ⟨g, rfl, hgl, _⟩
    · exact absurd e h0
    · have eg : ∀ args w, (callFunc 44 args).run Tryd.prog w = .ok (.enter 44 args) w := enters_of Tryd.func44 (by kernel_rfl) rfl
      have h := AnyQ.slices_SortFunc_total Tryd.sortID 32 Tryd.isAgg39 Tryd.sizeOf39 encN.f encN.len encN.one cfN cfN_swo 44 #[] g 0 c L.toArray w eg
        (fun _ _ _ _ x y => hcompare_grow x.1 y.1 _ x.2 y.2) hL.holds hgl (by rw [List.size_toArray]; omega) cfN_total
      rw [List.size_toArray] at h
      refine Calls.mono (show Calls Tryd.prog 43 _ _ _ from h) ?_
      rintro r w' ⟨rfl, m, os, rfl⟩
      have hs := hL.sorted (ksort L).toArray (by rw [List.size_toArray]; exact List.length_mergeSort _) m os
      rw [List.toList_toArray] at hs
      exact ⟨rfl, hs.1, hs.2.mono (fun i _ e => ⟨_, rfl, e⟩)⟩
end Go.Proofs.YtiegakeacghnfaaDoor

namespace Go.Proofs.YtiegakeacghnfaaDoor
open Go.RowKit Go.Sort

/-- Bytes. -/
def encB : Enc UInt8 := ⟨fun x => [.int .u8 (x.toNat : Int)], 1, fun _ => rfl, fun _ v hv => by rw [List.mem_singleton.1 hv]; rfl, Nat.one_pos⟩
theorem encB_all (l : List UInt8) : encB.all l = vals l := by
  induction l with
  | nil => rfl
  | cons a l ih => rw [show encB.all (a :: l) = encB.f a ++ encB.all l from rfl, ih]; rfl
theorem IdAt.rd {w : World} {g : Nat} {s : List UInt8} (h : IdAt w g s) : Rd encB w (some ⟨g, 0, none⟩) s := by
  intro j hj
  refine ⟨g, 0, rfl, h.lt, fun i u hu => ?_⟩
  have hi : i < 1 := by have := (List.getElem?_eq_some_iff.1 hu).1; rwa [encB.len] at this
  obtain rfl : i = 0 := by omega
  have e : u = .int .u8 (s[j].toNat : Int) := by simpa [encB] using hu.symm
  rw [e, show 0 + j * encB.k + 0 = j by simp [encB]]
  exact h.cell j hj
theorem Rw.text {w : World} {q : Option Addr} {c : Nat} {D : List UInt8} (h : Rw encB 5 w q c D) : (convert 43 9 (.slice q D.length c)).run Tryd.prog w = .ok (.string ⟨D.toArray⟩) w := by
  rcases h.shape with ⟨rfl, rfl, rfl⟩ | ⟨g, rfl, _⟩
  · exact run_convert_bytes_nil w 43 5 Tryd.underlying43 Tryd.underlying5 0 0 9 Tryd.underlying9
  · rw [run_convert_bytes_arg w 43 5 Tryd.underlying43 Tryd.underlying5 g 0 D.length c (D.map fun x => (x.toNat : Int)) (by simp) (fun i hi => by
      obtain ⟨b, off, e, _, hc⟩ := h.rd i hi
      cases e
      have := hc 0 _ rfl
      rw [show 0 + i * encB.k + 0 = i by simp [encB]] at this
      rw [Nat.zero_add, this]
      simp [List.getD, hi]) 9 Tryd.underlying9]
    simp [strOfNums, Function.comp_def]

theorem cloneN_any (ao : Option Addr) (cap : Nat) (L : List Nm) (w : World) (hL : Rd encN w ao L) (hao : ao = none ∨ ∃ b off, ao = some ⟨b, off, none⟩) (hn : L.length ≤ 1000000) :
    Calls Tryd.prog 42 #[.slice ao L.length cap] w fun r w' => ∃ p c, r = .returned (.slice p L.length c) ∧ Rw encN 39 w' p c L ∧ (∀ a, p = some a → w.heap.size ≤ a.block) ∧ Below w.heap.size w w' := by
  rcases hao with rfl | ⟨b, off, rfl⟩
  · have h0 : L = [] := by
      cases L with
      | nil => rfl
      | cons x l => obtain ⟨_, _, e, _⟩ := hL 0 (by simp); cases e
    subst h0
    refine Calls.mono (show Calls Tryd.prog 42 _ _ _ from AnyE.slices_Clone_nil Tryd.cloneID 0 cap w) ?_
    rintro r w' ⟨rfl, rfl⟩
    exact ⟨none, 0, rfl, Rw.empty _ _, (fun a e => by cases e), Below.refl _ _⟩
  · obtain ⟨i, hi, hzz⟩ := Option.map_eq_some_iff.1 info_name
    simp only [Prod.mk.injEq] at hzz
    obtain ⟨hz, h1, h2⟩ := hzz
    have h := AnyE.slices_Clone Tryd.cloneID i (.agg (vals zid).toArray) 32 32 hi hz h1 h2 rfl (by decide) Tryd.sizeOf39 b off L.length cap (encN.all L) w (encN.all_len L) (by unfold maxLen; omega) (by omega)
      (fun j u hj => by
        have hjl : j < L.length * 32 := by
          have := (List.getElem?_eq_some_iff.1 hj).1
          rwa [encN.all_len] at this
        have hd : j / 32 < L.length := by omega
        have hr : j % 32 < 32 := Nat.mod_lt _ (by decide)
        have he : j / 32 * 32 + j % 32 = j := by omega
        obtain ⟨bs', off', e, _, c1⟩ := hL (j / 32) hd
        cases e
        have e2 := encN.all_get L (j / 32) (j % 32) hd hr
        rw [show encN.k = 32 from rfl, he, hj] at e2
        have e3 := c1 _ _ e2.symm
        rw [Nat.add_assoc, show j / 32 * encN.k + j % 32 = j from he] at e3
        exact e3) (encN.all_one L)
    refine Calls.mono (show Calls Tryd.prog 42 _ _ _ from h) ?_
    rintro r w' ⟨v, rfl, hown, hne, hb⟩
    rcases hown.2 with ⟨e, h0⟩ | ⟨g, c', cur, e, hg, hh, h3, h4, h5, h6⟩
    · exact absurd e hne
    · refine ⟨some ⟨g, 0, none⟩, c', by rw [e], Rw.of_row hh h3 h4 h5 h6, (fun a e => by cases e; exact hg), hb⟩
end Go.Proofs.YtiegakeacghnfaaDoor

namespace Go.Proofs.YtiegakeacghnfaaDoor
open Go.RowKit Go.Sort

theorem info_u8k : (Tryd.prog.info? 5).map (fun i => (i.zero, i.size, i.bytes)) = some (some (.int .u8 0), 1, 1) := by kernel_rfl
/-- The names, rising, each once. -/
def kset (L : List Nm) : List Nm := cpt (ksort L) (ksort L).length
/-- Their bytes. -/
def kB (M : List Nm) : List UInt8 := M.flatMap (·.1)
theorem kB_app (A : List Nm) (x : Nm) : kB (A ++ [x]) = kB A ++ x.1 := by simp [kB]
theorem kB_len (A : List Nm) : (kB A).length = A.length * 32 := by
  induction A with
  | nil => rfl
  | cons x l ih => rw [show kB (x :: l) = x.1 ++ kB l by simp [kB], List.length_append, ih, x.2, List.length_cons]; omega
theorem ksort_len (L : List Nm) : (ksort L).length = L.length := List.length_mergeSort _
theorem kset_len (L : List Nm) : (kset L).length ≤ L.length := by have := cpt_len (ksort L) _ (Nat.le_refl _); unfold kset; rw [ksort_len] at this ⊢; exact this
theorem ind_one {L : List Nm} (h : L.length < 2) : cpt L L.length = L := by
  rw [cpt_all (Nat.le_refl _) (fun j hj => by obtain rfl : j = 0 := (by omega); rfl), List.take_length]
/-- Compact, of however many. -/
theorem compactN_any (p : Option Addr) (cap : Nat) (L : List Nm) (w : World) (hL : Rw encN 39 w p cap L) (hn : L.length ≤ 1000000) :
    Calls Tryd.prog 45 #[.slice p L.length cap] w fun r w' => r = .returned (.slice p (cpt L L.length).length cap) ∧ Rw encN 39 w' p cap (cpt L L.length) ∧ Mod (fun i => ∃ a, p = some a ∧ i = a.block) w w' := by
  by_cases h2 : L.length < 2
  · rw [ind_one h2]
    refine (compact_few p L.length cap w h2).mono ?_
    rintro r w' ⟨rfl, rfl⟩
    exact ⟨rfl, hL, Mod.refl _ _⟩
  · rcases hL.shape with ⟨_, rfl, _⟩ | ⟨g, rfl, hgl, _⟩
    · exact absurd (by decide) h2
    · refine (compact_any g cap L w hL hn (by omega)).mono ?_
      rintro r w' ⟨rfl, h3, h4⟩
      exact ⟨rfl, h3, h4.mono (fun i _ e => ⟨_, rfl, e⟩)⟩

set_option maxRecDepth 20000 in
set_option maxHeartbeats 4000000 in
theorem key_any (ao : Option Addr) (cap : Nat) (L : List Nm) (w : World) (hL : Rd encN w ao L) (hao : ao = none ∨ ∃ b off, ao = some ⟨b, off, none⟩) (hn : L.length ≤ 1000000) :
    Calls Tryd.prog 21 #[.slice ao L.length cap] w fun r w' => r = .returned (.string ⟨(kB (kset L)).toArray⟩) ∧ Below w.heap.size w w' := by
  have hclone := cloneN_any ao cap L w hL hao hn
  obtain ⟨n, hnL⟩ : ∃ n, n = L.length := ⟨_, rfl⟩
  obtain ⟨F, hF⟩ : ∃ F : Ending → World → Prop, F = fun r w' => r = .returned (.string ⟨(kB (kset L)).toArray⟩) ∧ Below w.heap.size w w' := ⟨_, rfl⟩
  rw [← hF]
  have HF := Lib.hid hF
  rw [← hnL] at hn hclone ⊢
  have HC := Lib.hid hclone
  have Hn := Lib.hid hnL
  have hsort : Hid (∀ p c w, Rw encN 39 w p c L → Calls Tryd.prog 43 #[.slice p n c, .func (.func 44) #[] #[]] w fun r w' => r = .returned (.tuple #[]) ∧ Rw encN 39 w' p c (ksort L) ∧ Mod (fun i => ∃ a, p = some a ∧ i = a.block) w w') := Lib.hid (fun p c w h => by rw [hnL]; exact sort_any p c L w h (by rw [← hnL]; exact hn))
  obtain ⟨M, hM⟩ : ∃ M, M = kset L := ⟨_, rfl⟩
  obtain ⟨N, hN⟩ : ∃ N, N = M.length := ⟨_, rfl⟩
  have hNn : N ≤ n := by rw [hN, hM, hnL]; exact kset_len L
  have hcomp : Hid (∀ p c w, Rw encN 39 w p c (ksort L) → Calls Tryd.prog 45 #[.slice p n c] w fun r w' => r = .returned (.slice p N c) ∧ Rw encN 39 w' p c M ∧ Mod (fun i => ∃ a, p = some a ∧ i = a.block) w w') := Lib.hid (fun p c w h => by
    have := compactN_any p c (ksort L) w h (by rw [ksort_len, ← hnL]; exact hn)
    rw [ksort_len, ← hnL] at this
    rw [hN, hM, kset, ksort_len, ← hnL]; exact this)
  have HM := Lib.hid hM
  have HN := Lib.hid hN
  clear hF hclone hnL hM hN hL hao
  go_enter Tryd.func21, Tryd.ntmps21
  go_wp2_with (first | (refine HC.out.mono ?_; rintro r w1 ⟨p, c, rfl, hr1, hp1, hb1⟩) | (refine (hsort.out p c w1 hr1).mono ?_; rintro r w2 ⟨rfl, hr2, hm2⟩) | (refine (hcomp.out p c w2 hr2).mono ?_; rintro r w3 ⟨rfl, hr3, hm3⟩))
  have Hb : Hid (Below w.heap.size w w3) := Lib.hid (by
    have h1 := (Mod.of_below hb1).trans hm2 (fun i hi h => by obtain ⟨a, e, rfl⟩ := h; exact hp1 a e)
    have h2 := h1.trans hm3 (fun i hi h => by obtain ⟨a, e, rfl⟩ := h; exact hp1 a e)
    exact h2.to_below (Nat.le_refl _) (fun k hk h => by omega))
  have HR3 := Lib.hid hr3
  clear hr1 hp1 hb1 hr2 hm2 hr3 hm3 HC hsort hcomp
  go_loopw [4, 14] (fun s4 s14 wr => ∃ (i : Nat) (q : Option Addr) (d : Nat), i ≤ N ∧ s14 = .int .i64 (i : Int) ∧ s4 = .slice q (i * 32) d ∧ Hid (AccR encB 5 w3 (i * 32) (kB (M.take i)) q d wr)) (fun _ i _ => N - (intOf i).toNat)
  case atStart => exact ⟨0, none, 0, Nat.zero_le _, by go_num, rfl, Lib.hid (by simpa [kB] using AccR.zero encB 5 w3)⟩
  case round =>
    obtain ⟨i, q, d, hi, rfl, rfl, HB⟩ := hrel
    by_cases hlt : i < N
    · have hiM : i < M.length := by rw [← HN.out]; exact hlt
      obtain ⟨bs, off, hp, hbs, c1⟩ := (HR3.out.rd.old HB.out.m) i hiM
      have hnx : M.take (i + 1) = M.take i ++ [M[i]] := List.take_succ_eq_append_getElem hiM
      obtain ⟨x, hx⟩ : ∃ x, x = M[i] := ⟨_, rfl⟩
      rw [← hx] at c1 hnx
      subst hp
      have C1 := Lib.hid c1
      have hrl : wr.heap.size = wr.heap.size := rfl
      obtain ⟨Z, hZ⟩ : ∃ Z, Z = (vals zid).toArray := ⟨_, rfl⟩
      have hz : ∀ w, (zeroValue 39).run Tryd.prog w = .ok (.agg Z) w := by rw [hZ]; exact zid_run
      have hzs : Z.size = 32 := by rw [hZ]; exact zid_len
      have hbx : (wr.alloc (.cells Z 39)).heap[wr.heap.size]? = some (.cells Z 39 (0, 0)) := heap_alloc_new wr _
      have Hid2 : Hid (IdAt ((wr.alloc (.cells Z 39)).setRow wr.heap.size (vals x.1).toArray) wr.heap.size x.1) := Lib.hid (IdAt.stored x.2)
      have HA2 : Hid (AccR encB 5 w3 (i * 32) (kB (M.take i)) q d ((wr.alloc (.cells Z 39)).setRow wr.heap.size (vals x.1).toArray)) := Lib.hid (HB.out.below stored_below)
      have q3 := id_info x.2
      have q4 := id_one x.1
      have q2 : Z.size = (vals x.1).toArray.size := by rw [hzs, id_size x.2]
      have Hnx : Hid (kB (M.take (i + 1)) = kB (M.take i) ++ x.1) := Lib.hid (by rw [hnx, kB_app])
      have HDl : Hid ((kB (M.take i)).length = i * 32) := Lib.hid (by rw [kB_len, List.length_take, Nat.min_eq_left (by omega)])
      have Hxl : Hid (x.1.length = 32) := Lib.hid x.2
      generalize kB (M.take i) = D at HA2 Hnx HDl HB
      have i0 : (0 : Int) ≤ i := by omega
      have i1 : (i : Int) < N := by omega
      have Hlt := Lib.hid hlt
      have hnl : N ≤ 1000000 := Nat.le_trans hNn hn
      clear hx c1 hnx hZ hiM hrl hlt
      go_wp2_with (first | (refine wpList_exec rfl (exec_load_mid (.tmp 16) rfl bs (off + i * 32) rfl x C1.out) ?_) | (refine wpList_store_row rfl rfl 39 (.tmp 6) (.tmp 17) rfl wr.heap.size rfl 39 Z (vals x.1).toArray rfl hbx q2 q3 q4 ?_) | (at_builtin; refine wpList_pushR encB rfl (.tmp 18) (.tmp 19) 43 5 (.int .u8 0) 1 rfl Tryd.underlying43 info_u8k rfl (by decide) q d (i * 32) D HDl.out rfl HA2.out.s (some ⟨wr.heap.size, 0, none⟩) 32 32 x.1 Hxl.out rfl Hid2.out.rd (by omega) ?_; intro q' d' w5 hP))
      have HP : Hid (AccR encB 5 w3 ((i + 1) * 32) (kB (M.take (i + 1))) q' d' w5) := Lib.hid (by
        have h := HA2.out.push hP
        rw [Hxl.out] at h
        rw [Hnx.out, Nat.add_mul, Nat.one_mul]; exact h)
      have hlt := Hlt.out
      clear hP HA2
      go_roundw
      case rel => exact ⟨i + 1, q', d', by omega, by go_num, by rw [Nat.add_mul, Nat.one_mul], HP⟩
      case measure => simp [intOf]; omega
    · have hN : i = N := by omega
      subst hN
      have i1 : ¬ (i : Int) < i := by omega
      have ht : M.take i = M := by rw [HN.out, List.take_length]
      rw [ht] at HB
      have hcv := HB.out.s.text
      rw [HB.out.len] at hcv
      have Hfin : Hid (Below w.heap.size w wr) := Lib.hid (Hb.out.trans (HB.out.m.mono Hb.out.size))
      obtain ⟨S, hS⟩ : ∃ S, S = (⟨(kB M).toArray⟩ : ByteArray) := ⟨_, rfl⟩
      rw [← hS] at hcv
      have HS := Lib.hid hS
      clear ht hS HB
      go_wp2_with fail
      rw [HF.out]
      exact ⟨by rw [HS.out, HM.out], Hfin.out⟩
end Go.Proofs.YtiegakeacghnfaaDoor

namespace Go.Proofs.YtiegakeacghnfaaDoor
open Go.RowKit

/-- The bytes of a family, the key's bytes being K. -/
def hfam {α : Type} (h : Hd α) (K : List UInt8) : List UInt8 := numL h.ht ++ numL (pwN h.pw) ++ (numL K.length ++ K)

set_option maxRecDepth 20000 in
set_option maxHeartbeats 8000000 in
theorem hfamily_any (h : Hd Nm) (ao : Option Addr) (cap : Nat) (w : World) (hL : Rd encN w ao h.ps) (hao : ao = none ∨ ∃ b off, ao = some ⟨b, off, none⟩) (hn : h.ps.length ≤ 1000000) (hpw : h.pw < 18446744073709551616)
    (b1 : -9223372036854775808 ≤ h.ht ∧ h.ht ≤ 9223372036854775807) :
    Calls Tryd.prog 17 #[.agg (hcells h ao cap)] w fun r w' => r = .returned (.string ⟨(hfam h (kB (kset h.ps))).toArray⟩) ∧ Below w.heap.size w w' := by
  obtain ⟨ht, mi, tk, wi, pw, ps, sa⟩ := h
  simp only at hL hn hpw b1
  have n1 := numL_len ht (by have := b1.2; omega)
  have hp5 := pwN_bd pw
  have n5 := numL_len (pwN pw) (by omega)
  have hnum := Lib.hid (fun w => hnumber_any pw w hpw)
  obtain ⟨n, hnp⟩ : ∃ n, n = ps.length := ⟨_, rfl⟩
  obtain ⟨K, hK⟩ : ∃ K, K = kB (kset ps) := ⟨_, rfl⟩
  have hKl : K.length ≤ 32000000 := by rw [hK, kB_len]; have := kset_len ps; omega
  have hkey : Hid (∀ w1, Rd encN w1 ao ps → Calls Tryd.prog 21 #[.slice ao n cap] w1 fun r w' => r = .returned (.string ⟨K.toArray⟩) ∧ Below w1.heap.size w1 w') := Lib.hid (fun w1 h => by rw [hK, hnp]; exact key_any ao cap ps w1 h hao hn)
  obtain ⟨B1, hB1⟩ : ∃ B, B = numL ht := ⟨_, rfl⟩
  obtain ⟨B2, hB2⟩ : ∃ B, B = B1 ++ numL (pwN pw) := ⟨_, rfl⟩
  obtain ⟨B3, hB3⟩ : ∃ B, B = B2 ++ (numL K.length ++ K) := ⟨_, rfl⟩
  have l1 : B1.length ≤ 9 := by rw [hB1]; exact n1
  have l2 : B2.length ≤ 18 := by rw [hB2, List.length_append]; omega
  have hfin : hfam (⟨ht, mi, tk, wi, pw, ps, sa⟩ : Hd Nm) K = B3 := by rw [hB3, hB2, hB1]; rfl
  simp only
  rw [← hK, hfin]
  unfold hcells
  simp only
  rw [← hnp]
  obtain ⟨W0, hW0⟩ : ∃ W0, W0 = w.alloc (.cells #[.int .i64 ht, .int .i64 mi, .string ⟨tk.toArray⟩, .int .i64 wi, .int .u64 (pw : Int), .slice ao n cap, .int .i64 sa] 30) := ⟨_, rfl⟩
  have hbox : W0.heap[w.heap.size]? = some (.cells #[.int .i64 ht, .int .i64 mi, .string ⟨tk.toArray⟩, .int .i64 wi, .int .u64 (pw : Int), .slice ao n cap, .int .i64 sa] 30 (0, 0)) := by rw [hW0]; exact heap_alloc_new _ _
  have hbw : Below w.heap.size w W0 := by rw [hW0]; exact (Below.refl _ _).alloc (Nat.le_refl _) _
  obtain ⟨b, hb⟩ : ∃ b, b = W0.heap.size := ⟨_, rfl⟩
  have hgb : w.heap.size < b := by rw [hb]; exact (Array.getElem?_eq_some_iff.1 hbox).1
  have hmade := OutSt.made W0
  rw [← hb] at hmade
  have hread : Hid (∀ (bs : List UInt8) (w1 : World), OutSt W0 b bs w1 → w1.cell? ⟨w.heap.size, 0, none⟩ = some (.int .i64 ht) ∧ w1.cell? ⟨w.heap.size, 4, none⟩ = some (.int .u64 (pw : Int)) ∧ w1.cell? ⟨w.heap.size, 5, none⟩ = some (.slice ao n cap)) := Lib.hid (by
    intro bs w1 h1
    have hh := (h1.below.block _ hgb).trans hbox
    have hc := fun i => cell_of_row w1 w.heap.size i _ 30 (0, 0) hh
    exact ⟨hc 0, hc 4, hc 5⟩)
  have hrd : Hid (∀ (bs : List UInt8) (w1 : World), OutSt W0 b bs w1 → Rd encN w1 ao ps ∧ Below w.heap.size w w1) := Lib.hid (by
    intro bs w1 h1
    have h2 : Below w.heap.size w w1 := hbw.trans (h1.below.mono (Nat.le_of_lt hgb))
    exact ⟨hL.old h2, h2⟩)
  have HB1 := Lib.hid hB1
  have HB2 := Lib.hid hB2
  have HB3 := Lib.hid hB3
  have HW0 := Lib.hid hW0
  have Hb2 : Hid (w.heap.size + 1 = b) := Lib.hid (by rw [hb, hW0, World.size_alloc])
  clear hB1 hB2 hB3 hnp hfin hbox hbw hW0 hb hL n1 n5 hK hao
  go_enter Tryd.func17, Tryd.ntmps17
  go_wp2_with fail
  rw [← HW0.out, Hb2.out]
  have HG0 : Hid ((fun (j : Nat) (_ : Value) (w1 : World) => OutSt W0 b (match j with | 0 => [] | 1 => B1 | 2 => B2 | _ => B3) w1) 0 undef (W0.alloc (.cells #[.slice none 0 0] 61)).drew) := Lib.hid (by
    obtain ⟨v, h1, h2, h3⟩ := hmade
    exact ⟨v, h1.kept (Mod.drew (Mod.refl (fun _ => False) _)) (fun h => h) (fun _ _ h => h), h2, h3.drew⟩)
  clear hmade
  generalize W0.alloc (.cells #[.slice none 0 0] 61) = W1 at HG0 ⊢
  generalize hgg : w.heap.size = g at hread hrd hgb ⊢
  have HGG : Hid (g = w.heap.size) := Lib.hid hgg.symm
  clear hgg
  refine wp_region_chain (fun t v => match t with
    | 4 => v = .pointer (some ⟨g, 0, none⟩)
    | 5 => v = .int .i64 ht
    | 6 => v = .pointer (some ⟨b, 0, none⟩)
    | 7 => v = .pointer (some ⟨g, 4, none⟩)
    | 8 => v = .int .u64 (pw : Int)
    | 9 => v = .int .i64 (pwN pw)
    | 10 => v = .pointer (some ⟨b, 0, none⟩)
    | 11 => v = .pointer (some ⟨g, 5, none⟩)
    | 12 => v = .slice ao n cap
    | 13 => v = .string ⟨K.toArray⟩
    | 14 => v = .pointer (some ⟨b, 0, none⟩)
    | 15 => v = .string ⟨B3.toArray⟩
    | 2 => v = .string ⟨B3.toArray⟩
    | _ => True) (fun (j : Nat) (_ : Value) (w1 : World) => OutSt W0 b (match j with | 0 => [] | 1 => B1 | 2 => B2 | _ => B3) w1) [2, 6, 10, 11] 16 (by kernel_rfl) (by decide +kernel) rfl (by decide +kernel) (by decide) (by decide) HG0.out (by
    refine OweAllC.cons (owesC_val 0 (by decide +kernel) (by decide) rfl rfl fun k' a w1 x hk ha hG hV => ?_) ?_
    · skip
      have h1 := ha.outer 1 (by decide +kernel)
      simp only [Act.eval] at h1
      exact ⟨.pointer (some ⟨g, 0, none⟩), wanted_free rfl, by simp [execOp, go_sem, h1], rfl⟩
    refine OweAllC.cons (owesC_val 0 (by decide +kernel) (by decide) rfl rfl fun k' a w1 x hk ha hG hV => ?_) ?_
    · skip
      have h4 : a.tmps.getD 4 undef = .pointer (some ⟨g, 0, none⟩) := hV.get 4 (by decide +kernel)
      have cc := hread.out _ w1 hG
      exact ⟨.int .i64 ht, wanted_free rfl, by simp [execOp, go_sem, h4, cc.1], rfl⟩
    refine OweAllC.cons (owesC_call 0 rfl rfl rfl 33 fun a w1 x ha hG hx hV => ?_) ?_
    · skip
      have h3 := ha.outer 3 (by decide +kernel)
      simp only [Act.eval] at h3
      have h5 : a.tmps.getD 5 undef = .int .i64 ht := hV.get 5 (by decide +kernel)
      refine ⟨#[.pointer (some ⟨b, 0, none⟩), .int .i64 ht], wanted_free rfl, by simp [go_sem, h3, h5], ?_⟩
      refine (out_num W0 b [] ht w1 hG (by simp) b1.1 b1.2).mono ?_
      rintro r u2 ⟨rfl, hO⟩; exact ⟨_, rfl, rfl, by rw [List.nil_append, ← HB1.out] at hO; exact hO⟩
    refine OweAllC.cons (owesC_val 1 (by decide +kernel) (by decide) rfl rfl fun k' a w1 x hk ha hG hV => ?_) ?_
    · skip
      have h1 := ha.outer 1 (by decide +kernel)
      simp only [Act.eval] at h1
      exact ⟨.pointer (some ⟨g, 4, none⟩), wanted_free rfl, by simp [execOp, go_sem, h1], rfl⟩
    refine OweAllC.cons (owesC_val 1 (by decide +kernel) (by decide) rfl rfl fun k' a w1 x hk ha hG hV => ?_) ?_
    · skip
      have h7 : a.tmps.getD 7 undef = .pointer (some ⟨g, 4, none⟩) := hV.get 7 (by decide +kernel)
      have cc := hread.out _ w1 hG
      exact ⟨.int .u64 (pw : Int), wanted_free rfl, by simp [execOp, go_sem, h7, cc.2.1], rfl⟩
    refine OweAllC.cons (owesC_side 1 (by decide +kernel) (by decide) rfl rfl 35 fun k' a w1 x hk ha hG hV => ?_) ?_
    · skip
      have h8 : a.tmps.getD 8 undef = .int .u64 (pw : Int) := hV.get 8 (by decide +kernel)
      refine ⟨#[.int .u64 (pw : Int)], wanted_free rfl, by simp [go_sem, h8], ?_⟩
      refine (hnum.out w1).mono ?_
      rintro r u2 ⟨rfl, rfl⟩; exact ⟨_, rfl, rfl, hG⟩
    refine OweAllC.cons (owesC_call 1 rfl rfl rfl 33 fun a w1 x ha hG hx hV => ?_) ?_
    · skip
      have h6 : a.tmps.getD 6 undef = .pointer (some ⟨b, 0, none⟩) := hV.get 6 (by decide +kernel)
      have h9 : a.tmps.getD 9 undef = .int .i64 (pwN pw) := hV.get 9 (by decide +kernel)
      refine ⟨#[.pointer (some ⟨b, 0, none⟩), .int .i64 (pwN pw)], wanted_free rfl, by simp [go_sem, h6, h9], ?_⟩
      refine (out_num W0 b B1 (pwN pw) w1 hG (by omega) (by omega) (by omega)).mono ?_
      rintro r u2 ⟨rfl, hO⟩; exact ⟨_, rfl, rfl, by rw [← HB2.out] at hO; exact hO⟩
    refine OweAllC.cons (owesC_val 2 (by decide +kernel) (by decide) rfl rfl fun k' a w1 x hk ha hG hV => ?_) ?_
    · skip
      have h1 := ha.outer 1 (by decide +kernel)
      simp only [Act.eval] at h1
      exact ⟨.pointer (some ⟨g, 5, none⟩), wanted_free rfl, by simp [execOp, go_sem, h1], rfl⟩
    refine OweAllC.cons (owesC_val 2 (by decide +kernel) (by decide) rfl rfl fun k' a w1 x hk ha hG hV => ?_) ?_
    · skip
      have h11 : a.tmps.getD 11 undef = .pointer (some ⟨g, 5, none⟩) := hV.get 11 (by decide +kernel)
      have cc := hread.out _ w1 hG
      exact ⟨.slice ao n cap, wanted_free rfl, by simp [execOp, go_sem, h11, cc.2.2], rfl⟩
    refine OweAllC.cons (owesC_side 2 (by decide +kernel) (by decide) rfl rfl 21 fun k' a w1 x hk ha hG hV => ?_) ?_
    · skip
      have h12 : a.tmps.getD 12 undef = .slice ao n cap := hV.get 12 (by decide +kernel)
      refine ⟨#[.slice ao n cap], wanted_free rfl, by simp [go_sem, h12], ?_⟩
      refine (hkey.out w1 (hrd.out _ w1 hG).1).mono ?_
      rintro r u2 ⟨rfl, hb⟩; exact ⟨_, rfl, rfl, hG.old hb⟩
    refine OweAllC.cons (owesC_call 2 rfl rfl rfl 34 fun a w1 x ha hG hx hV => ?_) ?_
    · skip
      have h10 : a.tmps.getD 10 undef = .pointer (some ⟨b, 0, none⟩) := hV.get 10 (by decide +kernel)
      have h13 : a.tmps.getD 13 undef = .string ⟨K.toArray⟩ := hV.get 13 (by decide +kernel)
      refine ⟨#[.pointer (some ⟨b, 0, none⟩), .string ⟨K.toArray⟩], wanted_free rfl, by simp [go_sem, h10, h13], ?_⟩
      refine (out_text W0 b B2 K w1 hG (by omega) (by omega)).mono ?_
      rintro r u2 ⟨rfl, hO⟩; exact ⟨_, rfl, rfl, by rw [← HB3.out] at hO; exact hO⟩
    refine OweAllC.cons (owesC_call 3 rfl rfl rfl 37 fun a w1 x ha hG hx hV => ?_) ?_
    · skip
      have h14 : a.tmps.getD 14 undef = .pointer (some ⟨b, 0, none⟩) := hV.get 14 (by decide +kernel)
      refine ⟨#[.pointer (some ⟨b, 0, none⟩)], wanted_free rfl, by simp [go_sem, h14], ?_⟩
      refine (out_bytes W0 b B3 w1 hG).mono ?_
      rintro r u2 ⟨rfl, rfl⟩; exact ⟨_, rfl, rfl, hG⟩
    refine OweAllC.cons (owesC_val 4 (by decide +kernel) (by decide) rfl rfl fun k' a w1 x hk ha hG hV => ?_) ?_
    · skip
      have h15 : a.tmps.getD 15 undef = .string ⟨B3.toArray⟩ := hV.get 15 (by decide +kernel)
      exact ⟨.string ⟨B3.toArray⟩, wanted_free rfl, by simp [execOp, go_sem, h15], rfl⟩
    exact OweAllC.nil
    ) ?_
  intro f wz xz hG hx hv
  have e2 : f 2 = .string ⟨B3.toArray⟩ := hv 12 _ 2 rfl rfl
  first | (rename_i hK; refine hK _ _ ?_; clear hK) | (rename_i hK _; refine hK _ _ ?_; clear hK) | (rename_i hK _ _; refine hK _ _ ?_; clear hK) | (rename_i hK _ _ _; refine hK _ _ ?_; clear hK)
  clear hv hx
  simp only [dsts, puts, List.filterMap_cons, List.filterMap_nil, List.foldl_cons, List.foldl_nil, Act.put, List.setIfInBounds_toArray, List.set_cons_succ, List.set_cons_zero, e2]
  clear e2
  have hG5 : OutSt W0 b B3 wz := hG
  have hB5 := Lib.hid (hrd.out _ wz hG5).2
  clear hG HG0 hG5
  go_wp2_with fail
  go_ret
  exact ⟨rfl, HGG.out ▸ hB5.out⟩
end Go.Proofs.YtiegakeacghnfaaDoor

namespace Go.Proofs.YtiegakeacghnfaaDoor
open Go.RowKit

def TextsV (R : List (List UInt8)) : Stays := ⟨fun v w => ∃ q c, v = .slice q R.length c ∧ Rd encS w q R, fun {v w w'} h hb => by obtain ⟨q, c, e, hR⟩ := h; exact ⟨q, c, e, hR.old hb⟩⟩

set_option maxRecDepth 20000 in
set_option maxHeartbeats 8000000 in
theorem rfamily_any (h : Hd (List UInt8)) (ao : Option Addr) (cap : Nat) (w : World) (hL : Rd encS w ao h.ps) (hn : h.ps.length ≤ 100000) (hpw : h.pw ≤ 9223372036854775807) (b1 : -9223372036854775808 ≤ h.ht ∧ h.ht ≤ 9223372036854775807) (hj : (rsort h.ps).flatten.length ≤ 100000000) :
    Calls Tryd.prog 18 #[.agg (hcells h ao cap)] w fun r w' => r = .returned (.string ⟨(hfam h (rsort h.ps).flatten).toArray⟩) ∧ Below w.heap.size w w' := by
  obtain ⟨ht, mi, tk, wi, pw, ps, sa⟩ := h
  simp only at hL hn hpw b1 hj
  have n1 := numL_len ht (by have := b1.2; omega)
  have n5 := numL_len (pw : Int) (by omega)
  have hp5 : pwN pw = (pw : Int) := by unfold pwN; rw [if_neg (by omega)]
  have hsl := rsort_len ps
  have SO : Hid (∀ w, Rd encS w ao ps → Calls Tryd.prog 22 #[.slice ao ps.length cap] w fun r w' => ∃ q c, r = .returned (.slice q (rsort ps).length c) ∧ Rw encS 9 w' q c (rsort ps) ∧ (∀ a, q = some a → w.heap.size ≤ a.block) ∧ Below w.heap.size w w') := Lib.hid (fun w h => rsorts_any ao cap ps w h hn)
  obtain ⟨RS, hRS⟩ : ∃ R, R = rsort ps := ⟨_, rfl⟩
  rw [← hRS] at SO hj hsl ⊢
  have JN : Hid (∀ q c w, Rd encS w q RS → Calls Tryd.prog 23 #[.slice q RS.length c] w fun r w' => r = .returned (.string ⟨RS.flatten.toArray⟩) ∧ w = w') := Lib.hid (fun q c w h => rjoin_any q c RS w h (by omega) (by omega))
  obtain ⟨J, hJ⟩ : ∃ J, J = RS.flatten := ⟨_, rfl⟩
  rw [← hJ] at JN hj ⊢
  have nJ := numL_len (J.length : Int) (by omega)
  have hfin : hfam (⟨ht, mi, tk, wi, pw, ps, sa⟩ : Hd (List UInt8)) J = (numL ht ++ numL pw) ++ (numL J.length ++ J) := by
    simp [hfam, hp5]
  rw [hfin]
  have K1 : Hid (∀ w, Calls Tryd.prog 39 #[.int .i64 ht] w fun r w' => r = .returned (.string ⟨(numL ht).toArray⟩) ∧ Below w.heap.size w w') := Lib.hid (fun w => refnum_any ht w b1.1 b1.2)
  have K5 : Hid (∀ w, Calls Tryd.prog 39 #[.int .i64 (pw : Int)] w fun r w' => r = .returned (.string ⟨(numL pw).toArray⟩) ∧ Below w.heap.size w w') := Lib.hid (fun w => refnum_any pw w (by omega) (by omega))
  have K3 : Hid (∀ w, Calls Tryd.prog 40 #[.string ⟨J.toArray⟩] w fun r w' => r = .returned (.string ⟨(numL J.length ++ J).toArray⟩) ∧ Below w.heap.size w w') := Lib.hid (fun w => reftext_any J w (by omega))
  have l3 : (numL J.length ++ J).length ≤ 100000009 := by rw [List.length_append]; omega
  generalize numL ht = N1 at K1 n1 ⊢
  generalize numL (pw : Int) = N5 at K5 n5 ⊢
  generalize numL J.length ++ J = N3 at K3 l3 ⊢
  have a1 : (N1 ++ N5).length ≤ 18 := by rw [List.length_append]; omega
  have hwr : IntKind.i64.wrap (pw : Int) = (pw : Int) := IntWalk.i64_in _ (by omega)
  obtain ⟨n, hn2⟩ : ∃ n, n = ps.length := ⟨_, rfl⟩
  unfold hcells
  simp only
  rw [← hn2] at SO ⊢
  obtain ⟨W0, hW0⟩ : ∃ W0, W0 = w.alloc (.cells #[.int .i64 ht, .int .i64 mi, .string ⟨tk.toArray⟩, .int .i64 wi, .int .u64 (pw : Int), .slice ao n cap, .int .i64 sa] 25) := ⟨_, rfl⟩
  have hbox : W0.heap[w.heap.size]? = some (.cells #[.int .i64 ht, .int .i64 mi, .string ⟨tk.toArray⟩, .int .i64 wi, .int .u64 (pw : Int), .slice ao n cap, .int .i64 sa] 25 (0, 0)) := by rw [hW0]; exact heap_alloc_new _ _
  have hbw : Below w.heap.size w W0 := by rw [hW0]; exact (Below.refl _ _).alloc (Nat.le_refl _) _
  have hread : Hid (∀ (w1 : World), Below W0.heap.size W0 w1 → w1.cell? ⟨w.heap.size, 0, none⟩ = some (.int .i64 ht) ∧ w1.cell? ⟨w.heap.size, 4, none⟩ = some (.int .u64 (pw : Int)) ∧ w1.cell? ⟨w.heap.size, 5, none⟩ = some (.slice ao n cap) ∧ Rd encS w1 ao ps ∧ Below w.heap.size w w1) := Lib.hid (by
    intro w1 h1
    have hh := (h1.block _ (Array.getElem?_eq_some_iff.1 hbox).1).trans hbox
    have hc := fun i => cell_of_row w1 w.heap.size i _ 25 (0, 0) hh
    have h2 := hbw.trans (h1.mono hbw.size)
    exact ⟨hc 0, hc 4, hc 5, hL.old h2, h2⟩)
  have HW0 := Lib.hid hW0
  clear hn2 hRS hJ hW0 hbox hbw hL hfin hp5
  go_enter Tryd.func18, Tryd.ntmps18
  go_wp2_with fail
  rw [← HW0.out]
  generalize hgg : w.heap.size = g at hread ⊢
  have HGG : Hid (g = w.heap.size) := Lib.hid hgg.symm
  clear hgg
  refine wp_region_puts (fun t v w => VK (match t with
    | 3 => .eq (.pointer (some ⟨g, 0, none⟩))
    | 4 => .eq (.int .i64 ht)
    | 5 => .eq (.string ⟨N1.toArray⟩)
    | 6 => .eq (.pointer (some ⟨g, 4, none⟩))
    | 7 => .eq (.int .u64 (pw : Int))
    | 8 => .eq (.int .i64 (pw : Int))
    | 9 => .eq (.string ⟨N5.toArray⟩)
    | 10 => .eq (.string ⟨((N1) ++ (N5)).toArray⟩)
    | 11 => .eq (.pointer (some ⟨g, 5, none⟩))
    | 12 => .eq (.slice ao n cap)
    | 13 => .st (TextsV RS)
    | 14 => .eq (.string ⟨J.toArray⟩)
    | 15 => .eq (.string ⟨N3.toArray⟩)
    | 16 => .eq (.string ⟨(((N1) ++ (N5)) ++ (N3)).toArray⟩)
    | 2 => .eq (.string ⟨(((N1) ++ (N5)) ++ (N3)).toArray⟩)
    | _ => .any) v w) (fun w' => Below W0.heap.size W0 w') 17 (by kernel_rfl) (by decide +kernel) rfl (Below.refl _ _).drew (by
    refine OweAll.cons (owesK rfl rfl fun a w1 ha hG hV => ?_) ?_
    · skip
      have h1 := ha.outer 1 (by decide +kernel)
      simp only [Act.eval] at h1
      exact ⟨.pointer (some ⟨g, 0, none⟩), w1, wanted_free rfl, by simp [execOp, go_sem, h1], Below.refl _ _, rfl⟩
    refine OweAll.cons (owesK rfl rfl fun a w1 ha hG hV => ?_) ?_
    · skip
      have h3 : a.tmps.getD 3 undef = .pointer (some ⟨g, 0, none⟩) := hV.get 3 (by decide +kernel)
      have cc := hread.out w1 hG
      exact ⟨.int .i64 ht, w1, wanted_free rfl, by simp [execOp, go_sem, h3, cc.1], Below.refl _ _, rfl⟩
    refine OweAll.cons (owesK_call rfl rfl 39 fun a w1 ha hG hV => ?_) ?_
    · skip
      have h4 : a.tmps.getD 4 undef = .int .i64 ht := hV.get 4 (by decide +kernel)
      refine ⟨#[.int .i64 ht], wanted_free rfl, by simp [go_sem, h4], ?_⟩
      refine (K1.out w1).mono ?_
      rintro r u2 ⟨rfl, hb⟩; exact ⟨_, rfl, rfl, hb⟩
    refine OweAll.cons (owesK rfl rfl fun a w1 ha hG hV => ?_) ?_
    · skip
      have h1 := ha.outer 1 (by decide +kernel)
      simp only [Act.eval] at h1
      exact ⟨.pointer (some ⟨g, 4, none⟩), w1, wanted_free rfl, by simp [execOp, go_sem, h1], Below.refl _ _, rfl⟩
    refine OweAll.cons (owesK rfl rfl fun a w1 ha hG hV => ?_) ?_
    · skip
      have h6 : a.tmps.getD 6 undef = .pointer (some ⟨g, 4, none⟩) := hV.get 6 (by decide +kernel)
      have cc := hread.out w1 hG
      exact ⟨.int .u64 (pw : Int), w1, wanted_free rfl, by simp [execOp, go_sem, h6, cc.2.1], Below.refl _ _, rfl⟩
    refine OweAll.cons (owesK rfl rfl fun a w1 ha hG hV => ?_) ?_
    · skip
      have h7 : a.tmps.getD 7 undef = .int .u64 (pw : Int) := hV.get 7 (by decide +kernel)
      exact ⟨.int .i64 (pw : Int), w1, wanted_free rfl, by simp [execOp, go_sem, h7, hwr, Tryd.underlying22, Tryd.underlying3], Below.refl _ _, rfl⟩
    refine OweAll.cons (owesK_call rfl rfl 39 fun a w1 ha hG hV => ?_) ?_
    · skip
      have h8 : a.tmps.getD 8 undef = .int .i64 (pw : Int) := hV.get 8 (by decide +kernel)
      refine ⟨#[.int .i64 (pw : Int)], wanted_free rfl, by simp [go_sem, h8], ?_⟩
      refine (K5.out w1).mono ?_
      rintro r u2 ⟨rfl, hb⟩; exact ⟨_, rfl, rfl, hb⟩
    refine OweAll.cons (owesK rfl rfl fun a w1 ha hG hV => ?_) ?_
    · skip
      have h5 : a.tmps.getD 5 undef = .string ⟨N1.toArray⟩ := hV.get 5 (by decide +kernel)
      have h9 : a.tmps.getD 9 undef = .string ⟨N5.toArray⟩ := hV.get 9 (by decide +kernel)
      exact ⟨.string ⟨((N1) ++ (N5)).toArray⟩, w1, wanted_free rfl, exec_add_str 9 9 (.tmp 5) (.tmp 9) rfl (N1) (N5) h5 h9 (by omega), Below.refl _ _, rfl⟩
    refine OweAll.cons (owesK rfl rfl fun a w1 ha hG hV => ?_) ?_
    · skip
      have h1 := ha.outer 1 (by decide +kernel)
      simp only [Act.eval] at h1
      exact ⟨.pointer (some ⟨g, 5, none⟩), w1, wanted_free rfl, by simp [execOp, go_sem, h1], Below.refl _ _, rfl⟩
    refine OweAll.cons (owesK rfl rfl fun a w1 ha hG hV => ?_) ?_
    · skip
      have h11 : a.tmps.getD 11 undef = .pointer (some ⟨g, 5, none⟩) := hV.get 11 (by decide +kernel)
      have cc := hread.out w1 hG
      exact ⟨.slice ao n cap, w1, wanted_free rfl, by simp [execOp, go_sem, h11, cc.2.2.1], Below.refl _ _, rfl⟩
    refine OweAll.cons (owesK_call rfl rfl 22 fun a w1 ha hG hV => ?_) ?_
    · skip
      have h12 : a.tmps.getD 12 undef = .slice ao n cap := hV.get 12 (by decide +kernel)
      refine ⟨#[.slice ao n cap], wanted_free rfl, by simp [go_sem, h12], ?_⟩
      refine (SO.out w1 (hread.out w1 hG).2.2.2.1).mono ?_
      rintro r u2 ⟨q, c, rfl, hR, _, hb⟩; exact ⟨_, rfl, ⟨q, c, rfl, hR.rd⟩, hb⟩
    refine OweAll.cons (owesK_call rfl rfl 23 fun a w1 ha hG hV => ?_) ?_
    · skip
      have s13 : (TextsV RS).p (a.tmps.getD 13 undef) w1 := hV.get 13 (by decide +kernel)
      obtain ⟨q, c, h13, hR⟩ := s13
      refine ⟨#[.slice q RS.length c], wanted_free rfl, by simp [go_sem, h13], ?_⟩
      refine (JN.out q c w1 hR).mono ?_
      rintro r u2 ⟨rfl, rfl⟩; exact ⟨_, rfl, rfl, Below.refl _ _⟩
    refine OweAll.cons (owesK_call rfl rfl 40 fun a w1 ha hG hV => ?_) ?_
    · skip
      have h14 : a.tmps.getD 14 undef = .string ⟨J.toArray⟩ := hV.get 14 (by decide +kernel)
      refine ⟨#[.string ⟨J.toArray⟩], wanted_free rfl, by simp [go_sem, h14], ?_⟩
      refine (K3.out w1).mono ?_
      rintro r u2 ⟨rfl, hb⟩; exact ⟨_, rfl, rfl, hb⟩
    refine OweAll.cons (owesK rfl rfl fun a w1 ha hG hV => ?_) ?_
    · skip
      have h10 : a.tmps.getD 10 undef = .string ⟨((N1) ++ (N5)).toArray⟩ := hV.get 10 (by decide +kernel)
      have h15 : a.tmps.getD 15 undef = .string ⟨N3.toArray⟩ := hV.get 15 (by decide +kernel)
      exact ⟨.string ⟨(((N1) ++ (N5)) ++ (N3)).toArray⟩, w1, wanted_free rfl, exec_add_str 9 9 (.tmp 10) (.tmp 15) rfl ((N1) ++ (N5)) (N3) h10 h15 (by omega), Below.refl _ _, rfl⟩
    refine OweAll.cons (owesK rfl rfl fun a w1 ha hG hV => ?_) ?_
    · skip
      have h16 : a.tmps.getD 16 undef = .string ⟨(((N1) ++ (N5)) ++ (N3)).toArray⟩ := hV.get 16 (by decide +kernel)
      exact ⟨.string ⟨(((N1) ++ (N5)) ++ (N3)).toArray⟩, w1, wanted_free rfl, by simp [execOp, go_sem, h16], Below.refl _ _, rfl⟩
    exact OweAll.nil
    ) ?_
  intro f wz hG hv
  have e2 : f 2 = .string ⟨(((N1) ++ (N5)) ++ (N3)).toArray⟩ := hv 14 _ 2 rfl rfl
  rename_i hK
  refine hK _ _ ?_
  clear hK hv
  simp only [dsts, puts, List.filterMap_cons, List.filterMap_nil, List.foldl_cons, List.foldl_nil, Act.put, List.setIfInBounds_toArray, List.set_cons_succ, List.set_cons_zero, e2]
  clear e2
  have HB := Lib.hid (hread.out wz hG).2.2.2.2
  clear hG
  go_wp2_with fail
  go_ret
  exact ⟨rfl, HGG.out ▸ HB.out⟩
end Go.Proofs.YtiegakeacghnfaaDoor

namespace Go.Proofs.YtiegakeacghnfaaDoor
open Go.RowKit Go.Sort

/-- Below. -/
def lN (x y : Nm) : Prop := ltOf cfN x y = true
theorem lN_trans {x y z : Nm} (h : lN x y) (k : lN y z) : lN x z := cfN_trans x y z h k
theorem lN_irr (x : Nm) : ¬ lN x x := by unfold lN; rw [cfN_swo.irrefl]; decide
theorem lN_of {x y : Nm} (h : ¬ lN y x) (hne : x ≠ y) : lN x y := by
  unfold lN at *
  cases e : ltOf cfN x y with
  | true => rfl
  | false => exact absurd (cfN_total x y e (by simpa using h)) hne
theorem ksort_pair (L : List Nm) : (ksort L).Pairwise fun x y => ¬ lN y x := by
  have h := List.pairwise_mergeSort (le := fun x y => !(ltOf cfN) y x) (fun a b c h1 h2 => by
    have := cfN_swo.ntrans c b a (by simpa using h2) (by simpa using h1)
    simpa using this) (fun a b => by
    cases e : ltOf cfN b a with
    | false => simp
    | true =>
      cases e2 : ltOf cfN a b with
      | false => simp
      | true => exact absurd (lN_trans (x := a) e2 e) (lN_irr a)) L
  exact h.imp (fun {a b} h => by unfold lN; simpa using h)
theorem ksort_mem (L : List Nm) (x : Nm) : x ∈ ksort L ↔ x ∈ L := (List.mergeSort_perm L _).mem_iff
theorem cpt_mem (L : List Nm) (n : Nat) (hn : n ≤ L.length) (x : Nm) : x ∈ cpt L n ↔ x ∈ L.take n := by
  induction n with
  | zero => simp [cpt]
  | succ n ih =>
    have hl : n < L.length := by omega
    rw [List.take_succ_eq_append_getElem hl]
    cases hk : kp L n with
    | true => rw [cpt_keep hl hk, List.mem_append, List.mem_append, ih (by omega)]
    | false =>
      rw [cpt_skip hk, List.mem_append, ih (by omega)]
      constructor
      · exact Or.inl
      · rintro (h | h)
        · exact h
        · cases n with
          | zero => cases hk
          | succ m =>
            have e := kp_succ L m hl
            rw [hk] at e
            have e2 : L[m + 1] = L[m] := Subtype.ext (by simpa using e)
            rw [List.mem_singleton.1 h, e2]
            exact List.mem_take_iff_getElem.2 ⟨m, by omega, rfl⟩
theorem cpt_strict (L : List Nm) (hp : L.Pairwise fun x y => ¬ lN y x) (n : Nat) (hn : n ≤ L.length) : (cpt L n).Pairwise lN := by
  induction n with
  | zero => exact List.Pairwise.nil
  | succ n ih =>
    have hl : n < L.length := by omega
    cases hk : kp L n with
    | false => rw [cpt_skip hk]; exact ih (by omega)
    | true =>
      rw [cpt_keep hl hk, List.pairwise_append]
      refine ⟨ih (by omega), List.pairwise_singleton _ _, fun y hy z hz => ?_⟩
      rw [List.mem_singleton.1 hz]
      cases n with
      | zero => simp [cpt] at hy
      | succ m =>
        have e := kp_succ L m hl
        rw [hk] at e
        have hne : L[m] ≠ L[m + 1] := fun h => by rw [h] at e; simp at e
        have h1 : lN L[m] L[m + 1] := lN_of (List.pairwise_iff_getElem.1 hp m (m + 1) (by omega) hl (by omega)) hne
        obtain ⟨j, hj, e2⟩ := List.mem_take_iff_getElem.1 ((cpt_mem L (m + 1) (by omega) y).1 hy)
        by_cases hjm : j = m
        · subst hjm; rw [← e2]; exact h1
        · have h2 := List.pairwise_iff_getElem.1 hp j m (by omega) (by omega) (by omega)
          rw [← e2]
          by_cases h3 : L[j] = L[m]
          · rw [h3]; exact h1
          · exact lN_trans (lN_of h2 h3) h1
theorem kset_strict (L : List Nm) : (kset L).Pairwise lN := cpt_strict _ (ksort_pair L) _ (Nat.le_refl _)
theorem kset_mem (L : List Nm) (x : Nm) : x ∈ kset L ↔ x ∈ L := by
  unfold kset
  rw [cpt_mem _ _ (Nat.le_refl _), List.take_length, ksort_mem]
/-- Strictly rising lists of the same are one. -/
theorem strict_uniq : ∀ (A B : List Nm), A.Pairwise lN → B.Pairwise lN → (∀ x, x ∈ A ↔ x ∈ B) → A = B
  | [], [], _, _, _ => rfl
  | [], b :: m, _, _, h => absurd ((h b).2 (List.mem_cons_self ..)) (by simp)
  | a :: l, [], _, _, h => absurd ((h a).1 (List.mem_cons_self ..)) (by simp)
  | a :: l, b :: m, hA, hB, h => by
    rw [List.pairwise_cons] at hA hB
    have hab : a = b := by
      rcases List.mem_cons.1 ((h a).1 (List.mem_cons_self ..)) with e | e
      · exact e
      · rcases List.mem_cons.1 ((h b).2 (List.mem_cons_self ..)) with e2 | e2
        · exact e2.symm
        · exact absurd (lN_trans (hB.1 a e) (hA.1 b e2)) (lN_irr b)
    subst hab
    rw [strict_uniq l m hA.2 hB.2 (fun x => by
      constructor
      · intro hx
        rcases List.mem_cons.1 ((h x).1 (List.mem_cons_of_mem _ hx)) with e | e
        · subst e; exact absurd (hA.1 x hx) (lN_irr x)
        · exact e
      · intro hx
        rcases List.mem_cons.1 ((h x).2 (List.mem_cons_of_mem _ hx)) with e | e
        · subst e; exact absurd (hB.1 x hx) (lN_irr x)
        · exact e)]
/-- Names that rise are their own key's. -/
theorem kset_self {L : List Nm} (h : L.Pairwise lN) : kset L = L := strict_uniq _ _ (kset_strict L) h (kset_mem L)
end Go.Proofs.YtiegakeacghnfaaDoor

namespace Go.Proofs.YtiegakeacghnfaaDoor
open Go.RowKit Go.Sort

/-- The same of names. -/
def insN (s : Nm) : List Nm → List Nm
  | [] => [s]
  | t :: r => if ltOf cfN s t then s :: t :: r else if ltOf cfN t s then t :: insN s r else t :: r
theorem insN_map (s : Nm) (l : List Nm) : insB s.1 (l.map (·.1)) = (insN s l).map (·.1) := by
  induction l with
  | nil => rfl
  | cons t r ih =>
    rw [List.map_cons, insB, insN, cfN_lt, cfN_lt]
    by_cases h1 : Lib.compareBytes s.1 t.1 < 0
    · simp [h1]
    · by_cases h2 : Lib.compareBytes t.1 s.1 < 0
      · rw [if_neg h1, if_pos h2, if_neg (show ¬ decide (Lib.compareBytes s.1 t.1 < 0) = true by simpa using h1), if_pos (decide_eq_true h2), List.map_cons, ih]
      · simp [h1, h2]
theorem insN_mem (s : Nm) (l : List Nm) (x : Nm) : x ∈ insN s l ↔ x = s ∨ x ∈ l := by
  induction l with
  | nil => simp [insN]
  | cons t r ih =>
    rw [insN]
    cases h1 : ltOf cfN s t with
    | true => simp
    | false =>
      cases h2 : ltOf cfN t s with
      | true =>
        simp only [Bool.false_eq_true, if_false, if_true, List.mem_cons, ih]
        constructor
        · rintro (h | h | h) <;> simp [h]
        · rintro (h | h | h) <;> simp [h]
      | false =>
        have e := cfN_total s t h1 h2
        simp only [Bool.false_eq_true, if_false, List.mem_cons, e]
        constructor
        · intro h; exact .inr h
        · rintro (h | h)
          · exact .inl h
          · exact h
theorem insN_strict (s : Nm) (l : List Nm) (h : l.Pairwise lN) : (insN s l).Pairwise lN := by
  induction l with
  | nil => exact List.pairwise_singleton _ _
  | cons t r ih =>
    have hh := List.pairwise_cons.1 h
    rw [insN]
    cases h1 : ltOf cfN s t with
    | true =>
      rw [if_pos rfl]
      refine List.pairwise_cons.2 ⟨fun x hx => ?_, h⟩
      rcases List.mem_cons.1 hx with e | e
      · rw [e]; exact h1
      · exact lN_trans h1 (hh.1 x e)
    | false =>
      rw [if_neg (by decide)]
      cases h2 : ltOf cfN t s with
      | false => rw [if_neg (by decide)]; exact h
      | true =>
        rw [if_pos rfl]
        refine List.pairwise_cons.2 ⟨fun x hx => ?_, ih hh.2⟩
        rcases (insN_mem s r x).1 hx with e | e
        · rw [e]; exact h2
        · exact hh.1 x e
/-- A key's names are the reference's sorted texts. -/
theorem rsort_kset (L : List Nm) : rsort (L.map (·.1)) = (kset L).map (·.1) := by
  have h : ∃ M : List Nm, rsort (L.map (·.1)) = M.map (·.1) ∧ M.Pairwise lN ∧ ∀ x, x ∈ M ↔ x ∈ L := by
    have hg : ∀ (L : List Nm) (A : List Nm), A.Pairwise lN → ∃ M : List Nm, (L.map (·.1)).foldl (fun out s => insB s out) (A.map (·.1)) = M.map (·.1) ∧ M.Pairwise lN ∧ ∀ x, x ∈ M ↔ x ∈ A ∨ x ∈ L := by
      intro L
      induction L with
      | nil => intro A hA; exact ⟨A, rfl, hA, fun x => by simp⟩
      | cons s l ih =>
        intro A hA
        obtain ⟨M, h1, h2, h3⟩ := ih (insN s A) (insN_strict s A hA)
        refine ⟨M, ?_, h2, fun x => ?_⟩
        · rw [List.map_cons, List.foldl_cons, insN_map]; exact h1
        · rw [h3, insN_mem, List.mem_cons]
          constructor
          · rintro ((h | h) | h) <;> simp [h]
          · rintro (h | h | h) <;> simp [h]
    obtain ⟨M, h1, h2, h3⟩ := hg L [] List.Pairwise.nil
    exact ⟨M, h1, h2, fun x => by rw [h3]; simp⟩
  obtain ⟨M, h1, h2, h3⟩ := h
  rw [h1, strict_uniq M (kset L) h2 (kset_strict L) (fun x => by rw [h3, kset_mem])]
/-- Rising, as the program looks. -/
theorem rs_pair (L : List Nm) : rs (L.map (·.1)) (L.length - 1) = true ↔ L.Pairwise lN := by
  unfold rs
  rw [List.all_eq_true]
  constructor
  · intro h
    have hs : ∀ j (hj : j + 1 < L.length), lN L[j] L[j + 1] := fun j hj => by
      have := h j (List.mem_range.2 (by omega))
      have g1 : (L.map (·.1)).getD j [] = (L[j]).1 := by simp [List.getD, show j < L.length by omega]
      have g2 : (L.map (·.1)).getD (j + 1) [] = (L[j + 1]).1 := by simp [List.getD, hj]
      rw [g1, g2] at this
      exact this
    rw [List.pairwise_iff_getElem]
    intro i j hi hj hij
    obtain ⟨m, rfl⟩ : ∃ m, j = i + 1 + m := ⟨j - (i + 1), by omega⟩
    induction m with
    | zero => exact hs i hj
    | succ m ih => exact lN_trans (ih (by omega) (by omega)) (hs (i + 1 + m) hj)
  · intro h i hi
    have hi2 := List.mem_range.1 hi
    have g1 : (L.map (·.1)).getD i [] = (L[i]'(by omega)).1 := by simp [List.getD, show i < L.length by omega]
    have g2 : (L.map (·.1)).getD (i + 1) [] = (L[i + 1]'(by omega)).1 := by simp [List.getD, show i + 1 < L.length by omega]
    rw [g1, g2]
    exact List.pairwise_iff_getElem.1 h i (i + 1) (by omega) (by omega) (by omega)
end Go.Proofs.YtiegakeacghnfaaDoor

namespace Go.Proofs.YtiegakeacghnfaaDoor
open Go.RowKit

theorem own_rs (L : List (List UInt8)) (h : ∀ x ∈ L, x.length = 32) : (L.map nmOf).map (·.1) = L := by
  rw [List.map_map]
  conv => rhs; rw [← List.map_id L]
  exact List.map_congr_left fun x hx => idL_self x (h x hx)
theorem chk_own (h : Hd (List UInt8)) (R : Bool) : chk (ownH h) R = chk h R := by
  unfold chk ownH; simp only [List.length_map]
end Go.Proofs.YtiegakeacghnfaaDoor

namespace Go.Proofs.YtiegakeacghnfaaDoor
open Go.RowKit

theorem HOkay.own {h : Hd (List UInt8)} (ok : HOkay h) : HOkay (ownH h) := by
  obtain ⟨h1, h2, h3, h4, h5, h6, h7⟩ := ok
  exact ⟨h1, h2, h3, h4, h5, by simpa [ownH] using h6, h7⟩
theorem few_all (X : Hd (List UInt8)) : ∀ x ∈ (fewH X).ps, x.length = 32 := by
  intro x hx
  unfold fewH at hx
  simp only [List.mem_map] at hx
  obtain ⟨y, _, rfl⟩ := hx
  exact idL_len y
theorem few_len (X : Hd (List UInt8)) : (fewH X).ps.length ≤ 7 := by unfold fewH; simp only [List.length_map, List.length_take]; omega
theorem few_own (X : Hd (List UInt8)) : (ownH (fewH X)).ps.map (·.1) = (fewH X).ps := own_rs _ (few_all X)
theorem few_chk (X : Hd (List UInt8)) : chk (ownH (fewH X)) (rs ((ownH (fewH X)).ps.map (·.1)) ((ownH (fewH X)).ps.length - 1)) = chk (fewH X) (rs (fewH X).ps ((fewH X).ps.length - 1)) := by
  rw [chk_own, few_own, show (ownH (fewH X)).ps.length = (fewH X).ps.length by simp [ownH]]
theorem kB_flat (M : List Nm) : kB M = (M.map (·.1)).flatten := by simp [kB, List.flatMap]
theorem flat32 (L : List (List UInt8)) (h : ∀ x ∈ L, x.length = 32) : L.flatten.length = 32 * L.length := by
  induction L with
  | nil => rfl
  | cons x l ih => rw [List.flatten_cons, List.length_append, ih (fun y hy => h y (List.mem_cons_of_mem _ hy)), h x (List.mem_cons_self ..), List.length_cons]; omega
/-- What a cut header that may be, and the program's own, have in common. -/
structure FewOk (F : Hd (List UInt8)) (A : Hd Nm) : Prop where
  ok : HOkay F
  oka : HOkay A
  nm : A.ps.map (·.1) = F.ps
  len : A.ps.length = F.ps.length
  par : hparE (hbytes (·.1) A) = 0
  tk : (takeS (hbytes (·.1) A)).1 = A
  ks : kset A.ps = A.ps
  pair : A.ps.Pairwise lN
  sm : sameB A F = true
  bytes : hbytes id F = hbytes (·.1) A
  fam : hfam F (rsort F.ps).flatten = hfam A (kB (kset A.ps))
  flat : F.ps.flatten.length ≤ 160
  sort : (rsort F.ps).flatten.length ≤ 160
  pos : HPos F
theorem few_ok (X : Hd (List UInt8)) (h : chk (fewH X) (rs (fewH X).ps ((fewH X).ps.length - 1)) = 0) : FewOk (fewH X) (ownH (fewH X)) := by
  have hc := h
  rw [← few_chk] at hc
  obtain ⟨ok, _⟩ := (chk_zero _ _).1 h
  obtain ⟨oka, hr⟩ := (chk_zero _ _).1 hc
  have nm := few_own X
  have hp := (rs_pair _).1 hr
  have hk := kset_self hp
  have hb := hpar_back _ oka hr
  have hall := few_all X
  have hlen : (ownH (fewH X)).ps.length = (fewH X).ps.length := by simp [ownH]
  have hrs : rsort (fewH X).ps = (fewH X).ps := by rw [← nm, rsort_kset, hk]
  have hl5 := ok.2.2.2.2.2.1.2
  have hfl : (fewH X).ps.flatten.length ≤ 160 := by rw [flat32 _ hall]; omega
  refine ⟨ok, oka, nm, hlen, hb.2, hb.1, hk, hp, (sameB_iff _ _).2 rfl, ?_, ?_, hfl, by rw [hrs]; exact hfl, ?_⟩
  · unfold hbytes hhead
    rw [nm, List.map_id, hlen]; rfl
  · rw [hrs, hk, kB_flat, nm]; rfl
  · obtain ⟨o1, o2, o3, o4, o5, o6, o7⟩ := ok
    exact ⟨by omega, by omega, by omega, by omega, by omega, by omega, by omega⟩

theorem Rd.mod {α : Type} {E : Enc α} {w w' : World} {ao : Option Addr} {L : List α} {S : Nat → Prop} (h : Rd E w ao L) (hm : Mod S w w') (hS : ∀ a, ao = some a → ¬ S a.block) : Rd E w' ao L := by
  intro j hj
  obtain ⟨bs, off, e, hlt, hc⟩ := h j hj
  exact ⟨bs, off, e, Nat.lt_of_lt_of_le hlt hm.size, fun i u hu => (World.cell?_of_block (hm.block bs hlt (hS _ e))).trans (hc i u hu)⟩
/-- The cut header lies in block g1, the program's own in block g3. -/
structure TwoAt (w0 W : World) (g1 g3 : Nat) (F : Hd (List UInt8)) (A : Hd Nm) (q1 q3 : Option Addr) (c1 c3 : Nat) : Prop where
  bd : W.heap[g1]? = some (.cells (hcells F q1 c1) 25 (0, 0))
  bh : W.heap[g3]? = some (.cells (hcells A q3 c3) 30 (0, 0))
  rd : Rd encS W q1 F.ps
  rh : Rw encN 39 W q3 c3 A.ps
  tab : TabAt W
  b : Below w0.heap.size w0 W
theorem TwoAt.old {w0 W W' : World} {g1 g3 : Nat} {F : Hd (List UInt8)} {A : Hd Nm} {q1 q3 : Option Addr} {c1 c3 : Nat} (h : TwoAt w0 W g1 g3 F A q1 q3 c1 c3) (hb : Below W.heap.size W W') : TwoAt w0 W' g1 g3 F A q1 q3 c1 c3 :=
  ⟨(hb.block _ (Array.getElem?_eq_some_iff.1 h.bd).1).trans h.bd, (hb.block _ (Array.getElem?_eq_some_iff.1 h.bh).1).trans h.bh, h.rd.old hb, h.rh.old hb, h.tab.old hb, h.b.trans (hb.mono h.b.size)⟩
theorem Rw.ao {α : Type} {E : Enc α} {T : TypeId} {w : World} {p : Option Addr} {cap : Nat} {L : List α} (h : Rw E T w p cap L) : p = none ∨ ∃ b off, p = some ⟨b, off, none⟩ := by
  rcases h.shape with ⟨e, _⟩ | ⟨g, e, _⟩
  · exact .inl e
  · exact .inr ⟨g, 0, e⟩
end Go.Proofs.YtiegakeacghnfaaDoor

namespace Go.Proofs.YtiegakeacghnfaaDoor
open Go.ChangeShapes Go.WideShapes Go.ChangeAt Go.RowKit Go.Deep

theorem cell_block {w : World} {a : Addr} {v : Value} (h : w.cell? a = some v) : a.block < w.heap.size := by
  unfold World.cell? at h
  apply Nat.lt_of_not_le; intro hle
  rw [Array.getElem?_eq_none hle] at h
  simp at h

theorem okWide_array {P : Program} {w : World} {r : Reach} {base : Nat} {t : TypeId} {v : Value} {n : Nat} {e : TypeId} (ht : P.underlying t = some (.array n e)) (h : Value.okWide P w r base t v) : ∃ cs, v = .agg cs ∧ cs.size = P.cellsOf t := by
  unfold Value.okWide at h
  simp only [ht] at h
  cases v <;> simp at h
  exact ⟨_, rfl, h.1⟩

set_option maxRecDepth 20000 in
theorem open_a32 {H : Type} {enc : TypeId × Value → H} {W : World} {base : Nat} {v : Value} {d : DataW H} {ps : List MemPlace} (hval : Value.okWide Tryd.prog W .any base 38 v) (h : DataW.Trod enc Tryd.prog W 0 (fun _ => true) true 38 v d ps) :
    ∃ A : List Nat, v = .agg (nums .u8 A).toArray ∧ A.length = 32 ∧ ∀ x ∈ A, x < 256 := by
  obtain ⟨cs, rfl, _⟩ := okWide_array Tryd.underlying38 hval
  obtain ⟨fuel, hf⟩ := h
  obtain ⟨xs, m, _, _, hl, hx, hi⟩ := DataW.trod_array Tryd.underlying38 hf
  have hc : Tryd.prog.cellsOf 5 = 1 := by kernel_rfl
  have hct : Tryd.prog.cellsOf 38 = 32 := by kernel_rfl
  simp only [Value.cells, hct] at hl
  simp only [Value.cells, hc, Nat.mul_one] at hi
  have hcl : cs.size = 32 := by simpa using hl
  have hj : ∀ i, i < 32 → ∃ s : Nat, cs.toList[i]? = some (.int .u8 (s : Int)) ∧ s < 256 := by
    intro i h32
    have h1 := hi i h32
    rw [List.getElem?_eq_getElem (by omega)] at h1
    obtain ⟨N, hN, _, hw⟩ := DataW.trod_int Tryd.underlying5 h1
    have hb := bounds_u8 hw
    refine ⟨N.toNat, ?_, by omega⟩
    have h2 : cs.toList[i]? = some (.int .u8 N) := by
      have := congrArg (·[0]?) hN
      simpa [List.getElem?_take, List.getElem?_drop] using this
    rw [h2, Int.toNat_of_nonneg hb.1]
  obtain ⟨f, hf2⟩ := choose_lt hj
  refine ⟨(List.range 32).map f, ?_, by simp, ?_⟩
  · congr 1
    apply Array.ext'
    apply List.ext_getElem?
    intro i
    by_cases h32 : i < 32
    · rw [(hf2 i h32).1]; simp [nums, h32]
    · rw [List.getElem?_eq_none (by simp; omega), List.getElem?_eq_none (by simp [nums]; omega)]
  · intro x hx
    obtain ⟨i, hi', rfl⟩ := List.mem_map.1 hx
    exact (hf2 i (List.mem_range.1 hi')).2

set_option maxRecDepth 20000 in
theorem open_texts {H : Type} {enc : TypeId × Value → H} {W : World} {base : Nat} {v : Value} {d : DataW H} {ps : List MemPlace} (hval : Value.okWide Tryd.prog W .any base 23 v) (h : DataW.Trod enc Tryd.prog W 0 (fun _ => true) true 23 v d ps) :
    ∃ ao cap L, v = .slice ao L.length cap ∧ Rd encS W ao L ∧ (∀ s ∈ L, (s.length : Int) ≤ 9223372036854775807) ∧ L.length ≤ 9223372036854775807 ∧ L.length ≤ cap := by
  obtain ⟨a, len, cap, rfl⟩ := okWide_slice Tryd.underlying23 hval
  obtain ⟨fuel, hf⟩ := h
  rcases open_strings Tryd.underlying23 Tryd.underlying9 (by kernel_rfl) hf with ⟨hc, _⟩ | ⟨a', len', cap', ss, hc, _, hl, hm, hss, _, hcell, hsz⟩
  · have hc2 : [Value.slice a len cap] = [Value.slice none 0 0] := hc
    simp only [List.cons.injEq, Value.slice.injEq, and_true] at hc2
    obtain ⟨rfl, rfl, rfl⟩ := hc2
    exact ⟨none, 0, [], rfl, Rd.nil _ _, fun s hs => by simp at hs, Nat.zero_le _, Nat.le_refl _⟩
  · have hc2 : [Value.slice a len cap] = [Value.slice (some a') len' cap'] := hc
    simp only [List.cons.injEq, Value.slice.injEq, and_true] at hc2
    obtain ⟨rfl, rfl, rfl⟩ := hc2
    simp only [if_true] at hss
    have hlen : (ss.take len).length = len := by rw [List.length_take]; omega
    refine ⟨some a', cap, (ss.take len).map (fun (b : ByteArray) => b.data.toList), by rw [List.length_map, hlen], ?_, ?_, ?_, ?_⟩
    · intro j hj
      have hjl : j < len := by rw [List.length_map, hlen] at hj; exact hj
      have hc0 := hcell 0 (by omega)
      obtain ⟨bs, off, spot⟩ := a'
      have hspot : spot = none := by simpa [Addr.add] using World.cell?_spot hc0
      subst hspot
      have hcj := hcell j (by omega)
      refine ⟨bs, off, rfl, cell_block (by simpa [Addr.add_lit] using hcj), fun i u hu => ?_⟩
      have hi0 : i = 0 := by
        have := (List.getElem?_eq_some_iff.1 hu).1
        simp [encS] at this; exact this
      subst hi0
      simp only [encS, List.getElem?_cons_zero, Option.some.injEq] at hu
      subst hu
      have e : (ss.getD j ByteArray.empty) = ⟨(((ss.take len).map (fun (b : ByteArray) => b.data.toList))[j]'hj).toArray⟩ := by
        rw [List.getElem_map, List.getElem_take]
        simp [List.getD, List.getElem?_eq_getElem (show j < ss.length by omega)]
      rw [← e]
      simpa [Addr.add_lit, encS] using hcj
    · intro s hs
      obtain ⟨b, hb, rfl⟩ := List.mem_map.1 hs
      have := hsz b (List.mem_of_mem_take hb)
      unfold maxLen at this
      have e : b.data.toList.length = b.size := rfl
      omega
    · unfold maxLen at hm; rw [List.length_map, hlen]; omega
    · rw [List.length_map, hlen]; exact hl

set_option maxRecDepth 20000 in
theorem tab_of_laid {W : World} (h : laidMetH Tryd.prog [("coxswain/digest.roundWords", Rows.laid_coxswain_digest_roundWords)] W) : TabAt W := by
  have h2 : laidMet Tryd.prog (("coxswain/digest.roundWords", Lib.tabData .u32 (kTab.map fun (x : Nat) => (x : Int))) :: []) W := (laidMetH_iff.1 h).1
  have h3 := Lib.tabIs_of_head (g := 1) (t := 110) (e := 77) (n := 64) (by kernel_rfl) (by kernel_rfl) Tryd.underlying110 Tryd.underlying77 (by kernel_rfl) (by kernel_rfl) h2
  intro i hi
  have hi2 : i < kTab.length := by rw [kTab_len]; exact hi
  have := h3.cell (g := 1) (by kernel_rfl) i (by simpa using hi2)
  rw [this]
  simp [List.getD, hi2]
end Go.Proofs.YtiegakeacghnfaaDoor

namespace Go.Proofs.YtiegakeacghnfaaDoor
open Go.ChangeShapes Go.WideShapes Go.ChangeAt Go.RowKit Go.Deep

theorem open_texts1 {H : Type} {enc : TypeId × Value → H} {W : World} {v : Value} {fuel : Nat} {x : DataW H × List MemPlace} (hf : DataW.trod enc Tryd.prog W 0 (fun _ => true) true fuel 23 [v] = some x) :
    ∃ ao cap L, v = .slice ao L.length cap ∧ Rd encS W ao L ∧ (∀ s ∈ L, (s.length : Int) ≤ 9223372036854775807) ∧ L.length ≤ 9223372036854775807 ∧ L.length ≤ cap := by
  rcases open_strings Tryd.underlying23 Tryd.underlying9 (by kernel_rfl) hf with ⟨hc, _⟩ | ⟨a', len', cap', ss, hc, _, hl, hm, hss, _, hcell, hsz⟩
  · have hc2 : [v] = [Value.slice none 0 0] := hc
    simp only [List.cons.injEq, and_true] at hc2
    subst hc2
    exact ⟨none, 0, [], rfl, Rd.nil _ _, fun s hs => by simp at hs, Nat.zero_le _, Nat.le_refl _⟩
  · have hc2 : [v] = [Value.slice (some a') len' cap'] := hc
    simp only [List.cons.injEq, and_true] at hc2
    subst hc2
    simp only [if_true] at hss
    have hlen : (ss.take len').length = len' := by rw [List.length_take]; omega
    refine ⟨some a', cap', (ss.take len').map (fun (b : ByteArray) => b.data.toList), by rw [List.length_map, hlen], ?_, ?_, ?_, ?_⟩
    · intro j hj
      have hjl : j < len' := by rw [List.length_map, hlen] at hj; exact hj
      have hc0 := hcell 0 (by omega)
      obtain ⟨bs, off, spot⟩ := a'
      have hspot : spot = none := by simpa [Addr.add] using World.cell?_spot hc0
      subst hspot
      have hcj := hcell j (by omega)
      refine ⟨bs, off, rfl, cell_block (by simpa [Addr.add_lit] using hcj), fun i u hu => ?_⟩
      have hi0 : i = 0 := by
        have := (List.getElem?_eq_some_iff.1 hu).1
        simp [encS] at this; exact this
      subst hi0
      simp only [encS, List.getElem?_cons_zero, Option.some.injEq] at hu
      subst hu
      have e : (ss.getD j ByteArray.empty) = ⟨(((ss.take len').map (fun (b : ByteArray) => b.data.toList))[j]'hj).toArray⟩ := by
        rw [List.getElem_map, List.getElem_take]
        simp [List.getD, List.getElem?_eq_getElem (show j < ss.length by omega)]
      rw [← e]
      simpa [Addr.add_lit, encS] using hcj
    · intro s hs
      obtain ⟨b, hb, rfl⟩ := List.mem_map.1 hs
      have := hsz b (List.mem_of_mem_take hb)
      unfold maxLen at this
      have e : b.data.toList.length = b.size := rfl
      omega
    · unfold maxLen at hm; rw [List.length_map, hlen]; omega
    · rw [List.length_map, hlen]; exact hl
set_option maxRecDepth 20000 in
theorem open_header {H : Type} {enc : TypeId × Value → H} {W : World} {base : Nat} {v : Value} {d : DataW H} {ps : List MemPlace} (hval : Value.okWide Tryd.prog W .any base 25 v) (h : DataW.Trod enc Tryd.prog W 0 (fun _ => true) true 25 v d ps) :
    ∃ (X : Hd (List UInt8)) (ao : Option Addr) (cap : Nat), v = .agg (hcells X ao cap) ∧ Rd encS W ao X.ps ∧ (X.tk.length : Int) ≤ 9223372036854775807 ∧ (∀ s ∈ X.ps, (s.length : Int) ≤ 9223372036854775807) ∧ X.ps.length ≤ 9223372036854775807 ∧ X.pw < 18446744073709551616 ∧
      (-9223372036854775808 ≤ X.ht ∧ X.ht ≤ 9223372036854775807) ∧ (-9223372036854775808 ≤ X.mi ∧ X.mi ≤ 9223372036854775807) ∧ (-9223372036854775808 ≤ X.wi ∧ X.wi ≤ 9223372036854775807) ∧ (-9223372036854775808 ≤ X.sa ∧ X.sa ≤ 9223372036854775807) := by
  obtain ⟨cs, rfl, hsz⟩ := okWide_struct Tryd.underlying25 hval
  obtain ⟨l⟩ := cs
  have h7 : Tryd.prog.cellsOf 25 = 7 := by kernel_rfl
  have ki : Tryd.prog.cellsOf 3 = 1 := by kernel_rfl
  have ks : Tryd.prog.cellsOf 9 = 1 := by kernel_rfl
  have ku : Tryd.prog.cellsOf 22 = 1 := by kernel_rfl
  have kt : Tryd.prog.cellsOf 23 = 1 := by kernel_rfl
  match l, hsz.trans h7 with
  | [c0, c1, c2, c3, c4, c5, c6], _ =>
    obtain ⟨fuel, hf⟩ := h
    obtain ⟨xs, n, _, _, _, hlen, hg⟩ := DataW.trod_struct Tryd.underlying25 hf
    match xs, hlen with
    | [y0, y1, y2, y3, y4, y5, y6], _ =>
      have g0 := hg 0 _ rfl
      have g1 := hg 1 _ rfl
      have g2 := hg 2 _ rfl
      have g3 := hg 3 _ rfl
      have g4 := hg 4 _ rfl
      have g5 := hg 5 _ rfl
      have g6 := hg 6 _ rfl
      simp [Value.cells, ki, ks, ku, kt] at g0 g1 g2 g3 g4 g5 g6
      obtain ⟨n0, e0, _, w0⟩ := DataW.trod_int Tryd.underlying3 g0
      obtain ⟨n1, e1, _, w1⟩ := DataW.trod_int Tryd.underlying3 g1
      obtain ⟨s2, e2, _, w2⟩ := DataW.trod_string Tryd.underlying9 g2
      obtain ⟨n3, e3, _, w3⟩ := DataW.trod_int Tryd.underlying3 g3
      obtain ⟨n4, e4, _, w4⟩ := DataW.trod_int Tryd.underlying22 g4
      obtain ⟨ao, cap, L, rfl, hR, hs, hL, _⟩ := open_texts1 g5
      obtain ⟨n6, e6, _, w6⟩ := DataW.trod_int Tryd.underlying3 g6
      simp only [List.cons.injEq, and_true] at e0 e1 e2 e3 e4 e6
      subst e0 e1 e2 e3 e4 e6
      have b4 := bounds_u64 w4
      refine ⟨⟨n0, n1, s2.data.toList, n3, n4.toNat, L, n6⟩, ao, cap, ?_, hR, ?_, hs, hL, by simp only; omega, bounds_i64 w0, bounds_i64 w1, bounds_i64 w3, bounds_i64 w6⟩
      · unfold hcells
        simp only [Int.toNat_of_nonneg b4.1]
      · unfold maxLen at w2
        have e : s2.data.toList.length = s2.size := rfl
        simp only; omega
end Go.Proofs.YtiegakeacghnfaaDoor

namespace Go.Proofs.YtiegakeacghnfaaDoor
open Go.RowKit

/-- 'make([]byte, 32)'. -/
theorem wpList_makeB {ops : Array Oper} {rest : List Oper} {o : Oper} {a : Act} {Q : Exit → Act → World → Prop} {w : World} (hgd : o.guard = none) (l c : Operand) (hop : o.op = Op.makeSlice 43 l c)
    (hl : a.eval l = .int .i64 32) (hc : a.eval c = .int .i64 32)
    (hK : ∀ w', w'.heap[w.heap.size]? = some (.cells (vals zid).toArray 5 (0, 0)) → Below w.heap.size w w' → wpList Tryd.prog ops Q rest (a.put o.dst (.slice (some ⟨w.heap.size, 0, none⟩) 32 32)) w') :
    wpList Tryd.prog ops Q (o :: rest) a w := by
  obtain ⟨i, hi, hzz⟩ := Option.map_eq_some_iff.1 info_u8k
  simp only [Prod.mk.injEq] at hzz
  obtain ⟨hz, h1, h2⟩ := hzz
  refine wpList_make_full w hgd l c 43 hop 0 5 i (.int .u8 0) 1 Tryd.underlying43 hi hz h1 .i64 .i64 32 32 32 hl hc rfl rfl (by rw [h2]; decide) (by unfold maxLen; decide) (Nat.zero_le _) ?_
  intro w' hown hgrow
  refine hK w' ?_ ((Below.refl _ _).grown hgrow (Nat.le_refl _) (by intro k h; cases h))
  rcases hown.2 with ⟨h, _⟩ | ⟨g, cap, cur, h, _, hh, h3, h4, h5, h6⟩
  · cases h
  · simp only [Value.slice.injEq, Option.some.injEq, Addr.mk.injEq] at h
    obtain ⟨⟨rfl, _⟩, _, rfl⟩ := h
    rw [hh]
    have e : cur.toList = vals zid := by
      rw [List.take_of_length_le (by rw [Array.length_toList, h5]; exact Nat.le_refl _)] at h6
      rw [h6]; kernel_rfl
    rw [← e]

/-- A number's name. -/
def nameL (x : UInt8) : List UInt8 := (zid.set 0 x).set 31 (~~~x)
theorem nameL_len (x : UInt8) : (nameL x).length = 32 := by simp [nameL, zid]
theorem vals_set (L : List UInt8) (i : Nat) (x : UInt8) : (vals L).set i (.int .u8 (x.toNat : Int)) = vals (L.set i x) := by simp [vals, List.map_set]

theorem not_bits (x : UInt8) : bits BinOp.xor IntKind.u8 IntKind.u8.max (x.toNat : Int) = ((~~~x).toNat : Int) := by
  have h : ∀ n : Fin 256, bits BinOp.xor IntKind.u8 IntKind.u8.max (n.val : Int) = ((~~~(UInt8.ofNat n.val)).toNat : Int) := by decide +kernel
  have := h ⟨x.toNat, x.toNat_lt⟩
  simpa using this
theorem text_row {w : World} {g : Nat} {s : List UInt8} (hl : s.length = 32) (h : w.heap[g]? = some (.cells (vals s).toArray 5 (0, 0))) : (convert 43 9 (.slice (some ⟨g, 0, none⟩) 32 32)).run Tryd.prog w = .ok (.string ⟨s.toArray⟩) w := by
  rw [run_convert_bytes_arg w 43 5 Tryd.underlying43 Tryd.underlying5 g 0 32 32 (s.map fun x => (x.toNat : Int)) (by simpa using hl) (fun i hi => by
    rw [Nat.zero_add, cell_of_row w g i _ 5 (0, 0) h]
    simp [vals, List.getD, hl, hi]) 9 Tryd.underlying9]
  simp [strOfNums, Function.comp_def]
theorem name_row {w1 : World} {g : Nat} (x : UInt8) (h : w1.heap[g]? = some (.cells (vals zid).toArray 5 (0, 0))) : ((w1.setCell ⟨g, 0, none⟩ (.int .u8 (x.toNat : Int))).setCell ⟨g, 31, none⟩ (.int .u8 ((~~~x).toNat : Int))).heap[g]? = some (.cells (vals (nameL x)).toArray 5 (0, 0)) := by
  have h1 := heap_setCell_same w1 g 0 _ 5 (.int .u8 (x.toNat : Int)) h
  have e1 : (vals zid).toArray.setIfInBounds 0 (.int .u8 (x.toNat : Int)) = (vals (zid.set 0 x)).toArray := by rw [← vals_set]; exact List.setIfInBounds_toArray _ _ _
  rw [e1] at h1
  have h2 := heap_setCell_same _ g 31 _ 5 (.int .u8 ((~~~x).toNat : Int)) h1
  have e2 : (vals (zid.set 0 x)).toArray.setIfInBounds 31 (.int .u8 ((~~~x).toNat : Int)) = (vals (nameL x)).toArray := by unfold nameL; rw [← vals_set]; exact List.setIfInBounds_toArray _ _ _
  rw [e2] at h2
  exact h2

set_option maxRecDepth 20000 in
set_option maxHeartbeats 4000000 in
theorem lawname_any (x : UInt8) (w : World) : Calls Tryd.prog 20 #[.int .u8 (x.toNat : Int)] w fun r w' => r = .returned (.string ⟨(nameL x).toArray⟩) ∧ Below w.heap.size w w' := by
  have hx := x.toNat_lt
  have hnb := not_bits x
  have HN := Lib.hid (fun (w1 : World) (h : w1.heap[w.heap.size]? = some (.cells (vals zid).toArray 5 (0, 0))) => text_row (nameL_len x) (name_row x h))
  obtain ⟨y, hy⟩ : ∃ y : Int, y = ((~~~x).toNat : Int) := ⟨_, rfl⟩
  rw [← hy] at hnb HN
  clear hy
  generalize nameL x = N at HN ⊢
  go_enter Tryd.func20, Tryd.ntmps20
  go_wp2_with (at_make; refine wpList_makeB rfl _ _ rfl rfl rfl ?_; intro w1 hh hb; have HB := Lib.hid hb; have c0 : w1.cell? ⟨w.heap.size, 0, none⟩ = some (.int .u8 0) := cell_of_row w1 w.heap.size 0 _ 5 (0, 0) hh; have f0 := frozen_of_row w1 w.heap.size 0 _ 5 hh; have c31 : w1.cell? ⟨w.heap.size, 31, none⟩ = some (.int .u8 0) := cell_of_row w1 w.heap.size 31 _ 5 (0, 0) hh; have f31 := frozen_of_row w1 w.heap.size 31 _ 5 hh; have hcv := HN.out w1 hh; clear hh hb)
  go_ret
  exact ⟨rfl, (HB.out.setCell (by exact Nat.le_refl _) _).setCell (by exact Nat.le_refl _) _⟩
end Go.Proofs.YtiegakeacghnfaaDoor

namespace Go.Proofs.YtiegakeacghnfaaDoor
open Go.ChangeShapes Go.WideShapes Go.ChangeAt Go.RowKit Go.Deep

set_option maxRecDepth 20000 in
theorem open_bytesarg {H : Type} {enc : TypeId × Value → H} {W : World} {base : Nat} {v : Value} {d : DataW H} {ps : List MemPlace} (hval : Value.okWide Tryd.prog W .any base 43 v) (h : DataW.Trod enc Tryd.prog W 0 (fun _ => true) true 43 v d ps) :
    ∃ ao cap S, v = .slice ao S.length cap ∧ Rd encB W ao S ∧ S.length ≤ cap ∧ cap ≤ 9223372036854775807 := by
  obtain ⟨a, len, cap, rfl⟩ := okWide_slice Tryd.underlying43 hval
  obtain ⟨fuel, hf⟩ := h
  rcases open_slice1 Tryd.underlying43 (by kernel_rfl) hf with ⟨hc, _⟩ | ⟨a', len', cap', m, k, V, D, Pl, hc, _, hl, hm, hmm, _, hall⟩
  · have hc2 : [Value.slice a len cap] = [Value.slice none 0 0] := hc
    simp only [List.cons.injEq, Value.slice.injEq, and_true] at hc2
    obtain ⟨rfl, rfl, rfl⟩ := hc2
    exact ⟨none, 0, [], rfl, Rd.nil _ _, Nat.le_refl _, by decide⟩
  · have hc2 : [Value.slice a len cap] = [Value.slice (some a') len' cap'] := hc
    simp only [List.cons.injEq, Value.slice.injEq, and_true] at hc2
    obtain ⟨rfl, rfl, rfl⟩ := hc2
    simp only [if_true] at hmm
    subst hmm
    have hj : ∀ i, i < len → ∃ s : UInt8, V i = .int .u8 (s.toNat : Int) := by
      intro i hi
      obtain ⟨N, h1, _, hw⟩ := DataW.trod_int Tryd.underlying5 (hall i (by omega)).2
      simp only [List.cons.injEq, and_true] at h1
      have b := bounds_u8 hw
      exact ⟨UInt8.ofNat N.toNat, by rw [h1, UInt8.toNat_ofNat_of_lt' (show N.toNat < 256 by omega)]; congr 1; omega⟩
    obtain ⟨f, hf2⟩ := choose_lt hj
    unfold maxLen at hm
    obtain ⟨bs, off, spot⟩ := a'
    by_cases h0 : 0 < m
    · have hspot : spot = none := by simpa [Addr.add] using World.cell?_spot (hall 0 (by omega)).1
      subst hspot
      refine ⟨some ⟨bs, off, none⟩, m, (List.range len).map f, by simp, ?_, by simpa using hl, by omega⟩
      intro j hjl
      have hjn : j < len := by simpa using hjl
      have e0 := hf2 j hjn
      obtain ⟨c0, _⟩ := hall j (by omega)
      rw [e0] at c0
      have c0' : W.cell? ⟨bs, off + j, none⟩ = some (.int .u8 ((f j).toNat : Int)) := by simpa [Addr.add_lit] using c0
      refine ⟨bs, off, rfl, cell_block c0', fun i u hu => ?_⟩
      have hi0 : i = 0 := by
        have := (List.getElem?_eq_some_iff.1 hu).1
        simp [encB] at this; exact this
      subst hi0
      simp only [encB, List.getElem?_cons_zero, Option.some.injEq] at hu
      subst hu
      simpa [encB] using c0'
    · obtain rfl : len = 0 := by omega
      exact ⟨some ⟨bs, off, spot⟩, m, [], rfl, Rd.nil _ _, Nat.zero_le _, by omega⟩
end Go.Proofs.YtiegakeacghnfaaDoor

namespace Go.Proofs.YtiegakeacghnfaaDoor
open Go.RowKit

theorem drop_kB (M : List Nm) (i : Nat) (h : i < M.length) : ((kB M).drop (i * 32)).take 32 = M[i].1 := by
  induction M generalizing i with
  | nil => exact absurd h (by simp)
  | cons x l ih =>
    have e : kB (x :: l) = x.1 ++ kB l := by simp [kB]
    cases i with
    | zero => rw [e, Nat.zero_mul, List.drop_zero, List.take_left' x.2]; rfl
    | succ j =>
      rw [e, List.drop_append, List.drop_eq_nil_of_le (by rw [x.2]; omega), List.nil_append]
      have := ih j (by simpa using h)
      rw [List.getElem_cons_succ, ← this, x.2, show (j + 1) * 32 - 32 = j * 32 by omega]
theorem pcs_of (M : List Nm) : pcs (kB M) = M := by
  unfold pcs
  rw [kB_len, Nat.mul_div_cancel _ (by decide)]
  apply List.ext_getElem
  · simp
  · intro i h1 h2
    rw [List.getElem_map, List.getElem_range]
    apply Subtype.ext
    show idL (((kB M).drop (i * 32)).take 32) = M[i].1
    rw [drop_kB M i h2]; exact idL_self _ M[i].2
/-- A key of names that rise has names just if there are one to five. -/
theorem nmsOk_of (M : List Nm) (hp : M.Pairwise lN) : nmsOk (kB M) = decide (1 ≤ M.length ∧ M.length ≤ 5) := by
  unfold nmsOk
  rw [pcs_of, kB_len, Nat.mul_div_cancel _ (by decide), (rs_pair M).2 hp, Bool.and_true]
  congr 1
  simp
theorem kB_pcs (K : List UInt8) (h : K.length % 32 = 0) : kB (pcs K) = K := by
  have key : ∀ (n : Nat) (K : List UInt8), K.length = n * 32 → kB ((List.range n).map (pc K)) = K := by
    intro n
    induction n with
    | zero => intro K hK; simp [kB]; exact List.eq_nil_of_length_eq_zero (by omega)
    | succ n ih =>
      intro K hK
      have h1 := ih (K.take (n * 32)) (by rw [List.length_take]; omega)
      have h2 : (List.range n).map (pc (K.take (n * 32))) = (List.range n).map (pc K) := List.map_congr_left fun i hi => by
        have hi := List.mem_range.1 hi
        apply Subtype.ext
        show idL (((K.take (n * 32)).drop (i * 32)).take 32) = idL ((K.drop (i * 32)).take 32)
        congr 1
        rw [List.drop_take, List.take_take, Nat.min_eq_left (by omega)]
      rw [List.range_succ, List.map_append, List.map_cons, List.map_nil, kB_app, ← h2, h1]
      show K.take (n * 32) ++ idL ((K.drop (n * 32)).take 32) = K
      rw [idL_self _ (by rw [List.length_take, List.length_drop]; omega), List.take_of_length_le (l := K.drop (n * 32)) (by rw [List.length_drop]; omega), List.take_append_drop]
  exact key (K.length / 32) K (by omega)
/-- Names by what they hold alone. -/
theorem kset_congr {A B : List Nm} (h : ∀ x, x ∈ A ↔ x ∈ B) : kset A = kset B :=
  strict_uniq _ _ (kset_strict A) (kset_strict B) (fun x => by rw [kset_mem, kset_mem, h])
/-- Two are changed for one another. -/
theorem swap_mem (M : List Nm) (i j : Nat) (hi : i < M.length) (hj : j < M.length) (x : Nm) : x ∈ (M.set i M[j]).set j M[i] ↔ x ∈ M := by
  have key : ∀ k (hk : k < M.length), ((M.set i M[j]).set j M[i])[k]'(by simpa using hk) = if j = k then M[i] else if i = k then M[j] else M[k] := by
    intro k hk
    rw [List.getElem_set]
    split
    · rfl
    · rw [List.getElem_set]
  constructor
  · intro h
    obtain ⟨k, hk, e⟩ := List.mem_iff_getElem.1 h
    have hk2 : k < M.length := by simpa using hk
    rw [key k hk2] at e
    rw [← e]
    split
    · exact List.getElem_mem _
    · split <;> exact List.getElem_mem _
  · intro h
    obtain ⟨k, hk, rfl⟩ := List.mem_iff_getElem.1 h
    by_cases e1 : k = j
    · subst e1
      by_cases e2 : i = k
      · subst e2
        refine List.mem_iff_getElem.2 ⟨i, by simpa using hk, ?_⟩
        rw [key i hk, if_pos rfl]
      · refine List.mem_iff_getElem.2 ⟨i, by simpa using hi, ?_⟩
        rw [key i hi, if_neg (fun e => e2 e.symm), if_pos rfl]
    · by_cases e2 : k = i
      · subst e2
        refine List.mem_iff_getElem.2 ⟨j, by simpa using hj, ?_⟩
        rw [key j hj, if_pos rfl]
      · refine List.mem_iff_getElem.2 ⟨k, by simpa using hk, ?_⟩
        rw [key k hk, if_neg (fun e => e1 e.symm), if_neg (fun e => e2 e.symm)]
/-- A number's name, a name. -/
def nmB (x : UInt8) : Nm := ⟨nameL x, nameL_len x⟩
theorem nmB_map (L : List UInt8) : (L.map nmB).map (·.1) = L.map nameL := by simp [nmB, Function.comp_def]
theorem rd_nm {w : World} {g : Nat} {M : List Nm} (h : Rd encN w (some ⟨g, 0, none⟩) M) (i : Nat) (hi : i < M.length) : ∀ k u, (encN.f M[i])[k]? = some u → w.cell? ⟨g, i * 32 + k, none⟩ = some u := by
  obtain ⟨bs, off, e, _, hc⟩ := h i hi
  cases e
  intro k u hu
  have := hc k u hu
  rw [show encN.k = 32 from rfl, Nat.zero_add] at this
  exact this
theorem rwN_set {T : TypeId} {w : World} {g cap : Nat} {M : List Nm} (h : Rw encN T w (some ⟨g, 0, none⟩) cap M) (i : Nat) (hi : i < M.length) (x : Nm) : ∃ W4, Rw encN T W4 (some ⟨g, 0, none⟩) cap (M.set i x) ∧ Mod (fun k => k = g) w W4 ∧
    ∀ (oo : Oper) (a : Act) (p q : Operand), oo.op = .store 39 p q → a.eval p = .pointer (some ⟨g, i * 32, none⟩) → a.eval q = .agg (vals x.1).toArray → (execOp a.eval oo).run Tryd.prog w = .ok .skip W4 := by
  obtain ⟨cur, hh, hsz, hrw⟩ := h.setAt i hi x
  refine ⟨_, hrw, ((Mod.refl (fun _ => False) w).setRow _).mono (fun i _ h => h.elim (fun h => h.elim) id), fun oo a p q h1 h2 h3 => ?_⟩
  have h := exec_store_at (P := Tryd.prog) (w := w) 39 p q h1 g (i * 32) h2 T cur (vals x.1) h3 hh (by rw [vals_len, x.2]; exact hsz) (by rw [vals_len, x.2]; kernel_rfl) (vals_one x.1)
  rw [vals_len, x.2] at h
  exact h
theorem pcs_getD (T : List UInt8) (j : Nat) (hj : (j + 1) * 32 ≤ T.length) : ((pcs T).map (·.1)).getD j [] = (T.drop (j * 32)).take 32 := by
  have h1 : j < T.length / 32 := by omega
  unfold pcs
  rw [List.map_map, List.getD_eq_getElem?_getD, List.getElem?_map, List.getElem?_range h1]
  show idL ((T.drop (j * 32)).take 32) = _
  exact idL_self _ (by rw [List.length_take, List.length_drop]; omega)
theorem nmsOk_base (T : List UInt8) : nmsOk T = (decide (T.length % 32 = 0 ∧ 32 ≤ T.length ∧ T.length ≤ 160) && rs ((pcs T).map (·.1)) (T.length / 32 - 1)) := by
  unfold nmsOk
  by_cases h : T.length % 32 = 0 ∧ 32 ≤ T.length ∧ T.length ≤ 160
  · rw [decide_eq_true h, decide_eq_true ⟨h.1, by omega, by omega⟩]
  · rw [decide_eq_false h, Bool.false_and]
    by_cases h2 : T.length % 32 = 0
    · rw [decide_eq_false (by omega), Bool.false_and]
    · rw [decide_eq_false (by omega), Bool.false_and]
theorem pcs_key (T : List UInt8) (h : nmsOk T = true) : kB (kset (pcs T)) = T := by
  rw [nmsOk_base] at h
  simp only [Bool.and_eq_true, decide_eq_true_eq] at h
  have hl : (pcs T).length = T.length / 32 := by simp [pcs]
  rw [kset_self ((rs_pair _).1 (by rw [hl]; exact h.2)), kB_pcs T h.1.1]
end Go.Proofs.YtiegakeacghnfaaDoor

namespace Go.Proofs.YtiegakeacghnfaaDoor
open Go

def waitsI (md : Region.Mode) (o : Oper) : List Nat := (o.after.toList.filter (Region.binds md)).map (·.on)
def AllU {Γ : Type} (U : Nat → Γ → World → Prop) (γ : Γ) (w : World) (l : List Nat) : Prop := ∀ j, l.contains j = true → U j γ w

/-- As drawOk, of the edges that bind. -/
def drawOk2 (md : Region.Mode) (ops : Array Oper) (N : Nat) : Bool :=
  (List.range ops.size).all fun i => match ops[i]? with
    | none => true
    | some o => o.after.all (fun e => !Region.binds md e || decide (e.on < i)) && (match o.dst with
      | none => true
      | some d => decide (d < N) && (List.range ops.size).all fun j => j == i || (match ops[j]? with | some p => p.dst != some d | none => true))
structure DrawOk2 (md : Region.Mode) (ops : Array Oper) (N : Nat) : Prop where
  before : ∀ (i : Nat) (o : Oper), ops[i]? = some o → ∀ e ∈ o.after, Region.binds md e = true → e.on < i
  room : ∀ (i : Nat) (o : Oper) (d : Tmp), ops[i]? = some o → o.dst = some d → d < N
  apart : ∀ (i j : Nat) (o p : Oper) (d : Tmp), ops[i]? = some o → ops[j]? = some p → j ≠ i → o.dst = some d → p.dst ≠ some d
theorem drawOk2_spec {md : Region.Mode} {ops : Array Oper} {N : Nat} (h : drawOk2 md ops N = true) : DrawOk2 md ops N := by
  have key : ∀ (i : Nat) (o : Oper), ops[i]? = some o → o.after.all (fun e => !Region.binds md e || decide (e.on < i)) = true ∧ (match o.dst with
      | none => true
      | some d => decide (d < N) && (List.range ops.size).all fun j => j == i || (match ops[j]? with | some p => p.dst != some d | none => true)) = true := by
    intro i o ho
    have hlt : i < ops.size := (Array.getElem?_eq_some_iff.1 ho).1
    have := List.all_eq_true.1 h i (List.mem_range.2 hlt)
    simp only [ho, Bool.and_eq_true] at this
    exact this
  refine ⟨fun i o ho e he hb => ?_, fun i o d ho hd => ?_, fun i j o p d ho hp hj hd hpd => ?_⟩
  · have := Array.all_eq_true_iff_forall_mem.1 (key i o ho).1 e he
    rw [hb] at this
    simpa using this
  · have := (key i o ho).2
    rw [hd] at this
    simp only [Bool.and_eq_true] at this
    exact of_decide_eq_true this.1
  · have := (key i o ho).2
    rw [hd] at this
    simp only [Bool.and_eq_true] at this
    have h2 := List.all_eq_true.1 this.2 j (List.mem_range.2 (Array.getElem?_eq_some_iff.1 hp).1)
    simp only [hp, Bool.or_eq_true, beq_iff_eq, hj, false_or, bne_iff_ne, ne_eq] at h2
    exact h2 hpd
theorem ready_some2 {ops : Array Oper} {md : Region.Mode} {N : Nat} (hok : DrawOk2 md ops N) {L : Array Bool} (hL : L.size = ops.size) : ∀ i, i < ops.size → L.getD i true = false → ∃ j, j ∈ Region.ready md ops L := by
  intro i
  induction i using Nat.strongRecOn with
  | ind i ih =>
    intro hi hun
    have ho : ops[i]? = some ops[i] := Array.getElem?_eq_getElem hi
    by_cases h : ∀ e ∈ ops[i].after, Region.binds md e = true → L.getD e.on false = true
    · exact ⟨i, mem_ready.2 ⟨hun, _, ho, h⟩⟩
    · have ⟨e, he⟩ := Classical.not_forall.1 h
      have ⟨he1, he2⟩ := Classical.not_imp.1 he
      have ⟨hb, hf⟩ := Classical.not_imp.1 he2
      have hlt := hok.before i _ ho e he1 hb
      have hel : e.on < L.size := by omega
      refine ih e.on hlt (by omega) ?_
      simp [hel] at hf ⊢
      exact hf
theorem agree_puts2 {ops : Array Oper} {a0 a : Act} (ha : Agree ops a0 a) (room : ∀ (i : Nat) (o : Oper) (d : Tmp), ops[i]? = some o → o.dst = some d → d < a0.tmps.size) : a = puts (fun t => a.eval (.tmp t)) (dsts ops) a0 := by
  have hm : ∀ t ∈ dsts ops, ∃ (i : Nat) (o : Oper), ops[i]? = some o ∧ o.dst = some t := by
    intro t ht
    obtain ⟨o, ho, hd⟩ := List.mem_filterMap.1 ht
    obtain ⟨i, hi, e⟩ := List.getElem_of_mem ho
    refine ⟨i, o, ?_, hd⟩
    rw [← e]
    simp at hi
    simp [hi]
  have hp := puts_spec (fun t => a.eval (.tmp t)) (dsts ops) a0 (fun t ht => by obtain ⟨i, o, hi, hd⟩ := hm t ht; exact room i o t hi hd)
  refine act_ext (ha.size.trans hp.1.symm) (ha.defers.trans hp.2.1.symm) (fun t => ?_)
  rw [hp.2.2 t]
  by_cases h : t ∈ dsts ops
  · rw [if_pos h]
  · rw [if_neg h]
    refine ha.same t (fun i o hi hd => h ?_)
    exact List.mem_filterMap.2 ⟨o, by simpa using Array.mem_of_getElem? hi, hd⟩

section
variable {P : Program} {ops : Array Oper} {Q : Exit → Act → World → Prop} {md : Region.Mode} {Γ : Type} {V : Tmp → Value → Γ → World → Prop} {U : Nat → Γ → World → Prop} {G : Γ → World → Prop} {a0 : Act}

/-- What one operation owes. -/
def Owes2 (P : Program) (md : Region.Mode) (ops : Array Oper) (Q : Exit → Act → World → Prop) (V : Tmp → Value → Γ → World → Prop) (U : Nat → Γ → World → Prop) (G : Γ → World → Prop) (a0 : Act) (i : Nat) (o : Oper) : Prop :=
  ∀ γ a w, Agree ops a0 a → G γ w → AllV (fun t v w => V t v γ w) a w (waits md ops o) → AllU U γ w (waitsI md o) →
    wpOp P ops Q i (fun a' w' => ∃ v γ', a' = a.put o.dst v ∧ (∀ t, o.dst = some t → V t v γ' w') ∧ U i γ' w' ∧ G γ' w' ∧
      ∀ j p, ops[j]? = some p → j ≠ i → (∀ e ∈ p.after, Region.binds md e = true → e.on ≠ i) → (∀ t x, p.dst = some t → V t x γ w → V t x γ' w') ∧ (U j γ w → U j γ' w')) a w

theorem wpAny_vals2 (hok : DrawOk2 md ops a0.tmps.size) (step : ∀ (i : Nat) (o : Oper), ops[i]? = some o → Owes2 P md ops Q V U G a0 i o)
    (fin : ∀ γ a w, Agree ops a0 a → G γ w → (∀ (i : Nat) (o : Oper) (t : Tmp), ops[i]? = some o → o.dst = some t → V t (a.eval (.tmp t)) γ w) → (∀ (i : Nat) (o : Oper), ops[i]? = some o → U i γ w) → Q .normal a w) :
    ∀ (fuel : Nat) (γ : Γ) (L : Array Bool) (a : Act) (w : World), unl L ops.size ≤ fuel → L.size = ops.size → Agree ops a0 a → G γ w →
      (∀ (j : Nat) (p : Oper), ops[j]? = some p → L.getD j true = true → ∀ e ∈ p.after, Region.binds md e = true → L.getD e.on true = true) →
      (∀ (i : Nat) (o : Oper) (t : Tmp), ops[i]? = some o → L.getD i true = true → o.dst = some t → V t (a.eval (.tmp t)) γ w) →
      (∀ (i : Nat) (o : Oper), ops[i]? = some o → L.getD i true = true → U i γ w) → wpAny P md ops Q fuel L a w := by
  have allL : ∀ L : Array Bool, L.size = ops.size → Region.ready md ops L = [] → ∀ (i : Nat) (o : Oper), ops[i]? = some o → L.getD i true = true := by
    intro L hL hr i o ho
    cases hc : L.getD i true with
    | true => rfl
    | false =>
      obtain ⟨j, hj⟩ := ready_some2 hok hL i (Array.getElem?_eq_some_iff.1 ho).1 hc
      rw [hr] at hj; cases hj
  intro fuel
  induction fuel with
  | zero =>
    intro γ L a w hu hL ha hG _ hv hU
    have hr : Region.ready md ops L = [] := by
      apply List.eq_nil_iff_forall_not_mem.2
      intro j hj
      obtain ⟨hun, o, ho, _⟩ := mem_ready.1 hj
      have := unl_pos L ops.size j (Array.getElem?_eq_some_iff.1 ho).1 hun
      omega
    exact ⟨hr, fin γ a w ha hG (fun i o t ho ht => hv i o t ho (allL L hL hr i o ho) ht) (fun i o ho => hU i o ho (allL L hL hr i o ho))⟩
  | succ fuel ih =>
    intro γ L a w hu hL ha hG hcl hv hU
    refine ⟨fun hr => fin γ a w ha hG (fun i o t ho ht => hv i o t ho (allL L hL hr i o ho) ht) (fun i o ho => hU i o ho (allL L hL hr i o ho)), fun i hi => ?_⟩
    obtain ⟨hun, o, ho, hall⟩ := mem_ready.1 hi
    have hil : i < ops.size := (Array.getElem?_eq_some_iff.1 ho).1
    have up : ∀ k, k < ops.size → L.getD k false = true → L.getD k true = true := by
      intro k hk h
      have hkl : k < L.size := by omega
      simp [hkl] at h ⊢; exact h
    have hw : AllV (fun t v w => V t v γ w) a w (waits md ops o) := AllV.of (by
      intro t ht
      unfold waits at ht
      obtain ⟨e, he, hd⟩ := List.mem_filterMap.1 ht
      obtain ⟨he1, he2⟩ := List.mem_filter.1 he
      cases hj : ops[e.on]? with
      | none => rw [hj] at hd; cases hd
      | some p =>
        rw [hj] at hd
        exact hv e.on p t hj (up _ (Array.getElem?_eq_some_iff.1 hj).1 (hall e (by simpa using he1) he2)) hd)
    have hwU : AllU U γ w (waitsI md o) := by
      intro j hj
      have hj2 : j ∈ waitsI md o := by simpa using hj
      obtain ⟨e, he, rfl⟩ := List.mem_map.1 hj2
      obtain ⟨he1, he2⟩ := List.mem_filter.1 he
      have hlt := hok.before i o ho e (by simpa using he1) he2
      have hes : e.on < ops.size := by omega
      exact hU e.on _ (Array.getElem?_eq_getElem hes) (up _ hes (hall e (by simpa using he1) he2))
    refine wpOp_mono (fun a' w' h => ?_) (step i o ho γ a w ha hG hw hwU)
    obtain ⟨v, γ', rfl, hvi, hUi, hG', hst⟩ := h
    have notOn : ∀ (j : Nat) (p : Oper), ops[j]? = some p → L.getD j true = true → ∀ e ∈ p.after, Region.binds md e = true → e.on ≠ i := by
      intro j p hp hl e he hb heq
      have := hcl j p hp hl e he hb
      rw [heq, hun] at this; cases this
    refine ih γ' _ _ _ ?_ (by simpa using hL) ?_ hG' ?_ ?_ ?_
    · have := unl_set L i hun ops.size
      rw [if_pos hil] at this; omega
    · refine ⟨by rw [size_put]; exact ha.size, by rw [defers_put]; exact ha.defers, fun t ht => ?_⟩
      rw [Act.eval_put (fun d hd e => ht i o ho (by cases e; exact hd))]
      exact ha.same t ht
    · intro j p hp hl e he hb
      by_cases e1 : e.on = i
      · rw [e1]; exact set_self L i
      · rw [getD_set_ne true (Ne.symm e1)]
        by_cases e2 : j = i
        · subst e2
          rw [ho] at hp; cases hp
          have hlt := hok.before j o ho e he hb
          exact up _ (by omega) (hall e he hb)
        · rw [getD_set_ne true (Ne.symm e2)] at hl
          exact hcl j p hp hl e he hb
    · intro j p t hp hl ht
      by_cases e : j = i
      · subst e
        rw [ho] at hp; cases hp
        rw [ht, eval_put_same (by rw [ha.size]; exact hok.room j o t ho ht)]
        exact hvi t ht
      · rw [Act.eval_put (fun d hd e2 => by cases e2; exact hok.apart i j o p t ho hp e hd ht)]
        rw [getD_set_ne true (Ne.symm e)] at hl
        exact (hst j p hp e (notOn j p hp hl)).1 t _ ht (hv j p t hp hl ht)
    · intro j p hp hl
      by_cases e : j = i
      · subst e; exact hUi
      · rw [getD_set_ne true (Ne.symm e)] at hl
        exact (hst j p hp e (notOn j p hp hl)).2 (hU j p hp hl)

def OweAll2 (P : Program) (md : Region.Mode) (ops : Array Oper) (Q : Exit → Act → World → Prop) (V : Tmp → Value → Γ → World → Prop) (U : Nat → Γ → World → Prop) (G : Γ → World → Prop) (a0 : Act) : Nat → List Oper → Prop
  | _, [] => True
  | k, o :: r => Owes2 P md ops Q V U G a0 k o ∧ OweAll2 P md ops Q V U G a0 (k + 1) r
theorem OweAll2.get : ∀ {l : List Oper} {k : Nat}, OweAll2 P md ops Q V U G a0 k l → ∀ (i : Nat) (o : Oper), l[i]? = some o → Owes2 P md ops Q V U G a0 (k + i) o
  | _ :: _, k, h, 0, o, hi => by cases hi; exact h.1
  | _ :: r, k, h, i + 1, o, hi => by
    have := OweAll2.get h.2 i o (by simpa using hi)
    rwa [show k + 1 + i = k + (i + 1) by omega] at this
  | [], _, _, i, o, hi => by simp at hi
theorem OweAll2.cons {k : Nat} {o : Oper} {r : List Oper} (h : Owes2 P md ops Q V U G a0 k o) (h2 : OweAll2 P md ops Q V U G a0 (k + 1) r) : OweAll2 P md ops Q V U G a0 k (o :: r) := ⟨h, h2⟩
theorem OweAll2.nil {k : Nat} : OweAll2 P md ops Q V U G a0 k [] := trivial

/-- A region that draws its order, with a ghost. -/
theorem wp_region_vals2 {id : Nat} {w : World} (γ0 : Γ) (V : Tmp → Value → Γ → World → Prop) (U : Nat → Γ → World → Prop) (G : Γ → World → Prop) (N : Nat) (hm : P.follows .mixedOrders = true) (hok : drawOk2 .any ops N = true) (hN : a0.tmps.size = N) (hG : G γ0 w.drew)
    (step : OweAll2 P .any ops Q V U G a0 0 ops.toList)
    (fin : ∀ γ a w, Agree ops a0 a → G γ w → (∀ (i : Nat) (o : Oper) (t : Tmp), ops[i]? = some o → o.dst = some t → V t (a.eval (.tmp t)) γ w) → (∀ (i : Nat) (o : Oper), ops[i]? = some o → U i γ w) → Q .normal a w) : (Code.region id ops true).wp P Q a0 w := by
  subst hN
  have hok := drawOk2_spec hok
  have hrep : ∀ (i : Nat) (o : Oper), ops[i]? = some o → (Array.replicate ops.size false).getD i true = true → False := by
    intro i o ho hl
    have hlt := (Array.getElem?_eq_some_iff.1 ho).1
    simp [hlt] at hl
  refine wp_region_any hm (wpAny_vals2 hok (V := V) (U := U) (G := G) (fun i o ho => ?_) fin ops.size γ0 _ a0 _ (unl_le _ _) (by simp) ⟨rfl, rfl, fun _ _ => rfl⟩ hG ?_ ?_ ?_)
  · have := step.get i o (by simpa using ho)
    rwa [Nat.zero_add] at this
  · intro j p hp hl; exact (hrep j p hp hl).elim
  · intro j p t hp hl; exact (hrep j p hp hl).elim
  · intro j p hp hl; exact (hrep j p hp hl).elim
/-- .. what follows it at a known frame. -/
theorem wp_region_puts2 {id : Nat} {w : World} (γ0 : Γ) (V : Tmp → Value → Γ → World → Prop) (U : Nat → Γ → World → Prop) (G : Γ → World → Prop) (N : Nat) (hm : P.follows .mixedOrders = true) (hok : drawOk2 .any ops N = true) (hN : a0.tmps.size = N) (hG : G γ0 w.drew)
    (step : OweAll2 P .any ops Q V U G a0 0 ops.toList)
    (fin : ∀ f γ w, G γ w → (∀ (i : Nat) (o : Oper) (t : Tmp), ops[i]? = some o → o.dst = some t → V t (f t) γ w) → (∀ (i : Nat) (o : Oper), ops[i]? = some o → U i γ w) → Q .normal (puts f (dsts ops) a0) w) : (Code.region id ops true).wp P Q a0 w :=
  wp_region_vals2 γ0 V U G N hm hok hN hG step (fun γ a w ha hG hv hU => by
    subst hN
    rw [agree_puts2 ha (drawOk2_spec hok).room]
    exact fin _ γ w hG hv hU)
end
end Go.Proofs.YtiegakeacghnfaaDoor

namespace Go.Proofs.YtiegakeacghnfaaDoor.CV
open Go

section
variable {P : Program} {ops : Array Oper} {Q : Exit → Act → World → Prop} {md : Region.Mode} {V : Tmp → Value → Prop} {G : Nat → Value → World → Prop} {C : List Nat} {a0 : Act}
theorem wpAny_chain (hok : DrawOk2 md ops a0.tmps.size) (hch : chainOk md ops C = true) (hnd : C.Nodup) (hCl : ∀ i ∈ C, i < ops.size) (step : ∀ (i : Nat) (o : Oper), ops[i]? = some o → OwesC P md ops Q V G C a0 i o)
    (fin : ∀ a w x, Agree ops a0 a → G C.length x w → Holds' ops C a C.length x → (∀ (i : Nat) (o : Oper) (t : Tmp), ops[i]? = some o → o.dst = some t → V t (a.eval (.tmp t))) → Q .normal a w) :
    ∀ (fuel : Nat) (L : Array Bool) (a : Act) (w : World) (k : Nat) (x : Value), unl L ops.size ≤ fuel → L.size = ops.size → ChainAt md ops V G C a0 L a w k x → wpAny P md ops Q fuel L a w := by
  have allL : ∀ L : Array Bool, L.size = ops.size → Region.ready md ops L = [] → ∀ (i : Nat) (o : Oper), ops[i]? = some o → L.getD i true = true := by
    intro L hL hr i o ho
    cases hc : L.getD i true with
    | true => rfl
    | false =>
      obtain ⟨j, hj⟩ := ready_some2 hok hL i (Array.getElem?_eq_some_iff.1 ho).1 hc
      rw [hr] at hj; cases hj
  have done : ∀ (L : Array Bool) (a : Act) (w : World) (k : Nat) (x : Value), L.size = ops.size → ChainAt md ops V G C a0 L a w k x → Region.ready md ops L = [] → Q .normal a w := by
    intro L a w k x hL h hr
    have hk : k = C.length := by
      refine Nat.le_antisymm h.le (Nat.le_of_not_lt fun hlt => ?_)
      have hm : C[k]? = some C[k] := List.getElem?_eq_getElem hlt
      have hi := hCl _ (List.getElem_mem hlt)
      exact Nat.lt_irrefl _ ((h.ch k _ hm).1 (allL L hL hr _ _ (Array.getElem?_eq_getElem hi)))
    subst hk
    exact fin a w x h.ag h.g h.ho (fun i o t ho ht => h.v i o t ho (allL L hL hr i o ho) ht)
  intro fuel
  induction fuel with
  | zero =>
    intro L a w k x hu hL h
    have hr : Region.ready md ops L = [] := by
      apply List.eq_nil_iff_forall_not_mem.2
      intro j hj
      obtain ⟨hun, o, ho, _⟩ := mem_ready.1 hj
      have := unl_pos L ops.size j (Array.getElem?_eq_some_iff.1 ho).1 hun
      omega
    exact ⟨hr, done L a w k x hL h hr⟩
  | succ fuel ih =>
    intro L a w k x hu hL h
    refine ⟨fun hr => done L a w k x hL h hr, fun i hi => ?_⟩
    obtain ⟨hun, o, ho, hall⟩ := mem_ready.1 hi
    have hil : i < ops.size := (Array.getElem?_eq_some_iff.1 ho).1
    have hw : AllV (fun t v _ => V t v) a w (waits md ops o) := AllV.of (by
      intro t ht
      unfold waits at ht
      obtain ⟨e, he, hd⟩ := List.mem_filterMap.1 ht
      obtain ⟨he1, he2⟩ := List.mem_filter.1 he
      cases hj : ops[e.on]? with
      | none => rw [hj] at hd; cases hd
      | some p =>
        rw [hj] at hd
        have hl := hall e (by simpa using he1) he2
        exact h.v e.on p t hj (by rw [getD_tf hL (Array.getElem?_eq_some_iff.1 hj).1]; exact hl) hd)
    -- what follows, with k' of the chain done
    have next : ∀ (k' : Nat) (y : Value → Value), k' ≤ C.length → (∀ v, Holds' ops C (a.put o.dst v) k' (y v)) → (∀ (m j : Nat), C[m]? = some j → ((L.setIfInBounds i true).getD j true = true ↔ m < k')) →
        wpOp P ops Q i (fun a' w' => ∃ v, a' = a.put o.dst v ∧ (∀ t, o.dst = some t → V t v) ∧ G k' (y v) w') a w → wpOp P ops Q i (fun a' w' => wpAny P md ops Q fuel (L.setIfInBounds i true) a' w') a w := by
      intro k' y hk' hho hch' hop
      refine wpOp_mono (fun a' w' hh => ?_) hop
      obtain ⟨v, rfl, hvi, hG'⟩ := hh
      refine ih _ _ _ k' (y v) ?_ (by simpa using hL) ⟨hG', hho v, hk', hch', ?_, ?_, ?_, ?_⟩
      · have := unl_set L i hun ops.size
        rw [if_pos hil] at this; omega
      · intro j p hp hl e he hb
        by_cases hji : j = i
        · subst hji
          rw [ho] at hp; cases hp
          have := hall e he hb
          by_cases hei : e.on = j
          · rw [hei, getD_set_at (by omega)]
          · rw [getD_set_ne' hei]; exact this
        · rw [getD_set_ne' hji] at hl
          have := h.cl j p hp hl e he hb
          by_cases hei : e.on = i
          · rw [hei, getD_set_at (by omega)]
          · rw [getD_set_ne' hei]; exact this
      · refine ⟨by rw [size_put]; exact h.ag.size, by rw [defers_put]; exact h.ag.defers, fun t ht => ?_⟩
        rw [Act.eval_put (fun d hd e => ht i o ho (by cases e; exact hd))]
        exact h.ag.same t ht
      · intro j p t hp hl ht
        have e : j ≠ i := by
          rintro rfl
          rw [getD_set_at (by omega)] at hl; cases hl
        rw [Act.eval_put (fun d hd e2 => by cases e2; exact hok.apart i j o p t ho hp e hd ht)]
        rw [getD_set_ne' e] at hl
        exact h.kp j p t hp hl ht
      · intro j p t hp hl ht
        by_cases e : j = i
        · subst e
          rw [ho] at hp; cases hp
          rw [ht, eval_put_same (by rw [h.ag.size]; exact hok.room j o t ho ht)]
          exact hvi t ht
        · rw [Act.eval_put (fun d hd e2 => by cases e2; exact hok.apart i j o p t ho hp e hd ht)]
          rw [getD_set_ne' e] at hl
          exact h.v j p t hp hl ht
    rcases step i o ho with ⟨m, hm, hop⟩ | ⟨hni, b, hb, hop⟩
    · have hmk : m = k := by
        have h1 : ¬ m < k := fun hlt => by rw [(h.ch m i hm).2 hlt] at hun; cases hun
        have h2 : m ≤ k := by
          cases m with
          | zero => exact Nat.zero_le _
          | succ m =>
            have hlt : m < C.length := by have := (List.getElem?_eq_some_iff.1 hm).1; omega
            have hj : C[m]? = some C[m] := List.getElem?_eq_getElem hlt
            obtain ⟨e, he, hbd, hon⟩ := chain_edge hch hj hm ho
            have := hall e he hbd
            rw [hon] at this
            exact (h.ch m _ hj).1 (by rw [getD_tf hL (hCl _ (List.getElem_mem hlt))]; exact this)
        omega
      subst hmk
      have hmlt : m < C.length := (List.getElem?_eq_some_iff.1 hm).1
      refine next (m + 1) (fun v => v) hmlt ?_ ?_ (hop a w x h.agc h.g h.ho hw)
      · intro v m2 j p t hm2 hj hp ht
        obtain rfl : m2 = m := by omega
        rw [hm] at hj; cases hj
        rw [ho] at hp; cases hp
        rw [ht, eval_put_same (by rw [h.ag.size]; exact hok.room i o t ho ht)]
      intro m2 j hj
      by_cases hji : j = i
      · subst hji
        have : m2 = m := by
          obtain ⟨l2, e2⟩ := List.getElem?_eq_some_iff.1 hj
          obtain ⟨l1, e1⟩ := List.getElem?_eq_some_iff.1 hm
          exact (List.getElem_inj hnd).1 (e2.trans e1.symm)
        subst this
        rw [getD_set_at (by omega)]
        exact ⟨fun _ => Nat.lt_succ_self _, fun _ => rfl⟩
      · rw [getD_set_ne' hji, h.ch m2 j hj]
        have : m2 ≠ m := by
          rintro rfl
          rw [hm] at hj; cases hj; exact hji rfl
        omega
    · have hkb : k ≤ b := by
        unfold aheadOf at hb
        rw [Bool.or_eq_true, beq_iff_eq] at hb
        rcases hb with rfl | hb
        · exact h.le
        · cases hj : C[b]? with
          | none => rw [hj] at hb; cases hb
          | some j =>
            rw [hj] at hb
            simp only at hb
            refine Nat.le_of_not_lt fun hlt => ?_
            have := reach_done h.cl 16 j i hb ((h.ch b j hj).2 hlt)
            rw [← getD_tf hL hil, hun] at this
            cases this
      refine next k (fun _ => x) h.le ?_ ?_ (hop k hkb a w x h.agc h.g hw)
      · intro v m2 j p t hm2 hj hp ht
        have hji : j ≠ i := by
          rintro rfl
          have := List.mem_of_getElem? hj
          rw [List.contains_eq_mem, decide_eq_false_iff_not] at hni
          exact hni this
        rw [Act.eval_put (fun d hd e2 => by cases e2; exact hok.apart i j o p t ho hp hji hd ht)]
        exact h.ho m2 j p t hm2 hj hp ht
      intro m2 j hj
      have hji : j ≠ i := by
        rintro rfl
        have := List.mem_of_getElem? hj
        rw [List.contains_eq_mem, decide_eq_false_iff_not] at hni
        exact hni this
      rw [getD_set_ne' hji, h.ch m2 j hj]

theorem wp_region_chain {id : Nat} {w : World} (V : Tmp → Value → Prop) (G : Nat → Value → World → Prop) (C : List Nat) (N : Nat) (hm : P.follows .mixedOrders = true) (hok : drawOk2 .any ops N = true) (hN : a0.tmps.size = N)
    (hch : chainOk .any ops C = true) (hnd : decide C.Nodup = true) (hCl : C.all (· < ops.size) = true) (hG : G 0 undef w.drew)
    (step : OweAllC P .any ops Q V G C a0 0 ops.toList)
    (fin : ∀ f w x, G C.length x w → (∀ (m i : Nat) (o : Oper) (t : Tmp), C.length = m + 1 → C[m]? = some i → ops[i]? = some o → o.dst = some t → f t = x) → (∀ (i : Nat) (o : Oper) (t : Tmp), ops[i]? = some o → o.dst = some t → V t (f t)) → Q .normal (puts f (dsts ops) a0) w) : (Code.region id ops true).wp P Q a0 w := by
  subst hN
  have hok := drawOk2_spec hok
  have hCl' : ∀ i ∈ C, i < ops.size := fun i hi => by simpa using List.all_eq_true.1 hCl i hi
  have hL0 : ∀ i, i < ops.size → (Array.replicate ops.size false).getD i true = false := fun i hi => by simp [hi]
  refine wp_region_any hm (wpAny_chain (V := V) (G := G) (C := C) hok hch (of_decide_eq_true hnd) hCl' (fun i o ho => ?_) (fun a w x ha hg hh hv => ?_) ops.size _ a0 _ 0 undef (unl_le _ _) (by simp) ⟨hG, (fun m i o t h => by omega), Nat.zero_le _, ?_, ?_, ⟨rfl, rfl, fun _ _ => rfl⟩, (fun _ _ _ _ _ _ => rfl), ?_⟩)
  · have := step.get i o (by simpa using ho)
    rwa [Nat.zero_add] at this
  · rw [agree_puts2 ha hok.room]
    exact fin _ w x hg hh hv
  · intro m i hi
    have := hCl' i (List.mem_of_getElem? hi)
    rw [hL0 i this]
    simp
  · intro i o ho hl
    rw [hL0 i (Array.getElem?_eq_some_iff.1 ho).1] at hl; cases hl
  · intro i o t ho hl _
    rw [hL0 i (Array.getElem?_eq_some_iff.1 ho).1] at hl; cases hl

end
end Go.Proofs.YtiegakeacghnfaaDoor.CV
