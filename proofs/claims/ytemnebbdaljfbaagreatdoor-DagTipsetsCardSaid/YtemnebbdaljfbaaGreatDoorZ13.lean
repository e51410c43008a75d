/- Texts 13: what the laws lean on. -/
import Derived.Test.YtemnebbdaljfbaaGreatDoorZ2
import Derived.Test.YtemnebbdaljfbaaGreatDoorZ12
import Derived.Test.YtemnebbdaljfbaaGreatDoorZ6
import Derived.Test.YtemnebbdaljfbaaGreatDoorZ8
import Derived.Test.YtemnebbdaljfbaaGreatDoorZ5
import Derived.Test.YtemnebbdaljfbaaGreatDoorZ4
set_option linter.unusedVariables false
set_option linter.unusedSimpArgs false
namespace Go.Proofs.YtemnebbdaljfbaaGreatDoor
open Go.RowKit

theorem refofB (s : List UInt8) (w : World) (hl : s.length ≤ 1073741824) :
    Calls Tryz.prog 86 #[.string ⟨s.toArray⟩] w fun r w' => r = .returned (.string ⟨(shaB s).toArray⟩) ∧ Below w.heap.size w w' :=
  (refof_any s w hl).mono fun _ _ ⟨h1, h2⟩ => ⟨by rw [h1, sha_bytes], h2.to_below (Nat.le_refl _) (fun _ _ h => h)⟩
end Go.Proofs.YtemnebbdaljfbaaGreatDoor

namespace Go.Proofs.YtemnebbdaljfbaaGreatDoor
open Go.RowKit

theorem exec_add_str {P : Program} {o : Oper} {a : Act} {w : World} (ty ty' : TypeId) (x y : Operand) (ho : o.op = .binOp .add ty x y ty') (A B : List UInt8) (hx : a.eval x = .string ⟨A.toArray⟩) (hy : a.eval y = .string ⟨B.toArray⟩) (h : A.length + B.length ≤ 9223372036854775807) :
    (execOp a.eval o).run P w = .ok (.value (.string ⟨(A ++ B).toArray⟩)) w := by
  have hr := run_string_add_sum (P := P) (w := w) (⟨A.toArray⟩ : ByteArray) ⟨B.toArray⟩ (by simpa [ByteArray.size] using h)
  rw [cat_bytes] at hr
  simp [execOp, ho, hx, hy, eqGuard, binOp_string_add, hr]
structure HPos {α : Type} (h : Hd α) : Prop where
  n : h.ps.length ≤ 1000000
  k : h.tk.length ≤ 1000000
  pw : h.pw < 18446744073709551616
  b1 : -9223372036854775808 ≤ h.ht ∧ h.ht ≤ 9223372036854775807
  b2 : -9223372036854775808 ≤ h.mi ∧ h.mi ≤ 9223372036854775807
  b3 : -9223372036854775808 ≤ h.wi ∧ h.wi ≤ 9223372036854775807
  b4 : -9223372036854775808 ≤ h.sa ∧ h.sa ≤ 9223372036854775807

set_option maxRecDepth 20000 in
set_option maxHeartbeats 8000000 in
theorem rbytes_any (h : Hd (List UInt8)) (ao : Option Addr) (cap : Nat) (w : World) (hL : Rd encS w ao h.ps) (ok : HPos h) (hf : h.ps.flatten.length ≤ 100000000) :
    Calls Tryz.prog 87 #[.agg (hcells h ao cap)] w fun r w' => r = .returned (.string ⟨(hbytes id h).toArray⟩) ∧ Below w.heap.size w w' := by
  obtain ⟨ht, mi, tk, wi, pw, ps, sa⟩ := h
  obtain ⟨o1, o2, o3, b1, b2, b3, b4⟩ := ok
  simp only at hL hf o1 o2 o3 b1 b2 b3 b4
  have n1 := numL_len ht (by have := b1.2; omega)
  have n2 := numL_len mi (by have := b2.2; omega)
  have n3 := numL_len (tk.length : Int) (by omega)
  have n4 := numL_len wi (by have := b3.2; omega)
  obtain ⟨PW, hPW⟩ : ∃ PW : Int, IntKind.i64.wrap (pw : Int) = PW := ⟨_, rfl⟩
  have hPb : -9223372036854775808 ≤ PW ∧ PW ≤ 9223372036854775807 := by rw [IntKind.wrap_i64] at hPW; omega
  have n5 := numL_len PW (by omega)
  have n6 := numL_len (ps.length : Int) (by omega)
  have n7 := numL_len sa (by have := b4.2; omega)
  have hp5 : numL (pwN pw) = numL PW := by
    rw [IntKind.wrap_i64] at hPW
    unfold pwN
    by_cases h : 9223372036854775807 < pw
    · rw [if_pos h, numL_toNat PW, show PW.toNat = 0 by omega]; rfl
    · rw [if_neg h, show PW = (pw : Int) by omega]
  have hfin : hbytes id (⟨ht, mi, tk, wi, pw, ps, sa⟩ : Hd (List UInt8)) = ((numL ht ++ numL mi) ++ (numL tk.length ++ tk)) ++ ((numL wi ++ numL PW) ++ numL ps.length) ++ ps.flatten ++ numL sa := by
    simp [hbytes, hhead, hp5, List.append_assoc]
  rw [hfin]
  have K1 : Hid (∀ w, Calls Tryz.prog 68 #[.int .i64 ht] w fun r w' => r = .returned (.string ⟨(numL ht).toArray⟩) ∧ Below w.heap.size w w') := Lib.hid (fun w => refnum_any ht w b1.1 b1.2)
  have K2 : Hid (∀ w, Calls Tryz.prog 68 #[.int .i64 mi] w fun r w' => r = .returned (.string ⟨(numL mi).toArray⟩) ∧ Below w.heap.size w w') := Lib.hid (fun w => refnum_any mi w b2.1 b2.2)
  have K3 : Hid (∀ w, Calls Tryz.prog 69 #[.string ⟨tk.toArray⟩] w fun r w' => r = .returned (.string ⟨(numL tk.length ++ tk).toArray⟩) ∧ Below w.heap.size w w') := Lib.hid (fun w => reftext_any tk w (by omega))
  have K4 : Hid (∀ w, Calls Tryz.prog 68 #[.int .i64 wi] w fun r w' => r = .returned (.string ⟨(numL wi).toArray⟩) ∧ Below w.heap.size w w') := Lib.hid (fun w => refnum_any wi w b3.1 b3.2)
  have K5 : Hid (∀ w, Calls Tryz.prog 68 #[.int .i64 PW] w fun r w' => r = .returned (.string ⟨(numL PW).toArray⟩) ∧ Below w.heap.size w w') := Lib.hid (fun w => refnum_any PW w hPb.1 hPb.2)
  obtain ⟨n, hn⟩ : ∃ n, n = ps.length := ⟨_, rfl⟩
  rw [← hn] at n6 ⊢
  have o1n : n ≤ 1000000 := by omega
  have K6 : Hid (∀ w, Calls Tryz.prog 68 #[.int .i64 (n : Int)] w fun r w' => r = .returned (.string ⟨(numL n).toArray⟩) ∧ Below w.heap.size w w') := Lib.hid (fun w => refnum_any n w (by omega) (by omega))
  have K7 : Hid (∀ w, Calls Tryz.prog 68 #[.int .i64 sa] w fun r w' => r = .returned (.string ⟨(numL sa).toArray⟩) ∧ Below w.heap.size w w') := Lib.hid (fun w => refnum_any sa w b4.1 b4.2)
  have l3 : (numL tk.length ++ tk).length ≤ 1000009 := by rw [List.length_append]; omega
  generalize numL ht = N1 at K1 n1 ⊢
  generalize numL mi = N2 at K2 n2 ⊢
  generalize numL tk.length ++ tk = N3 at K3 l3 ⊢
  generalize numL wi = N4 at K4 n4 ⊢
  generalize numL PW = N5 at K5 n5 ⊢
  generalize numL (n : Int) = N6 at K6 n6 ⊢
  generalize numL sa = N7 at K7 n7 ⊢
  obtain ⟨N8, h8⟩ : ∃ N, N = ps.flatten := ⟨_, rfl⟩
  rw [← h8] at hf ⊢
  have a1 : (N1 ++ N2).length ≤ 18 := by rw [List.length_append]; omega
  have a2 : (N1 ++ N2 ++ N3).length ≤ 1000027 := by rw [List.length_append]; omega
  have a3 : (N4 ++ N5).length ≤ 18 := by rw [List.length_append]; omega
  have a4 : (N4 ++ N5 ++ N6).length ≤ 27 := by rw [List.length_append]; omega
  have hwr : IntKind.i64.wrap (pw : Int) = PW := hPW
  unfold hcells
  simp only
  rw [← hn]
  obtain ⟨W0, hW0⟩ : ∃ W0, W0 = w.alloc (.cells #[.int .i64 ht, .int .i64 mi, .string ⟨tk.toArray⟩, .int .i64 wi, .int .u64 (pw : Int), .slice ao n cap, .int .i64 sa] 29) := ⟨_, rfl⟩
  have hbox : W0.heap[w.heap.size]? = some (.cells #[.int .i64 ht, .int .i64 mi, .string ⟨tk.toArray⟩, .int .i64 wi, .int .u64 (pw : Int), .slice ao n cap, .int .i64 sa] 29 (0, 0)) := by rw [hW0]; exact heap_alloc_new _ _
  have hbw : Below w.heap.size w W0 := by rw [hW0]; exact (Below.refl _ _).alloc (Nat.le_refl _) _
  have hread : Hid (∀ (w1 : World), Below W0.heap.size W0 w1 → w1.cell? ⟨w.heap.size, 0, none⟩ = some (.int .i64 ht) ∧ w1.cell? ⟨w.heap.size, 1, none⟩ = some (.int .i64 mi) ∧ w1.cell? ⟨w.heap.size, 2, none⟩ = some (.string ⟨tk.toArray⟩) ∧ w1.cell? ⟨w.heap.size, 3, none⟩ = some (.int .i64 wi) ∧ w1.cell? ⟨w.heap.size, 4, none⟩ = some (.int .u64 (pw : Int)) ∧ w1.cell? ⟨w.heap.size, 5, none⟩ = some (.slice ao n cap) ∧ w1.cell? ⟨w.heap.size, 6, none⟩ = some (.int .i64 sa) ∧ Rd encS w1 ao ps ∧ Below w.heap.size w w1) := Lib.hid (by
    intro w1 h1
    have hh := (h1.block _ (Array.getElem?_eq_some_iff.1 hbox).1).trans hbox
    have hc := fun i => cell_of_row w1 w.heap.size i _ 29 (0, 0) hh
    have h2 := hbw.trans (h1.mono hbw.size)
    exact ⟨hc 0, hc 1, hc 2, hc 3, hc 4, hc 5, hc 6, hL.old h2, h2⟩)
  have HW0 := Lib.hid hW0
  have Hn := Lib.hid hn
  have H8 := Lib.hid h8
  clear h8 hn hW0 hbox hbw hL hfin hp5
  go_enter Tryz.func87, Tryz.ntmps87
  go_wp2_with fail
  rw [← HW0.out]
  generalize hgg : w.heap.size = g at hread ⊢
  have HGG : Hid (g = w.heap.size) := Lib.hid hgg.symm
  clear hgg
  refine wp_region_puts (fun t v w => VK (match t with
    | 6 => .eq (.pointer (some ⟨g, 0, none⟩))
    | 7 => .eq (.int .i64 ht)
    | 8 => .eq (.string ⟨N1.toArray⟩)
    | 9 => .eq (.pointer (some ⟨g, 1, none⟩))
    | 10 => .eq (.int .i64 mi)
    | 11 => .eq (.string ⟨N2.toArray⟩)
    | 12 => .eq (.string ⟨((N1) ++ (N2)).toArray⟩)
    | 13 => .eq (.pointer (some ⟨g, 2, none⟩))
    | 14 => .eq (.string ⟨tk.toArray⟩)
    | 15 => .eq (.string ⟨N3.toArray⟩)
    | 16 => .eq (.string ⟨((N1 ++ N2) ++ (N3)).toArray⟩)
    | 3 => .eq (.string ⟨((N1 ++ N2) ++ (N3)).toArray⟩)
    | _ => .any) v w) (fun w' => Below W0.heap.size W0 w') 48 (by kernel_rfl) (by decide +kernel) rfl (Below.refl _ _).drew (by
    refine OweAll.cons (owesK rfl rfl fun a w1 ha hG hV => ?_) ?_
    · skip
      have h1 := ha.outer 1 (by decide +kernel)
      simp only [Act.eval] at h1
      exact ⟨.pointer (some ⟨g, 0, none⟩), w1, wanted_free rfl, by simp [execOp, go_sem, h1], Below.refl _ _, rfl⟩
    refine OweAll.cons (owesK rfl rfl fun a w1 ha hG hV => ?_) ?_
    · skip
      have h6 : a.tmps.getD 6 undef = .pointer (some ⟨g, 0, none⟩) := hV.get 6 (by decide +kernel)
      have cc := hread.out w1 hG
      exact ⟨.int .i64 ht, w1, wanted_free rfl, by simp [execOp, go_sem, h6, cc.1], Below.refl _ _, rfl⟩
    refine OweAll.cons (owesK_call rfl rfl 68 fun a w1 ha hG hV => ?_) ?_
    · skip
      have h7 : a.tmps.getD 7 undef = .int .i64 ht := hV.get 7 (by decide +kernel)
      refine ⟨#[.int .i64 ht], wanted_free rfl, by simp [execOp, resolve, invoke, go_sem, h7], ?_⟩
      refine (K1.out w1).mono ?_
      rintro r u2 ⟨rfl, hb⟩; exact ⟨_, rfl, rfl, hb⟩
    refine OweAll.cons (owesK rfl rfl fun a w1 ha hG hV => ?_) ?_
    · skip
      have h1 := ha.outer 1 (by decide +kernel)
      simp only [Act.eval] at h1
      exact ⟨.pointer (some ⟨g, 1, none⟩), w1, wanted_free rfl, by simp [execOp, go_sem, h1], Below.refl _ _, rfl⟩
    refine OweAll.cons (owesK rfl rfl fun a w1 ha hG hV => ?_) ?_
    · skip
      have h9 : a.tmps.getD 9 undef = .pointer (some ⟨g, 1, none⟩) := hV.get 9 (by decide +kernel)
      have cc := hread.out w1 hG
      exact ⟨.int .i64 mi, w1, wanted_free rfl, by simp [execOp, go_sem, h9, cc.2.1], Below.refl _ _, rfl⟩
    refine OweAll.cons (owesK_call rfl rfl 68 fun a w1 ha hG hV => ?_) ?_
    · skip
      have h10 : a.tmps.getD 10 undef = .int .i64 mi := hV.get 10 (by decide +kernel)
      refine ⟨#[.int .i64 mi], wanted_free rfl, by simp [execOp, resolve, invoke, go_sem, h10], ?_⟩
      refine (K2.out w1).mono ?_
      rintro r u2 ⟨rfl, hb⟩; exact ⟨_, rfl, rfl, hb⟩
    refine OweAll.cons (owesK rfl rfl fun a w1 ha hG hV => ?_) ?_
    · skip
      have h8 : a.tmps.getD 8 undef = .string ⟨N1.toArray⟩ := hV.get 8 (by decide +kernel)
      have h11 : a.tmps.getD 11 undef = .string ⟨N2.toArray⟩ := hV.get 11 (by decide +kernel)
      exact ⟨.string ⟨((N1) ++ (N2)).toArray⟩, w1, wanted_free rfl, exec_add_str 9 9 (.tmp 8) (.tmp 11) rfl (N1) (N2) h8 h11 (by omega), Below.refl _ _, rfl⟩
    refine OweAll.cons (owesK rfl rfl fun a w1 ha hG hV => ?_) ?_
    · skip
      have h1 := ha.outer 1 (by decide +kernel)
      simp only [Act.eval] at h1
      exact ⟨.pointer (some ⟨g, 2, none⟩), w1, wanted_free rfl, by simp [execOp, go_sem, h1], Below.refl _ _, rfl⟩
    refine OweAll.cons (owesK rfl rfl fun a w1 ha hG hV => ?_) ?_
    · skip
      have h13 : a.tmps.getD 13 undef = .pointer (some ⟨g, 2, none⟩) := hV.get 13 (by decide +kernel)
      have cc := hread.out w1 hG
      exact ⟨.string ⟨tk.toArray⟩, w1, wanted_free rfl, by simp [execOp, go_sem, h13, cc.2.2.1], Below.refl _ _, rfl⟩
    refine OweAll.cons (owesK_call rfl rfl 69 fun a w1 ha hG hV => ?_) ?_
    · skip
      have h14 : a.tmps.getD 14 undef = .string ⟨tk.toArray⟩ := hV.get 14 (by decide +kernel)
      refine ⟨#[.string ⟨tk.toArray⟩], wanted_free rfl, by simp [execOp, resolve, invoke, go_sem, h14], ?_⟩
      refine (K3.out w1).mono ?_
      rintro r u2 ⟨rfl, hb⟩; exact ⟨_, rfl, rfl, hb⟩
    refine OweAll.cons (owesK rfl rfl fun a w1 ha hG hV => ?_) ?_
    · skip
      have h12 : a.tmps.getD 12 undef = .string ⟨((N1) ++ (N2)).toArray⟩ := hV.get 12 (by decide +kernel)
      have h15 : a.tmps.getD 15 undef = .string ⟨N3.toArray⟩ := hV.get 15 (by decide +kernel)
      exact ⟨.string ⟨((N1 ++ N2) ++ (N3)).toArray⟩, w1, wanted_free rfl, exec_add_str 9 9 (.tmp 12) (.tmp 15) rfl (N1 ++ N2) (N3) h12 h15 (by omega), Below.refl _ _, rfl⟩
    refine OweAll.cons (owesK rfl rfl fun a w1 ha hG hV => ?_) ?_
    · skip
      have h16 : a.tmps.getD 16 undef = .string ⟨((N1 ++ N2) ++ (N3)).toArray⟩ := hV.get 16 (by decide +kernel)
      exact ⟨.string ⟨((N1 ++ N2) ++ (N3)).toArray⟩, w1, wanted_free rfl, by simp [execOp, go_sem, h16], Below.refl _ _, rfl⟩
    exact OweAll.nil
    ) ?_
  intro f wz hG hv
  have e3 : f 3 = .string ⟨((N1 ++ N2) ++ (N3)).toArray⟩ := hv 11 _ 3 rfl rfl
  rename_i hK
  refine hK _ _ ?_
  clear hK hv
  simp only [dsts, puts, List.filterMap_cons, List.filterMap_nil, List.foldl_cons, List.foldl_nil, Act.put, List.setIfInBounds_toArray, List.set_cons_succ, List.set_cons_zero, e3]
  clear e3
  have hwz := hG
  clear hG
  have hread2 : Hid (∀ w1 : World, Below wz.heap.size wz w1 → Below W0.heap.size W0 w1) := Lib.hid (fun w1 h => hwz.trans (h.mono hwz.size))
  have HZ := Lib.hid hwz
  clear hwz
  generalize hS1 : N1 ++ N2 ++ N3 = S1 at a2 ⊢
  have HS1 := Lib.hid hS1.symm
  clear hS1 a1
  have HG0 : Hid (Below wz.heap.size wz wz.drew) := Lib.hid (Below.refl _ _).drew
  go_wp2_with fail
  refine wp_region_chain (fun t v => match t with
    | 17 => v = .string ⟨S1.toArray⟩
    | 18 => v = .pointer (some ⟨g, 3, none⟩)
    | 19 => v = .int .i64 wi
    | 20 => v = .string ⟨N4.toArray⟩
    | 21 => v = .pointer (some ⟨g, 4, none⟩)
    | 22 => v = .int .u64 (pw : Int)
    | 23 => v = .int .i64 PW
    | 24 => v = .string ⟨N5.toArray⟩
    | 25 => v = .string ⟨((N4) ++ (N5)).toArray⟩
    | 26 => v = .pointer (some ⟨g, 5, none⟩)
    | 27 => v = .slice ao n cap
    | 28 => v = .int .i64 (n : Int)
    | 29 => v = .string ⟨N6.toArray⟩
    | 30 => v = .string ⟨((N4 ++ N5) ++ (N6)).toArray⟩
    | 31 => v = .string ⟨((S1) ++ (N4 ++ N5 ++ N6)).toArray⟩
    | 3 => v = .string ⟨(S1 ++ (N4 ++ N5 ++ N6)).toArray⟩
    | _ => True) (fun (_ : Nat) (_ : Value) (w1 : World) => Below wz.heap.size wz w1) [15] 48 (by kernel_rfl) (by decide +kernel) rfl (by decide +kernel) (by decide) (by decide) HG0.out (by
    refine OweAllC.cons (owesC_val 0 (by decide +kernel) (by decide) rfl rfl fun k' a w1 x hk ha hG hV => ?_) ?_
    · skip
      have h3 := ha.kp 0 15 _ 3 (by omega) rfl rfl rfl
      simp only [Act.eval] at h3
      exact ⟨.string ⟨S1.toArray⟩, wanted_free rfl, by simp [execOp, go_sem, h3], rfl⟩
    refine OweAllC.cons (owesC_val 0 (by decide +kernel) (by decide) rfl rfl fun k' a w1 x hk ha hG hV => ?_) ?_
    · skip
      have h1 := ha.outer 1 (by decide +kernel)
      simp only [Act.eval] at h1
      exact ⟨.pointer (some ⟨g, 3, none⟩), wanted_free rfl, by simp [execOp, go_sem, h1], rfl⟩
    refine OweAllC.cons (owesC_val 0 (by decide +kernel) (by decide) rfl rfl fun k' a w1 x hk ha hG hV => ?_) ?_
    · skip
      have h18 : a.tmps.getD 18 undef = .pointer (some ⟨g, 3, none⟩) := hV.get 18 (by decide +kernel)
      have cc := hread.out w1 (hread2.out w1 hG)
      exact ⟨.int .i64 wi, wanted_free rfl, by simp [execOp, go_sem, h18, cc.2.2.2.1], rfl⟩
    refine OweAllC.cons (owesC_side 0 (by decide +kernel) (by decide) rfl rfl 68 fun k' a w1 x hk ha hG hV => ?_) ?_
    · skip
      have h19 : a.tmps.getD 19 undef = .int .i64 wi := hV.get 19 (by decide +kernel)
      refine ⟨#[.int .i64 wi], wanted_free rfl, by simp [execOp, resolve, invoke, go_sem, h19], ?_⟩
      refine (K4.out w1).mono ?_
      rintro r u2 ⟨rfl, hb⟩; exact ⟨_, rfl, rfl, hG.trans (hb.mono hG.size)⟩
    refine OweAllC.cons (owesC_val 0 (by decide +kernel) (by decide) rfl rfl fun k' a w1 x hk ha hG hV => ?_) ?_
    · skip
      have h1 := ha.outer 1 (by decide +kernel)
      simp only [Act.eval] at h1
      exact ⟨.pointer (some ⟨g, 4, none⟩), wanted_free rfl, by simp [execOp, go_sem, h1], rfl⟩
    refine OweAllC.cons (owesC_val 0 (by decide +kernel) (by decide) rfl rfl fun k' a w1 x hk ha hG hV => ?_) ?_
    · skip
      have h21 : a.tmps.getD 21 undef = .pointer (some ⟨g, 4, none⟩) := hV.get 21 (by decide +kernel)
      have cc := hread.out w1 (hread2.out w1 hG)
      exact ⟨.int .u64 (pw : Int), wanted_free rfl, by simp [execOp, go_sem, h21, cc.2.2.2.2.1], rfl⟩
    refine OweAllC.cons (owesC_val 0 (by decide +kernel) (by decide) rfl rfl fun k' a w1 x hk ha hG hV => ?_) ?_
    · skip
      have h22 : a.tmps.getD 22 undef = .int .u64 (pw : Int) := hV.get 22 (by decide +kernel)
      exact ⟨.int .i64 PW, wanted_free rfl, by simp [execOp, go_sem, h22, hwr, Tryz.underlying26, Tryz.underlying3], rfl⟩
    refine OweAllC.cons (owesC_side 0 (by decide +kernel) (by decide) rfl rfl 68 fun k' a w1 x hk ha hG hV => ?_) ?_
    · skip
      have h23 : a.tmps.getD 23 undef = .int .i64 PW := hV.get 23 (by decide +kernel)
      refine ⟨#[.int .i64 PW], wanted_free rfl, by simp [execOp, resolve, invoke, go_sem, h23], ?_⟩
      refine (K5.out w1).mono ?_
      rintro r u2 ⟨rfl, hb⟩; exact ⟨_, rfl, rfl, hG.trans (hb.mono hG.size)⟩
    refine OweAllC.cons (owesC_val 0 (by decide +kernel) (by decide) rfl rfl fun k' a w1 x hk ha hG hV => ?_) ?_
    · skip
      have h20 : a.tmps.getD 20 undef = .string ⟨N4.toArray⟩ := hV.get 20 (by decide +kernel)
      have h24 : a.tmps.getD 24 undef = .string ⟨N5.toArray⟩ := hV.get 24 (by decide +kernel)
      exact ⟨.string ⟨((N4) ++ (N5)).toArray⟩, wanted_free rfl, exec_add_str 9 9 (.tmp 20) (.tmp 24) rfl (N4) (N5) h20 h24 (by omega), rfl⟩
    refine OweAllC.cons (owesC_val 0 (by decide +kernel) (by decide) rfl rfl fun k' a w1 x hk ha hG hV => ?_) ?_
    · skip
      have h1 := ha.outer 1 (by decide +kernel)
      simp only [Act.eval] at h1
      exact ⟨.pointer (some ⟨g, 5, none⟩), wanted_free rfl, by simp [execOp, go_sem, h1], rfl⟩
    refine OweAllC.cons (owesC_val 0 (by decide +kernel) (by decide) rfl rfl fun k' a w1 x hk ha hG hV => ?_) ?_
    · skip
      have h26 : a.tmps.getD 26 undef = .pointer (some ⟨g, 5, none⟩) := hV.get 26 (by decide +kernel)
      have cc := hread.out w1 (hread2.out w1 hG)
      exact ⟨.slice ao n cap, wanted_free rfl, by simp [execOp, go_sem, h26, cc.2.2.2.2.2.1], rfl⟩
    refine OweAllC.cons (owesC_val 0 (by decide +kernel) (by decide) rfl rfl fun k' a w1 x hk ha hG hV => ?_) ?_
    · skip
      have h27 : a.tmps.getD 27 undef = .slice ao n cap := hV.get 27 (by decide +kernel)
      exact ⟨.int .i64 (n : Int), wanted_free rfl, by simp [execOp, go_sem, h27], rfl⟩
    refine OweAllC.cons (owesC_side 0 (by decide +kernel) (by decide) rfl rfl 68 fun k' a w1 x hk ha hG hV => ?_) ?_
    · skip
      have h28 : a.tmps.getD 28 undef = .int .i64 (n : Int) := hV.get 28 (by decide +kernel)
      refine ⟨#[.int .i64 (n : Int)], wanted_free rfl, by simp [execOp, resolve, invoke, go_sem, h28], ?_⟩
      refine (K6.out w1).mono ?_
      rintro r u2 ⟨rfl, hb⟩; exact ⟨_, rfl, rfl, hG.trans (hb.mono hG.size)⟩
    refine OweAllC.cons (owesC_val 0 (by decide +kernel) (by decide) rfl rfl fun k' a w1 x hk ha hG hV => ?_) ?_
    · skip
      have h25 : a.tmps.getD 25 undef = .string ⟨((N4) ++ (N5)).toArray⟩ := hV.get 25 (by decide +kernel)
      have h29 : a.tmps.getD 29 undef = .string ⟨N6.toArray⟩ := hV.get 29 (by decide +kernel)
      exact ⟨.string ⟨((N4 ++ N5) ++ (N6)).toArray⟩, wanted_free rfl, exec_add_str 9 9 (.tmp 25) (.tmp 29) rfl (N4 ++ N5) (N6) h25 h29 (by omega), rfl⟩
    refine OweAllC.cons (owesC_val 0 (by decide +kernel) (by decide) rfl rfl fun k' a w1 x hk ha hG hV => ?_) ?_
    · skip
      have h17 : a.tmps.getD 17 undef = .string ⟨S1.toArray⟩ := hV.get 17 (by decide +kernel)
      have h30 : a.tmps.getD 30 undef = .string ⟨((N4 ++ N5) ++ (N6)).toArray⟩ := hV.get 30 (by decide +kernel)
      exact ⟨.string ⟨((S1) ++ (N4 ++ N5 ++ N6)).toArray⟩, wanted_free rfl, exec_add_str 9 9 (.tmp 17) (.tmp 30) rfl (S1) (N4 ++ N5 ++ N6) h17 h30 (by omega), rfl⟩
    refine OweAllC.cons (owesC_mem 0 rfl rfl rfl fun a w1 x ha hG hx hV => ?_) ?_
    · skip
      have h31 : a.tmps.getD 31 undef = .string ⟨((S1) ++ (N4 ++ N5 ++ N6)).toArray⟩ := hV.get 31 (by decide +kernel)
      exact ⟨.string ⟨(S1 ++ (N4 ++ N5 ++ N6)).toArray⟩, w1, wanted_free rfl, by simp [execOp, go_sem, h31], rfl, hG⟩
    exact OweAllC.nil
    ) ?_
  intro f wy xy hG hx hv
  have e3 : f 3 = .string ⟨(S1 ++ (N4 ++ N5 ++ N6)).toArray⟩ := hv 15 _ 3 rfl rfl
  first | (rename_i hK; refine hK _ _ ?_; clear hK) | (rename_i hK _; refine hK _ _ ?_; clear hK) | (rename_i hK _ _; refine hK _ _ ?_; clear hK) | (rename_i hK _ _ _; refine hK _ _ ?_; clear hK)
  clear hv hx
  simp only [dsts, puts, List.filterMap_cons, List.filterMap_nil, List.foldl_cons, List.foldl_nil, Act.put, List.setIfInBounds_toArray, List.set_cons_succ, List.set_cons_zero, e3]
  clear e3
  have hwy := hread2.out wy hG
  clear hG HZ hread2
  have l2 : (S1 ++ (N4 ++ N5 ++ N6)).length ≤ 1000054 := by rw [List.length_append]; omega
  generalize hS2 : S1 ++ (N4 ++ N5 ++ N6) = S2 at l2 ⊢
  have HS2 := Lib.hid hS2.symm
  have cc := hread.out wy hwy
  have c5 := cc.2.2.2.2.2.1
  have c6 := cc.2.2.2.2.2.2.1
  have HR := Lib.hid cc.2.2.2.2.2.2.2.1
  have HB := Lib.hid cc.2.2.2.2.2.2.2.2
  clear hS2 a2 a3 a4 cc hwy
  go_wp2_with fail
  go_loopw [3, 5, 35] (fun s3 _ s35 wr => ∃ (i : Nat) (D : List UInt8), i ≤ n ∧ s35 = .int .i64 (i : Int) ∧ s3 = .string ⟨D.toArray⟩ ∧ Hid (D = S2 ++ (ps.take i).flatten) ∧ Hid (wy = wr)) (fun _ _ i _ => n - (intOf i).toNat)
  case atStart => exact ⟨0, S2, Nat.zero_le _, rfl, rfl, Lib.hid (by simp), Lib.hid rfl⟩
  case round =>
    obtain ⟨i, D, hi, rfl, rfl, HD, HW⟩ := hrel
    have hw := HW.out
    subst hw
    by_cases hlt : i < n
    · have hiL : i < ps.length := by rw [← Hn.out]; exact hlt
      obtain ⟨bs, off, rfl, hbs, cx⟩ := HR.out.str i hiL
      have hnx : ps.take (i + 1) = ps.take i ++ [ps[i]] := List.take_succ_eq_append_getElem hiL
      obtain ⟨x, hx⟩ : ∃ x, x = ps[i] := ⟨_, rfl⟩
      rw [← hx] at cx hnx
      have Hnx : Hid (D ++ x = S2 ++ (ps.take (i + 1)).flatten) := Lib.hid (by rw [hnx, List.flatten_append, HD.out]; simp)
      have i0 : (0 : Int) ≤ i := by omega
      have i1 : (i : Int) < n := by omega
      have Hlt := Lib.hid hlt
      have hle : D.length + x.length ≤ 101000054 := by
        have e : N8 = (ps.take (i + 1)).flatten ++ (ps.drop (i + 1)).flatten := by rw [H8.out, ← List.flatten_append, List.take_append_drop]
        have e2 := congrArg List.length e
        have e3 := congrArg List.length Hnx.out
        rw [List.length_append] at e2 e3
        rw [List.length_append] at e3
        omega
      have hle2 : (D.length : Int) + x.length ≤ 9223372036854775807 := by omega
      have hle3 : D.length + x.length ≤ 9223372036854775807 := by omega
      clear hle hx hnx hiL hlt
      go_wp2_with fail
      go_roundw
      case rel => exact ⟨i + 1, D ++ x, by have := Hlt.out; omega, by go_num, val_str (cat_bytes D x), Hnx, Lib.hid trivial⟩
      case measure => have := Hlt.out; simp [intOf]; omega
    · have i1 : ¬ (i : Int) < n := by omega
      have e : i = n := by omega
      obtain ⟨D2, hD2⟩ : ∃ D2, D2 = S2 ++ N8 := ⟨_, rfl⟩
      obtain rfl : D = D2 := by rw [HD.out, hD2, H8.out, e, Hn.out, List.take_length]
      have hDl : D.length ≤ 101000054 := by rw [hD2, List.length_append]; omega
      have HD2 : Hid (((N1 ++ N2) ++ N3) ++ ((N4 ++ N5) ++ N6) ++ N8 ++ N7 = D ++ N7) := Lib.hid (by rw [hD2, HS2.out, HS1.out])
      clear e hD2 HD
      have hle2 : (D.length : Int) + N7.length ≤ 9223372036854775807 := by omega
      have hle3 : D.length + N7.length ≤ 9223372036854775807 := by omega
      go_wp2_with fail
      refine (K7.out _).mono ?_
      rintro r w9 ⟨rfl, hb9⟩
      have HB9 := Lib.hid (HB.out.trans (hb9.mono (by rw [HGG.out]; exact HB.out.size)))
      clear hb9
      go_wp2_with fail
      go_ret
      exact ⟨by rw [HD2.out]; exact ret_str (cat_bytes D N7), HGG.out ▸ HB9.out⟩

set_option maxRecDepth 20000 in
set_option maxHeartbeats 4000000 in
theorem rid_any (h : Hd (List UInt8)) (ao : Option Addr) (cap : Nat) (w : World) (hL : Rd encS w ao h.ps) (ok : HPos h) (hf : h.ps.flatten.length ≤ 100000000) :
    Calls Tryz.prog 46 #[.agg (hcells h ao cap)] w fun r w' => r = .returned (.string ⟨(shaB (hbytes id h)).toArray⟩) ∧ Below w.heap.size w w' := by
  have hlen : (hbytes id h).length ≤ 1073741824 := by
    have n1 := numL_len h.ht (by have := ok.b1.2; omega)
    have n2 := numL_len h.mi (by have := ok.b2.2; omega)
    have n3 := numL_len (h.tk.length : Int) (by have := ok.k; omega)
    have n4 := numL_len h.wi (by have := ok.b3.2; omega)
    have n5 := numL_len (pwN h.pw) (by have := pwN_bd h.pw; omega)
    have n6 := numL_len (h.ps.length : Int) (by have := ok.n; omega)
    have n7 := numL_len h.sa (by have := ok.b4.2; omega)
    have hk := ok.k
    simp only [hbytes, hhead, List.length_append, List.map_id]
    omega
  have hby := Lib.hid (fun w' (hb : Below w.heap.size w w') => rbytes_any h ao cap w' (hL.old hb) ok hf)
  obtain ⟨C, hC⟩ : ∃ C, C = hcells h ao cap := ⟨_, rfl⟩
  have hCs : C.size = 7 := by rw [hC]; rfl
  rw [← hC] at hby ⊢
  obtain ⟨S, hS⟩ : ∃ S, S = hbytes id h := ⟨_, rfl⟩
  rw [← hS] at hby hlen ⊢
  have hof := Lib.hid (fun w => refofB S w hlen)
  generalize shaB S = Z at hof ⊢
  have hci : (Tryz.prog.info? 29).map (·.size) = some C.size := by rw [hCs]; exact rhinfo
  have hb0 : Below w.heap.size w (w.alloc (.cells C 29)) := (Below.refl _ w).alloc (Nat.le_refl _) _
  have HB0 := Lib.hid hb0
  clear hS hC hCs hlen hL hb0
  go_enter Tryz.func46, Tryz.ntmps46
  go_wp2_with (refine wpList_load_row rfl 29 (.tmp 1) rfl w.heap.size rfl 29 C (0, 0) _ (heap_alloc_new _ _) Tryz.underlying29 rfl hci ?_)
  refine (hby.out _ HB0.out).mono ?_
  rintro r w1 ⟨rfl, hb1⟩
  have HB1 := Lib.hid (HB0.out.trans (hb1.mono HB0.out.size))
  clear hb1
  go_wp2_with fail
  refine (hof.out w1).mono ?_
  rintro r w2 ⟨rfl, hb2⟩
  have HB2 := Lib.hid (HB1.out.trans (hb2.mono HB1.out.size))
  clear hb2
  go_wp2_with fail
  go_ret
  exact ⟨rfl, HB2.out⟩
end Go.Proofs.YtemnebbdaljfbaaGreatDoor

namespace Go.Proofs.YtemnebbdaljfbaaGreatDoor
open Go.RowKit

structure RBk where
  nm : List UInt8
  x : RH
instance : Inhabited RBk := ⟨⟨[], default⟩⟩
def RBk.cells (b : RBk) : List Value := .string ⟨b.nm.toArray⟩ :: b.x.cells
theorem RBk.len (b : RBk) : b.cells.length = 8 := rfl
theorem RBk.one (b : RBk) : ∀ v ∈ b.cells, v.oneCell' = true := by
  intro v hv
  rcases List.mem_cons.1 hv with rfl | h
  · rfl
  · exact b.x.one v h
def encRB : Enc RBk := ⟨RBk.cells, 8, RBk.len, RBk.one, by decide⟩
theorem argH.pos {w : World} {x : RH} (h : argH w x) (hn : x.h.ps.length ≤ 1000000) (hk : x.h.tk.length ≤ 1000000) : HPos x.h := ⟨hn, hk, h.pw, h.b1, h.b2, h.b3, h.b4⟩
def nmR (h : Hd (List UInt8)) : List UInt8 := shaB (hbytes id h)
theorem nmR_len (h : Hd (List UInt8)) : (nmR h).length = 32 := shaB_len _
set_option maxRecDepth 20000 in
theorem build_rb {o : Oper} {a : Act} {w : World} (x y : Operand) (ho : o.op = .build 31 #[(0, x), (1, y)]) (b : RBk) (hx : a.eval x = .string ⟨b.nm.toArray⟩) (hy : a.eval y = .agg b.x.cells.toArray) :
    (execOp a.eval o).run Tryz.prog w = .ok (.value (.agg b.cells.toArray)) w := by
  unfold execOp
  simp only [ho, List.map_toArray, List.map_cons, List.map_nil, hx, hy]
  obtain ⟨z, hz, hzs⟩ : ∃ z : Value, (∀ w, (zeroValue 31).run Tryz.prog w = .ok z w) ∧ z.cells.size = 8 := ⟨_, Tryz.zeroValue31, rfl⟩
  have hf := fill_two (.string ⟨b.nm.toArray⟩) (.agg b.x.cells.toArray) z.cells 1 7 rfl rfl hzs
  simp [Instr.build, run_underlying Tryz.underlying31, Tryz.sizeOf9, Tryz.sizeOf29, hz, hf]
  rfl
theorem rb_info (b : RBk) : (Tryz.prog.info? 31).map (·.size) = some b.cells.toArray.size := by show _ = some 8; kernel_rfl
theorem rh_info (x : RH) : (Tryz.prog.info? 29).map (·.size) = some x.cells.toArray.size := by show _ = some 7; kernel_rfl
theorem two_newR (w : World) (o1 o2 : Obj) (C ZB : Array Value) (t1 t2 : TypeId) (h1 : o1 = .cells C t1 (0, 0)) (h2 : o2 = .cells ZB t2 (0, 0)) (h3 : ZB.size = 8) : Below w.heap.size w ((w.alloc o1).alloc o2) ∧ ((w.alloc o1).alloc o2).heap[w.heap.size]? = some (.cells C t1 (0, 0)) ∧ ∃ ZB : Array Value, ZB.size = 8 ∧ ((w.alloc o1).alloc o2).heap[w.heap.size + 1]? = some (.cells ZB t2 (0, 0)) := by
  subst h1 h2
  refine ⟨((Below.refl _ w).alloc (Nat.le_refl _) _).alloc (by simp) _, ?_, ZB, h3, ?_⟩
  · rw [Below.heap_alloc _ _ _ (by simp)]; exact heap_alloc_new w _
  · have := heap_alloc_new (w.alloc (.cells C t1)) (.cells ZB t2); simpa using this
set_option maxRecDepth 20000 in
set_option maxHeartbeats 4000000 in
theorem rmake_any (yh : RH) (w : World) (hx : argH w yh) (hn : yh.h.ps.length ≤ 1000000) (hk : yh.h.tk.length ≤ 1000000) (hf : yh.h.ps.flatten.length ≤ 100000000) :
    Calls Tryz.prog 42 #[.agg yh.cells.toArray] w fun r w' => r = .returned (.agg (⟨nmR yh.h, yh⟩ : RBk).cells.toArray) ∧ Below w.heap.size w w' := by
  have HID := Lib.hid (fun w' (hb : Below w.heap.size w w') => rid_any yh.h yh.q yh.c w' (hx.rd.old hb) (hx.pos hn hk) hf)
  obtain ⟨nm, hnm⟩ : ∃ nm, nm = nmR yh.h := ⟨_, rfl⟩
  have HI2 : Hid (∀ w', Below w.heap.size w w' → Calls Tryz.prog 46 #[.agg yh.cells.toArray] w' fun r w'' => r = .returned (.string ⟨nm.toArray⟩) ∧ Below w'.heap.size w' w'') := Lib.hid (by rw [hnm]; exact HID.out)
  rw [← hnm]
  have HRI := Lib.hid (rh_info yh)
  clear hx hn hk hf HID hnm
  go_enter Tryz.func42, Tryz.ntmps42
  go_wp2_with fail
  refine wp_gen (fun W0 => Below w.heap.size w W0 ∧ W0.heap[w.heap.size]? = some (.cells yh.cells.toArray 29 (0, 0)) ∧ ∃ ZB : Array Value, ZB.size = 8 ∧ W0.heap[w.heap.size + 1]? = some (.cells ZB 31 (0, 0))) (two_newR w _ _ _ _ _ _ rfl rfl rfl) (fun W0 hW0 => ?_)
  obtain ⟨hb0, hbx, ZB, hZs, hZ⟩ := hW0
  obtain ⟨g, hg⟩ : ∃ g, g = w.heap.size := ⟨_, rfl⟩
  rw [← hg] at hbx hZ
  rw [← hg]
  have HB0 := Lib.hid hb0
  have HBX := Lib.hid hbx
  have HZS := Lib.hid hZs
  have HZ := Lib.hid hZ
  have HGL : Hid (w.heap.size ≤ g + 1) := Lib.hid (by omega)
  clear hb0 hbx hZs hZ hg
  have HG0 : Hid ((fun (j : Nat) (_ : Value) (w1 : World) => (j = 0 → Below W0.heap.size W0 w1) ∧ (j = 1 → w1.heap[g + 1]? = some (.cells (⟨nm, yh⟩ : RBk).cells.toArray 31 (0, 0)) ∧ Below w.heap.size w w1)) 0 undef W0.drew) := Lib.hid ⟨fun _ => (Below.refl _ _).drew, (fun h => absurd h (by omega))⟩
  refine wp_region_chain2 (fun t v => match t with
    | 3 => v = .agg yh.cells.toArray
    | 4 => v = .string ⟨nm.toArray⟩
    | 5 => v = .agg yh.cells.toArray
    | 6 => v = .agg (⟨nm, yh⟩ : RBk).cells.toArray
    | _ => True) (fun (j : Nat) (_ : Value) (w1 : World) => (j = 0 → Below W0.heap.size W0 w1) ∧ (j = 1 → w1.heap[g + 1]? = some (.cells (⟨nm, yh⟩ : RBk).cells.toArray 31 (0, 0)) ∧ Below w.heap.size w w1)) [4] 7 (by kernel_rfl) (by decide +kernel) rfl (by decide +kernel) (by decide) (by decide) HG0.out (by
    refine OweAllC.cons (owesC_val 0 (by decide +kernel) (by decide) rfl rfl fun k' a w1 x hk ha hG hV => ?_) ?_
    · skip
      have h1 := ha.outer 1 (by decide +kernel)
      simp only [Act.eval] at h1
      have hbb := hG.1 (by omega)
      exact ⟨.agg yh.cells.toArray, wanted_free rfl, exec_load_row 29 (.tmp 1) rfl g h1 29 _ (0, 0) _ ((hbb.block g (Array.getElem?_eq_some_iff.1 HBX.out).1).trans HBX.out) Tryz.underlying29 rfl HRI.out, rfl⟩
    refine OweAllC.cons (owesC_side 0 (by decide +kernel) (by decide) rfl rfl 46 fun k' a w1 x hk ha hG hV => ?_) ?_
    · skip
      have h3 : a.tmps.getD 3 undef = .agg yh.cells.toArray := hV.get 3 (by decide +kernel)
      refine ⟨#[.agg yh.cells.toArray], wanted_free rfl, by simp [execOp, resolve, invoke, go_sem, h3], ?_⟩
      refine (HI2.out w1 (HB0.out.trans ((hG.1 (by omega)).mono HB0.out.size))).mono ?_
      rintro r u2 ⟨rfl, hb⟩; exact ⟨_, rfl, rfl, (fun h => (hG.1 h).trans (hb.mono (hG.1 h).size)), (fun h => absurd h (by omega))⟩
    refine OweAllC.cons (owesC_val 0 (by decide +kernel) (by decide) rfl rfl fun k' a w1 x hk ha hG hV => ?_) ?_
    · skip
      have h1 := ha.outer 1 (by decide +kernel)
      simp only [Act.eval] at h1
      have hbb := hG.1 (by omega)
      exact ⟨.agg yh.cells.toArray, wanted_free rfl, exec_load_row 29 (.tmp 1) rfl g h1 29 _ (0, 0) _ ((hbb.block g (Array.getElem?_eq_some_iff.1 HBX.out).1).trans HBX.out) Tryz.underlying29 rfl HRI.out, rfl⟩
    refine OweAllC.cons (owesC_val 0 (by decide +kernel) (by decide) rfl rfl fun k' a w1 x hk ha hG hV => ?_) ?_
    · skip
      have h4 : a.tmps.getD 4 undef = .string ⟨nm.toArray⟩ := hV.get 4 (by decide +kernel)
      have h5 : a.tmps.getD 5 undef = .agg yh.cells.toArray := hV.get 5 (by decide +kernel)
      have g4 : a.tmps[4]?.getD undef = .string ⟨nm.toArray⟩ := by simpa using h4
      have g5 : a.tmps[5]?.getD undef = .agg yh.cells.toArray := by simpa using h5
      exact ⟨.agg (⟨nm, yh⟩ : RBk).cells.toArray, wanted_free rfl, build_rb (.tmp 4) (.tmp 5) rfl (⟨nm, yh⟩ : RBk) h4 h5, rfl⟩
    refine OweAllC.cons (owesC_store 0 rfl rfl rfl fun a w1 x ha hG hx hV => ?_) ?_
    · skip
      have h2 := ha.outer 2 (by decide +kernel)
      simp only [Act.eval] at h2
      have h6 : a.tmps.getD 6 undef = .agg (⟨nm, yh⟩ : RBk).cells.toArray := hV.get 6 (by decide +kernel)
      have hbb := hG.1 (by omega)
      have hz1 := (hbb.block (g + 1) (Array.getElem?_eq_some_iff.1 HZ.out).1).trans HZ.out
      refine ⟨_, wanted_free rfl, exec_store_rowK 31 (.tmp 2) (.tmp 6) rfl (g + 1) h2 31 ZB _ h6 hz1 (by rw [HZS.out]; rfl) (rb_info _) (by simpa using RBk.one _), (fun h => absurd h (by omega)), fun _ => ⟨setRow_heap _ _ _ _ _ _ hz1, ?_⟩⟩
      have hbw := HB0.out.trans (hbb.mono HB0.out.size)
      exact hbw.trans (((Mod.refl (fun _ => False) w1).setRow (g := g + 1) _).to_below hbw.size (by rintro i hi (h | h); exact h; have := HGL.out; omega))
    exact OweAllC.nil
    ) ?_
  intro f wz xz hG hx hv
  first | (rename_i hK; refine hK _ _ ?_; clear hK) | (rename_i hK _; refine hK _ _ ?_; clear hK) | (rename_i hK _ _; refine hK _ _ ?_; clear hK) | (rename_i hK _ _ _; refine hK _ _ ?_; clear hK)
  clear hv hx
  simp only [dsts, puts, List.filterMap_cons, List.filterMap_nil, List.foldl_cons, List.foldl_nil, Act.put, List.setIfInBounds_toArray, List.set_cons_succ, List.set_cons_zero]
  obtain ⟨hrow, hbw⟩ := hG.2 rfl
  have HRO := Lib.hid hrow
  have HBW := Lib.hid hbw
  clear hG HG0 hrow hbw
  go_wp2_with fail
  exact bodyPost_ret (v := .agg (⟨nm, yh⟩ : RBk).cells.toArray) (results_cell_row Tryz.results42 _ _ (g + 1) 31 _ (0, 0) _ rfl HRO.out Tryz.underlying31 rfl (rb_info _)) rfl ⟨rfl, HBW.out⟩
def grh : RH := ⟨⟨0, 0, [], 0, 2, [], 0⟩, none, 0⟩
theorem grh_arg (w : World) : argH w grh := ⟨(Rd.nil (E := encS) w none : Rd encS w none []), by decide, by decide, by constructor <;> decide, by constructor <;> decide, by constructor <;> decide, by constructor <;> decide⟩
set_option maxRecDepth 20000 in
set_option maxHeartbeats 2000000 in
theorem rgenesis_any (w : World) : Calls Tryz.prog 9 #[] w fun r w' => r = .returned (.agg (⟨nmR grh.h, grh⟩ : RBk).cells.toArray) ∧ Below w.heap.size w w' := by
  have HM : Hid (∀ u, Calls Tryz.prog 42 #[.agg #[.int .i64 0, .int .i64 0, .string ⟨#[]⟩, .int .i64 0, .int .u64 2, .slice none 0 0, .int .i64 0]] u fun r w' => r = .returned (.agg (⟨nmR grh.h, grh⟩ : RBk).cells.toArray) ∧ Below u.heap.size u w') := Lib.hid (fun u => rmake_any grh u (grh_arg u) (by decide) (by decide) (by decide))
  obtain ⟨B, hB⟩ : ∃ B, B = (⟨nmR grh.h, grh⟩ : RBk).cells.toArray := ⟨_, rfl⟩
  rw [← hB] at HM ⊢
  have HSZ : Hid (B.size = 8) := Lib.hid (by rw [hB]; rfl)
  have HIN : Hid ((Tryz.prog.info? 31).map (·.size) = some B.size) := Lib.hid (by rw [hB]; exact rb_info _)
  have HON : Hid (∀ v ∈ B.toList, v.oneCell' = true) := Lib.hid (by rw [hB]; simpa using RBk.one _)
  clear hB
  go_enter Tryz.func9, Tryz.ntmps9
  go_upto_region 1 with fail
  refine wp_gen (fun W0 => Below w.heap.size w W0 ∧ ∃ ZB : Array Value, ZB.size = 8 ∧ W0.heap[w.heap.size]? = some (.cells ZB 31 (0, 0))) ⟨alloc1 _ _, _, rfl, heap_alloc_new w _⟩ (fun W0 hW0 => ?_)
  obtain ⟨hb0, ZB, hZs, hZ⟩ := hW0
  obtain ⟨g, hg⟩ : ∃ g, g = w.heap.size := ⟨_, rfl⟩
  rw [← hg] at hZ
  rw [← hg]
  have HB0 := Lib.hid hb0
  have HZS := Lib.hid hZs
  have HZ := Lib.hid hZ
  have HGL : Hid (w.heap.size ≤ g) := Lib.hid (by omega)
  clear hb0 hZs hZ hg
  go_wp2_with fail
  refine (HM.out W0).mono ?_
  rintro r w2 ⟨rfl, hb2⟩
  have hz2 := (hb2.block g (Array.getElem?_eq_some_iff.1 HZ.out).1).trans HZ.out
  have HZ2 := Lib.hid hz2
  have L0 := Lib.hid (setRow_heap w2 g _ B 31 (0, 0) hz2)
  have HB2 := Lib.hid (HB0.out.trans (hb2.mono HB0.out.size))
  have HBF : Hid (Below w.heap.size w (w2.setRow g B)) := Lib.hid (HB2.out.trans (((Mod.refl (fun _ => False) w2).setRow (g := g) B).to_below HB2.out.size (by rintro k hk (h | h); exact h; have := HGL.out; omega)))
  clear hb2 hz2
  go_wp2_with (refine wpList_store_row rfl rfl 31 (.tmp 0) (.tmp 2) rfl g rfl 31 ZB B rfl HZ2.out (by rw [HZS.out, HSZ.out]) HIN.out HON.out ?_)
  exact bodyPost_ret (v := .agg B) (results_cell_row Tryz.results9 _ _ g 31 _ (0, 0) _ rfl L0.out Tryz.underlying31 rfl HIN.out) rfl ⟨rfl, HBF.out⟩
end Go.Proofs.YtemnebbdaljfbaaGreatDoor

namespace Go.Proofs.YtemnebbdaljfbaaGreatDoor
open Go.RowKit

def TextsV (R : List (List UInt8)) : Stays := ⟨fun v w => ∃ q c, v = .slice q R.length c ∧ Rd encS w q R, fun {v w w'} h hb => by obtain ⟨q, c, e, hR⟩ := h; exact ⟨q, c, e, hR.old hb⟩⟩

set_option maxRecDepth 20000 in
set_option maxHeartbeats 8000000 in
theorem rfamily_any (h : Hd (List UInt8)) (ao : Option Addr) (cap : Nat) (w : World) (hL : Rd encS w ao h.ps) (hn : h.ps.length ≤ 100000) (hpw : h.pw ≤ 9223372036854775807) (b1 : -9223372036854775808 ≤ h.ht ∧ h.ht ≤ 9223372036854775807) (hj : (rsort h.ps).flatten.length ≤ 100000000) :
    Calls Tryz.prog 28 #[.agg (hcells h ao cap)] w fun r w' => r = .returned (.string ⟨(hfam h (rsort h.ps).flatten).toArray⟩) ∧ Below w.heap.size w w' := by
  obtain ⟨ht, mi, tk, wi, pw, ps, sa⟩ := h
  simp only at hL hn hpw b1 hj
  have n1 := numL_len ht (by have := b1.2; omega)
  have n5 := numL_len (pw : Int) (by omega)
  have hp5 : pwN pw = (pw : Int) := by unfold pwN; rw [if_neg (by omega)]
  have hsl := rsort_len ps
  have SO : Hid (∀ w, Rd encS w ao ps → Calls Tryz.prog 18 #[.slice ao ps.length cap] w fun r w' => ∃ q c, r = .returned (.slice q (rsort ps).length c) ∧ Rw encS 9 w' q c (rsort ps) ∧ (∀ a, q = some a → w.heap.size ≤ a.block) ∧ Below w.heap.size w w') := Lib.hid (fun w h => rsorts_any ao cap ps w h hn)
  obtain ⟨RS, hRS⟩ : ∃ R, R = rsort ps := ⟨_, rfl⟩
  rw [← hRS] at SO hj hsl ⊢
  have JN : Hid (∀ q c w, Rd encS w q RS → Calls Tryz.prog 20 #[.slice q RS.length c] w fun r w' => r = .returned (.string ⟨RS.flatten.toArray⟩) ∧ w = w') := Lib.hid (fun q c w h => rjoin_any q c RS w h (by omega) (by omega))
  obtain ⟨J, hJ⟩ : ∃ J, J = RS.flatten := ⟨_, rfl⟩
  rw [← hJ] at JN hj ⊢
  have nJ := numL_len (J.length : Int) (by omega)
  have hfin : hfam (⟨ht, mi, tk, wi, pw, ps, sa⟩ : Hd (List UInt8)) J = (numL ht ++ numL pw) ++ (numL J.length ++ J) := by
    simp [hfam, hp5]
  rw [hfin]
  have K1 : Hid (∀ w, Calls Tryz.prog 68 #[.int .i64 ht] w fun r w' => r = .returned (.string ⟨(numL ht).toArray⟩) ∧ Below w.heap.size w w') := Lib.hid (fun w => refnum_any ht w b1.1 b1.2)
  have K5 : Hid (∀ w, Calls Tryz.prog 68 #[.int .i64 (pw : Int)] w fun r w' => r = .returned (.string ⟨(numL pw).toArray⟩) ∧ Below w.heap.size w w') := Lib.hid (fun w => refnum_any pw w (by omega) (by omega))
  have K3 : Hid (∀ w, Calls Tryz.prog 69 #[.string ⟨J.toArray⟩] w fun r w' => r = .returned (.string ⟨(numL J.length ++ J).toArray⟩) ∧ Below w.heap.size w w') := Lib.hid (fun w => reftext_any J w (by omega))
  have l3 : (numL J.length ++ J).length ≤ 100000009 := by rw [List.length_append]; omega
  generalize numL ht = N1 at K1 n1 ⊢
  generalize numL (pw : Int) = N5 at K5 n5 ⊢
  generalize numL J.length ++ J = N3 at K3 l3 ⊢
  have a1 : (N1 ++ N5).length ≤ 18 := by rw [List.length_append]; omega
  have hwr : IntKind.i64.wrap (pw : Int) = (pw : Int) := IntWalk.i64_in _ (by omega)
  obtain ⟨n, hn2⟩ : ∃ n, n = ps.length := ⟨_, rfl⟩
  unfold hcells
  simp only
  rw [← hn2] at SO ⊢
  obtain ⟨W0, hW0⟩ : ∃ W0, W0 = w.alloc (.cells #[.int .i64 ht, .int .i64 mi, .string ⟨tk.toArray⟩, .int .i64 wi, .int .u64 (pw : Int), .slice ao n cap, .int .i64 sa] 29) := ⟨_, rfl⟩
  have hbox : W0.heap[w.heap.size]? = some (.cells #[.int .i64 ht, .int .i64 mi, .string ⟨tk.toArray⟩, .int .i64 wi, .int .u64 (pw : Int), .slice ao n cap, .int .i64 sa] 29 (0, 0)) := by rw [hW0]; exact heap_alloc_new _ _
  have hbw : Below w.heap.size w W0 := by rw [hW0]; exact (Below.refl _ _).alloc (Nat.le_refl _) _
  have hread : Hid (∀ (w1 : World), Below W0.heap.size W0 w1 → w1.cell? ⟨w.heap.size, 0, none⟩ = some (.int .i64 ht) ∧ w1.cell? ⟨w.heap.size, 4, none⟩ = some (.int .u64 (pw : Int)) ∧ w1.cell? ⟨w.heap.size, 5, none⟩ = some (.slice ao n cap) ∧ Rd encS w1 ao ps ∧ Below w.heap.size w w1) := Lib.hid (by
    intro w1 h1
    have hh := (h1.block _ (Array.getElem?_eq_some_iff.1 hbox).1).trans hbox
    have hc := fun i => cell_of_row w1 w.heap.size i _ 29 (0, 0) hh
    have h2 := hbw.trans (h1.mono hbw.size)
    exact ⟨hc 0, hc 4, hc 5, hL.old h2, h2⟩)
  have HW0 := Lib.hid hW0
  clear hn2 hRS hJ hW0 hbox hbw hL hfin hp5
  go_enter Tryz.func28, Tryz.ntmps28
  go_wp2_with fail
  rw [← HW0.out]
  generalize hgg : w.heap.size = g at hread ⊢
  have HGG : Hid (g = w.heap.size) := Lib.hid hgg.symm
  clear hgg
  refine wp_region_puts (fun t v w => VK (match t with
    | 3 => .eq (.pointer (some ⟨g, 0, none⟩))
    | 4 => .eq (.int .i64 ht)
    | 5 => .eq (.string ⟨N1.toArray⟩)
    | 6 => .eq (.pointer (some ⟨g, 4, none⟩))
    | 7 => .eq (.int .u64 (pw : Int))
    | 8 => .eq (.int .i64 (pw : Int))
    | 9 => .eq (.string ⟨N5.toArray⟩)
    | 10 => .eq (.string ⟨((N1) ++ (N5)).toArray⟩)
    | 11 => .eq (.pointer (some ⟨g, 5, none⟩))
    | 12 => .eq (.slice ao n cap)
    | 13 => .st (TextsV RS)
    | 14 => .eq (.string ⟨J.toArray⟩)
    | 15 => .eq (.string ⟨N3.toArray⟩)
    | 16 => .eq (.string ⟨(((N1) ++ (N5)) ++ (N3)).toArray⟩)
    | 2 => .eq (.string ⟨(((N1) ++ (N5)) ++ (N3)).toArray⟩)
    | _ => .any) v w) (fun w' => Below W0.heap.size W0 w') 17 (by kernel_rfl) (by decide +kernel) rfl (Below.refl _ _).drew (by
    refine OweAll.cons (owesK rfl rfl fun a w1 ha hG hV => ?_) ?_
    · skip
      have h1 := ha.outer 1 (by decide +kernel)
      simp only [Act.eval] at h1
      exact ⟨.pointer (some ⟨g, 0, none⟩), w1, wanted_free rfl, by simp [execOp, go_sem, h1], Below.refl _ _, rfl⟩
    refine OweAll.cons (owesK rfl rfl fun a w1 ha hG hV => ?_) ?_
    · skip
      have h3 : a.tmps.getD 3 undef = .pointer (some ⟨g, 0, none⟩) := hV.get 3 (by decide +kernel)
      have cc := hread.out w1 hG
      exact ⟨.int .i64 ht, w1, wanted_free rfl, by simp [execOp, go_sem, h3, cc.1], Below.refl _ _, rfl⟩
    refine OweAll.cons (owesK_call rfl rfl 68 fun a w1 ha hG hV => ?_) ?_
    · skip
      have h4 : a.tmps.getD 4 undef = .int .i64 ht := hV.get 4 (by decide +kernel)
      refine ⟨#[.int .i64 ht], wanted_free rfl, by simp [execOp, resolve, invoke, go_sem, h4], ?_⟩
      refine (K1.out w1).mono ?_
      rintro r u2 ⟨rfl, hb⟩; exact ⟨_, rfl, rfl, hb⟩
    refine OweAll.cons (owesK rfl rfl fun a w1 ha hG hV => ?_) ?_
    · skip
      have h1 := ha.outer 1 (by decide +kernel)
      simp only [Act.eval] at h1
      exact ⟨.pointer (some ⟨g, 4, none⟩), w1, wanted_free rfl, by simp [execOp, go_sem, h1], Below.refl _ _, rfl⟩
    refine OweAll.cons (owesK rfl rfl fun a w1 ha hG hV => ?_) ?_
    · skip
      have h6 : a.tmps.getD 6 undef = .pointer (some ⟨g, 4, none⟩) := hV.get 6 (by decide +kernel)
      have cc := hread.out w1 hG
      exact ⟨.int .u64 (pw : Int), w1, wanted_free rfl, by simp [execOp, go_sem, h6, cc.2.1], Below.refl _ _, rfl⟩
    refine OweAll.cons (owesK rfl rfl fun a w1 ha hG hV => ?_) ?_
    · skip
      have h7 : a.tmps.getD 7 undef = .int .u64 (pw : Int) := hV.get 7 (by decide +kernel)
      exact ⟨.int .i64 (pw : Int), w1, wanted_free rfl, by simp [execOp, go_sem, h7, hwr, Tryz.underlying26, Tryz.underlying3], Below.refl _ _, rfl⟩
    refine OweAll.cons (owesK_call rfl rfl 68 fun a w1 ha hG hV => ?_) ?_
    · skip
      have h8 : a.tmps.getD 8 undef = .int .i64 (pw : Int) := hV.get 8 (by decide +kernel)
      refine ⟨#[.int .i64 (pw : Int)], wanted_free rfl, by simp [execOp, resolve, invoke, go_sem, h8], ?_⟩
      refine (K5.out w1).mono ?_
      rintro r u2 ⟨rfl, hb⟩; exact ⟨_, rfl, rfl, hb⟩
    refine OweAll.cons (owesK rfl rfl fun a w1 ha hG hV => ?_) ?_
    · skip
      have h5 : a.tmps.getD 5 undef = .string ⟨N1.toArray⟩ := hV.get 5 (by decide +kernel)
      have h9 : a.tmps.getD 9 undef = .string ⟨N5.toArray⟩ := hV.get 9 (by decide +kernel)
      exact ⟨.string ⟨((N1) ++ (N5)).toArray⟩, w1, wanted_free rfl, exec_add_str 9 9 (.tmp 5) (.tmp 9) rfl (N1) (N5) h5 h9 (by omega), Below.refl _ _, rfl⟩
    refine OweAll.cons (owesK rfl rfl fun a w1 ha hG hV => ?_) ?_
    · skip
      have h1 := ha.outer 1 (by decide +kernel)
      simp only [Act.eval] at h1
      exact ⟨.pointer (some ⟨g, 5, none⟩), w1, wanted_free rfl, by simp [execOp, go_sem, h1], Below.refl _ _, rfl⟩
    refine OweAll.cons (owesK rfl rfl fun a w1 ha hG hV => ?_) ?_
    · skip
      have h11 : a.tmps.getD 11 undef = .pointer (some ⟨g, 5, none⟩) := hV.get 11 (by decide +kernel)
      have cc := hread.out w1 hG
      exact ⟨.slice ao n cap, w1, wanted_free rfl, by simp [execOp, go_sem, h11, cc.2.2.1], Below.refl _ _, rfl⟩
    refine OweAll.cons (owesK_call rfl rfl 18 fun a w1 ha hG hV => ?_) ?_
    · skip
      have h12 : a.tmps.getD 12 undef = .slice ao n cap := hV.get 12 (by decide +kernel)
      refine ⟨#[.slice ao n cap], wanted_free rfl, by simp [execOp, resolve, invoke, go_sem, h12], ?_⟩
      refine (SO.out w1 (hread.out w1 hG).2.2.2.1).mono ?_
      rintro r u2 ⟨q, c, rfl, hR, _, hb⟩; exact ⟨_, rfl, ⟨q, c, rfl, hR.rd⟩, hb⟩
    refine OweAll.cons (owesK_call rfl rfl 20 fun a w1 ha hG hV => ?_) ?_
    · skip
      have s13 : (TextsV RS).p (a.tmps.getD 13 undef) w1 := hV.get 13 (by decide +kernel)
      obtain ⟨q, c, h13, hR⟩ := s13
      refine ⟨#[.slice q RS.length c], wanted_free rfl, by simp [execOp, resolve, invoke, go_sem, h13], ?_⟩
      refine (JN.out q c w1 hR).mono ?_
      rintro r u2 ⟨rfl, rfl⟩; exact ⟨_, rfl, rfl, Below.refl _ _⟩
    refine OweAll.cons (owesK_call rfl rfl 69 fun a w1 ha hG hV => ?_) ?_
    · skip
      have h14 : a.tmps.getD 14 undef = .string ⟨J.toArray⟩ := hV.get 14 (by decide +kernel)
      refine ⟨#[.string ⟨J.toArray⟩], wanted_free rfl, by simp [execOp, resolve, invoke, go_sem, h14], ?_⟩
      refine (K3.out w1).mono ?_
      rintro r u2 ⟨rfl, hb⟩; exact ⟨_, rfl, rfl, hb⟩
    refine OweAll.cons (owesK rfl rfl fun a w1 ha hG hV => ?_) ?_
    · skip
      have h10 : a.tmps.getD 10 undef = .string ⟨((N1) ++ (N5)).toArray⟩ := hV.get 10 (by decide +kernel)
      have h15 : a.tmps.getD 15 undef = .string ⟨N3.toArray⟩ := hV.get 15 (by decide +kernel)
      exact ⟨.string ⟨(((N1) ++ (N5)) ++ (N3)).toArray⟩, w1, wanted_free rfl, exec_add_str 9 9 (.tmp 10) (.tmp 15) rfl ((N1) ++ (N5)) (N3) h10 h15 (by omega), Below.refl _ _, rfl⟩
    refine OweAll.cons (owesK rfl rfl fun a w1 ha hG hV => ?_) ?_
    · skip
      have h16 : a.tmps.getD 16 undef = .string ⟨(((N1) ++ (N5)) ++ (N3)).toArray⟩ := hV.get 16 (by decide +kernel)
      exact ⟨.string ⟨(((N1) ++ (N5)) ++ (N3)).toArray⟩, w1, wanted_free rfl, by simp [execOp, go_sem, h16], Below.refl _ _, rfl⟩
    exact OweAll.nil
    ) ?_
  intro f wz hG hv
  have e2 : f 2 = .string ⟨(((N1) ++ (N5)) ++ (N3)).toArray⟩ := hv 14 _ 2 rfl rfl
  rename_i hK
  refine hK _ _ ?_
  clear hK hv
  simp only [dsts, puts, List.filterMap_cons, List.filterMap_nil, List.foldl_cons, List.foldl_nil, Act.put, List.setIfInBounds_toArray, List.set_cons_succ, List.set_cons_zero, e2]
  clear e2
  have HB := Lib.hid (hread.out wz hG).2.2.2.2
  clear hG
  go_wp2_with fail
  go_ret
  exact ⟨rfl, HGG.out ▸ HB.out⟩
end Go.Proofs.YtemnebbdaljfbaaGreatDoor

namespace Go.Proofs.YtemnebbdaljfbaaGreatDoor
open Go.RowKit

theorem own_rs (L : List (List UInt8)) (h : ∀ x ∈ L, x.length = 32) : (L.map nmOf).map (·.1) = L := by
  rw [List.map_map]
  conv => rhs; rw [← List.map_id L]
  exact List.map_congr_left fun x hx => idL_self x (h x hx)
theorem chk_own (h : Hd (List UInt8)) (R : Bool) : chk (ownH h) R = chk h R := by
  unfold chk ownH; simp only [List.length_map]
end Go.Proofs.YtemnebbdaljfbaaGreatDoor

namespace Go.Proofs.YtemnebbdaljfbaaGreatDoor
open Go.RowKit

theorem few_all (X : Hd (List UInt8)) : ∀ x ∈ (fewH X).ps, x.length = 32 := by
  intro x hx
  unfold fewH at hx
  simp only [List.mem_map] at hx
  obtain ⟨y, _, rfl⟩ := hx
  exact idL_len y
theorem few_len (X : Hd (List UInt8)) : (fewH X).ps.length ≤ 7 := by unfold fewH; simp only [List.length_map, List.length_take]; omega
theorem kB_flat (M : List Nm) : kB M = (M.map (·.1)).flatten := by simp [kB, List.flatMap]
theorem flat32 (L : List (List UInt8)) (h : ∀ x ∈ L, x.length = 32) : L.flatten.length = 32 * L.length := by
  induction L with
  | nil => rfl
  | cons x l ih => rw [List.flatten_cons, List.length_append, ih (fun y hy => h y (List.mem_cons_of_mem _ hy)), h x (List.mem_cons_self ..), List.length_cons]; omega
structure FewOk (F : Hd (List UInt8)) (A : Hd Nm) : Prop where
  ok : HOkay F
  oka : HOkay A
  nm : A.ps.map (·.1) = F.ps
  len : A.ps.length = F.ps.length
  par : hparE (hbytes (·.1) A) = 0
  tk : (takeS (hbytes (·.1) A)).1 = A
  ks : kset A.ps = A.ps
  pair : A.ps.Pairwise lN
  sm : sameB A F = true
  bytes : hbytes id F = hbytes (·.1) A
  fam : hfam F (rsort F.ps).flatten = hfam A (kB (kset A.ps))
  flat : F.ps.flatten.length ≤ 160
  sort : (rsort F.ps).flatten.length ≤ 160
  pos : HPos F

theorem Rd.mod {α : Type} {E : Enc α} {w w' : World} {ao : Option Addr} {L : List α} {S : Nat → Prop} (h : Rd E w ao L) (hm : Mod S w w') (hS : ∀ a, ao = some a → ¬ S a.block) : Rd E w' ao L := by
  intro j hj
  obtain ⟨bs, off, e, hlt, hc⟩ := h j hj
  exact ⟨bs, off, e, Nat.lt_of_lt_of_le hlt hm.size, fun i u hu => (World.cell?_of_block (hm.block bs hlt (hS _ e))).trans (hc i u hu)⟩
structure TwoAt (w0 W : World) (g1 g3 : Nat) (F : Hd (List UInt8)) (A : Hd Nm) (q1 q3 : Option Addr) (c1 c3 : Nat) : Prop where
  bd : W.heap[g1]? = some (.cells (hcells F q1 c1) 29 (0, 0))
  bh : W.heap[g3]? = some (.cells (hcells A q3 c3) 41 (0, 0))
  rd : Rd encS W q1 F.ps
  rh : Rw encN 70 W q3 c3 A.ps
  tab : TabAt W
  b : Below w0.heap.size w0 W
theorem Rw.ao {α : Type} {E : Enc α} {T : TypeId} {w : World} {p : Option Addr} {cap : Nat} {L : List α} (h : Rw E T w p cap L) : p = none ∨ ∃ b off, p = some ⟨b, off, none⟩ := by
  rcases h.shape with ⟨e, _⟩ | ⟨g, e, _⟩
  · exact .inl e
  · exact .inr ⟨g, 0, e⟩
end Go.Proofs.YtemnebbdaljfbaaGreatDoor

namespace Go.Proofs.YtemnebbdaljfbaaGreatDoor
open Go.RowKit

structure okH (w : World) (x : RH) : Prop where
  a : argH w x
  n : x.h.ps.length ≤ 7
  p : ∀ p ∈ x.h.ps, p.length = 32
  k : x.h.tk.length ≤ 10
  d : x.q = none ∨ ∃ b off, x.q = some ⟨b, off, none⟩
  t : TyS w x.q
theorem okH.old {w w' : World} {x : RH} (h : okH w x) (hb : Below w.heap.size w w') : okH w' x := ⟨h.a.old hb, h.n, h.p, h.k, h.d, h.t.old hb⟩
theorem okH.id {w : World} {x : RH} (h : okH w x) : Calls Tryz.prog 46 #[.agg x.cells.toArray] w fun r w' => r = .returned (.string ⟨(nmR x.h).toArray⟩) ∧ Below w.heap.size w w' := by
  have := h.n
  have := h.k
  exact rid_any x.h x.q x.c w h.a.rd (h.a.pos (by omega) (by omega)) (by rw [flat32 _ h.p]; omega)
theorem and3 (x : Int) : ∃ y : Nat, bits .and .i64 x 3 = (y : Int) ∧ y ≤ 3 := by
  obtain ⟨y, h1, h2, _⟩ := and_low x 2 (by decide)
  exact ⟨y, h1, Nat.le_of_lt_succ h2⟩
theorem and15 (x : Int) : ∃ y : Nat, bits .and .i64 x 15 = (y : Int) ∧ y ≤ 15 := by
  obtain ⟨y, h1, h2, _⟩ := and_low x 4 (by decide)
  exact ⟨y, h1, Nat.le_of_lt_succ h2⟩
theorem insB_mem (s : List UInt8) (l : List (List UInt8)) : ∀ x ∈ insB s l, x = s ∨ x ∈ l := by
  induction l with
  | nil => intro x hx; rw [insB] at hx; exact .inl (List.mem_singleton.1 hx)
  | cons t r ih =>
    intro x hx
    rw [insB] at hx
    split at hx
    · rcases List.mem_cons.1 hx with h | h
      · exact .inl h
      · exact .inr h
    · split at hx
      · rcases List.mem_cons.1 hx with h | h
        · exact .inr (List.mem_cons.2 (.inl h))
        · exact (ih x h).imp id (fun h => List.mem_cons_of_mem _ h)
      · exact .inr hx
theorem rsort_mem (L : List (List UInt8)) : ∀ x ∈ rsort L, x ∈ L := by
  have h : ∀ (L A : List (List UInt8)), ∀ x ∈ L.foldl (fun out s => insB s out) A, x ∈ A ∨ x ∈ L := by
    intro L
    induction L with
    | nil => intro A x hx; exact .inl hx
    | cons s l ih =>
      intro A x hx
      rw [List.foldl_cons] at hx
      rcases ih _ x hx with h | h
      · rcases insB_mem s A x h with rfl | h
        · exact .inr List.mem_cons_self
        · exact .inl h
      · exact .inr (List.mem_cons_of_mem _ h)
  intro x hx
  rcases h L [] x hx with h | h
  · cases h
  · exact h
theorem rd_int {w : World} {ao : Option Addr} {L : List Int} (h : Rd encI w ao L) (j : Nat) (hj : j < L.length) : ∃ bs off, ao = some ⟨bs, off, none⟩ ∧ bs < w.heap.size ∧ w.cell? ⟨bs, off + j, none⟩ = some (.int .i64 L[j]) := by
  obtain ⟨bs, off, e, hlt, hc⟩ := h j hj
  exact ⟨bs, off, e, hlt, by have := hc 0 _ rfl; simpa [encI] using this⟩
def zRH : RH := ⟨⟨0, 0, [], 0, 0, [], 0⟩, none, 0⟩
set_option maxRecDepth 20000 in
theorem exec_alloc_rh {o : Oper} {a : Act} {w : World} (ho : o.op = .alloc 29) : (execOp a.eval o).run Tryz.prog w = .ok (.value (.pointer (some ⟨w.heap.size, 0, none⟩))) (w.alloc (.cells zRH.cells.toArray 29)) := by
  unfold execOp
  simp only [ho]
  simp [go_sem]
  kernel_rfl
theorem two_newN (n : Nat) (w : World) (o1 o2 : Obj) (C ZB : Array Value) (t1 t2 : TypeId) (h1 : o1 = .cells C t1 (0, 0)) (h2 : o2 = .cells ZB t2 (0, 0)) (h3 : ZB.size = n) : Below w.heap.size w ((w.alloc o1).alloc o2) ∧ ((w.alloc o1).alloc o2).heap[w.heap.size]? = some (.cells C t1 (0, 0)) ∧ ∃ ZB : Array Value, ZB.size = n ∧ ((w.alloc o1).alloc o2).heap[w.heap.size + 1]? = some (.cells ZB t2 (0, 0)) := by
  subst h1 h2
  refine ⟨((Below.refl _ w).alloc (Nat.le_refl _) _).alloc (by simp) _, ?_, ZB, h3, ?_⟩
  · rw [Below.heap_alloc _ _ _ (by simp)]; exact heap_alloc_new w _
  · have := heap_alloc_new (w.alloc (.cells C t1)) (.cells ZB t2); simpa using this
theorem run_field_rb (v0 v1 v2 v3 v4 v5 v6 v7 : Value) (w : World) : (Instr.field 31 (.agg #[v0, v1, v2, v3, v4, v5, v6, v7]) 0).run Tryz.prog w = .ok v0 w := by
  simp [Instr.field, run_underlying Tryz.underlying31, part, asAgg, Tryz.isAgg9]
structure GrS (W1 wr : World) (q : Option Addr) (c : Nat) (D : List (List UInt8)) (i : Nat) : Prop where
  rw : Rw encS 9 wr q c D
  p : ∀ s ∈ D, s.length = 32
  n : D.length ≤ i
  b : Below W1.heap.size W1 wr
  f : ∀ y, q = some y → W1.heap.size ≤ y.block
def GrowP (w : World) (r : Ending) (w' : World) : Prop := ∃ y : RH, r = .returned (.agg y.cells.toArray) ∧ okH w' y ∧ (∀ z, y.q = some z → w.heap.size ≤ z.block) ∧ Below w.heap.size w w'
set_option maxRecDepth 20000 in
set_option maxHeartbeats 8000000 in
theorem grow_any (s : SD) (lq : Option Addr) (lc : Nat) (L : List RH) (w : World) (hs : argS w s) (hL : Rd encR w lq L) (hK : ∀ y ∈ L, okH w y) (hn : L.length ≤ 1000) :
    Calls Tryz.prog 43 #[.agg s.cells.toArray, .slice lq L.length lc] w (GrowP w) := by
  obtain ⟨F, hF⟩ : ∃ F, F = GrowP w := ⟨_, rfl⟩
  rw [← hF]
  have HF := Lib.hid hF
  have HS := Lib.hid hs
  have HL := Lib.hid hL
  have HK := Lib.hid hK
  obtain ⟨nl, hnl⟩ : ∃ nl, nl = L.length := ⟨_, rfl⟩
  rw [← hnl] at hn ⊢
  have HNL := Lib.hid hnl
  obtain ⟨SC, hSC⟩ : ∃ SC, SC = s.cells.toArray := ⟨_, rfl⟩
  have HSC := Lib.hid hSC
  rw [← hSC]
  clear hF hs hL hK hnl hSC
  go_enter Tryz.func43, Tryz.ntmps43
  go_upto_region 1 with fail
  refine wp_gen (fun W0 => Below w.heap.size w W0 ∧ W0.heap[w.heap.size]? = some (.cells SC 88 (0, 0)) ∧ ∃ ZB : Array Value, ZB.size = 7 ∧ W0.heap[w.heap.size + 1]? = some (.cells ZB 29 (0, 0))) (two_newN 7 w _ _ _ _ _ _ rfl rfl rfl) (fun W0 hW0 => ?_)
  obtain ⟨hb0, hrow, ZB, hZs, hr4⟩ := hW0
  obtain ⟨g2, hg2⟩ : ∃ g2, g2 = w.heap.size := ⟨_, rfl⟩
  obtain ⟨g4, hg4⟩ : ∃ g4, g4 = g2 + 1 := ⟨_, rfl⟩
  rw [← hg2] at hrow hr4
  rw [← hg4] at hr4
  rw [← hg2, ← hg4]
  have HB0 := Lib.hid hb0
  have HROW := Lib.hid hrow
  have HZS := Lib.hid hZs
  have HR4 := Lib.hid hr4
  have HG2 : Hid (w.heap.size ≤ g2) := Lib.hid (by omega)
  have HG4 : Hid (w.heap.size ≤ g4) := Lib.hid (by omega)
  have HCS : Hid (∀ u : World, Below W0.heap.size W0 u → ∀ k v, s.cells[k]? = some v → u.cell? ⟨g2, k, none⟩ = some v) := Lib.hid (fun u hb k v hv => by
    rw [cell_of_row _ g2 k _ _ _ ((hb.block g2 (Array.getElem?_eq_some_iff.1 hrow).1).trans hrow), HSC.out, List.getElem?_toArray]; exact hv)
  clear hb0 hrow hZs hr4 hg2 hg4
  cases hraw : s.raw with
  | true =>
    have c7 : W0.cell? ⟨g2, 7, none⟩ = some (.bool true) := HCS.out W0 (Below.refl _ _) 7 _ (by show some (Value.bool s.raw) = _; rw [hraw])
    have hc8 : ∀ i u, s.x.cells[i]? = some u → W0.cell? ⟨g2, 8 + i, none⟩ = some u := fun i u hu => HCS.out W0 (Below.refl _ _) (8 + i) u (by
      unfold SD.cells
      rw [List.getElem?_append_right (by simp)]
      simpa using hu)
    have HC8 := Lib.hid hc8
    have HFW : Hid (Calls Tryz.prog 84 #[.agg s.x.cells.toArray] W0 fun r w' => ∃ q c, r = .returned (.agg (hcells (fewH s.x.h) q c)) ∧ Rw encS 9 w' q c (fewH s.x.h).ps ∧ Below W0.heap.size W0 w' ∧ ∀ a, q = some a → W0.heap.size ≤ a.block) := Lib.hid (few_any s.x.h s.x.q s.x.c W0 (HS.out.x.rd.old HB0.out) HS.out.x.k)
    obtain ⟨XC, hXC⟩ : ∃ XC, XC = s.x.cells.toArray := ⟨_, rfl⟩
    rw [← hXC] at HFW
    have HXC := Lib.hid hXC
    clear hc8 hXC hraw
    go_upto_region 2 with fail
    clear c7
    go_wp2_with (refine wpList_exec rfl (exec_load_rhm (.tmp 12) rfl g2 8 rfl s.x HC8.out) ?_; rw [← HXC.out])
    refine HFW.out.mono ?_
    rintro r W1 ⟨q, c, rfl, hrw, hb1, hf⟩
    obtain ⟨HC, hHC⟩ : ∃ HC, HC = hcells (fewH s.x.h) q c := ⟨_, rfl⟩
    rw [← hHC]
    have HHC := Lib.hid hHC
    have hr1 := (hb1.block g4 (Array.getElem?_eq_some_iff.1 HR4.out).1).trans HR4.out
    have HR1 := Lib.hid hr1
    have L0 := Lib.hid (setRow_heap W1 g4 _ HC 29 (0, 0) hr1)
    have HI : Hid ((Tryz.prog.info? 29).map (·.size) = some HC.size) := Lib.hid (by rw [hHC]; exact rhinfo)
    have HON : Hid (∀ v ∈ HC.toList, v.oneCell' = true) := Lib.hid (by rw [hHC]; exact hcells_oneA _ _ _)
    have HZC : Hid (ZB.size = HC.size) := Lib.hid (by rw [HZS.out, hHC]; rfl)
    have hm : Mod (fun k => k = g4) W1 (W1.setRow g4 HC) := ((Mod.refl (fun _ => False) W1).setRow (g := g4) HC).mono (fun i _ h => by rcases h with h | h; exact h.elim; exact h)
    have hbF : Below w.heap.size w (W1.setRow g4 HC) := (HB0.out.trans (hb1.mono HB0.out.size)).trans (hm.to_below (Nat.le_trans HB0.out.size hb1.size) (by rintro k hk rfl; have := HG4.out; omega))
    have hrF : Rd encS (W1.setRow g4 HC) q (fewH s.x.h).ps := (hrw.kept hm (fun y e h => by have := hf y e; have := (Array.getElem?_eq_some_iff.1 HR4.out).1; omega)).rd
    have hrt : TyS (W1.setRow g4 HC) q := (hrw.kept hm (fun y e h => by have := hf y e; have := (Array.getElem?_eq_some_iff.1 HR4.out).1; omega)).ty
    have HBF := Lib.hid hbF
    have HEND : Hid (GrowP w (.returned (.agg HC)) (W1.setRow g4 HC)) := Lib.hid ⟨⟨fewH s.x.h, q, c⟩, by rw [hHC]; rfl, ⟨⟨hrF, by show (((fewH s.x.h).tk.length : Nat) : Int) ≤ _; unfold fewH; simp only [List.length_take]; omega, HS.out.x.pw, HS.out.x.b1, HS.out.x.b2, HS.out.x.b3, HS.out.x.b4⟩, few_len _, few_all _, by show (fewH s.x.h).tk.length ≤ 10; unfold fewH; simp only [List.length_take]; omega, hrw.ao, hrt⟩, fun z e => Nat.le_trans HB0.out.size (hf z e), hbF⟩
    clear hrt hrw hb1 hf hHC hr1 hm hbF hrF HFW
    go_wp2_with (refine wpList_store_row rfl rfl 29 (.tmp 4) (.tmp 14) rfl g4 rfl 29 ZB HC rfl HR1.out HZC.out HI.out HON.out ?_)
    exact bodyPost_ret (v := .agg HC) (results_cell_row Tryz.results43 _ _ g4 29 _ (0, 0) _ rfl L0.out Tryz.underlying29 rfl HI.out) rfl (by rw [HF.out]; exact HEND.out)
  | false =>
    have c7 : W0.cell? ⟨g2, 7, none⟩ = some (.bool false) := HCS.out W0 (Below.refl _ _) 7 _ (by show some (Value.bool s.raw) = _; rw [hraw])
    obtain ⟨a2, ha2, la2⟩ := and7 s.mi
    obtain ⟨a3, ha3, la3⟩ := and7 s.wi
    obtain ⟨a4, ha4, la4⟩ := and15 s.pw
    obtain ⟨a6, ha6, la6⟩ := and15 s.sa
    have hw3 : IntKind.i64.wrap (1 + (a3 : Int)) = 1 + (a3 : Int) := IntWalk.i64_in _ (by omega)
    have hw4 : IntKind.i64.wrap (2 + (a4 : Int)) = 2 + (a4 : Int) := IntWalk.i64_in _ (by omega)
    have hu4 : IntKind.u64.wrap (2 + (a4 : Int)) = 2 + (a4 : Int) := by rw [IntKind.wrap_u64]; omega
    have HCUT := Lib.hid (fun u => cut_any s.tk 3 u HS.out.k (by decide))
    obtain ⟨TC, hTC⟩ : ∃ TC, TC = s.tk.take 3 := ⟨_, rfl⟩
    obtain ⟨TK, hTK⟩ : ∃ TK, TK = [116] ++ TC := ⟨_, rfl⟩
    rw [← hTC] at HCUT
    have HTC : Hid (TC.length ≤ 3) := Lib.hid (by rw [hTC, List.length_take]; omega)
    have HTK := Lib.hid hTK
    have HTL : Hid (TK.length ≤ 4) := Lib.hid (by rw [hTK]; have := HTC.out; simp only [List.length_append, List.length_cons, List.length_nil]; omega)
    obtain ⟨g5, hg5⟩ : ∃ g5, g5 = W0.heap.size := ⟨_, rfl⟩
    have hzr : (W0.drew.alloc (.cells zRH.cells.toArray 29)).heap[g5]? = some (.cells zRH.cells.toArray 29 (0, 0)) := by rw [hg5]; exact heap_alloc_new W0.drew _
    have HZR := Lib.hid hzr
    have HG5 := Lib.hid hg5
    clear hraw hTC hTK hg5 hzr
    go_upto_region 3 with fail
    clear c7
    have HG0 : Hid ((fun (j : Nat) (_ : Value) (w1 : World) => (j ≤ 1 → Below W0.heap.size W0 w1) ∧ (j = 0 → w1 = W0.drew) ∧ (j = 1 → w1 = W0.drew.alloc (.cells zRH.cells.toArray 29)) ∧ (j = 2 → w1 = (W0.drew.alloc (.cells zRH.cells.toArray 29)).setRow g5 #[.int .i64 0, .int .i64 (a2 : Int), .string ⟨TK.toArray⟩, .int .i64 (1 + (a3 : Int)), .int .u64 (2 + (a4 : Int)), .slice none 0 0, .int .i64 (a6 : Int)])) 0 undef W0.drew) := Lib.hid ⟨fun _ => (Below.refl _ _).drew, fun _ => rfl, (fun h => absurd h (by omega)), (fun h => absurd h (by omega))⟩
    refine wp_region_chain2 (fun t v => match t with
      | 15 => v = .pointer (some ⟨g2, 2, none⟩)
      | 16 => v = .int .i64 s.mi
      | 17 => v = .int .i64 (a2 : Int)
      | 18 => v = .pointer (some ⟨g2, 3, none⟩)
      | 19 => v = .int .i64 s.wi
      | 20 => v = .int .i64 (a3 : Int)
      | 21 => v = .int .i64 (1 + (a3 : Int))
      | 22 => v = .pointer (some ⟨g2, 4, none⟩)
      | 23 => v = .int .i64 s.pw
      | 24 => v = .int .i64 (a4 : Int)
      | 25 => v = .int .i64 (2 + (a4 : Int))
      | 26 => v = .int .u64 (2 + (a4 : Int))
      | 27 => v = .pointer (some ⟨g2, 5, none⟩)
      | 28 => v = .string ⟨s.tk.toArray⟩
      | 29 => v = .string ⟨TC.toArray⟩
      | 30 => v = .string ⟨TK.toArray⟩
      | 31 => v = .pointer (some ⟨g2, 6, none⟩)
      | 32 => v = .int .i64 s.sa
      | 33 => v = .int .i64 (a6 : Int)
      | 34 => v = .agg #[.int .i64 0, .int .i64 (a2 : Int), .string ⟨TK.toArray⟩, .int .i64 (1 + (a3 : Int)), .int .u64 (2 + (a4 : Int)), .slice none 0 0, .int .i64 (a6 : Int)]
      | 5 => v = .pointer (some ⟨g5, 0, none⟩)
      | _ => True) (fun (j : Nat) (_ : Value) (w1 : World) => (j ≤ 1 → Below W0.heap.size W0 w1) ∧ (j = 0 → w1 = W0.drew) ∧ (j = 1 → w1 = W0.drew.alloc (.cells zRH.cells.toArray 29)) ∧ (j = 2 → w1 = (W0.drew.alloc (.cells zRH.cells.toArray 29)).setRow g5 #[.int .i64 0, .int .i64 (a2 : Int), .string ⟨TK.toArray⟩, .int .i64 (1 + (a3 : Int)), .int .u64 (2 + (a4 : Int)), .slice none 0 0, .int .i64 (a6 : Int)])) [20, 21] 94 (by kernel_rfl) (by decide +kernel) rfl (by decide +kernel) (by decide) (by decide) HG0.out (by
      refine OweAllC.cons (owesC_val 1 (by decide +kernel) (by decide) rfl rfl fun k' a w1 x hk ha hG hV => ?_) ?_
      · skip
        have h2 := ha.outer 2 (by decide +kernel)
        simp only [Act.eval] at h2
        exact ⟨.pointer (some ⟨g2, 2, none⟩), wanted_free rfl, by simp [execOp, go_sem, h2], rfl⟩
      refine OweAllC.cons (owesC_val 1 (by decide +kernel) (by decide) rfl rfl fun k' a w1 x hk ha hG hV => ?_) ?_
      · skip
        have h15 : a.tmps.getD 15 undef = .pointer (some ⟨g2, 2, none⟩) := hV.get 15 (by decide +kernel)
        have hbb := hG.1 (by omega)
        have cc : w1.cell? ⟨g2, 2, none⟩ = some (.int .i64 s.mi) := HCS.out w1 hbb 2 _ rfl
        exact ⟨.int .i64 s.mi, wanted_free rfl, by simp [execOp, go_sem, h15, cc], rfl⟩
      refine OweAllC.cons (owesC_val 1 (by decide +kernel) (by decide) rfl rfl fun k' a w1 x hk ha hG hV => ?_) ?_
      · skip
        have h16 : a.tmps.getD 16 undef = .int .i64 s.mi := hV.get 16 (by decide +kernel)
        exact ⟨.int .i64 (a2 : Int), wanted_free rfl, by simp [execOp, go_sem, h16, ha2], rfl⟩
      refine OweAllC.cons (owesC_val 1 (by decide +kernel) (by decide) rfl rfl fun k' a w1 x hk ha hG hV => ?_) ?_
      · skip
        have h2 := ha.outer 2 (by decide +kernel)
        simp only [Act.eval] at h2
        exact ⟨.pointer (some ⟨g2, 3, none⟩), wanted_free rfl, by simp [execOp, go_sem, h2], rfl⟩
      refine OweAllC.cons (owesC_val 1 (by decide +kernel) (by decide) rfl rfl fun k' a w1 x hk ha hG hV => ?_) ?_
      · skip
        have h18 : a.tmps.getD 18 undef = .pointer (some ⟨g2, 3, none⟩) := hV.get 18 (by decide +kernel)
        have hbb := hG.1 (by omega)
        have cc : w1.cell? ⟨g2, 3, none⟩ = some (.int .i64 s.wi) := HCS.out w1 hbb 3 _ rfl
        exact ⟨.int .i64 s.wi, wanted_free rfl, by simp [execOp, go_sem, h18, cc], rfl⟩
      refine OweAllC.cons (owesC_val 1 (by decide +kernel) (by decide) rfl rfl fun k' a w1 x hk ha hG hV => ?_) ?_
      · skip
        have h19 : a.tmps.getD 19 undef = .int .i64 s.wi := hV.get 19 (by decide +kernel)
        exact ⟨.int .i64 (a3 : Int), wanted_free rfl, by simp [execOp, go_sem, h19, ha3], rfl⟩
      refine OweAllC.cons (owesC_val 1 (by decide +kernel) (by decide) rfl rfl fun k' a w1 x hk ha hG hV => ?_) ?_
      · skip
        have h20 : a.tmps.getD 20 undef = .int .i64 (a3 : Int) := hV.get 20 (by decide +kernel)
        exact ⟨.int .i64 (1 + (a3 : Int)), wanted_free rfl, by simp [execOp, go_sem, h20, hw3], rfl⟩
      refine OweAllC.cons (owesC_val 1 (by decide +kernel) (by decide) rfl rfl fun k' a w1 x hk ha hG hV => ?_) ?_
      · skip
        have h2 := ha.outer 2 (by decide +kernel)
        simp only [Act.eval] at h2
        exact ⟨.pointer (some ⟨g2, 4, none⟩), wanted_free rfl, by simp [execOp, go_sem, h2], rfl⟩
      refine OweAllC.cons (owesC_val 1 (by decide +kernel) (by decide) rfl rfl fun k' a w1 x hk ha hG hV => ?_) ?_
      · skip
        have h22 : a.tmps.getD 22 undef = .pointer (some ⟨g2, 4, none⟩) := hV.get 22 (by decide +kernel)
        have hbb := hG.1 (by omega)
        have cc : w1.cell? ⟨g2, 4, none⟩ = some (.int .i64 s.pw) := HCS.out w1 hbb 4 _ rfl
        exact ⟨.int .i64 s.pw, wanted_free rfl, by simp [execOp, go_sem, h22, cc], rfl⟩
      refine OweAllC.cons (owesC_val 1 (by decide +kernel) (by decide) rfl rfl fun k' a w1 x hk ha hG hV => ?_) ?_
      · skip
        have h23 : a.tmps.getD 23 undef = .int .i64 s.pw := hV.get 23 (by decide +kernel)
        exact ⟨.int .i64 (a4 : Int), wanted_free rfl, by simp [execOp, go_sem, h23, ha4], rfl⟩
      refine OweAllC.cons (owesC_val 1 (by decide +kernel) (by decide) rfl rfl fun k' a w1 x hk ha hG hV => ?_) ?_
      · skip
        have h24 : a.tmps.getD 24 undef = .int .i64 (a4 : Int) := hV.get 24 (by decide +kernel)
        exact ⟨.int .i64 (2 + (a4 : Int)), wanted_free rfl, by simp [execOp, go_sem, h24, hw4], rfl⟩
      refine OweAllC.cons (owesC_val 1 (by decide +kernel) (by decide) rfl rfl fun k' a w1 x hk ha hG hV => ?_) ?_
      · skip
        have h25 : a.tmps.getD 25 undef = .int .i64 (2 + (a4 : Int)) := hV.get 25 (by decide +kernel)
        exact ⟨.int .u64 (2 + (a4 : Int)), wanted_free rfl, by simp [execOp, go_sem, h25, hu4, Tryz.underlying26, Tryz.underlying3], rfl⟩
      refine OweAllC.cons (owesC_val 1 (by decide +kernel) (by decide) rfl rfl fun k' a w1 x hk ha hG hV => ?_) ?_
      · skip
        have h2 := ha.outer 2 (by decide +kernel)
        simp only [Act.eval] at h2
        exact ⟨.pointer (some ⟨g2, 5, none⟩), wanted_free rfl, by simp [execOp, go_sem, h2], rfl⟩
      refine OweAllC.cons (owesC_val 1 (by decide +kernel) (by decide) rfl rfl fun k' a w1 x hk ha hG hV => ?_) ?_
      · skip
        have h27 : a.tmps.getD 27 undef = .pointer (some ⟨g2, 5, none⟩) := hV.get 27 (by decide +kernel)
        have hbb := hG.1 (by omega)
        have cc : w1.cell? ⟨g2, 5, none⟩ = some (.string ⟨s.tk.toArray⟩) := HCS.out w1 hbb 5 _ rfl
        exact ⟨.string ⟨s.tk.toArray⟩, wanted_free rfl, by simp [execOp, go_sem, h27, cc], rfl⟩
      refine OweAllC.cons (owesC_side 1 (by decide +kernel) (by decide) rfl rfl 25 fun k' a w1 x hk ha hG hV => ?_) ?_
      · skip
        have h28 : a.tmps.getD 28 undef = .string ⟨s.tk.toArray⟩ := hV.get 28 (by decide +kernel)
        refine ⟨#[.string ⟨s.tk.toArray⟩, .int .i64 3], wanted_free rfl, by simp [execOp, resolve, invoke, go_sem, h28], ?_⟩
        refine (HCUT.out w1).mono ?_
        rintro r u2 ⟨rfl, rfl⟩; exact ⟨_, rfl, rfl, hG⟩
      refine OweAllC.cons (owesC_val 1 (by decide +kernel) (by decide) rfl rfl fun k' a w1 x hk ha hG hV => ?_) ?_
      · skip
        have h29 : a.tmps.getD 29 undef = .string ⟨TC.toArray⟩ := hV.get 29 (by decide +kernel)
        exact ⟨.string ⟨TK.toArray⟩, wanted_free rfl, (exec_add_str 9 9 _ (.tmp 29) rfl [116] TC rfl h29 (by have := HTC.out; simp only [List.length_cons, List.length_nil]; omega)).trans (by rw [HTK.out]), rfl⟩
      refine OweAllC.cons (owesC_val 1 (by decide +kernel) (by decide) rfl rfl fun k' a w1 x hk ha hG hV => ?_) ?_
      · skip
        have h2 := ha.outer 2 (by decide +kernel)
        simp only [Act.eval] at h2
        exact ⟨.pointer (some ⟨g2, 6, none⟩), wanted_free rfl, by simp [execOp, go_sem, h2], rfl⟩
      refine OweAllC.cons (owesC_val 1 (by decide +kernel) (by decide) rfl rfl fun k' a w1 x hk ha hG hV => ?_) ?_
      · skip
        have h31 : a.tmps.getD 31 undef = .pointer (some ⟨g2, 6, none⟩) := hV.get 31 (by decide +kernel)
        have hbb := hG.1 (by omega)
        have cc : w1.cell? ⟨g2, 6, none⟩ = some (.int .i64 s.sa) := HCS.out w1 hbb 6 _ rfl
        exact ⟨.int .i64 s.sa, wanted_free rfl, by simp [execOp, go_sem, h31, cc], rfl⟩
      refine OweAllC.cons (owesC_val 1 (by decide +kernel) (by decide) rfl rfl fun k' a w1 x hk ha hG hV => ?_) ?_
      · skip
        have h32 : a.tmps.getD 32 undef = .int .i64 s.sa := hV.get 32 (by decide +kernel)
        exact ⟨.int .i64 (a6 : Int), wanted_free rfl, by simp [execOp, go_sem, h32, ha6], rfl⟩
      refine OweAllC.cons (owesC_val 1 (by decide +kernel) (by decide) rfl rfl fun k' a w1 x hk ha hG hV => ?_) ?_
      · skip
        have h17 : a.tmps.getD 17 undef = .int .i64 (a2 : Int) := hV.get 17 (by decide +kernel)
        have h21 : a.tmps.getD 21 undef = .int .i64 (1 + (a3 : Int)) := hV.get 21 (by decide +kernel)
        have h26 : a.tmps.getD 26 undef = .int .u64 (2 + (a4 : Int)) := hV.get 26 (by decide +kernel)
        have h30 : a.tmps.getD 30 undef = .string ⟨TK.toArray⟩ := hV.get 30 (by decide +kernel)
        have h33 : a.tmps.getD 33 undef = .int .i64 (a6 : Int) := hV.get 33 (by decide +kernel)
        have g17 : a.tmps[17]?.getD undef = .int .i64 (a2 : Int) := by simpa using h17
        have g21 : a.tmps[21]?.getD undef = .int .i64 (1 + (a3 : Int)) := by simpa using h21
        have g26 : a.tmps[26]?.getD undef = .int .u64 (2 + (a4 : Int)) := by simpa using h26
        have g30 : a.tmps[30]?.getD undef = .string ⟨TK.toArray⟩ := by simpa using h30
        have g33 : a.tmps[33]?.getD undef = .int .i64 (a6 : Int) := by simpa using h33
        exact ⟨.agg #[.int .i64 0, .int .i64 (a2 : Int), .string ⟨TK.toArray⟩, .int .i64 (1 + (a3 : Int)), .int .u64 (2 + (a4 : Int)), .slice none 0 0, .int .i64 (a6 : Int)], wanted_free rfl, by simp [execOp, go_sem, h17, h21, h26, h30, h33, g17, g21, g26, g30, g33], rfl⟩
      refine OweAllC.cons (owesC_mem 0 rfl rfl rfl fun a w1 x ha hG hx hV => ?_) ?_
      · skip
        have hw1 := hG.2.1 (by omega)
        subst hw1
        exact ⟨_, _, wanted_free rfl, exec_alloc_rh rfl, (by rw [HG5.out]; rfl), (fun _ => (Below.refl _ W0).drew.alloc (Nat.le_refl _) _), (fun h => absurd h (by omega)), (fun _ => rfl), (fun h => absurd h (by omega))⟩
      refine OweAllC.cons (owesC_store 1 rfl rfl rfl fun a w1 x ha hG hx hV => ?_) ?_
      · skip
        have h5 : a.tmps.getD 5 undef = .pointer (some ⟨g5, 0, none⟩) := hV.get 5 (by decide +kernel)
        have h34 : a.tmps.getD 34 undef = .agg #[.int .i64 0, .int .i64 (a2 : Int), .string ⟨TK.toArray⟩, .int .i64 (1 + (a3 : Int)), .int .u64 (2 + (a4 : Int)), .slice none 0 0, .int .i64 (a6 : Int)] := hV.get 34 (by decide +kernel)
        have hw1 := hG.2.2.1 (by omega)
        subst hw1
        exact ⟨_, wanted_free rfl, exec_store_rowK 29 (.tmp 5) (.tmp 34) rfl g5 h5 29 _ #[.int .i64 0, .int .i64 (a2 : Int), .string ⟨TK.toArray⟩, .int .i64 (1 + (a3 : Int)), .int .u64 (2 + (a4 : Int)), .slice none 0 0, .int .i64 (a6 : Int)] h34 HZR.out rfl rhinfo (by intro v hv; simp only [List.mem_cons, List.not_mem_nil, or_false] at hv; rcases hv with rfl | rfl | rfl | rfl | rfl | rfl | rfl <;> rfl), (fun h => absurd h (by omega)), (fun h => absurd h (by omega)), (fun h => absurd h (by omega)), (fun _ => rfl)⟩
      exact OweAllC.nil
      ) ?_
    intro f wz xz hG hx hv
    have e5 : f 5 = .pointer (some ⟨g5, 0, none⟩) := hv 20 _ 5 rfl rfl
    first | (rename_i hK; refine hK _ _ ?_; clear hK) | (rename_i hK _; refine hK _ _ ?_; clear hK) | (rename_i hK _ _; refine hK _ _ ?_; clear hK) | (rename_i hK _ _ _; refine hK _ _ ?_; clear hK)
    clear hv hx
    simp only [dsts, puts, List.filterMap_cons, List.filterMap_nil, List.foldl_cons, List.foldl_nil, Act.put, List.setIfInBounds_toArray, List.set_cons_succ, List.set_cons_zero, e5]
    clear e5
    have hwz := hG.2.2.2 rfl
    have hbz : Below W0.heap.size W0 wz := by
      rw [hwz]
      exact (((Mod.refl (fun _ => False) W0).drew.alloc _).setRow (g := g5) _).to_below (Nat.le_refl _) (by rintro i hi (h | h); exact h; have := HG5.out; omega)
    have hhv : HvSt w g4 g5 29 (#[.int .i64 0, .int .i64 (a2 : Int), .string ⟨TK.toArray⟩, .int .i64 (1 + (a3 : Int)), .int .u64 (2 + (a4 : Int)), .slice none 0 0, .int .i64 (a6 : Int)]) wz := ⟨by rw [hwz]; exact setRow_heap _ _ _ _ _ _ HZR.out, HB0.out.trans (hbz.mono HB0.out.size), HG4.out, by have := HG5.out; have := HB0.out.size; omega, by have := HG5.out; have := (Array.getElem?_eq_some_iff.1 HR4.out).1; omega, ZB, HZS.out, (hbz.block g4 (Array.getElem?_eq_some_iff.1 HR4.out).1).trans HR4.out⟩
    have HHV := Lib.hid hhv
    have HBZ := Lib.hid hbz
    have HBW := Lib.hid (HB0.out.trans (hbz.mono HB0.out.size))
    have H0 : Hid (GrS wz wz none 0 [] 0) := Lib.hid ⟨Rw.empty _ _, (fun s h => by cases h), Nat.le_refl _, Below.refl _ _, fun y e => by cases e⟩
    obtain ⟨on, hon⟩ : ∃ on, on = s.oL.length := ⟨_, rfl⟩
    have HON := Lib.hid hon
    clear hG HG0 hwz hbz hhv hon ha2 ha3 ha4 ha6 hw3 hw4 hu4 HCUT
    go_wp2_with fail
    go_loopw [6, 7, 8] (fun s6 s7 s8 wr => ∃ (i : Nat) (tp : Int) (q : Option Addr) (c : Nat) (D : List (List UInt8)), i ≤ 5 ∧ s8 = .int .i64 (i : Int) ∧ s6 = .int .i64 tp ∧ 0 ≤ tp ∧ tp ≤ 1073741824 ∧ s7 = .slice q D.length c ∧ Hid (GrS wz wr q c D i)) (fun _ _ s8 _ => 5 - (intOf s8).toNat)
    case atStart => exact ⟨0, 0, none, 0, [], by omega, rfl, rfl, by omega, by omega, rfl, H0⟩
    case round =>
      clear H0
      obtain ⟨i, tp, q, c, D, hi5, rfl, rfl, tp0, tp1, rfl, HR⟩ := hrel
      have i0 : (0 : Int) ≤ i := by omega
      have hc0 : wr.cell? ⟨g2, 0, none⟩ = some (.slice s.oq on s.oc) := by rw [HON.out]; exact HCS.out wr (HBZ.out.trans (HR.out.b.mono HBZ.out.size)) 0 _ rfl
      obtain ⟨dn, hdn⟩ : ∃ dn, dn = D.length := ⟨_, rfl⟩
      rw [← hdn]
      have HDN := Lib.hid hdn
      clear hdn
      by_cases hgo : i < on ∧ i < 5
      · obtain ⟨h1, h2⟩ := hgo
        have h1' : (i : Int) < on := by omega
        have h2' : (i : Int) < 5 := by omega
        have hwi : IntKind.i64.wrap ((i : Int) + 1) = (i : Int) + 1 := IntWalk.i64_in _ (by omega)
        by_cases hl0 : nl = 0
        · subst hl0
          go_wp2_with fail
          go_roundw
          case rel => exact ⟨i + 1, tp, q, c, D, by omega, by go_num, rfl, tp0, tp1, by rw [HDN.out], Lib.hid ⟨HR.out.rw, HR.out.p, Nat.le_trans HR.out.n (Nat.le_succ i), HR.out.b, HR.out.f⟩⟩
          case measure => simp [intOf]; omega
        · have hkp : (0 : Int) < (nl : Int) := by omega
          have hkz : ((nl : Int) == 0) = false := by simp; omega
          have hkn : ¬ (nl : Int) = 0 := by omega
          obtain ⟨bs, off, hoq, hbs, cx⟩ := rd_int ((HS.out.rd.old HBW.out).old HR.out.b) i (by have := HON.out; omega)
          obtain ⟨z, hz⟩ : ∃ z, z = s.oL[i]'(by have := HON.out; omega) := ⟨_, rfl⟩
          rw [← hz] at cx
          obtain ⟨r1, hr1, hra, hrb⟩ : ∃ r : Int, Int.tmod z (nl : Int) = r ∧ -(nl : Int) < r ∧ r < (nl : Int) := ⟨_, rfl, by
            by_cases ht : 0 ≤ z
            · have := Int.tmod_nonneg (nl : Int) ht; omega
            · have h1 := Int.tmod_lt_of_pos (-z) hkp
              rw [Int.neg_tmod] at h1; omega, Int.tmod_lt_of_pos _ hkp⟩
          have hw1 : IntKind.i64.wrap (r1 + (nl : Int)) = r1 + nl := IntWalk.i64_in _ (by omega)
          have hw2 : IntKind.i64.wrap r1 = r1 := IntWalk.i64_in _ (by omega)
          obtain ⟨j, hj, hjk⟩ : ∃ j : Nat, Int.tmod (r1 + (nl : Int)) (nl : Int) = (j : Int) ∧ j < nl := by
            have h1 := Int.tmod_nonneg (nl : Int) (show 0 ≤ r1 + (nl : Int) by omega)
            have h2 := Int.tmod_lt_of_pos (r1 + (nl : Int)) hkp
            exact ⟨(Int.tmod (r1 + (nl : Int)) (nl : Int)).toNat, by omega, by omega⟩
          have hwj : IntKind.i64.wrap (j : Int) = j := IntWalk.i64_in _ (by omega)
          have j0 : (0 : Int) ≤ j := by omega
          have j1 : (j : Int) < nl := by omega
          obtain ⟨lb, loff, hlq, hlb, cl⟩ := ((HL.out.old HBW.out).old HR.out.b) j (by have := HNL.out; omega)
          obtain ⟨y, hy⟩ : ∃ y, y = L[j]'(by have := HNL.out; omega) := ⟨_, rfl⟩
          rw [← hy] at cl
          have hyk : okH wr y := ((HK.out y (by rw [hy]; exact List.getElem_mem _)).old HBW.out).old HR.out.b
          have HYK := Lib.hid hyk
          have HCL : Hid (∀ i u, y.cells[i]? = some u → wr.cell? ⟨lb, loff + j * 7 + i, none⟩ = some u) := Lib.hid cl
          have HOQ := Lib.hid hoq
          have HLQ := Lib.hid hlq
          have HYS : Hid (y.cells.toArray.size = 7) := Lib.hid rfl
          have HYI := Lib.hid (rh_info y)
          have HYO : Hid (∀ v ∈ y.cells.toArray.toList, v.oneCell' = true) := Lib.hid (by simpa using y.one)
          rw [hoq] at hc0
          subst hlq
          clear hz hy cl hyk hbs hlb hoq
          go_upto_region 11 with (first
            | (refine wpList_exec rfl (exec_load_rhm (.tmp 64) rfl lb (loff + j * 7) rfl y HCL.out) ?_; go_frame)
            | (refine wpList_store_row rfl rfl 29 (.tmp 9) (.tmp 65) rfl wr.heap.size rfl 29 _ y.cells.toArray rfl (heap_alloc_new wr _) HYS.out.symm HYI.out HYO.out ?_))
          refine wp_gen (fun W5 => W5.heap[wr.heap.size]? = some (.cells y.cells.toArray 29 (0, 0)) ∧ Below wr.heap.size wr W5) (row_new wr _ _ y.cells.toArray 29 rfl) (fun W5 hW5 => ?_)
          obtain ⟨hr5, hb5⟩ := hW5
          obtain ⟨g9, hg9⟩ : ∃ g9, g9 = wr.heap.size := ⟨_, rfl⟩
          rw [← hg9] at hr5
          rw [← hg9]
          have HR5 := Lib.hid hr5
          have HB5 := Lib.hid hb5
          have HIDY := Lib.hid ((HYK.out.old hb5).id)
          obtain ⟨YC, hYC⟩ : ∃ YC, YC = y.cells.toArray := ⟨_, rfl⟩
          rw [← hYC] at HIDY HR5 HYI
          have HYC := Lib.hid hYC
          obtain ⟨nm, hnm⟩ : ∃ nm, nm = nmR y.h := ⟨_, rfl⟩
          have HNM : Hid (nm.length = 32) := Lib.hid (by rw [hnm]; exact nmR_len _)
          rw [← hnm] at HIDY
          have hw9 : W5.heap.size = W5.heap.size := rfl
          clear hr5 hb5 hg9 hYC hnm hw9 hc0 cx
          go_upto_region 12 with (refine wpList_exec rfl (exec_load_row 29 (.tmp 9) rfl g9 rfl 29 YC (0, 0) _ HR5.out Tryz.underlying29 rfl HYI.out) ?_)
          refine HIDY.out.mono ?_
          rintro r W6 ⟨rfl, hb6⟩
          have hb7 := alloc1 W6 (.cells #[.string ⟨nm.toArray⟩] 9)
          have HRW7 := Lib.hid (((HR.out.rw.old HB5.out).old hb6).old hb7)
          have HRD7 : Hid (Rd encS (W6.alloc (.cells #[.string ⟨nm.toArray⟩] 9)) (some ⟨W6.heap.size, 0, none⟩) [nm]) := Lib.hid (Rd.made encS W6 9 [nm] (by simp [maxLen]))
          have hB7 := (HR.out.b.trans (HB5.out.mono HR.out.b.size)).trans (hb6.mono (Nat.le_trans HR.out.b.size HB5.out.size))
          have HB7 := Lib.hid (hB7.trans (hb7.mono hB7.size))
          have hr7 := (hb7.block g9 (Nat.lt_of_lt_of_le (Array.getElem?_eq_some_iff.1 HR5.out).1 hb6.size)).trans ((hb6.block g9 (Array.getElem?_eq_some_iff.1 HR5.out).1).trans HR5.out)
          have HR7 := Lib.hid hr7
          have HG9 : Hid (∀ w' , Mod (fun i => ∃ a, q = some a ∧ i = a.block) (W6.alloc (.cells #[.string ⟨nm.toArray⟩] 9)) w' → w'.cell? ⟨g9, 0, none⟩ = some (.int .i64 y.h.ht)) := Lib.hid (fun w' hm => by
            have hne : ¬ ∃ a, q = some a ∧ g9 = a.block := by
              rintro ⟨a, e, e2⟩
              have h1 := HRW7.out
              rw [e] at h1
              rcases h1.shape with ⟨e3, _⟩ | ⟨g8, e3, _, _, _, cur, hh, _⟩
              · cases e3
              · cases e3
                simp only at e2
                rw [e2] at hr7
                rw [hr7] at hh
                simp only [Option.some.injEq, Obj.cells.injEq] at hh
                exact absurd hh.2.1 (by decide)
            rw [cell_of_row _ g9 0 _ _ _ ((hm.block g9 (Array.getElem?_eq_some_iff.1 hr7).1 hne).trans hr7), HYC.out]; rfl)
          have HNB : Hid (dn + 1 ≤ 100000000000) := Lib.hid (by have := HDN.out; have := HR.out.n; omega)
          have HDL : Hid (D.length = dn) := Lib.hid HDN.out.symm
          clear hb6 hb7 hB7 hr7 HIDY
          go_upto_region 12 with (at_builtin; refine wpList_pushR encS rfl (.tmp 66) (.tmp 69) 27 9 (.string ⟨#[]⟩) 16 rfl Tryz.underlying27 info_strH rfl (by decide) q c dn D HDL.out rfl HRW7.out (some ⟨W6.heap.size, 0, none⟩) 1 1 [nm] rfl rfl HRD7.out HNB.out ?_; intro q2 c2 w8 hP; have HP := Lib.hid hP; clear hP; go_frame)
          have hht := HG9.out w8 HP.out.2.1
          obtain ⟨m1, hm1⟩ : ∃ m1 : Int, min y.h.ht 1073741824 = m1 := ⟨_, rfl⟩
          obtain ⟨m2, hm2, hm2a, hm2b⟩ : ∃ m2 : Int, max tp m1 = m2 ∧ 0 ≤ m2 ∧ m2 ≤ 1073741824 := ⟨_, rfl, by omega, by omega⟩
          have HNN : Hid (GrS wz w8 q2 c2 (D ++ [nm]) (i + 1)) := Lib.hid ⟨HP.out.1, (fun u hu => by rcases List.mem_append.1 hu with h | h; exact HR.out.p u h; rw [List.mem_singleton.1 h]; exact HNM.out), by have := HR.out.n; simp only [List.length_append, List.length_singleton]; omega,
            HB7.out.trans (HP.out.2.1.to_below HB7.out.size (by rintro k hk ⟨a, e, rfl⟩; have := HR.out.f a e; omega)), fun a e => (HP.out.2.2 a e).elim (HR.out.f a) (fun h => Nat.le_trans HB7.out.size h)⟩
          have hdl : (D ++ [nm]).length = dn + 1 := by rw [List.length_append, HDL.out]; rfl
          have HDL2 := Lib.hid hdl
          clear HP HRD7 HRW7 HG9 hdl
          go_wp2_with fail
          go_roundw
          case rel => exact ⟨i + 1, m2, q2, c2, D ++ [nm], by omega, by go_num, rfl, hm2a, hm2b, by rw [HDL2.out], HNN⟩
          case measure => simp [intOf]; omega
      · by_cases h1 : i < on
        · have h1' : (i : Int) < on := by omega
          have h2' : ¬ (i : Int) < 5 := by omega
          have HSRT := Lib.hid (rsorts_any q c D wr HR.out.rw.rd (by have := HR.out.n; omega))
          rw [← HDN.out] at HSRT
          clear hgo
          go_upto_region 13 with fail
          clear hc0
          go_upto_region 14 with fail
          refine HSRT.out.mono ?_
          rintro r W4 ⟨q2, c2, rfl, hr2, hf2, hb4⟩
          obtain ⟨d2, hd2⟩ : ∃ d2, d2 = (rsort D).length := ⟨_, rfl⟩
          have HD2 := Lib.hid hd2
          rw [← hd2]
          have HV4 := Lib.hid ((HHV.out.kept (Mod.of_below HR.out.b) (fun i h => by have := HHV.out.lt; have := HHV.out.res; obtain ⟨Z, _, hZ⟩ := this; have := (Array.getElem?_eq_some_iff.1 hZ).1; omega)).grow hb4)
          have k5 := HV4.out.cell 5
          have f5 := HV4.out.froz 5
          obtain ⟨W5, hW5⟩ : ∃ W5, W5 = W4.setCell ⟨g5, 5, none⟩ (.slice q2 d2 c2) := ⟨_, rfl⟩
          have HV5 := HV4.out.put 5 (.slice q2 d2 c2)
          rw [← hW5] at HV5
          have hm5 : Mod (fun k => k = g5) W4 W5 := by rw [hW5]; exact (Mod.refl (fun k => k = g5) W4).setCell (p := ⟨g5, 5, none⟩) (fun _ => rfl) _
          have HR5 : Hid (Rw encS 9 W5 q2 c2 (rsort D)) := Lib.hid (hr2.kept hm5 (fun y e h => by have := hf2 y e; have := HHV.out.lt; have := HR.out.b.size; omega))
          have HHV5 := Lib.hid HV5
          have HW5 := Lib.hid hW5
          have HB05 : Hid (Below W0.heap.size W0 W5) := Lib.hid (by
            have h1 := HBZ.out.trans (HR.out.b.mono HBZ.out.size)
            have h2 := h1.trans (hb4.mono h1.size)
            exact h2.trans (hm5.to_below h2.size (by rintro k hk rfl; have := HG5.out; omega)))
          have HNE5 : Hid (∀ y, q2 = some y → g5 < y.block ∧ g4 < y.block) := Lib.hid (fun y e => by have := hf2 y e; have := HHV.out.lt; have := HR.out.b.size; have := HG5.out; have := (Array.getElem?_eq_some_iff.1 HR4.out).1; omega)
          have HPL5 : Hid ((rsort D).length ≤ 7 ∧ ∀ p ∈ rsort D, p.length = 32) := Lib.hid ⟨by have := rsort_len D; have := HR.out.n; omega, fun p hp => HR.out.p p (rsort_mem D p hp)⟩
          have HF2 : Hid (∀ y, q2 = some y → w.heap.size ≤ y.block) := Lib.hid (fun y e => Nat.le_trans (Nat.le_trans HBW.out.size HR.out.b.size) (hf2 y e))
          clear hr2 hf2 hb4 hd2 HV4 HV5 hW5 hm5 HSRT
          go_upto_region 14 with fail
          rw [← HW5.out]
          clear k5 f5
          by_cases hd0 : dn = 0
          · have HDZ := Lib.hid hd0
            subst hd0
            go_wp2_with fail
            refine (rgenesis_any W5).mono ?_
            rintro r W6 ⟨rfl, hb6⟩
            have HV6 := HHV5.out.grow hb6
            have hfl := fun w => run_field_rb (.string ⟨(nmR grh.h).toArray⟩) (.int .i64 0) (.int .i64 0) (.string ⟨#[]⟩) (.int .i64 0) (.int .u64 2) (.slice none 0 0) (.int .i64 0) w
            obtain ⟨nm, hnm⟩ : ∃ nm, nm = nmR grh.h := ⟨_, rfl⟩
            have HNM : Hid (nm.length = 32) := Lib.hid (by rw [hnm]; exact nmR_len _)
            have hrb : (⟨nmR grh.h, grh⟩ : RBk).cells.toArray = #[.string ⟨nm.toArray⟩, .int .i64 0, .int .i64 0, .string ⟨#[]⟩, .int .i64 0, .int .u64 2, .slice none 0 0, .int .i64 0] := by rw [hnm]; rfl
            rw [← hnm] at hfl
            rw [hrb]
            obtain ⟨RB, hRB⟩ : ∃ RB : Value, RB = .agg #[.string ⟨nm.toArray⟩, .int .i64 0, .int .i64 0, .string ⟨#[]⟩, .int .i64 0, .int .u64 2, .slice none 0 0, .int .i64 0] := ⟨_, rfl⟩
            rw [← hRB]
            rw [← hRB] at hfl
            obtain ⟨g7, hg7⟩ : ∃ g7, g7 = W6.heap.size := ⟨_, rfl⟩
            obtain ⟨W7, hW7⟩ : ∃ W7, W7 = W6.alloc (.cells #[.string ⟨nm.toArray⟩] 9) := ⟨_, rfl⟩
            have hb7 : Below W6.heap.size W6 W7 := by rw [hW7]; exact alloc1 _ _
            have HV7 := HV6.grow hb7
            have k5 := HV7.cell 5
            have f5 := HV7.froz 5
            obtain ⟨W8, hW8⟩ : ∃ W8, W8 = W7.setCell ⟨g5, 5, none⟩ (.slice (some ⟨g7, 0, none⟩) 1 1) := ⟨_, rfl⟩
            have HV8 := HV7.put 5 (.slice (some ⟨g7, 0, none⟩) 1 1)
            rw [← hW8] at HV8
            have hr7 : Rw encS 9 W7 (some ⟨g7, 0, none⟩) 1 [nm] := by rw [hW7, hg7]; exact Rw.made (E := encS) 9 W6 [nm] (by simp [maxLen])
            have hm8 : Mod (fun k => k = g5) W7 W8 := by rw [hW8]; exact (Mod.refl (fun k => k = g5) W7).setCell (p := ⟨g5, 5, none⟩) (fun _ => rfl) _
            have hg57 : g7 ≠ g5 := by have := HV6.lt; omega
            have HR8 : Hid (Rw encS 9 W8 (some ⟨g7, 0, none⟩) 1 [nm]) := Lib.hid (hr7.kept hm8 (fun y e h => by cases e; exact hg57 h))
            have HHV8 := Lib.hid HV8
            have HB08 : Hid (Below W0.heap.size W0 W8) := Lib.hid (by
              have h1 := HB05.out.trans (hb6.mono HB05.out.size)
              have h2 := h1.trans (hb7.mono h1.size)
              exact h2.trans (hm8.to_below h2.size (by rintro k hk rfl; have := HG5.out; omega)))
            have HNE8 : Hid (∀ y, some (⟨g7, 0, none⟩ : Addr) = some y → g5 < y.block ∧ g4 < y.block) := Lib.hid (fun y e => by cases e; have := HV6.lt; obtain ⟨Z, _, hZ⟩ := HV6.res; have := (Array.getElem?_eq_some_iff.1 hZ).1; simp only; omega)
            have HPL8 : Hid ([nm].length ≤ 7 ∧ ∀ p ∈ [nm], p.length = 32) := Lib.hid ⟨by simp, fun p hp => by rw [List.mem_singleton.1 hp]; exact HNM.out⟩
            have HF8 : Hid (∀ y, some (⟨g7, 0, none⟩ : Addr) = some y → w.heap.size ≤ y.block) := Lib.hid (fun y e => by cases e; rw [hg7]; exact HV6.m.size)
            have HW7 := Lib.hid hW7
            have HW8 := Lib.hid hW8
            have HG7 := Lib.hid hg7
            have HG7L : Hid (w.heap.size ≤ g7) := Lib.hid (by rw [hg7]; exact HV6.m.size)
            clear hb6 HV6 hnm hrb hRB hg7 hb7 HV7 hr7 hm8 hg57 HV8
            rw [hW7] at hW8 k5 f5
            go_upto_region 16 with fail
            rw [← HG7.out, ← HW7.out, ← HW8.out]
            clear k5 f5 hW7 hW8 hfl
            have hup : W8.cell? ⟨g2, 1, none⟩ = some (.int .i64 s.up) := HCS.out W8 HB08.out 1 _ rfl
            obtain ⟨a1, ha1, la1⟩ := and3 s.up
            have hwa : IntKind.i64.wrap (tp + (a1 : Int)) = tp + a1 := IntWalk.i64_in _ (by omega)
            obtain ⟨m3, hm3, m3a, m3b⟩ : ∃ m3 : Int, min (tp + (a1 : Int)) 1073741824 = m3 ∧ 0 ≤ m3 ∧ m3 ≤ 1073741824 := ⟨_, rfl, by omega, by omega⟩
            have k0 := HHV8.out.cell 0
            have f0 := HHV8.out.froz 0
            obtain ⟨W9, hW9⟩ : ∃ W9, W9 = W8.setCell ⟨g5, 0, none⟩ (.int .i64 m3) := ⟨_, rfl⟩
            have HV9 := HHV8.out.put 0 (.int .i64 m3)
            rw [← hW9] at HV9
            have hm9 : Mod (fun k => k = g5) W8 W9 := by rw [hW9]; exact (Mod.refl (fun k => k = g5) W8).setCell (p := ⟨g5, 0, none⟩) (fun _ => rfl) _
            have hr9 := HR8.out.kept hm9 (fun y e h => by have := (HNE8.out y e).1; omega)
            obtain ⟨Z9, hz9, hZ9⟩ := HV9.res
            obtain ⟨CE, hCE⟩ : ∃ CE : Array Value, CE = #[.int .i64 m3, .int .i64 (a2 : Int), .string ⟨TK.toArray⟩, .int .i64 (1 + (a3 : Int)), .int .u64 (2 + (a4 : Int)), .slice (some ⟨g7, 0, none⟩) 1 1, .int .i64 (a6 : Int)] := ⟨_, rfl⟩
            have hb9 : W9.heap[g5]? = some (.cells CE 29 (0, 0)) := by rw [hCE]; exact HV9.box
            have hci : (Tryz.prog.info? 29).map (·.size) = some CE.size := by rw [hCE]; exact rhinfo
            have hco : ∀ v ∈ CE.toList, v.oneCell' = true := by
              rw [hCE]
              intro v hv
              simp only [List.mem_cons, List.not_mem_nil, or_false] at hv
              rcases hv with rfl | rfl | rfl | rfl | rfl | rfl | rfl <;> rfl
            have hm10 : Mod (fun k => k = g4) W9 (W9.setRow g4 CE) := ((Mod.refl (fun _ => False) W9).setRow (g := g4) CE).mono (fun i _ h => by rcases h with h | h; exact h.elim; exact h)
            have hr10 := hr9.kept hm10 (fun y e h => by have := (HNE8.out y e).2; omega)
            have hy : CE = (⟨⟨m3, a2, TK, 1 + a3, 2 + a4, [nm], a6⟩, (some ⟨g7, 0, none⟩), 1⟩ : RH).cells.toArray := by
              rw [hCE]
              simp only [RH.cells, hcells, List.length_singleton, Int.natCast_add]
              rfl
            have L0 := Lib.hid (setRow_heap W9 g4 _ CE 29 (0, 0) hZ9)
            have HEND : Hid (F (.returned (.agg CE)) (W9.setRow g4 CE)) := Lib.hid (by
              rw [HF.out]
              refine ⟨_, by rw [hy], ⟨⟨hr10.rd, by have := HTL.out; simp only; omega, by simp only; omega, ⟨by simp only; omega, by simp only; omega⟩, ⟨by simp only; omega, by simp only; omega⟩, ⟨by simp only; omega, by simp only; omega⟩, ⟨by simp only; omega, by simp only; omega⟩⟩, HPL8.out.1, HPL8.out.2, by have := HTL.out; simp only; omega, hr10.ao, hr10.ty⟩, HF8.out, HV9.m.trans (hm10.to_below HV9.m.size (by rintro k hk rfl; have := HG4.out; omega))⟩)
            have HZ9 := Lib.hid hZ9
            have Hz9 := Lib.hid hz9
            have HB9 := Lib.hid hb9
            have HCI := Lib.hid hci
            have HCO := Lib.hid hco
            have HCES : Hid (CE.size = 7) := Lib.hid (by rw [hCE]; rfl)
            have HW9 := Lib.hid hW9
            clear hW9 HV9 hm9 hr9 hz9 hZ9 hCE hb9 hci hco hm10 hr10 hy
            go_upto_region 17 with fail
            rw [← HW9.out]
            clear k0 f0 hup
            go_wp2_with (first
              | (refine wpList_exec rfl (exec_load_row 29 (.tmp 5) rfl g5 rfl 29 CE (0, 0) _ HB9.out Tryz.underlying29 rfl HCI.out) ?_)
              | (refine wpList_store_row rfl rfl 29 (.tmp 4) (.tmp 93) rfl g4 rfl 29 Z9 CE rfl HZ9.out (by rw [Hz9.out, HCES.out]) HCI.out HCO.out ?_))
            exact bodyPost_ret (v := .agg CE) (results_cell_row Tryz.results43 _ _ g4 29 _ (0, 0) _ rfl L0.out Tryz.underlying29 rfl HCI.out) rfl HEND.out
          · have hd0' : ¬ (dn : Int) = 0 := by omega
            go_upto_region 16 with fail
            have hup : W5.cell? ⟨g2, 1, none⟩ = some (.int .i64 s.up) := HCS.out W5 HB05.out 1 _ rfl
            obtain ⟨a1, ha1, la1⟩ := and3 s.up
            have hwa : IntKind.i64.wrap (tp + (a1 : Int)) = tp + a1 := IntWalk.i64_in _ (by omega)
            obtain ⟨m3, hm3, m3a, m3b⟩ : ∃ m3 : Int, min (tp + (a1 : Int)) 1073741824 = m3 ∧ 0 ≤ m3 ∧ m3 ≤ 1073741824 := ⟨_, rfl, by omega, by omega⟩
            have k0 := HHV5.out.cell 0
            have f0 := HHV5.out.froz 0
            obtain ⟨W9, hW9⟩ : ∃ W9, W9 = W5.setCell ⟨g5, 0, none⟩ (.int .i64 m3) := ⟨_, rfl⟩
            have HV9 := HHV5.out.put 0 (.int .i64 m3)
            rw [← hW9] at HV9
            have hm9 : Mod (fun k => k = g5) W5 W9 := by rw [hW9]; exact (Mod.refl (fun k => k = g5) W5).setCell (p := ⟨g5, 0, none⟩) (fun _ => rfl) _
            have hr9 := HR5.out.kept hm9 (fun y e h => by have := (HNE5.out y e).1; omega)
            obtain ⟨Z9, hz9, hZ9⟩ := HV9.res
            obtain ⟨CE, hCE⟩ : ∃ CE : Array Value, CE = #[.int .i64 m3, .int .i64 (a2 : Int), .string ⟨TK.toArray⟩, .int .i64 (1 + (a3 : Int)), .int .u64 (2 + (a4 : Int)), .slice q2 d2 c2, .int .i64 (a6 : Int)] := ⟨_, rfl⟩
            have hb9 : W9.heap[g5]? = some (.cells CE 29 (0, 0)) := by rw [hCE]; exact HV9.box
            have hci : (Tryz.prog.info? 29).map (·.size) = some CE.size := by rw [hCE]; exact rhinfo
            have hco : ∀ v ∈ CE.toList, v.oneCell' = true := by
              rw [hCE]
              intro v hv
              simp only [List.mem_cons, List.not_mem_nil, or_false] at hv
              rcases hv with rfl | rfl | rfl | rfl | rfl | rfl | rfl <;> rfl
            have hm10 : Mod (fun k => k = g4) W9 (W9.setRow g4 CE) := ((Mod.refl (fun _ => False) W9).setRow (g := g4) CE).mono (fun i _ h => by rcases h with h | h; exact h.elim; exact h)
            have hr10 := hr9.kept hm10 (fun y e h => by have := (HNE5.out y e).2; omega)
            have hy : CE = (⟨⟨m3, a2, TK, 1 + a3, 2 + a4, (rsort D), a6⟩, q2, c2⟩ : RH).cells.toArray := by
              rw [hCE]
              simp only [RH.cells, hcells, ← HD2.out, Int.natCast_add]
              rfl
            have L0 := Lib.hid (setRow_heap W9 g4 _ CE 29 (0, 0) hZ9)
            have HEND : Hid (F (.returned (.agg CE)) (W9.setRow g4 CE)) := Lib.hid (by
              rw [HF.out]
              refine ⟨_, by rw [hy], ⟨⟨hr10.rd, by have := HTL.out; simp only; omega, by simp only; omega, ⟨by simp only; omega, by simp only; omega⟩, ⟨by simp only; omega, by simp only; omega⟩, ⟨by simp only; omega, by simp only; omega⟩, ⟨by simp only; omega, by simp only; omega⟩⟩, HPL5.out.1, HPL5.out.2, by have := HTL.out; simp only; omega, hr10.ao, hr10.ty⟩, HF2.out, HV9.m.trans (hm10.to_below HV9.m.size (by rintro k hk rfl; have := HG4.out; omega))⟩)
            have HZ9 := Lib.hid hZ9
            have Hz9 := Lib.hid hz9
            have HB9 := Lib.hid hb9
            have HCI := Lib.hid hci
            have HCO := Lib.hid hco
            have HCES : Hid (CE.size = 7) := Lib.hid (by rw [hCE]; rfl)
            have HW9 := Lib.hid hW9
            clear hW9 HV9 hm9 hr9 hz9 hZ9 hCE hb9 hci hco hm10 hr10 hy
            go_upto_region 17 with fail
            rw [← HW9.out]
            clear k0 f0 hup
            go_wp2_with (first
              | (refine wpList_exec rfl (exec_load_row 29 (.tmp 5) rfl g5 rfl 29 CE (0, 0) _ HB9.out Tryz.underlying29 rfl HCI.out) ?_)
              | (refine wpList_store_row rfl rfl 29 (.tmp 4) (.tmp 93) rfl g4 rfl 29 Z9 CE rfl HZ9.out (by rw [Hz9.out, HCES.out]) HCI.out HCO.out ?_))
            exact bodyPost_ret (v := .agg CE) (results_cell_row Tryz.results43 _ _ g4 29 _ (0, 0) _ rfl L0.out Tryz.underlying29 rfl HCI.out) rfl HEND.out
        · have h1' : ¬ (i : Int) < on := by omega
          have HSRT := Lib.hid (rsorts_any q c D wr HR.out.rw.rd (by have := HR.out.n; omega))
          rw [← HDN.out] at HSRT
          clear hgo
          go_upto_region 13 with fail
          clear hc0
          go_upto_region 14 with fail
          refine HSRT.out.mono ?_
          rintro r W4 ⟨q2, c2, rfl, hr2, hf2, hb4⟩
          obtain ⟨d2, hd2⟩ : ∃ d2, d2 = (rsort D).length := ⟨_, rfl⟩
          have HD2 := Lib.hid hd2
          rw [← hd2]
          have HV4 := Lib.hid ((HHV.out.kept (Mod.of_below HR.out.b) (fun i h => by have := HHV.out.lt; have := HHV.out.res; obtain ⟨Z, _, hZ⟩ := this; have := (Array.getElem?_eq_some_iff.1 hZ).1; omega)).grow hb4)
          have k5 := HV4.out.cell 5
          have f5 := HV4.out.froz 5
          obtain ⟨W5, hW5⟩ : ∃ W5, W5 = W4.setCell ⟨g5, 5, none⟩ (.slice q2 d2 c2) := ⟨_, rfl⟩
          have HV5 := HV4.out.put 5 (.slice q2 d2 c2)
          rw [← hW5] at HV5
          have hm5 : Mod (fun k => k = g5) W4 W5 := by rw [hW5]; exact (Mod.refl (fun k => k = g5) W4).setCell (p := ⟨g5, 5, none⟩) (fun _ => rfl) _
          have HR5 : Hid (Rw encS 9 W5 q2 c2 (rsort D)) := Lib.hid (hr2.kept hm5 (fun y e h => by have := hf2 y e; have := HHV.out.lt; have := HR.out.b.size; omega))
          have HHV5 := Lib.hid HV5
          have HW5 := Lib.hid hW5
          have HB05 : Hid (Below W0.heap.size W0 W5) := Lib.hid (by
            have h1 := HBZ.out.trans (HR.out.b.mono HBZ.out.size)
            have h2 := h1.trans (hb4.mono h1.size)
            exact h2.trans (hm5.to_below h2.size (by rintro k hk rfl; have := HG5.out; omega)))
          have HNE5 : Hid (∀ y, q2 = some y → g5 < y.block ∧ g4 < y.block) := Lib.hid (fun y e => by have := hf2 y e; have := HHV.out.lt; have := HR.out.b.size; have := HG5.out; have := (Array.getElem?_eq_some_iff.1 HR4.out).1; omega)
          have HPL5 : Hid ((rsort D).length ≤ 7 ∧ ∀ p ∈ rsort D, p.length = 32) := Lib.hid ⟨by have := rsort_len D; have := HR.out.n; omega, fun p hp => HR.out.p p (rsort_mem D p hp)⟩
          have HF2 : Hid (∀ y, q2 = some y → w.heap.size ≤ y.block) := Lib.hid (fun y e => Nat.le_trans (Nat.le_trans HBW.out.size HR.out.b.size) (hf2 y e))
          clear hr2 hf2 hb4 hd2 HV4 HV5 hW5 hm5 HSRT
          go_upto_region 14 with fail
          rw [← HW5.out]
          clear k5 f5
          by_cases hd0 : dn = 0
          · have HDZ := Lib.hid hd0
            subst hd0
            go_wp2_with fail
            refine (rgenesis_any W5).mono ?_
            rintro r W6 ⟨rfl, hb6⟩
            have HV6 := HHV5.out.grow hb6
            have hfl := fun w => run_field_rb (.string ⟨(nmR grh.h).toArray⟩) (.int .i64 0) (.int .i64 0) (.string ⟨#[]⟩) (.int .i64 0) (.int .u64 2) (.slice none 0 0) (.int .i64 0) w
            obtain ⟨nm, hnm⟩ : ∃ nm, nm = nmR grh.h := ⟨_, rfl⟩
            have HNM : Hid (nm.length = 32) := Lib.hid (by rw [hnm]; exact nmR_len _)
            have hrb : (⟨nmR grh.h, grh⟩ : RBk).cells.toArray = #[.string ⟨nm.toArray⟩, .int .i64 0, .int .i64 0, .string ⟨#[]⟩, .int .i64 0, .int .u64 2, .slice none 0 0, .int .i64 0] := by rw [hnm]; rfl
            rw [← hnm] at hfl
            rw [hrb]
            obtain ⟨RB, hRB⟩ : ∃ RB : Value, RB = .agg #[.string ⟨nm.toArray⟩, .int .i64 0, .int .i64 0, .string ⟨#[]⟩, .int .i64 0, .int .u64 2, .slice none 0 0, .int .i64 0] := ⟨_, rfl⟩
            rw [← hRB]
            rw [← hRB] at hfl
            obtain ⟨g7, hg7⟩ : ∃ g7, g7 = W6.heap.size := ⟨_, rfl⟩
            obtain ⟨W7, hW7⟩ : ∃ W7, W7 = W6.alloc (.cells #[.string ⟨nm.toArray⟩] 9) := ⟨_, rfl⟩
            have hb7 : Below W6.heap.size W6 W7 := by rw [hW7]; exact alloc1 _ _
            have HV7 := HV6.grow hb7
            have k5 := HV7.cell 5
            have f5 := HV7.froz 5
            obtain ⟨W8, hW8⟩ : ∃ W8, W8 = W7.setCell ⟨g5, 5, none⟩ (.slice (some ⟨g7, 0, none⟩) 1 1) := ⟨_, rfl⟩
            have HV8 := HV7.put 5 (.slice (some ⟨g7, 0, none⟩) 1 1)
            rw [← hW8] at HV8
            have hr7 : Rw encS 9 W7 (some ⟨g7, 0, none⟩) 1 [nm] := by rw [hW7, hg7]; exact Rw.made (E := encS) 9 W6 [nm] (by simp [maxLen])
            have hm8 : Mod (fun k => k = g5) W7 W8 := by rw [hW8]; exact (Mod.refl (fun k => k = g5) W7).setCell (p := ⟨g5, 5, none⟩) (fun _ => rfl) _
            have hg57 : g7 ≠ g5 := by have := HV6.lt; omega
            have HR8 : Hid (Rw encS 9 W8 (some ⟨g7, 0, none⟩) 1 [nm]) := Lib.hid (hr7.kept hm8 (fun y e h => by cases e; exact hg57 h))
            have HHV8 := Lib.hid HV8
            have HB08 : Hid (Below W0.heap.size W0 W8) := Lib.hid (by
              have h1 := HB05.out.trans (hb6.mono HB05.out.size)
              have h2 := h1.trans (hb7.mono h1.size)
              exact h2.trans (hm8.to_below h2.size (by rintro k hk rfl; have := HG5.out; omega)))
            have HNE8 : Hid (∀ y, some (⟨g7, 0, none⟩ : Addr) = some y → g5 < y.block ∧ g4 < y.block) := Lib.hid (fun y e => by cases e; have := HV6.lt; obtain ⟨Z, _, hZ⟩ := HV6.res; have := (Array.getElem?_eq_some_iff.1 hZ).1; simp only; omega)
            have HPL8 : Hid ([nm].length ≤ 7 ∧ ∀ p ∈ [nm], p.length = 32) := Lib.hid ⟨by simp, fun p hp => by rw [List.mem_singleton.1 hp]; exact HNM.out⟩
            have HF8 : Hid (∀ y, some (⟨g7, 0, none⟩ : Addr) = some y → w.heap.size ≤ y.block) := Lib.hid (fun y e => by cases e; rw [hg7]; exact HV6.m.size)
            have HW7 := Lib.hid hW7
            have HW8 := Lib.hid hW8
            have HG7 := Lib.hid hg7
            have HG7L : Hid (w.heap.size ≤ g7) := Lib.hid (by rw [hg7]; exact HV6.m.size)
            clear hb6 HV6 hnm hrb hRB hg7 hb7 HV7 hr7 hm8 hg57 HV8
            rw [hW7] at hW8 k5 f5
            go_upto_region 16 with fail
            rw [← HG7.out, ← HW7.out, ← HW8.out]
            clear k5 f5 hW7 hW8 hfl
            have hup : W8.cell? ⟨g2, 1, none⟩ = some (.int .i64 s.up) := HCS.out W8 HB08.out 1 _ rfl
            obtain ⟨a1, ha1, la1⟩ := and3 s.up
            have hwa : IntKind.i64.wrap (tp + (a1 : Int)) = tp + a1 := IntWalk.i64_in _ (by omega)
            obtain ⟨m3, hm3, m3a, m3b⟩ : ∃ m3 : Int, min (tp + (a1 : Int)) 1073741824 = m3 ∧ 0 ≤ m3 ∧ m3 ≤ 1073741824 := ⟨_, rfl, by omega, by omega⟩
            have k0 := HHV8.out.cell 0
            have f0 := HHV8.out.froz 0
            obtain ⟨W9, hW9⟩ : ∃ W9, W9 = W8.setCell ⟨g5, 0, none⟩ (.int .i64 m3) := ⟨_, rfl⟩
            have HV9 := HHV8.out.put 0 (.int .i64 m3)
            rw [← hW9] at HV9
            have hm9 : Mod (fun k => k = g5) W8 W9 := by rw [hW9]; exact (Mod.refl (fun k => k = g5) W8).setCell (p := ⟨g5, 0, none⟩) (fun _ => rfl) _
            have hr9 := HR8.out.kept hm9 (fun y e h => by have := (HNE8.out y e).1; omega)
            obtain ⟨Z9, hz9, hZ9⟩ := HV9.res
            obtain ⟨CE, hCE⟩ : ∃ CE : Array Value, CE = #[.int .i64 m3, .int .i64 (a2 : Int), .string ⟨TK.toArray⟩, .int .i64 (1 + (a3 : Int)), .int .u64 (2 + (a4 : Int)), .slice (some ⟨g7, 0, none⟩) 1 1, .int .i64 (a6 : Int)] := ⟨_, rfl⟩
            have hb9 : W9.heap[g5]? = some (.cells CE 29 (0, 0)) := by rw [hCE]; exact HV9.box
            have hci : (Tryz.prog.info? 29).map (·.size) = some CE.size := by rw [hCE]; exact rhinfo
            have hco : ∀ v ∈ CE.toList, v.oneCell' = true := by
              rw [hCE]
              intro v hv
              simp only [List.mem_cons, List.not_mem_nil, or_false] at hv
              rcases hv with rfl | rfl | rfl | rfl | rfl | rfl | rfl <;> rfl
            have hm10 : Mod (fun k => k = g4) W9 (W9.setRow g4 CE) := ((Mod.refl (fun _ => False) W9).setRow (g := g4) CE).mono (fun i _ h => by rcases h with h | h; exact h.elim; exact h)
            have hr10 := hr9.kept hm10 (fun y e h => by have := (HNE8.out y e).2; omega)
            have hy : CE = (⟨⟨m3, a2, TK, 1 + a3, 2 + a4, [nm], a6⟩, (some ⟨g7, 0, none⟩), 1⟩ : RH).cells.toArray := by
              rw [hCE]
              simp only [RH.cells, hcells, List.length_singleton, Int.natCast_add]
              rfl
            have L0 := Lib.hid (setRow_heap W9 g4 _ CE 29 (0, 0) hZ9)
            have HEND : Hid (F (.returned (.agg CE)) (W9.setRow g4 CE)) := Lib.hid (by
              rw [HF.out]
              refine ⟨_, by rw [hy], ⟨⟨hr10.rd, by have := HTL.out; simp only; omega, by simp only; omega, ⟨by simp only; omega, by simp only; omega⟩, ⟨by simp only; omega, by simp only; omega⟩, ⟨by simp only; omega, by simp only; omega⟩, ⟨by simp only; omega, by simp only; omega⟩⟩, HPL8.out.1, HPL8.out.2, by have := HTL.out; simp only; omega, hr10.ao, hr10.ty⟩, HF8.out, HV9.m.trans (hm10.to_below HV9.m.size (by rintro k hk rfl; have := HG4.out; omega))⟩)
            have HZ9 := Lib.hid hZ9
            have Hz9 := Lib.hid hz9
            have HB9 := Lib.hid hb9
            have HCI := Lib.hid hci
            have HCO := Lib.hid hco
            have HCES : Hid (CE.size = 7) := Lib.hid (by rw [hCE]; rfl)
            have HW9 := Lib.hid hW9
            clear hW9 HV9 hm9 hr9 hz9 hZ9 hCE hb9 hci hco hm10 hr10 hy
            go_upto_region 17 with fail
            rw [← HW9.out]
            clear k0 f0 hup
            go_wp2_with (first
              | (refine wpList_exec rfl (exec_load_row 29 (.tmp 5) rfl g5 rfl 29 CE (0, 0) _ HB9.out Tryz.underlying29 rfl HCI.out) ?_)
              | (refine wpList_store_row rfl rfl 29 (.tmp 4) (.tmp 93) rfl g4 rfl 29 Z9 CE rfl HZ9.out (by rw [Hz9.out, HCES.out]) HCI.out HCO.out ?_))
            exact bodyPost_ret (v := .agg CE) (results_cell_row Tryz.results43 _ _ g4 29 _ (0, 0) _ rfl L0.out Tryz.underlying29 rfl HCI.out) rfl HEND.out
          · have hd0' : ¬ (dn : Int) = 0 := by omega
            go_upto_region 16 with fail
            have hup : W5.cell? ⟨g2, 1, none⟩ = some (.int .i64 s.up) := HCS.out W5 HB05.out 1 _ rfl
            obtain ⟨a1, ha1, la1⟩ := and3 s.up
            have hwa : IntKind.i64.wrap (tp + (a1 : Int)) = tp + a1 := IntWalk.i64_in _ (by omega)
            obtain ⟨m3, hm3, m3a, m3b⟩ : ∃ m3 : Int, min (tp + (a1 : Int)) 1073741824 = m3 ∧ 0 ≤ m3 ∧ m3 ≤ 1073741824 := ⟨_, rfl, by omega, by omega⟩
            have k0 := HHV5.out.cell 0
            have f0 := HHV5.out.froz 0
            obtain ⟨W9, hW9⟩ : ∃ W9, W9 = W5.setCell ⟨g5, 0, none⟩ (.int .i64 m3) := ⟨_, rfl⟩
            have HV9 := HHV5.out.put 0 (.int .i64 m3)
            rw [← hW9] at HV9
            have hm9 : Mod (fun k => k = g5) W5 W9 := by rw [hW9]; exact (Mod.refl (fun k => k = g5) W5).setCell (p := ⟨g5, 0, none⟩) (fun _ => rfl) _
            have hr9 := HR5.out.kept hm9 (fun y e h => by have := (HNE5.out y e).1; omega)
            obtain ⟨Z9, hz9, hZ9⟩ := HV9.res
            obtain ⟨CE, hCE⟩ : ∃ CE : Array Value, CE = #[.int .i64 m3, .int .i64 (a2 : Int), .string ⟨TK.toArray⟩, .int .i64 (1 + (a3 : Int)), .int .u64 (2 + (a4 : Int)), .slice q2 d2 c2, .int .i64 (a6 : Int)] := ⟨_, rfl⟩
            have hb9 : W9.heap[g5]? = some (.cells CE 29 (0, 0)) := by rw [hCE]; exact HV9.box
            have hci : (Tryz.prog.info? 29).map (·.size) = some CE.size := by rw [hCE]; exact rhinfo
            have hco : ∀ v ∈ CE.toList, v.oneCell' = true := by
              rw [hCE]
              intro v hv
              simp only [List.mem_cons, List.not_mem_nil, or_false] at hv
              rcases hv with rfl | rfl | rfl | rfl | rfl | rfl | rfl <;> rfl
            have hm10 : Mod (fun k => k = g4) W9 (W9.setRow g4 CE) := ((Mod.refl (fun _ => False) W9).setRow (g := g4) CE).mono (fun i _ h => by rcases h with h | h; exact h.elim; exact h)
            have hr10 := hr9.kept hm10 (fun y e h => by have := (HNE5.out y e).2; omega)
            have hy : CE = (⟨⟨m3, a2, TK, 1 + a3, 2 + a4, (rsort D), a6⟩, q2, c2⟩ : RH).cells.toArray := by
              rw [hCE]
              simp only [RH.cells, hcells, ← HD2.out, Int.natCast_add]
              rfl
            have L0 := Lib.hid (setRow_heap W9 g4 _ CE 29 (0, 0) hZ9)
            have HEND : Hid (F (.returned (.agg CE)) (W9.setRow g4 CE)) := Lib.hid (by
              rw [HF.out]
              refine ⟨_, by rw [hy], ⟨⟨hr10.rd, by have := HTL.out; simp only; omega, by simp only; omega, ⟨by simp only; omega, by simp only; omega⟩, ⟨by simp only; omega, by simp only; omega⟩, ⟨by simp only; omega, by simp only; omega⟩, ⟨by simp only; omega, by simp only; omega⟩⟩, HPL5.out.1, HPL5.out.2, by have := HTL.out; simp only; omega, hr10.ao, hr10.ty⟩, HF2.out, HV9.m.trans (hm10.to_below HV9.m.size (by rintro k hk rfl; have := HG4.out; omega))⟩)
            have HZ9 := Lib.hid hZ9
            have Hz9 := Lib.hid hz9
            have HB9 := Lib.hid hb9
            have HCI := Lib.hid hci
            have HCO := Lib.hid hco
            have HCES : Hid (CE.size = 7) := Lib.hid (by rw [hCE]; rfl)
            have HW9 := Lib.hid hW9
            clear hW9 HV9 hm9 hr9 hz9 hZ9 hCE hb9 hci hco hm10 hr10 hy
            go_upto_region 17 with fail
            rw [← HW9.out]
            clear k0 f0 hup
            go_wp2_with (first
              | (refine wpList_exec rfl (exec_load_row 29 (.tmp 5) rfl g5 rfl 29 CE (0, 0) _ HB9.out Tryz.underlying29 rfl HCI.out) ?_)
              | (refine wpList_store_row rfl rfl 29 (.tmp 4) (.tmp 93) rfl g4 rfl 29 Z9 CE rfl HZ9.out (by rw [Hz9.out, HCES.out]) HCI.out HCO.out ?_))
            exact bodyPost_ret (v := .agg CE) (results_cell_row Tryz.results43 _ _ g4 29 _ (0, 0) _ rfl L0.out Tryz.underlying29 rfl HCI.out) rfl HEND.out

end Go.Proofs.YtemnebbdaljfbaaGreatDoor

namespace Go.Proofs.YtemnebbdaljfbaaGreatDoor
open Go.RowKit

structure GnS (W wr : World) (i : Nat) (q : Option Addr) (c : Nat) (D : List RH) : Prop where
  rw : Rw encR 29 wr q c D
  len : D.length = i
  ok : ∀ y ∈ D, okH wr y
  fr : ∀ y ∈ D, ∀ z, y.q = some z → W.heap.size ≤ z.block
  b : Below W.heap.size W wr
  f : ∀ y, q = some y → W.heap.size ≤ y.block
theorem okH.kept {S : Nat → Prop} {w w' : World} {x : RH} (h : okH w x) (hm : Mod S w w') (hS : ∀ z, x.q = some z → ¬ S z.block) : okH w' x :=
  ⟨⟨h.a.rd.mod hm hS, h.a.k, h.a.pw, h.a.b1, h.a.b2, h.a.b3, h.a.b4⟩, h.n, h.p, h.k, h.d, h.t.kept hm hS⟩
set_option maxRecDepth 20000 in
set_option maxHeartbeats 4000000 in
theorem grown_any (sq : Option Addr) (sc : Nat) (L : List SD) (n : Nat) (w : World) (hL : Rd encSD w sq L) (hA : ∀ s ∈ L, argS w s) (hn : n ≤ 100) (hl : L.length ≤ 9223372036854775807) :
    Calls Tryz.prog 10 #[.slice sq L.length sc, .int .i64 (n : Int)] w fun r w' => ∃ i q c D, i ≤ n ∧ r = .returned (.slice q i c) ∧ GnS w w' i q c D := by
  obtain ⟨F, hF⟩ : ∃ F : Ending → World → Prop, F = fun r w' => ∃ i q c D, i ≤ n ∧ r = .returned (.slice q i c) ∧ GnS w w' i q c D := ⟨_, rfl⟩
  rw [← hF]
  have HF := Lib.hid hF
  have HL := Lib.hid hL
  have HA := Lib.hid hA
  obtain ⟨sn, hsn⟩ : ∃ sn, sn = L.length := ⟨_, rfl⟩
  rw [← hsn] at hl ⊢
  have HSN := Lib.hid hsn
  have H0 : Hid (GnS w w 0 none 0 []) := Lib.hid ⟨Rw.empty _ _, rfl, (fun s h => by cases h), (fun s h => by cases h), Below.refl _ _, fun y e => by cases e⟩
  clear hF hL hA hsn
  go_enter Tryz.func10, Tryz.ntmps10
  go_wp2_with fail
  go_loopw [5, 6] (fun s5 s6 wr => ∃ (i : Nat) (q : Option Addr) (c : Nat) (D : List RH), i ≤ n ∧ s6 = .int .i64 (i : Int) ∧ s5 = .slice q i c ∧ Hid (GnS w wr i q c D)) (fun _ s6 _ => n - (intOf s6).toNat)
  case atStart => exact ⟨0, none, 0, [], by omega, rfl, rfl, H0⟩
  case round =>
    clear H0
    obtain ⟨i, q, c, D, hin, rfl, rfl, HS⟩ := hrel
    have i0 : (0 : Int) ≤ i := by omega
    by_cases h1 : i < sn
    · have h1' : (i : Int) < sn := by omega
      by_cases h2 : i < n
      · have h2' : (i : Int) < n := by omega
        have hwi : IntKind.i64.wrap ((i : Int) + 1) = (i : Int) + 1 := IntWalk.i64_in _ (by omega)
        obtain ⟨bs, off, hsq, hbs, cx⟩ := (HL.out.old HS.out.b) i (by have := HSN.out; omega)
        obtain ⟨s, hs⟩ : ∃ s, s = L[i]'(by have := HSN.out; omega) := ⟨_, rfl⟩
        rw [← hs] at cx
        have hsa : argS wr s := (HA.out s (by rw [hs]; exact List.getElem_mem _)).old HS.out.b
        have HCX : Hid (∀ k u, s.cells[k]? = some u → wr.cell? ⟨bs, off + i * 15 + k, none⟩ = some u) := Lib.hid cx
        have HGR := Lib.hid (grow_any s q c D wr hsa HS.out.rw.rd HS.out.ok (by rw [HS.out.len]; omega))
        rw [HS.out.len] at HGR
        obtain ⟨SC, hSC⟩ : ∃ SC, SC = s.cells.toArray := ⟨_, rfl⟩
        rw [← hSC] at HGR
        have HSC := Lib.hid hSC
        have HLD : Hid (∀ (o : Oper) (a : Act) (x : Operand), o.op = .load 88 x → a.eval x = .pointer (some ⟨bs, off + i * 15, none⟩) → (execOp a.eval o).run Tryz.prog wr = .ok (.value (.agg SC)) wr) := Lib.hid (fun o a x ho hx => by
          have hl := run_loadVar_mid (P := Tryz.prog) wr bs (off + i * 15) 88 s.cells _ (fun j v hv => HCX.out j v hv) Tryz.underlying88 rfl (by rw [s.len]; kernel_rfl)
          unfold execOp
          simp only [ho, hx, Instr.loadAt, Instr.sureAddr, Sem.run_bind, Sem.run_pure, Result.andThen_ok, hl, HSC.out])
        subst hsq
        clear hs cx hsa hSC hbs
        go_wp2_with (refine wpList_exec rfl (HLD.out _ _ (.tmp 21) rfl rfl) ?_; go_frame)
        refine HGR.out.mono ?_
        rintro r W4 ⟨y, rfl, hy, hyf, hb4⟩
        have hb5 := alloc1 W4 (.cells y.cells.toArray 29)
        have HRW5 := Lib.hid ((HS.out.rw.old hb4).old hb5)
        have HRD5 : Hid (Rd encR (W4.alloc (.cells y.cells.toArray 29)) (some ⟨W4.heap.size, 0, none⟩) [y]) := Lib.hid (by have := Rd.made encR W4 29 [y] (by simp [maxLen]); rw [encR_one] at this; exact this)
        have hB5 := HS.out.b.trans (hb4.mono HS.out.b.size)
        have HB5 := Lib.hid (hB5.trans (hb5.mono hB5.size))
        have HOK5 : Hid (∀ z ∈ D ++ [y], okH (W4.alloc (.cells y.cells.toArray 29)) z ∧ ∀ a, z.q = some a → w.heap.size ≤ a.block ∧ ¬ ∃ b, q = some b ∧ a.block = b.block) := Lib.hid (fun z hz => by
          have hz2 : okH (W4.alloc (.cells y.cells.toArray 29)) z ∧ ∀ a, z.q = some a → w.heap.size ≤ a.block := by
            rcases List.mem_append.1 hz with h | h
            · exact ⟨((HS.out.ok z h).old hb4).old hb5, HS.out.fr z h⟩
            · rw [List.mem_singleton.1 h]
              exact ⟨hy.old hb5, fun a e => Nat.le_trans HS.out.b.size (hyf a e)⟩
          refine ⟨hz2.1, fun a e => ⟨hz2.2 a e, ?_⟩⟩
          rintro ⟨b, e1, e2⟩
          obtain ⟨cur, hc⟩ := hz2.1.t a e
          have h1 := HRW5.out
          rw [e1] at h1
          rcases h1.shape with ⟨e3, _⟩ | ⟨g8, e3, _, _, _, cur2, hh, _⟩
          · cases e3
          · cases e3
            simp only at e2
            rw [e2, hh] at hc
            simp only [Option.some.injEq, Obj.cells.injEq] at hc
            exact absurd hc.2.1 (by decide))
        have HDL : Hid (D.length = i) := Lib.hid HS.out.len
        have HNB : Hid (i + 1 ≤ 100000000000) := Lib.hid (by omega)
        obtain ⟨z, hz, hzs, hzb⟩ := info_rh
        have HZ1 := Lib.hid hz
        have HZ2 := Lib.hid hzs
        have HZ3 := Lib.hid hzb
        clear hb4 hb5 hB5 hz hzs hzb hy hyf
        go_wp2_with (first
          | (refine wpList_exec rfl (build_rhs (.tmp 24) rfl y rfl) ?_; go_frame)
          | (at_builtin; refine wpList_pushR encR rfl (.tmp 18) (.tmp 25) 34 29 z _ rfl Tryz.underlying34 HZ1.out HZ2.out HZ3.out q c i D HDL.out rfl HRW5.out (some ⟨W4.heap.size, 0, none⟩) 1 1 [y] rfl rfl HRD5.out HNB.out ?_; intro q2 c2 w6 hP; have HP := Lib.hid hP; clear hP; go_frame))
        have HNN : Hid (GnS w w6 (i + 1) q2 c2 (D ++ [y])) := Lib.hid ⟨HP.out.1, by rw [List.length_append, HDL.out]; rfl, fun z hz => (HOK5.out z hz).1.kept HP.out.2.1 (fun a e h => ((HOK5.out z hz).2 a e).2 h), fun z hz a e => ((HOK5.out z hz).2 a e).1,
          HB5.out.trans (HP.out.2.1.to_below HB5.out.size (by rintro k hk ⟨a, e, rfl⟩; have := HS.out.f a e; omega)), fun a e => (HP.out.2.2 a e).elim (HS.out.f a) (fun h => Nat.le_trans HB5.out.size h)⟩
        clear HP HRD5 HRW5 HOK5
        go_roundw
        case rel => exact ⟨i + 1, q2, c2, D ++ [y], by omega, by go_num, rfl, HNN⟩
        case measure => simp [intOf]; omega
      · have h2' : ¬ (i : Int) < n := by omega
        go_wp2_with fail
        rw [HF.out]
        exact ⟨i, q, c, D, hin, rfl, HS.out⟩
    · have h1' : ¬ (i : Int) < sn := by omega
      go_wp2_with fail
      rw [HF.out]
      exact ⟨i, q, c, D, hin, rfl, HS.out⟩
end Go.Proofs.YtemnebbdaljfbaaGreatDoor

namespace Go.Proofs.YtemnebbdaljfbaaGreatDoor
open Go.RowKit

theorem drop_kB (M : List Nm) (i : Nat) (h : i < M.length) : ((kB M).drop (i * 32)).take 32 = M[i].1 := by
  induction M generalizing i with
  | nil => exact absurd h (by simp)
  | cons x l ih =>
    have e : kB (x :: l) = x.1 ++ kB l := by simp [kB]
    cases i with
    | zero => rw [e, Nat.zero_mul, List.drop_zero, List.take_left' x.2]; rfl
    | succ j =>
      rw [e, List.drop_append, List.drop_eq_nil_of_le (by rw [x.2]; omega), List.nil_append]
      have := ih j (by simpa using h)
      rw [List.getElem_cons_succ, ← this, x.2, show (j + 1) * 32 - 32 = j * 32 by omega]
theorem pcs_of (M : List Nm) : pcs (kB M) = M := by
  unfold pcs
  rw [kB_len, Nat.mul_div_cancel _ (by decide)]
  apply List.ext_getElem
  · simp
  · intro i h1 h2
    rw [List.getElem_map, List.getElem_range]
    apply Subtype.ext
    show idL (((kB M).drop (i * 32)).take 32) = M[i].1
    rw [drop_kB M i h2]; exact idL_self _ M[i].2
theorem nmsOk_of (M : List Nm) (hp : M.Pairwise lN) : nmsOk (kB M) = decide (1 ≤ M.length ∧ M.length ≤ 5) := by
  unfold nmsOk
  rw [pcs_of, kB_len, Nat.mul_div_cancel _ (by decide), (rs_pair M).2 hp, Bool.and_true]
  congr 1
  simp
def nmB (x : UInt8) : Nm := ⟨nameL x, nameL_len x⟩
end Go.Proofs.YtemnebbdaljfbaaGreatDoor

namespace Go.Proofs.YtemnebbdaljfbaaGreatDoor
open Go.RowKit

theorem tip_one {K : List Blk} {n : Nm} {Y : List BI} {e : Int} (h : TipP K (kB (kset [n])) Y e) (hn : hasE n (kE K) = true) : ∃ b ∈ K, b.id = n ∧ e = 0 ∧ Y = [b.is] := by
  have hp : ([n] : List Nm).Pairwise lN := List.pairwise_singleton _ _
  rw [kset_self hp] at h
  have hok : nmsOk (kB [n]) = true := by rw [nmsOk_of _ hp]; exact decide_eq_true ⟨by simp, by simp⟩
  unfold TipP at h
  rw [hok, pcs_of] at h
  rcases h with ⟨h1, _⟩ | ⟨_, ⟨m, hm, h2⟩, _⟩ | ⟨_, L, hL, hK, h3, h4⟩
  · cases h1
  · rw [List.mem_singleton.1 hm, hn] at h2; cases h2
  · match L, hL with
    | [b], hL =>
      have hb : b.id = n := by simpa using hL
      have he : newE ([b].map Blk.is) = 0 := by
        unfold newE
        rw [if_neg (by simp), if_neg (by simp), if_pos (by simp [oneI, diffI])]
      refine ⟨b, hK b (by simp), hb, h3.trans he, ?_⟩
      rw [h4]
      unfold newX
      rw [if_pos he]
      simp [isort]
theorem gen_mem {K : List Blk} (h : K.map Blk.is = genX) : ∃ b, K = [b] ∧ b.id = nmH ghd ∧ b.h = ghd := by
  have hl : K.length = 1 := by have := congrArg List.length h; simpa [genX] using this
  obtain ⟨b, rfl⟩ := List.length_eq_one_iff.1 hl
  have h2 : b.is = (nmH ghd, ghd) := by simpa [genX] using h
  exact ⟨b, rfl, congrArg (·.1) h2, congrArg (·.2) h2⟩
theorem one_first {K : List Blk} {e : Int} (h : K.map Blk.is = genX) (hc : ChkP K oneHd e) : e = 0 := by
  obtain ⟨b, rfl, hb, hh⟩ := gen_mem h
  have hch : chkH oneHd = 0 := oneHd_chk
  rcases hc with ⟨h1, _⟩ | ⟨_, h1, _⟩ | ⟨_, _, Y, e1, hT, h2⟩
  · exact absurd hch h1
  · obtain ⟨b', hb', e'⟩ := (kE_has _ _).1 h1
    rw [List.mem_singleton.1 hb', hb] at e'
    exact absurd e'.symm one_ne
  · have hps : oneHd.ps = [nmH ghd] := rfl
    rw [hps] at hT
    obtain ⟨b', hb', _, h3, h4⟩ := tip_one hT ((kE_has _ _).2 ⟨b, by simp, hb⟩)
    rw [List.mem_singleton.1 hb'] at h4
    have ht : htX Y = 0 := by rw [h4]; show b.h.ht = 0; rw [hh]; rfl
    have ho : oneHd.ht = 1 := rfl
    rcases h2 with ⟨h5, _⟩ | ⟨_, h5, _⟩ | ⟨_, h5, _⟩ | ⟨_, _, h5⟩
    · omega
    · exact absurd h3 h5
    · omega
    · exact h5
theorem one_again {K : List Blk} {e : Int} (h : hasE (nmH oneHd) (kE K) = true) (hc : ChkP K oneHd e) : e = 9 := by
  have hch : chkH oneHd = 0 := oneHd_chk
  rcases hc with ⟨h1, _⟩ | ⟨_, _, h1⟩ | ⟨_, h1, _⟩
  · exact absurd hch h1
  · exact h1
  · rw [h] at h1; cases h1
set_option maxRecDepth 20000 in
set_option maxHeartbeats 4000000 in
theorem awake13_any (w : World) (hT : TabAt w) : Calls Tryz.prog 7 #[] w fun r w' => r = .returned (.bool true) ∧ Below w.heap.size w w' := by
  have HT := Lib.hid hT
  have HNEW := Lib.hid (dgnew_any w hT)
  have HROOT := Lib.hid root_any
  have HRN : Hid ((⟨rootB, rootB_len⟩ : Nm) = nmH ghd) := Lib.hid rfl
  have Hcl : Hid (∀ q, hcells oneHd q 1 = #[.int .i64 1, .int .i64 0, .string ⟨#[116]⟩, .int .i64 1, .int .u64 2, .slice q 1 1, .int .i64 0]) := Lib.hid (fun q => rfl)
  have Hrd : Hid (∀ u : World, Rd encN (u.alloc (.cells (vals rootB).toArray 70)) (some ⟨u.heap.size, 0, none⟩) oneHd.ps) := Lib.hid (fun u => by
    have := Rd.made encN u 70 [⟨rootB, rootB_len⟩] (by simp [maxLen])
    rw [enc_one] at this; exact this)
  have HRL := Lib.hid rootB_len
  clear hT
  go_enter Tryz.func7, Tryz.ntmps7
  go_wp2_with fail
  refine HNEW.out.mono ?_
  rintro r w1 ⟨da, rfl, S, R, X, hdg, hgen, hR, hb1⟩
  have HDG := Lib.hid hdg
  have HGEN := Lib.hid hgen
  have HB1 := Lib.hid hb1
  have HLEN := Lib.hid (dglen_any hdg)
  obtain ⟨b, hX, hbi, _⟩ := gen_mem hgen
  have hl1 : X.K.length = 1 := by rw [hX]; rfl
  rw [hl1] at HLEN
  have HHAS := Lib.hid (fun (w' : World) (hb : Below w1.heap.size w1 w') => dghas_any (hdg.old hb) ⟨rootB, rootB_len⟩)
  have hhr : hasE (⟨rootB, rootB_len⟩ : Nm) (kE X.K) = true := (kE_has _ _).2 ⟨b, by rw [hX]; simp, by rw [HRN.out]; exact hbi⟩
  rw [hhr] at HHAS
  have HRS : Hid (∀ k, R k → w.heap.size ≤ k) := Lib.hid hR
  have HL1 := Lib.hid hl1
  obtain ⟨RB, hRB⟩ : ∃ RB, RB = rootB := ⟨_, rfl⟩
  have HRBE := Lib.hid hRB
  rw [← hRB] at HROOT HRL
  have HHAS2 : Hid (∀ (w' : World), Below w1.heap.size w1 w' → Calls Tryz.prog 33 #[.pointer (some ⟨da, 0, none⟩), .agg (vals RB).toArray] w' fun r w'' => r = .returned (.bool true) ∧ Below w'.heap.size w' w'') := Lib.hid (by rw [hRB]; exact HHAS.out)
  clear hdg hgen hb1 hX hbi hl1 hhr hR HNEW HHAS hRB
  go_wp2_with fail
  refine HLEN.out.mono ?_
  rintro r w2 ⟨rfl, rfl⟩
  clear HLEN
  go_wp2_with fail
  refine (HROOT.out w1 (HT.out.old HB1.out)).mono ?_
  rintro r w2 ⟨rfl, hb2⟩
  have HB2 := Lib.hid hb2
  clear hb2
  go_wp2_with fail
  refine (HHAS2.out w2 HB2.out).mono ?_
  rintro r w3 ⟨rfl, hb3⟩
  have HB3 := Lib.hid (HB2.out.trans (hb3.mono HB2.out.size))
  clear hb3 HHAS2
  go_wp2_with fail
  refine (HROOT.out w3 (HT.out.old (HB1.out.trans (HB3.out.mono HB1.out.size)))).mono ?_
  rintro r w4 ⟨rfl, hb4⟩
  have HB4 := Lib.hid (HB3.out.trans (hb4.mono HB3.out.size))
  obtain ⟨W5, hW5⟩ : ∃ W5, W5 = w4.alloc (.cells (vals RB).toArray 70) := ⟨_, rfl⟩
  obtain ⟨g5, hg5⟩ : ∃ g5, g5 = w4.heap.size := ⟨_, rfl⟩
  have hb5 : Below w4.heap.size w4 W5 := by rw [hW5]; exact alloc1 _ _
  have hrd5 : Rd encN W5 (some ⟨g5, 0, none⟩) oneHd.ps := by rw [hW5, hg5, HRBE.out]; exact Hrd.out w4
  obtain ⟨HC, hHC⟩ : ∃ HC, HC = hcells oneHd (some ⟨g5, 0, none⟩) 1 := ⟨_, rfl⟩
  have HHC := Lib.hid hHC
  have HI : Hid ((Tryz.prog.info? 41).map (·.size) = some HC.size) := Lib.hid (by rw [hHC]; exact hinfo)
  have HON : Hid (∀ v ∈ HC.toList, v.oneCell' = true) := Lib.hid (by rw [hHC]; exact hcells_one _ _ _)
  have HSZ : Hid (HC.size = 7) := Lib.hid (by rw [hHC]; rfl)
  have hHC2 : #[.int .i64 1, .int .i64 0, .string ⟨#[116]⟩, .int .i64 1, .int .u64 2, .slice (some ⟨g5, 0, none⟩) 1 1, .int .i64 0] = HC := by rw [hHC]; exact (Hcl.out _).symm
  have HHC2 := Lib.hid hHC2
  have HW5 := Lib.hid hW5
  have HG5 := Lib.hid hg5
  have HB5 := Lib.hid (HB4.out.trans (hb5.mono HB4.out.size))
  have HRD5 := Lib.hid hrd5
  clear hb4 hW5 hg5 hb5 hrd5 hHC hHC2
  go_upto_region 5 with (first
    | (refine wpList_exec rfl (build_name (.tmp 17) rfl RB HRL.out rfl) ?_; rw [← HW5.out, ← HG5.out]; go_frame)
    | (refine wpList_store_row rfl rfl 41 (.tmp 2) (.tmp 19) rfl W5.heap.size rfl 41 _ HC (by rw [← HHC2.out]; rfl) (heap_alloc_new W5 _) HSZ.out.symm HI.out HON.out ?_))
  refine wp_gen (fun W6 => W6.heap[W5.heap.size]? = some (.cells HC 41 (0, 0)) ∧ Below W5.heap.size W5 W6) (row_new W5 _ _ HC 41 rfl) (fun W6 hW6 => ?_)
  obtain ⟨hr6, hb6⟩ := hW6
  obtain ⟨g6, hg6⟩ : ∃ g6, g6 = W5.heap.size := ⟨_, rfl⟩
  rw [← hg6] at hr6
  rw [← hg6]
  have HR6 := Lib.hid hr6
  have HB16 : Hid (Below w1.heap.size w1 W6) := Lib.hid (HB5.out.trans (hb6.mono HB5.out.size))
  have hbw6 := HB1.out.trans (HB16.out.mono HB1.out.size)
  have HADD := Lib.hid (dgadd_any (HDG.out.old HB16.out) oneHd (some ⟨g5, 0, none⟩) 1 (HRD5.out.old hb6) (.inr ⟨g5, 0, rfl⟩) (HOk.of oneHd_ok) (by rw [HL1.out]; decide) (HT.out.old hbw6))
  rw [← HHC.out] at HADD
  have HRD6 := Lib.hid (HRD5.out.old hb6)
  have HBW6 := Lib.hid hbw6
  have HG56 : Hid (w1.heap.size ≤ g5 ∧ w1.heap.size ≤ g6) := Lib.hid (by
    have h1 := HB4.out.size
    have h2 := HB5.out.size
    have h3 := HG5.out
    omega)
  clear hr6 hb6 hg6 hbw6
  go_wp2_with (refine wpList_exec rfl (exec_load_row 41 (.tmp 2) rfl g6 rfl 41 HC (0, 0) _ HR6.out Tryz.underlying41 rfl HI.out) ?_)
  refine HADD.out.mono ?_
  rintro r W7 ⟨e, rfl, hc7, hp7⟩
  have he : e = 0 := one_first HGEN.out hc7
  subst he
  rcases hp7 with ⟨h, _⟩ | ⟨_, S', R', F', nb, hnb, hdg7, hm7, hS7, hR7⟩
  · exact absurd rfl h
  have hnS : ∀ k, S k → k < w1.heap.size := fun k hk => HDG.out.rl k (HDG.out.rs k hk)
  have hr7 : W7.heap[g6]? = some (.cells HC 41 (0, 0)) := (hm7.block g6 (Array.getElem?_eq_some_iff.1 HR6.out).1 (fun h => by have := hnS _ h; have := HG56.out.2; omega)).trans HR6.out
  have hrd7 : Rd encN W7 (some ⟨g5, 0, none⟩) oneHd.ps := HRD6.out.mod hm7 (fun a e h => by cases e; have h3 : g5 < w1.heap.size := hnS _ h; have := HG56.out.1; omega)
  have hbw7 : Below w.heap.size w W7 := HBW6.out.trans (hm7.to_below HBW6.out.size (fun k hk h => by have := HRS.out k (HDG.out.rs k h); omega))
  have HADD2 := Lib.hid (dgadd_any hdg7 oneHd (some ⟨g5, 0, none⟩) 1 hrd7 (.inr ⟨g5, 0, rfl⟩) (HOk.of oneHd_ok) (by show (nb :: X.K).length < 100000; rw [List.length_cons, HL1.out]; decide) (HT.out.old hbw7))
  rw [← HHC.out] at HADD2
  have hh7 : hasE (nmH oneHd) (kE (nb :: X.K)) = true := (kE_has _ _).2 ⟨nb, by simp, congrArg (·.1) hnb⟩
  have HH7 := Lib.hid hh7
  have HR7 := Lib.hid hr7
  have HBW7 := Lib.hid hbw7
  have HLN7 := Lib.hid (fun (w' : World) (hb : Below W7.heap.size W7 w') => dglen_any (hdg7.old hb))
  have hln : (nb :: X.K).length = 2 := by rw [List.length_cons, HL1.out]
  rw [show (⟨X.m1, X.m2, nb :: X.K, F'⟩ : DD).K = nb :: X.K from rfl, hln] at HLN7
  clear hc7 hnb hdg7 hm7 hS7 hR7 hr7 hrd7 hbw7 hh7 hln HADD hnS
  go_wp2_with (refine wpList_load_rowG rfl 41 (.tmp 2) rfl g6 rfl 41 HC (0, 0) _ HR7.out Tryz.underlying41 rfl HI.out ?_)
  refine HADD2.out.mono ?_
  rintro r W8 ⟨e, rfl, hc8, hp8⟩
  have he : e = 9 := one_again HH7.out hc8
  subst he
  have hb8 : Below W7.heap.size W7 W8 := by
    rcases hp8 with ⟨_, hb8⟩ | ⟨h, _⟩
    · exact hb8
    · exact absurd h (by decide)
  have HB8 := Lib.hid hb8
  clear hb8 hc8 hp8 HADD2
  go_wp2_with fail
  refine (HLN7.out W8 HB8.out).mono ?_
  rintro r w9 ⟨rfl, rfl⟩
  have HBF := Lib.hid (HBW7.out.trans (HB8.out.mono HBW7.out.size))
  clear HLN7
  go_wp2_with fail
  go_ret
  exact ⟨rfl, HBF.out⟩
end Go.Proofs.YtemnebbdaljfbaaGreatDoor

namespace Go.Proofs.YtemnebbdaljfbaaGreatDoor
open Go.RowKit

structure GwS (w w1 w2 : World) (da : Nat) (hq : Option Addr) (D : List RH) (wr : World) (N : List Nm) (q : Option Addr) (c : Nat) : Prop where
  dg : ∃ (S R : Nat → Prop) (X : DD), DG S R wr da X ∧ (∀ b ∈ X.K, b.id = nmH b.h) ∧ X.K.length = 1 + N.length ∧ (∀ n ∈ N, hasE n (kE X.K) = true) ∧ (∀ k, R k → w.heap.size ≤ k ∧ (k < w1.heap.size ∨ w2.heap.size ≤ k)) ∧ (∀ a, q = some a → ¬ R a.block)
  rw : Rw encN 70 wr q c N
  f : ∀ a, q = some a → w2.heap.size ≤ a.block
  rd : Rd encR wr hq D
  ok : ∀ y ∈ D, okH wr y
  b : Below w.heap.size w wr
  s2 : w2.heap.size ≤ wr.heap.size
def BtH (w1 w2 : World) (hq : Option Addr) (D : List RH) : Prop := (∀ a, hq = some a → w1.heap.size ≤ a.block ∧ a.block < w2.heap.size) ∧ ∀ y ∈ D, ∀ z, y.q = some z → w1.heap.size ≤ z.block ∧ z.block < w2.heap.size
end Go.Proofs.YtemnebbdaljfbaaGreatDoor
