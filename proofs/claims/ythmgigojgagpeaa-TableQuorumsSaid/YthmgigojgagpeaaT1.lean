/- Tables: a row of 64 powers. Total, Power. -/
import Derived.Test.YthmgigojgagpeaaRow
import Derived.Deep.CutBlock
import Derived.Deep.DeepCutAuto
import Derived.Deep.LoopGhost
import Derived.OwnWalk
import Derived.Laws.Rows
namespace Go.Proofs.Ythmgigojgagpeaa
open Go.RowKit

/-- A table's value. -/
def tval (P : List Nat) : Value := .agg (nums .i64 P).toArray
/-- All powers. -/
def tsum (P : List Nat) : Nat := P.foldl (· + ·) 0
/-- A table: 64 powers that may be. -/
structure IsTab (P : List Nat) : Prop where
  len : P.length = 64
  le : ∀ p ∈ P, p ≤ 1099511627776

theorem tsum_from (P : List Nat) (a : Nat) : P.foldl (· + ·) a = a + tsum P := by
  unfold tsum
  induction P generalizing a with
  | nil => rfl
  | cons p P ih => rw [List.foldl_cons, List.foldl_cons, ih, ih (0 + p)]; omega
theorem tsum_take (P : List Nat) (i : Nat) (hi : i < P.length) : tsum (P.take (i + 1)) = tsum (P.take i) + P[i] := by
  unfold tsum
  rw [← List.take_append_getElem hi, List.foldl_append]; rfl
theorem tsum_le (P : List Nat) (h : ∀ p ∈ P, p ≤ 1099511627776) : tsum P ≤ P.length * 1099511627776 := by
  induction P with
  | nil => exact Nat.le_refl _
  | cons p P ih =>
    have h1 := h p (by simp)
    have h2 := ih (fun q hq => h q (by simp [hq]))
    have e : tsum (p :: P) = p + tsum P := by show (p :: P).foldl (· + ·) 0 = _; rw [List.foldl_cons, tsum_from]; omega
    rw [e, List.length_cons, Nat.add_mul]; omega
theorem IsTab.sumle {P : List Nat} (h : IsTab P) : tsum P ≤ 70368744177664 := by
  have := tsum_le P h.le; rw [h.len] at this; exact this
theorem IsTab.row {P : List Nat} (h : IsTab P) {A : Array Value} (hA : A = (nums .i64 P).toArray) : A.size = 64 := by rw [hA]; simp [nums_len, h.len]
theorem tsum_mono (P : List Nat) (i : Nat) : tsum (P.take i) ≤ tsum P := by
  have h2 := tsum_from (P.drop i) (tsum (P.take i))
  have h : tsum P = (P.drop i).foldl (· + ·) (tsum (P.take i)) := by
    unfold tsum
    rw [← List.foldl_append, List.take_append_drop]
  rw [h, h2]; exact Nat.le_add_right _ _

set_option maxRecDepth 20000 in
set_option maxHeartbeats 1000000 in
theorem total_any (P : List Nat) (w : World) (hP : IsTab P) :
    Calls Try.prog 18 #[tval P] w fun r w' => r = .returned (.int .i64 (tsum P : Int)) ∧ Below w.heap.size w w' := by
  unfold tval
  have hle := hP.sumle
  have hm := Lib.hid (tsum_mono P)
  have hl := hP.len
  have hidx : ∀ (i : Nat) (hi : i < P.length) (w : World), (Instr.index 26 (.agg (nums .i64 P).toArray) (.int .i64 (i : Int))).run Try.prog w = .ok (.int .i64 (P[i]'hi)) w :=
    fun i hi w => run_index_nums 26 3 64 .i64 P i hi Try.underlying26 hl Try.underlying3 (by kernel_rfl) w
  obtain ⟨A, hA⟩ : ∃ A, A = (nums .i64 P).toArray := ⟨_, rfl⟩
  have hAs := hP.row hA
  rw [← hA] at hidx ⊢
  have Hidx := Lib.hid hidx
  have hB : Below w.heap.size w (w.alloc (.cells A 28)) := (Below.refl _ _).alloc (Nat.le_refl _) _
  have hrow : (w.alloc (.cells A 28)).heap[w.heap.size]? = some (.cells A 28 (0, 0)) := heap_alloc_new _ _
  clear hA hidx
  go_enter Try.func18, Try.ntmps18
  go_upto_region 2 with fail
  generalize w.alloc (.cells A 28) = W at hB hrow ⊢
  go_wp2_with (refine wpList_load_row rfl 26 (.tmp 6) rfl w.heap.size rfl 28 A (0, 0) _ hrow Try.underlying26 rfl ?s1 ?_)
  case s1 => rw [hAs]; kernel_rfl
  clear hAs hrow
  go_loopw [3, 8] (fun s3 s8 wr => ∃ (i t : Nat), i ≤ 64 ∧ s3 = .int .i64 (t : Int) ∧ s8 = .int .i64 (i : Int) ∧ Hid (t = tsum (P.take i)) ∧ wr = W) (fun _ i _ => 64 - (intOf i).toNat)
  case atStart => exact ⟨0, 0, by omega, rfl, rfl, Lib.hid rfl, rfl⟩
  case round =>
    obtain ⟨i, t, hi, rfl, rfl, ht, rfl⟩ := hrel
    by_cases hin : i < 64
    · have hil : i < P.length := by omega
      have e0 := Hidx.out i hil
      obtain ⟨x, hx⟩ : ∃ x, x = P[i] := ⟨_, rfl⟩
      rw [← hx] at e0
      have ht2 : Hid (t + x = tsum (P.take (i + 1))) := Lib.hid (by rw [tsum_take P i hil, ← ht.out, hx])
      have htb : t + x ≤ 70368744177664 := by rw [ht2.out]; exact Nat.le_trans (hm.out _) hle
      have i1 : (i : Int) < 64 := by omega
      have w1 : IntKind.i64.wrap ((t : Int) + x) = (t : Int) + x := by rw [IntKind.wrap_i64]; omega
      clear hx ht
      go_wp2_with fail
      go_roundw
      case rel => exact ⟨i + 1, t + x, by omega, by go_num, by go_num, ht2, trivial⟩
      case measure => simp [intOf]; omega
    · obtain rfl : i = 64 := by omega
      have e : t = tsum P := by rw [ht.out, List.take_of_length_le (by omega)]
      subst e
      clear ht
      go_wp2_with fail
      go_ret
      exact ⟨rfl, hB⟩

set_option maxRecDepth 20000 in
set_option maxHeartbeats 1000000 in
theorem power_any (P : List Nat) (m : Int) (w : World) (hP : IsTab P) :
    Calls Try.prog 12 #[tval P, .int .i64 m] w fun r w' => r = .returned (.int .i64 ((if 0 ≤ m ∧ m < 64 then P.getD m.toNat 0 else 0 : Nat) : Int)) ∧ Below w.heap.size w w' := by
  unfold tval
  have hl := hP.len
  have hR : RowAt .i64 28 (w.alloc (.cells (nums .i64 P).toArray 28)) w.heap.size P := heap_alloc_new _ _
  have hcell := Lib.hid (fun i hi => hR.cell i hi)
  have hB : Below w.heap.size w (w.alloc (.cells (nums .i64 P).toArray 28)) := (Below.refl _ _).alloc (Nat.le_refl _) _
  clear hR
  obtain ⟨A, hA⟩ : ∃ A, A = (nums .i64 P).toArray := ⟨_, rfl⟩
  rw [← hA] at hcell hB ⊢
  clear hA
  by_cases h0 : m < 0
  · rw [if_neg (by omega)]
    go_enter Try.func12, Try.ntmps12
    go_wp2_with fail
    go_ret
    exact ⟨rfl, hB⟩
  · by_cases h64 : m < 64
    · rw [if_pos ⟨by omega, h64⟩]
      obtain ⟨n, rfl⟩ : ∃ n : Nat, m = (n : Int) := ⟨m.toNat, by omega⟩
      have hn : n < P.length := by omega
      have hc := hcell.out n hn
      rw [Int.toNat_natCast, show P.getD n 0 = P[n] by rw [List.getD_eq_getElem?_getD, List.getElem?_eq_getElem hn]; rfl]
      have i0 : (0 : Int) ≤ n := by omega
      generalize P[n] = x at hc ⊢
      go_enter Try.func12, Try.ntmps12
      go_wp2_with fail
      go_ret
      exact ⟨rfl, hB⟩
    · rw [if_neg (by omega)]
      have h63 : ¬ m < 64 := h64
      have h65 : (64 : Int) ≤ m := by omega
      go_enter Try.func12, Try.ntmps12
      go_wp2_with fail
      go_ret
      exact ⟨rfl, hB⟩
end Go.Proofs.Ythmgigojgagpeaa
