/- slices.Backward at []uint32: its rounds. -/
import Derived.Test.YtepibfpdkjkdjaaDoorSeq
import Derived.Test.YtepibfpdkjkdjaaDoorW
import Derived.RangeFuncBound
import Derived.RangeFuncCalls
import Derived.Shelf.Abstract
import Derived.Shelf.RegionOpen
import Derived.TacticsInMore
import Derived.LoopNIn
import Derived.LoopIn
namespace Go.Proofs.YtepibfpdkjkdjaaDoor
open Go.RowKit Go.Shelf
attribute [local go_sem] Oper.semAt_some

/-- What is read ahead of round k: the slice's box, and the next number from behind. -/
def BackR (Bs : Nat) (p : Option Addr) (cap : Nat) (A : List Nat) (k : Nat) (W : World) : Prop :=
  W.cell? ⟨Bs, 0, none⟩ = some (.slice p A.length cap) ∧ ∀ i (h : i < A.length), i + k + 1 = A.length → ∃ g, p = some ⟨g, 0, none⟩ ∧ W.cell? ⟨g, i, none⟩ = some (.int .u32 (A[i] : Int))
def backArgs (A : List Nat) (k : Nat) : Array Value := #[.int .i64 ((A.length - 1 - k : Nat) : Int), .int .u32 ((A.getD (A.length - 1 - k) 0 : Nat) : Int)]

set_option maxRecDepth 100000 in
set_option maxHeartbeats 2000000 in
theorem back_rounds (F : Fence) (n : Nat) (hF : F.fn 69) (hro : F.round = none) (hn : 1 ≤ n) (Bs : Nat) (p : Option Addr) (cap : Nat) (A : List Nat) (hl : A.length ≤ 1000000) (w : World) :
    Rounds F n Tryd.prog 69 #[.pointer (some ⟨Bs, 0, none⟩)] (backArgs A) (BackR Bs p cap A) A.length w := by
  intro l J Jx W hW hJ hJx hR hY h0
  have hb0 := (hR 0 W h0).1
  obtain ⟨len, hlen⟩ : ∃ len, len = A.length := ⟨_, rfl⟩
  rw [← hlen] at hb0 hl
  have Hlen := Lib.hid hlen
  refine callsIn_of_wp Tryd.func69 rfl hF ?_ hro
  simp only [Tryd.ntmps69, List.size_toArray, List.length_cons, List.length_nil, Nat.reduceAdd, Nat.reduceSub, Array.replicate_succ, Array.replicate_zero, List.push_toArray, List.append_toArray, List.nil_append, List.cons_append]
  clear hlen
  gi_wp2
  gi_loopw [3] (fun s3 wr => ∃ (k : Nat) (z : Int), k ≤ len ∧ s3 = .int .i64 z ∧ Hid (z = (len : Int) - 1 - k) ∧ J k wr) (fun i _ => (intOf i + 1).toNat)
  case atStart => exact ⟨0, (len : Int) - 1, by omega, by simp, Lib.hid (by omega), h0⟩
  case round =>
    clear hb0
    obtain ⟨k, z, hk, rfl, hz, hJs⟩ := hrel
    by_cases hlt : k < len
    · obtain ⟨i, rfl⟩ : ∃ i : Nat, z = (i : Int) := ⟨len - 1 - k, by have := hz.out; omega⟩
      have hik : i + k + 1 = len := by have := hz.out; omega
      have hi : i < A.length := by rw [← Hlen.out]; omega
      obtain ⟨hbx, hrd⟩ := hR k wr hJs
      obtain ⟨g, rfl, hc⟩ := hrd i hi (by rw [← Hlen.out]; exact hik)
      obtain ⟨fn, tmps, assign, body, hy, hR'⟩ := hY k wr hJs (by rw [← Hlen.out]; exact hlt)
      rw [← Hlen.out] at hbx
      unfold backArgs at hy
      rw [← Hlen.out, show len - 1 - k = i by omega, show A.getD i 0 = A[i] by rw [List.getD_eq_getElem?_getD, List.getElem?_eq_getElem hi]; rfl] at hy
      generalize A[i] = x at hc hy
      have i0 : (0 : Int) ≤ i := by omega
      have i1 : (i : Int) < len := by omega
      have i2 : i < len := by omega
      clear hrd hR
      gi_wp2
      refine hR'.mono ?_
      rintro e W3 (⟨rfl, hJ3⟩ | ⟨rfl, hJx3⟩)
      · gi_wp2
        go_roundw
        case rel => exact ⟨k + 1, (i : Int) - 1, by omega, by simp, Lib.hid (by omega), hJ3⟩
        case measure => simp [intOf]
      · gi_wp2
        refine bodyPost_ret (results_none rfl _ _ _) rfl ?_
        exact ⟨⟨_, rfl⟩, .inr ⟨k, by rw [← Hlen.out]; exact hlt, hJx3⟩⟩
    · obtain rfl : k = len := by omega
      obtain rfl : z = -1 := by have := hz.out; omega
      clear hz
      gi_wp2
      go_end0
      exact ⟨⟨_, rfl⟩, .inl (by rw [← Hlen.out]; exact hJs)⟩

set_option maxHeartbeats 1000000 in
/-- slices.Backward(s): the slice value is boxed; the function value captures the box. -/
theorem backward_in (F : Fence) (n : Nat) (hF : F.fn 58) (hro : F.round = none) (p : Option Addr) (len cap : Nat) (w : World) :
    CallsIn F n Tryd.prog 58 #[.slice p len cap] w fun e w' => e = .returned (.func (.func 69) #[] #[.pointer (some ⟨w.heap.size, 0, none⟩)]) ∧ w' = w.alloc (.cells #[.slice p len cap] 23) := by
  refine callsIn_of_wp Tryd.func58 rfl hF ?_ hro
  simp only [Tryd.ntmps58, List.size_toArray, List.length_cons, List.length_nil, Nat.reduceAdd, Nat.reduceSub, Array.replicate_succ, Array.replicate_zero, List.push_toArray, List.append_toArray, List.nil_append, List.cons_append]
  gi_wp2
  go_ret
  exact ⟨rfl, rfl⟩
end Go.Proofs.YtepibfpdkjkdjaaDoor
