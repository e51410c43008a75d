/- What slots hold, by kinds; a number as a value. -/
import Derived.Test.YtepibfpdkjkdjaaDoorW
import Derived.Test.YtepibfpdkjkdjaaDoorNum2
import Derived.Test.YtepibfpdkjkdjaaDoorDraw
namespace Go.Proofs.YtepibfpdkjkdjaaDoor
open Go.RowKit

/-- A value that is the number n. -/
def NV (n : Nat) (v : Value) (w : World) : Prop := ∃ q c, v = .agg #[.slice q (lb n).length c] ∧ NatIn w q c n
theorem NV.old {n : Nat} {v : Value} {w w' : World} (h : NV n v w) (hb : Below w.heap.size w w') : NV n v w' := by
  obtain ⟨q, c, e, hN⟩ := h; exact ⟨q, c, e, hN.old hb⟩

inductive Kd where
  | any
  | eq (v : Value)
  | nat (n : Nat)
def Val : Kd → Value → World → Prop
  | .any, _, _ => True
  | .eq x, v, _ => v = x
  | .nat n, v, w => NV n v w
theorem Val.old {k : Kd} {v : Value} {w w' : World} (h : Val k v w) (hb : Below w.heap.size w w') : Val k v w' := by
  cases k with
  | any => trivial
  | eq x => exact h
  | nat n => exact NV.old h hb
theorem lb_pow {x n : Nat} (h : x < 10 ^ n) : (lb x).length ≤ n :=
  dg_len_le _ (by decide) x n (Nat.lt_of_lt_of_le h (Nat.pow_le_pow_left (by decide) n))
end Go.Proofs.YtepibfpdkjkdjaaDoor
