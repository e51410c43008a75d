/- What slots hold, by kinds: numbers of the document's, too. -/
import Derived.Test.YtepibfpdkjkdjaaDoorAuto
import Derived.Test.YtepibfpdkjkdjaaDoorN21
namespace Go.Proofs.YtepibfpdkjkdjaaDoor
open Go.RowKit

/-- A value that is a row of the number's digits. -/
def DV (n : Nat) (v : Value) (w : World) : Prop := ∃ q c, v = .slice q (dg 10 n).length c ∧ DecIn w q c n
theorem DV.old {n : Nat} {v : Value} {w w' : World} (h : DV n v w) (hb : Below w.heap.size w w') : DV n v w' := by
  obtain ⟨q, c, e, hN⟩ := h; exact ⟨q, c, e, hN.old hb⟩
inductive Ke where
  | any
  | eq (v : Value)
  | nat (n : Nat)
  | dec (n : Nat)
def Vae : Ke → Value → World → Prop
  | .any, _, _ => True
  | .eq x, v, _ => v = x
  | .nat n, v, w => NV n v w
  | .dec n, v, w => DV n v w
theorem Vae.old {k : Ke} {v : Value} {w w' : World} (h : Vae k v w) (hb : Below w.heap.size w w') : Vae k v w' := by
  cases k with
  | any => trivial
  | eq x => exact h
  | nat n => exact NV.old h hb
  | dec n => exact DV.old h hb
end Go.Proofs.YtepibfpdkjkdjaaDoor
