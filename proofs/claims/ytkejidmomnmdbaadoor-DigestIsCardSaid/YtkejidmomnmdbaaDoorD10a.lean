import Derived.Test.YtkejidmomnmdbaaDoorR2
import Derived.Deep.DeepCutAuto
import Derived.Deep.CutBlock
import Derived.Deep.QuietTactic
import Derived.BigQuiet
import Derived.StillTailTactics
import Derived.BigRegion
import Derived.Test.YtkejidmomnmdbaaDoorChain
namespace Go.Proofs.YtkejidmomnmdbaaDoor
open Go.RowKit

theorem lit_str {P : Program} (x : Nat) (w : World) (hs : P.underlying 27 = some (.slice 5)) (he : P.underlying 5 = some (.int .u8)) (hd : P.underlying 9 = some .string) :
    (convert 27 9 (.slice (some ⟨w.heap.size, 0, none⟩) 1 1)).run P (w.alloc (.cells #[.int .u8 (x : Int)] 5)) = .ok (.string (bytesOf [x])) (w.alloc (.cells #[.int .u8 (x : Int)] 5)) := by
  rw [convLit1 27 9 5 hs he hd]; simp [bytesOf]
theorem lit_str4 {P : Program} (a b c d : Nat) (w : World) (hs : P.underlying 27 = some (.slice 5)) (he : P.underlying 5 = some (.int .u8)) (hd : P.underlying 9 = some .string) :
    (convert 27 9 (.slice (some ⟨w.heap.size, 0, none⟩) 4 4)).run P (w.alloc (.cells #[.int .u8 (a : Int), .int .u8 (b : Int), .int .u8 (c : Int), .int .u8 (d : Int)] 5)) = .ok (.string (bytesOf [a, b, c, d])) (w.alloc (.cells #[.int .u8 (a : Int), .int .u8 (b : Int), .int .u8 (c : Int), .int .u8 (d : Int)] 5)) := by
  have h := run_convert_bytes_arg (P := P) (w.alloc (.cells #[.int .u8 (a : Int), .int .u8 (b : Int), .int .u8 (c : Int), .int .u8 (d : Int)] 5)) 27 5 hs he w.heap.size 0 4 4 [(a : Int), (b : Int), (c : Int), (d : Int)] rfl (fun i hi => by
    unfold World.cell?
    rw [heap_alloc_new]
    match i, hi with
    | 0, _ => rfl
    | 1, _ => rfl
    | 2, _ => rfl
    | 3, _ => rfl) 9 hd
  rw [h]; simp [strOfNums, bytesOf]
/-- While the block's words are added. -/
def HRel (w : World) (gh gk B : Nat) (HH BL : List Nat) (k : Nat) (wr : World) : Prop := ∃ Hp, RefAt w gh gk B Hp wr ∧ Hp.length = 8 ∧ Hp.take k = BL.take k ∧ Hp.drop k = HH.drop k
theorem bytesOf_app (a b : List Nat) : bytesOf a ++ bytesOf b = bytesOf (a ++ b) := by
  apply ByteArray.ext; simp [bytesOf]
theorem bytesOf_nats (s : List UInt8) : bytesOf (nats s) = ⟨s.toArray⟩ := by simp [bytesOf, nats, Function.comp_def]

/-- While it is padded. -/
def Pad (m : List Nat) (k : Nat) : List Nat := m ++ [128] ++ List.replicate k 0
theorem Pad_len (m : List Nat) (k : Nat) : (Pad m k).length = m.length + 1 + k := by simp [Pad]; omega
theorem Pad_succ (m : List Nat) (k : Nat) : Pad m (k + 1) = Pad m k ++ [0] := by simp [Pad, List.replicate_succ']

theorem cut_bytes (N k : Nat) (hk : k < 8) : bytesOf [N * 8 / 256 ^ k % 256] ++ bytesOf ((lenBytes N 8).drop (8 - k)) = bytesOf ((lenBytes N 8).drop (8 - (k + 1))) := by
  rw [bytesOf_app, show 8 - (k + 1) = 7 - k by omega, lenBytes_from N k hk]; rfl
theorem lenBytes_drop (N k : Nat) (hk : k ≤ 8) : ((lenBytes N 8).drop (8 - k)).length = k := by rw [List.length_drop, lenBytes_len]; omega

/-- Block n of a text. -/
def blk (n : Nat) : Code → Option Code
  | .block m c => if m = n then some (.block m c) else blk n c
  | .loop c => blk n c
  | .seq a b => match blk n a with
    | some c => some c
    | none => blk n b
  | .scope c => blk n c
  | .cond _ a b => match blk n a with
    | some c => some c
    | none => blk n b
  | _ => none
noncomputable def blkOf (n : Nat) : Code := (Tryd.f22.body.bind (blk n)).getD .skip
end Go.Proofs.YtkejidmomnmdbaaDoor
