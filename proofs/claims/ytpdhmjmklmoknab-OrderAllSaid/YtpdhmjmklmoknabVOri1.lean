/- Texts 1: what the laws lean on. -/
import Derived.WalkKit
import Derived.WalkSpells
import Derived.WalkLawsBesides
import Derived.Lib.Hide
import Derived.Laws.BytesArg
import Derived.Deep.RegionLaw
import Derived.Test.YtpdhmjmklmoknabProg
import Derived.Laws.StructEq
import Derived.Stop.Asserts
import Derived.Stop.IfaceNil
import Derived.Deep.AppendLies
import Derived.Orders
import Derived.Tactics
import Derived.Test.YtpdhmjmklmoknabOrSh
import Derived.Shelf.SlicesE.Delete
import Derived.Shelf.SlicesE.DeleteFunc
import Derived.Deep.AppendSrc
import Derived.Lib.BufferMore
import Derived.Great.BuildSlice
import Derived.BigQuiet
import Derived.Deep.DeepCutAuto
import Derived.OwnWalk
import Derived.Test.YtpdhmjmklmoknabRows
import Derived.ProofKit
import Derived.OpenShut
import Derived.Deep.Slices
set_option linter.unusedVariables false
set_option linter.unusedSimpArgs false
namespace Go.Proofs.Ytpdhmjmklmoknab
open Go.RowKit

/-- Of the old blocks only those of S may have turned. -/
structure Mod (S : Nat → Prop) (w w' : World) : Prop where
  os : w'.os = w.os
  tape : w'.tape = w.tape
  output : w'.output = w.output
  size : w.heap.size ≤ w'.heap.size
  block : ∀ k, k < w.heap.size → ¬ S k → w'.heap[k]? = w.heap[k]?

theorem Mod.refl (S : Nat → Prop) (w : World) : Mod S w w := ⟨rfl, rfl, rfl, Nat.le_refl _, fun _ _ _ => rfl⟩
theorem Mod.trans {S T : Nat → Prop} {a b c : World} (h : Mod S a b) (k : Mod T b c) (hs : ∀ i, i < a.heap.size → T i → S i) : Mod S a c :=
  ⟨k.os.trans h.os, k.tape.trans h.tape, k.output.trans h.output, Nat.le_trans h.size k.size,
    fun i hi hn => (k.block i (Nat.lt_of_lt_of_le hi h.size) (fun ht => hn (hs i hi ht))).trans (h.block i hi hn)⟩
theorem Mod.mono {S T : Nat → Prop} {a b : World} (h : Mod S a b) (hs : ∀ i, i < a.heap.size → S i → T i) : Mod T a b :=
  ⟨h.os, h.tape, h.output, h.size, fun i hi hn => h.block i hi (fun hS => hn (hs i hi hS))⟩
theorem Mod.drew {S : Nat → Prop} {a w : World} (h : Mod S a w) : Mod S a w.drew := ⟨h.os, h.tape, h.output, h.size, h.block⟩
theorem Mod.drewN {S : Nat → Prop} {a w : World} (h : Mod S a w) (n : Nat) : Mod S a (w.drewN n) := ⟨h.os, h.tape, h.output, h.size, h.block⟩
theorem Mod.setRow {S : Nat → Prop} {a w : World} (h : Mod S a w) {g : Nat} (cs : Array Value) : Mod (fun k => S k ∨ k = g) a (w.setRow g cs) :=
  ⟨h.os, h.tape, h.output, by have := h.size; simp [World.setRow]; omega, fun i hi hn => (setRow_other w g i _ (fun e => hn (Or.inr e))).trans (h.block i hi (fun hS => hn (Or.inl hS)))⟩
/-- What was written anew alone. -/
theorem Mod.drop_new {S : Nat → Prop} {a b : World} {g : Nat} (h : Mod (fun k => S k ∨ k = g) a b) (hg : a.heap.size ≤ g) : Mod S a b :=
  h.mono (fun i hi h => h.elim id (fun e => by omega))
theorem Mod.alloc {S : Nat → Prop} {a w : World} (h : Mod S a w) (o : Obj) : Mod S a (w.alloc o) :=
  ⟨h.os, h.tape, h.output, by have := h.size; simp; omega, fun i hi hn => (Below.heap_alloc _ _ _ (Nat.lt_of_lt_of_le hi h.size)).trans (h.block i hi hn)⟩
theorem Mod.setCell {S : Nat → Prop} {a w : World} (h : Mod S a w) {p : Addr} (hp : p.block < a.heap.size → S p.block) (u : Value) : Mod S a (w.setCell p u) :=
  ⟨h.os, h.tape, h.output, by have := h.size; simp [World.setCell]; omega, fun i hi hn => (Below.heap_setCell _ _ _ _ (fun e => hn (by subst e; exact hp hi))).trans (h.block i hi hn)⟩
theorem Mod.grown {S : Nat → Prop} {a w w' : World} {row : Option Nat} (h : Mod S a w) (hg : w.grownBy w' row) (hr : ∀ k, row = some k → k < a.heap.size → S k) : Mod S a w' :=
  ⟨hg.os.trans h.os, hg.tape.trans h.tape, hg.output.trans h.output, Nat.le_trans h.size hg.size,
    fun i hi hn => (hg.block i (Nat.lt_of_lt_of_le hi h.size) (fun e => hn (hr i e.symm hi))).trans (h.block i hi hn)⟩
theorem Mod.of_below {B : Nat} {w w' : World} (h : Below B w w') : Mod (fun k => B ≤ k) w w' :=
  ⟨h.os, h.tape, h.output, h.size, fun k _ hn => h.block k (by omega)⟩
theorem Mod.to_below {S : Nat → Prop} {w w' : World} {B : Nat} (h : Mod S w w') (hB : B ≤ w.heap.size) (hS : ∀ k, k < B → ¬ S k) : Below B w w' :=
  ⟨h.os, h.tape, h.output, h.size, fun k hk => h.block k (by omega) (hS k hk)⟩

def vals (bs : List UInt8) : List Value := bs.map fun b => Value.int .u8 b.toNat
theorem vals_len (bs : List UInt8) : (vals bs).length = bs.length := by simp [vals]
theorem vals_app (a b : List UInt8) : vals (a ++ b) = vals a ++ vals b := by simp [vals]

/-- Block b is a struct of one field, a slice value v that owns the bytes bs in a row of its own. -/
structure OutAt (T E : TypeId) (w : World) (b : Nat) (v : Value) (bs : List UInt8) : Prop where
  blk : w.heap[b]? = some (.cells #[v] T (0, 0))
  own : w.ownsRow 0 E 1 v bs.length (vals bs)
  ne : v.ownBlock ≠ some b

theorem OutAt.cell {T E : TypeId} {w : World} {b : Nat} {v : Value} {bs : List UInt8} (h : OutAt T E w b v bs) : w.cell? ⟨b, 0, none⟩ = some v := by
  unfold World.cell?; rw [h.blk]; rfl
theorem OutAt.froz {T E : TypeId} {w : World} {b : Nat} {v : Value} {bs : List UInt8} (h : OutAt T E w b v bs) : w.frozen? ⟨b, 0, none⟩ = false := by
  unfold World.frozen?; rw [h.blk]; rfl
theorem OutAt.lt {T E : TypeId} {w : World} {b : Nat} {v : Value} {bs : List UInt8} (h : OutAt T E w b v bs) : b < w.heap.size := (Array.getElem?_eq_some_iff.1 h.blk).1
theorem OutAt.fresh {T E : TypeId} (w : World) : OutAt T E (w.alloc (.cells #[.slice none 0 0] T)) w.heap.size (.slice none 0 0) [] :=
  ⟨heap_alloc_new w _, World.ownsRow_nil _ _ _ _, by simp [Value.ownBlock]⟩
theorem OutAt.kept {T E : TypeId} {w w' : World} {b : Nat} {v : Value} {bs : List UInt8} {S : Nat → Prop} (h : OutAt T E w b v bs) (hm : Mod S w w') (hb : ¬ S b) (hv : ∀ k, v.ownBlock = some k → ¬ S k) : OutAt T E w' b v bs := by
  refine ⟨(hm.block b h.lt hb).trans h.blk, ⟨h.own.1, ?_⟩, h.ne⟩
  rcases h.own.2 with hn | ⟨g, cap, cur, rfl, hg, hh, r⟩
  · exact .inl hn
  · exact .inr ⟨g, cap, cur, rfl, hg, (hm.block g (Array.getElem?_eq_some_iff.1 hh).1 (hv g rfl)).trans hh, r⟩

theorem OutAt.alloc {T E : TypeId} {w : World} {b : Nat} {v : Value} {bs : List UInt8} (h : OutAt T E w b v bs) (o : Obj) : OutAt T E (w.alloc o) b v bs :=
  h.kept ((Mod.refl (fun _ => False) w).alloc o) (fun h => h) (fun _ _ h => h)

/-- The struct's field is stored anew: a slice value that owns more. -/
theorem OutAt.store {T E : TypeId} {w w1 : World} {b : Nat} {v v1 : Value} {bs bs1 : List UInt8} (h : OutAt T E w b v bs) (hg : w.grownBy w1 v.ownBlock) (hown : w1.ownsRow 0 E 1 v1 bs1.length (vals bs1)) (hne : v1.ownBlock ≠ some b) :
    OutAt T E (w1.setCell ⟨b, 0, none⟩ v1) b v1 bs1 := by
  have hb : w1.heap[b]? = some (.cells #[v] T (0, 0)) := (hg.block b h.lt (fun e => h.ne e.symm)).trans h.blk
  refine ⟨?_, ⟨hown.1, ?_⟩, hne⟩
  · have := heap_setCell_same w1 b 0 #[v] T v1 hb
    simpa using this
  · rcases hown.2 with hn | ⟨g, cap, cur, rfl, hg', hh, r⟩
    · exact .inl hn
    · refine .inr ⟨g, cap, cur, rfl, hg', ?_, r⟩
      rw [Below.heap_setCell _ _ _ _ (by intro e; exact hne (by simp [Value.ownBlock, e]))]
      exact hh

/-- A slice value that owns something shows its address. -/
theorem ownsRow_shape {w : World} {base e size n : Nat} {v : Value} {xs : List Value} (h : w.ownsRow base e size v n xs) (hn : 0 < n) : ∃ g cap, v = .slice (some ⟨g, 0, none⟩) n cap := by
  rcases h.2 with ⟨_, h0⟩ | ⟨g, cap, _, hv, _⟩
  · omega
  · exact ⟨g, cap, hv⟩

/-- An append to an owned row, as a step of a region that draws. -/
theorem step_append_own {P : Program} {ops : Array Oper} {o : Oper} {a : Act} {w : World} {K : Act → World → Prop} {Q : Exit → Act → World → Prop} {E : Prop}
    (hgd : o.guard = none) (s x : Operand) (t : TypeId)
    (ho : o.op = .call { callee := .builtin .append, args := #[s, x], argTypes := #[t, t] })
    (base : Nat) (e : TypeId) (i : TypeInfo) (z : Value) (size bytes : Nat) (ht : P.underlying t = some (.slice e)) (hi : P.info? e = some i) (hz : i.zero = some z)
    (hsize : i.size = size) (hby : i.bytes = bytes) (hzs : z.cells.size = size) (hsz : 0 < size)
    (v : Value) (n : Nat) (xs : List Value) (hs : a.eval s = v) (hown : w.ownsRow base e size v n xs)
    (ad : Addr) (m c : Nat) (news : List Value) (hx : a.eval x = .slice (some ad) m c) (hl : news.length = m * size) (hnews : ∀ j u, news[j]? = some u → w.cell? (ad.add j) = some u) (h1 : ∀ u ∈ news, u.oneCell' = true)
    (h63 : n + m ≤ maxLen) (hbytes : (n + m) * bytes ≤ 140737488355328) (hbase : base ≤ w.heap.size)
    (h : ∀ v' w', w'.ownsRow base e size v' (n + m) (xs ++ news) → w.grownBy w' v.ownBlock → (v' = .slice none 0 0 ↔ v = .slice none 0 0 ∧ m = 0) → K (a.put o.dst v') w') :
    if Region.wanted o (yielded ops a.tmps) = true then Oper.wp P o a w K Q else E := by
  have hw : Region.wanted o (yielded ops a.tmps) = true := by simp [Region.wanted, hgd]
  rw [if_pos hw]
  exact wp_append_own w s x t ho base e i z size bytes ht hi hz hsize hby hzs hsz v n xs hs hown ad m c news hx hl hnews h1 h63 hbytes hbase h

theorem bapp1 (a : UInt8) (l : List UInt8) : (ByteArray.mk #[a] ++ ByteArray.mk l.toArray) = ByteArray.mk (a :: l).toArray := ByteArray.mk_append_mk [a] l
theorem ret_str {a b : ByteArray} (h : a = b) : Ending.returned (.string a) = .returned (.string b) := by rw [h]
theorem val_str {a b : ByteArray} (h : a = b) : Value.string a = .string b := by rw [h]
theorem val_int {k : IntKind} {a b : Int} (h : a = b) : Value.int k a = .int k b := by rw [h]
theorem ret_int {k : IntKind} {a b : Int} (h : a = b) : Ending.returned (.int k a) = .returned (.int k b) := by rw [h]

theorem convLit1 {P : Program} (src dst e : TypeId) (hs : P.underlying src = some (.slice e)) (he : P.underlying e = some (.int .u8)) (hd : P.underlying dst = some .string) (w : World) (x : Int) :
    (convert src dst (.slice (some ⟨w.heap.size, 0, none⟩) 1 1)).run P (w.alloc (.cells #[.int .u8 x] e)) = .ok (.string ⟨#[UInt8.ofNat x.toNat]⟩) (w.alloc (.cells #[.int .u8 x] e)) := by
  have h := run_convert_bytes_arg (P := P) (w.alloc (.cells #[.int .u8 x] e)) src e hs he w.heap.size 0 1 1 [x] rfl (fun i hi => by
    obtain rfl : i = 0 := by omega
    unfold World.cell?
    rw [heap_alloc_new]
    rfl) dst hd
  simpa [strOfNums] using h

/-- The old world's name is kept. -/
theorem Lib.flip {P : Program} {f : FuncId} {args : Array Value} {w : World} {v : Ending} (h : Calls P f args w fun e w' => e = v ∧ w' = w) : Calls P f args w fun e w' => e = v ∧ w = w' :=
  h.mono fun _ _ ⟨a, b⟩ => ⟨a, b.symm⟩

/-- A shift to the right of a number from 0 on. -/
theorem shr_nat {P : Program} (k j : IntKind) (n s : Nat) (w : World) (hs : s ≤ k.bits) : (Op.shift .shr k (n : Int) j (s : Int)).run P w = .ok (.int k ((n / 2 ^ s : Nat) : Int)) w := by
  have h0 : ¬ ((s : Int) < 0) := by omega
  have hm : min ((s : Int)).toNat k.bits = s := by rw [Int.toNat_natCast]; exact Nat.min_eq_left hs
  unfold Op.shift
  rw [if_neg h0]
  simp only [hm]
  have : (n : Int).fdiv (2 ^ s) = ((n / 2 ^ s : Nat) : Int) := by
    rw [Int.fdiv_eq_ediv_of_nonneg _ (by exact_mod_cast Nat.zero_le (2 ^ s))]
    push_cast
    rfl
  rw [this]
  rfl

/-- A whole variable is stored: an array or a struct by value. -/
theorem wp_store_row {P : Program} {o : Oper} {a : Act} {w : World} {K : Act → World → Prop} {Q : Exit → Act → World → Prop} (ty : TypeId) (x y : Operand) (ho : o.op = .store ty x y)
    (g : Nat) (hx : a.eval x = .pointer (some ⟨g, 0, none⟩)) (t : TypeId) (old cs : Array Value) (hy : a.eval y = .agg cs) (hg : w.heap[g]? = some (.cells old t (0, 0))) (hsz : old.size = cs.size)
    (hi : (P.info? ty).map (·.size) = some cs.size) (h1 : ∀ v ∈ cs.toList, v.oneCell' = true)
    (h : K (a.put o.dst undef) (w.setRow g cs)) : o.wp P a w K Q := by
  have hst := run_storeCells_at P g 0 t cs.toList 0 old w hg (by simp; omega) h1
  have e : (old.toList.take (0 + 0) ++ cs.toList ++ old.toList.drop (0 + 0 + cs.toList.length)).toArray = cs := by
    have : old.toList.drop (0 + 0 + cs.toList.length) = [] := List.drop_eq_nil_of_le (by simp; omega)
    rw [this]; simp
  rw [e] at hst
  cases hq : P.info? ty with
  | none => simp [hq] at hi
  | some i =>
    have hs : i.size = cs.size := by simpa [hq] using hi
    have hv : (storeVar ty ⟨g, 0, none⟩ (.agg cs)).run P w = .ok () (w.setRow g cs) := by
      simp [storeVar, sizeOf, typeInfo, hq, hs, Value.cells, hst]
    unfold Oper.wp execOp
    simp only [ho, hx, hy, Instr.storeAt, Instr.sureAddr, Sem.run_bind, Sem.run_pure, Result.andThen_ok, hv]
    exact h

theorem wpList_store_row {P : Program} {ops : Array Oper} {rest : List Oper} {o : Oper} {a : Act} {w : World} {Q : Exit → Act → World → Prop} (hgd : o.guard = none) (hdst : o.dst = none) (ty : TypeId) (x y : Operand) (ho : o.op = .store ty x y)
    (g : Nat) (hx : a.eval x = .pointer (some ⟨g, 0, none⟩)) (t : TypeId) (old cs : Array Value) (hy : a.eval y = .agg cs) (hg : w.heap[g]? = some (.cells old t (0, 0))) (hsz : old.size = cs.size)
    (hi : (P.info? ty).map (·.size) = some cs.size) (h1 : ∀ v ∈ cs.toList, v.oneCell' = true)
    (h : wpList P ops Q rest a (w.setRow g cs)) : wpList P ops Q (o :: rest) a w :=
  wpList_plain hgd fun _ hK => wp_store_row ty x y ho g hx t old cs hy hg hsz hi h1 (hK _ _ (by rw [hdst]; exact h))

/-- Numbers as cells. -/
def nums (k : IntKind) (A : List Nat) : List Value := A.map fun (x : Nat) => Value.int k (x : Int)
theorem nums_len (k : IntKind) (A : List Nat) : (nums k A).length = A.length := by simp [nums]
theorem nums_one (k : IntKind) (A : List Nat) : ∀ v ∈ nums k A, v.oneCell' = true := by
  intro v hv; obtain ⟨x, _, rfl⟩ := List.mem_map.1 hv; rfl
theorem nums_get (k : IntKind) (A : List Nat) (i : Nat) (h : i < A.length) : (nums k A)[i]? = some (.int k (A[i]'h)) := by simp [nums, h]
theorem nums_set (k : IntKind) (A : List Nat) (i x : Nat) : (nums k A).set i (.int k x) = nums k (A.set i x) := by simp [nums, List.map_set]

/-- A block of numbers. -/
def RowAt (k : IntKind) (T : TypeId) (w : World) (g : Nat) (A : List Nat) : Prop := w.heap[g]? = some (.cells (nums k A).toArray T (0, 0))
theorem RowAt.cell {k : IntKind} {T : TypeId} {w : World} {g : Nat} {A : List Nat} (h : RowAt k T w g A) (i : Nat) (hi : i < A.length) : w.cell? ⟨g, i, none⟩ = some (.int k (A[i]'hi)) := by
  rw [cell_of_row w g i _ T (0, 0) h]; simpa using nums_get k A i hi
theorem RowAt.froz {k : IntKind} {T : TypeId} {w : World} {g : Nat} {A : List Nat} (h : RowAt k T w g A) (i : Nat) : w.frozen? ⟨g, i, none⟩ = false := frozen_of_row w g i _ T h
theorem RowAt.lt {k : IntKind} {T : TypeId} {w : World} {g : Nat} {A : List Nat} (h : RowAt k T w g A) : g < w.heap.size := (Array.getElem?_eq_some_iff.1 h).1
theorem RowAt.set {k : IntKind} {T : TypeId} {w : World} {g : Nat} {A : List Nat} (h : RowAt k T w g A) (i x : Nat) : RowAt k T (w.setCell ⟨g, i, none⟩ (.int k x)) g (A.set i x) := by
  have := heap_setCell_same w g i _ T (.int k x) h
  unfold RowAt
  rw [this, ← nums_set]
  simp
theorem RowAt.kept {k : IntKind} {T : TypeId} {w w' : World} {g : Nat} {A : List Nat} {S : Nat → Prop} (h : RowAt k T w g A) (hm : Mod S w w') (hg : ¬ S g) : RowAt k T w' g A := (hm.block g h.lt hg).trans h

/-- An array of numbers, by value, indexed. -/
theorem run_index_nums {P : Program} (T E : TypeId) (len : Nat) (k : IntKind) (A : List Nat) (i : Nat) (hi : i < A.length) (hT : P.underlying T = some (.array len E)) (hl : A.length = len)
    (hE : P.underlying E = some (.int k)) (hs : (P.info? E).map (·.size) = some 1) (w : World) :
    (Instr.index T (.agg (nums k A).toArray) (.int .i64 (i : Int))).run P w = .ok (.int k (A[i]'hi)) w := by
  have h1 : (0 : Int) ≤ i ∧ (i : Int) < len := by omega
  cases hq : P.info? E with
  | none => simp [hq] at hs
  | some j =>
    have hj : j.size = 1 := by simpa [hq] using hs
    have hg := nums_get k A i hi
    unfold Instr.index
    simp only [asIntOf, Sem.run_bind, Sem.run_pure, Result.andThen_ok, run_underlying hT]
    rw [if_pos h1]
    simp [sizeOf, typeInfo, hq, hj, part, isAgg, run_underlying hE, hg]
end Go.Proofs.Ytpdhmjmklmoknab

namespace Go.Proofs.Ytpdhmjmklmoknab
section
variable {α : Type}
/-- Which one of n things a pick is. -/
def plO (p : Int) (n : Nat) : Nat := (p % (n : Int)).toNat
theorem plO_lt (p : Int) {n : Nat} (h : 0 < n) : plO p n < n := by
  unfold plO
  have h1 := Int.emod_nonneg p (show (n : Int) ≠ 0 by omega)
  have h2 := Int.emod_lt_of_pos p (show (0 : Int) < n by omega)
  omega
theorem plO_cast (p : Int) {n : Nat} (h : 0 < n) : ((plO p n : Nat) : Int) = p % (n : Int) := by
  unfold plO
  have h1 := Int.emod_nonneg p (show (n : Int) ≠ 0 by omega)
  omega
/-- As Go counts it: from behind, if it is below 0. -/
theorem plO_go (p : Int) {n : Nat} (h : 0 < n) : (Int.tmod (Int.tmod p n + n) n) = (plO p n : Int) ∧ -(n : Int) < Int.tmod p n ∧ Int.tmod p n < n := by
  have hn : (0 : Int) < n := by omega
  rw [plO_cast p h]
  have h1 : -(n : Int) < Int.tmod p n := by
    have := Int.lt_tmod_of_pos p hn
    omega
  have h2 : Int.tmod p n < n := Int.tmod_lt_of_pos p hn
  refine ⟨?_, h1, h2⟩
  have e : p % (n : Int) = Int.tmod p n % (n : Int) := by
    have := Int.mul_tdiv_add_tmod p n
    rw [show p % (n : Int) = ((n : Int) * Int.tdiv p n + Int.tmod p n) % n by rw [this], Int.add_comm, Int.add_mul_emod_self_left]
  rw [Int.tmod_eq_emod_of_nonneg (show 0 ≤ Int.tmod p n + n by omega), Int.add_emod_right, e]
theorem plO_ref (p : Int) {n : Nat} (h : 0 < n) : (if Int.tmod p n < 0 then Int.tmod p n + n else Int.tmod p n) = (plO p n : Int) := by
  obtain ⟨h1, h2, h3⟩ := plO_go p h
  rw [← h1]
  generalize Int.tmod p n = q at h2 h3 ⊢
  split
  · rw [Int.tmod_eq_of_lt (by omega) (by omega)]
  · rw [Int.tmod_eq_emod_of_nonneg (by omega), Int.add_emod_right, Int.emod_eq_of_lt (by omega) (by omega)]
/-- All of them, by picks. -/
def shO : List α → List Int → List α
  | L, [] => L
  | [], _ :: _ => []
  | a :: l, p :: ps => (a :: l)[plO p (l.length + 1)]'(plO_lt p (Nat.succ_pos _)) :: shO ((a :: l).eraseIdx (plO p (l.length + 1))) ps
theorem shO_step {E : List α} (hE : 0 < E.length) (p : Int) (ps : List Int) : shO E (p :: ps) = E[plO p E.length]'(plO_lt p hE) :: shO (E.eraseIdx (plO p E.length)) ps := by
  cases E with
  | nil => cases hE
  | cons a l => rfl
theorem shO_nil (ps : List Int) : shO ([] : List α) ps = [] := by cases ps <;> rfl
theorem er_perm : ∀ (E : List α) (i : Nat) (h : i < E.length), (E[i] :: E.eraseIdx i).Perm E
  | a :: l, 0, h => .refl _
  | a :: l, i + 1, h => by
    have := er_perm l i (by simpa using h)
    exact (List.Perm.swap _ _ _).trans (this.cons a)
theorem er_map {β : Type} (f : α → β) : ∀ (E : List α) (i : Nat), (E.map f).eraseIdx i = (E.eraseIdx i).map f
  | [], _ => rfl
  | a :: l, 0 => rfl
  | a :: l, i + 1 => by simp [er_map f l i]
theorem shO_perm : ∀ (ps : List Int) (E : List α), (shO E ps).Perm E
  | [], E => by unfold shO; exact .refl _
  | p :: ps, E => by
    by_cases hE : 0 < E.length
    · rw [shO_step hE]
      exact ((shO_perm ps _).cons _).trans (er_perm E _ (plO_lt p hE))
    · obtain rfl : E = [] := List.length_eq_zero_iff.1 (by omega)
      rw [shO_nil]
/-- Picks beyond the last thing say nothing. -/
theorem shO_take : ∀ (ps : List Int) (E : List α), shO E (ps.take E.length) = shO E ps
  | [], E => by simp
  | p :: ps, E => by
    cases hl : E.length with
    | zero => obtain rfl : E = [] := List.length_eq_zero_iff.1 hl; rw [shO_nil, shO_nil]
    | succ n =>
      have hE : 0 < E.length := by omega
      rw [List.take_succ_cons, shO_step hE, shO_step hE]
      congr 1
      rw [show n = (E.eraseIdx (plO p E.length)).length by rw [List.length_eraseIdx_of_lt (plO_lt p hE)]; omega]
      exact shO_take ps _
theorem shO_map {β : Type} (f : α → β) : ∀ (ps : List Int) (E : List α), shO (E.map f) ps = (shO E ps).map f
  | [], E => rfl
  | p :: ps, E => by
    by_cases hE : 0 < E.length
    · rw [shO_step hE, shO_step (by rw [List.length_map]; exact hE), List.map_cons, ← shO_map f ps]
      simp only [List.length_map, List.getElem_map, er_map]
    · obtain rfl : E = [] := List.length_eq_zero_iff.1 (by omega)
      rfl
end
end Go.Proofs.Ytpdhmjmklmoknab

namespace Go.Proofs.Ytpdhmjmklmoknab
open Go.RowKit

/-- A command, or what is none. -/
inductive Cm
  | none
  | other
  | block (s : List UInt8) (r : Bool)
  | cert (s : List UInt8) (r : Bool)
  | clock (n : Int)
  | mark (k : List UInt8)
  | unmark
/-- Its value. -/
def cmV : Cm → Value
  | .none => .nilIface
  | .other => .iface 56 (.agg #[])
  | .block s r => .iface 50 (.agg #[.string ⟨s.toArray⟩, .bool r])
  | .cert s r => .iface 51 (.agg #[.string ⟨s.toArray⟩, .bool r])
  | .clock n => .iface 37 (.agg #[.int .i64 n])
  | .mark k => .iface 53 (.agg #[.string ⟨k.toArray⟩])
  | .unmark => .iface 55 (.agg #[])
end Go.Proofs.Ytpdhmjmklmoknab

namespace Go.Proofs.Ytpdhmjmklmoknab
open Go.RowKit

section
variable {P : Program} (w : World)
theorem iface_dyn {t tx : TypeId} {ms : Array (String × TypeId)} {vx vy : Value} {b : Bool} (ht : P.underlying t = some (.interface ms)) (hc : (P.info? tx).map (·.comparable) = some true) (h : ∀ d, (Op.equalIn (d + 2) tx vx vy).run P w = .ok b w) :
    (binOp .eql t (.iface tx vx) (.iface tx vy)).run P w = .ok (.bool b) w := by
  cases hi : P.info? tx with
  | none => simp [hi] at hc
  | some i =>
    have hcc : i.comparable = true := by simpa [hi] using hc
    have h : ∀ d : Nat, (Op.equalIn (d + 3) t (.iface tx vx) (.iface tx vy)).run P w = .ok b w := fun d => by
      rw [Op.equalIn]
      simp [run_underlying ht, typeInfo, hi, hcc, h d]
    simp only [binOp]
    simp [Op.equal, Op.maxDepth, h 9997]
theorem fields_none {t : TypeId} (ht : P.underlying t = some (.struct (P.fieldsOf t))) (hp : P.stoodInHeld t = false) (hl : (P.fieldsOf t).toList.map (fun f => (f.name, f.type, f.offset)) = []) (xs ys : Array Value) (d : Nat) :
    (Op.equalIn (d + 2) t (.agg xs) (.agg ys)).run P w = .ok true w := by
  rw [run_equalIn_struct (w := w) (d + 1) t _ _ ht hp]
  generalize (P.fieldsOf t).toList = L at hl ⊢
  match L, hl with
  | [], _ => simp [Op.eqFields]
theorem fields_str {t u : TypeId} {nm : String} (ht : P.underlying t = some (.struct (P.fieldsOf t))) (hp : P.stoodInHeld t = false) (hl : (P.fieldsOf t).toList.map (fun f => (f.name, f.type, f.offset)) = [(nm, u, 0)]) (hnm : nm ≠ "_") (hu : P.underlying u = some .string) (a b : ByteArray) (d : Nat) :
    (Op.equalIn (d + 2) t (.agg #[.string a]) (.agg #[.string b])).run P w = .ok (a.toList == b.toList) w := by
  have hs : ∀ z : ByteArray, (part u #[.string z] 0).run P w = .ok (.string z) w := fun z => by simp [part, isAgg, run_underlying hu]
  rw [run_equalIn_struct (w := w) (d + 1) t _ _ ht hp]
  generalize (P.fieldsOf t).toList = L at hl ⊢
  match L, hl with
  | [], hl => cases hl
  | _ :: _ :: _, hl => simp at hl
  | [f], hl =>
    simp only [List.map_cons, List.map_nil, List.cons.injEq, Prod.mk.injEq, and_true] at hl
    obtain ⟨h1, h2, h3⟩ := hl
    simp only [Op.eqFields, h1, h2, h3]
    rw [if_pos hnm]
    simp only [Sem.run_bind, hs, Result.andThen_ok, run_equalIn_string w d u a b hu]
    cases a.toList == b.toList <;> simp
theorem fields_int {t u : TypeId} {nm : String} (ht : P.underlying t = some (.struct (P.fieldsOf t))) (hp : P.stoodInHeld t = false) (hl : (P.fieldsOf t).toList.map (fun f => (f.name, f.type, f.offset)) = [(nm, u, 0)]) (hnm : nm ≠ "_") (hu : P.underlying u = some (.int .i64)) (a b : Int) (d : Nat) :
    (Op.equalIn (d + 2) t (.agg #[.int .i64 a]) (.agg #[.int .i64 b])).run P w = .ok (a == b) w := by
  have hs : ∀ z : Int, (part u #[.int .i64 z] 0).run P w = .ok (.int .i64 z) w := fun z => by simp [part, isAgg, run_underlying hu]
  rw [run_equalIn_struct (w := w) (d + 1) t _ _ ht hp]
  generalize (P.fieldsOf t).toList = L at hl ⊢
  match L, hl with
  | [], hl => cases hl
  | _ :: _ :: _, hl => simp at hl
  | [f], hl =>
    simp only [List.map_cons, List.map_nil, List.cons.injEq, Prod.mk.injEq, and_true] at hl
    obtain ⟨h1, h2, h3⟩ := hl
    simp only [Op.eqFields, h1, h2, h3]
    rw [if_pos hnm]
    simp only [Sem.run_bind, hs, Result.andThen_ok, run_equalIn_int w d u .i64 .i64 a b hu]
    cases a == b <;> simp
theorem fields_strbool {t u v : TypeId} {nm nn : String} (ht : P.underlying t = some (.struct (P.fieldsOf t))) (hp : P.stoodInHeld t = false) (hl : (P.fieldsOf t).toList.map (fun f => (f.name, f.type, f.offset)) = [(nm, u, 0), (nn, v, 1)]) (hnm : nm ≠ "_") (hnn : nn ≠ "_") (hu : P.underlying u = some .string) (hv : P.underlying v = some .bool) (a b : ByteArray) (p q : Bool) (d : Nat) :
    (Op.equalIn (d + 2) t (.agg #[.string a, .bool p]) (.agg #[.string b, .bool q])).run P w = .ok (a.toList == b.toList && p == q) w := by
  have hs : ∀ (z : ByteArray) (y : Bool), (part u #[.string z, .bool y] 0).run P w = .ok (.string z) w := fun z y => by simp [part, isAgg, run_underlying hu]
  have hs2 : ∀ (z : ByteArray) (y : Bool), (part v #[.string z, .bool y] 1).run P w = .ok (.bool y) w := fun z y => by simp [part, isAgg, run_underlying hv]
  rw [run_equalIn_struct (w := w) (d + 1) t _ _ ht hp]
  generalize (P.fieldsOf t).toList = L at hl ⊢
  match L, hl with
  | [], hl => cases hl
  | [_], hl => simp at hl
  | _ :: _ :: _ :: _, hl => simp at hl
  | [f, g], hl =>
    simp only [List.map_cons, List.map_nil, List.cons.injEq, Prod.mk.injEq, and_true] at hl
    obtain ⟨⟨h1, h2, h3⟩, h4, h5, h6⟩ := hl
    simp only [Op.eqFields, h1, h2, h3, h4, h5, h6]
    rw [if_pos hnm, if_pos hnn]
    simp only [Sem.run_bind, hs, hs2, Result.andThen_ok, run_equalIn_string w d u a b hu]
    cases a.toList == b.toList
    · simp
    · simp only [Bool.not_true, Bool.false_eq_true, if_false, Sem.run_bind, hs2, Result.andThen_ok, run_equalIn_bool w d v p q hv]
      cases p == q <;> simp
end
/-- Are two commands one? -/
def cmEq : Cm → Cm → Bool
  | .none, .none => true
  | .other, .other => true
  | .block s r, .block t q => s == t && r == q
  | .cert s r, .cert t q => s == t && r == q
  | .clock n, .clock m => n == m
  | .mark s, .mark t => s == t
  | .unmark, .unmark => true
  | _, _ => false
theorem cmEq_iff (c d : Cm) : cmEq c d = true ↔ c = d := by
  cases c <;> cases d <;> simp [cmEq]
theorem cm_if : Try.prog.isIface 39 = true := by kernel_rfl
theorem cmBlock_u : Try.prog.underlying 50 = some (.struct (Try.prog.fieldsOf 50)) := by kernel_rfl
theorem cmBlock_p : Try.prog.stoodInHeld 50 = false := by kernel_rfl
theorem cmBlock_l : (Try.prog.fieldsOf 50).toList.map (fun f => (f.name, f.type, f.offset)) = [("Bytes", 9, 0), ("Right", 4, 1)] := by kernel_rfl
theorem cmBlock_c : (Try.prog.info? 50).map (·.comparable) = some true := by kernel_rfl
theorem cmCert_u : Try.prog.underlying 51 = some (.struct (Try.prog.fieldsOf 51)) := by kernel_rfl
theorem cmCert_p : Try.prog.stoodInHeld 51 = false := by kernel_rfl
theorem cmCert_l : (Try.prog.fieldsOf 51).toList.map (fun f => (f.name, f.type, f.offset)) = [("Bytes", 9, 0), ("Right", 4, 1)] := by kernel_rfl
theorem cmCert_c : (Try.prog.info? 51).map (·.comparable) = some true := by kernel_rfl
theorem cmClock_u : Try.prog.underlying 37 = some (.struct (Try.prog.fieldsOf 37)) := by kernel_rfl
theorem cmClock_p : Try.prog.stoodInHeld 37 = false := by kernel_rfl
theorem cmClock_l : (Try.prog.fieldsOf 37).toList.map (fun f => (f.name, f.type, f.offset)) = [("Epoch", 3, 0)] := by kernel_rfl
theorem cmClock_c : (Try.prog.info? 37).map (·.comparable) = some true := by kernel_rfl
theorem cmMark_u : Try.prog.underlying 53 = some (.struct (Try.prog.fieldsOf 53)) := by kernel_rfl
theorem cmMark_p : Try.prog.stoodInHeld 53 = false := by kernel_rfl
theorem cmMark_l : (Try.prog.fieldsOf 53).toList.map (fun f => (f.name, f.type, f.offset)) = [("Key", 9, 0)] := by kernel_rfl
theorem cmMark_c : (Try.prog.info? 53).map (·.comparable) = some true := by kernel_rfl
theorem cmUnmark_u : Try.prog.underlying 55 = some (.struct (Try.prog.fieldsOf 55)) := by kernel_rfl
theorem cmUnmark_p : Try.prog.stoodInHeld 55 = false := by kernel_rfl
theorem cmUnmark_l : (Try.prog.fieldsOf 55).toList.map (fun f => (f.name, f.type, f.offset)) = [] := by kernel_rfl
theorem cmUnmark_c : (Try.prog.info? 55).map (·.comparable) = some true := by kernel_rfl
theorem cmOther_u : Try.prog.underlying 56 = some (.struct (Try.prog.fieldsOf 56)) := by kernel_rfl
theorem cmOther_p : Try.prog.stoodInHeld 56 = false := by kernel_rfl
theorem cmOther_l : (Try.prog.fieldsOf 56).toList.map (fun f => (f.name, f.type, f.offset)) = [] := by kernel_rfl
theorem cmOther_c : (Try.prog.info? 56).map (·.comparable) = some true := by kernel_rfl
theorem cm_eql (c d : Cm) (w : World) : (binOp .eql 39 (cmV c) (cmV d)).run Try.prog w = .ok (.bool (cmEq c d)) w := by
  have tl : ∀ s : List UInt8, (⟨s.toArray⟩ : ByteArray).toList = s := fun s => by simp
  have e1 : ∀ (s t : List UInt8), (s == t) = ((⟨s.toArray⟩ : ByteArray).toList == (⟨t.toArray⟩ : ByteArray).toList) := fun s t => by rw [tl, tl]
  cases c <;> cases d
  case none.none => exact run_eql_nil_nil_at w 39 cm_if
  case none.other => exact run_eql_iface_nil_left w _ _ Try.underlying39
  case none.block s2 r2 => exact run_eql_iface_nil_left w _ _ Try.underlying39
  case none.cert s2 r2 => exact run_eql_iface_nil_left w _ _ Try.underlying39
  case none.clock n2 => exact run_eql_iface_nil_left w _ _ Try.underlying39
  case none.mark k2 => exact run_eql_iface_nil_left w _ _ Try.underlying39
  case none.unmark => exact run_eql_iface_nil_left w _ _ Try.underlying39
  case other.none => exact run_eql_iface_nil w 39 cm_if _ _
  case other.other => exact iface_dyn w Try.underlying39 cmOther_c (fun d => fields_none w cmOther_u cmOther_p cmOther_l _ _ d)
  case other.block s2 r2 => exact run_eql_iface_types _ _ _ _ Try.underlying39 (by decide) w
  case other.cert s2 r2 => exact run_eql_iface_types _ _ _ _ Try.underlying39 (by decide) w
  case other.clock n2 => exact run_eql_iface_types _ _ _ _ Try.underlying39 (by decide) w
  case other.mark k2 => exact run_eql_iface_types _ _ _ _ Try.underlying39 (by decide) w
  case other.unmark => exact run_eql_iface_types _ _ _ _ Try.underlying39 (by decide) w
  case block.none s1 r1 => exact run_eql_iface_nil w 39 cm_if _ _
  case block.other s1 r1 => exact run_eql_iface_types _ _ _ _ Try.underlying39 (by decide) w
  case block.block s1 r1 s2 r2 => rw [show cmEq (.block s1 r1) (.block s2 r2) = (s1 == s2 && r1 == r2) from rfl, e1]; exact iface_dyn w Try.underlying39 cmBlock_c (fun d => fields_strbool w cmBlock_u cmBlock_p cmBlock_l (by decide) (by decide) Try.underlying9 Try.underlying4 _ _ _ _ d)
  case block.cert s1 r1 s2 r2 => exact run_eql_iface_types _ _ _ _ Try.underlying39 (by decide) w
  case block.clock s1 r1 n2 => exact run_eql_iface_types _ _ _ _ Try.underlying39 (by decide) w
  case block.mark s1 r1 k2 => exact run_eql_iface_types _ _ _ _ Try.underlying39 (by decide) w
  case block.unmark s1 r1 => exact run_eql_iface_types _ _ _ _ Try.underlying39 (by decide) w
  case cert.none s1 r1 => exact run_eql_iface_nil w 39 cm_if _ _
  case cert.other s1 r1 => exact run_eql_iface_types _ _ _ _ Try.underlying39 (by decide) w
  case cert.block s1 r1 s2 r2 => exact run_eql_iface_types _ _ _ _ Try.underlying39 (by decide) w
  case cert.cert s1 r1 s2 r2 => rw [show cmEq (.cert s1 r1) (.cert s2 r2) = (s1 == s2 && r1 == r2) from rfl, e1]; exact iface_dyn w Try.underlying39 cmCert_c (fun d => fields_strbool w cmCert_u cmCert_p cmCert_l (by decide) (by decide) Try.underlying9 Try.underlying4 _ _ _ _ d)
  case cert.clock s1 r1 n2 => exact run_eql_iface_types _ _ _ _ Try.underlying39 (by decide) w
  case cert.mark s1 r1 k2 => exact run_eql_iface_types _ _ _ _ Try.underlying39 (by decide) w
  case cert.unmark s1 r1 => exact run_eql_iface_types _ _ _ _ Try.underlying39 (by decide) w
  case clock.none n1 => exact run_eql_iface_nil w 39 cm_if _ _
  case clock.other n1 => exact run_eql_iface_types _ _ _ _ Try.underlying39 (by decide) w
  case clock.block n1 s2 r2 => exact run_eql_iface_types _ _ _ _ Try.underlying39 (by decide) w
  case clock.cert n1 s2 r2 => exact run_eql_iface_types _ _ _ _ Try.underlying39 (by decide) w
  case clock.clock n1 n2 => exact iface_dyn w Try.underlying39 cmClock_c (fun d => fields_int w cmClock_u cmClock_p cmClock_l (by decide) Try.underlying3 _ _ d)
  case clock.mark n1 k2 => exact run_eql_iface_types _ _ _ _ Try.underlying39 (by decide) w
  case clock.unmark n1 => exact run_eql_iface_types _ _ _ _ Try.underlying39 (by decide) w
  case mark.none k1 => exact run_eql_iface_nil w 39 cm_if _ _
  case mark.other k1 => exact run_eql_iface_types _ _ _ _ Try.underlying39 (by decide) w
  case mark.block k1 s2 r2 => exact run_eql_iface_types _ _ _ _ Try.underlying39 (by decide) w
  case mark.cert k1 s2 r2 => exact run_eql_iface_types _ _ _ _ Try.underlying39 (by decide) w
  case mark.clock k1 n2 => exact run_eql_iface_types _ _ _ _ Try.underlying39 (by decide) w
  case mark.mark k1 k2 => rw [show cmEq (.mark k1) (.mark k2) = (k1 == k2) from rfl, e1]; exact iface_dyn w Try.underlying39 cmMark_c (fun d => fields_str w cmMark_u cmMark_p cmMark_l (by decide) Try.underlying9 _ _ d)
  case mark.unmark k1 => exact run_eql_iface_types _ _ _ _ Try.underlying39 (by decide) w
  case unmark.none => exact run_eql_iface_nil w 39 cm_if _ _
  case unmark.other => exact run_eql_iface_types _ _ _ _ Try.underlying39 (by decide) w
  case unmark.block s2 r2 => exact run_eql_iface_types _ _ _ _ Try.underlying39 (by decide) w
  case unmark.cert s2 r2 => exact run_eql_iface_types _ _ _ _ Try.underlying39 (by decide) w
  case unmark.clock n2 => exact run_eql_iface_types _ _ _ _ Try.underlying39 (by decide) w
  case unmark.mark k2 => exact run_eql_iface_types _ _ _ _ Try.underlying39 (by decide) w
  case unmark.unmark => exact iface_dyn w Try.underlying39 cmUnmark_c (fun d => fields_none w cmUnmark_u cmUnmark_p cmUnmark_l _ _ d)
end Go.Proofs.Ytpdhmjmklmoknab

namespace Go.Proofs.Ytpdhmjmklmoknab
open Go.RowKit

/-- How an element lies in memory: k cells. -/
structure Enc (α : Type) where
  f : α → List Value
  k : Nat
  len : ∀ x, (f x).length = k
  one : ∀ x, ∀ v ∈ f x, v.oneCell' = true
  pos : 0 < k

section
variable {α : Type} (E : Enc α)
def Enc.all (L : List α) : List Value := L.flatMap E.f
theorem Enc.all_nil : E.all [] = [] := rfl
theorem Enc.all_app (A B : List α) : E.all (A ++ B) = E.all A ++ E.all B := by simp [Enc.all]
theorem Enc.all_len (L : List α) : (E.all L).length = L.length * E.k := by
  induction L with
  | nil => simp [Enc.all]
  | cons x l ih => rw [show x :: l = [x] ++ l from rfl, E.all_app, List.length_append, ih]; simp [Enc.all, E.len, Nat.add_mul]; omega
theorem Enc.all_one (L : List α) : ∀ v ∈ E.all L, v.oneCell' = true := by
  intro v hv
  obtain ⟨x, _, h⟩ := List.mem_flatMap.1 hv
  exact E.one x v h
theorem Enc.all_get (L : List α) (j i : Nat) (hj : j < L.length) (hi : i < E.k) : (E.all L)[j * E.k + i]? = (E.f L[j])[i]? := by
  induction L generalizing j with
  | nil => simp at hj
  | cons x l ih =>
    rw [show E.all (x :: l) = E.f x ++ E.all l by simp [Enc.all]]
    cases j with
    | zero => rw [Nat.zero_mul, Nat.zero_add, List.getElem?_append_left (by rw [E.len]; exact hi)]; rfl
    | succ j =>
      rw [List.getElem?_append_right (by rw [E.len, Nat.add_mul]; omega), E.len, show (j + 1) * E.k + i - E.k = j * E.k + i by rw [Nat.add_mul]; omega, ih j (by simpa using hj)]
      rfl

/-- The slice at p holds L from its block's head on; nil holds none. -/
def Rw (T : TypeId) (w : World) (p : Option Addr) (cap : Nat) (L : List α) : Prop := w.ownsRow 0 T E.k (.slice p L.length cap) L.length (E.all L)
/-- L is read at ao. -/
def Rd (w : World) (ao : Option Addr) (L : List α) : Prop :=
  ∀ j (h : j < L.length), ∃ bs off, ao = some ⟨bs, off, none⟩ ∧ bs < w.heap.size ∧ ∀ i u, (E.f L[j])[i]? = some u → w.cell? ⟨bs, off + j * E.k + i, none⟩ = some u

variable {E}
theorem Rd.old {w w' : World} {ao : Option Addr} {L : List α} (h : Rd E w ao L) (hb : Below w.heap.size w w') : Rd E w' ao L := by
  intro j hj
  obtain ⟨bs, off, e, hlt, hc⟩ := h j hj
  exact ⟨bs, off, e, Nat.lt_of_lt_of_le hlt hb.size, fun i u hu => (World.cell?_of_block (hb.block bs hlt)).trans (hc i u hu)⟩
theorem Rd.nil (w : World) (ao : Option Addr) : Rd E w ao [] := fun j hj => by simp at hj
theorem Rd.take {w : World} {ao : Option Addr} {L : List α} (h : Rd E w ao L) (n : Nat) : Rd E w ao (L.take n) := by
  intro j hj
  have hj2 : j < L.length := by rw [List.length_take] at hj; omega
  obtain ⟨bs, off, e, hlt, c1⟩ := h j hj2
  refine ⟨bs, off, e, hlt, ?_⟩
  rw [List.getElem_take]; exact c1
theorem Rw.shape {T : TypeId} {w : World} {p : Option Addr} {cap : Nat} {L : List α} (h : Rw E T w p cap L) :
    (p = none ∧ L = [] ∧ cap = 0) ∨ ∃ g, p = some ⟨g, 0, none⟩ ∧ g < w.heap.size ∧ L.length ≤ cap ∧ cap ≤ maxLen ∧ ∃ cur : Array Value, w.heap[g]? = some (.cells cur T (0, 0)) ∧ cur.size = cap * E.k ∧ cur.toList.take (L.length * E.k) = E.all L := by
  rcases h.2 with ⟨e, h0⟩ | ⟨g, cap', cur, e, _, hh, h1, h2, h3, h4⟩
  · simp only [Value.slice.injEq] at e
    exact .inl ⟨e.1, List.eq_nil_of_length_eq_zero h0, e.2.2⟩
  · simp only [Value.slice.injEq] at e
    obtain ⟨rfl, _, rfl⟩ := e
    exact .inr ⟨g, rfl, (Array.getElem?_eq_some_iff.1 hh).1, h1, h2, cur, hh, h3, h4⟩
theorem Rw.of_row {T : TypeId} {w : World} {g cap : Nat} {L : List α} {cur : Array Value} (hh : w.heap[g]? = some (.cells cur T (0, 0))) (h1 : L.length ≤ cap) (h2 : cap ≤ maxLen) (h3 : cur.size = cap * E.k) (h4 : cur.toList.take (L.length * E.k) = E.all L) :
    Rw E T w (some ⟨g, 0, none⟩) cap L := ⟨by rw [E.all_len], .inr ⟨g, cap, cur, rfl, Nat.zero_le _, hh, h1, h2, h3, h4⟩⟩
theorem Rw.empty (T : TypeId) (w : World) : Rw E T w none 0 ([] : List α) := World.ownsRow_nil _ _ _ _
theorem Rw.cap_le {T : TypeId} {w : World} {p : Option Addr} {cap : Nat} {L : List α} (h : Rw E T w p cap L) : L.length ≤ cap := by
  rcases h.shape with ⟨_, rfl, _⟩ | ⟨g, _, _, hc, _⟩
  · exact Nat.zero_le _
  · exact hc
theorem Rw.made (T : TypeId) (w : World) (L : List α) (hl : L.length ≤ maxLen) : Rw E T (w.alloc (.cells (E.all L).toArray T)) (some ⟨w.heap.size, 0, none⟩) L.length L :=
  Rw.of_row (heap_alloc_new _ _) (Nat.le_refl _) hl (by rw [List.size_toArray, E.all_len]) (by rw [List.take_of_length_le (by simp [E.all_len])])
theorem Rw.lt {T : TypeId} {w : World} {a : Addr} {cap : Nat} {L : List α} (h : Rw E T w (some a) cap L) : a.block < w.heap.size := by
  rcases h.shape with ⟨e, _⟩ | ⟨g, e, hl, _⟩
  · cases e
  · cases e; exact hl
theorem Rw.kept {T : TypeId} {w w' : World} {p : Option Addr} {cap : Nat} {L : List α} {S : Nat → Prop} (h : Rw E T w p cap L) (hm : Mod S w w') (hp : ∀ a, p = some a → ¬ S a.block) : Rw E T w' p cap L := by
  rcases h.shape with ⟨rfl, rfl, rfl⟩ | ⟨g, rfl, hl, h1, h2, cur, hh, h3, h4⟩
  · exact Rw.empty _ _
  · exact Rw.of_row ((hm.block g hl (hp _ rfl)).trans hh) h1 h2 h3 h4
theorem Rw.old {T : TypeId} {w w' : World} {p : Option Addr} {cap : Nat} {L : List α} (h : Rw E T w p cap L) (hb : Below w.heap.size w w') : Rw E T w' p cap L :=
  h.kept (Mod.of_below hb) (fun a e hs => by subst e; exact Nat.lt_irrefl _ (Nat.lt_of_lt_of_le h.lt hs))
theorem Rw.rd {T : TypeId} {w : World} {p : Option Addr} {cap : Nat} {L : List α} (h : Rw E T w p cap L) : Rd E w p L := by
  intro j hj
  rcases h.shape with ⟨rfl, rfl, rfl⟩ | ⟨g, rfl, hl, h1, h2, cur, hh, h3, h4⟩
  · simp at hj
  · refine ⟨g, 0, rfl, hl, fun i u hu => ?_⟩
    have hi : i < E.k := by have := (List.getElem?_eq_some_iff.1 hu).1; rwa [E.len] at this
    rw [← E.all_get L j i hj hi, ← h4] at hu
    have hlt : j * E.k + i < L.length * E.k := by
      have := Nat.mul_le_mul_right E.k (show j + 1 ≤ L.length by omega); rw [Nat.add_mul] at this; omega
    rw [List.getElem?_take_of_lt hlt] at hu
    rw [cell_of_row w g _ _ T (0, 0) hh, Nat.zero_add]
    simpa using hu
/-- Behind an append: the slice holds more, in its own block or in a new one. -/
def PushR (E : Enc α) (T : TypeId) (w : World) (p : Option Addr) (B : List α) (q : Option Addr) (cap : Nat) (w' : World) : Prop :=
  Rw E T w' q cap B ∧ Mod (fun i => ∃ a, p = some a ∧ i = a.block) w w' ∧ ∀ a, q = some a → p = some a ∨ w.heap.size ≤ a.block
theorem run_append_no {P : Program} {w : World} (t ty e : TypeId) (i : TypeInfo) (ht : P.underlying t = some (.slice e)) (hi : P.info? e = some i)
    (p : Option Addr) (n cap : Nat) (hle : n ≤ cap) (hn : p = none → n = 0 ∧ cap = 0) (q : Option Addr) (c : Nat) :
    (Builtin.append_ #[t, t] ty #[.slice p n cap, .slice q 0 c]).run P w = .ok (.slice p n cap) w := by
  cases p with
  | some a => cases q <;> simp [Builtin.append_, run_underlying ht, sizeOf, typeInfo, hi, Builtin.lenOf, Builtin.firstCells, hle, storeCells, loadCells, loadCellsFrom]
  | none =>
    obtain ⟨rfl, rfl⟩ := hn rfl
    cases q <;> simp [Builtin.append_, run_underlying ht, sizeOf, typeInfo, hi, Builtin.lenOf, Builtin.firstCells, loadCells, loadCellsFrom]
theorem wpList_pushR {P : Program} {ops : Array Oper} {rest : List Oper} {o : Oper} {a : Act} {Q : Exit → Act → World → Prop} {w : World} (E : Enc α) (hgd : o.guard = none) (s x : Operand) (Ts T : TypeId) (z : Value) (by_ : Nat)
    (ho : o.op = .call { callee := .builtin .append, args := #[s, x], argTypes := #[Ts, Ts] }) (hT : P.underlying Ts = some (.slice T)) (hi : (P.info? T).map (fun i => (i.zero, i.size, i.bytes)) = some (some z, E.k, by_)) (hzs : z.cells.size = E.k) (hby : by_ ≤ 1024)
    (p : Option Addr) (cap n : Nat) (L : List α) (hn : L.length = n) (hs : a.eval s = .slice p n cap) (hS : Rw E T w p cap L) (ao : Option Addr) (m cx : Nat) (Y : List α) (hm : Y.length = m) (hx : a.eval x = .slice ao m cx) (hY : Rd E w ao Y) (hl : n + m ≤ 100000000000)
    (h : ∀ q c w', PushR E T w p (L ++ Y) q c w' → wpList P ops Q rest (a.put o.dst (.slice q (n + m) c)) w') :
    wpList P ops Q (o :: rest) a w := by
  cases hq : P.info? T with
  | none => rw [hq] at hi; cases hi
  | some i =>
    rw [hq] at hi
    simp only [Option.map_some, Option.some.injEq, Prod.mk.injEq] at hi
    obtain ⟨hz, h1, h2⟩ := hi
    subst hn
    subst hm
    have hmul : (L.length + Y.length) * by_ ≤ 140737488355328 := Nat.le_trans (Nat.mul_le_mul hl hby) (by decide)
    by_cases h0 : 0 < Y.length
    · obtain ⟨bs, off, rfl, hbs, _⟩ := hY 0 h0
      refine wpList_append_lies _ hgd s x Ts ho 0 T i z E.k by_ hT hq hz h1 h2 hzs E.pos _ L.length (E.all L) hs hS ⟨bs, off, none⟩ Y.length cx (E.all Y) hx (E.all_len Y) ?_ (E.all_one _) h0 (by unfold maxLen; omega) hmul (Nat.zero_le _) _ rfl ?_
      · intro j u hj
        have hjl : j < Y.length * E.k := by
          have := (List.getElem?_eq_some_iff.1 hj).1
          rwa [E.all_len] at this
        have hd : j / E.k < Y.length := by rw [Nat.div_lt_iff_lt_mul E.pos]; exact hjl
        have hr : j % E.k < E.k := Nat.mod_lt _ E.pos
        have he : j / E.k * E.k + j % E.k = j := by rw [Nat.mul_comm]; exact Nat.div_add_mod j E.k
        obtain ⟨bs', off', e, _, c1⟩ := hY (j / E.k) hd
        cases e
        have hadd : (⟨bs, off, none⟩ : Addr).add j = ⟨bs, off + j, none⟩ := by unfold Addr.add; split <;> simp_all
        rw [← he, E.all_get Y _ _ hd hr] at hj
        have := c1 _ _ hj
        rw [Nat.add_assoc, he] at this
        rw [hadd, this]
      · intro g c w' hown hgrow hat _
        refine h (some ⟨g, 0, none⟩) c w' ⟨?_, ?_, ?_⟩
        · unfold Rw; rw [List.length_append, E.all_app]; exact hown
        · refine (Mod.refl _ w).grown hgrow ?_
          intro j hj _
          cases p with
          | none => simp [Value.ownBlock] at hj
          | some a => simp [Value.ownBlock] at hj; exact ⟨a, rfl, hj.symm⟩
        · rintro a' e; cases e
          rcases hat with hat | hat
          · left
            rcases hS.shape with ⟨rfl, _⟩ | ⟨g', rfl, _⟩
            · simp [Value.ownBlock] at hat
            · simp [Value.ownBlock] at hat; subst hat; rfl
          · right; rw [hat]; exact Nat.le_refl _
    · obtain rfl : Y = [] := List.eq_nil_of_length_eq_zero (by omega)
      refine wpList_plain hgd fun K hK => ?_
      have hfin := h p cap w ⟨by rw [List.append_nil]; exact hS, Mod.refl _ w, fun a e => .inl e⟩
      have hle : L.length ≤ cap := hS.cap_le
      have hno : p = none → L.length = 0 ∧ cap = 0 := by
        intro e
        rcases hS.shape with ⟨_, rfl, hc⟩ | ⟨g', e', _⟩
        · exact ⟨rfl, hc⟩
        · rw [e] at e'; cases e'
      have hrun := run_append_no (P := P) (w := w) Ts o.type T i hT hq p L.length cap hle hno ao cx
      unfold Oper.wp
      simp only [List.length_nil] at hx
      simp [execOp, ho, resolve, invoke, builtin, hs, hx, hrun, Result.andThen]
      simp at hfin
      exact hK _ _ hfin
/-- Elements are gathered in a row of its own. -/
structure AccR (E : Enc α) (T : TypeId) (w : World) (i : Nat) (D : List α) (q : Option Addr) (c : Nat) (wr : World) : Prop where
  s : Rw E T wr q c D
  len : D.length = i
  new : ∀ a, q = some a → w.heap.size ≤ a.block
  m : Below w.heap.size w wr
theorem AccR.zero (E : Enc α) (T : TypeId) (w : World) : AccR E T w 0 [] none 0 w := ⟨Rw.empty _ _, rfl, (fun a e => by cases e), Below.refl _ _⟩
theorem AccR.push {T : TypeId} {w : World} {i : Nat} {D : List α} {q : Option Addr} {c : Nat} {wr w' : World} (h : AccR E T w i D q c wr) {Y : List α} {q' : Option Addr} {c' : Nat} (hP : PushR E T wr q (D ++ Y) q' c' w') : AccR E T w (i + Y.length) (D ++ Y) q' c' w' := by
  obtain ⟨hS, hm, hor⟩ := hP
  refine ⟨hS, by rw [List.length_append, h.len], ?_, h.m.trans (hm.to_below h.m.size (by rintro j hj ⟨a, e, rfl⟩; have := h.new a e; omega))⟩
  intro a e
  rcases hor a e with h1 | h1
  · exact h.new _ h1
  · exact Nat.le_trans h.m.size h1
theorem AccR.below {T : TypeId} {w : World} {i : Nat} {D : List α} {q : Option Addr} {c : Nat} {wr w' : World} (h : AccR E T w i D q c wr) (hb : Below wr.heap.size wr w') : AccR E T w i D q c w' :=
  ⟨h.s.old hb, h.len, h.new, h.m.trans (hb.mono h.m.size)⟩
theorem AccR.take {T : TypeId} {w : World} {i : Nat} {D : List α} {q : Option Addr} {c : Nat} {wr : World} (h : AccR E T w i D q c wr) : Rd E wr q D := h.s.rd
end
/-- Elements that were just laid. -/
theorem Rd.made {α : Type} (E : Enc α) (w : World) (T : TypeId) (L : List α) (hl : L.length ≤ maxLen) : Rd E (w.alloc (.cells (E.all L).toArray T)) (some ⟨w.heap.size, 0, none⟩) L := (Rw.made (E := E) T w L hl).rd

/-- Texts. -/
def encS : Enc (List UInt8) := ⟨fun s => [.string ⟨s.toArray⟩], 1, fun _ => rfl, fun _ v hv => by rw [List.mem_singleton.1 hv]; rfl, Nat.one_pos⟩
/-- Ints. -/
def encI : Enc Int := ⟨fun x => [.int .i64 x], 1, fun _ => rfl, fun _ v hv => by rw [List.mem_singleton.1 hv]; rfl, Nat.one_pos⟩
theorem encS_all (ss : List (List UInt8)) : encS.all ss = ss.map fun s => Value.string ⟨s.toArray⟩ := by
  induction ss with
  | nil => rfl
  | cons a l ih => rw [show encS.all (a :: l) = encS.f a ++ encS.all l from rfl, ih]; rfl
theorem Rd.str {w : World} {ao : Option Addr} {L : List (List UInt8)} (h : Rd encS w ao L) (j : Nat) (hj : j < L.length) : ∃ bs off, ao = some ⟨bs, off, none⟩ ∧ bs < w.heap.size ∧ w.cell? ⟨bs, off + j, none⟩ = some (.string ⟨(L[j]).toArray⟩) := by
  obtain ⟨bs, off, e, hlt, hc⟩ := h j hj
  exact ⟨bs, off, e, hlt, by have := hc 0 _ rfl; simpa [encS] using this⟩
end Go.Proofs.Ytpdhmjmklmoknab

namespace Go.Proofs.Ytpdhmjmklmoknab
open Go

/-- How many of the first n are not listed yet. -/
def unl (L : Array Bool) : Nat → Nat
  | 0 => 0
  | n + 1 => unl L n + (if L.getD n true then 0 else 1)
theorem unl_le (L : Array Bool) : ∀ n, unl L n ≤ n
  | 0 => Nat.le_refl _
  | n + 1 => by have := unl_le L n; simp only [unl]; split <;> omega
theorem set_self (L : Array Bool) (i : Nat) : (L.setIfInBounds i true).getD i true = true := by
  by_cases h : i < L.size
  · simp [h]
  · simp [h]
theorem unl_set (L : Array Bool) (i : Nat) (hi : L.getD i true = false) : ∀ n, unl (L.setIfInBounds i true) n + (if i < n then 1 else 0) = unl L n
  | 0 => rfl
  | n + 1 => by
    have ih := unl_set L i hi n
    simp only [unl]
    by_cases h : n = i
    · subst h
      rw [set_self, hi]
      simp at ih ⊢
      exact ih
    · rw [getD_set_ne true (Ne.symm h)]
      generalize (if L.getD n true = true then 0 else 1) = z
      by_cases h2 : i < n
      · rw [if_pos h2] at ih; rw [if_pos (by omega)]; omega
      · rw [if_neg h2] at ih; rw [if_neg (by omega)]; omega
theorem unl_pos (L : Array Bool) : ∀ n i, i < n → L.getD i true = false → 0 < unl L n
  | n + 1, i, h, hi => by
    simp only [unl]
    by_cases e : i = n
    · subst e; rw [hi]; simp
    · have := unl_pos L n i (by omega) hi; omega

/-- What is in the slots that the operations know: those of the list. -/
def AllV (V : Tmp → Value → World → Prop) (a : Act) (w : World) : List Tmp → Prop
  | [] => True
  | t :: r => V t (a.eval (.tmp t)) w ∧ AllV V a w r
theorem AllV.of {V : Tmp → Value → World → Prop} {a : Act} {w : World} : ∀ {l : List Tmp}, (∀ t ∈ l, V t (a.eval (.tmp t)) w) → AllV V a w l
  | [], _ => trivial
  | t :: r, h => ⟨h t (by simp), AllV.of (fun u hu => h u (by simp [hu]))⟩

/-- The slots whose values an operation waits for. -/
def waits (md : Region.Mode) (ops : Array Oper) (o : Oper) : List Tmp :=
  (o.after.toList.filter (Region.binds md)).filterMap fun e => (ops[e.on]?).bind (·.dst)

structure Agree (ops : Array Oper) (a0 a : Act) : Prop where
  size : a.tmps.size = a0.tmps.size
  defers : a.defers = a0.defers
  same : ∀ t, (∀ (i : Nat) (o : Oper), ops[i]? = some o → o.dst ≠ some t) → a.eval (.tmp t) = a0.eval (.tmp t)

def drawOk (ops : Array Oper) (N : Nat) : Bool :=
  (List.range ops.size).all fun i => match ops[i]? with
    | none => true
    | some o => o.after.all (fun e => decide (e.on < i)) && (match o.dst with
      | none => true
      | some d => decide (d < N) && (List.range ops.size).all fun j => j == i || (match ops[j]? with | some p => p.dst != some d | none => true))

structure DrawOk (ops : Array Oper) (N : Nat) : Prop where
  before : ∀ (i : Nat) (o : Oper), ops[i]? = some o → ∀ e ∈ o.after, e.on < i
  room : ∀ (i : Nat) (o : Oper) (d : Tmp), ops[i]? = some o → o.dst = some d → d < N
  apart : ∀ (i j : Nat) (o p : Oper) (d : Tmp), ops[i]? = some o → ops[j]? = some p → j ≠ i → o.dst = some d → p.dst ≠ some d
theorem drawOk_spec {ops : Array Oper} {N : Nat} (h : drawOk ops N = true) : DrawOk ops N := by
  have key : ∀ (i : Nat) (o : Oper), ops[i]? = some o → o.after.all (fun e => decide (e.on < i)) = true ∧ (match o.dst with
      | none => true
      | some d => decide (d < N) && (List.range ops.size).all fun j => j == i || (match ops[j]? with | some p => p.dst != some d | none => true)) = true := by
    intro i o ho
    have hlt : i < ops.size := (Array.getElem?_eq_some_iff.1 ho).1
    have := List.all_eq_true.1 h i (List.mem_range.2 hlt)
    simp only [ho, Bool.and_eq_true] at this
    exact this
  refine ⟨fun i o ho e he => ?_, fun i o d ho hd => ?_, fun i j o p d ho hp hj hd hpd => ?_⟩
  · have := Array.all_eq_true_iff_forall_mem.1 (key i o ho).1 e he
    exact of_decide_eq_true this
  · have := (key i o ho).2
    rw [hd] at this
    simp only [Bool.and_eq_true] at this
    exact of_decide_eq_true this.1
  · have := (key i o ho).2
    rw [hd] at this
    simp only [Bool.and_eq_true] at this
    have h2 := List.all_eq_true.1 this.2 j (List.mem_range.2 (Array.getElem?_eq_some_iff.1 hp).1)
    simp only [hp, Bool.or_eq_true, beq_iff_eq, hj, false_or, bne_iff_ne, ne_eq] at h2
    exact h2 hpd

/-- What one operation owes. -/
def Owes (P : Program) (md : Region.Mode) (ops : Array Oper) (Q : Exit → Act → World → Prop) (V : Tmp → Value → World → Prop) (G : World → Prop) (a0 : Act) (i : Nat) (o : Oper) : Prop :=
  ∀ a w, Agree ops a0 a → G w → AllV V a w (waits md ops o) →
    wpOp P ops Q i (fun a' w' => ∃ v, a' = a.put o.dst v ∧ (∀ t, o.dst = some t → V t v w') ∧ G w' ∧ ∀ t x, V t x w → V t x w') a w

theorem eval_put_same {a : Act} {d : Tmp} (h : d < a.tmps.size) (v : Value) : (a.put (some d) v).eval (.tmp d) = v := by
  simp [Act.put, Act.eval, h]
theorem size_put (a : Act) (d : Option Tmp) (v : Value) : (a.put d v).tmps.size = a.tmps.size := by
  cases d <;> simp [Act.put]
theorem defers_put (a : Act) (d : Option Tmp) (v : Value) : (a.put d v).defers = a.defers := by
  cases d <;> rfl

section
variable {P : Program} {ops : Array Oper} {Q : Exit → Act → World → Prop} {md : Region.Mode} {V : Tmp → Value → World → Prop} {G : World → Prop} {a0 : Act}

theorem ready_some (hok : DrawOk ops a0.tmps.size) {L : Array Bool} (hL : L.size = ops.size) : ∀ i, i < ops.size → L.getD i true = false → ∃ j, j ∈ Region.ready md ops L := by
  intro i
  induction i using Nat.strongRecOn with
  | ind i ih =>
    intro hi hun
    have ho : ops[i]? = some ops[i] := Array.getElem?_eq_getElem hi
    by_cases h : ∀ e ∈ ops[i].after, Region.binds md e = true → L.getD e.on false = true
    · exact ⟨i, mem_ready.2 ⟨hun, _, ho, h⟩⟩
    · have ⟨e, he⟩ := Classical.not_forall.1 h
      have ⟨he1, he2⟩ := Classical.not_imp.1 he
      have ⟨hb, hf⟩ := Classical.not_imp.1 he2
      have hlt := hok.before i _ ho e he1
      have hel : e.on < L.size := by omega
      refine ih e.on hlt (by omega) ?_
      simp [hel] at hf ⊢
      exact hf

theorem wpAny_vals (hok : DrawOk ops a0.tmps.size) (step : ∀ (i : Nat) (o : Oper), ops[i]? = some o → Owes P md ops Q V G a0 i o)
    (fin : ∀ a w, Agree ops a0 a → G w → (∀ (i : Nat) (o : Oper) (t : Tmp), ops[i]? = some o → o.dst = some t → V t (a.eval (.tmp t)) w) → Q .normal a w) :
    ∀ (fuel : Nat) (L : Array Bool) (a : Act) (w : World), unl L ops.size ≤ fuel → L.size = ops.size → Agree ops a0 a → G w →
      (∀ (i : Nat) (o : Oper) (t : Tmp), ops[i]? = some o → L.getD i true = true → o.dst = some t → V t (a.eval (.tmp t)) w) → wpAny P md ops Q fuel L a w := by
  have allL : ∀ L : Array Bool, L.size = ops.size → Region.ready md ops L = [] → ∀ (i : Nat) (o : Oper), ops[i]? = some o → L.getD i true = true := by
    intro L hL hr i o ho
    cases hc : L.getD i true with
    | true => rfl
    | false =>
      obtain ⟨j, hj⟩ := ready_some (md := md) hok hL i (Array.getElem?_eq_some_iff.1 ho).1 hc
      rw [hr] at hj; cases hj
  intro fuel
  induction fuel with
  | zero =>
    intro L a w hu hL ha hG hv
    have hr : Region.ready md ops L = [] := by
      apply List.eq_nil_iff_forall_not_mem.2
      intro j hj
      obtain ⟨hun, o, ho, _⟩ := mem_ready.1 hj
      have := unl_pos L ops.size j (Array.getElem?_eq_some_iff.1 ho).1 hun
      omega
    exact ⟨hr, fin a w ha hG (fun i o t ho ht => hv i o t ho (allL L hL hr i o ho) ht)⟩
  | succ fuel ih =>
    intro L a w hu hL ha hG hv
    refine ⟨fun hr => fin a w ha hG (fun i o t ho ht => hv i o t ho (allL L hL hr i o ho) ht), fun i hi => ?_⟩
    obtain ⟨hun, o, ho, hall⟩ := mem_ready.1 hi
    have hil : i < ops.size := (Array.getElem?_eq_some_iff.1 ho).1
    have hw : AllV V a w (waits md ops o) := AllV.of (by
      intro t ht
      unfold waits at ht
      obtain ⟨e, he, hd⟩ := List.mem_filterMap.1 ht
      obtain ⟨he1, he2⟩ := List.mem_filter.1 he
      cases hj : ops[e.on]? with
      | none => rw [hj] at hd; cases hd
      | some p =>
        rw [hj] at hd
        have hl := hall e (by simpa using he1) he2
        have hel : e.on < L.size := by rw [hL]; exact (Array.getElem?_eq_some_iff.1 hj).1
        exact hv e.on p t hj (by simp [hel] at hl ⊢; exact hl) hd)
    refine wpOp_mono (fun a' w' h => ?_) (step i o ho a w ha hG hw)
    obtain ⟨v, rfl, hvi, hG', hst⟩ := h
    refine ih _ _ _ ?_ (by simpa using hL) ?_ hG' ?_
    · have := unl_set L i hun ops.size
      rw [if_pos hil] at this; omega
    · refine ⟨by rw [size_put]; exact ha.size, by rw [defers_put]; exact ha.defers, fun t ht => ?_⟩
      rw [Act.eval_put (fun d hd e => ht i o ho (by cases e; exact hd))]
      exact ha.same t ht
    · intro j p t hp hl ht
      by_cases e : j = i
      · subst e
        rw [ho] at hp; cases hp
        rw [ht, eval_put_same (by rw [ha.size]; exact hok.room j o t ho ht)]
        exact hvi t ht
      · rw [Act.eval_put (fun d hd e2 => by cases e2; exact hok.apart i j o p t ho hp e hd ht)]
        rw [getD_set_ne true (Ne.symm e)] at hl
        exact hst _ _ (hv j p t hp hl ht)

/-- The obligations one after the other. -/
def OweAll (P : Program) (md : Region.Mode) (ops : Array Oper) (Q : Exit → Act → World → Prop) (V : Tmp → Value → World → Prop) (G : World → Prop) (a0 : Act) : Nat → List Oper → Prop
  | _, [] => True
  | k, o :: r => Owes P md ops Q V G a0 k o ∧ OweAll P md ops Q V G a0 (k + 1) r
theorem OweAll.get : ∀ {l : List Oper} {k : Nat}, OweAll P md ops Q V G a0 k l → ∀ (i : Nat) (o : Oper), l[i]? = some o → Owes P md ops Q V G a0 (k + i) o
  | _ :: _, k, h, 0, o, hi => by cases hi; exact h.1
  | _ :: r, k, h, i + 1, o, hi => by
    have := OweAll.get h.2 i o (by simpa using hi)
    rwa [show k + 1 + i = k + (i + 1) by omega] at this
  | [], _, _, i, o, hi => by simp at hi
theorem OweAll.cons {k : Nat} {o : Oper} {r : List Oper} (h : Owes P md ops Q V G a0 k o) (h2 : OweAll P md ops Q V G a0 (k + 1) r) : OweAll P md ops Q V G a0 k (o :: r) := ⟨h, h2⟩
theorem OweAll.nil {k : Nat} : OweAll P md ops Q V G a0 k [] := trivial

/-- A region that draws its order. -/
theorem wp_region_vals {id : Nat} {w : World} (V : Tmp → Value → World → Prop) (G : World → Prop) (N : Nat) (hm : P.follows .mixedOrders = true) (hok : drawOk ops N = true) (hN : a0.tmps.size = N) (hG : G w.drew)
    (step : OweAll P .any ops Q V G a0 0 ops.toList)
    (fin : ∀ a w, Agree ops a0 a → G w → (∀ (i : Nat) (o : Oper) (t : Tmp), ops[i]? = some o → o.dst = some t → V t (a.eval (.tmp t)) w) → Q .normal a w) : (Code.region id ops true).wp P Q a0 w := by
  subst hN
  have hok := drawOk_spec hok
  refine wp_region_any hm (wpAny_vals hok (V := V) (G := G) (fun i o ho => ?_) fin ops.size _ a0 _ (unl_le _ _) (by simp) ⟨rfl, rfl, fun _ _ => rfl⟩ hG ?_)
  · have := step.get i o (by simpa using ho)
    rwa [Nat.zero_add] at this
  · intro i o t ho hl _
    have hlt := (Array.getElem?_eq_some_iff.1 ho).1
    simp [hlt] at hl

/-- The slots of the operations. -/
def dsts (ops : Array Oper) : List Tmp := ops.toList.filterMap (·.dst)
def puts (f : Tmp → Value) (l : List Tmp) (b : Act) : Act := l.foldl (fun b t => b.put (some t) (f t)) b
theorem puts_spec (f : Tmp → Value) : ∀ (l : List Tmp) (b : Act), (∀ t ∈ l, t < b.tmps.size) →
    (puts f l b).tmps.size = b.tmps.size ∧ (puts f l b).defers = b.defers ∧ ∀ t, (puts f l b).eval (.tmp t) = if t ∈ l then f t else b.eval (.tmp t)
  | [], b, _ => ⟨rfl, rfl, fun t => by simp [puts]⟩
  | u :: r, b, h => by
    have ih := puts_spec f r (b.put (some u) (f u)) (fun t ht => by rw [size_put]; exact h t (by simp [ht]))
    refine ⟨ih.1.trans (size_put _ _ _), ih.2.1.trans (defers_put _ _ _), fun t => ?_⟩
    have e : puts f (u :: r) b = puts f r (b.put (some u) (f u)) := rfl
    rw [e, ih.2.2 t]
    by_cases h1 : t ∈ r
    · rw [if_pos h1, if_pos (by simp [h1])]
    · rw [if_neg h1]
      by_cases h2 : t = u
      · subst h2; rw [eval_put_same (h t (by simp)), if_pos (by simp)]
      · rw [Act.eval_put (fun d hd e2 => by cases hd; cases e2; exact h2 rfl), if_neg (by simp [h1, h2])]
theorem act_ext {a b : Act} (hs : a.tmps.size = b.tmps.size) (hd : a.defers = b.defers) (h : ∀ t, a.eval (.tmp t) = b.eval (.tmp t)) : a = b := by
  obtain ⟨ta, da⟩ := a
  obtain ⟨tb, db⟩ := b
  have : ta = tb := by
    apply Array.ext hs
    intro i h1 h2
    have := h i
    simpa [Act.eval, h1, h2] using this
  subst this
  cases hd
  rfl
theorem Agree.puts {a : Act} (ha : Agree ops a0 a) (hok : DrawOk ops a0.tmps.size) : a = puts (fun t => a.eval (.tmp t)) (dsts ops) a0 := by
  have hm : ∀ t ∈ dsts ops, ∃ (i : Nat) (o : Oper), ops[i]? = some o ∧ o.dst = some t := by
    intro t ht
    obtain ⟨o, ho, hd⟩ := List.mem_filterMap.1 ht
    obtain ⟨i, hi, e⟩ := List.getElem_of_mem ho
    refine ⟨i, o, ?_, hd⟩
    rw [← e]
    simp at hi
    simp [hi]
  have hp := puts_spec (fun t => a.eval (.tmp t)) (dsts ops) a0 (fun t ht => by obtain ⟨i, o, hi, hd⟩ := hm t ht; exact hok.room i o t hi hd)
  refine act_ext (ha.size.trans hp.1.symm) (ha.defers.trans hp.2.1.symm) (fun t => ?_)
  rw [hp.2.2 t]
  by_cases h : t ∈ dsts ops
  · rw [if_pos h]
  · rw [if_neg h]
    refine ha.same t (fun i o hi hd => h ?_)
    exact List.mem_filterMap.2 ⟨o, by simpa using Array.mem_of_getElem? hi, hd⟩

/-- A region that draws its order, what follows it at a known frame. -/
theorem wp_region_puts {id : Nat} {w : World} (V : Tmp → Value → World → Prop) (G : World → Prop) (N : Nat) (hm : P.follows .mixedOrders = true) (hok : drawOk ops N = true) (hN : a0.tmps.size = N) (hG : G w.drew)
    (step : OweAll P .any ops Q V G a0 0 ops.toList)
    (fin : ∀ f w, G w → (∀ (i : Nat) (o : Oper) (t : Tmp), ops[i]? = some o → o.dst = some t → V t (f t) w) → Q .normal (puts f (dsts ops) a0) w) : (Code.region id ops true).wp P Q a0 w :=
  wp_region_vals V G N hm hok hN hG step (fun a w ha hG hv => by
    subst hN
    rw [ha.puts (drawOk_spec hok)]
    exact fin _ w hG hv)

theorem AllV.get {a : Act} {w : World} : ∀ {l : List Tmp}, AllV V a w l → ∀ t, l.contains t = true → V t (a.eval (.tmp t)) w
  | [], _, t, h => by simp at h
  | u :: r, hh, t, h => by
    by_cases e : t = u
    · subst e; exact hh.1
    · exact AllV.get hh.2 t (by simpa [e] using h)
theorem Agree.outer {a : Act} (h : Agree ops a0 a) (t : Tmp) (ht : ops.all (fun o => o.dst != some t) = true) : a.eval (.tmp t) = a0.eval (.tmp t) := by
  refine h.same t (fun i o ho e => ?_)
  have := Array.all_eq_true_iff_forall_mem.1 ht o (Array.mem_of_getElem? ho)
  rw [e] at this; simp at this
theorem getD_bool {a : Act} {t : Tmp} {b : Bool} (h : a.eval (.tmp t) = .bool b) : a.tmps[t]? = some (.bool b) := by
  unfold Act.eval at h
  cases hc : a.tmps[t]? with
  | none => simp [hc, undef] at h
  | some x => simp [hc] at h; rw [h]
theorem wanted_of {o : Oper} {a : Act} {g : Nat} {want : Bool} {t : Tmp} (hg : o.guard = some (g, want)) (hd : (ops[g]?).bind (·.dst) = some t) (h : a.eval (.tmp t) = .bool want) : Region.wanted o (yielded ops a.tmps) = true := by
  unfold Region.wanted yielded
  rw [hg]
  simp only [hd, Option.bind_some, getD_bool h]
  simp
theorem wanted_free {o : Oper} {a : Act} (hg : o.guard = none) : Region.wanted o (yielded ops a.tmps) = true := by
  unfold Region.wanted; rw [hg]

/-- An operation that yields a value and turns nothing. -/
theorem owes_val {i : Nat} {o : Oper} {t : Tmp} (hi : ops[i]? = some o) (ht : o.dst = some t) (h : ∀ a w, Agree ops a0 a → G w → AllV V a w (waits md ops o) →
    ∃ v, Region.wanted o (yielded ops a.tmps) = true ∧ (execOp a.eval o).run P w = .ok (.value v) w ∧ V t v w) : Owes P md ops Q V G a0 i o := by
  intro a w ha hG hV
  obtain ⟨v, hw, hr, hv⟩ := h a w ha hG hV
  unfold wpOp
  rw [hi]
  simp only [hw, if_true, Oper.wp, hr, Oper.upon]
  exact .inl ⟨v, rfl, fun u hu => by rw [ht] at hu; cases hu; exact hv, hG, fun _ _ h => h⟩
/-- A call. -/
theorem owes_call {i : Nat} {o : Oper} {t : Tmp} (hi : ops[i]? = some o) (ht : o.dst = some t) (f : FuncId) (h : ∀ a w, Agree ops a0 a → G w → AllV V a w (waits md ops o) →
    ∃ args, Region.wanted o (yielded ops a.tmps) = true ∧ (execOp a.eval o).run P w = .ok (.enter f args) w ∧
      Calls P f args w fun e w' => ∃ v, e = .returned v ∧ V t v w' ∧ G w' ∧ ∀ t x, V t x w → V t x w') : Owes P md ops Q V G a0 i o := by
  intro a w ha hG hV
  obtain ⟨args, hw, hr, hc⟩ := h a w ha hG hV
  unfold wpOp
  rw [hi]
  simp only [hw, if_true, Oper.wp, hr, Oper.upon]
  refine .inl (hc.mono ?_)
  rintro e w' ⟨v, rfl, h1, h2, h3⟩
  exact ⟨v, rfl, fun u hu => by rw [ht] at hu; cases hu; exact h1, h2, h3⟩
end
end Go.Proofs.Ytpdhmjmklmoknab

namespace Go.Proofs.Ytpdhmjmklmoknab
open Go.RowKit

/-- What stays where nothing below turns. -/
structure Stays where
  p : Value → World → Prop
  old : ∀ {v : Value} {w w' : World}, p v w → Below w.heap.size w w' → p v w'
inductive Kd where
  | any
  | eq (v : Value)
  | st (s : Stays)
def VK : Kd → Value → World → Prop
  | .any, _, _ => True
  | .eq x, v, _ => v = x
  | .st s, v, w => s.p v w
theorem VK.old {k : Kd} {v : Value} {w w' : World} (h : VK k v w) (hb : Below w.heap.size w w') : VK k v w' := by
  cases k with
  | any => trivial
  | eq x => exact h
  | st s => exact s.old h hb
theorem not_wanted {ops : Array Oper} {o : Oper} {a : Act} {g : Nat} {want : Bool} {t : Tmp} {v : Value} (hg : o.guard = some (g, want)) (hd : (ops[g]?).bind (·.dst) = some t) (h : a.eval (.tmp t) = v) (hv : v ≠ .bool want) : Region.wanted o (yielded ops a.tmps) = false := by
  unfold Region.wanted yielded
  rw [hg]
  simp only [hd, Option.bind_some]
  unfold Act.eval at h
  cases hc : a.tmps[t]? with
  | none => rfl
  | some x =>
    simp [hc] at h
    subst h
    cases x with
    | bool b =>
      simp only [beq_eq_false_iff_ne, ne_eq, Option.some.injEq]
      intro e; exact hv (by rw [e])
    | _ => rfl
section
variable {P : Program} {ops : Array Oper} {Q : Exit → Act → World → Prop} {md : Region.Mode} {K : Tmp → Kd} {W : World} {a0 : Act}
/-- An operation that is not wanted. -/
theorem owesK_not {i : Nat} {o : Oper} {t : Tmp} (hi : ops[i]? = some o) (ht : o.dst = some t)
    (h : ∀ a w, Agree ops a0 a → Below W.heap.size W w → AllV (fun t v w => VK (K t) v w) a w (waits md ops o) → Region.wanted o (yielded ops a.tmps) = false ∧ VK (K t) undef w) : Owes P md ops Q (fun t v w => VK (K t) v w) (fun w => Below W.heap.size W w) a0 i o := by
  intro a w ha hG hV
  obtain ⟨hw, hv⟩ := h a w ha hG hV
  unfold wpOp
  rw [hi]
  simp only [hw]
  exact ⟨undef, rfl, fun u hu => by rw [ht] at hu; cases hu; exact hv, hG, fun _ _ h => h⟩
/-- An operation that yields a value, and may make memory. -/
theorem owesK {i : Nat} {o : Oper} {t : Tmp} (hi : ops[i]? = some o) (ht : o.dst = some t) (h : ∀ a w, Agree ops a0 a → Below W.heap.size W w → AllV (fun t v w => VK (K t) v w) a w (waits md ops o) →
    ∃ v w', Region.wanted o (yielded ops a.tmps) = true ∧ (execOp a.eval o).run P w = .ok (.value v) w' ∧ Below w.heap.size w w' ∧ VK (K t) v w') : Owes P md ops Q (fun t v w => VK (K t) v w) (fun w => Below W.heap.size W w) a0 i o := by
  intro a w ha hG hV
  obtain ⟨v, w', hw, hr, hb, hv⟩ := h a w ha hG hV
  unfold wpOp
  rw [hi]
  simp only [hw, if_true, Oper.wp, hr, Oper.upon]
  exact .inl ⟨v, rfl, fun u hu => by rw [ht] at hu; cases hu; exact hv, hG.trans (hb.mono hG.size), fun _ _ h => VK.old h hb⟩
/-- A call. -/
theorem owesK_call {i : Nat} {o : Oper} {t : Tmp} (hi : ops[i]? = some o) (ht : o.dst = some t) (f : FuncId) (h : ∀ a w, Agree ops a0 a → Below W.heap.size W w → AllV (fun t v w => VK (K t) v w) a w (waits md ops o) →
    ∃ args, Region.wanted o (yielded ops a.tmps) = true ∧ (execOp a.eval o).run P w = .ok (.enter f args) w ∧
      Calls P f args w fun e w' => ∃ v, e = .returned v ∧ VK (K t) v w' ∧ Below w.heap.size w w') : Owes P md ops Q (fun t v w => VK (K t) v w) (fun w => Below W.heap.size W w) a0 i o := by
  intro a w ha hG hV
  obtain ⟨args, hw, hr, hc⟩ := h a w ha hG hV
  unfold wpOp
  rw [hi]
  simp only [hw, if_true, Oper.wp, hr, Oper.upon]
  refine .inl (hc.mono ?_)
  rintro e w' ⟨v, rfl, h1, hb⟩
  exact ⟨v, rfl, fun u hu => by rw [ht] at hu; cases hu; exact h1, hG.trans (hb.mono hG.size), fun _ _ h => VK.old h hb⟩
end
end Go.Proofs.Ytpdhmjmklmoknab

namespace Go.Proofs.Ytpdhmjmklmoknab
open Go.RowKit Go.Sort

instance : Inhabited Cm := ⟨.none⟩
def encC : Enc Cm := ⟨fun c => [cmV c], 1, fun _ => rfl, fun c v hv => by rw [List.mem_singleton.1 hv]; cases c <;> rfl, Nat.one_pos⟩
theorem cmV_one : OneCell cmV := fun c => by cases c <;> rfl
theorem encC_all (L : List Cm) : encC.all L = L.map cmV := by
  induction L with
  | nil => rfl
  | cons a l ih => rw [List.map_cons, ← ih]; rfl
theorem info_cm : (Try.prog.info? 39).map (fun i => (i.zero, i.size, i.bytes)) = some (some .nilIface, 1, 16) := by kernel_rfl
theorem Rw.holdsC {T : TypeId} {w : World} {g c : Nat} {L : List Cm} (h : Rw encC T w (some ⟨g, 0, none⟩) c L) : Go.Sort.Holds cmV w g 0 L.toArray := by
  rcases h.shape with ⟨e, _⟩ | ⟨g', e, hl, h1, h2, cur, hh, h3, h4⟩
  · cases e
  simp only [Option.some.injEq, Addr.mk.injEq] at e
  obtain ⟨rfl, _⟩ := e
  intro j hj
  have hj2 : j < L.length := by simpa using hj
  refine ⟨?_, frozen_of_row w g _ _ T hh⟩
  rw [cell_of_row w g _ _ T (0, 0) hh, Nat.zero_add, ← Array.getElem?_toList]
  have e2 : (cur.toList.take (L.length * encC.k))[j]? = some (cmV L[j]) := by rw [h4, encC_all]; simp [hj2]
  rw [List.getElem?_take_of_lt (by simp [encC]; omega)] at e2
  rw [e2]
  simp [hj2]
/-- A row whose cells were laid anew; the first of them are said. -/
theorem Rw.putC {T : TypeId} {w : World} {g c : Nat} {L : List Cm} (h : Rw encC T w (some ⟨g, 0, none⟩) c L) (d Z : List Cm) (hd : d.length + Z.length = L.length) (m : Nat) :
    Rw encC T (putRow cmV (Sort.ahead w m) g 0 (d ++ Z).toArray) (some ⟨g, 0, none⟩) c d ∧ Mod (fun i => i = g) w (putRow cmV (Sort.ahead w m) g 0 (d ++ Z).toArray) := by
  rcases h.shape with ⟨e, _⟩ | ⟨g', e, hl, h1, h2, cur, hh, h3, h4⟩
  · cases e
  simp only [Option.some.injEq, Addr.mk.injEq] at e
  obtain ⟨rfl, _⟩ := e
  have eh : (putRow cmV (Sort.ahead w m) g 0 (d ++ Z).toArray).heap = w.heap.modify g (onCells (putCells cmV 0 (d ++ Z).toArray)) := rfl
  have hk : ∀ k : Nat, (putRow cmV (Sort.ahead w m) g 0 (d ++ Z).toArray).heap[k]? = if g = k then some (.cells (putCells cmV 0 (d ++ Z).toArray cur) T (0, 0)) else w.heap[k]? := by
    intro k
    rw [eh, Array.getElem?_modify]
    by_cases e1 : g = k
    · subst e1; rw [if_pos rfl, if_pos rfl, hh]; rfl
    · rw [if_neg e1, if_neg e1]
  have hsz : w.heap.size ≤ (putRow cmV (Sort.ahead w m) g 0 (d ++ Z).toArray).heap.size := by
    rw [eh, Array.size_modify]; omega
  refine ⟨Rw.of_row (by rw [hk g, if_pos rfl]) (by omega) h2 (by rw [← h3]; simp [putCells]) ?_, rfl, rfl, rfl, hsz, fun k hk1 hn => by rw [hk k, if_neg (fun e => hn e.symm)]⟩
  rw [encC_all]
  have hcl : L.length ≤ cur.size := by rw [h3]; simpa [encC] using h1
  apply List.ext_getElem?
  intro t
  by_cases ht : t < d.length
  · rw [List.getElem?_take_of_lt (by simpa [encC] using ht), Array.getElem?_toList]
    have htc : t < cur.size := by omega
    have hta : t < d.length + Z.length := by omega
    simp [putCells, htc, ht, hta]
  · rw [List.getElem?_eq_none (by rw [List.length_take]; exact Nat.le_trans (Nat.min_le_left _ _) (by simpa [encC] using ht)), List.getElem?_eq_none (by simpa using ht)]
theorem er_split (L : List Cm) (i : Nat) (hi : i < L.length) : L.eraseIdx i = L.take i ++ L.drop (i + 1) := List.eraseIdx_eq_take_drop_succ L i
/-- slices.Delete of one command. -/
theorem delete_any {w : World} {p : Option Addr} {c : Nat} {L : List Cm} (h : Rw encC 39 w p c L) (i : Nat) (hi : i < L.length) (n : Nat) (hn : n = L.length) (j : Int) (hj : j = (i : Int) + 1) :
    Calls Try.prog 17 #[.slice p n c, .int .i64 i, .int .i64 j] w fun r w' => r = .returned (.slice p (n - 1) c) ∧ Rw encC 39 w' p c (L.eraseIdx i) ∧ Mod (fun k => ∃ a, p = some a ∧ k = a.block) w w' := by
  subst hn hj
  rcases h.shape with ⟨rfl, rfl, rfl⟩ | ⟨g, rfl, hl, h1, h2, _⟩
  · cases hi
  obtain ⟨i0, hi0, hz1⟩ : ∃ i0, Try.prog.info? 39 = some i0 ∧ i0.size = 1 := by
    have := info_cm
    cases hq : Try.prog.info? 39 with
    | none => rw [hq] at this; cases this
    | some i =>
      rw [hq] at this
      simp only [Option.map_some, Option.some.injEq, Prod.mk.injEq] at this
      exact ⟨i, rfl, this.2.1⟩
  have hs := AnyE.slices_Delete Try.delCm cmV cmV_one Cm.none Try.zeroValue39 i0 hi0 hz1 g 0 c i (i + 1) L.toArray w h.holdsC (by simpa using h1) h2 (by omega) (by rw [List.size_toArray]; omega)
  have e : (((i + 1 : Nat)) : Int) = (i : Int) + 1 := by omega
  rw [e] at hs
  refine Calls.mono (show Calls Try.prog 17 #[.slice (some ⟨g, 0, none⟩) L.length c, .int .i64 i, .int .i64 ((i : Int) + 1)] w _ from hs) ?_
  rintro r w' ⟨rfl, q, rfl⟩
  have h5 := h.putC (L.eraseIdx i) (List.replicate (i + 1 - i) Cm.none) (by rw [List.length_eraseIdx_of_lt hi, List.length_replicate]; omega) q
  rw [er_split L i hi] at h5
  refine ⟨by simp, ?_, ?_⟩
  · rw [er_split L i hi]; exact h5.1
  · exact h5.2.mono (fun k _ e => ⟨_, rfl, e⟩)
end Go.Proofs.Ytpdhmjmklmoknab

namespace Go.Proofs.Ytpdhmjmklmoknab
open Go.RowKit

theorem heap_setCells_at (g : Nat) (e : TypeId) : ∀ (vs : List Value) (o : Nat) (w : World) (cur : Array Value), w.heap[g]? = some (.cells cur e (0, 0)) → o + vs.length ≤ cur.size →
    (w.setCells g o vs).heap[g]? = some (.cells (cur.toList.take o ++ vs ++ cur.toList.drop (o + vs.length)).toArray e (0, 0))
  | [], o, w, cur, h, _ => by simp [World.setCells, h]
  | v :: vs, o, w, cur, h, hf => by
    simp only [List.length_cons] at hf
    have h1 := heap_setCell_same w g o cur e v h
    have ih := heap_setCells_at g e vs (o + 1) (w.setCell ⟨g, o, none⟩ v) (cur.setIfInBounds o v) h1 (by simp; omega)
    rw [World.setCells, ih]
    congr 3
    rw [Array.toList_setIfInBounds]
    have hl : o < cur.toList.length := by simp; omega
    rw [List.take_succ_eq_append_getElem (by simpa using hl)]
    simp only [List.getElem_set_self, List.take_set_of_le (Nat.le_refl o), List.drop_set_of_lt (show o < o + 1 + vs.length by omega), List.length_cons, List.append_assoc, List.cons_append, List.nil_append]
    rw [show o + (vs.length + 1) = o + 1 + vs.length by omega]

theorem grownBy_setCells (g : Nat) (vs : List Value) : ∀ (o : Nat) (w : World), w.grownBy (w.setCells g o vs) (some g) := by
  induction vs with
  | nil => intro o w; exact ⟨rfl, rfl, rfl, Nat.le_refl _, fun _ _ _ => rfl⟩
  | cons v vs ih =>
    intro o w
    have h := ih (o + 1) (w.setCell ⟨g, o, none⟩ v)
    refine ⟨h.os, h.tape, h.output, ?_, fun k hk hne => ?_⟩
    · exact Nat.le_trans (show w.heap.size ≤ (w.setCell ⟨g, o, none⟩ v).heap.size by simp [World.setCell]) h.size
    · refine (h.block k (by simpa [World.setCell] using hk) hne).trans ?_
      exact heap_setCell_other w ⟨g, o, none⟩ k v (fun e => hne (by simp [e]))

theorem run_append_src {P : Program} (w : World) (t tx ty e : TypeId) (i : TypeInfo) (z : Value) (size bytes : Nat) (ht : P.underlying t = some (.slice e)) (hi : P.info? e = some i) (hz : i.zero = some z)
    (hsize : i.size = size) (hby : i.bytes = bytes) (hzs : z.cells.size = size)
    (v : Value) (n : Nat) (xs : List Value) (hown : w.ownsRow 0 e size v n xs) (x : Value) (m : Nat) (news : List Value) (hs : Src P size tx x m news w)
    (h63 : n + m ≤ maxLen) (hbytes : (n + m) * bytes ≤ 140737488355328) :
    ∃ v' w', (Builtin.append_ #[t, tx] ty #[v, x]).run P w = .ok v' w' ∧ w'.ownsRow 0 e size v' (n + m) (xs ++ news) ∧ w.grownBy w' v.ownBlock ∧
      (v'.ownBlock = v.ownBlock ∨ v'.ownBlock = some w.heap.size) := by
  subst hsize
  subst hby
  have hlen : (xs ++ news).length = (n + m) * i.size := by rw [List.length_append, hown.1, hs.newsLen, Nat.add_mul]
  have h63i : ((n + m : Nat) : Int) ≤ 9223372036854775807 := by simp only [maxLen] at h63; omega
  have grown : ∀ (old : Nat), old < n + m → ∀ (row : Option Nat),
      (w.drew.alloc (.cells ((xs ++ news).toArray ++ Builtin.zeroCells z.cells (grownCap w (n + m) old e - (n + m))) e)).ownsRow 0 e i.size
        (.slice (some ⟨w.heap.size, 0, none⟩) (n + m) (grownCap w (n + m) old e)) (n + m) (xs ++ news) ∧
      w.grownBy (w.drew.alloc (.cells ((xs ++ news).toArray ++ Builtin.zeroCells z.cells (grownCap w (n + m) old e - (n + m))) e)) row := by
    intro old ho row
    have hge := grownCap_ge w (n + m) old e
    have hcm := grownCap_le_maxLen w (n + m) old e h63
    refine ⟨⟨hlen, .inr ⟨w.heap.size, _, _, rfl, Nat.zero_le _, heap_alloc_new w.drew _, hge, hcm, ?_, ?_⟩⟩, ⟨rfl, rfl, rfl, by simp, fun k hk _ => heap_alloc_old w.drew _ hk⟩⟩
    · rw [Array.size_append, List.size_toArray, hlen, size_zeroCells, hzs, ← Nat.add_mul]
      congr 1
      omega
    · rw [Array.toList_append, ← hlen]
      exact List.take_left
  rcases hown.2 with ⟨rfl, rfl⟩ | ⟨g, cap, cur, rfl, hbg, hg, hnc, hcm, hcs, htake⟩
  · have hx : xs = [] := List.eq_nil_of_length_eq_zero (by simpa using hown.1)
    subst hx
    by_cases hm : m = 0
    · subst hm
      have hn : news = [] := List.eq_nil_of_length_eq_zero (by simpa using hs.newsLen)
      subst hn
      refine ⟨.slice none 0 0, w, ?_, World.ownsRow_nil w 0 e i.size, ⟨rfl, rfl, rfl, Nat.le_refl _, fun _ _ _ => rfl⟩, .inl rfl⟩
      rcases hs.kind with ⟨e', hk⟩ | hk <;> simp [Builtin.append_, run_underlying ht, run_underlying hk, sizeOf, typeInfo, hi, hs.len, hs.cells]
    · have hr := run_append_grow_src (P := P) w t tx ty e i z ht hi hz none 0 0 [] (run_firstCells_none _ _ _ _ _) x m news hs (by omega) h63i (growslice_fits (by omega) hbytes)
      have hgr := grown 0 (by omega) (Value.ownBlock (.slice none 0 0))
      simp only [Nat.zero_add, List.nil_append] at hr hgr ⊢
      exact ⟨_, _, hr, hgr.1, hgr.2, .inr rfl⟩
  · have hcell : ∀ j, j < cap * i.size → w.cell? ⟨g, j, none⟩ = cur[j]? := fun j _ => cell_of_row w g j cur e (0, 0) hg
    by_cases hroom : n + m ≤ cap
    · have hfit : n * i.size + news.length ≤ cur.size := by rw [hs.newsLen, hcs, ← Nat.add_mul]; exact Nat.mul_le_mul_right _ hroom
      have hr := run_append_room_src (P := P) w t tx ty e i ht hi g 0 n cap x m news hs hroom
        (fun j hj => by rw [Nat.zero_add, cell_of_row w g _ cur e (0, 0) hg, Array.getElem?_eq_getElem (show n * i.size + j < cur.size by omega)]; rfl)
        (fun j _ => frozen_of_row w g _ cur e hg)
      rw [Nat.zero_add] at hr
      refine ⟨_, _, hr, ⟨hlen, .inr ⟨g, cap, _, rfl, hbg, heap_setCells_at g e news (n * i.size) w cur hg hfit, hroom, hcm, ?_, ?_⟩⟩, grownBy_setCells g news _ w, .inl rfl⟩
      · simp only [List.size_toArray, List.length_append, List.length_take, List.length_drop, Array.length_toList]
        omega
      · rw [htake, ← hlen]
        exact List.take_left
    · have hf := run_firstCells_some (P := P) w.drew i.size n ⟨g, 0, none⟩ n cap xs hown.1 (by simpa using hown.cells (g := g) rfl)
      have hr := run_append_grow_src (P := P) w t tx ty e i z ht hi hz (some ⟨g, 0, none⟩) n cap xs hf x m news hs (by omega) h63i (growslice_fits (by omega) hbytes)
      have hgr := grown cap (by omega) (Value.ownBlock (.slice (some ⟨g, 0, none⟩) n cap))
      exact ⟨_, _, hr, hgr.1, hgr.2, .inr rfl⟩

theorem wp_append_src {P : Program} {w : World} {o : Oper} {a : Act} {K : Act → World → Prop} {Q : Exit → Act → World → Prop} (s x : Operand) (t tx : TypeId)
    (ho : o.op = .call { callee := .builtin .append, args := #[s, x], argTypes := #[t, tx] })
    (e : TypeId) (i : TypeInfo) (z : Value) (size bytes : Nat) (ht : P.underlying t = some (.slice e)) (hi : P.info? e = some i) (hz : i.zero = some z)
    (hsize : i.size = size) (hby : i.bytes = bytes) (hzs : z.cells.size = size)
    (v : Value) (n : Nat) (xs : List Value) (hs : a.eval s = v) (hown : w.ownsRow 0 e size v n xs) (xv : Value) (m : Nat) (news : List Value) (hx : a.eval x = xv) (hsrc : Src P size tx xv m news w)
    (h63 : n + m ≤ maxLen) (hbytes : (n + m) * bytes ≤ 140737488355328)
    (h : ∀ v' w', w'.ownsRow 0 e size v' (n + m) (xs ++ news) → w.grownBy w' v.ownBlock → (v'.ownBlock = v.ownBlock ∨ v'.ownBlock = some w.heap.size) → K (a.put o.dst v') w') : o.wp P a w K Q := by
  obtain ⟨v', w', hr, h2, h3, h4⟩ := run_append_src (P := P) w t tx o.type e i z size bytes ht hi hz hsize hby hzs v n xs hown xv m news hsrc h63 hbytes
  unfold Oper.wp execOp
  simp only [ho, resolve, invoke, builtin, Sem.run_bind, Sem.run_pure, Result.andThen_ok, List.map_toArray, List.map_cons, List.map_nil, hs, hx, hr]
  exact h v' w' h2 h3 h4

theorem wpList_append_src {P : Program} {w : World} {ops : Array Oper} {rest : List Oper} {o : Oper} {a : Act} {Q : Exit → Act → World → Prop} (hgd : o.guard = none) (s x : Operand) (t tx : TypeId)
    (ho : o.op = .call { callee := .builtin .append, args := #[s, x], argTypes := #[t, tx] })
    (e : TypeId) (i : TypeInfo) (z : Value) (size bytes : Nat) (ht : P.underlying t = some (.slice e)) (hi : P.info? e = some i) (hz : i.zero = some z)
    (hsize : i.size = size) (hby : i.bytes = bytes) (hzs : z.cells.size = size)
    (v : Value) (n : Nat) (xs : List Value) (hs : a.eval s = v) (hown : w.ownsRow 0 e size v n xs) (xv : Value) (m : Nat) (news : List Value) (hx : a.eval x = xv) (hsrc : Src P size tx xv m news w)
    (h63 : n + m ≤ maxLen) (hbytes : (n + m) * bytes ≤ 140737488355328)
    (h : ∀ v' w', w'.ownsRow 0 e size v' (n + m) (xs ++ news) → w.grownBy w' v.ownBlock → (v'.ownBlock = v.ownBlock ∨ v'.ownBlock = some w.heap.size) → wpList P ops Q rest (a.put o.dst v') w') : wpList P ops Q (o :: rest) a w :=
  wpList_plain hgd fun _ hK => wp_append_src s x t tx ho e i z size bytes ht hi hz hsize hby hzs v n xs hs hown xv m news hx hsrc h63 hbytes fun v' w' h2 h3 h4 => hK _ _ (h v' w' h2 h3 h4)

end Go.Proofs.Ytpdhmjmklmoknab

namespace Go.Proofs.Ytpdhmjmklmoknab
open Go.RowKit Go.Sort

theorem build_one {α : Type} {P : Program} {o : Oper} {a : Act} {w : World} (E : Enc α) (Ts T : TypeId) (z : Value) (by_ : Nat) (hT : P.underlying Ts = some (.slice T)) (hi : (P.info? T).map (fun i => (i.zero, i.size, i.bytes)) = some (some z, E.k, by_)) (hk : E.k ≤ 1000)
    (x : Operand) (ho : o.op = .buildSlice Ts 1 #[(0, x)]) (y : α) (v : Value) (hv : v.cells = (E.f y).toArray) (hx : a.eval x = v) :
    (execOp a.eval o).run P w = .ok (.value (.slice (some ⟨w.heap.size, 0, none⟩) 1 1)) (w.alloc (.cells (E.f y).toArray T)) := by
  cases hq : P.info? T with
  | none => rw [hq] at hi; cases hi
  | some i =>
    rw [hq] at hi
    simp only [Option.map_some, Option.some.injEq, Prod.mk.injEq] at hi
    obtain ⟨hz, h1, _⟩ := hi
    have hpos := E.pos
    have hf := Great.fill_whole (s := E.k) E.pos [v] ((Array.range (1 * E.k)).map (z.cells[· % z.cells.size]!)) (by intro u hu; rw [List.mem_singleton.1 hu, hv, List.size_toArray, E.len]) (by simp)
    have hb := run_buildSlice (P := P) w Ts T 1 #[(0, v)] (E.f y).toArray i z hT hq hz (by rw [h1]; omega) (by rw [h1]; omega) (by
      rw [h1]
      refine hf.trans ?_
      simp [hv])
    unfold execOp
    simp only [ho, List.map_toArray, List.map_cons, List.map_nil, hx, Sem.run_bind, hb, Result.andThen_ok, Sem.run_pure]
theorem place_any (p : Int) (n : Nat) (hp : -9223372036854775808 ≤ p) (hp2 : p ≤ 9223372036854775807) (h0 : 0 < n) (hn : n ≤ 1000000) (w : World) :
    Calls Try.prog 16 #[.int .i64 p, .int .i64 n] w fun r w' => r = .returned (.int .i64 (plO p n)) ∧ w = w' := by
  obtain ⟨h1, h2, h3⟩ := plO_go p h0
  have h4 := plO_lt p h0
  have h4 := plO_lt p h0
  have e2 : wrap64 (Int.tmod p n + n) = Int.tmod p n + n := by unfold wrap64; omega
  have e0 : ((n : Int) == 0) = false := by rw [beq_eq_false_iff_ne]; omega
  have e00 : (n : Int) ≠ 0 := by omega
  have H1 : Hid ((Int.tmod p n + n) % (n : Int) = (plO p n : Int)) := Lib.hid ((Int.tmod_eq_emod_of_nonneg (show 0 ≤ Int.tmod p n + n by omega)).symm.trans h1)
  clear h1 h4
  go_enter Try.func16, Try.ntmps16
  go_wp2_with fail
  go_ret
  rw [← H1.out]
  exact ⟨rfl, rfl⟩
set_option maxRecDepth 20000 in
theorem cmclone_any {w : World} {p : Option Addr} {c : Nat} {L : List Cm} (h : Rw encC 39 w p c L) (hn : L.length ≤ 1000000) :
    Calls Try.prog 15 #[.slice p L.length c] w fun r w' => ∃ q c', r = .returned (.slice q L.length c') ∧ Rw encC 39 w' q c' L ∧ (∀ a, q = some a → w.heap.size ≤ a.block) ∧ Below w.heap.size w w' := by
  have hm : Rw encC 39 (w.alloc (.cells #[] 39)) (some ⟨w.heap.size, 0, none⟩) 0 ([] : List Cm) := Rw.made (E := encC) 39 w [] (by simp [maxLen])
  have hr := h.rd.old ((Below.refl _ w).alloc (Nat.le_refl _) (.cells #[] 39))
  rcases h.shape with ⟨rfl, rfl, rfl⟩ | ⟨g, rfl, hl, h1, h2, _⟩
  · have he := Go.Lib.run_eql_slice_nil_nil (P := Try.prog) w (t := 25) 0 0 Try.underlying25
    clear h hm hr
    simp only [List.length_nil]
    go_enter Try.func15, Try.ntmps15
    go_wp2_with fail
    go_ret
    exact ⟨none, 0, rfl, Rw.empty _ _, (fun a e => by cases e), Below.refl _ _⟩
  · have he := Go.Lib.run_eql_slice_some_nil (P := Try.prog) w (t := 25) ⟨g, 0, none⟩ L.length c Try.underlying25
    have HM := Lib.hid hm
    have HR := Lib.hid hr
    have HN := Lib.hid hn
    obtain ⟨n, hn'⟩ : ∃ n, n = L.length := ⟨_, rfl⟩
    have HNN := Lib.hid hn'
    rw [← hn'] at he ⊢
    clear h hm hr hl h1 h2 hn hn'
    go_enter Try.func15, Try.ntmps15
    go_wp2_with (refine wpList_pushR encC rfl (.tmp 5) (.tmp 6) 25 39 .nilIface 16 rfl Try.underlying25 info_cm rfl (by decide) (some ⟨w.heap.size, 0, none⟩) 0 0 [] rfl rfl HM.out (some ⟨g, 0, none⟩) n c L HNN.out.symm rfl HR.out (by have := HN.out; have := HNN.out; omega) ?_; intro q2 c2 w4 hP4; have HP4 := Lib.hid hP4; clear hP4)
    go_ret
    obtain ⟨hR, hm, ho⟩ := HP4.out
    have hs : (w.alloc (.cells #[] 39)).heap.size = w.heap.size + 1 := by simp
    refine ⟨q2, c2, ?_, hR, fun a e => ?_, ?_⟩
    · simp
    · rcases ho a e with h | h
      · cases h; exact Nat.le_refl _
      · rw [hs] at h; omega
    · exact ((Below.refl _ w).alloc (Nat.le_refl _) _).trans (hm.to_below (by rw [hs]; omega) (by rintro k hk ⟨a, e, rfl⟩; cases e; exact Nat.lt_irrefl _ hk))
end Go.Proofs.Ytpdhmjmklmoknab

namespace Go.Proofs.Ytpdhmjmklmoknab
open Go.RowKit Go.Sort

/-- While commands are shuffled: what is picked (D), what is left (E). -/
structure ShR (w wr : World) (L : List Cm) (M : List Int) (k : Nat) (D E : List Cm) (p5 : Option Addr) (c5 : Nat) (p6 : Option Addr) (c6 : Nat) : Prop where
  r5 : Rw encC 39 wr p5 c5 E
  r6 : Rw encC 39 wr p6 c6 D
  a5 : ∀ a, p5 = some a → w.heap.size ≤ a.block
  a6 : ∀ a, p6 = some a → w.heap.size ≤ a.block
  ap : ∀ a b, p5 = some a → p6 = some b → a.block ≠ b.block
  m : Below w.heap.size w wr
  eq : shO L M = D ++ shO E (M.drop k)
theorem ShR.old {w wr : World} {L : List Cm} {M : List Int} {k : Nat} {D E : List Cm} {p5 : Option Addr} {c5 : Nat} {p6 : Option Addr} {c6 : Nat} (h : ShR w wr L M k D E p5 c5 p6 c6) {W : World} (hb : Below wr.heap.size wr W) : ShR w W L M k D E p5 c5 p6 c6 :=
  ⟨h.r5.old hb, h.r6.old hb, h.a5, h.a6, h.ap, h.m.trans (hb.mono h.m.size), h.eq⟩
/-- One picked more, still left, too. -/
theorem ShR.push {w wr : World} {L : List Cm} {M : List Int} {k : Nat} {D E : List Cm} {p5 : Option Addr} {c5 : Nat} {p6 : Option Addr} {c6 : Nat} (h : ShR w wr L M k D E p5 c5 p6 c6) {x : Cm} {q : Option Addr} {c : Nat} {W : World} (hP : PushR encC 39 wr p6 (D ++ [x]) q c W) :
    Rw encC 39 W p5 c5 E ∧ Rw encC 39 W q c (D ++ [x]) ∧ (∀ a, q = some a → w.heap.size ≤ a.block) ∧ (∀ a b, p5 = some a → q = some b → a.block ≠ b.block) ∧ Below w.heap.size w W := by
  obtain ⟨h1, h2, h3⟩ := hP
  refine ⟨h.r5.kept h2 ?_, h1, ?_, ?_, ?_⟩
  · rintro a e ⟨b, e2, e3⟩; exact h.ap a b e e2 e3
  · intro a e
    rcases h3 a e with e2 | e2
    · exact h.a6 a e2
    · exact Nat.le_trans h.m.size e2
  · intro a b e e2
    rcases h3 b e2 with e3 | e3
    · exact h.ap a b e e3
    · intro e4
      subst e
      have := h.r5.lt
      omega
  · exact h.m.trans (h2.to_below h.m.size (by rintro k hk ⟨a, e, rfl⟩; exact Nat.not_le.2 hk (h.a6 a e)))
/-- The one that was picked is taken out of what is left. -/
theorem ShR.del {w wr W : World} {L : List Cm} {M : List Int} {k : Nat} {D E : List Cm} {p5 : Option Addr} {c5 : Nat} {p6 : Option Addr} {c6 : Nat} {x : Cm} {i : Nat} (h5 : Rw encC 39 wr p5 c5 E) (h6 : Rw encC 39 wr p6 c6 (D ++ [x])) (a5 : ∀ a, p5 = some a → w.heap.size ≤ a.block) (a6 : ∀ a, p6 = some a → w.heap.size ≤ a.block) (ap : ∀ a b, p5 = some a → p6 = some b → a.block ≠ b.block) (m : Below w.heap.size w wr)
    (hd : Rw encC 39 W p5 c5 (E.eraseIdx i)) (hm : Mod (fun k => ∃ a, p5 = some a ∧ k = a.block) wr W) (heq : shO L M = D ++ (x :: shO (E.eraseIdx i) (M.drop (k + 1)))) : ShR w W L M (k + 1) (D ++ [x]) (E.eraseIdx i) p5 c5 p6 c6 :=
  ⟨hd, h6.kept hm (by rintro b e2 ⟨a, e, e3⟩; exact ap a b e e2 e3.symm), a5, a6, ap, m.trans (hm.to_below m.size (by rintro k hk ⟨a, e, rfl⟩; exact Nat.not_le.2 hk (a5 a e))), by rw [heq, List.append_assoc]; rfl⟩
theorem rd_int {w : World} {ao : Option Addr} {L : List Int} (h : Rd encI w ao L) {j : Nat} (hj : j < L.length) : ∃ bs off, ao = some ⟨bs, off, none⟩ ∧ w.cell? ⟨bs, off + j, none⟩ = some (.int .i64 L[j]) := by
  obtain ⟨bs, off, e, _, hc⟩ := h j hj
  exact ⟨bs, off, e, by have := hc 0 _ rfl; simpa [encI] using this⟩
theorem rw_cm {w : World} {p : Option Addr} {c : Nat} {L : List Cm} (h : Rw encC 39 w p c L) {j : Nat} (hj : j < L.length) : ∃ g, p = some ⟨g, 0, none⟩ ∧ w.cell? ⟨g, j, none⟩ = some (cmV L[j]) := by
  rcases h.shape with ⟨_, rfl, _⟩ | ⟨g, e, _⟩
  · cases hj
  obtain ⟨bs, off, e2, _, hc⟩ := h.rd j hj
  rw [e] at e2
  cases e2
  exact ⟨g, e, by have := hc 0 _ rfl; simpa [encC] using this⟩
theorem cmV_shape (y : Cm) : cmV y = .nilIface ∨ ∃ T v, cmV y = .iface T v := by cases y <;> first | exact .inl rfl | exact .inr ⟨_, _, rfl⟩
theorem rd_one {w : World} (y : Cm) (v : Value) (hv : cmV y = v) : Rd encC (w.alloc (.cells #[v] 39)) (some ⟨w.heap.size, 0, none⟩) [y] := by
  subst hv
  have := Rd.made encC w 39 [y] (by simp [maxLen])
  simpa [Enc.all, encC] using this
set_option maxRecDepth 20000 in
set_option maxHeartbeats 4000000 in
theorem shuffle_any {w : World} {p : Option Addr} {c : Nat} {L : List Cm} (h : Rw encC 39 w p c L) (ao : Option Addr) (cp : Nat) (P : List Int) (hP : Rd encI w ao P) (hr : ∀ x ∈ P, -9223372036854775808 ≤ x ∧ x ≤ 9223372036854775807) (hl : L.length ≤ 1000) (hpc : P.length ≤ cp) (hcm : P.length ≤ 9223372036854775807) :
    Calls Try.prog 8 #[.slice p L.length c, .slice ao P.length cp] w fun r w' => ∃ q c', r = .returned (.slice q L.length c') ∧ Rw encC 39 w' q c' (shO L P) ∧ (∀ a, q = some a → w.heap.size ≤ a.block) ∧ Below w.heap.size w w' := by
  have HCL := Lib.hid (cmclone_any h (by omega))
  obtain ⟨m, hm⟩ : ∃ m, m = min P.length L.length := ⟨_, rfl⟩
  obtain ⟨M, hM⟩ : ∃ M, M = P.take m := ⟨_, rfl⟩
  have hML : M.length = m := by rw [hM, List.length_take]; omega
  have hsh : shO L M = shO L P := by
    rw [hM, hm]
    by_cases hle : P.length ≤ L.length
    · rw [Nat.min_eq_left hle, List.take_of_length_le (Nat.le_refl _)]
    · rw [Nat.min_eq_right (by omega), shO_take]
  have HMR := Lib.hid (show Rd encI w ao M by rw [hM]; exact hP.take m)
  have HRR := Lib.hid (show ∀ x ∈ M, -9223372036854775808 ≤ x ∧ x ≤ 9223372036854775807 from fun x hx => hr x (by rw [hM] at hx; exact List.mem_of_mem_take hx))
  obtain ⟨n, hn⟩ : ∃ n, n = L.length := ⟨_, rfl⟩
  obtain ⟨pl, hpl⟩ : ∃ n, n = P.length := ⟨_, rfl⟩
  have HN := Lib.hid hn
  have HS := Lib.hid hsh
  have HML := Lib.hid hML
  rw [← hn] at HCL hl hm ⊢
  rw [← hpl] at hpc hcm hm ⊢
  have hmin : min (pl : Int) (n : Int) = (m : Int) := by omega
  have hmin2 : min (n : Int) (pl : Int) = (m : Int) := by omega
  have hm1 : m ≤ pl := by omega
  have hm2 : m ≤ n := by omega
  have hm3 : (m : Int) ≤ pl := by omega
  have hm4 : (m : Int) ≤ cp := by omega
  have hm0 : (0 : Int) ≤ m := by omega
  have hmc : m ≤ cp := by omega
  clear h hP hr hM hML hsh hn hpl hm
  go_enter Try.func8, Try.ntmps8
  go_wp2_with fail
  refine (HCL.out).mono ?_
  rintro r w1 ⟨p5, c5, rfl, h5, a5, hb1⟩
  have HI := Lib.hid (show ShR w w1 L M 0 [] L p5 c5 none 0 from ⟨h5, Rw.empty _ _, a5, (fun a e => by cases e), (fun a b _ e => by cases e), hb1, by simp⟩)
  clear h5 a5 hb1 HCL
  go_wp2_with fail
  go_loopw [5, 6, 20] (fun s5 s6 s20 wr => ∃ (k e : Nat) (D E : List Cm) (p5 : Option Addr) (c5 : Nat) (p6 : Option Addr) (c6 : Nat), k ≤ m ∧ e + k = n ∧ s20 = .int .i64 k ∧ s5 = .slice p5 e c5 ∧ s6 = .slice p6 k c6 ∧ Hid (D.length = k) ∧ Hid (E.length = e) ∧ Hid (ShR w wr L M k D E p5 c5 p6 c6)) (fun _ _ s20 _ => m - (intOf s20).toNat)
  case atStart => exact ⟨0, n, [], L, p5, c5, none, 0, by omega, by omega, rfl, rfl, rfl, Lib.hid rfl, Lib.hid HN.out.symm, HI⟩
  case round =>
    obtain ⟨k, e, D, E, p5, c5, p6, c6, hkm, hek, rfl, rfl, rfl, HD, HE, HR⟩ := hrel
    by_cases hlt : k < m
    · have k0 : (0 : Int) ≤ k := by omega
      have k1 : (k : Int) < m := by omega
      have i2 : IntKind.i64.wrap ((k : Int) + 1) = (k : Int) + 1 := by rw [IntKind.wrap_i64]; omega
      have hkM : k < M.length := by rw [HML.out]; exact hlt
      obtain ⟨bs, off, ea, c1⟩ := rd_int (HMR.out.old HR.out.m) hkM
      subst ea
      have hxr := HRR.out _ (List.getElem_mem hkM)
      have hdr := List.drop_eq_getElem_cons hkM
      generalize M[k] = x at c1 hxr hdr
      have he0 : 0 < e := by omega
      have HPL := Lib.hid (fun w => place_any x e hxr.1 hxr.2 he0 (by omega) w)
      have hie : plO x e < e := plO_lt x he0
      have hst : shO E (x :: M.drop (k + 1)) = E[plO x e]'(by rw [HE.out]; exact hie) :: shO (E.eraseIdx (plO x e)) (M.drop (k + 1)) := by
        have := shO_step (E := E) (by rw [HE.out]; exact he0) x (M.drop (k + 1))
        simp only [HE.out] at this
        exact this
      generalize plO x e = i at HPL hie hst
      obtain ⟨g5, e5, c2⟩ := rw_cm HR.out.r5 (j := i) (by rw [HE.out]; exact hie)
      subst e5
      generalize E[i]'(by rw [HE.out]; exact hie) = y at c2 hst
      have HEQ := Lib.hid (show shO L M = D ++ (y :: shO (E.eraseIdx i) (M.drop (k + 1))) by rw [HR.out.eq, hdr, hst])
      have i3 : IntKind.i64.wrap ((i : Int) + 1) = (i : Int) + 1 := by rw [IntKind.wrap_i64]; omega
      have i0 : (0 : Int) ≤ i := by omega
      have i1 : (i : Int) < e := by omega
      clear hdr hst hkM
      go_wp2_with fail
      refine (HPL.out _).mono ?_
      rintro r w2 ⟨rfl, rfl⟩
      clear HPL
      have HF : Hid (∀ v, cmV y = v → Rd encC (wr.alloc (.cells #[v] 39)) (some ⟨wr.heap.size, 0, none⟩) [y]) := Lib.hid (fun v hv => rd_one y v hv)
      rcases cmV_shape y with hv | ⟨Tv, vv, hv⟩
      all_goals
        rw [hv] at c2
        have HV := Lib.hid hv
        clear hv
        go_wp2_with (at_builtin
                     refine wpList_pushR encC rfl (.tmp 28) (.tmp 33) 25 39 .nilIface 16 rfl Try.underlying25 info_cm rfl (by decide) p6 c6 k D HD.out rfl (HR.out.r6.old ((Below.refl _ wr).alloc (Nat.le_refl _) _)) (some ⟨wr.heap.size, 0, none⟩) 1 1 [y] rfl rfl (HF.out _ HV.out) (by omega) ?_
                     intro q c4 w4 hP4
                     have HP4 := Lib.hid ((HR.out.old ((Below.refl _ wr).alloc (Nat.le_refl _) _)).push hP4)
                     clear hP4)
        obtain ⟨r5, r6, a6, ap, mm⟩ := HP4.out
        refine (delete_any r5 i (by rw [HE.out]; exact hie) e HE.out.symm _ rfl).mono ?_
        rintro r w5 ⟨rfl, hd, hm5⟩
        have HZ := Lib.hid (ShR.del r5 r6 HR.out.a5 a6 ap mm hd hm5 HEQ.out)
        have HE2 : Hid ((E.eraseIdx i).length = e - 1) := Lib.hid (by rw [List.length_eraseIdx_of_lt (by rw [HE.out]; exact hie), HE.out])
        have HD2 : Hid ((D ++ [y]).length = k + 1) := Lib.hid (by rw [List.length_append, HD.out]; rfl)
        clear r5 r6 a6 ap mm hd hm5 HP4 HEQ HR HE HD
        go_wp2_with fail
        go_roundw
        case rel => exact ⟨k + 1, e - 1, D ++ [y], E.eraseIdx i, _, _, _, _, by omega, by omega, by go_num, rfl, rfl, HD2, HE2, HZ⟩
        case measure => simp [intOf]; omega
    · obtain rfl : k = m := by omega
      have HFI : Hid (shO L P = D ++ E) := Lib.hid (by rw [← HS.out, HR.out.eq, List.drop_of_length_le (by rw [HML.out]; exact Nat.le_refl _)]; rfl)
      go_wp2_with (at_builtin
                   refine wpList_pushR encC rfl (.tmp 41) (.tmp 42) 25 39 .nilIface 16 rfl Try.underlying25 info_cm rfl (by decide) p6 c6 k D HD.out rfl HR.out.r6 p5 e c5 E HE.out rfl HR.out.r5.rd (by omega) ?_
                   intro q c4 w4 hP4
                   have HP4 := Lib.hid hP4
                   clear hP4)
      go_ret
      obtain ⟨h1, h2, h3⟩ := HP4.out
      refine ⟨q, c4, ?_, ?_, ?_, ?_⟩
      · have e9 : k + e = n := by omega
        subst e9; rfl
      · rw [HFI.out]; exact h1
      · intro a ea
        rcases h3 a ea with e2 | e2
        · exact HR.out.a6 a e2
        · exact Nat.le_trans HR.out.m.size e2
      · exact HR.out.m.trans (h2.to_below HR.out.m.size (by rintro t ht ⟨a, ea, rfl⟩; exact Nat.not_le.2 ht (HR.out.a6 a ea)))
end Go.Proofs.Ytpdhmjmklmoknab

namespace Go.Proofs.Ytpdhmjmklmoknab
open Go.RowKit Go.Sort

theorem taY (v : Value) (w : World) : (Instr.typeAssert (.iface 37 v) 39 37 false).run Try.prog w = .ok v w := by kernel_rfl
theorem cmclock_yes (n : Int) (w : World) : Calls Try.prog 22 #[cmV (.clock n)] w fun e w' => e = .returned (.agg #[.int .i64 n]) ∧ Below w.heap.size w w' := by
  unfold cmV
  have h := taY
  go_enter Try.func22, Try.ntmps22
  go_wp2_with fail
  exact bodyPost_ret (v := .agg _) (results_cell_row Try.results22 _ _ w.heap.size 37 _ (0, 0) _ rfl (heap_alloc_new w _) Try.underlying37 rfl (by kernel_rfl)) rfl ⟨rfl, (Below.refl _ _).alloc (Nat.le_refl _) _⟩
theorem field_epoch (n : Int) (w : World) : (Instr.field 37 (.agg #[.int .i64 n]) 0).run Try.prog w = .ok (.int .i64 n) w := by kernel_rfl
set_option maxRecDepth 20000 in
theorem cmepochE_yes (n : Int) (w : World) : Calls Try.prog 13 #[cmV (.clock n)] w fun e w' => e = .returned (.int .i64 n) ∧ Below w.heap.size w w' := by
  have H := Lib.hid (cmclock_yes n w)
  have hfe := field_epoch n
  generalize cmV (.clock n) = V at H ⊢
  go_enter Try.func13, Try.ntmps13
  go_wp2_with fail
  refine H.out.mono ?_
  rintro r w1 ⟨rfl, hb⟩
  have HB := Lib.hid hb
  clear hb H
  go_wp2_with fail
  go_ret
  exact ⟨rfl, HB.out⟩
/-- A list, and some of it again. -/
def dbO (L : List Cm) (P : List Int) : List Cm := if L.length = 0 then [] else L ++ P.map (fun x => L.getD (plO x L.length) .none)
theorem dbO_len (L : List Cm) (P : List Int) : (dbO L P).length = if L.length = 0 then 0 else L.length + P.length := by
  unfold dbO
  split
  · rfl
  · simp
theorem push_below {w wr w4 : World} {o : Obj} {q q4 : Option Addr} {D : List Cm} {c4 : Nat} (hB : Below w.heap.size w wr) (hA : ∀ a, q = some a → w.heap.size ≤ a.block) (hP : PushR encC 39 (wr.alloc o) q D q4 c4 w4) :
    Rw encC 39 w4 q4 c4 D ∧ Below w.heap.size w w4 ∧ ∀ a, q4 = some a → w.heap.size ≤ a.block := by
  obtain ⟨h1, h2, h3⟩ := hP
  have hba : Below w.heap.size w (wr.alloc o) := hB.alloc hB.size _
  refine ⟨h1, hba.trans (h2.to_below hba.size (by rintro t ht ⟨a, ea, rfl⟩; exact Nat.not_le.2 ht (hA a ea))), fun a ea => ?_⟩
  rcases h3 a ea with e2 | e2
  · exact hA a e2
  · exact Nat.le_trans hba.size e2
set_option maxRecDepth 20000 in
set_option maxHeartbeats 4000000 in
theorem double_any {w : World} {p : Option Addr} {c : Nat} {L : List Cm} (h : Rw encC 39 w p c L) (ao : Option Addr) (cp : Nat) (P : List Int) (hP : Rd encI w ao P) (hr : ∀ x ∈ P, -9223372036854775808 ≤ x ∧ x ≤ 9223372036854775807) (hl : L.length ≤ 1000) (hcm : P.length ≤ 1000000) :
    Calls Try.prog 11 #[.slice p L.length c, .slice ao P.length cp] w fun r w' => ∃ q c', r = .returned (.slice q (dbO L P).length c') ∧ Rw encC 39 w' q c' (dbO L P) ∧ (∀ a, q = some a → w.heap.size ≤ a.block) ∧ Below w.heap.size w w' := by
  obtain ⟨n, hn⟩ : ∃ n, n = L.length := ⟨_, rfl⟩
  obtain ⟨pl, hpl⟩ : ∃ n, n = P.length := ⟨_, rfl⟩
  by_cases h0 : n = 0
  · have hd : dbO L P = [] := by unfold dbO; rw [if_pos (by omega)]
    rw [hd, ← hn, ← hpl, h0]
    clear h hP hr hl hcm hn hpl h0 hd
    simp only [List.length_nil]
    go_enter Try.func11, Try.ntmps11
    go_wp2_with fail
    go_ret
    exact ⟨none, 0, rfl, Rw.empty _ _, (fun a e => by cases e), Below.refl _ _⟩
  have HCL := Lib.hid (cmclone_any h (by omega))
  have hd : dbO L P = L ++ P.map (fun x => L.getD (plO x L.length) .none) := by unfold dbO; rw [if_neg (by omega)]
  have HRW := Lib.hid h
  have HPR := Lib.hid hP
  have HRR := Lib.hid hr
  have HN := Lib.hid hn
  have HPL := Lib.hid hpl
  have HDD := Lib.hid hd
  have hdl : (dbO L P).length = n + pl := by rw [dbO_len, if_neg (by omega), hn, hpl]
  rw [hdl]
  rw [← hn] at HCL hl ⊢
  rw [← hpl] at hcm ⊢
  have n0 : 0 < n := by omega
  have e0 : ((n : Int) == 0) = false := by rw [beq_eq_false_iff_ne]; omega
  clear h hP hr hn hpl hd hdl
  go_enter Try.func11, Try.ntmps11
  go_wp2_with fail
  refine (HCL.out).mono ?_
  rintro r w1 ⟨p5, c5, rfl, h5, a5, hb1⟩
  have H5 := Lib.hid h5
  have A5 := Lib.hid a5
  have B1 := Lib.hid hb1
  clear h5 a5 hb1 HCL
  go_wp2_with fail
  go_loopw [5, 15] (fun s5 s15 wr => ∃ (k e : Nat) (D : List Cm) (q : Option Addr) (cq : Nat), k ≤ pl ∧ Hid (e = n + k) ∧ s15 = .int .i64 k ∧ s5 = .slice q e cq ∧ Hid (D.length = e) ∧ Hid (D = L ++ (P.take k).map (fun x => L.getD (plO x L.length) .none)) ∧ Hid (Rw encC 39 wr q cq D) ∧ Hid (∀ a, q = some a → w.heap.size ≤ a.block) ∧ Hid (Below w.heap.size w wr)) (fun _ s15 _ => pl - (intOf s15).toNat)
  case atStart => exact ⟨0, n, L, p5, c5, by omega, Lib.hid rfl, rfl, rfl, Lib.hid HN.out.symm, Lib.hid (by simp), H5, A5, B1⟩
  case round =>
    obtain ⟨k, e, D, q, cq, hkm, hek, rfl, rfl, HD, HQ, HR, HA, HB⟩ := hrel
    by_cases hlt : k < pl
    · have k0 : (0 : Int) ≤ k := by omega
      have k1 : (k : Int) < pl := by omega
      have i2 : IntKind.i64.wrap ((k : Int) + 1) = (k : Int) + 1 := by rw [IntKind.wrap_i64]; omega
      have hkM : k < P.length := by rw [← HPL.out]; exact hlt
      obtain ⟨bs, off, ea, c1⟩ := rd_int (HPR.out.old HB.out) hkM
      subst ea
      have hxr := HRR.out _ (List.getElem_mem hkM)
      have hdr := List.take_succ_eq_append_getElem hkM
      generalize P[k] = x at c1 hxr hdr
      have HPC := Lib.hid (fun w => place_any x n hxr.1 hxr.2 n0 (by omega) w)
      have hie : plO x n < n := plO_lt x n0
      have hpn : plO x L.length = plO x n := by rw [HN.out]
      have HST : Hid ((P.take (k + 1)).map (fun x => L.getD (plO x L.length) Cm.none) = (P.take k).map (fun x => L.getD (plO x L.length) Cm.none) ++ [L.getD (plO x n) Cm.none]) := Lib.hid (by rw [hdr, List.map_append, List.map_singleton, hpn])
      generalize plO x n = i at HPC hie HST
      have hil : i < L.length := by rw [← HN.out]; exact hie
      obtain ⟨g5, e5, c2⟩ := rw_cm (HRW.out.old HB.out) hil
      subst e5
      have hgd : L.getD i Cm.none = L[i] := by rw [List.getD_eq_getElem?_getD, List.getElem?_eq_getElem hil]; rfl
      rw [hgd] at HST
      generalize L[i] = y at c2 HST
      have i0 : (0 : Int) ≤ i := by omega
      have i1 : (i : Int) < n := by omega
      have HF : Hid (∀ v, cmV y = v → Rd encC (wr.alloc (.cells #[v] 39)) (some ⟨wr.heap.size, 0, none⟩) [y]) := Lib.hid (fun v hv => rd_one y v hv)
      clear hdr hkM hpn hil hgd
      go_wp2_with fail
      refine (HPC.out _).mono ?_
      rintro r w2 ⟨rfl, rfl⟩
      clear HPC
      rcases cmV_shape y with hv | ⟨Tv, vv, hv⟩
      all_goals
        rw [hv] at c2
        have HV := Lib.hid hv
        clear hv
        go_wp2_with (at_builtin
                     refine wpList_pushR encC rfl (.tmp 19) (.tmp 27) 25 39 .nilIface 16 rfl Try.underlying25 info_cm rfl (by decide) q cq e D HD.out rfl (HR.out.old ((Below.refl _ wr).alloc (Nat.le_refl _) _)) (some ⟨wr.heap.size, 0, none⟩) 1 1 [y] rfl rfl (HF.out _ HV.out) (by have := hek.out; omega) ?_
                     intro q4 c4 w4 hP4
                     have HP4 := Lib.hid hP4
                     clear hP4)
        obtain ⟨h1, h2, h3⟩ := push_below HB.out HA.out HP4.out
        have HB4 := Lib.hid h2
        have HA4 := Lib.hid h3
        have HR4 := Lib.hid h1
        have HQ4 : Hid (D ++ [y] = L ++ (P.take (k + 1)).map (fun x => L.getD (plO x L.length) Cm.none)) := Lib.hid (by rw [HST.out, HQ.out, List.append_assoc])
        have HD4 : Hid ((D ++ [y]).length = e + 1) := Lib.hid (by rw [List.length_append, HD.out]; rfl)
        clear h1 h2 h3 HP4 HST HF HQ HD
        go_wp2_with fail
        go_roundw
        case rel => exact ⟨k + 1, e + 1, D ++ [y], q4, c4, by omega, Lib.hid (by rw [hek.out]; rfl), by go_num, rfl, HD4, HQ4, HR4, HA4, HB4⟩
        case measure => simp [intOf]; omega
    · obtain rfl : k = pl := by omega
      go_wp2_with fail
      go_ret
      refine ⟨q, cq, ?_, ?_, HA.out, HB.out⟩
      · rw [hek.out]; rfl
      · rw [HDD.out]
        have := HR.out
        rw [HQ.out, List.take_of_length_le (by rw [← HPL.out]; exact Nat.le_refl _)] at this
        exact this
end Go.Proofs.Ytpdhmjmklmoknab

namespace Go.Proofs.Ytpdhmjmklmoknab
open Go.RowKit Go.Sort

theorem aw_sh : shO [Cm.clock 1, Cm.clock 2, Cm.clock 3] [2, 0] = [Cm.clock 3, Cm.clock 1, Cm.clock 2] := by rfl
theorem ck_eql (n m : Int) (b : Bool) (h : (n == m) = b) (w : World) : (binOp .eql 39 (.iface 37 (.agg #[.int .i64 n])) (.iface 37 (.agg #[.int .i64 m]))).run Try.prog w = .ok (.bool b) w := by
  have := cm_eql (.clock n) (.clock m) w
  rw [show cmEq (.clock n) (.clock m) = (n == m) from rfl, h] at this
  exact this
theorem below_dN {B : Nat} {a w : World} (h : Below B a w) (n : Nat) : Below B a (w.drewN n) := ⟨h.os, h.tape, h.output, h.size, h.block⟩
set_option maxRecDepth 20000 in
set_option maxHeartbeats 4000000 in
theorem awake27_any (w : World) : Calls Try.prog 5 #[] w fun r w' => r = .returned (.bool true) ∧ Below w.heap.size w w' := by
  obtain ⟨W3, hW3⟩ : ∃ W, W = ((w.alloc (.cells #[.int .i64 1] 37)).alloc (.cells #[.int .i64 2] 37)).alloc (.cells #[.int .i64 3] 37) := ⟨_, rfl⟩
  have b3 : Below w.heap.size w W3 := by rw [hW3]; exact (((Below.refl _ _).alloc (Nat.le_refl _) _).alloc (by simp) _).alloc (by simp; omega) _
  have s3 : W3.heap.size = w.heap.size + 1 + 1 + 1 := by rw [hW3]; simp
  have q1 : W3.heap[w.heap.size]? = some (.cells #[.int .i64 1] 37 (0, 0)) := by rw [hW3]; exact (Below.heap_alloc _ _ _ (by simp; omega)).trans ((Below.heap_alloc _ _ _ (by simp)).trans (heap_alloc_new w _))
  have q2 : W3.heap[w.heap.size + 1]? = some (.cells #[.int .i64 2] 37 (0, 0)) := by rw [hW3]; refine (Below.heap_alloc _ _ _ (by simp)).trans ?_; have := heap_alloc_new (w.alloc (.cells #[.int .i64 1] 37)) (.cells #[.int .i64 2] 37); rwa [show (w.alloc (.cells #[.int .i64 1] 37)).heap.size = w.heap.size + 1 by simp] at this
  have q3 : W3.heap[w.heap.size + 1 + 1]? = some (.cells #[.int .i64 3] 37 (0, 0)) := by rw [hW3]; have := heap_alloc_new ((w.alloc (.cells #[.int .i64 1] 37)).alloc (.cells #[.int .i64 2] 37)) (.cells #[.int .i64 3] 37); rwa [show ((w.alloc (.cells #[.int .i64 1] 37)).alloc (.cells #[.int .i64 2] 37)).heap.size = w.heap.size + 1 + 1 by simp] at this
  obtain ⟨W4, hW4⟩ : ∃ W, W = W3.alloc (.cells #[.iface 37 (.agg #[.int .i64 1]), .iface 37 (.agg #[.int .i64 2]), .iface 37 (.agg #[.int .i64 3])] 39) := ⟨_, rfl⟩
  have r4 : Rw encC 39 W4 (some ⟨w.heap.size + 1 + 1 + 1, 0, none⟩) 3 [Cm.clock 1, Cm.clock 2, Cm.clock 3] := by
    have := Rw.made (E := encC) 39 W3 [Cm.clock 1, Cm.clock 2, Cm.clock 3] (by simp [maxLen])
    rw [encC_all, s3] at this
    rw [hW4]; exact this
  have b4 : Below W3.heap.size W3 W4 := by rw [hW4]; exact (Below.refl _ _).alloc (Nat.le_refl _) _
  have s4 : W4.heap.size = w.heap.size + 1 + 1 + 1 + 1 := by rw [hW4]; simp [s3]
  obtain ⟨W5, hW5⟩ : ∃ W, W = W4.alloc (.cells #[.int .i64 2, .int .i64 0] 3) := ⟨_, rfl⟩
  have r5 : Rd encI W5 (some ⟨w.heap.size + 1 + 1 + 1 + 1, 0, none⟩) [2, 0] := by
    have := Rd.made encI W4 3 [2, 0] (by simp [maxLen])
    rw [s4] at this
    rw [hW5]; exact this
  have b5 : Below W4.heap.size W4 W5 := by rw [hW5]; exact (Below.refl _ _).alloc (Nat.le_refl _) _
  have b35 := b4.trans (b5.mono b4.size)
  have HB := Lib.hid (b3.trans (b35.mono b3.size))
  have HS := Lib.hid (shuffle_any (r4.old b5) (some ⟨w.heap.size + 1 + 1 + 1 + 1, 0, none⟩) 2 [2, 0] r5 (by decide) (by decide) (by decide) (by decide))
  have H1 := Lib.hid ((b35.block _ (by rw [s3]; omega)).trans q1)
  have H2 := Lib.hid ((b35.block _ (by rw [s3]; omega)).trans q2)
  have H3 := Lib.hid ((b35.block _ (by rw [s3]; omega)).trans q3)
  have HW : Hid (W5 = (((((w.alloc (.cells #[.int .i64 1] 37)).alloc (.cells #[.int .i64 2] 37)).alloc (.cells #[.int .i64 3] 37)).alloc (.cells #[.iface 37 (.agg #[.int .i64 1]), .iface 37 (.agg #[.int .i64 2]), .iface 37 (.agg #[.int .i64 3])] 39)).alloc (.cells #[.int .i64 2, .int .i64 0] 3))) := Lib.hid (by rw [hW5, hW4, hW3])
  have HZ : Hid (w.heap.size + 1 + 1 < W5.heap.size) := Lib.hid (by have h1 := b35.size; rw [s3] at h1; omega)
  clear hW3 b3 s3 q1 q2 q3 hW4 r4 b4 s4 hW5 r5 b5 b35
  go_enter Try.func5, Try.ntmps5
  go_wp2_with fail
  rw [← HW.out]
  refine Calls.mono HS.out ?_
  rintro r W6 ⟨q, c, rfl, hR, _, hb⟩
  rw [aw_sh] at hR
  obtain ⟨g, rfl, d0⟩ := rw_cm hR (j := 0) (by decide)
  obtain ⟨g0, e, d1⟩ := rw_cm hR (j := 1) (by decide)
  cases e
  obtain ⟨g0, e, d2⟩ := rw_cm hR (j := 2) (by decide)
  cases e
  replace d0 : W6.cell? ⟨g, 0, none⟩ = some (.iface 37 (.agg #[.int .i64 3])) := d0
  replace d1 : W6.cell? ⟨g, 1, none⟩ = some (.iface 37 (.agg #[.int .i64 1])) := d1
  replace d2 : W6.cell? ⟨g, 2, none⟩ = some (.iface 37 (.agg #[.int .i64 2])) := d2
  have f1 := (hb.block _ (by have := HZ.out; omega)).trans H1.out
  have f2 := (hb.block _ (by have := HZ.out; omega)).trans H2.out
  have f3 := (hb.block _ (by have := HZ.out; omega)).trans H3.out
  have k1 := cell_of_row W6 w.heap.size 0 _ _ _ f1
  have k2 := cell_of_row W6 (w.heap.size + 1) 0 _ _ _ f2
  have k3 := cell_of_row W6 (w.heap.size + 1 + 1) 0 _ _ _ f3
  have M6 := Lib.hid (HB.out.trans (hb.mono HB.out.size))
  clear hb hR H1 H2 H3 HW HS HZ HB
  have z1 := ck_eql 3 3 true rfl
  have z2 := ck_eql 1 1 true rfl
  have z3 := ck_eql 2 2 true rfl
  go_upto_region 3 with fail
  go_quiet (fail)
  go_wp2_with fail
  go_ret
  exact ⟨rfl, below_dN M6.out _⟩
end Go.Proofs.Ytpdhmjmklmoknab

namespace Go.Proofs.Ytpdhmjmklmoknab
open Go.RowKit

/-- Clocks from 0 on. -/
def ckL (n : Nat) : List Cm := (List.range n).map (fun v : Nat => Cm.clock (v : Int))
theorem ckL_succ (k : Nat) : ckL (k + 1) = ckL k ++ [Cm.clock (k : Int)] := by simp [ckL, List.range_succ]
theorem ckL_len (k : Nat) : (ckL k).length = k := by simp [ckL]
theorem ckL_get (n k : Nat) (h : k < (ckL n).length) : (ckL n)[k] = Cm.clock (k : Int) := by simp [ckL]
theorem shO_ck (n : Nat) (P : List Int) : shO (ckL n) P = (shO (List.range n) P).map (fun v : Nat => Cm.clock (v : Int)) := shO_map _ P (List.range n)
theorem count_range : ∀ (n v : Nat), v < n → (List.range n).count v = 1
  | 0, v, h => absurd h (Nat.not_lt_zero _)
  | n + 1, v, h => by
    rw [List.range_succ, List.count_append]
    by_cases e : v = n
    · subst e
      have h0 : (List.range v).count v = 0 := List.count_eq_zero.2 (by simp)
      rw [h0]; simp
    · rw [count_range n v (by omega)]
      have : [n].count v = 0 := List.count_eq_zero.2 (by simp; exact e)
      rw [this]
theorem sh_lt {n : Nat} {P : List Int} {v : Nat} (h : v ∈ shO (List.range n) P) : v < n := List.mem_range.1 ((shO_perm P _).mem_iff.1 h)
theorem sh_count {n : Nat} {P : List Int} {v : Nat} (h : v < n) : (shO (List.range n) P).count v = 1 := by rw [(shO_perm P _).count_eq, count_range n v h]
theorem sh_len (n : Nat) (P : List Int) : (shO (List.range n) P).length = n := by rw [(shO_perm P _).length_eq, List.length_range]
/-- How often each number is there. -/
def cnL (n : Nat) (V : List Nat) : List Int := (List.range n).map (fun v : Nat => ((V.count v : Nat) : Int))
theorem cnL_len (n : Nat) (V : List Nat) : (cnL n V).length = n := by simp [cnL]
theorem cnL_nil (n : Nat) : cnL n [] = List.replicate n 0 := by
  unfold cnL
  apply List.ext_getElem
  · simp
  · intro i h1 h2; simp
theorem cnL_get (n : Nat) (V : List Nat) (v : Nat) (h : v < (cnL n V).length) : (cnL n V)[v] = ((V.count v : Nat) : Int) := by simp [cnL]
theorem cnL_snoc (n : Nat) (V : List Nat) (v : Nat) : cnL n (V ++ [v]) = (cnL n V).set v (((V.count v : Nat) : Int) + 1) := by
  apply List.ext_getElem
  · rw [List.length_set, cnL_len, cnL_len]
  · intro i h1 h2
    rw [List.getElem_set, cnL_get, cnL_get]
    rw [List.count_append]
    by_cases e : v = i
    · subst e
      rw [if_pos rfl]; simp
    · rw [if_neg e]
      have : [v].count i = 0 := List.count_eq_zero.2 (by simp; exact fun x => e x.symm)
      rw [this, Nat.add_zero]
theorem info_int : (Try.prog.info? 3).map (fun i => (i.zero, i.size, i.bytes)) = some (some (.int .i64 0), 1, 8) := by kernel_rfl
theorem encI_all (L : List Int) : encI.all L = L.map (Value.int .i64) := by
  induction L with
  | nil => rfl
  | cons a l ih => rw [show encI.all (a :: l) = encI.f a ++ encI.all l from rfl, ih]; rfl
theorem zeros_madeI (n : Nat) : (madeCells (Value.int .i64 0).cells (n * 1)).toList = (List.replicate n (0 : Int)).map (Value.int .i64) := by
  unfold madeCells
  rw [Nat.mul_one, Array.toList_map, Array.toList_range, List.map_replicate]
  apply List.ext_getElem?
  intro j
  by_cases h : j < n
  · simp [h, Value.cells, Nat.mod_one]
  · simp [h, Value.cells]
/-- A slice of n zeros. -/
theorem wpList_makeI {ops : Array Oper} {rest : List Oper} {o : Oper} {a : Act} {Q : Exit → Act → World → Prop} {w : World} (hgd : o.guard = none) (l c : Operand) (hop : o.op = Op.makeSlice 23 l c)
    (n : Nat) (hn : n ≤ 1000000000) (hl : a.eval l = .int .i64 (n : Int)) (hc : a.eval c = .int .i64 (n : Int))
    (hK : ∀ w', Rw encI 3 w' (some ⟨w.heap.size, 0, none⟩) n (List.replicate n 0) → Below w.heap.size w w' → wpList Try.prog ops Q rest (a.put o.dst (.slice (some ⟨w.heap.size, 0, none⟩) n n)) w') :
    wpList Try.prog ops Q (o :: rest) a w := by
  obtain ⟨i, hi, hzz⟩ := Option.map_eq_some_iff.1 info_int
  simp only [Prod.mk.injEq] at hzz
  obtain ⟨hz, h1, h2⟩ := hzz
  refine wpList_make_full w hgd l c 23 hop 0 3 i (.int .i64 0) 1 Try.underlying23 hi hz h1 .i64 .i64 n n n hl hc rfl rfl (by rw [h2]; omega) (by unfold maxLen; omega) (Nat.zero_le _) ?_
  intro w' hown hgrow
  refine hK w' ?_ ((Below.refl _ _).grown hgrow (Nat.le_refl _) (by intro k h; cases h))
  unfold Rw
  rw [encI_all, List.length_replicate, ← zeros_madeI]
  exact hown
/-- One number of a row is set. -/
theorem Rw.setI {w : World} {g cap : Nat} {M : List Int} (h : Rw encI 3 w (some ⟨g, 0, none⟩) cap M) (i : Nat) (hi : i < M.length) (y : Int) :
    w.cell? ⟨g, i, none⟩ = some (.int .i64 M[i]) ∧ w.frozen? ⟨g, i, none⟩ = false ∧ Rw encI 3 (w.setCell ⟨g, i, none⟩ (.int .i64 y)) (some ⟨g, 0, none⟩) cap (M.set i y) := by
  rcases h.shape with ⟨e, _⟩ | ⟨g', e, hl, h1, h2, cur, hh, h3, h4⟩
  · cases e
  cases e
  have hk : encI.k = 1 := rfl
  rw [hk, Nat.mul_one] at h3 h4
  have hci : cur[i]? = some (.int .i64 M[i]) := by
    have := congrArg (fun l => l[i]?) h4
    simp only [List.getElem?_take, if_pos hi] at this
    rw [← Array.getElem?_toList, this, encI_all]; simp [hi]
  refine ⟨by rw [cell_of_row w g i cur 3 (0, 0) hh, hci], frozen_of_row w g i cur 3 hh, ?_⟩
  refine Rw.of_row (heap_setCell_same w g i cur 3 _ hh) (by rw [List.length_set]; exact h1) h2 (by rw [hk, Array.size_setIfInBounds, h3]; omega) ?_
  rw [hk, Nat.mul_one, List.length_set, Array.toList_setIfInBounds, encI_all, List.map_set, ← encI_all, ← h4, List.take_set]
/-- While it is counted how often each is there. -/
structure AlR (W : World) (gs n j : Nat) (V : List Nat) (q5 : Option Addr) (c5 : Nat) (q : Option Addr) (c : Nat) (wr : World) : Prop where
  rM : Rw encC 39 wr q5 c5 (V.map fun v : Nat => Cm.clock (v : Int))
  rL : Rw encC 39 wr q c (ckL n)
  rS : Rw encI 3 wr (some ⟨gs, 0, none⟩) n (cnL n (V.take j))
  lo : W.heap.size ≤ gs
  m5 : ∀ a, q5 = some a → a.block < gs
  mq : ∀ a, q = some a → a.block < gs
  m : Below W.heap.size W wr
theorem AlR.old {W : World} {gs n j : Nat} {V : List Nat} {q5 : Option Addr} {c5 : Nat} {q : Option Addr} {c : Nat} {wr : World} (h : AlR W gs n j V q5 c5 q c wr) {w' : World} (hb : Below wr.heap.size wr w') : AlR W gs n j V q5 c5 q c w' :=
  ⟨h.rM.old hb, h.rL.old hb, h.rS.old hb, h.lo, h.m5, h.mq, h.m.trans (hb.mono h.m.size)⟩
theorem AlR.step {W : World} {gs n j : Nat} {V : List Nat} {q5 : Option Addr} {c5 : Nat} {q : Option Addr} {c : Nat} {wr : World} (h : AlR W gs n j V q5 c5 q c wr) (hj : j < V.length) (hv : V[j] < n) :
    wr.cell? ⟨gs, V[j], none⟩ = some (.int .i64 (((V.take j).count V[j] : Nat) : Int)) ∧ wr.frozen? ⟨gs, V[j], none⟩ = false ∧ AlR W gs n (j + 1) V q5 c5 q c (wr.setCell ⟨gs, V[j], none⟩ (.int .i64 ((((V.take j).count V[j] : Nat) : Int) + 1))) := by
  obtain ⟨h1, h2, h3⟩ := h.rS.setI V[j] (by rw [cnL_len]; exact hv) ((((V.take j).count V[j] : Nat) : Int) + 1)
  rw [cnL_get] at h1
  have hm : Mod (fun i => i = gs) wr (wr.setCell ⟨gs, V[j], none⟩ (.int .i64 ((((V.take j).count V[j] : Nat) : Int) + 1))) := (Mod.refl (fun i => i = gs) wr).setCell (fun _ => rfl) _
  refine ⟨h1, h2, h.rM.kept hm (fun a e => by have := h.m5 a e; omega), h.rL.kept hm (fun a e => by have := h.mq a e; omega), ?_, h.lo, h.m5, h.mq, h.m.trans (hm.to_below h.m.size (by intro k hk e; have := h.lo; omega))⟩
  rw [← cnL_snoc] at h3
  rw [List.take_succ_eq_append_getElem hj]
  exact h3
end Go.Proofs.Ytpdhmjmklmoknab

namespace Go.Proofs.Ytpdhmjmklmoknab
open Go.RowKit Go.Sort

set_option maxRecDepth 1000000 in
set_option maxHeartbeats 16000000 in
theorem orderAll_any (W : World) (a0 : Int) (ao : Option Addr) (cp : Nat) (P0 : List Int) (hP : Rd encI W ao P0) (hr : ∀ x ∈ P0, -9223372036854775808 ≤ x ∧ x ≤ 9223372036854775807) (hpc : P0.length ≤ cp) :
    Calls Try.prog 4 #[.int .i64 a0, .slice ao P0.length cp] W fun e w' => e = .returned (.bool true) ∧ Below W.heap.size W w' := by
  have HAW := Lib.hid (awake27_any W)
  obtain ⟨n, hn⟩ : ∃ n : Nat, (n : Int) = max 0 (min a0 30) := ⟨(max 0 (min a0 30)).toNat, by omega⟩
  have hn30 : n ≤ 30 := by omega
  have n0 : (0 : Int) ≤ n := by omega
  have HNN := Lib.hid hn
  obtain ⟨P, hPP⟩ : ∃ P, P = P0.take 40 := ⟨_, rfl⟩
  have HPR := Lib.hid (show Rd encI W ao P by rw [hPP]; exact hP.take 40)
  have HRR := Lib.hid (show ∀ x ∈ P, -9223372036854775808 ≤ x ∧ x ≤ 9223372036854775807 from fun x hx => hr x (by rw [hPP] at hx; exact List.mem_of_mem_take hx))
  have hPL : P.length = min 40 P0.length := by rw [hPP, List.length_take]
  obtain ⟨pl0, hpl0⟩ : ∃ p, p = P0.length := ⟨_, rfl⟩
  obtain ⟨pl, hpl1⟩ : ∃ p, p = P.length := ⟨_, rfl⟩
  have HPL := Lib.hid hpl1
  rw [← hpl1, ← hpl0] at hPL
  rw [← hpl0] at hpc ⊢
  have hpl40 : pl ≤ 40 := by omega
  have hplc : pl ≤ cp := by omega
  clear hP hr hPP hpl0 hpl1 hn
  go_enter Try.func4, Try.ntmps4
  go_wp2_with fail
  refine (HAW.out).mono ?_
  rintro r w1 ⟨rfl, hb1⟩
  have B1 := Lib.hid hb1
  clear hb1 HAW
  go_upto_region 4 with fail
  rw [← HNN.out]
  go_upto_if 23 with fail
  go_cut [1] (fun s1 wx => s1 = .slice ao pl cp ∧ wx = w1)
  case first =>
    by_cases h40 : 40 < pl0
    · have h41 : (40 : Int) < pl0 := by omega
      have hm40 : ((pl : Nat) : Int) = 40 := by omega
      have e1 : (pl : Int) < pl0 := by omega
      have e2 : (pl : Int) ≤ cp := by omega
      have e3 : (0 : Int) ≤ pl := by omega
      rw [← hm40]
      clear h41 h40 hm40 hPL hpl40
      go_wp2_with fail
      go_meet
      exact ⟨rfl, rfl⟩
    · have h41 : ¬ (40 : Int) < pl0 := by omega
      have h43 : pl0 = pl := by omega
      subst h43
      go_wp2_with fail
      go_meet
      exact ⟨rfl, rfl⟩
  case rest =>
  obtain ⟨rfl, rfl⟩ := hcut
  clear hPL hpc HNN
  go_wp2_with fail
  go_loopw [5, 27] (fun s5 s27 wr => ∃ (k : Nat) (q : Option Addr) (c : Nat), k ≤ n ∧ s27 = .int .i64 k ∧ s5 = .slice q k c ∧ Hid (Rw encC 39 wr q c (ckL k)) ∧ Hid (∀ a, q = some a → W.heap.size ≤ a.block) ∧ Hid (Below W.heap.size W wr)) (fun _ s27 _ => n - (intOf s27).toNat)
  case atStart => exact ⟨0, none, 0, by omega, rfl, rfl, Lib.hid (Rw.empty _ _), Lib.hid (fun a e => by cases e), B1⟩
  obtain ⟨k, q, c, hkn, rfl, rfl, HR, HA, HB⟩ := hrel
  by_cases hlt : k < n
  · have k0 : (0 : Int) ≤ k := by omega
    have k1 : (k : Int) < n := by omega
    have i2 : IntKind.i64.wrap ((k : Int) + 1) = (k : Int) + 1 := by rw [IntKind.wrap_i64]; omega
    have HF := Lib.hid (rd_one (w := wr) (Cm.clock k) (.iface 37 (.agg #[.int .i64 k])) rfl)
    go_wp2_with (at_builtin
                 refine wpList_pushR encC rfl (.tmp 30) (.tmp 34) 25 39 .nilIface 16 rfl Try.underlying25 info_cm rfl (by decide) q c k (ckL k) (ckL_len k) rfl (HR.out.old ((Below.refl _ wr).alloc (Nat.le_refl _) _)) (some ⟨wr.heap.size, 0, none⟩) 1 1 [Cm.clock k] rfl rfl HF.out (by omega) ?_
                 intro q4 c4 w4 hP4
                 have HP4 := Lib.hid hP4
                 clear hP4)
    obtain ⟨h1, h2, h3⟩ := push_below HB.out HA.out HP4.out
    rw [← ckL_succ] at h1
    have HR4 := Lib.hid h1
    have HB4 := Lib.hid h2
    have HA4 := Lib.hid h3
    clear h1 h2 h3 HP4 HF HR HA HB
    go_wp2_with fail
    go_roundw
    case rel => exact ⟨k + 1, q4, c4, by omega, by go_num, rfl, HR4, HA4, HB4⟩
    case measure => simp [intOf]; omega
  · obtain rfl : k = n := by omega
    have hSH := shuffle_any HR.out ao cp P (HPR.out.old HB.out) HRR.out (by rw [ckL_len]; omega) (by rw [← HPL.out]; exact hplc) (by rw [← HPL.out]; omega)
    rw [ckL_len, ← HPL.out, shO_ck] at hSH
    obtain ⟨V, hV⟩ : ∃ V, V = shO (List.range k) P := ⟨_, rfl⟩
    have HVL := Lib.hid (show V.length = k by rw [hV]; exact sh_len _ _)
    have HVN := Lib.hid (show ∀ v ∈ V, v < k from fun v hv => sh_lt (by rw [hV] at hv; exact hv))
    have HVC := Lib.hid (show ∀ v, v < k → V.count v = 1 from fun v hv => by rw [hV]; exact sh_count hv)
    rw [← hV] at hSH
    clear hV
    have HSH := Lib.hid hSH
    clear hSH
    go_wp2_with fail
    refine HSH.out.mono ?_
    rintro r w5 ⟨q5, c5, rfl, h5, a5, hb5⟩
    have H5 := Lib.hid h5
    have A5 := Lib.hid a5
    have B5 := Lib.hid hb5
    clear h5 a5 hb5 HSH
    go_wp2_with (at_make; refine wpList_makeI rfl _ _ rfl k (by omega) rfl rfl ?_; intro w6 hrw hb6; have HRW := Lib.hid hrw; have HB6 := Lib.hid hb6; clear hrw hb6)
    have HI : Hid (AlR W w5.heap.size k 0 V q5 c5 q c w6) := Lib.hid (by
      have hb56 := HB.out.trans (B5.out.mono HB.out.size)
      refine ⟨H5.out.old HB6.out, (HR.out.old B5.out).old HB6.out, ?_, hb56.size, fun a e => ?_, fun a e => ?_, hb56.trans (HB6.out.mono hb56.size)⟩
      · rw [List.take_zero, cnL_nil]; exact HRW.out
      · subst e; exact H5.out.lt
      · subst e; exact Nat.lt_of_lt_of_le HR.out.lt B5.out.size)
    generalize w5.heap.size = gs at HI ⊢
    clear HRW HB6 H5 A5 B5 HR HB
    go_wp2_with fail
    go_loopw [48] (fun s48 wr => ∃ j : Nat, j ≤ k ∧ s48 = .int .i64 j ∧ Hid (AlR W gs k j V q5 c5 q c wr)) (fun s48 _ => k - (intOf s48).toNat)
    case atStart => exact ⟨0, by omega, rfl, HI⟩
    obtain ⟨j, hjk, rfl, HJ⟩ := hrel
    by_cases hlj : j < k
    · have j0 : (0 : Int) ≤ j := by omega
      have j1 : (j : Int) < k := by omega
      have j2 : IntKind.i64.wrap ((j : Int) + 1) = (j : Int) + 1 := by rw [IntKind.wrap_i64]; omega
      have hjV : j < V.length := by rw [HVL.out]; exact hlj
      obtain ⟨g5, e5, c1⟩ := rw_cm HJ.out.rM (j := j) (by rw [List.length_map]; exact hjV)
      subst e5
      rw [List.getElem_map] at c1
      have hvn := HVN.out _ (List.getElem_mem hjV)
      have HST := Lib.hid (fun (w' : World) (hb : Below wr.heap.size wr w') => (HJ.out.old hb).step hjV hvn)
      obtain ⟨ct, hct⟩ : ∃ ct, ct = (V.take j).count V[j] := ⟨_, rfl⟩
      have hc30 : ct ≤ 30 := by
        have := List.count_le_length (a := V[j]) (l := V.take j)
        rw [List.length_take] at this
        omega
      rw [← hct] at HST
      clear hct
      generalize V[j] = v at c1 hvn HST
      have HEP := Lib.hid (fun w => cmepochE_yes (v : Int) w)
      have v0 : (0 : Int) ≤ v := by omega
      have v1 : (v : Int) < k := by omega
      clear hjV
      have ec : IntKind.i64.wrap ((ct : Int) + 1) = (ct : Int) + 1 := by rw [IntKind.wrap_i64]; omega
      go_wp2_with fail
      refine (HEP.out _).mono ?_
      rintro r w7 ⟨rfl, hb7⟩
      obtain ⟨s1, s2, s3⟩ := HST.out w7 hb7
      have S3 := Lib.hid s3
      clear hb7 s3 HST HEP HJ c1
      go_wp2_with fail
      go_roundw
      case rel => exact ⟨j + 1, by omega, by go_num, S3⟩
      case measure => simp [intOf]; omega
    · obtain rfl : j = k := by omega
      have HS : Hid (Rw encI 3 wr (some ⟨gs, 0, none⟩) j (cnL j V)) := Lib.hid (by have := HJ.out.rS; rwa [List.take_of_length_le (by rw [HVL.out]; exact Nat.le_refl _)] at this)
      go_wp2_with fail
      go_loopw [70] (fun s70 wx => ∃ i : Nat, i ≤ j ∧ s70 = .int .i64 i ∧ wx = wr) (fun s70 _ => j - (intOf s70).toNat)
      case atStart => exact ⟨0, by omega, rfl, rfl⟩
      obtain ⟨i, hij, rfl, rfl⟩ := hrel
      by_cases hli : i < j
      · have i0 : (0 : Int) ≤ i := by omega
        have i1 : (i : Int) < j := by omega
        have i2 : IntKind.i64.wrap ((i : Int) + 1) = (i : Int) + 1 := by rw [IntKind.wrap_i64]; omega
        obtain ⟨c1, _, _⟩ := HS.out.setI i (by rw [cnL_len]; exact hli) 0
        rw [cnL_get, HVC.out i hli] at c1
        replace c1 : _ = some (Value.int .i64 1) := c1
        go_wp2_with fail
        go_roundw
        case rel => exact ⟨i + 1, by omega, by go_num, trivial⟩
        case measure => simp [intOf]; omega
      · obtain rfl : i = j := by omega
        have hSH := shuffle_any HJ.out.rL none 0 [] (Rd.nil _ _) (fun x hx => by cases hx) (by rw [ckL_len]; omega) (Nat.le_refl _) (by decide)
        rw [ckL_len] at hSH
        have HSH := Lib.hid hSH
        clear hSH
        go_wp2_with fail
        refine Calls.mono (show Calls Try.prog 8 #[.slice q i c, .slice none 0 0] wr _ from HSH.out) ?_
        rintro r w8 ⟨q8, c8, rfl, h8, _, hb8⟩
        have H8 : Hid (Rw encC 39 w8 q8 c8 (ckL i)) := Lib.hid h8
        have HJ8 := Lib.hid (HJ.out.old hb8)
        clear h8 hb8 HSH HJ HS
        go_wp2_with fail
        go_loopw [80] (fun s80 wx => ∃ t : Nat, t ≤ i ∧ s80 = .int .i64 t ∧ Hid (Rw encC 39 wx q8 c8 (ckL i)) ∧ Hid (AlR W gs i i V q5 c5 q c wx)) (fun s80 _ => i - (intOf s80).toNat)
        case atStart => exact ⟨0, by omega, rfl, H8, HJ8⟩
        obtain ⟨t, hti, rfl, HX, HY⟩ := hrel
        by_cases hlt2 : t < i
        · have t0 : (0 : Int) ≤ t := by omega
          have t1 : (t : Int) < i := by omega
          have t2 : IntKind.i64.wrap ((t : Int) + 1) = (t : Int) + 1 := by rw [IntKind.wrap_i64]; omega
          obtain ⟨g8, e8, c1⟩ := rw_cm HX.out (j := t) (by rw [ckL_len]; exact hlt2)
          subst e8
          rw [ckL_get] at c1
          have HEP := Lib.hid (fun w => cmepochE_yes (t : Int) w)
          go_wp2_with fail
          refine (HEP.out _).mono ?_
          rintro r w7 ⟨rfl, hb7⟩
          have HX7 := Lib.hid (HX.out.old hb7)
          have HY7 := Lib.hid (HY.out.old hb7)
          clear hb7 HX HY HEP c1
          go_wp2_with fail
          go_roundw
          case rel => exact ⟨t + 1, by omega, by go_num, HX7, HY7⟩
          case measure => simp [intOf]; omega
        · obtain rfl : t = i := by omega
          have hDB := double_any HY.out.rL ao cp P (HPR.out.old HY.out.m) HRR.out (by rw [ckL_len]; omega) (by rw [← HPL.out]; omega)
          rw [ckL_len, ← HPL.out] at hDB
          have hdl := dbO_len (ckL t) P
          rw [ckL_len, ← HPL.out] at hdl
          obtain ⟨d, hd⟩ : ∃ d, d = (dbO (ckL t) P).length := ⟨_, rfl⟩
          rw [← hd] at hDB hdl
          have hdb : (((d : Nat) : Int) == (t : Int) + pl) = true ∨ ((((d : Nat) : Int) == (t : Int) + pl) = false ∧ ((t : Int) == 0) = true) := by
            by_cases ht : t = 0
            · rw [if_pos ht] at hdl
              by_cases hp : pl = 0
              · left; rw [beq_iff_eq]; omega
              · right; exact ⟨by rw [beq_eq_false_iff_ne]; omega, by rw [beq_iff_eq]; omega⟩
            · rw [if_neg ht] at hdl
              left; rw [beq_iff_eq]; omega
          have HDB := Lib.hid hDB
          have HM := Lib.hid HY.out.m
          clear hDB hdl hd HX HY
          go_wp2_with fail
          refine HDB.out.mono ?_
          rintro r w9 ⟨q9, c9, rfl, _, _, hb9⟩
          have M9 := Lib.hid (HM.out.trans (hb9.mono HM.out.size))
          clear hb9 HDB HM
          rcases hdb with hdb | ⟨hdb, hdc⟩
          · go_wp2_with fail
            go_ret
            exact ⟨rfl, M9.out⟩
          · go_wp2_with fail
            go_ret
            exact ⟨rfl, M9.out⟩
end Go.Proofs.Ytpdhmjmklmoknab

namespace Go.Proofs.Ytpdhmjmklmoknab
open Go.ChangeShapes Go.WideShapes Go.ChangeAt Go.RowKit Go.Deep

theorem cell_block9 {w : World} {a : Addr} {v : Value} (h : w.cell? a = some v) : a.block < w.heap.size := by
  unfold World.cell? at h
  apply Nat.lt_of_not_le; intro hle
  rw [Array.getElem?_eq_none hle] at h
  simp at h
set_option maxRecDepth 20000 in
theorem open_intsL {H : Type} {enc : TypeId × Value → H} {W : World} {base : Nat} {v : Value} {d : DataW H} {ps : List MemPlace} (hval : Value.okWide Try.prog W .any base 23 v) (h : DataW.Trod enc Try.prog W 0 (fun _ => true) true 23 v d ps) :
    ∃ ao cap S, v = .slice ao S.length cap ∧ Rd encI W ao S ∧ (∀ x ∈ S, -9223372036854775808 ≤ x ∧ x ≤ 9223372036854775807) ∧ S.length ≤ 9223372036854775807 ∧ S.length ≤ cap := by
  obtain ⟨a, len, cap, rfl⟩ := okWide_slice Try.underlying23 hval
  obtain ⟨fuel, hf⟩ := h
  rcases open_slice1 Try.underlying23 (by kernel_rfl) hf with ⟨hc, _⟩ | ⟨a', len', cap', m, k, V, D, Pl, hc, _, hl, hm, hmm, _, hall⟩
  · have hc2 : [Value.slice a len cap] = [Value.slice none 0 0] := hc
    simp only [List.cons.injEq, Value.slice.injEq, and_true] at hc2
    obtain ⟨rfl, rfl, rfl⟩ := hc2
    exact ⟨none, 0, [], rfl, Rd.nil _ _, (fun x hx => by simp at hx), Nat.zero_le _, Nat.le_refl _⟩
  · have hc2 : [Value.slice a len cap] = [Value.slice (some a') len' cap'] := hc
    simp only [List.cons.injEq, Value.slice.injEq, and_true] at hc2
    obtain ⟨rfl, rfl, rfl⟩ := hc2
    simp only [if_true] at hmm
    subst hmm
    have hj : ∀ i, i < len → ∃ s : Int, V i = .int .i64 s ∧ -9223372036854775808 ≤ s ∧ s ≤ 9223372036854775807 := by
      intro i hi
      obtain ⟨N, h1, _, hw⟩ := DataW.trod_int Try.underlying3 (hall i (by omega)).2
      simp only [List.cons.injEq, and_true] at h1
      have b := bounds_i64 hw
      exact ⟨N, h1, by omega, by omega⟩
    obtain ⟨f, hf2⟩ := choose_lt hj
    obtain ⟨bs, off, spot⟩ := a'
    by_cases h0 : 0 < m
    · have hspot : spot = none := by simpa [Addr.add] using World.cell?_spot (hall 0 (by omega)).1
      subst hspot
      refine ⟨some ⟨bs, off, none⟩, m, (List.range len).map f, by simp, ?_, ?_, by unfold maxLen at hm; rw [List.length_map, List.length_range]; omega, by rw [List.length_map, List.length_range]; exact hl⟩
      · intro j hjl
        have hjn : j < len := by simpa using hjl
        have e0 := (hf2 j hjn).1
        obtain ⟨c0, _⟩ := hall j (by omega)
        rw [e0] at c0
        have c0' : W.cell? ⟨bs, off + j, none⟩ = some (.int .i64 (f j)) := by simpa [Addr.add_lit] using c0
        refine ⟨bs, off, rfl, cell_block9 c0', fun i u hu => ?_⟩
        have hi0 : i = 0 := by
          have := (List.getElem?_eq_some_iff.1 hu).1
          simp [encI] at this; exact this
        subst hi0
        simp only [encI, List.getElem?_cons_zero, Option.some.injEq] at hu
        subst hu
        simpa [encI] using c0'
      · intro x hx
        obtain ⟨i, hi, rfl⟩ := List.mem_map.1 hx
        exact (hf2 i (List.mem_range.1 hi)).2
    · have hl0 : len = 0 := by omega
      subst hl0
      exact ⟨some ⟨bs, off, spot⟩, m, [], rfl, (fun j hj => by simp at hj), (fun x hx => by simp at hx), Nat.zero_le _, Nat.zero_le _⟩
end Go.Proofs.Ytpdhmjmklmoknab
