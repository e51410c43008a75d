/- Texts 1: what the laws lean on. -/
import Derived.WalkKit
import Derived.WalkSpells
import Derived.WalkLawsBesides
import Derived.Lib.Hide
import Derived.Laws.BytesArg
import Derived.Deep.RegionLaw
import Derived.Deep.AppendLies
import Derived.Lib.Bytealg
import Derived.Lib.IndexLaws
import Derived.Lib.ItoaNum
import Derived.RangeFuncNested
import Derived.RangeFuncBox
import Derived.RangeFuncLeaves
import Derived.OwnWalkIn
import Derived.Test.YtpdhmjmklmoknaaDoorShelf
import Derived.RangeFuncBound
import Derived.RangeFuncCalls
import Derived.Shelf.Abstract
import Derived.Shelf.RegionOpen
import Derived.Shelf.RegionOpenPlain
import Derived.Deep.DeepCutAuto
import Derived.TacticsInMore
import Derived.LoopNIn
import Derived.LoopIn
import Derived.Lib.OthersKept
import Derived.Deep.AppendSrc
import Derived.Great.BuildSlice
import Derived.Lib.ConvBytes
import Derived.Laws.Runes
import Derived.BigQuiet
import Derived.WalkMore
set_option linter.unusedVariables false
set_option linter.unusedSimpArgs false
namespace Go.Proofs.YtpdhmjmklmoknaaDoor
open Go.RowKit

/-- Of the old blocks only those of S may have turned. -/
structure Mod (S : Nat → Prop) (w w' : World) : Prop where
  os : w'.os = w.os
  tape : w'.tape = w.tape
  output : w'.output = w.output
  size : w.heap.size ≤ w'.heap.size
  block : ∀ k, k < w.heap.size → ¬ S k → w'.heap[k]? = w.heap[k]?

theorem Mod.refl (S : Nat → Prop) (w : World) : Mod S w w := ⟨rfl, rfl, rfl, Nat.le_refl _, fun _ _ _ => rfl⟩
theorem Mod.trans {S T : Nat → Prop} {a b c : World} (h : Mod S a b) (k : Mod T b c) (hs : ∀ i, i < a.heap.size → T i → S i) : Mod S a c :=
  ⟨k.os.trans h.os, k.tape.trans h.tape, k.output.trans h.output, Nat.le_trans h.size k.size,
    fun i hi hn => (k.block i (Nat.lt_of_lt_of_le hi h.size) (fun ht => hn (hs i hi ht))).trans (h.block i hi hn)⟩
theorem Mod.mono {S T : Nat → Prop} {a b : World} (h : Mod S a b) (hs : ∀ i, i < a.heap.size → S i → T i) : Mod T a b :=
  ⟨h.os, h.tape, h.output, h.size, fun i hi hn => h.block i hi (fun hS => hn (hs i hi hS))⟩
theorem Mod.drew {S : Nat → Prop} {a w : World} (h : Mod S a w) : Mod S a w.drew := ⟨h.os, h.tape, h.output, h.size, h.block⟩
theorem Mod.drewN {S : Nat → Prop} {a w : World} (h : Mod S a w) (n : Nat) : Mod S a (w.drewN n) := ⟨h.os, h.tape, h.output, h.size, h.block⟩
theorem Mod.setRow {S : Nat → Prop} {a w : World} (h : Mod S a w) {g : Nat} (cs : Array Value) : Mod (fun k => S k ∨ k = g) a (w.setRow g cs) :=
  ⟨h.os, h.tape, h.output, by have := h.size; simp [World.setRow]; omega, fun i hi hn => (setRow_other w g i _ (fun e => hn (Or.inr e))).trans (h.block i hi (fun hS => hn (Or.inl hS)))⟩
/-- What was written anew alone. -/
theorem Mod.drop_new {S : Nat → Prop} {a b : World} {g : Nat} (h : Mod (fun k => S k ∨ k = g) a b) (hg : a.heap.size ≤ g) : Mod S a b :=
  h.mono (fun i hi h => h.elim id (fun e => by omega))
theorem Mod.alloc {S : Nat → Prop} {a w : World} (h : Mod S a w) (o : Obj) : Mod S a (w.alloc o) :=
  ⟨h.os, h.tape, h.output, by have := h.size; simp; omega, fun i hi hn => (Below.heap_alloc _ _ _ (Nat.lt_of_lt_of_le hi h.size)).trans (h.block i hi hn)⟩
theorem Mod.setCell {S : Nat → Prop} {a w : World} (h : Mod S a w) {p : Addr} (hp : p.block < a.heap.size → S p.block) (u : Value) : Mod S a (w.setCell p u) :=
  ⟨h.os, h.tape, h.output, by have := h.size; simp [World.setCell]; omega, fun i hi hn => (Below.heap_setCell _ _ _ _ (fun e => hn (by subst e; exact hp hi))).trans (h.block i hi hn)⟩
theorem Mod.grown {S : Nat → Prop} {a w w' : World} {row : Option Nat} (h : Mod S a w) (hg : w.grownBy w' row) (hr : ∀ k, row = some k → k < a.heap.size → S k) : Mod S a w' :=
  ⟨hg.os.trans h.os, hg.tape.trans h.tape, hg.output.trans h.output, Nat.le_trans h.size hg.size,
    fun i hi hn => (hg.block i (Nat.lt_of_lt_of_le hi h.size) (fun e => hn (hr i e.symm hi))).trans (h.block i hi hn)⟩
theorem Mod.of_below {B : Nat} {w w' : World} (h : Below B w w') : Mod (fun k => B ≤ k) w w' :=
  ⟨h.os, h.tape, h.output, h.size, fun k _ hn => h.block k (by omega)⟩
theorem Mod.to_below {S : Nat → Prop} {w w' : World} {B : Nat} (h : Mod S w w') (hB : B ≤ w.heap.size) (hS : ∀ k, k < B → ¬ S k) : Below B w w' :=
  ⟨h.os, h.tape, h.output, h.size, fun k hk => h.block k (by omega) (hS k hk)⟩

def vals (bs : List UInt8) : List Value := bs.map fun b => Value.int .u8 b.toNat
theorem vals_len (bs : List UInt8) : (vals bs).length = bs.length := by simp [vals]
theorem vals_app (a b : List UInt8) : vals (a ++ b) = vals a ++ vals b := by simp [vals]

/-- Block b is a struct of one field, a slice value v that owns the bytes bs in a row of its own. -/
structure OutAt (T E : TypeId) (w : World) (b : Nat) (v : Value) (bs : List UInt8) : Prop where
  blk : w.heap[b]? = some (.cells #[v] T (0, 0))
  own : w.ownsRow 0 E 1 v bs.length (vals bs)
  ne : v.ownBlock ≠ some b

theorem OutAt.cell {T E : TypeId} {w : World} {b : Nat} {v : Value} {bs : List UInt8} (h : OutAt T E w b v bs) : w.cell? ⟨b, 0, none⟩ = some v := by
  unfold World.cell?; rw [h.blk]; rfl
theorem OutAt.froz {T E : TypeId} {w : World} {b : Nat} {v : Value} {bs : List UInt8} (h : OutAt T E w b v bs) : w.frozen? ⟨b, 0, none⟩ = false := by
  unfold World.frozen?; rw [h.blk]; rfl
theorem OutAt.lt {T E : TypeId} {w : World} {b : Nat} {v : Value} {bs : List UInt8} (h : OutAt T E w b v bs) : b < w.heap.size := (Array.getElem?_eq_some_iff.1 h.blk).1
theorem OutAt.fresh {T E : TypeId} (w : World) : OutAt T E (w.alloc (.cells #[.slice none 0 0] T)) w.heap.size (.slice none 0 0) [] :=
  ⟨heap_alloc_new w _, World.ownsRow_nil _ _ _ _, by simp [Value.ownBlock]⟩
theorem OutAt.kept {T E : TypeId} {w w' : World} {b : Nat} {v : Value} {bs : List UInt8} {S : Nat → Prop} (h : OutAt T E w b v bs) (hm : Mod S w w') (hb : ¬ S b) (hv : ∀ k, v.ownBlock = some k → ¬ S k) : OutAt T E w' b v bs := by
  refine ⟨(hm.block b h.lt hb).trans h.blk, ⟨h.own.1, ?_⟩, h.ne⟩
  rcases h.own.2 with hn | ⟨g, cap, cur, rfl, hg, hh, r⟩
  · exact .inl hn
  · exact .inr ⟨g, cap, cur, rfl, hg, (hm.block g (Array.getElem?_eq_some_iff.1 hh).1 (hv g rfl)).trans hh, r⟩

theorem OutAt.alloc {T E : TypeId} {w : World} {b : Nat} {v : Value} {bs : List UInt8} (h : OutAt T E w b v bs) (o : Obj) : OutAt T E (w.alloc o) b v bs :=
  h.kept ((Mod.refl (fun _ => False) w).alloc o) (fun h => h) (fun _ _ h => h)

/-- The struct's field is stored anew: a slice value that owns more. -/
theorem OutAt.store {T E : TypeId} {w w1 : World} {b : Nat} {v v1 : Value} {bs bs1 : List UInt8} (h : OutAt T E w b v bs) (hg : w.grownBy w1 v.ownBlock) (hown : w1.ownsRow 0 E 1 v1 bs1.length (vals bs1)) (hne : v1.ownBlock ≠ some b) :
    OutAt T E (w1.setCell ⟨b, 0, none⟩ v1) b v1 bs1 := by
  have hb : w1.heap[b]? = some (.cells #[v] T (0, 0)) := (hg.block b h.lt (fun e => h.ne e.symm)).trans h.blk
  refine ⟨?_, ⟨hown.1, ?_⟩, hne⟩
  · have := heap_setCell_same w1 b 0 #[v] T v1 hb
    simpa using this
  · rcases hown.2 with hn | ⟨g, cap, cur, rfl, hg', hh, r⟩
    · exact .inl hn
    · refine .inr ⟨g, cap, cur, rfl, hg', ?_, r⟩
      rw [Below.heap_setCell _ _ _ _ (by intro e; exact hne (by simp [Value.ownBlock, e]))]
      exact hh

/-- A slice value that owns something shows its address. -/
theorem ownsRow_shape {w : World} {base e size n : Nat} {v : Value} {xs : List Value} (h : w.ownsRow base e size v n xs) (hn : 0 < n) : ∃ g cap, v = .slice (some ⟨g, 0, none⟩) n cap := by
  rcases h.2 with ⟨_, h0⟩ | ⟨g, cap, _, hv, _⟩
  · omega
  · exact ⟨g, cap, hv⟩

/-- An append to an owned row, as a step of a region that draws. -/
theorem step_append_own {P : Program} {ops : Array Oper} {o : Oper} {a : Act} {w : World} {K : Act → World → Prop} {Q : Exit → Act → World → Prop} {E : Prop}
    (hgd : o.guard = none) (s x : Operand) (t : TypeId)
    (ho : o.op = .call { callee := .builtin .append, args := #[s, x], argTypes := #[t, t] })
    (base : Nat) (e : TypeId) (i : TypeInfo) (z : Value) (size bytes : Nat) (ht : P.underlying t = some (.slice e)) (hi : P.info? e = some i) (hz : i.zero = some z)
    (hsize : i.size = size) (hby : i.bytes = bytes) (hzs : z.cells.size = size) (hsz : 0 < size)
    (v : Value) (n : Nat) (xs : List Value) (hs : a.eval s = v) (hown : w.ownsRow base e size v n xs)
    (ad : Addr) (m c : Nat) (news : List Value) (hx : a.eval x = .slice (some ad) m c) (hl : news.length = m * size) (hnews : ∀ j u, news[j]? = some u → w.cell? (ad.add j) = some u) (h1 : ∀ u ∈ news, u.oneCell' = true)
    (h63 : n + m ≤ maxLen) (hbytes : (n + m) * bytes ≤ 140737488355328) (hbase : base ≤ w.heap.size)
    (h : ∀ v' w', w'.ownsRow base e size v' (n + m) (xs ++ news) → w.grownBy w' v.ownBlock → (v' = .slice none 0 0 ↔ v = .slice none 0 0 ∧ m = 0) → K (a.put o.dst v') w') :
    if Region.wanted o (yielded ops a.tmps) = true then Oper.wp P o a w K Q else E := by
  have hw : Region.wanted o (yielded ops a.tmps) = true := by simp [Region.wanted, hgd]
  rw [if_pos hw]
  exact wp_append_own w s x t ho base e i z size bytes ht hi hz hsize hby hzs hsz v n xs hs hown ad m c news hx hl hnews h1 h63 hbytes hbase h

theorem bapp1 (a : UInt8) (l : List UInt8) : (ByteArray.mk #[a] ++ ByteArray.mk l.toArray) = ByteArray.mk (a :: l).toArray := ByteArray.mk_append_mk [a] l
theorem ret_str {a b : ByteArray} (h : a = b) : Ending.returned (.string a) = .returned (.string b) := by rw [h]
theorem val_str {a b : ByteArray} (h : a = b) : Value.string a = .string b := by rw [h]
theorem val_int {k : IntKind} {a b : Int} (h : a = b) : Value.int k a = .int k b := by rw [h]
theorem ret_int {k : IntKind} {a b : Int} (h : a = b) : Ending.returned (.int k a) = .returned (.int k b) := by rw [h]

theorem convLit1 {P : Program} (src dst e : TypeId) (hs : P.underlying src = some (.slice e)) (he : P.underlying e = some (.int .u8)) (hd : P.underlying dst = some .string) (w : World) (x : Int) :
    (convert src dst (.slice (some ⟨w.heap.size, 0, none⟩) 1 1)).run P (w.alloc (.cells #[.int .u8 x] e)) = .ok (.string ⟨#[UInt8.ofNat x.toNat]⟩) (w.alloc (.cells #[.int .u8 x] e)) := by
  have h := run_convert_bytes_arg (P := P) (w.alloc (.cells #[.int .u8 x] e)) src e hs he w.heap.size 0 1 1 [x] rfl (fun i hi => by
    obtain rfl : i = 0 := by omega
    unfold World.cell?
    rw [heap_alloc_new]
    rfl) dst hd
  simpa [strOfNums] using h

/-- The old world's name is kept. -/
theorem Lib.flip {P : Program} {f : FuncId} {args : Array Value} {w : World} {v : Ending} (h : Calls P f args w fun e w' => e = v ∧ w' = w) : Calls P f args w fun e w' => e = v ∧ w = w' :=
  h.mono fun _ _ ⟨a, b⟩ => ⟨a, b.symm⟩

/-- A shift to the right of a number from 0 on. -/
theorem shr_nat {P : Program} (k j : IntKind) (n s : Nat) (w : World) (hs : s ≤ k.bits) : (Op.shift .shr k (n : Int) j (s : Int)).run P w = .ok (.int k ((n / 2 ^ s : Nat) : Int)) w := by
  have h0 : ¬ ((s : Int) < 0) := by omega
  have hm : min ((s : Int)).toNat k.bits = s := by rw [Int.toNat_natCast]; exact Nat.min_eq_left hs
  unfold Op.shift
  rw [if_neg h0]
  simp only [hm]
  have : (n : Int).fdiv (2 ^ s) = ((n / 2 ^ s : Nat) : Int) := by
    rw [Int.fdiv_eq_ediv_of_nonneg _ (by exact_mod_cast Nat.zero_le (2 ^ s))]
    push_cast
    rfl
  rw [this]
  rfl

/-- A whole variable is stored: an array or a struct by value. -/
theorem wp_store_row {P : Program} {o : Oper} {a : Act} {w : World} {K : Act → World → Prop} {Q : Exit → Act → World → Prop} (ty : TypeId) (x y : Operand) (ho : o.op = .store ty x y)
    (g : Nat) (hx : a.eval x = .pointer (some ⟨g, 0, none⟩)) (t : TypeId) (old cs : Array Value) (hy : a.eval y = .agg cs) (hg : w.heap[g]? = some (.cells old t (0, 0))) (hsz : old.size = cs.size)
    (hi : (P.info? ty).map (·.size) = some cs.size) (h1 : ∀ v ∈ cs.toList, v.oneCell' = true)
    (h : K (a.put o.dst undef) (w.setRow g cs)) : o.wp P a w K Q := by
  have hst := run_storeCells_at P g 0 t cs.toList 0 old w hg (by simp; omega) h1
  have e : (old.toList.take (0 + 0) ++ cs.toList ++ old.toList.drop (0 + 0 + cs.toList.length)).toArray = cs := by
    have : old.toList.drop (0 + 0 + cs.toList.length) = [] := List.drop_eq_nil_of_le (by simp; omega)
    rw [this]; simp
  rw [e] at hst
  cases hq : P.info? ty with
  | none => simp [hq] at hi
  | some i =>
    have hs : i.size = cs.size := by simpa [hq] using hi
    have hv : (storeVar ty ⟨g, 0, none⟩ (.agg cs)).run P w = .ok () (w.setRow g cs) := by
      simp [storeVar, sizeOf, typeInfo, hq, hs, Value.cells, hst]
    unfold Oper.wp execOp
    simp only [ho, hx, hy, Instr.storeAt, Instr.sureAddr, Sem.run_bind, Sem.run_pure, Result.andThen_ok, hv]
    exact h

theorem wpList_store_row {P : Program} {ops : Array Oper} {rest : List Oper} {o : Oper} {a : Act} {w : World} {Q : Exit → Act → World → Prop} (hgd : o.guard = none) (hdst : o.dst = none) (ty : TypeId) (x y : Operand) (ho : o.op = .store ty x y)
    (g : Nat) (hx : a.eval x = .pointer (some ⟨g, 0, none⟩)) (t : TypeId) (old cs : Array Value) (hy : a.eval y = .agg cs) (hg : w.heap[g]? = some (.cells old t (0, 0))) (hsz : old.size = cs.size)
    (hi : (P.info? ty).map (·.size) = some cs.size) (h1 : ∀ v ∈ cs.toList, v.oneCell' = true)
    (h : wpList P ops Q rest a (w.setRow g cs)) : wpList P ops Q (o :: rest) a w :=
  wpList_plain hgd fun _ hK => wp_store_row ty x y ho g hx t old cs hy hg hsz hi h1 (hK _ _ (by rw [hdst]; exact h))

/-- Numbers as cells. -/
def nums (k : IntKind) (A : List Nat) : List Value := A.map fun (x : Nat) => Value.int k (x : Int)
theorem nums_len (k : IntKind) (A : List Nat) : (nums k A).length = A.length := by simp [nums]
theorem nums_one (k : IntKind) (A : List Nat) : ∀ v ∈ nums k A, v.oneCell' = true := by
  intro v hv; obtain ⟨x, _, rfl⟩ := List.mem_map.1 hv; rfl
theorem nums_get (k : IntKind) (A : List Nat) (i : Nat) (h : i < A.length) : (nums k A)[i]? = some (.int k (A[i]'h)) := by simp [nums, h]
theorem nums_set (k : IntKind) (A : List Nat) (i x : Nat) : (nums k A).set i (.int k x) = nums k (A.set i x) := by simp [nums, List.map_set]

/-- A block of numbers. -/
def RowAt (k : IntKind) (T : TypeId) (w : World) (g : Nat) (A : List Nat) : Prop := w.heap[g]? = some (.cells (nums k A).toArray T (0, 0))
theorem RowAt.cell {k : IntKind} {T : TypeId} {w : World} {g : Nat} {A : List Nat} (h : RowAt k T w g A) (i : Nat) (hi : i < A.length) : w.cell? ⟨g, i, none⟩ = some (.int k (A[i]'hi)) := by
  rw [cell_of_row w g i _ T (0, 0) h]; simpa using nums_get k A i hi
theorem RowAt.froz {k : IntKind} {T : TypeId} {w : World} {g : Nat} {A : List Nat} (h : RowAt k T w g A) (i : Nat) : w.frozen? ⟨g, i, none⟩ = false := frozen_of_row w g i _ T h
theorem RowAt.lt {k : IntKind} {T : TypeId} {w : World} {g : Nat} {A : List Nat} (h : RowAt k T w g A) : g < w.heap.size := (Array.getElem?_eq_some_iff.1 h).1
theorem RowAt.set {k : IntKind} {T : TypeId} {w : World} {g : Nat} {A : List Nat} (h : RowAt k T w g A) (i x : Nat) : RowAt k T (w.setCell ⟨g, i, none⟩ (.int k x)) g (A.set i x) := by
  have := heap_setCell_same w g i _ T (.int k x) h
  unfold RowAt
  rw [this, ← nums_set]
  simp
theorem RowAt.kept {k : IntKind} {T : TypeId} {w w' : World} {g : Nat} {A : List Nat} {S : Nat → Prop} (h : RowAt k T w g A) (hm : Mod S w w') (hg : ¬ S g) : RowAt k T w' g A := (hm.block g h.lt hg).trans h

/-- An array of numbers, by value, indexed. -/
theorem run_index_nums {P : Program} (T E : TypeId) (len : Nat) (k : IntKind) (A : List Nat) (i : Nat) (hi : i < A.length) (hT : P.underlying T = some (.array len E)) (hl : A.length = len)
    (hE : P.underlying E = some (.int k)) (hs : (P.info? E).map (·.size) = some 1) (w : World) :
    (Instr.index T (.agg (nums k A).toArray) (.int .i64 (i : Int))).run P w = .ok (.int k (A[i]'hi)) w := by
  have h1 : (0 : Int) ≤ i ∧ (i : Int) < len := by omega
  cases hq : P.info? E with
  | none => simp [hq] at hs
  | some j =>
    have hj : j.size = 1 := by simpa [hq] using hs
    have hg := nums_get k A i hi
    unfold Instr.index
    simp only [asIntOf, Sem.run_bind, Sem.run_pure, Result.andThen_ok, run_underlying hT]
    rw [if_pos h1]
    simp [sizeOf, typeInfo, hq, hj, part, isAgg, run_underlying hE, hg]
end Go.Proofs.YtpdhmjmklmoknaaDoor

namespace Go.Proofs.YtpdhmjmklmoknaaDoor
open Go.RowKit

/-- How an element lies in memory: k cells. -/
structure Enc (α : Type) where
  f : α → List Value
  k : Nat
  len : ∀ x, (f x).length = k
  one : ∀ x, ∀ v ∈ f x, v.oneCell' = true
  pos : 0 < k

section
variable {α : Type} (E : Enc α)
def Enc.all (L : List α) : List Value := L.flatMap E.f
theorem Enc.all_nil : E.all [] = [] := rfl
theorem Enc.all_app (A B : List α) : E.all (A ++ B) = E.all A ++ E.all B := by simp [Enc.all]
theorem Enc.all_len (L : List α) : (E.all L).length = L.length * E.k := by
  induction L with
  | nil => simp [Enc.all]
  | cons x l ih => rw [show x :: l = [x] ++ l from rfl, E.all_app, List.length_append, ih]; simp [Enc.all, E.len, Nat.add_mul]; omega
theorem Enc.all_one (L : List α) : ∀ v ∈ E.all L, v.oneCell' = true := by
  intro v hv
  obtain ⟨x, _, h⟩ := List.mem_flatMap.1 hv
  exact E.one x v h
theorem Enc.all_get (L : List α) (j i : Nat) (hj : j < L.length) (hi : i < E.k) : (E.all L)[j * E.k + i]? = (E.f L[j])[i]? := by
  induction L generalizing j with
  | nil => simp at hj
  | cons x l ih =>
    rw [show E.all (x :: l) = E.f x ++ E.all l by simp [Enc.all]]
    cases j with
    | zero => rw [Nat.zero_mul, Nat.zero_add, List.getElem?_append_left (by rw [E.len]; exact hi)]; rfl
    | succ j =>
      rw [List.getElem?_append_right (by rw [E.len, Nat.add_mul]; omega), E.len, show (j + 1) * E.k + i - E.k = j * E.k + i by rw [Nat.add_mul]; omega, ih j (by simpa using hj)]
      rfl

/-- The slice at p holds L from its block's head on; nil holds none. -/
def Rw (T : TypeId) (w : World) (p : Option Addr) (cap : Nat) (L : List α) : Prop := w.ownsRow 0 T E.k (.slice p L.length cap) L.length (E.all L)
/-- L is read at ao. -/
def Rd (w : World) (ao : Option Addr) (L : List α) : Prop :=
  ∀ j (h : j < L.length), ∃ bs off, ao = some ⟨bs, off, none⟩ ∧ bs < w.heap.size ∧ ∀ i u, (E.f L[j])[i]? = some u → w.cell? ⟨bs, off + j * E.k + i, none⟩ = some u

variable {E}
theorem Rd.old {w w' : World} {ao : Option Addr} {L : List α} (h : Rd E w ao L) (hb : Below w.heap.size w w') : Rd E w' ao L := by
  intro j hj
  obtain ⟨bs, off, e, hlt, hc⟩ := h j hj
  exact ⟨bs, off, e, Nat.lt_of_lt_of_le hlt hb.size, fun i u hu => (World.cell?_of_block (hb.block bs hlt)).trans (hc i u hu)⟩
theorem Rd.nil (w : World) (ao : Option Addr) : Rd E w ao [] := fun j hj => by simp at hj
theorem Rd.take {w : World} {ao : Option Addr} {L : List α} (h : Rd E w ao L) (n : Nat) : Rd E w ao (L.take n) := by
  intro j hj
  have hj2 : j < L.length := by rw [List.length_take] at hj; omega
  obtain ⟨bs, off, e, hlt, c1⟩ := h j hj2
  refine ⟨bs, off, e, hlt, ?_⟩
  rw [List.getElem_take]; exact c1
theorem Rw.shape {T : TypeId} {w : World} {p : Option Addr} {cap : Nat} {L : List α} (h : Rw E T w p cap L) :
    (p = none ∧ L = [] ∧ cap = 0) ∨ ∃ g, p = some ⟨g, 0, none⟩ ∧ g < w.heap.size ∧ L.length ≤ cap ∧ cap ≤ maxLen ∧ ∃ cur : Array Value, w.heap[g]? = some (.cells cur T (0, 0)) ∧ cur.size = cap * E.k ∧ cur.toList.take (L.length * E.k) = E.all L := by
  rcases h.2 with ⟨e, h0⟩ | ⟨g, cap', cur, e, _, hh, h1, h2, h3, h4⟩
  · simp only [Value.slice.injEq] at e
    exact .inl ⟨e.1, List.eq_nil_of_length_eq_zero h0, e.2.2⟩
  · simp only [Value.slice.injEq] at e
    obtain ⟨rfl, _, rfl⟩ := e
    exact .inr ⟨g, rfl, (Array.getElem?_eq_some_iff.1 hh).1, h1, h2, cur, hh, h3, h4⟩
theorem Rw.of_row {T : TypeId} {w : World} {g cap : Nat} {L : List α} {cur : Array Value} (hh : w.heap[g]? = some (.cells cur T (0, 0))) (h1 : L.length ≤ cap) (h2 : cap ≤ maxLen) (h3 : cur.size = cap * E.k) (h4 : cur.toList.take (L.length * E.k) = E.all L) :
    Rw E T w (some ⟨g, 0, none⟩) cap L := ⟨by rw [E.all_len], .inr ⟨g, cap, cur, rfl, Nat.zero_le _, hh, h1, h2, h3, h4⟩⟩
theorem Rw.empty (T : TypeId) (w : World) : Rw E T w none 0 ([] : List α) := World.ownsRow_nil _ _ _ _
theorem Rw.cap_le {T : TypeId} {w : World} {p : Option Addr} {cap : Nat} {L : List α} (h : Rw E T w p cap L) : L.length ≤ cap := by
  rcases h.shape with ⟨_, rfl, _⟩ | ⟨g, _, _, hc, _⟩
  · exact Nat.zero_le _
  · exact hc
theorem Rw.made (T : TypeId) (w : World) (L : List α) (hl : L.length ≤ maxLen) : Rw E T (w.alloc (.cells (E.all L).toArray T)) (some ⟨w.heap.size, 0, none⟩) L.length L :=
  Rw.of_row (heap_alloc_new _ _) (Nat.le_refl _) hl (by rw [List.size_toArray, E.all_len]) (by rw [List.take_of_length_le (by simp [E.all_len])])
theorem Rw.lt {T : TypeId} {w : World} {a : Addr} {cap : Nat} {L : List α} (h : Rw E T w (some a) cap L) : a.block < w.heap.size := by
  rcases h.shape with ⟨e, _⟩ | ⟨g, e, hl, _⟩
  · cases e
  · cases e; exact hl
theorem Rw.kept {T : TypeId} {w w' : World} {p : Option Addr} {cap : Nat} {L : List α} {S : Nat → Prop} (h : Rw E T w p cap L) (hm : Mod S w w') (hp : ∀ a, p = some a → ¬ S a.block) : Rw E T w' p cap L := by
  rcases h.shape with ⟨rfl, rfl, rfl⟩ | ⟨g, rfl, hl, h1, h2, cur, hh, h3, h4⟩
  · exact Rw.empty _ _
  · exact Rw.of_row ((hm.block g hl (hp _ rfl)).trans hh) h1 h2 h3 h4
theorem Rw.old {T : TypeId} {w w' : World} {p : Option Addr} {cap : Nat} {L : List α} (h : Rw E T w p cap L) (hb : Below w.heap.size w w') : Rw E T w' p cap L :=
  h.kept (Mod.of_below hb) (fun a e hs => by subst e; exact Nat.lt_irrefl _ (Nat.lt_of_lt_of_le h.lt hs))
theorem Rw.rd {T : TypeId} {w : World} {p : Option Addr} {cap : Nat} {L : List α} (h : Rw E T w p cap L) : Rd E w p L := by
  intro j hj
  rcases h.shape with ⟨rfl, rfl, rfl⟩ | ⟨g, rfl, hl, h1, h2, cur, hh, h3, h4⟩
  · simp at hj
  · refine ⟨g, 0, rfl, hl, fun i u hu => ?_⟩
    have hi : i < E.k := by have := (List.getElem?_eq_some_iff.1 hu).1; rwa [E.len] at this
    rw [← E.all_get L j i hj hi, ← h4] at hu
    have hlt : j * E.k + i < L.length * E.k := by
      have := Nat.mul_le_mul_right E.k (show j + 1 ≤ L.length by omega); rw [Nat.add_mul] at this; omega
    rw [List.getElem?_take_of_lt hlt] at hu
    rw [cell_of_row w g _ _ T (0, 0) hh, Nat.zero_add]
    simpa using hu
/-- Behind an append: the slice holds more, in its own block or in a new one. -/
def PushR (E : Enc α) (T : TypeId) (w : World) (p : Option Addr) (B : List α) (q : Option Addr) (cap : Nat) (w' : World) : Prop :=
  Rw E T w' q cap B ∧ Mod (fun i => ∃ a, p = some a ∧ i = a.block) w w' ∧ ∀ a, q = some a → p = some a ∨ w.heap.size ≤ a.block
theorem run_append_no {P : Program} {w : World} (t ty e : TypeId) (i : TypeInfo) (ht : P.underlying t = some (.slice e)) (hi : P.info? e = some i)
    (p : Option Addr) (n cap : Nat) (hle : n ≤ cap) (hn : p = none → n = 0 ∧ cap = 0) (q : Option Addr) (c : Nat) :
    (Builtin.append_ #[t, t] ty #[.slice p n cap, .slice q 0 c]).run P w = .ok (.slice p n cap) w := by
  cases p with
  | some a => cases q <;> simp [Builtin.append_, run_underlying ht, sizeOf, typeInfo, hi, Builtin.lenOf, Builtin.firstCells, hle, storeCells, loadCells, loadCellsFrom]
  | none =>
    obtain ⟨rfl, rfl⟩ := hn rfl
    cases q <;> simp [Builtin.append_, run_underlying ht, sizeOf, typeInfo, hi, Builtin.lenOf, Builtin.firstCells, loadCells, loadCellsFrom]
theorem wpList_pushR {P : Program} {ops : Array Oper} {rest : List Oper} {o : Oper} {a : Act} {Q : Exit → Act → World → Prop} {w : World} (E : Enc α) (hgd : o.guard = none) (s x : Operand) (Ts T : TypeId) (z : Value) (by_ : Nat)
    (ho : o.op = .call { callee := .builtin .append, args := #[s, x], argTypes := #[Ts, Ts] }) (hT : P.underlying Ts = some (.slice T)) (hi : (P.info? T).map (fun i => (i.zero, i.size, i.bytes)) = some (some z, E.k, by_)) (hzs : z.cells.size = E.k) (hby : by_ ≤ 1024)
    (p : Option Addr) (cap n : Nat) (L : List α) (hn : L.length = n) (hs : a.eval s = .slice p n cap) (hS : Rw E T w p cap L) (ao : Option Addr) (m cx : Nat) (Y : List α) (hm : Y.length = m) (hx : a.eval x = .slice ao m cx) (hY : Rd E w ao Y) (hl : n + m ≤ 100000000000)
    (h : ∀ q c w', PushR E T w p (L ++ Y) q c w' → wpList P ops Q rest (a.put o.dst (.slice q (n + m) c)) w') :
    wpList P ops Q (o :: rest) a w := by
  cases hq : P.info? T with
  | none => rw [hq] at hi; cases hi
  | some i =>
    rw [hq] at hi
    simp only [Option.map_some, Option.some.injEq, Prod.mk.injEq] at hi
    obtain ⟨hz, h1, h2⟩ := hi
    subst hn
    subst hm
    have hmul : (L.length + Y.length) * by_ ≤ 140737488355328 := Nat.le_trans (Nat.mul_le_mul hl hby) (by decide)
    by_cases h0 : 0 < Y.length
    · obtain ⟨bs, off, rfl, hbs, _⟩ := hY 0 h0
      refine wpList_append_lies _ hgd s x Ts ho 0 T i z E.k by_ hT hq hz h1 h2 hzs E.pos _ L.length (E.all L) hs hS ⟨bs, off, none⟩ Y.length cx (E.all Y) hx (E.all_len Y) ?_ (E.all_one _) h0 (by unfold maxLen; omega) hmul (Nat.zero_le _) _ rfl ?_
      · intro j u hj
        have hjl : j < Y.length * E.k := by
          have := (List.getElem?_eq_some_iff.1 hj).1
          rwa [E.all_len] at this
        have hd : j / E.k < Y.length := by rw [Nat.div_lt_iff_lt_mul E.pos]; exact hjl
        have hr : j % E.k < E.k := Nat.mod_lt _ E.pos
        have he : j / E.k * E.k + j % E.k = j := by rw [Nat.mul_comm]; exact Nat.div_add_mod j E.k
        obtain ⟨bs', off', e, _, c1⟩ := hY (j / E.k) hd
        cases e
        have hadd : (⟨bs, off, none⟩ : Addr).add j = ⟨bs, off + j, none⟩ := by unfold Addr.add; split <;> simp_all
        rw [← he, E.all_get Y _ _ hd hr] at hj
        have := c1 _ _ hj
        rw [Nat.add_assoc, he] at this
        rw [hadd, this]
      · intro g c w' hown hgrow hat _
        refine h (some ⟨g, 0, none⟩) c w' ⟨?_, ?_, ?_⟩
        · unfold Rw; rw [List.length_append, E.all_app]; exact hown
        · refine (Mod.refl _ w).grown hgrow ?_
          intro j hj _
          cases p with
          | none => simp [Value.ownBlock] at hj
          | some a => simp [Value.ownBlock] at hj; exact ⟨a, rfl, hj.symm⟩
        · rintro a' e; cases e
          rcases hat with hat | hat
          · left
            rcases hS.shape with ⟨rfl, _⟩ | ⟨g', rfl, _⟩
            · simp [Value.ownBlock] at hat
            · simp [Value.ownBlock] at hat; subst hat; rfl
          · right; rw [hat]; exact Nat.le_refl _
    · obtain rfl : Y = [] := List.eq_nil_of_length_eq_zero (by omega)
      refine wpList_plain hgd fun K hK => ?_
      have hfin := h p cap w ⟨by rw [List.append_nil]; exact hS, Mod.refl _ w, fun a e => .inl e⟩
      have hle : L.length ≤ cap := hS.cap_le
      have hno : p = none → L.length = 0 ∧ cap = 0 := by
        intro e
        rcases hS.shape with ⟨_, rfl, hc⟩ | ⟨g', e', _⟩
        · exact ⟨rfl, hc⟩
        · rw [e] at e'; cases e'
      have hrun := run_append_no (P := P) (w := w) Ts o.type T i hT hq p L.length cap hle hno ao cx
      unfold Oper.wp
      simp only [List.length_nil] at hx
      simp [execOp, ho, resolve, invoke, builtin, hs, hx, hrun, Result.andThen]
      simp at hfin
      exact hK _ _ hfin
/-- Elements are gathered in a row of its own. -/
structure AccR (E : Enc α) (T : TypeId) (w : World) (i : Nat) (D : List α) (q : Option Addr) (c : Nat) (wr : World) : Prop where
  s : Rw E T wr q c D
  len : D.length = i
  new : ∀ a, q = some a → w.heap.size ≤ a.block
  m : Below w.heap.size w wr
theorem AccR.zero (E : Enc α) (T : TypeId) (w : World) : AccR E T w 0 [] none 0 w := ⟨Rw.empty _ _, rfl, (fun a e => by cases e), Below.refl _ _⟩
theorem AccR.push {T : TypeId} {w : World} {i : Nat} {D : List α} {q : Option Addr} {c : Nat} {wr w' : World} (h : AccR E T w i D q c wr) {Y : List α} {q' : Option Addr} {c' : Nat} (hP : PushR E T wr q (D ++ Y) q' c' w') : AccR E T w (i + Y.length) (D ++ Y) q' c' w' := by
  obtain ⟨hS, hm, hor⟩ := hP
  refine ⟨hS, by rw [List.length_append, h.len], ?_, h.m.trans (hm.to_below h.m.size (by rintro j hj ⟨a, e, rfl⟩; have := h.new a e; omega))⟩
  intro a e
  rcases hor a e with h1 | h1
  · exact h.new _ h1
  · exact Nat.le_trans h.m.size h1
theorem AccR.below {T : TypeId} {w : World} {i : Nat} {D : List α} {q : Option Addr} {c : Nat} {wr w' : World} (h : AccR E T w i D q c wr) (hb : Below wr.heap.size wr w') : AccR E T w i D q c w' :=
  ⟨h.s.old hb, h.len, h.new, h.m.trans (hb.mono h.m.size)⟩
theorem AccR.take {T : TypeId} {w : World} {i : Nat} {D : List α} {q : Option Addr} {c : Nat} {wr : World} (h : AccR E T w i D q c wr) : Rd E wr q D := h.s.rd
end
/-- Elements that were just laid. -/
theorem Rd.made {α : Type} (E : Enc α) (w : World) (T : TypeId) (L : List α) (hl : L.length ≤ maxLen) : Rd E (w.alloc (.cells (E.all L).toArray T)) (some ⟨w.heap.size, 0, none⟩) L := (Rw.made (E := E) T w L hl).rd

/-- Texts. -/
def encS : Enc (List UInt8) := ⟨fun s => [.string ⟨s.toArray⟩], 1, fun _ => rfl, fun _ v hv => by rw [List.mem_singleton.1 hv]; rfl, Nat.one_pos⟩
/-- Ints. -/
def encI : Enc Int := ⟨fun x => [.int .i64 x], 1, fun _ => rfl, fun _ v hv => by rw [List.mem_singleton.1 hv]; rfl, Nat.one_pos⟩
theorem encS_all (ss : List (List UInt8)) : encS.all ss = ss.map fun s => Value.string ⟨s.toArray⟩ := by
  induction ss with
  | nil => rfl
  | cons a l ih => rw [show encS.all (a :: l) = encS.f a ++ encS.all l from rfl, ih]; rfl
theorem Rd.str {w : World} {ao : Option Addr} {L : List (List UInt8)} (h : Rd encS w ao L) (j : Nat) (hj : j < L.length) : ∃ bs off, ao = some ⟨bs, off, none⟩ ∧ bs < w.heap.size ∧ w.cell? ⟨bs, off + j, none⟩ = some (.string ⟨(L[j]).toArray⟩) := by
  obtain ⟨bs, off, e, hlt, hc⟩ := h j hj
  exact ⟨bs, off, e, hlt, by have := hc 0 _ rfl; simpa [encS] using this⟩
end Go.Proofs.YtpdhmjmklmoknaaDoor

namespace Go.Proofs.YtpdhmjmklmoknaaDoor
open Go.RowKit

/-- What stands between bytes of a kind. -/
def splA (c : UInt8) : List UInt8 → List UInt8 → List (List UInt8)
  | acc, [] => [acc]
  | acc, x :: r => if x = c then acc :: splA c [] r else splA c (acc ++ [x]) r
def spl (c : UInt8) (s : List UInt8) : List (List UInt8) := splA c [] s

theorem splA_ne (c : UInt8) : ∀ (s acc : List UInt8), splA c acc s ≠ []
  | [], acc => by simp [splA]
  | x :: r, acc => by
    rw [splA]; split
    · simp
    · exact splA_ne c r _
theorem splA_none (c : UInt8) : ∀ (s acc : List UInt8), c ∉ s → splA c acc s = [acc ++ s]
  | [], acc, _ => by simp [splA]
  | x :: r, acc, h => by
    rw [splA, if_neg (fun e => h (by simp [e])), splA_none c r _ (fun e => h (List.mem_cons_of_mem _ e))]; simp
theorem splA_cut (c : UInt8) (b : List UInt8) : ∀ (a acc : List UInt8), c ∉ a → splA c acc (a ++ c :: b) = (acc ++ a) :: splA c [] b
  | [], acc, _ => by simp [splA]
  | x :: r, acc, h => by
    rw [List.cons_append, splA, if_neg (fun e => h (by simp [e])), splA_cut c b r _ (fun e => h (List.mem_cons_of_mem _ e))]; simp
theorem splA_len (c : UInt8) : ∀ (s acc : List UInt8), (splA c acc s).length = s.count c + 1
  | [], acc => by simp [splA]
  | x :: r, acc => by
    rw [splA]; split
    · rename_i h; rw [List.length_cons, splA_len c r, h, List.count_cons_self]
    · rename_i h; rw [splA_len c r, List.count_cons_of_ne (by simpa using h)]
theorem spl_len (c : UInt8) (s : List UInt8) : (spl c s).length = s.count c + 1 := splA_len c s []
theorem spl_len_le (c : UInt8) (s : List UInt8) : (spl c s).length ≤ s.length + 1 := by rw [spl_len]; have := List.count_le_length (a := c) (l := s); omega
theorem splA_free (c : UInt8) : ∀ (s acc : List UInt8), c ∉ acc → ∀ p ∈ splA c acc s, c ∉ p
  | [], acc, h => by simpa [splA] using h
  | x :: r, acc, h => by
    rw [splA]; split
    · intro p hp
      rcases List.mem_cons.1 hp with rfl | hp
      · exact h
      · exact splA_free c r [] (by simp) p hp
    · rename_i hx
      exact splA_free c r _ (by simp [h]; exact fun e => hx e.symm)
theorem spl_free (c : UInt8) (s : List UInt8) : ∀ p ∈ spl c s, c ∉ p := splA_free c s [] (by simp)
theorem splA_sizes (c : UInt8) : ∀ (s acc : List UInt8), ∀ p ∈ splA c acc s, p.length ≤ acc.length + s.length
  | [], acc => by simp [splA]
  | x :: r, acc => by
    rw [splA]; split
    · intro p hp
      rcases List.mem_cons.1 hp with rfl | hp
      · simp
      · have := splA_sizes c r [] p hp; simp at this ⊢; omega
    · intro p hp
      have := splA_sizes c r _ p hp; simp at this ⊢; omega
theorem spl_sizes (c : UInt8) (s : List UInt8) : ∀ p ∈ spl c s, p.length ≤ s.length := fun p hp => by simpa using splA_sizes c s [] p hp

/-- Pieces with a byte between each two. -/
def jn (c : UInt8) : List (List UInt8) → List UInt8
  | [] => []
  | [a] => a
  | a :: b :: r => a ++ c :: jn c (b :: r)
theorem jn_cons (c : UInt8) (a : List UInt8) (l : List (List UInt8)) (h : l ≠ []) : jn c (a :: l) = a ++ c :: jn c l := by cases l <;> simp_all [jn]
theorem jn_splA (c : UInt8) : ∀ (s acc : List UInt8), jn c (splA c acc s) = acc ++ s
  | [], acc => by simp [splA, jn]
  | x :: r, acc => by
    rw [splA]; split
    · rename_i h; rw [jn_cons c _ _ (splA_ne c r []), jn_splA c r, h]; simp
    · rw [jn_splA c r]; simp
theorem jn_spl (c : UInt8) (s : List UInt8) : jn c (spl c s) = s := jn_splA c s []

theorem index_none {s : List UInt8} {c : UInt8} (h : Lib.indexByte s c = -1) : c ∉ s := by
  intro hc
  obtain ⟨k, hk, e⟩ := List.getElem_of_mem hc
  exact Lib.indexByte_none h k (by rw [List.getElem?_eq_getElem hk, e])
theorem index_some {s : List UInt8} {c : UInt8} {o : Nat} (h : Lib.indexByte s c = (o : Int)) : o < s.length ∧ c ∉ s.take o ∧ s = s.take o ++ c :: s.drop (o + 1) := by
  obtain ⟨h1, h2⟩ := Lib.indexByte_some h
  obtain ⟨ho, e⟩ := List.getElem?_eq_some_iff.1 h1
  refine ⟨ho, ?_, ?_⟩
  · intro hc
    obtain ⟨k, hk, e2⟩ := List.getElem_of_mem hc
    rw [List.length_take] at hk
    rw [List.getElem_take] at e2
    exact h2 k (by omega) (by rw [List.getElem?_eq_getElem (by omega), e2])
  · conv => lhs; rw [← List.take_append_drop o s]
    rw [List.drop_eq_getElem_cons ho, e]
theorem spl_none {s : List UInt8} {c : UInt8} (h : Lib.indexByte s c = -1) : spl c s = [s] := by unfold spl; rw [splA_none c s [] (index_none h)]; simp
theorem spl_some {s : List UInt8} {c : UInt8} {o : Nat} (h : Lib.indexByte s c = (o : Int)) : spl c s = s.take o :: spl c (s.drop (o + 1)) := by
  obtain ⟨_, h1, h2⟩ := index_some h
  conv => lhs; rw [h2]
  unfold spl; rw [splA_cut c _ _ [] h1]; simp
theorem index_or (s : List UInt8) (c : UInt8) : Lib.indexByte s c = -1 ∨ ∃ o : Nat, Lib.indexByte s c = (o : Int) := by
  have := Lib.indexByte_ge s c
  by_cases h : Lib.indexByte s c = -1
  · exact .inl h
  · exact .inr ⟨(Lib.indexByte s c).toNat, by omega⟩

def isDg (c : UInt8) : Bool := decide (48 ≤ c.toNat) && decide (c.toNat ≤ 57)
def isLt (c : UInt8) : Bool := decide (97 ≤ c.toNat) && decide (c.toNat ≤ 122)
def isHx (c : UInt8) : Bool := isDg c || (decide (97 ≤ c.toNat) && decide (c.toNat ≤ 102))
/-- The number of a row of digits. -/
def numD (l : List UInt8) : Nat := l.foldl (fun a c => 10 * a + (c.toNat - 48)) 0
theorem numD_snoc (l : List UInt8) (c : UInt8) : numD (l ++ [c]) = 10 * numD l + (c.toNat - 48) := by simp [numD]
theorem numD_take (l : List UInt8) (i : Nat) (hi : i < l.length) : numD (l.take (i + 1)) = 10 * numD (l.take i) + (l[i].toNat - 48) := by rw [← List.take_append_getElem hi, numD_snoc]
/-- Are the digits written as a number is? -/
def canon (s : List UInt8) : Bool := !s.isEmpty && (decide (s.head? ≠ some 48) || decide (s = [48])) && s.all isDg
def numOk (s : List UInt8) : Bool := canon s && decide (numD s ≤ 1099511627776)
def numO (s : List UInt8) : Option Nat := if numOk s then some (numD s) else none
def plainB (s : List UInt8) (n : Nat) : Bool := !s.isEmpty && decide (s.length ≤ n) && s.all (fun c => isLt c || isDg c)
def nameB (s : List UInt8) : Bool := plainB s 12 && (match s with | [] => false | c :: _ => isLt c)
def hv (c : UInt8) : Nat := if isDg c then c.toNat - 48 else c.toNat - 87
def unh : List UInt8 → List UInt8
  | a :: b :: r => UInt8.ofNat (16 * hv a + hv b) :: unh r
  | _ => []
def hexOk (s : List UInt8) : Bool := !s.isEmpty && decide (s.length % 2 = 0) && s.all isHx
def hexO (s : List UInt8) : Option (List UInt8) := if s = [45] then some [] else if hexOk s then some (unh s) else none
def hdg (n : Nat) : UInt8 := if n < 10 then UInt8.ofNat (48 + n) else UInt8.ofNat (87 + n)
def hexL (s : List UInt8) : List UInt8 := s.flatMap fun b => [hdg (b.toNat / 16), hdg (b.toNat % 16)]
def hexW (s : List UInt8) : List UInt8 := if s = [] then [45] else hexL s

theorem hdg_ok : ∀ n : Fin 16, hv (hdg n.val) = n.val ∧ isHx (hdg n.val) = true := by decide +kernel
theorem hv_ok : ∀ c : UInt8, isHx c = true → hv c < 16 ∧ hdg (hv c) = c := by
  have : ∀ k : Fin 256, isHx (UInt8.ofNat k.val) = true → hv (UInt8.ofNat k.val) < 16 ∧ hdg (hv (UInt8.ofNat k.val)) = UInt8.ofNat k.val := by decide +kernel
  intro c; have := this ⟨c.toNat, c.toNat_lt⟩; simpa using this
theorem hexL_len (s : List UInt8) : (hexL s).length = 2 * s.length := by
  induction s with
  | nil => rfl
  | cons a l ih => rw [show hexL (a :: l) = [hdg (a.toNat / 16), hdg (a.toNat % 16)] ++ hexL l from rfl, List.length_append, ih]; simp; omega
theorem unh_hexL (s : List UInt8) : unh (hexL s) = s ∧ (hexL s).all isHx = true := by
  induction s with
  | nil => exact ⟨rfl, rfl⟩
  | cons a l ih =>
    have ha := a.toNat_lt
    have h1 := hdg_ok ⟨a.toNat / 16, by omega⟩
    have h2 := hdg_ok ⟨a.toNat % 16, by omega⟩
    simp only at h1 h2
    rw [show hexL (a :: l) = hdg (a.toNat / 16) :: hdg (a.toNat % 16) :: hexL l from rfl]
    refine ⟨?_, by simp [h1.2, h2.2]; simpa using ih.2⟩
    rw [unh, ih.1, h1.1, h2.1, show 16 * (a.toNat / 16) + a.toNat % 16 = a.toNat by omega]; simp
theorem hexL_unh : ∀ (s : List UInt8), s.length % 2 = 0 → s.all isHx = true → hexL (unh s) = s
  | [], _, _ => rfl
  | [a], h, _ => by simp at h
  | a :: b :: r, h, ha => by
    simp only [List.all_cons, Bool.and_eq_true] at ha
    obtain ⟨h1, h2⟩ := hv_ok a ha.1
    obtain ⟨h3, h4⟩ := hv_ok b ha.2.1
    have ih := hexL_unh r (by simp only [List.length_cons] at h; omega) ha.2.2
    rw [unh, show ∀ x l, hexL (x :: l) = hdg (x.toNat / 16) :: hdg (x.toNat % 16) :: hexL l from fun _ _ => rfl, ih]
    have e : (UInt8.ofNat (16 * hv a + hv b)).toNat = 16 * hv a + hv b := by simp; omega
    rw [e, show (16 * hv a + hv b) / 16 = hv a by omega, show (16 * hv a + hv b) % 16 = hv b by omega, h2, h4]
theorem unh_len : ∀ s : List UInt8, (unh s).length = s.length / 2
  | [] => rfl
  | [a] => by simp [unh]
  | a :: b :: r => by rw [unh, List.length_cons, unh_len r, List.length_cons, List.length_cons]; omega
theorem hexO_hexW (s : List UInt8) : hexO (hexW s) = some s := by
  unfold hexW
  by_cases h : s = []
  · subst h; rfl
  · rw [if_neg h]
    have hl := hexL_len s
    have hp : 0 < s.length := List.length_pos_iff.2 h
    obtain ⟨h1, h2⟩ := unh_hexL s
    unfold hexO
    rw [if_neg (fun e => by rw [e] at hl; simp at hl; omega), h1]
    have : hexOk (hexL s) = true := by
      unfold hexOk
      have : (hexL s).isEmpty = false := by cases hh : hexL s with
        | nil => rw [hh] at hl; simp at hl; omega
        | cons a l => rfl
      rw [this, h2, hl]; simp
    rw [if_pos this]
theorem hexW_hexO {s b : List UInt8} (h : hexO s = some b) : hexW b = s := by
  unfold hexO at h
  split at h
  · rename_i e; cases h; rw [e]; rfl
  · split at h
    · rename_i hk
      cases h
      unfold hexOk at hk
      simp only [Bool.and_eq_true, Bool.not_eq_true', decide_eq_true_eq] at hk
      have hl := unh_len s
      have hp : s.length ≠ 0 := by intro e; rw [List.eq_nil_of_length_eq_zero e] at hk; simp at hk
      unfold hexW
      rw [if_neg (fun e => by rw [e] at hl; simp at hl; omega), hexL_unh s hk.1.2 hk.2]
    · cases h

theorem snoc_ind {α : Type} {P : List α → Prop} (h0 : P []) (h1 : ∀ l c, P l → P (l ++ [c])) (l : List α) : P l := by
  have : ∀ r : List α, P r.reverse := by
    intro r
    induction r with
    | nil => exact h0
    | cons a r ih => rw [List.reverse_cons]; exact h1 _ _ ih
  have h := this l.reverse
  rwa [List.reverse_reverse] at h
theorem dg_ofNat {c : UInt8} (h : isDg c = true) : UInt8.ofNat (48 + (c.toNat - 48)) = c := by
  unfold isDg at h; simp at h
  rw [show 48 + (c.toNat - 48) = c.toNat by omega]; simp
theorem numD_pos : ∀ (l : List UInt8), l ≠ [] → l.head? ≠ some 48 → l.all isDg = true → 1 ≤ numD l := by
  refine snoc_ind (fun h => absurd rfl h) ?_
  · intro l c ih _ hh ha
    rw [numD_snoc]
    by_cases hl : l = []
    · subst hl
      simp [numD] at *
      unfold isDg at ha; simp at ha
      have : c.toNat ≠ 48 := fun e => hh (UInt8.toNat_inj.1 e)
      omega
    · have := ih hl (by cases l with
        | nil => exact absurd rfl hl
        | cons x r => simpa using hh) (by simp at ha ⊢; exact ha.1)
      omega
theorem dec_num : ∀ (s : List UInt8), canon s = true → Lib.decDigits (numD s) = s := by
  refine snoc_ind (fun h => by simp [canon] at h) ?_
  · intro l c ih h
    unfold canon at h
    simp only [Bool.and_eq_true, Bool.or_eq_true, decide_eq_true_eq, List.all_append] at h
    have hc : isDg c = true := by simpa using h.2.2
    have hcb := hc
    unfold isDg at hcb; simp at hcb
    rw [numD_snoc]
    by_cases hl : l = []
    · subst hl
      rw [show 10 * numD [] + (c.toNat - 48) = c.toNat - 48 by simp [numD], Lib.decDigits_one (by omega), dg_ofNat hc]; rfl
    · have hh : l.head? ≠ some 48 := by
        rcases h.1.2 with h1 | h1
        · cases l with
          | nil => exact absurd rfl hl
          | cons x r => simpa using h1
        · exact absurd (congrArg List.length h1) (by have := List.length_pos_iff.2 hl; rw [List.length_append]; simp only [List.length_cons, List.length_nil]; omega)
      have hp := numD_pos l hl hh h.2.1
      have hcan : canon l = true := by
        unfold canon
        have he : l.isEmpty = false := by cases l with
          | nil => exact absurd rfl hl
          | cons x r => rfl
        rw [he, h.2.1, decide_eq_true hh]; rfl
      rw [Lib.decDigits, dif_neg (by omega), show (10 * numD l + (c.toNat - 48)) / 10 = numD l by omega, show (10 * numD l + (c.toNat - 48)) % 10 = c.toNat - 48 by omega, ih hcan, dg_ofNat hc]

/-- A step. -/
structure St where
  word : List UInt8
  names : List (List UInt8)
  nums : List Nat
  text : List UInt8
/-- What each word needs. -/
def needTab : List (List UInt8 × List UInt8) :=
  [([111, 112, 101, 110], []), ([117, 110, 109, 97, 114, 107], []), ([99, 111, 109, 112, 97, 99, 116], []), ([104, 101, 97, 100], []), ([108, 111, 111, 107], []), ([100, 105, 115, 107], [78]), ([104, 97, 108, 116], [78]), ([99, 108, 111, 99, 107], [78]), ([106, 111, 105, 110], [78]), ([108, 101, 97, 118, 101], [78]), ([97, 103, 97, 105, 110], [73]), ([119, 114, 111, 110, 103], [73]), ([99, 114, 97, 115, 104], [77]), ([109, 97, 114, 107], [76]), ([99, 101, 114, 116], [76, 77]), ([116, 97, 107, 101], [78, 78]), ([114, 97, 119], [72]), ([98, 108, 111, 99, 107], [73, 78, 78, 84, 78, 78, 78, 76])]
def needP (w : List UInt8) : Option (List UInt8) := (needTab.find? (fun p => p.1 == w)).map (·.2)
theorem needP_or {w nd : List UInt8} (h : needP w = some nd) : nd ∈ ([[], [78], [78, 78], [77], [73], [76], [76, 77], [72], [73, 78, 78, 84, 78, 78, 78, 76]] : List (List UInt8)) := by
  unfold needP at h
  cases hf : needTab.find? (fun p => p.1 == w) with
  | none => rw [hf] at h; cases h
  | some p =>
    rw [hf] at h; cases h
    have hm := List.mem_of_find?_eq_some hf
    have : ∀ p ∈ needTab, p.2 ∈ ([[], [78], [78, 78], [77], [73], [76], [76, 77], [72], [73, 78, 78, 84, 78, 78, 78, 76]] : List (List UInt8)) := by decide +kernel
    exact this p hm
def take1 (n : UInt8) (f : List UInt8) (x : St) : Option St :=
  if n = 78 then (if numOk f then some { x with nums := x.nums ++ [numD f] } else none)
  else if n = 73 then (if nameB f then some { x with names := x.names ++ [f] } else none)
  else if n = 76 then (if f = [45] then some x else if (spl 44 f).all nameB then some { x with names := x.names ++ spl 44 f } else none)
  else if n = 77 then (if f = [45] then some x else if (spl 44 f).all numOk then some { x with nums := x.nums ++ (spl 44 f).map numD } else none)
  else if n = 84 then (if plainB f 8 then some { x with text := f } else none)
  else (hexO f).map fun b => { x with text := b }
def takeAll : List UInt8 → List (List UInt8) → St → Option St
  | [], _, x => some x
  | _ :: _, [], _ => none
  | n :: ns, f :: fs, x => (take1 n f x).bind (takeAll ns fs)
def stepW (w : List UInt8) (fs : List (List UInt8)) : Option St :=
  match needP w with
  | none => none
  | some nd => if fs.length = nd.length then takeAll nd fs ⟨w, [], [], []⟩ else none
def stepM (l : List UInt8) : Option St := stepW ((spl 32 l).headD []) (spl 32 l).tail
/-- A list as it is written. -/
def lst (l : List (List UInt8)) : List UInt8 := if l = [] then [45] else jn 44 l
def lnG : List UInt8 → List (List UInt8) → List (List UInt8) → List UInt8 → List UInt8
  | [], _, _, _ => []
  | n :: ns, nm, nu, t =>
    if n = 78 then 32 :: nu.headD [] ++ lnG ns nm nu.tail t
    else if n = 73 then 32 :: nm.headD [] ++ lnG ns nm.tail nu t
    else if n = 76 then 32 :: lst nm ++ lnG ns nm nu t
    else if n = 77 then 32 :: lst nu ++ lnG ns nm nu t
    else if n = 84 then 32 :: t ++ lnG ns nm nu t
    else if n = 72 then 32 :: hexW t ++ lnG ns nm nu t
    else 32 :: lnG ns nm nu t
def lineM (x : St) : List UInt8 := x.word ++ lnG ((needP x.word).getD []) x.names (x.nums.map Lib.decDigits) x.text

theorem canon_of {f : List UInt8} (h : numOk f = true) : Lib.decDigits (numD f) = f := by unfold numOk at h; simp only [Bool.and_eq_true] at h; exact dec_num f h.1
theorem lst_names (f : List UInt8) (nm : List (List UInt8)) (h : (f = [45] ∧ nm = []) ∨ nm = spl 44 f) : lst nm = f := by
  unfold lst
  rcases h with ⟨rfl, rfl⟩ | rfl
  · rfl
  · rw [if_neg (show spl 44 f ≠ [] from splA_ne 44 f []), jn_spl]
theorem dec_map {l : List (List UInt8)} (h : l.all numOk = true) : (l.map numD).map Lib.decDigits = l := by
  induction l with
  | nil => rfl
  | cons a l ih => simp only [List.all_cons, Bool.and_eq_true] at h; rw [List.map_cons, List.map_cons, ih h.2, canon_of h.1]
theorem take_word {n : UInt8} {f : List UInt8} {x y : St} (h : take1 n f x = some y) : y.word = x.word := by
  unfold take1 at h
  repeat' split at h
  all_goals first
    | cases h; done
    | (cases h; rfl)
    | (cases hh : hexO f with
       | none => rw [hh] at h; cases h
       | some b => rw [hh] at h; cases h; rfl)
theorem takeAll_word : ∀ (ns : List UInt8) (fs : List (List UInt8)) (x y : St), takeAll ns fs x = some y → y.word = x.word
  | [], _, x, y, h => by cases h; rfl
  | _ :: _, [], _, _, h => by cases h
  | n :: ns, f :: fs, x, y, h => by
    rw [takeAll] at h
    cases h1 : take1 n f x with
    | none => rw [h1] at h; cases h
    | some z => rw [h1] at h; rw [takeAll_word ns fs z y h, take_word h1]
/-- The line's fields, as they are written. -/
def flds : List (List UInt8) → List UInt8
  | [] => []
  | f :: fs => 32 :: f ++ flds fs
theorem jn_flds (w : List UInt8) : ∀ fs : List (List UInt8), jn 32 (w :: fs) = w ++ flds fs
  | [] => by simp [jn, flds]
  | f :: fs => by rw [jn_cons 32 w _ (by simp), jn_flds f fs]; rfl
theorem take_N {f : List UInt8} {x y : St} (h : take1 78 f x = some y) : y = { x with nums := x.nums ++ [numD f] } ∧ Lib.decDigits (numD f) = f := by
  unfold take1 at h; simp only [if_pos] at h
  split at h
  · rename_i hk; cases h; exact ⟨rfl, canon_of hk⟩
  · cases h
theorem take_I {f : List UInt8} {x y : St} (h : take1 73 f x = some y) : y = { x with names := x.names ++ [f] } := by
  unfold take1 at h
  rw [if_neg (by decide), if_pos rfl] at h
  split at h
  · cases h; rfl
  · cases h
theorem take_L {f : List UInt8} {x y : St} (h : take1 76 f x = some y) : ∃ l, y = { x with names := x.names ++ l } ∧ lst l = f := by
  unfold take1 at h
  rw [if_neg (by decide), if_neg (by decide), if_pos rfl] at h
  split at h
  · rename_i e; cases h; exact ⟨[], by simp, lst_names f [] (.inl ⟨e, rfl⟩)⟩
  · split at h
    · cases h; exact ⟨_, rfl, lst_names f _ (.inr rfl)⟩
    · cases h
theorem take_M {f : List UInt8} {x y : St} (h : take1 77 f x = some y) : ∃ l, y = { x with nums := x.nums ++ l } ∧ lst (l.map Lib.decDigits) = f := by
  unfold take1 at h
  rw [if_neg (by decide), if_neg (by decide), if_neg (by decide), if_pos rfl] at h
  split at h
  · rename_i e; cases h; exact ⟨[], by simp, lst_names f _ (.inl ⟨e, rfl⟩)⟩
  · split at h
    · rename_i hk; cases h; exact ⟨_, rfl, by rw [dec_map hk]; exact lst_names f _ (.inr rfl)⟩
    · cases h
theorem take_T {f : List UInt8} {x y : St} (h : take1 84 f x = some y) : y = { x with text := f } := by
  unfold take1 at h
  rw [if_neg (by decide), if_neg (by decide), if_neg (by decide), if_neg (by decide), if_pos rfl] at h
  split at h
  · cases h; rfl
  · cases h
theorem take_H {f : List UInt8} {x y : St} (h : take1 72 f x = some y) : ∃ b, y = { x with text := b } ∧ hexW b = f := by
  unfold take1 at h
  rw [if_neg (by decide), if_neg (by decide), if_neg (by decide), if_neg (by decide), if_neg (by decide)] at h
  cases hh : hexO f with
  | none => rw [hh] at h; cases h
  | some b => rw [hh] at h; cases h; exact ⟨b, rfl, hexW_hexO hh⟩
theorem takeAll_cons {n : UInt8} {ns : List UInt8} {f : List UInt8} {fs : List (List UInt8)} {x y : St} (h : takeAll (n :: ns) (f :: fs) x = some y) : ∃ z, take1 n f x = some z ∧ takeAll ns fs z = some y := by
  rw [takeAll] at h
  cases h1 : take1 n f x with
  | none => rw [h1] at h; cases h
  | some z => rw [h1] at h; exact ⟨z, rfl, h⟩
theorem lnG_back {nd : List UInt8} (hnd : nd ∈ ([[], [78], [78, 78], [77], [73], [76], [76, 77], [72], [73, 78, 78, 84, 78, 78, 78, 76]] : List (List UInt8))) (fs : List (List UInt8)) (hl : fs.length = nd.length) (w : List UInt8) (x : St)
    (h : takeAll nd fs ⟨w, [], [], []⟩ = some x) : lnG nd x.names (x.nums.map Lib.decDigits) x.text = flds fs := by
  have nil : ∀ {l : List (List UInt8)}, l.length = 0 → l = [] := fun e => List.eq_nil_of_length_eq_zero e
  simp only [List.mem_cons, List.not_mem_nil, or_false] at hnd
  rcases hnd with rfl | rfl | rfl | rfl | rfl | rfl | rfl | rfl | rfl
  · obtain rfl := nil hl; rfl
  · obtain ⟨f, rfl⟩ := List.length_eq_one_iff.1 hl
    obtain ⟨z, h1, h2⟩ := takeAll_cons h; cases h2
    obtain ⟨rfl, e⟩ := take_N h1
    simp [lnG, flds, e]
  · match fs, hl with
    | [f, g], _ =>
      obtain ⟨z, h1, h⟩ := takeAll_cons h
      obtain ⟨rfl, e1⟩ := take_N h1
      obtain ⟨z, h1, h⟩ := takeAll_cons h; cases h
      obtain ⟨rfl, e2⟩ := take_N h1
      simp [lnG, flds, e1, e2]
  · obtain ⟨f, rfl⟩ := List.length_eq_one_iff.1 hl
    obtain ⟨z, h1, h2⟩ := takeAll_cons h; cases h2
    obtain ⟨l, rfl, e⟩ := take_M h1
    simp only [List.nil_append]
    simp [lnG, flds]; exact e
  · obtain ⟨f, rfl⟩ := List.length_eq_one_iff.1 hl
    obtain ⟨z, h1, h2⟩ := takeAll_cons h; cases h2
    obtain rfl := take_I h1
    simp [lnG, flds]
  · obtain ⟨f, rfl⟩ := List.length_eq_one_iff.1 hl
    obtain ⟨z, h1, h2⟩ := takeAll_cons h; cases h2
    obtain ⟨l, rfl, e⟩ := take_L h1
    simp only [List.nil_append]
    simp [lnG, flds]; exact e
  · match fs, hl with
    | [f, g], _ =>
      obtain ⟨z, h1, h⟩ := takeAll_cons h
      obtain ⟨l, rfl, e1⟩ := take_L h1
      obtain ⟨z, h1, h⟩ := takeAll_cons h; cases h
      obtain ⟨l2, rfl, e2⟩ := take_M h1
      simp only [List.nil_append]
      simp [lnG, flds, e1]; exact e2
  · obtain ⟨f, rfl⟩ := List.length_eq_one_iff.1 hl
    obtain ⟨z, h1, h2⟩ := takeAll_cons h; cases h2
    obtain ⟨l, rfl, e⟩ := take_H h1
    simp [lnG, flds, e]
  · match fs, hl with
    | [f1, f2, f3, f4, f5, f6, f7, f8], _ =>
      obtain ⟨z, h1, h⟩ := takeAll_cons h
      obtain rfl := take_I h1
      obtain ⟨z, h1, h⟩ := takeAll_cons h
      obtain ⟨rfl, e2⟩ := take_N h1
      obtain ⟨z, h1, h⟩ := takeAll_cons h
      obtain ⟨rfl, e3⟩ := take_N h1
      obtain ⟨z, h1, h⟩ := takeAll_cons h
      obtain rfl := take_T h1
      obtain ⟨z, h1, h⟩ := takeAll_cons h
      obtain ⟨rfl, e5⟩ := take_N h1
      obtain ⟨z, h1, h⟩ := takeAll_cons h
      obtain ⟨rfl, e6⟩ := take_N h1
      obtain ⟨z, h1, h⟩ := takeAll_cons h
      obtain ⟨rfl, e7⟩ := take_N h1
      obtain ⟨z, h1, h⟩ := takeAll_cons h; cases h
      obtain ⟨l, rfl, e8⟩ := take_L h1
      simp [lnG, flds, e2, e3, e5, e6, e7, e8]
/-- A step's line is the line that it was read from. -/
theorem line_back {l : List UInt8} {x : St} (h : stepM l = some x) : lineM x = l := by
  unfold stepM stepW at h
  have hne : spl 32 l ≠ [] := splA_ne 32 l []
  have hj := jn_spl 32 l
  cases hs : spl 32 l with
  | nil => exact absurd hs hne
  | cons w fs =>
    rw [hs] at h hj
    simp only [List.headD_cons, List.tail_cons] at h
    cases hn : needP w with
    | none => rw [hn] at h; cases h
    | some nd =>
      rw [hn] at h
      by_cases hl : fs.length = nd.length
      · have h : takeAll nd fs ⟨w, [], [], []⟩ = some x := (if_pos hl).symm.trans h
        have hw := takeAll_word _ _ _ _ h
        simp only at hw
        unfold lineM
        rw [hw, hn, Option.getD_some, lnG_back (needP_or hn) fs hl w x h, ← jn_flds, hj]
      · have h : none = some x := (if_neg hl).symm.trans h
        cases h

/-- Does a line say nothing? -/
def mute (l : List UInt8) : Bool := match l with | [] => true | c :: _ => c == 35
def parG : List (List UInt8) → Nat → List St → List St × Nat × Bool
  | [], _, acc => (acc, 0, true)
  | l :: r, k, acc => if mute l then parG r (k + 1) acc else
    match stepM l with
    | none => ([], k + 1, false)
    | some x => if acc.length = 300 then ([], k + 1, false) else parG r (k + 1) (acc ++ [x])
def parM (s : List UInt8) : List St × Nat × Bool := parG (spl 10 s) 0 []
theorem parG_back : ∀ (ls : List (List UInt8)) (k : Nat) (acc : List St) (L : List St) (m : Nat), parG ls k acc = (L, m, true) → m = 0 ∧ ∃ xs, L = acc ++ xs ∧ xs.map lineM = ls.filter (fun l => !mute l)
  | [], k, acc, L, m, h => by cases h; exact ⟨rfl, [], by simp, rfl⟩
  | l :: r, k, acc, L, m, h => by
    rw [parG] at h
    by_cases hm : mute l = true
    · rw [if_pos hm] at h
      obtain ⟨h1, xs, h2, h3⟩ := parG_back r _ _ _ _ h
      exact ⟨h1, xs, h2, by rw [List.filter_cons_of_neg (by simp [hm])]; exact h3⟩
    · rw [if_neg hm] at h
      cases hs : stepM l with
      | none => rw [hs] at h; cases h
      | some x =>
        rw [hs] at h
        simp only at h
        split at h
        · cases h
        · obtain ⟨h1, xs, h2, h3⟩ := parG_back r _ _ _ _ h
          exact ⟨h1, x :: xs, by rw [h2]; simp, by rw [List.filter_cons_of_pos (by simp [hm]), List.map_cons, h3, line_back hs]⟩
theorem parG_false : ∀ (ls : List (List UInt8)) (k : Nat) (acc : List St) (L : List St) (m : Nat), parG ls k acc = (L, m, false) → L = []
  | [], k, acc, L, m, h => by cases h
  | l :: r, k, acc, L, m, h => by
    rw [parG] at h
    split at h
    · exact parG_false r _ _ _ _ h
    · split at h
      · cases h; rfl
      · split at h
        · cases h; rfl
        · exact parG_false r _ _ _ _ h
theorem parG_len : ∀ (ls : List (List UInt8)) (k : Nat) (acc : List St), acc.length ≤ 300 → (parG ls k acc).1.length ≤ 300
  | [], k, acc, h => h
  | l :: r, k, acc, h => by
    rw [parG]
    split
    · exact parG_len r _ _ h
    · split
      · simp
      · split
        · simp
        · exact parG_len r _ _ (by simp; omega)
end Go.Proofs.YtpdhmjmklmoknaaDoor

namespace Go.Proofs.YtpdhmjmklmoknaaDoor
open Go.RowKit

/-- An iterator of N rounds: round k hands over 'args k'; behind each but the last one it stores what is left. R: what else it reads. -/
def RoundsS (F : Fence) (n : Nat) (P : Program) (g : Nat) (lb : Array Value) (args : Nat → Array Value) (R : World → Prop) (T : TypeId) (sb : Nat) (tl : Nat → Value) (N : Nat) (w : World) : Prop :=
  ∀ (l : Nat) (J K Jx : Nat → World → Prop) (W : World), Below w.heap.size w W → AbidesFrom W.heap.size J → AbidesFrom W.heap.size K → AbidesFrom W.heap.size Jx →
    (∀ k W1, J k W1 → R W1 ∧ Boxed W1 sb T (tl k)) → (∀ k W1, K k W1 → R W1 ∧ Boxed W1 sb T (tl k)) → (∀ k W1, K k W1 → k + 1 < N → J (k + 1) (W1.setCell ⟨sb, 0, none⟩ (tl (k + 1)))) →
    (∀ k W1, J k W1 → k < N → YieldAt F (n - 1) P l (args k) W1 fun e W' => (e = .returned (.bool true) ∧ K k W') ∨ (e = .returned (.bool false) ∧ Jx k W')) →
    J 0 W → CallsIn F n P g (#[.func (.yield l) #[] #[]] ++ lb) W fun e W' => (∃ v, e = .returned v) ∧ (K (N - 1) W' ∨ ∃ k, k < N ∧ Jx k W')

/-- How a round may be left. -/
def roundEndS (B : Nat) (I : Nat → World → Prop) (R : World → Prop) (T : TypeId) (sb : Nat) (tl : Nat → Value) (Ix : Code → Nat → World → Prop) (k : Nat) (W : World) : Exit → Act → World → Prop
  | .normal, _, W' => KeepsFrom B W W' ∧ I (k + 1) W' ∧ R W' ∧ Boxed W' sb T (tl k)
  | .ret, _, W' => KeepsFrom B W W' ∧ Ix .ret k W'
  | .exit id, _, W' => KeepsFrom B W W' ∧ Ix (.exit id) k W'
  | _, _, _ => False

variable {F : Fence} {n : Nat} {P : Program}

theorem wpIn_roundsS {g : Operand} {ps : Array Tmp} {assign body : Code} {Q : Exit → Act → World → Prop} {a : Act} {w : World}
    (hro : F.round = none) (h1 : 1 ≤ n) {gf : Nat} {lb : Array Value} (hg : a.eval g = .func (.func gf) #[] lb) (hFg : F.fn gf) (eg : ∀ args w, (callFunc gf args).run P w = .ok (.enter gf args) w)
    {args : Nat → Array Value} {R : World → Prop} {T : TypeId} {sb : Nat} {tl : Nat → Value} {N : Nat} (hN : 1 ≤ N) (hseq : RoundsS F (n - 1) P gf lb args R T sb tl N w) (hps : ∀ k, (args k).size = ps.size)
    (I : Nat → World → Prop) (Ix : Code → Nat → World → Prop) (hR : OwnFrom w.heap.size (fun (_ : Nat) W => R W)) (hRs : ∀ W v, R W → R (W.setCell ⟨sb, 0, none⟩ v)) (hI : OwnFrom w.heap.size I) (hIs : ∀ k W v, I k W → I k (W.setCell ⟨sb, 0, none⟩ v)) (hIx : ∀ c, OwnFrom w.heap.size (Ix c))
    (h0 : I 0 w) (r0 : R w) (b0 : Boxed w sb T (tl 0)) (a₁ : Nat → Act)
    (hassign : ∀ (l k : Nat) (W : World) (K : Act → World → Prop), K (a₁ k) W →
      assign.wpIn (F.inRound l) (n - 1 - 1) P (Exit.then K (fun _ _ _ => False)) { tmps := (ps.zip (args k)).foldl (fun t (p, v) => t.setIfInBounds p v) a.tmps, defers := [] } W)
    (hbody : ∀ (l k : Nat) (W : World), I k W → R W → Boxed W sb T (tl k) → k < N → body.wpIn (F.inRound l) (n - 1 - 1) P (roundEndS w.heap.size I R T sb tl Ix k W) (a₁ k) W)
    (hdone : ∀ (D : Nat) (W : World), w.heap.size ≤ D → I N W → W.heap[D]? = some (.deferred (some [])) → Q .normal { a with defers := { target := .collected D, args := #[] } :: a.defers } W)
    (hstop : ∀ (D : Nat) (c : Code) (k : Nat) (W : World), w.heap.size ≤ D → k < N → Ix c k W → W.heap[D]? = some (.deferred (some [])) → c.wpIn F n P Q { a with defers := { target := .collected D, args := #[] } :: a.defers } W) :
    (Code.rangeFunc g ps assign body).wpIn F n P Q a w := by
  have hsb := b0.lt
  refine wpIn_rangeFunc fun fn hfn => ?_
  rw [hro]
  obtain ⟨rec, hrec⟩ : ∃ rec : LoopState → Option Code → Loop, rec = fun st pe => { state := st, pending := pe, fn, tmps := a.tmps, params := ps, assign, body, defers := w.heap.size } := ⟨_, rfl⟩
  obtain ⟨V, hV⟩ : ∃ V, V = (w.alloc (.deferred (some []))).alloc (.loop (rec .ready none)) := ⟨_, rfl⟩
  have rL : V.heap[w.heap.size + 1]? = some (.loop (rec .ready none)) := by
    have := World.alloc_heap_new (w.alloc (.deferred (some []))) (.loop (rec .ready none)); rw [World.size_alloc] at this; rw [hV]; exact this
  have rD : V.heap[w.heap.size]? = some (.deferred (some [])) := by rw [hV]; exact (Below.heap_alloc _ _ _ (by simp)).trans (World.alloc_heap_new w _)
  have vI : I 0 V := by rw [hV]; exact hI.alloc _ (hI.alloc _ h0)
  have vR : R V := by rw [hV]; exact hR.alloc (s := 0) _ (hR.alloc (s := 0) _ r0)
  have vb : Boxed V sb T (tl 0) := by rw [hV]; exact (b0.alloc _).alloc _
  have vB : Below w.heap.size w V := by rw [hV]; exact ((Below.refl _ w).alloc (Nat.le_refl _) _).alloc (by simp) _
  have vS : w.heap.size + 2 ≤ V.heap.size := by rw [hV]; simp
  refine ⟨w.heap.size + 1, [{ target := .collected w.heap.size, args := #[] }], V, { target := .fn (.func gf) lb, args := #[.func (.yield (w.heap.size + 1)) #[] #[]] }, V, gf,
    #[.func (.yield (w.heap.size + 1)) #[] #[]] ++ lb, V, ?_, ?_, ?_, ?_, fun _ => h1, ?_⟩
  · rw [hV, hrec]; exact run_enterLoop_outer _ _ _ _ _
  · simp only [resolve, hg]; simp [go_sem]
  · intro f' hf'; simp [Target.leads] at hf'; subst hf'; exact hFg
  · simp [invoke, go_sem, eg]
  clear hV
  have keep : ∀ {A C : World} {row : Option Nat} {j : Nat} {o : Obj}, A.grownBy C row → (∀ r, row = some r → V.heap.size ≤ r ∧ ∃ o : Obj, A.heap[r]? = some o ∧ o.isWalk = true) → A.heap[j]? = some o → o.isWalk = false → C.heap[j]? = some o :=
    fun hg' hr hj ho => (grownBy_keeps hg' (fun r e => (hr r e).2) hj ho).trans hj
  have own : ∀ {A : World} {row : Option Nat}, (∀ r, row = some r → V.heap.size ≤ r ∧ ∃ o : Obj, A.heap[r]? = some o ∧ o.isWalk = true) → ∀ r, row = some r → w.heap.size ≤ r ∧ ∃ o : Obj, A.heap[r]? = some o ∧ o.isCells = false :=
    fun hr r e => by obtain ⟨hB, o, ho, hw⟩ := hr r e; exact ⟨by omega, o, ho, Obj.not_cells_of_walk hw⟩
  refine (hseq (w.heap.size + 1)
    (fun k W => I k W ∧ R W ∧ Boxed W sb T (tl k) ∧ W.heap[w.heap.size + 1]? = some (.loop (rec .ready none)) ∧ W.heap[w.heap.size]? = some (.deferred (some [])))
    (fun k W => I (k + 1) W ∧ R W ∧ Boxed W sb T (tl k) ∧ W.heap[w.heap.size + 1]? = some (.loop (rec .ready none)) ∧ W.heap[w.heap.size]? = some (.deferred (some [])))
    (fun k W => ∃ c, Ix c k W ∧ W.heap[w.heap.size + 1]? = some (.loop (rec .done (some c))) ∧ W.heap[w.heap.size]? = some (.deferred (some [])))
    V vB (fun s A C row hs hg' hr => ⟨hI s A C row hs.1 hg' (own hr), hR 0 A C row hs.2.1 hg' (own hr), keep hg' hr hs.2.2.1 rfl, keep hg' hr hs.2.2.2.1 rfl, keep hg' hr hs.2.2.2.2 rfl⟩)
    (fun s A C row hs hg' hr => ⟨hI (s + 1) A C row hs.1 hg' (own hr), hR 0 A C row hs.2.1 hg' (own hr), keep hg' hr hs.2.2.1 rfl, keep hg' hr hs.2.2.2.1 rfl, keep hg' hr hs.2.2.2.2 rfl⟩)
    (fun s A C row ⟨c, hc, hl, hd⟩ hg' hr => ⟨c, hIx c s A C row hc hg' (own hr), keep hg' hr hl rfl, keep hg' hr hd rfl⟩)
    (fun k W h => ⟨h.2.1, h.2.2.1⟩) (fun k W h => ⟨h.2.1, h.2.2.1⟩)
    (fun k W h _ => ⟨hIs _ _ _ h.1, hRs _ _ h.2.1, h.2.2.1.set _, (Below.heap_setCell _ _ _ _ (by show w.heap.size + 1 ≠ sb; omega)).trans h.2.2.2.1, (Below.heap_setCell _ _ _ _ (by show w.heap.size ≠ sb; omega)).trans h.2.2.2.2⟩)
    ?_ ⟨vI, vR, vb, rL, rD⟩).mono ?_
  · rintro k W ⟨hi, hrr, hbb, hl, hd⟩ hk
    have hy := run_yield (P := P) (args := args k) hl (by rw [hrec]; exact hps k)
    rw [hrec] at hy
    refine ⟨fn, _, assign, body, hy, roundIn_of_wpIn hfn (hassign _ k W _ ⟨_, run_beginRound hl (by rw [hrec]), ?_⟩)⟩
    obtain ⟨X, hX⟩ : ∃ X, X = W.putObj (w.heap.size + 1) (.loop { rec .ready none with state := .busy }) := ⟨_, rfl⟩
    have xl : X.heap[w.heap.size + 1]? = some (.loop { rec .ready none with state := .busy }) := by rw [hX]; exact World.putObj_heap_same (Array.getElem?_eq_some_iff.1 hl).1
    have xd : X.heap[w.heap.size]? = some (.deferred (some [])) := by rw [hX]; exact (World.putObj_heap_other (by omega)).trans hd
    have xi : I k X := by rw [hX]; exact hI.putObj _ hi (by omega) hl rfl
    have xr : R X := by rw [hX]; exact hR.putObj (s := 0) _ hrr (by omega) hl rfl
    have xb : Boxed X sb T (tl k) := by rw [hX]; exact (World.putObj_heap_other (by omega)).trans hbb
    rw [← hX]
    clear hX
    refine wpIn_mono (hbody _ k X xi xr xb hk) ?_
    have fin : ∀ (jump : Option Code) (Y : World), KeepsFrom w.heap.size X Y → ∃ Z, (Instr.endRound (w.heap.size + 1) jump).run P Y = .ok (.bool jump.isNone) Z ∧
        Z.heap[w.heap.size + 1]? = some (.loop (rec (if jump.isNone then .ready else .done) jump)) ∧ Z.heap[w.heap.size]? = some (.deferred (some [])) ∧ (∀ J : Nat → World → Prop, OwnFrom w.heap.size J → ∀ s, J s Y → J s Z) ∧ (∀ v, Boxed Y sb T v → Boxed Z sb T v) := fun jump Y hY => by
      have yl := hY.same _ _ (by omega) xl rfl
      have := run_endRound (P := P) jump yl
      rw [hrec] at this
      refine ⟨_, this, World.putObj_heap_same (Array.getElem?_eq_some_iff.1 yl).1 |>.trans (by rw [hrec]), (World.putObj_heap_other (by omega)).trans (hY.same _ _ (Nat.le_refl _) xd rfl), fun J hJ s hs => hJ.putObj _ hs (by omega) yl rfl, fun v hv => (World.putObj_heap_other (by omega)).trans hv⟩
    rintro e b Y hp
    cases e with
    | normal => obtain ⟨Z, hr, hl', hd', hj, hbz⟩ := fin none Y hp.1; exact ⟨_, _, hr, .inl ⟨rfl, hj I hI _ hp.2.1, hj (fun _ W => R W) hR 0 hp.2.2.1, hbz _ hp.2.2.2, hl', hd'⟩⟩
    | ret => obtain ⟨Z, hr, hl', hd', hj, hbz⟩ := fin (some .ret) Y hp.1; exact ⟨_, _, hr, .inr ⟨rfl, .ret, hj _ (hIx _) _ hp.2, hl', hd'⟩⟩
    | exit id => obtain ⟨Z, hr, hl', hd', hj, hbz⟩ := fin (some (.exit id)) Y hp.1; exact ⟨_, _, hr, .inr ⟨rfl, .exit id, hj _ (hIx _) _ hp.2, hl', hd'⟩⟩
    | goto t => exact hp.elim
    | panic ch => exact hp.elim
    | outgrown => exact hp.elim
  · rintro e X ⟨⟨v, rfl⟩, ⟨hi, _, _, hl, hd⟩ | ⟨k, hk, c, hi, hl, hd⟩⟩
    · rw [show N - 1 + 1 = N by omega] at hi
      exact ⟨none, _, by have := run_endLoop (P := P) hl (by rw [hrec]; simp); rw [hrec] at this; exact this, hdone _ _ (Nat.le_refl _) (hI.putObj _ hi (by omega) hl rfl) ((World.putObj_heap_other (by omega)).trans hd)⟩
    · exact ⟨some c, _, by have := run_endLoop (P := P) hl (by rw [hrec]; simp); rw [hrec] at this; exact this, hstop _ c k _ (Nat.le_refl _) hk ((hIx c).putObj _ hi (by omega) hl rfl) ((World.putObj_heap_other (by omega)).trans hd)⟩
end Go.Proofs.YtpdhmjmklmoknaaDoor

namespace Go.Proofs.YtpdhmjmklmoknaaDoor
open Go.RowKit Go.Shelf
attribute [local go_sem] Oper.semAt_some

theorem ext_head (s : List UInt8) (k : Nat) : (ByteArray.mk s.toArray).extract 0 k = ⟨(s.take k).toArray⟩ := by
  apply ByteArray.ext; simp [ByteArray.extract, ByteArray.copySlice]
theorem ext_end (s : List UInt8) (k n : Nat) (hn : s.length = n) : (ByteArray.mk s.toArray).extract k n = ⟨(s.drop k).toArray⟩ := by
  subst hn; apply ByteArray.ext; simp [ByteArray.extract, ByteArray.copySlice]; rw [List.take_of_length_le (by simp)]
theorem lcut_any (s : List UInt8) (n : Nat) (w : World) (_hl : s.length ≤ maxLen) (_hn : n ≤ 1000000) :
    Calls Tryd.prog 9 #[.string ⟨s.toArray⟩, .int .i64 n] w fun r w' => r = .returned (.string ⟨(s.take n).toArray⟩) ∧ w = w' := by
  have h0 : (0 : Int) ≤ n := by omega
  by_cases h : n < s.length
  · go_enter Tryd.func9, Tryd.ntmps9
    go_wp2_with fail
    rw [ext_head]
    go_ret
    exact ⟨rfl, rfl⟩
  · have e : s.take n = s := List.take_of_length_le (by omega)
    rw [e]
    clear e
    go_enter Tryd.func9, Tryd.ntmps9
    go_wp2_with fail
    go_ret
    exact ⟨rfl, rfl⟩
theorem lclone_any (k : List UInt8) (w : World) (hk : k.length ≤ 1000000000) :
    Calls Tryd.prog 33 #[.string ⟨k.toArray⟩] w fun r w' => r = .returned (.string ⟨k.toArray⟩) ∧ Below w.heap.size w w' := by
  have h := fun w => Tryd.stringslite_Clone ⟨k.toArray⟩ w (by simp [ByteArray.size]; omega)
  have H := Lib.hid h
  clear h
  go_enter Tryd.func33, Tryd.ntmps33
  go_wp2_with fail
  refine (H.out w).mono ?_
  rintro e w2 ⟨rfl, hb⟩
  have HB := Lib.hid hb
  clear hb
  go_wp2_with fail
  go_ret
  exact ⟨rfl, HB.out⟩

/-- What Cut answers. -/
def cutL (c : UInt8) (s : List UInt8) : List UInt8 × List UInt8 × Bool :=
  if Lib.indexByte s c = -1 then (s, [], false) else (s.take (Lib.indexByte s c).toNat, s.drop ((Lib.indexByte s c).toNat + 1), true)
theorem cutL_miss {c : UInt8} {s : List UInt8} (h : Lib.indexByte s c = -1) : cutL c s = (s, [], false) := by unfold cutL; rw [if_pos h]
theorem cutL_hit {c : UInt8} {s : List UInt8} {o : Nat} (h : Lib.indexByte s c = (o : Int)) : cutL c s = (s.take o, s.drop (o + 1), true) := by unfold cutL; rw [if_neg (by omega), h]; rfl
theorem cutL_spl (c : UInt8) (s : List UInt8) : (cutL c s).1 = (spl c s).headD [] ∧ ((spl c s).tail ≠ [] → spl c (cutL c s).2.1 = (spl c s).tail) := by
  rcases index_or s c with h | ⟨o, h⟩
  · rw [cutL_miss h, spl_none h]; exact ⟨rfl, fun h => absurd rfl h⟩
  · rw [cutL_hit h, spl_some h]; exact ⟨rfl, fun _ => rfl⟩
theorem cutL_len (c : UInt8) (s : List UInt8) : (cutL c s).1.length ≤ s.length ∧ (cutL c s).2.1.length ≤ s.length := by
  rcases index_or s c with h | ⟨o, h⟩
  · rw [cutL_miss h]; simp
  · rw [cutL_hit h]; simp; omega

set_option maxRecDepth 100000 in
set_option maxHeartbeats 2000000 in
theorem lscut_any (s : List UInt8) (c : UInt8) (w : World) (hs : s.length ≤ 1000000000) :
    Calls Tryd.prog 41 #[.string ⟨s.toArray⟩, .string ⟨#[c]⟩] w fun e w' => e = .returned (.tuple #[.string ⟨(cutL c s).1.toArray⟩, .string ⟨(cutL c s).2.1.toArray⟩, .bool (cutL c s).2.2]) ∧ ∃ n, w' = w.drewN n := by
  have hix := fun w => Tryd.stringslite_Index_one ⟨s.toArray⟩ c w
  rcases index_or s c with h | ⟨o, h⟩
  · rw [show (ByteArray.mk s.toArray).data.toList = s from rfl, h] at hix
    rw [cutL_miss h]
    have HX := Lib.hid hix
    clear hix h
    go_enter Tryd.func41, Tryd.ntmps41
    go_wp2_with fail
    refine (HX.out _).mono ?_
    rintro e w' ⟨rfl, rfl⟩
    go_wp2_with fail
    go_ret3
    exact ⟨rfl, 0, rfl⟩
  · obtain ⟨ho, _, _⟩ := index_some h
    rw [show (ByteArray.mk s.toArray).data.toList = s from rfl, h] at hix
    rw [cutL_hit h]
    have HX := Lib.hid hix
    have e1 := ext_head s o
    have e2 := ext_end s (o + 1) s.length rfl
    have e3 : ((o : Int) + 1).toNat = o + 1 := by omega
    obtain ⟨S, hS⟩ : ∃ S, S = ByteArray.mk s.toArray := ⟨_, rfl⟩
    have hsz : S.size = s.length := by rw [hS]; rfl
    rw [← hS] at HX e1 e2 ⊢
    have c1 : (0 : Int) ≤ o := by omega
    have c2 : (o : Int) ≤ S.size := by omega
    have c3 : (0 : Int) ≤ (o : Int) + 1 := by omega
    have c4 : (o : Int) + 1 ≤ S.size := by omega
    have c5 : IntKind.i64.wrap ((o : Int) + 1) = (o : Int) + 1 := by rw [IntKind.wrap_i64]; omega
    have E1 := Lib.hid e1
    have E2 := Lib.hid e2
    have HSZ := Lib.hid hsz
    clear hix h hS e1 e2 hsz
    go_enter Tryd.func41, Tryd.ntmps41
    go_wp2_with fail
    refine (HX.out _).mono ?_
    rintro e w' ⟨rfl, rfl⟩
    go_upto_region 3 with fail
    go_region
    go_wp2_with fail
    go_ret3
    refine ⟨?_, 1, rfl⟩
    rw [← E1.out, ← E2.out, ← HSZ.out]; rfl
theorem lncut_any (s : List UInt8) (c : UInt8) (w : World) (hs : s.length ≤ 1000000000) :
    Calls Tryd.prog 31 #[.string ⟨s.toArray⟩, .string ⟨#[c]⟩] w fun e w' => e = .returned (.tuple #[.string ⟨(cutL c s).1.toArray⟩, .string ⟨(cutL c s).2.1.toArray⟩, .bool (cutL c s).2.2]) ∧ ∃ n, w' = w.drewN n := by
  have HX := Lib.hid (fun w => lscut_any s c w hs)
  generalize cutL c s = q at HX ⊢
  obtain ⟨a, b, f⟩ := q
  simp only at HX ⊢
  go_enter Tryd.func31, Tryd.ntmps31
  go_wp2_with fail
  refine (HX.out _).mono ?_
  rintro e w' ⟨rfl, n, rfl⟩
  go_wp2_with fail
  go_ret3
  exact ⟨rfl, n, rfl⟩

/-- The pieces' tails: what is left ahead of piece k. -/
def tlB (c : UInt8) (s : List UInt8) : Nat → List UInt8
  | 0 => s
  | k + 1 => (cutL c (tlB c s k)).2.1
theorem tlB_spl (c : UInt8) (s : List UInt8) : ∀ k, k < (spl c s).length → spl c (tlB c s k) = (spl c s).drop k
  | 0, _ => rfl
  | k + 1, h => by
    have ih := tlB_spl c s k (by omega)
    have h1 := (cutL_spl c (tlB c s k)).2
    rw [ih, List.tail_drop] at h1
    exact h1 (by intro e; have := congrArg List.length e; simp at this; omega)
theorem tlB_len (c : UInt8) (s : List UInt8) : ∀ k, (tlB c s k).length ≤ s.length
  | 0 => Nat.le_refl _
  | k + 1 => Nat.le_trans (cutL_len c (tlB c s k)).2 (tlB_len c s k)
def tlV (c : UInt8) (s : List UInt8) (k : Nat) : Value := .string ⟨(tlB c s k).toArray⟩
def pcV (c : UInt8) (s : List UInt8) (k : Nat) : Array Value := #[.string ⟨((spl c s).getD k []).toArray⟩]
/-- What SplitSeq's iterator reads beside: its separator, and how much of that it keeps. -/
def SqR (pb zb : Nat) (c : UInt8) (W : World) : Prop := Boxed W pb 9 (.string ⟨#[c]⟩) ∧ Boxed W zb 3 (.int .i64 0)

def lenAt (w : World) (b : Nat) : Nat := match w.cell? ⟨b, 0, none⟩ with | some (.string x) => x.size | _ => 0
theorem lenAt_of {w : World} {b : Nat} {l : List UInt8} (h : Boxed w b 9 (.string ⟨l.toArray⟩)) : lenAt w b = l.length := by unfold lenAt; rw [h.cell]; rfl
theorem pcs_last {c : UInt8} {s : List UInt8} {k : Nat} (hk : k < (spl c s).length) (h : Lib.indexByte (tlB c s k) c = -1) : k + 1 = (spl c s).length ∧ (spl c s).getD k [] = tlB c s k := by
  have e := tlB_spl c s k hk
  rw [spl_none h] at e
  have hl := congrArg List.length e
  simp at hl
  refine ⟨by omega, ?_⟩
  rw [List.getD_eq_getElem?_getD, ← Nat.add_zero k, ← List.getElem?_drop, ← e]; rfl
theorem pcs_next {c : UInt8} {s : List UInt8} {k o : Nat} (hk : k < (spl c s).length) (h : Lib.indexByte (tlB c s k) c = (o : Int)) :
    k + 1 < (spl c s).length ∧ (spl c s).getD k [] = (tlB c s k).take o ∧ tlB c s (k + 1) = (tlB c s k).drop (o + 1) ∧ o < (tlB c s k).length := by
  have e := tlB_spl c s k hk
  rw [spl_some h] at e
  have hl := congrArg List.length e
  have hp := List.length_pos_iff.2 (show spl c ((tlB c s k).drop (o + 1)) ≠ [] from splA_ne _ _ _)
  simp at hl
  refine ⟨by omega, ?_, ?_, (index_some h).1⟩
  · rw [List.getD_eq_getElem?_getD, ← Nat.add_zero k, ← List.getElem?_drop, ← e]; rfl
  · show (cutL c (tlB c s k)).2.1 = _
    rw [cutL_hit h]
set_option maxRecDepth 100000 in
set_option maxHeartbeats 4000000 in
theorem seq_rounds (n : Nat) (hn : 1 ≤ n) (pb sb zb : Nat) (c : UInt8) (s : List UInt8) (hl : s.length ≤ 1000000000) (w : World) :
    RoundsS Fence.wide n Tryd.prog 38 #[.pointer (some ⟨pb, 0, none⟩), .pointer (some ⟨sb, 0, none⟩), .pointer (some ⟨zb, 0, none⟩)] (pcV c s) (SqR pb zb c) 9 sb (tlV c s) (spl c s).length w := by
  intro l J K Jx W hW hJ hK hJx hR hRK hKJ hY h0
  have HR := Lib.hid hR
  have HRK := Lib.hid hRK
  have HKJ := Lib.hid hKJ
  have HY := Lib.hid hY
  have H0 := Lib.hid h0
  have hN : 0 < (spl c s).length := List.length_pos_iff.2 (splA_ne _ _ _)
  obtain ⟨⟨b1, b3⟩, b2⟩ := hR 0 W h0
  have c1 := b1.cell
  clear hR hRK hKJ hY h0 b1 b2 b3 hJ hK hJx hW
  refine callsIn_of_wp Tryd.func38 rfl trivial ?_ rfl
  simp only [Tryd.ntmps38, List.size_toArray, List.length_cons, List.length_nil, Nat.reduceAdd, Nat.reduceSub, Array.replicate_succ, Array.replicate_zero, List.push_toArray, List.append_toArray, List.nil_append, List.cons_append]
  gi_wp2
  clear c1
  gi_loopw [7] (fun _ wr => ∃ k : Nat, k < (spl c s).length ∧ J k wr) (fun _ wr => lenAt wr sb)
  case atStart => exact ⟨0, hN, H0.out⟩
  case round =>
    obtain ⟨k, hk, hJs⟩ := hrel
    obtain ⟨⟨b1, b3⟩, b2⟩ := HR.out k wr hJs
    have c1 := b1.cell
    have c2 := b2.cell
    have c3 := b3.cell
    unfold tlV at c2
    have hix := fun w => Tryd.strings_Index_one ⟨(tlB c s k).toArray⟩ c w
    rw [show (ByteArray.mk (tlB c s k).toArray).data.toList = tlB c s k from rfl] at hix
    have hTl := tlB_len c s k
    rcases index_or (tlB c s k) c with hx | ⟨o, hx⟩
    · obtain ⟨hk1, hpc⟩ := pcs_last hk hx
      rw [hx] at hix
      have HX := Lib.hid hix
      obtain ⟨fn, tmps, assign, body, hy, hR'⟩ := HY.out k wr hJs hk
      unfold pcV at hy
      rw [hpc] at hy
      have HK1 := Lib.hid hk1
      clear hix hx hpc hk1 b1 b2 b3 hTl
      gi_wp2_with (refine ⟨trivial, (callsIn_wide.2 (HX.out _)).mono ?_⟩; rintro e w5 ⟨rfl, rfl⟩)
      first | refine hR'.mono ?_ | refine ⟨(fun h => by cases h), hR'.mono ?_⟩
      rintro e W3 (⟨rfl, hK3⟩ | ⟨rfl, hJx3⟩)
      · gi_wp2
        go_end0
        exact ⟨⟨_, rfl⟩, .inl (by rw [show (spl c s).length - 1 = k by have := HK1.out; omega]; exact hK3)⟩
      · gi_wp2
        go_end0
        exact ⟨⟨_, rfl⟩, .inr ⟨k, hk, hJx3⟩⟩
    · obtain ⟨hk1, hpc, htl, ho⟩ := pcs_next hk hx
      rw [hx] at hix
      have HX := Lib.hid hix
      obtain ⟨fn, tmps, assign, body, hy, hR'⟩ := HY.out k wr hJs hk
      unfold pcV at hy
      rw [hpc] at hy
      have hlen : lenAt wr sb = (tlB c s k).length := lenAt_of b2
      have e1 := ext_head (tlB c s k) o
      have e2 := ext_end (tlB c s k) (o + 1) (tlB c s k).length rfl
      obtain ⟨B, hB⟩ : ∃ B, B = ByteArray.mk (tlB c s k).toArray := ⟨_, rfl⟩
      have hsz : B.size = (tlB c s k).length := by rw [hB]; rfl
      rw [← hB] at HX e1 e2 c2
      rw [← hsz] at e2
      have q1 : (0 : Int) ≤ o := by omega
      have q2 : (o : Int) ≤ B.size := by omega
      have q3 : (0 : Int) ≤ (o : Int) + 1 := by omega
      have q4 : (o : Int) + 1 ≤ B.size := by omega
      have q5 : IntKind.i64.wrap ((o : Int) + 1) = (o : Int) + 1 := by rw [IntKind.wrap_i64]; omega
      have q6 : IntKind.i64.wrap (o : Int) = (o : Int) := by rw [IntKind.wrap_i64]; omega
      have q7 : ¬ (o : Int) < 0 := by omega
      have E1 := Lib.hid e1
      have E2 := Lib.hid e2
      have HL := Lib.hid hlen
      have HSZ := Lib.hid hsz
      have HB := Lib.hid hB
      have HTL := Lib.hid htl
      rw [← e1] at hy
      clear hix hx hpc hTl hB e1 e2 hsz hlen htl ho
      gi_wp2_with (refine ⟨trivial, (callsIn_wide.2 (HX.out _)).mono ?_⟩; rintro e w5 ⟨rfl, rfl⟩)
      first | refine hR'.mono ?_ | refine ⟨(fun h => by cases h), hR'.mono ?_⟩
      rintro e W3 (⟨rfl, hK3⟩ | ⟨rfl, hJx3⟩)
      · obtain ⟨⟨d1, d3⟩, d2⟩ := HRK.out k W3 hK3
        have a1 := d1.cell
        have a2 := d2.cell
        have a4 := d2.frozen
        unfold tlV at a2
        rw [← HB.out] at a2
        have hJ4 := HKJ.out k W3 hK3 hk1
        have b4 := (HR.out _ _ hJ4).2
        unfold tlV at hJ4 b4
        rw [HTL.out, ← E2.out] at hJ4
        rw [HTL.out] at b4
        have hl4 := lenAt_of b4
        rw [← E2.out] at hl4 b4
        clear d1 d2 d3 c1 c2 c3 b1 b2 b3
        gi_wp2
        go_roundw
        case rel => exact ⟨k + 1, hk1, hJ4⟩
        case measure =>
          rw [hl4, HL.out, List.length_drop, ← HSZ.out]; omega
      · gi_wp2
        refine bodyPost_ret (results_none rfl _ _ _) rfl ?_
        exact ⟨⟨_, rfl⟩, .inr ⟨k, hk, hJx3⟩⟩

set_option maxHeartbeats 1000000 in
/-- SplitSeq: the text, the separator and nought are boxed; the function value captures the boxes. -/
theorem splitseq0_any (s p : List UInt8) (w : World) :
    Calls Tryd.prog 29 #[.string ⟨s.toArray⟩, .string ⟨p.toArray⟩, .int .i64 0] w fun e w' => e = .returned (.func (.func 38) #[] #[.pointer (some ⟨w.heap.size + 1, 0, none⟩), .pointer (some ⟨w.heap.size, 0, none⟩), .pointer (some ⟨w.heap.size + 1 + 1, 0, none⟩)]) ∧
      w' = ((w.alloc (.cells #[.string ⟨s.toArray⟩] 9)).alloc (.cells #[.string ⟨p.toArray⟩] 9)).alloc (.cells #[.int .i64 0] 3) := by
  have hmf : ∀ (fn : Fn) (first cap : Array Value) (w : World), (Instr.makeFunc fn first cap).run Tryd.prog w = .ok (.func fn first cap) w := fun _ _ _ _ => rfl
  go_enter Tryd.func29, Tryd.ntmps29
  go_wp2_with fail
  go_ret
  exact ⟨rfl, rfl⟩
/-- What SplitSeq leaves. -/
def SqW (c : UInt8) (s : List UInt8) (w w' : World) : Prop := Below w.heap.size w w' ∧ w'.heap.size = w.heap.size + 3 ∧ Boxed w' w.heap.size 9 (tlV c s 0) ∧ SqR (w.heap.size + 1) (w.heap.size + 1 + 1) c w'
theorem splitseq_any (s : List UInt8) (c : UInt8) (w : World) :
    Calls Tryd.prog 18 #[.string ⟨s.toArray⟩, .string ⟨#[c]⟩] w fun e w' => e = .returned (.func (.func 38) #[] #[.pointer (some ⟨w.heap.size + 1, 0, none⟩), .pointer (some ⟨w.heap.size, 0, none⟩), .pointer (some ⟨w.heap.size + 1 + 1, 0, none⟩)]) ∧ SqW c s w w' := by
  have H1 := Lib.hid (fun w => splitseq0_any s [c] w)
  go_enter Tryd.func18, Tryd.ntmps18
  go_wp2_with fail
  refine (H1.out _).mono ?_
  rintro e w1 ⟨rfl, hw1⟩
  have hB : SqW c s w w1 := by
    refine ⟨?_, by rw [hw1]; simp, ?_, ?_, ?_⟩
    · rw [hw1]; exact (((Below.refl _ w).alloc (Nat.le_refl _) _).alloc (by simp) _).alloc (by simp; omega) _
    · rw [hw1]; exact ((Boxed.new w _ _).alloc _).alloc _
    · have := (Boxed.new (w.alloc (.cells #[.string ⟨s.toArray⟩] 9)) 9 (.string ⟨#[c]⟩)).alloc (.cells #[.int .i64 0] 3)
      rw [hw1]; rwa [World.size_alloc] at this
    · have := Boxed.new ((w.alloc (.cells #[.string ⟨s.toArray⟩] 9)).alloc (.cells #[.string ⟨#[c]⟩] 9)) 3 (.int .i64 0)
      rw [hw1]; rwa [World.size_alloc, World.size_alloc] at this
  have HB := Lib.hid hB
  clear hw1 hB
  go_wp2_with fail
  go_ret
  exact ⟨rfl, HB.out⟩
end Go.Proofs.YtpdhmjmklmoknaaDoor

namespace Go.Proofs.YtpdhmjmklmoknaaDoor
open Go.RowKit Go.Shelf

theorem numD_le_snoc (l : List UInt8) (c : UInt8) : numD l ≤ numD (l ++ [c]) := by rw [numD_snoc]; omega
theorem numD_le_app (l : List UInt8) : ∀ r : List UInt8, numD l ≤ numD (l ++ r) := by
  refine snoc_ind (by simp) ?_
  intro r c ih
  rw [← List.append_assoc]
  exact Nat.le_trans ih (numD_le_snoc _ _)
theorem numD_le_take (l : List UInt8) (k : Nat) : numD (l.take k) ≤ numD l := by
  have := numD_le_app (l.take k) (l.drop k)
  rwa [List.take_append_drop] at this
def numV (s : List UInt8) : Nat := if numOk s then numD s else 0
theorem dg_false {s : List UInt8} {i : Nat} (hi : i < s.length) (h : isDg s[i] = false) : numOk s = false := by
  unfold numOk canon
  have : s.all isDg = false := by
    rw [← Bool.not_eq_true, List.all_eq_true]
    intro hh
    have := hh _ (List.getElem_mem hi)
    rw [h] at this; cases this
  rw [this, Bool.and_false, Bool.false_and]
theorem big_false {s : List UInt8} (k : Nat) (h : 1099511627776 < numD (s.take k)) : numOk s = false := by
  unfold numOk
  have := numD_le_take s k
  rw [decide_eq_false (by omega), Bool.and_false]
theorem num_true {s : List UInt8} (h0 : s ≠ []) (h1 : s.head? ≠ some 48 ∨ s = [48]) (h2 : ∀ i (h : i < s.length), isDg s[i] = true) (h3 : numD s ≤ 1099511627776) : numOk s = true := by
  unfold numOk canon
  have a : s.isEmpty = false := by cases s <;> simp_all
  have b : (decide (s.head? ≠ some 48) || decide (s = [48])) = true := by rcases h1 with h | h <;> simp [h]
  have c : s.all isDg = true := by
    rw [List.all_eq_true]
    intro x hx
    obtain ⟨i, hi, rfl⟩ := List.getElem_of_mem hx
    exact h2 i hi
  rw [a, b, c, decide_eq_true h3]; rfl

set_option maxHeartbeats 1000000 in
theorem ldigit_any (r : Int) (b : Bool) (hb : (decide (48 ≤ r) && decide (r ≤ 57)) = b) (w : World) : Calls Tryd.prog 67 #[.int .i32 r] w fun e w' => e = .returned (.bool b) ∧ w = w' := by
  by_cases h1 : 48 ≤ r
  · by_cases h2 : r ≤ 57
    · rw [decide_eq_true h1, decide_eq_true h2] at hb
      subst hb
      go_enter Tryd.func67, Tryd.ntmps67
      go_wp2_with fail
      go_ret
      exact ⟨rfl, rfl⟩
    · rw [decide_eq_true h1, decide_eq_false h2] at hb
      subst hb
      have h2 : 57 < r := by omega
      go_enter Tryd.func67, Tryd.ntmps67
      go_wp2_with fail
      go_ret
      exact ⟨rfl, rfl⟩
  · rw [decide_eq_false h1, Bool.false_and] at hb
    subst hb
    have h2 : r < 48 := by omega
    go_enter Tryd.func67, Tryd.ntmps67
    go_wp2_with fail
    go_ret
    exact ⟨rfl, rfl⟩
set_option maxHeartbeats 1000000 in
theorem lletter_any (r : Int) (b : Bool) (hb : (decide (97 ≤ r) && decide (r ≤ 122)) = b) (w : World) : Calls Tryd.prog 58 #[.int .i32 r] w fun e w' => e = .returned (.bool b) ∧ w = w' := by
  by_cases h1 : 97 ≤ r
  · by_cases h2 : r ≤ 122
    · rw [decide_eq_true h1, decide_eq_true h2] at hb
      subst hb
      go_enter Tryd.func58, Tryd.ntmps58
      go_wp2_with fail
      go_ret
      exact ⟨rfl, rfl⟩
    · rw [decide_eq_true h1, decide_eq_false h2] at hb
      subst hb
      have h2 : 122 < r := by omega
      go_enter Tryd.func58, Tryd.ntmps58
      go_wp2_with fail
      go_ret
      exact ⟨rfl, rfl⟩
  · rw [decide_eq_false h1, Bool.false_and] at hb
    subst hb
    have h2 : r < 97 := by omega
    go_enter Tryd.func58, Tryd.ntmps58
    go_wp2_with fail
    go_ret
    exact ⟨rfl, rfl⟩

theorem iterPos_of {w : World} {k : Nat} {s : ByteArray} {p : Nat} (h : w.heap[k]? = some (.stringIter s p)) : w.iterPos k = p := by simp [World.iterPos, h]
theorem below_iterAt {w wr : World} (h : Below w.heap.size w wr) (s : ByteArray) (p : Nat) : Below w.heap.size w (wr.iterAt w.heap.size s p) :=
  ⟨h.os, h.tape, h.output, Nat.le_trans h.size (by rw [Lib.iterAt_size]; exact Nat.le_refl _), fun j hj => (Lib.iterAt_other wr w.heap.size j s p (by omega)).trans (h.block j hj)⟩
/-- What a text's walk reads at a place: the letter and how far it goes. -/
structure Lt (wr : World) (ib : Nat) (s : List UInt8) (B : ByteArray) (pos : Nat) (r : Int) (W1 : World) (p1 : Nat) : Prop where
  nx : ∀ ty, (Instr.next (.pointer (some ⟨ib, 0, none⟩)) true ty).run Tryd.prog wr = .ok (.tuple #[.bool true, .int .i64 (pos : Int), .int .i32 r]) W1
  it : W1.heap[ib]? = some (.stringIter B p1)
  lo : ∀ (h : pos < s.length), s[pos].toNat < 128 → r = s[pos].toNat ∧ p1 = pos + 1
  hi : ∀ (h : pos < s.length), 128 ≤ s[pos].toNat → 128 ≤ r
  up : pos < p1
  m : Mod (· = ib) wr W1
theorem mod_iterAt (w : World) (k : Nat) (s : ByteArray) (p : Nat) : Mod (· = k) w (w.iterAt k s p) :=
  ⟨rfl, rfl, rfl, by rw [Lib.iterAt_size]; exact Nat.le_refl _, fun j _ hj => Lib.iterAt_other w k j s p hj⟩
theorem lt_of {w wr : World} {s : List UInt8} {B : ByteArray} {pos : Nat} (hB : B = ⟨s.toArray⟩) (hit : wr.heap[w.heap.size]? = some (.stringIter B pos)) (hp : pos < s.length) (hb : Below w.heap.size w wr) :
    ∃ r W1 p1, Lt wr w.heap.size s B pos r W1 p1 ∧ Below w.heap.size w W1 := by
  have hps : pos < B.size := by rw [hB]; exact hp
  have hget : B[pos] = s[pos] := by subst hB; rfl
  by_cases h : s[pos].toNat < 128
  · refine ⟨(s[pos].toNat : Int), wr.iterAt w.heap.size B (pos + 1), pos + 1, ⟨fun ty => ?_, Lib.iterAt_heap wr w.heap.size B pos (pos + 1) hit, fun _ _ => ⟨rfl, rfl⟩, fun _ h2 => by omega, Nat.lt_succ_self _, mod_iterAt _ _ _ _⟩, below_iterAt hb _ _⟩
    have := Lib.run_next_ascii_at (P := Tryd.prog) wr w.heap.size B pos ty hit hps (by rw [hget]; exact h)
    rw [hget] at this
    exact this
  · have hd := decode_high B pos hps (by rw [hget]; omega)
    refine ⟨_, _, _, ⟨fun ty => Lib.run_next_any_at (P := Tryd.prog) wr w.heap.size B pos ty hit hps, Lib.iterAt_heap wr w.heap.size B pos _ hit, fun _ h2 => absurd h2 h, fun _ _ => by exact_mod_cast hd.1, by have := hd.2; omega, mod_iterAt _ _ _ _⟩, below_iterAt hb _ _⟩

set_option maxRecDepth 20000 in
set_option maxHeartbeats 4000000 in
theorem lnumber_any (s : List UInt8) (w : World) (hl : s.length ≤ 1000000000) :
    Calls Tryd.prog 56 #[.string ⟨s.toArray⟩] w fun e w' => e = .returned (.tuple #[.int .i64 (numV s), .bool (numOk s)]) ∧ Below w.heap.size w w' := by
  obtain ⟨B, hB⟩ : ∃ B, B = ByteArray.mk s.toArray := ⟨_, rfl⟩
  rw [← hB]
  obtain ⟨n, hn⟩ : ∃ n, n = s.length := ⟨_, rfl⟩
  have n1 : B.size = n := by rw [hB, hn]; rfl
  have hL : B.toList = s := by rw [hB, ByteArray.toList_mk]
  have bad : ∀ w', numOk s = false → Below w.heap.size w w' → (Ending.returned (.tuple #[.int .i64 0, .bool false]) = .returned (.tuple #[.int .i64 (numV s), .bool (numOk s)])) ∧ Below w.heap.size w w' := fun w' h hb => ⟨by unfold numV; rw [h]; rfl, hb⟩
  have Bad := Lib.hid bad
  have HBB := Lib.hid hB
  clear bad
  by_cases hne : s = []
  · have e0 : (B.toList == []) = true := by rw [hL, hne]; rfl
    have e9 : Hid (numOk s = false) := Lib.hid (by rw [hne]; rfl)
    clear hL hB hn
    go_enter Tryd.func56, Tryd.ntmps56
    go_wp2_with fail
    go_ret2
    exact Bad.out _ e9.out (Below.refl _ _)
  · have e0 : (B.toList == []) = false := by rw [hL, beq_eq_false_iff_ne]; exact hne
    have n0 : 0 < n := by rw [hn]; exact List.length_pos_iff.2 hne
    have Hn := Lib.hid hn
    obtain ⟨e1, he1⟩ : ∃ b, (B.toList == [48]) = b := ⟨_, rfl⟩
    have h0 : 0 < B.size := by omega
    obtain ⟨v0, hv0⟩ : ∃ v, v = s[0]'(by omega) := ⟨_, rfl⟩
    have g0 : B[0]'h0 = v0 := by subst hB; rw [hv0]; rfl
    have hhead : s.head? = some v0 := by rw [hv0]; cases s <;> simp_all
    by_cases hbad : v0 = 48 ∧ e1 = false
    · obtain ⟨rfl, rfl⟩ := hbad
      have e9 : Hid (numOk s = false) := Lib.hid (by
        unfold numOk canon
        have : s ≠ [48] := by rw [hL] at he1; exact fun e => by rw [e] at he1; cases he1
        rw [hhead]; simp [this])
      have hv : ((48 : UInt8).toNat : Int) = 48 := rfl
      clear hL hB hn hl hhead hv0
      go_enter Tryd.func56, Tryd.ntmps56
      go_wp2_with fail
      go_ret2
      exact Bad.out _ e9.out (Below.refl _ _)
    · have hcan : Hid (s.head? ≠ some 48 ∨ s = [48]) := Lib.hid (by
        by_cases h48 : v0 = 48
        · right
          have : e1 = true := by
            rcases Bool.eq_false_or_eq_true e1 with h | h
            · exact h
            · exact absurd ⟨h48, h⟩ hbad
          rw [hL, this] at he1; exact eq_of_beq he1
        · left; rw [hhead]; intro e; exact h48 (Option.some.inj e))
      have hv : ((v0.toNat : Int) = 48 → e1 = true) := by
        intro h
        rcases Bool.eq_false_or_eq_true e1 with h2 | h2
        · exact h2
        · exact absurd ⟨UInt8.toNat_inj.1 (by show v0.toNat = 48; omega), h2⟩ hbad
      have e1' : ∀ b : Bool, b = e1 → (v0.toNat : Int) = 48 → b = true := fun b h h2 => by rw [h]; exact hv h2
      have HNE := Lib.hid hne
      clear hL hn hl hhead hv0 hbad hv hB hne
      go_enter Tryd.func56, Tryd.ntmps56
      have hK : (w.iter B 0).heap[w.heap.size]? = some (.stringIter B 0) ∧ Below w.heap.size w (w.iter B 0) := ⟨World.iter_heap w B 0, (Below.refl _ w).alloc (Nat.le_refl _) _⟩
      go_upto_region 3 with fail
      all_goals
        obtain ⟨_, hh⟩ : ∃ _ : True, True := ⟨trivial, trivial⟩
        clear hh e1' he1 g0 e0
        go_wp2_with fail
        generalize (w.iter B 0) = W at hK ⊢
        go_loopw [4] (fun s4 wr => ∃ (pos m : Nat), s4 = .int .i64 m ∧ Hid (m = numD (s.take pos)) ∧ m ≤ 1099511627776 ∧ pos ≤ n ∧ Hid (∀ i (h : i < s.length), i < pos → isDg s[i] = true) ∧ wr.heap[w.heap.size]? = some (.stringIter B pos) ∧ Below w.heap.size w wr) (fun _ wr => n - wr.iterPos w.heap.size)
        case atStart => exact ⟨0, 0, rfl, Lib.hid (by simp [numD]), by omega, by omega, Lib.hid (fun i h h2 => by omega), hK.1, hK.2⟩
        case round =>
          clear hK
          obtain ⟨pos, m, rfl, hm, hm2, hpn, hdig, hit, hbw⟩ := hrel
          have hpos0 := iterPos_of hit
          by_cases hp : pos < n
          · have hpl : pos < s.length := by rw [← Hn.out]; exact hp
            obtain ⟨r, W1, p1, hLt, hb1⟩ := lt_of HBB.out hit hpl hbw
            have hnx := hLt.nx
            have hlo := hLt.lo hpl
            have hhi := hLt.hi hpl
            have hpos1 := iterPos_of hLt.it
            have hit1 := hLt.it
            obtain ⟨v, hv⟩ : ∃ v, v = s[pos].toNat := ⟨_, rfl⟩
            have hv256 : v < 256 := by rw [hv]; exact s[pos].toNat_lt
            rw [← hv] at hlo hhi
            have hdv : isDg s[pos] = (decide (48 ≤ v) && decide (v ≤ 57)) := by rw [hv]; rfl
            have HV := Lib.hid hv
            clear hv hLt hit
            by_cases hd : 48 ≤ v ∧ v ≤ 57
            · obtain ⟨hr, hp1⟩ := hlo (by omega)
              have hDr : (decide ((48 : Int) ≤ r) && decide (r ≤ 57)) = true := by rw [hr, decide_eq_true (by omega), decide_eq_true (by omega)]; rfl
              have HC := Lib.hid (fun w => ldigit_any r true hDr w)
              obtain ⟨d, hdd⟩ : ∃ d, d = v - 48 := ⟨_, rfl⟩
              have a1 : IntKind.i32.wrap (r - 48) = d := by rw [IntKind.wrap_i32]; omega
              have a2 : IntKind.i64.wrap (d : Int) = d := by rw [IntKind.wrap_i64]; omega
              have a3 : IntKind.i64.wrap (10 * (m : Int)) = 10 * (m : Int) := by rw [IntKind.wrap_i64]; omega
              obtain ⟨m2, hmm⟩ : ∃ m2, m2 = 10 * m + d := ⟨_, rfl⟩
              have a4 : IntKind.i64.wrap (10 * (m : Int) + d) = m2 := by rw [IntKind.wrap_i64]; omega
              have hnum : m2 = numD (s.take (pos + 1)) := by rw [numD_take s pos hpl, ← hm.out, ← HV.out, hmm, hdd]
              have hdig2 : ∀ i (h : i < s.length), i < pos + 1 → isDg s[i] = true := by
                intro i hi hi2
                by_cases e : i = pos
                · subst e; rw [hdv, decide_eq_true hd.1, decide_eq_true hd.2]; rfl
                · exact hdig.out i hi (by omega)
              have HN := Lib.hid hnum
              have HD := Lib.hid hdig2
              have HM := Lib.hid hmm
              have HP := Lib.hid hp1
              have HPP := Lib.hid hpos1
              have HP0 := Lib.hid hpos0
              clear hlo hhi hdv hd hr hDr hdd hmm hnum hdig2 hm hdig hpos0 hpos1
              by_cases hbig : 1099511627776 < m2
              · have e9 : Hid (numOk s = false) := Lib.hid (big_false (pos + 1) (by rw [← HN.out]; exact hbig))
                have q1 : (1099511627776 : Int) < m2 := by omega
                clear hbig
                go_wp2_with fail
                refine (HC.out _).mono ?_
                rintro e w5 ⟨rfl, rfl⟩
                go_wp2_with fail
                go_ret2
                exact Bad.out _ e9.out hb1
              · have q1 : ¬ (1099511627776 : Int) < m2 := by omega
                have hb2 : m2 ≤ 1099511627776 := by omega
                clear hbig
                go_wp2_with fail
                refine (HC.out _).mono ?_
                rintro e w5 ⟨rfl, rfl⟩
                go_wp2_with fail
                go_roundw
                case rel => exact ⟨pos + 1, m2, rfl, HN, hb2, by omega, HD, by rw [← HP.out]; exact hit1, hb1⟩
                case measure => rw [HPP.out, HP0.out, HP.out]; omega
            · have hDr : (decide ((48 : Int) ≤ r) && decide (r ≤ 57)) = false := by
                by_cases h128 : v < 128
                · rw [(hlo h128).1]
                  by_cases h : 48 ≤ v
                  · rw [decide_eq_false (show ¬ ((v : Int) ≤ 57) by omega), Bool.and_false]
                  · rw [decide_eq_false (show ¬ ((48 : Int) ≤ v) by omega), Bool.false_and]
                · rw [decide_eq_false (show ¬ (r ≤ 57) by have := hhi (by omega); omega), Bool.and_false]
              have HC := Lib.hid (fun w => ldigit_any r false hDr w)
              have e9 : Hid (numOk s = false) := Lib.hid (dg_false hpl (by
                rw [hdv]
                by_cases h : 48 ≤ v
                · rw [decide_eq_false (show ¬ v ≤ 57 by omega), Bool.and_false]
                · rw [decide_eq_false h, Bool.false_and]))
              clear hlo hhi hdv hd hDr hm hdig hpos0 hpos1
              go_wp2_with fail
              refine (HC.out _).mono ?_
              rintro e w5 ⟨rfl, rfl⟩
              go_wp2_with fail
              go_ret2
              exact Bad.out _ e9.out hb1
          · obtain rfl : pos = n := by omega
            have hnx : ∀ ty, (Instr.next (.pointer (some ⟨w.heap.size, 0, none⟩)) true ty).run Tryd.prog wr = _ := fun ty => Lib.run_next_end_at wr w.heap.size B pos ty hit (by omega)
            have hmn := hm.out
            rw [List.take_of_length_le (by rw [← Hn.out]; exact Nat.le_refl _)] at hmn
            have hok : numOk s = true := num_true HNE.out hcan.out (fun i hi => hdig.out i hi (by rw [Hn.out]; exact hi)) (by rw [← hmn]; exact hm2)
            have HE : Hid (numV s = m ∧ numOk s = true) := Lib.hid ⟨by unfold numV; rw [if_pos hok, hmn], hok⟩
            clear hmn hok hm hdig
            go_wp2_with fail
            go_ret2
            exact ⟨by rw [HE.out.1, HE.out.2]; rfl, hbw⟩

def isAl (c : UInt8) : Bool := isLt c || isDg c
theorem al_false {s : List UInt8} {n i : Nat} (hi : i < s.length) (h : isAl s[i] = false) : plainB s n = false := by
  unfold plainB
  have : s.all (fun c => isLt c || isDg c) = false := by
    rw [← Bool.not_eq_true, List.all_eq_true]
    intro hh
    have := hh _ (List.getElem_mem hi)
    unfold isAl at h
    rw [h] at this; cases this
  rw [this, Bool.and_false]
theorem al_true {s : List UInt8} {n : Nat} (h0 : s ≠ []) (h1 : s.length ≤ n) (h2 : ∀ i (h : i < s.length), isAl s[i] = true) : plainB s n = true := by
  unfold plainB
  have a : s.isEmpty = false := by cases s <;> simp_all
  have c : s.all (fun c => isLt c || isDg c) = true := by
    rw [List.all_eq_true]
    intro x hx
    obtain ⟨i, hi, rfl⟩ := List.getElem_of_mem hx
    exact h2 i hi
  rw [a, c, decide_eq_true h1]; rfl
set_option maxRecDepth 20000 in
set_option maxHeartbeats 4000000 in
theorem listext_any (s : List UInt8) (k : Nat) (w : World) (hl : s.length ≤ 1000000000) (hk : k ≤ 1000) :
    Calls Tryd.prog 57 #[.string ⟨s.toArray⟩, .int .i64 k] w fun e w' => e = .returned (.bool (plainB s k)) ∧ Below w.heap.size w w' := by
  obtain ⟨B, hB⟩ : ∃ B, B = ByteArray.mk s.toArray := ⟨_, rfl⟩
  rw [← hB]
  obtain ⟨n, hn⟩ : ∃ n, n = s.length := ⟨_, rfl⟩
  have n1 : B.size = n := by rw [hB, hn]; rfl
  have hL : B.toList = s := by rw [hB, ByteArray.toList_mk]
  have bad : ∀ w', plainB s k = false → Below w.heap.size w w' → (Ending.returned (.bool false) = .returned (.bool (plainB s k))) ∧ Below w.heap.size w w' := fun w' h hb => ⟨by rw [h], hb⟩
  have Bad := Lib.hid bad
  have HBB := Lib.hid hB
  clear bad
  by_cases hne : s = []
  · have e0 : (B.toList == []) = true := by rw [hL, hne]; rfl
    have e9 : Hid (plainB s k = false) := Lib.hid (by rw [hne]; rfl)
    clear hL hB hn
    go_enter Tryd.func57, Tryd.ntmps57
    go_wp2_with fail
    go_ret
    exact Bad.out _ e9.out (Below.refl _ _)
  · have e0 : (B.toList == []) = false := by rw [hL, beq_eq_false_iff_ne]; exact hne
    have n0 : 0 < n := by rw [hn]; exact List.length_pos_iff.2 hne
    have Hn := Lib.hid hn
    by_cases hlong : k < n
    · have e9 : Hid (plainB s k = false) := Lib.hid (by unfold plainB; rw [decide_eq_false (by omega), Bool.and_false, Bool.false_and])
      have q1 : (k : Int) < n := by omega
      clear hL hB hn hlong
      go_enter Tryd.func57, Tryd.ntmps57
      go_wp2_with fail
      go_ret
      exact Bad.out _ e9.out (Below.refl _ _)
    · have HNE := Lib.hid hne
      have q1 : ¬ (k : Int) < n := by omega
      clear hL hn hB hne
      have hK : (w.iter B 0).heap[w.heap.size]? = some (.stringIter B 0) ∧ Below w.heap.size w (w.iter B 0) := ⟨World.iter_heap w B 0, (Below.refl _ w).alloc (Nat.le_refl _) _⟩
      go_enter Tryd.func57, Tryd.ntmps57
      go_wp2_with fail
      generalize (w.iter B 0) = W at hK ⊢
      go_loopw [6] (fun _ wr => ∃ (pos : Nat), pos ≤ n ∧ Hid (∀ i (h : i < s.length), i < pos → isAl s[i] = true) ∧ wr.heap[w.heap.size]? = some (.stringIter B pos) ∧ Below w.heap.size w wr) (fun _ wr => n - wr.iterPos w.heap.size)
      case atStart => exact ⟨0, by omega, Lib.hid (fun i h h2 => by omega), hK.1, hK.2⟩
      case round =>
        clear hK
        obtain ⟨pos, hpn, hdig, hit, hbw⟩ := hrel
        have hpos0 := iterPos_of hit
        by_cases hp : pos < n
        · have hpl : pos < s.length := by rw [← Hn.out]; exact hp
          obtain ⟨r, W1, p1, hLt, hb1⟩ := lt_of HBB.out hit hpl hbw
          have hnx := hLt.nx
          have hlo := hLt.lo hpl
          have hhi := hLt.hi hpl
          have hpos1 := iterPos_of hLt.it
          have hit1 := hLt.it
          obtain ⟨v, hv⟩ : ∃ v, v = s[pos].toNat := ⟨_, rfl⟩
          rw [← hv] at hlo hhi
          have hdv : isAl s[pos] = ((decide (97 ≤ v) && decide (v ≤ 122)) || (decide (48 ≤ v) && decide (v ≤ 57))) := by rw [hv]; rfl
          obtain ⟨b1, hb1'⟩ : ∃ b, (decide ((97 : Int) ≤ r) && decide (r ≤ 122)) = b := ⟨_, rfl⟩
          obtain ⟨b2, hb2'⟩ : ∃ b, (decide ((48 : Int) ≤ r) && decide (r ≤ 57)) = b := ⟨_, rfl⟩
          have HC := Lib.hid (fun w => lletter_any r b1 hb1' w)
          have HC2 := Lib.hid (fun w => ldigit_any r b2 hb2' w)
          have hval : isAl s[pos] = (b1 || b2) ∧ ((b1 || b2) = true → p1 = pos + 1) := by
            by_cases h128 : v < 128
            · obtain ⟨hr, hp1⟩ := hlo h128
              refine ⟨?_, fun _ => hp1⟩
              rw [hdv, ← hb1', ← hb2', hr, show decide ((97 : Int) ≤ (v : Int)) = decide (97 ≤ v) from decide_eq_decide.2 (by omega), show decide ((v : Int) ≤ 122) = decide (v ≤ 122) from decide_eq_decide.2 (by omega),
                show decide ((48 : Int) ≤ (v : Int)) = decide (48 ≤ v) from decide_eq_decide.2 (by omega), show decide ((v : Int) ≤ 57) = decide (v ≤ 57) from decide_eq_decide.2 (by omega)]
            · have := hhi (by omega)
              have x1 : b1 = false := by rw [← hb1', decide_eq_false (show ¬ (r ≤ 122) by omega), Bool.and_false]
              have x2 : b2 = false := by rw [← hb2', decide_eq_false (show ¬ (r ≤ 57) by omega), Bool.and_false]
              rw [x1, x2, hdv, decide_eq_false (show ¬ (v ≤ 122) by omega), decide_eq_false (show ¬ (v ≤ 57) by omega)]
              simp
          have HPP := Lib.hid hpos1
          have HP0 := Lib.hid hpos0
          have HVAL := Lib.hid hval
          clear hlo hhi hdv hv hb1' hb2' hpos0 hpos1 hval hLt hit
          cases b1 with
          | true =>
            have hdig2 : Hid (∀ i (h : i < s.length), i < pos + 1 → isAl s[i] = true) := Lib.hid (by
              intro i hi hi2
              by_cases e : i = pos
              · subst e; exact HVAL.out.1
              · exact hdig.out i hi (by omega))
            have HP := Lib.hid (HVAL.out.2 rfl)
            clear hdig HVAL
            go_wp2_with fail
            refine (HC.out _).mono ?_
            rintro e w5 ⟨rfl, rfl⟩
            go_wp2_with fail
            go_roundw
            case rel => exact ⟨pos + 1, by omega, hdig2, by rw [← HP.out]; exact hit1, hb1⟩
            case measure => rw [HPP.out, HP0.out, HP.out]; omega
          | false =>
            cases b2 with
            | true =>
              have hdig2 : Hid (∀ i (h : i < s.length), i < pos + 1 → isAl s[i] = true) := Lib.hid (by
                intro i hi hi2
                by_cases e : i = pos
                · subst e; exact HVAL.out.1
                · exact hdig.out i hi (by omega))
              have HP := Lib.hid (HVAL.out.2 rfl)
              clear hdig HVAL
              go_wp2_with fail
              refine (HC.out _).mono ?_
              rintro e w5 ⟨rfl, rfl⟩
              go_wp2_with fail
              refine (HC2.out _).mono ?_
              rintro e w6 ⟨rfl, rfl⟩
              go_wp2_with fail
              go_roundw
              case rel => exact ⟨pos + 1, by omega, hdig2, by rw [← HP.out]; exact hit1, hb1⟩
              case measure => rw [HPP.out, HP0.out, HP.out]; omega
            | false =>
              have e9 : Hid (plainB s k = false) := Lib.hid (al_false hpl HVAL.out.1)
              clear hdig HVAL
              go_wp2_with fail
              refine (HC.out _).mono ?_
              rintro e w5 ⟨rfl, rfl⟩
              go_wp2_with fail
              refine (HC2.out _).mono ?_
              rintro e w6 ⟨rfl, rfl⟩
              go_wp2_with fail
              go_ret
              exact Bad.out _ e9.out hb1
        · obtain rfl : pos = n := by omega
          have hnx : ∀ ty, (Instr.next (.pointer (some ⟨w.heap.size, 0, none⟩)) true ty).run Tryd.prog wr = _ := fun ty => Lib.run_next_end_at wr w.heap.size B pos ty hit (by omega)
          have hok : Hid (plainB s k = true) := Lib.hid (al_true HNE.out (by rw [← Hn.out]; omega) (fun i hi => hdig.out i hi (by rw [Hn.out]; exact hi)))
          clear hdig
          go_wp2_with fail
          go_ret
          exact ⟨by rw [hok.out]; rfl, hbw⟩
end Go.Proofs.YtpdhmjmklmoknaaDoor

namespace Go.Proofs.YtpdhmjmklmoknaaDoor
open Go.RowKit

theorem heap_setCells_at (g : Nat) (e : TypeId) : ∀ (vs : List Value) (o : Nat) (w : World) (cur : Array Value), w.heap[g]? = some (.cells cur e (0, 0)) → o + vs.length ≤ cur.size →
    (w.setCells g o vs).heap[g]? = some (.cells (cur.toList.take o ++ vs ++ cur.toList.drop (o + vs.length)).toArray e (0, 0))
  | [], o, w, cur, h, _ => by simp [World.setCells, h]
  | v :: vs, o, w, cur, h, hf => by
    simp only [List.length_cons] at hf
    have h1 := heap_setCell_same w g o cur e v h
    have ih := heap_setCells_at g e vs (o + 1) (w.setCell ⟨g, o, none⟩ v) (cur.setIfInBounds o v) h1 (by simp; omega)
    rw [World.setCells, ih]
    congr 3
    rw [Array.toList_setIfInBounds]
    have hl : o < cur.toList.length := by simp; omega
    rw [List.take_succ_eq_append_getElem (by simpa using hl)]
    simp only [List.getElem_set_self, List.take_set_of_le (Nat.le_refl o), List.drop_set_of_lt (show o < o + 1 + vs.length by omega), List.length_cons, List.append_assoc, List.cons_append, List.nil_append]
    rw [show o + (vs.length + 1) = o + 1 + vs.length by omega]

theorem grownBy_setCells (g : Nat) (vs : List Value) : ∀ (o : Nat) (w : World), w.grownBy (w.setCells g o vs) (some g) := by
  induction vs with
  | nil => intro o w; exact ⟨rfl, rfl, rfl, Nat.le_refl _, fun _ _ _ => rfl⟩
  | cons v vs ih =>
    intro o w
    have h := ih (o + 1) (w.setCell ⟨g, o, none⟩ v)
    refine ⟨h.os, h.tape, h.output, ?_, fun k hk hne => ?_⟩
    · exact Nat.le_trans (show w.heap.size ≤ (w.setCell ⟨g, o, none⟩ v).heap.size by simp [World.setCell]) h.size
    · refine (h.block k (by simpa [World.setCell] using hk) hne).trans ?_
      exact heap_setCell_other w ⟨g, o, none⟩ k v (fun e => hne (by simp [e]))

theorem run_append_src {P : Program} (w : World) (t tx ty e : TypeId) (i : TypeInfo) (z : Value) (size bytes : Nat) (ht : P.underlying t = some (.slice e)) (hi : P.info? e = some i) (hz : i.zero = some z)
    (hsize : i.size = size) (hby : i.bytes = bytes) (hzs : z.cells.size = size)
    (v : Value) (n : Nat) (xs : List Value) (hown : w.ownsRow 0 e size v n xs) (x : Value) (m : Nat) (news : List Value) (hs : Src P size tx x m news w)
    (h63 : n + m ≤ maxLen) (hbytes : (n + m) * bytes ≤ 140737488355328) :
    ∃ v' w', (Builtin.append_ #[t, tx] ty #[v, x]).run P w = .ok v' w' ∧ w'.ownsRow 0 e size v' (n + m) (xs ++ news) ∧ w.grownBy w' v.ownBlock ∧
      (v'.ownBlock = v.ownBlock ∨ v'.ownBlock = some w.heap.size) := by
  subst hsize
  subst hby
  have hlen : (xs ++ news).length = (n + m) * i.size := by rw [List.length_append, hown.1, hs.newsLen, Nat.add_mul]
  have h63i : ((n + m : Nat) : Int) ≤ 9223372036854775807 := by simp only [maxLen] at h63; omega
  have grown : ∀ (old : Nat), old < n + m → ∀ (row : Option Nat),
      (w.drew.alloc (.cells ((xs ++ news).toArray ++ Builtin.zeroCells z.cells (grownCap w (n + m) old e - (n + m))) e)).ownsRow 0 e i.size
        (.slice (some ⟨w.heap.size, 0, none⟩) (n + m) (grownCap w (n + m) old e)) (n + m) (xs ++ news) ∧
      w.grownBy (w.drew.alloc (.cells ((xs ++ news).toArray ++ Builtin.zeroCells z.cells (grownCap w (n + m) old e - (n + m))) e)) row := by
    intro old ho row
    have hge := grownCap_ge w (n + m) old e
    have hcm := grownCap_le_maxLen w (n + m) old e h63
    refine ⟨⟨hlen, .inr ⟨w.heap.size, _, _, rfl, Nat.zero_le _, heap_alloc_new w.drew _, hge, hcm, ?_, ?_⟩⟩, ⟨rfl, rfl, rfl, by simp, fun k hk _ => heap_alloc_old w.drew _ hk⟩⟩
    · rw [Array.size_append, List.size_toArray, hlen, size_zeroCells, hzs, ← Nat.add_mul]
      congr 1
      omega
    · rw [Array.toList_append, ← hlen]
      exact List.take_left
  rcases hown.2 with ⟨rfl, rfl⟩ | ⟨g, cap, cur, rfl, hbg, hg, hnc, hcm, hcs, htake⟩
  · have hx : xs = [] := List.eq_nil_of_length_eq_zero (by simpa using hown.1)
    subst hx
    by_cases hm : m = 0
    · subst hm
      have hn : news = [] := List.eq_nil_of_length_eq_zero (by simpa using hs.newsLen)
      subst hn
      refine ⟨.slice none 0 0, w, ?_, World.ownsRow_nil w 0 e i.size, ⟨rfl, rfl, rfl, Nat.le_refl _, fun _ _ _ => rfl⟩, .inl rfl⟩
      rcases hs.kind with ⟨e', hk⟩ | hk <;> simp [Builtin.append_, run_underlying ht, run_underlying hk, sizeOf, typeInfo, hi, hs.len, hs.cells]
    · have hr := run_append_grow_src (P := P) w t tx ty e i z ht hi hz none 0 0 [] (run_firstCells_none _ _ _ _ _) x m news hs (by omega) h63i (growslice_fits (by omega) hbytes)
      have hgr := grown 0 (by omega) (Value.ownBlock (.slice none 0 0))
      simp only [Nat.zero_add, List.nil_append] at hr hgr ⊢
      exact ⟨_, _, hr, hgr.1, hgr.2, .inr rfl⟩
  · have hcell : ∀ j, j < cap * i.size → w.cell? ⟨g, j, none⟩ = cur[j]? := fun j _ => cell_of_row w g j cur e (0, 0) hg
    by_cases hroom : n + m ≤ cap
    · have hfit : n * i.size + news.length ≤ cur.size := by rw [hs.newsLen, hcs, ← Nat.add_mul]; exact Nat.mul_le_mul_right _ hroom
      have hr := run_append_room_src (P := P) w t tx ty e i ht hi g 0 n cap x m news hs hroom
        (fun j hj => by rw [Nat.zero_add, cell_of_row w g _ cur e (0, 0) hg, Array.getElem?_eq_getElem (show n * i.size + j < cur.size by omega)]; rfl)
        (fun j _ => frozen_of_row w g _ cur e hg)
      rw [Nat.zero_add] at hr
      refine ⟨_, _, hr, ⟨hlen, .inr ⟨g, cap, _, rfl, hbg, heap_setCells_at g e news (n * i.size) w cur hg hfit, hroom, hcm, ?_, ?_⟩⟩, grownBy_setCells g news _ w, .inl rfl⟩
      · simp only [List.size_toArray, List.length_append, List.length_take, List.length_drop, Array.length_toList]
        omega
      · rw [htake, ← hlen]
        exact List.take_left
    · have hf := run_firstCells_some (P := P) w.drew i.size n ⟨g, 0, none⟩ n cap xs hown.1 (by simpa using hown.cells (g := g) rfl)
      have hr := run_append_grow_src (P := P) w t tx ty e i z ht hi hz (some ⟨g, 0, none⟩) n cap xs hf x m news hs (by omega) h63i (growslice_fits (by omega) hbytes)
      have hgr := grown cap (by omega) (Value.ownBlock (.slice (some ⟨g, 0, none⟩) n cap))
      exact ⟨_, _, hr, hgr.1, hgr.2, .inr rfl⟩

theorem wp_append_src {P : Program} {w : World} {o : Oper} {a : Act} {K : Act → World → Prop} {Q : Exit → Act → World → Prop} (s x : Operand) (t tx : TypeId)
    (ho : o.op = .call { callee := .builtin .append, args := #[s, x], argTypes := #[t, tx] })
    (e : TypeId) (i : TypeInfo) (z : Value) (size bytes : Nat) (ht : P.underlying t = some (.slice e)) (hi : P.info? e = some i) (hz : i.zero = some z)
    (hsize : i.size = size) (hby : i.bytes = bytes) (hzs : z.cells.size = size)
    (v : Value) (n : Nat) (xs : List Value) (hs : a.eval s = v) (hown : w.ownsRow 0 e size v n xs) (xv : Value) (m : Nat) (news : List Value) (hx : a.eval x = xv) (hsrc : Src P size tx xv m news w)
    (h63 : n + m ≤ maxLen) (hbytes : (n + m) * bytes ≤ 140737488355328)
    (h : ∀ v' w', w'.ownsRow 0 e size v' (n + m) (xs ++ news) → w.grownBy w' v.ownBlock → (v'.ownBlock = v.ownBlock ∨ v'.ownBlock = some w.heap.size) → K (a.put o.dst v') w') : o.wp P a w K Q := by
  obtain ⟨v', w', hr, h2, h3, h4⟩ := run_append_src (P := P) w t tx o.type e i z size bytes ht hi hz hsize hby hzs v n xs hown xv m news hsrc h63 hbytes
  unfold Oper.wp execOp
  simp only [ho, resolve, invoke, builtin, Sem.run_bind, Sem.run_pure, Result.andThen_ok, List.map_toArray, List.map_cons, List.map_nil, hs, hx, hr]
  exact h v' w' h2 h3 h4

theorem wpList_append_src {P : Program} {w : World} {ops : Array Oper} {rest : List Oper} {o : Oper} {a : Act} {Q : Exit → Act → World → Prop} (hgd : o.guard = none) (s x : Operand) (t tx : TypeId)
    (ho : o.op = .call { callee := .builtin .append, args := #[s, x], argTypes := #[t, tx] })
    (e : TypeId) (i : TypeInfo) (z : Value) (size bytes : Nat) (ht : P.underlying t = some (.slice e)) (hi : P.info? e = some i) (hz : i.zero = some z)
    (hsize : i.size = size) (hby : i.bytes = bytes) (hzs : z.cells.size = size)
    (v : Value) (n : Nat) (xs : List Value) (hs : a.eval s = v) (hown : w.ownsRow 0 e size v n xs) (xv : Value) (m : Nat) (news : List Value) (hx : a.eval x = xv) (hsrc : Src P size tx xv m news w)
    (h63 : n + m ≤ maxLen) (hbytes : (n + m) * bytes ≤ 140737488355328)
    (h : ∀ v' w', w'.ownsRow 0 e size v' (n + m) (xs ++ news) → w.grownBy w' v.ownBlock → (v'.ownBlock = v.ownBlock ∨ v'.ownBlock = some w.heap.size) → wpList P ops Q rest (a.put o.dst v') w') : wpList P ops Q (o :: rest) a w :=
  wpList_plain hgd fun _ hK => wp_append_src s x t tx ho e i z size bytes ht hi hz hsize hby hzs v n xs hs hown xv m news hx hsrc h63 hbytes fun v' w' h2 h3 h4 => hK _ _ (h v' w' h2 h3 h4)

end Go.Proofs.YtpdhmjmklmoknaaDoor

namespace Go.Proofs.YtpdhmjmklmoknaaDoor
open Go.RowKit Go.Shelf

/-- Bytes in a row. -/
def encU : Enc UInt8 := ⟨fun x => [.int .u8 (x.toNat : Int)], 1, fun _ => rfl, fun _ v hv => by rw [List.mem_singleton.1 hv]; rfl, Nat.one_pos⟩
theorem lninfo_u8 : (Tryd.prog.info? 5).map (fun i => (i.zero, i.size, i.bytes)) = some (some (.int .u8 0), 1, 1) := by kernel_rfl
theorem Rd.u8 {w : World} {ao : Option Addr} {L : List UInt8} (h : Rd encU w ao L) (j : Nat) (hj : j < L.length) : ∃ bs off, ao = some ⟨bs, off, none⟩ ∧ bs < w.heap.size ∧ w.cell? ⟨bs, off + j, none⟩ = some (.int .u8 (L[j].toNat : Int)) := by
  obtain ⟨bs, off, e, hlt, hc⟩ := h j hj
  exact ⟨bs, off, e, hlt, by have := hc 0 _ rfl; simpa [encU] using this⟩
theorem convU {w : World} {p : Option Addr} {cap : Nat} {L : List UInt8} (h : Rd encU w p L) (hL : L ≠ []) : (convert 44 9 (.slice p L.length cap)).run Tryd.prog w = .ok (.string ⟨L.toArray⟩) w := by
  obtain ⟨bs, off, rfl, _, _⟩ := h.u8 0 (List.length_pos_iff.2 hL)
  rw [run_convert_bytes_arg w 44 5 Tryd.underlying44 Tryd.underlying5 bs off L.length cap (L.map fun x => (x.toNat : Int)) (by simp) (fun i hi => by
    obtain ⟨b2, o2, e, _, hc⟩ := h.u8 i hi
    cases e
    rw [hc]
    simp [List.getD, hi]) 9 Tryd.underlying9]
  simp [strOfNums, Function.comp_def]
/-- Elements more, as a step of a region that draws. -/
theorem step_pushR {α : Type} {P : Program} {ops : Array Oper} {o : Oper} {a : Act} {K : Act → World → Prop} {Q : Exit → Act → World → Prop} {w : World} {R : Prop} (hgd : o.guard = none) (E : Enc α) (s x : Operand) (Ts T : TypeId) (z : Value) (by_ : Nat)
    (ho : o.op = .call { callee := .builtin .append, args := #[s, x], argTypes := #[Ts, Ts] }) (hT : P.underlying Ts = some (.slice T)) (hi : (P.info? T).map (fun i => (i.zero, i.size, i.bytes)) = some (some z, E.k, by_)) (hzs : z.cells.size = E.k) (hby : by_ ≤ 1024)
    (p : Option Addr) (cap n : Nat) (L : List α) (hn : L.length = n) (hs : a.eval s = .slice p n cap) (hS : Rw E T w p cap L) (ao : Option Addr) (m cx : Nat) (Y : List α) (hm : Y.length = m) (hx : a.eval x = .slice ao m cx) (hY : Rd E w ao Y) (hl : n + m ≤ 100000000000) (h0 : 0 < m)
    (h : ∀ q c w', PushR E T w p (L ++ Y) q c w' → K (a.put o.dst (.slice q (n + m) c)) w') :
    if Region.wanted o (yielded ops a.tmps) = true then Oper.wp P o a w K Q else R := by
  have hw : Region.wanted o (yielded ops a.tmps) = true := by simp [Region.wanted, hgd]
  rw [if_pos hw]
  cases hq : P.info? T with
  | none => rw [hq] at hi; cases hi
  | some i =>
    rw [hq] at hi
    simp only [Option.map_some, Option.some.injEq, Prod.mk.injEq] at hi
    obtain ⟨hz, h1, h2⟩ := hi
    subst hn
    subst hm
    have hmul : (L.length + Y.length) * by_ ≤ 140737488355328 := Nat.le_trans (Nat.mul_le_mul hl hby) (by decide)
    obtain ⟨bs, off, rfl, hbs, _⟩ := hY 0 h0
    refine wp_append_lies w s x Ts ho 0 T i z E.k by_ hT hq hz h1 h2 hzs E.pos _ L.length (E.all L) hs hS ⟨bs, off, none⟩ Y.length cx (E.all Y) hx (E.all_len Y) ?_ (E.all_one _) h0 (by unfold maxLen; omega) hmul (Nat.zero_le _) _ rfl ?_
    · intro j u hj
      have hjl : j < Y.length * E.k := by
        have := (List.getElem?_eq_some_iff.1 hj).1
        rwa [E.all_len] at this
      have hd : j / E.k < Y.length := by rw [Nat.div_lt_iff_lt_mul E.pos]; exact hjl
      have hr : j % E.k < E.k := Nat.mod_lt _ E.pos
      have he : j / E.k * E.k + j % E.k = j := by rw [Nat.mul_comm]; exact Nat.div_add_mod j E.k
      obtain ⟨bs', off', e, _, c1⟩ := hY (j / E.k) hd
      cases e
      have hadd : (⟨bs, off, none⟩ : Addr).add j = ⟨bs, off + j, none⟩ := by unfold Addr.add; split <;> simp_all
      rw [← he, E.all_get Y _ _ hd hr] at hj
      have := c1 _ _ hj
      rw [Nat.add_assoc, he] at this
      rw [hadd, this]
    · intro g c w' hown hgrow hat _
      refine h (some ⟨g, 0, none⟩) c w' ⟨?_, ?_, ?_⟩
      · unfold Rw; rw [List.length_append, E.all_app]; exact hown
      · refine (Mod.refl _ w).grown hgrow ?_
        intro j hj _
        cases p with
        | none => simp [Value.ownBlock] at hj
        | some a => simp [Value.ownBlock] at hj; exact ⟨a, rfl, hj.symm⟩
      · rintro a' e; cases e
        rcases hat with hat | hat
        · left
          rcases hS.shape with ⟨rfl, _⟩ | ⟨g', rfl, _⟩
          · simp [Value.ownBlock] at hat
          · simp [Value.ownBlock] at hat; subst hat; rfl
        · right; rw [hat]; exact Nat.le_refl _

theorem hexL_take (s : List UInt8) (i : Nat) (h : i < s.length) : hexL (s.take (i + 1)) = hexL (s.take i) ++ [hdg (s[i].toNat / 16), hdg (s[i].toNat % 16)] := by
  have e : s.take (i + 1) = s.take i ++ [s[i]] := (List.take_append_getElem h).symm
  unfold hexL; rw [e, List.flatMap_append]; simp
theorem hexD_at : ∀ n : Fin 16, (ByteArray.mk #[48, 49, 50, 51, 52, 53, 54, 55, 56, 57, 97, 98, 99, 100, 101, 102])[n.val]? = some (hdg n.val) := by decide +kernel
theorem hexD_index (n : Nat) (hn : n < 16) (w : World) : (Instr.index 9 (.string ⟨#[48, 49, 50, 51, 52, 53, 54, 55, 56, 57, 97, 98, 99, 100, 101, 102]⟩) (.int .u8 (n : Int))).run Tryd.prog w = .ok (.int .u8 ((hdg n).toNat : Int)) w := by
  have ht := hexD_at ⟨n, hn⟩
  simp only at ht
  unfold Instr.index
  simp only [asIntOf, Sem.run_bind, Sem.run_pure, Result.andThen_ok, run_underlying Tryd.underlying9]
  rw [if_pos (by omega), show ((n : Int)).toNat = n by omega, ht]
  rfl
set_option maxRecDepth 20000 in
set_option maxHeartbeats 4000000 in
theorem lhex_any (s : List UInt8) (w : World) (hl : s.length ≤ 1000000000) :
    Calls Tryd.prog 16 #[.string ⟨s.toArray⟩] w fun e w' => e = .returned (.string ⟨(hexW s).toArray⟩) ∧ Below w.heap.size w w' := by
  obtain ⟨B, hB⟩ : ∃ B, B = ByteArray.mk s.toArray := ⟨_, rfl⟩
  rw [← hB]
  obtain ⟨n, hn⟩ : ∃ n, n = s.length := ⟨_, rfl⟩
  have n1 : B.size = n := by rw [hB, hn]; rfl
  have hL : B.toList = s := by rw [hB, ByteArray.toList_mk]
  have hget : Hid (∀ i (h : i < B.size) (h2 : i < s.length), B[i] = s[i]) := Lib.hid (by subst hB; intro i h h2; rfl)
  by_cases hne : s = []
  · have e0 : (B.toList == []) = true := by rw [hL, hne]; rfl
    have e9 : Hid (hexW s = [45]) := Lib.hid (by rw [hne]; rfl)
    clear hL hB hn
    go_enter Tryd.func16, Tryd.ntmps16
    go_wp2_with fail
    go_ret
    exact ⟨by rw [e9.out]; rfl, Below.refl _ _⟩
  · have e0 : (B.toList == []) = false := by rw [hL, beq_eq_false_iff_ne]; exact hne
    have e9 : Hid (hexW s = hexL s) := Lib.hid (by unfold hexW; rw [if_neg hne])
    have e8 : Hid (hexL s ≠ []) := Lib.hid (by intro e; have := hexL_len s; rw [e] at this; have := List.length_pos_iff.2 hne; simp at *; omega)
    have Hn := Lib.hid hn
    have n63 : (n : Int) ≤ 1000000000 := by omega
    clear hL hB hn hne
    go_enter Tryd.func16, Tryd.ntmps16
    go_wp2_with fail
    go_loopw [9, 3] (fun s9 s3 wr => ∃ (i : Nat) (q : Option Addr) (m c : Nat), i ≤ n ∧ s9 = .int .i64 i ∧ s3 = .slice q m c ∧ Hid (m = 2 * i) ∧ AccR encU 5 w m (hexL (s.take i)) q c wr) (fun s9 _ _ => n - (intOf s9).toNat)
    case atStart => exact ⟨0, none, 0, 0, by omega, rfl, rfl, Lib.hid rfl, AccR.zero _ _ _⟩
    case round =>
      obtain ⟨i, q, m, c, hin, rfl, rfl, hm, hA⟩ := hrel
      by_cases hlt : i < n
      · have hib : i < B.size := by omega
        have hil : i < s.length := by rw [← Hn.out]; exact hlt
        have hgt := hget.out i hib hil
        have htk := hexL_take s i hil
        obtain ⟨v, hv⟩ : ∃ v, v = s[i].toNat := ⟨_, rfl⟩
        have hv256 : v < 256 := by rw [hv]; exact s[i].toNat_lt
        rw [← hv] at htk
        have hgv : ((B[i]'hib).toNat : Int) = v := by rw [hgt, ← hv]
        have i0 : (0 : Int) ≤ i := by omega
        have i1 : (i : Int) < n := by omega
        obtain ⟨x, hx⟩ : ∃ x, x = v / 16 := ⟨_, rfl⟩
        obtain ⟨y, hy⟩ : ∃ y, y = v % 16 := ⟨_, rfl⟩
        have d1 : (v : Int).tdiv 16 = x := by rw [Int.tdiv_eq_ediv_of_nonneg (by omega)]; omega
        have d2 : (v : Int).tmod 16 = y := by rw [Int.tmod_eq_emod_of_nonneg (by omega)]; omega
        have d3 : IntKind.u8.wrap (x : Int) = x := by rw [IntKind.wrap_u8]; omega
        have d4 : IntKind.u8.wrap (y : Int) = y := by rw [IntKind.wrap_u8]; omega
        have hi1 := hexD_index x (by omega)
        have hi2 := hexD_index y (by omega)
        rw [← hx, ← hy] at htk
        have HTK := Lib.hid htk
        have hmb : m ≤ 2000000000 := by have := hm.out; omega
        clear hv hgt htk hx hy
        go_upto_region 7 with fail
        go_region_law (
          refine step_pushR rfl encU (.tmp 12) (.tmp 23) 44 5 (.int .u8 0) 1 rfl Tryd.underlying44 lninfo_u8 rfl (by decide) q c m (hexL (s.take i)) hA.len rfl (hA.below (by first | exact ((Below.refl _ _).alloc (Nat.le_refl _) _).drew | exact (Below.refl _ _).drew.alloc (Nat.le_refl _) _)).s (some ⟨wr.heap.size, 0, none⟩) 2 2 [hdg x, hdg y] rfl rfl ?_ (by omega) (by decide) ?_
          · first | exact Rd.made encU wr.drew 5 [hdg x, hdg y] (by simp [maxLen]) | exact (Rd.made encU wr 5 [hdg x, hdg y] (by simp [maxLen])).old (Below.refl _ _).drew
          intro q2 c2 w2 hP
          have hA2 := (hA.below (by first | exact ((Below.refl _ _).alloc (Nat.le_refl _) _).drew | exact (Below.refl _ _).drew.alloc (Nat.le_refl _) _)).push hP
          have HA2 := Lib.hid hA2
          clear hP hA2)
        all_goals
          go_wp2_with fail
          go_roundw
          case rel =>
            refine ⟨i + 1, q2, m + 2, c2, by omega, by go_num, rfl, Lib.hid (by rw [hm.out]; omega), ?_⟩
            rw [HTK.out]; exact HA2.out
          case measure => simp [intOf]; omega
      · obtain rfl : i = n := by omega
        have hA2 := hA
        rw [List.take_of_length_le (by rw [← Hn.out]; exact Nat.le_refl _)] at hA2
        have hcv := convU (cap := c) hA2.take e8.out
        rw [hA2.len] at hcv
        have HM := Lib.hid hA2.m
        clear hA hA2
        go_wp2_with fail
        go_ret
        exact ⟨by rw [e9.out]; rfl, HM.out⟩
end Go.Proofs.YtpdhmjmklmoknaaDoor

namespace Go.Proofs.YtpdhmjmklmoknaaDoor
open Go.RowKit Go.Shelf

def hexDs : List UInt8 := [48, 49, 50, 51, 52, 53, 54, 55, 56, 57, 97, 98, 99, 100, 101, 102]
def hexB : ByteArray := ⟨#[48, 49, 50, 51, 52, 53, 54, 55, 56, 57, 97, 98, 99, 100, 101, 102]⟩
theorem hexDs_at : ∀ k : Fin 128, Lib.indexByte hexDs (UInt8.ofNat k.val) = if isHx (UInt8.ofNat k.val) then (hv (UInt8.ofNat k.val) : Int) else -1 := by decide +kernel
theorem hexDs_hi (c : UInt8) (hc : 128 ≤ c.toNat) (k n : Nat) : Lib.indexByte (hexB.extract k n).data.toList c = -1 := by
  have : ∀ l : List UInt8, (∀ x ∈ l, x.toNat < 128) → Lib.indexByte l c = -1 := by
    intro l
    induction l with
    | nil => intro _; rfl
    | cons a l ih =>
      intro h
      have h1 := h a (List.mem_cons_self ..)
      unfold Lib.indexByte
      rw [if_neg (by rw [beq_iff_eq]; intro e; rw [e] at h1; omega), ih (fun x hx => h x (List.mem_cons_of_mem _ hx))]
      rfl
  refine this _ (fun x hx => ?_)
  have hm : x ∈ hexDs := by
    have e : hexB.extract k n = _ := ByteArray.extract_mk hexDs k n
    rw [e] at hx
    exact List.mem_of_mem_drop (List.mem_of_mem_take (by simpa using hx))
  have : ∀ y ∈ hexDs, y.toNat < 128 := by decide +kernel
  exact this x hm
/-- A letter's place: what unhex reads. -/
def rv (r : Int) : Int := if r < 128 then (if isHx (UInt8.ofNat r.toNat) then (hv (UInt8.ofNat r.toNat) : Int) else -1) else -1

set_option maxRecDepth 1000000 in
set_option maxHeartbeats 4000000 in
theorem lrune_any (r : Int) (w : World) (h0 : 0 ≤ r) :
    Calls Tryd.prog 68 #[.string hexB, .int .i32 r] w fun e w' => e = .returned (.int .i64 (rv r)) ∧ Below w.heap.size w w' := by
  by_cases h128 : r < 128
  · refine (Tryd.strings_IndexRune_ascii hexB r w h0 h128).mono ?_
    rintro e w' ⟨rfl, rfl⟩
    refine ⟨?_, Below.refl _ _⟩
    have := hexDs_at ⟨r.toNat, by omega⟩
    simp only at this
    rw [show hexB.data.toList = hexDs from rfl, show r.toNat.toUInt8 = UInt8.ofNat r.toNat from rfl, this]
    unfold rv; rw [if_pos h128]
  · have e9 : Hid (rv r = -1) := Lib.hid (by unfold rv; rw [if_neg h128])
    have q0 : ¬ r < 128 := h128
    by_cases hre : r = 65533
    · subst hre
      obtain ⟨B, hB⟩ : ∃ B, B = hexB := ⟨_, rfl⟩
      have hBs : B.size = 16 := by rw [hB]; rfl
      have hBu : ∀ k (h : k < B.size), (B[k]'h).toNat < 128 := by
        intro k h
        have : ∀ q : Fin 16, (hexB[q.val]'(by exact q.isLt)).toNat < 128 := by decide +kernel
        subst hB
        exact this ⟨k, by rw [hBs] at h; exact h⟩
      rw [← hB]
      have HBS := Lib.hid hBs
      have HBU := Lib.hid hBu
      have hK : (w.iter B 0).heap[w.heap.size]? = some (.stringIter B 0) ∧ Below w.heap.size w (w.iter B 0) := ⟨World.iter_heap w B 0, (Below.refl _ w).alloc (Nat.le_refl _) _⟩
      clear hB hBs hBu
      go_enter Tryd.func68, Tryd.ntmps68
      go_wp2_with fail
      generalize (w.iter B 0) = W at hK ⊢
      go_loopw [5, 6] (fun _ _ wr => ∃ (pos : Nat), pos ≤ 16 ∧ wr.heap[w.heap.size]? = some (.stringIter B pos) ∧ Below w.heap.size w wr) (fun _ _ wr => 16 - wr.iterPos w.heap.size)
      case atStart => exact ⟨0, by omega, hK.1, hK.2⟩
      case round =>
        clear hK
        obtain ⟨pos, hp16, hit, hbw⟩ := hrel
        have hpos0 := iterPos_of hit
        have HP0 := Lib.hid hpos0
        by_cases hp : pos < 16
        · have hps : pos < B.size := by rw [HBS.out]; exact hp
          have hnx : ∀ ty, (Instr.next (.pointer (some ⟨w.heap.size, 0, none⟩)) true ty).run Tryd.prog wr = _ := fun ty => Lib.run_next_ascii_at wr w.heap.size B pos ty hit hps (HBU.out pos hps)
          have hit1 := Lib.iterAt_heap wr w.heap.size B pos (pos + 1) hit
          have hb1 := below_iterAt hbw B (pos + 1)
          obtain ⟨v, hv⟩ : ∃ v, v = (B[pos]'hps).toNat := ⟨_, rfl⟩
          have hv1 : v < 128 := by rw [hv]; exact HBU.out pos hps
          rw [← hv] at hnx
          have q1 : ((v : Int) == 65533) = false := by rw [beq_eq_false_iff_ne]; omega
          generalize wr.iterAt w.heap.size B (pos + 1) = W1 at *
          have hpos1 := iterPos_of hit1
          have HP1 := Lib.hid hpos1
          clear hv hpos0 hpos1
          go_wp2_with fail
          go_roundw
          case rel => exact ⟨pos + 1, by omega, hit1, hb1⟩
          case measure => rw [HP1.out, HP0.out]; omega
        · obtain rfl : pos = 16 := by omega
          have hnx : ∀ ty, (Instr.next (.pointer (some ⟨w.heap.size, 0, none⟩)) true ty).run Tryd.prog wr = _ := fun ty => Lib.run_next_end_at wr w.heap.size B 16 ty hit (by rw [HBS.out]; omega)
          clear hpos0
          go_wp2_with fail
          go_ret
          exact ⟨by rw [e9.out]; rfl, hbw⟩
    · have qr : (r == 65533) = false := by rw [beq_eq_false_iff_ne]; exact hre
      have HV := Lib.hid (fun w => Tryd.utf8_ValidRune r w)
      by_cases hv : Lib.validRune r = true
      · have HV2 : Hid (∀ w, Calls Tryd.prog 78 #[.int .i32 r] w fun e w' => e = .returned (.bool true) ∧ w' = w) := Lib.hid (fun w => by have := HV.out w; rw [hv] at this; exact this)
        have hval : Utf8.valid r = true := by
          unfold Lib.validRune at hv; unfold Utf8.valid
          simp only [decide_eq_true_eq] at hv
          rcases hv with ⟨a, b⟩ | ⟨a, b⟩
          · rw [decide_eq_true a, decide_eq_true b]; rfl
          · rw [show decide (57344 ≤ r) = true from decide_eq_true (by omega), decide_eq_true b]; simp
        obtain ⟨s2, s4, hlast⟩ := encode_facts r hval (by omega)
        obtain ⟨E, hE⟩ : ∃ E, E = Utf8.encode r := ⟨_, rfl⟩
        rw [← hE] at s2 s4 hlast
        have hcv : ∀ w, (convert 21 9 (.int .i32 r)).run Tryd.prog w = .ok (.string E) w := fun w => by rw [hE]; exact run_convert_int_string w 21 9 .i32 r (by rw [Tryd.underlying21]; rfl) Tryd.underlying9
        obtain ⟨m, hm⟩ : ∃ m, m = E.size := ⟨_, rfl⟩
        have hlast2 : ∀ (h : m - 1 < E.size), 128 ≤ (E[m - 1]'h).toNat := by rw [hm]; exact hlast
        rw [← hm] at s2 s4
        have hI := Lib.hid (fun (c : UInt8) (hc : 128 ≤ c.toNat) (k n : Nat) (w : World) => by
          have := Tryd.strings_IndexByte (hexB.extract k n) (c.toNat : Int) w
          rw [show ((c.toNat : Int)).toNat.toUInt8 = c by simp, hexDs_hi c hc k n] at this
          exact this)
        obtain ⟨k, hk⟩ : ∃ k : Nat, k + 1 = m := ⟨m - 1, by omega⟩
        have hkE : k < E.size := by omega
        have hl := hlast2 (by omega)
        obtain ⟨c, hc⟩ : ∃ c, c = E[k]'hkE := ⟨_, rfl⟩
        have hck : (E[m - 1]'(by omega)) = c := by rw [hc]; congr 1; omega
        rw [hck] at hl
        have hI2 := hI.out c hl
        obtain ⟨v, hv'⟩ : ∃ v, v = c.toNat := ⟨_, rfl⟩
        rw [← hv'] at hl hI2
        have hEv : ((E[k]'hkE).toNat : Int) = v := by rw [← hc, ← hv']
        obtain ⟨B, hB⟩ : ∃ B, B = hexB := ⟨_, rfl⟩
        have hBs : B.size = 16 := by rw [hB]; rfl
        rw [← hB] at hI2 ⊢
        have hkB : k < B.size := by omega
        obtain ⟨u, hu, hBu⟩ : ∃ u : Nat, u < 128 ∧ ((B[k]'hkB).toNat : Int) = u := by
          refine ⟨(B[k]'hkB).toNat, ?_, rfl⟩
          have : ∀ q : Fin 16, (hexB[q.val]'(by exact q.isLt)).toNat < 128 := by decide +kernel
          subst hB
          exact this ⟨k, by omega⟩
        have n1 : ((u : Int) != (v : Int)) = true := by rw [bne_iff_ne]; omega
        have q1 : IntKind.i64.wrap ((E.size : Int) - 1) = (k : Int) := by rw [IntKind.wrap_i64]; omega
        have q2 : (k : Int) < B.size := by omega
        have q3 : (0 : Int) ≤ k := by omega
        have q4 : (k : Int) < E.size := by omega
        have q5 : IntKind.i64.wrap ((k : Int) + 1) = (k : Int) + 1 := by rw [IntKind.wrap_i64]; omega
        have q6 : (0 : Int) ≤ (k : Int) + 1 := by omega
        have q7 : (k : Int) + 1 ≤ B.size := by omega
        have HI := Lib.hid hI2
        clear HV hE hlast hval hv hre hlast2 hck hc hv' hI hI2 hB hm hk hl hu hBs s2 s4
        go_enter Tryd.func68, Tryd.ntmps68
        go_wp2_with fail
        refine (HV2.out _).mono ?_
        rintro e w1 ⟨rfl, rfl⟩
        go_wp2_with fail
        go_step3
        go_wp2_with fail
        go_loopw [9] (fun s9 wr => s9 = .int .i64 (k : Int) ∧ wr = w1) (fun _ _ => 0)
        case atStart => exact ⟨rfl, rfl⟩
        case round =>
          obtain ⟨rfl, rfl⟩ := hrel
          go_wp2_with fail
          go_step3
          go_wp2_with fail
          go_region
          go_wp2_with fail
          go_quiet (exact (HI.out (k + 1) B.size _).mono (fun _ _ h => ⟨h.1, _, h.2⟩))
          go_wp2_with fail
          simp only [Exit.noGoto_ret, Exit.inBlock]
          change Exit.noGoto _ Exit.ret _ _
          simp only [Exit.noGoto_ret, Exit.inBlock, Exit.then]
          go_ret
          exact ⟨by rw [e9.out]; rfl, ⟨rfl, rfl, rfl, Nat.le_refl _, fun _ _ => rfl⟩⟩
      · have HV2 : Hid (∀ w, Calls Tryd.prog 78 #[.int .i32 r] w fun e w' => e = .returned (.bool false) ∧ w' = w) := Lib.hid (fun w => by have := HV.out w; rw [Bool.not_eq_true _ |>.mp hv] at this; exact this)
        clear HV
        go_enter Tryd.func68, Tryd.ntmps68
        go_wp2_with fail
        refine (HV2.out _).mono ?_
        rintro e w1 ⟨rfl, rfl⟩
        go_wp2_with fail
        go_ret
        exact ⟨by rw [e9.out]; rfl, Below.refl _ _⟩
end Go.Proofs.YtpdhmjmklmoknaaDoor
