/- Texts 1: what the laws lean on. -/
import Derived.WalkKit
import Derived.WalkSpells
import Derived.WalkLawsBesides
import Derived.Lib.Hide
import Derived.Laws.BytesArg
import Derived.Deep.RegionLaw
import Derived.Deep.AppendLies
import Derived.Laws.BitsAllLaws
import Derived.Test.YtemnebbdaljfbaaGreatDoorRows
import Derived.Outline
import Derived.StillTailTactics
import Derived.BigQuiet
import Derived.Deep.DeepCutAuto
import Derived.Deep.CutBlock
import Derived.ProofKit
import Derived.OpenShut
import Derived.SliceStrings
import Derived.Lib.LaidTab
import Derived.LaidSub
import Derived.Deep.SlicePairs
import Derived.Deep.LoopGhost
import Derived.BigRegion
import Derived.Lib.BitFns
import Derived.Test.YtemnebbdaljfbaaGreatDoorShelf
set_option linter.unusedVariables false
set_option linter.unusedSimpArgs false
namespace Go.Proofs.YtemnebbdaljfbaaGreatDoor
open Go.RowKit

/-- Of the old blocks only those of S may have turned. -/
structure Mod (S : Nat → Prop) (w w' : World) : Prop where
  os : w'.os = w.os
  tape : w'.tape = w.tape
  output : w'.output = w.output
  size : w.heap.size ≤ w'.heap.size
  block : ∀ k, k < w.heap.size → ¬ S k → w'.heap[k]? = w.heap[k]?

theorem Mod.refl (S : Nat → Prop) (w : World) : Mod S w w := ⟨rfl, rfl, rfl, Nat.le_refl _, fun _ _ _ => rfl⟩
theorem Mod.trans {S T : Nat → Prop} {a b c : World} (h : Mod S a b) (k : Mod T b c) (hs : ∀ i, i < a.heap.size → T i → S i) : Mod S a c :=
  ⟨k.os.trans h.os, k.tape.trans h.tape, k.output.trans h.output, Nat.le_trans h.size k.size,
    fun i hi hn => (k.block i (Nat.lt_of_lt_of_le hi h.size) (fun ht => hn (hs i hi ht))).trans (h.block i hi hn)⟩
theorem Mod.mono {S T : Nat → Prop} {a b : World} (h : Mod S a b) (hs : ∀ i, i < a.heap.size → S i → T i) : Mod T a b :=
  ⟨h.os, h.tape, h.output, h.size, fun i hi hn => h.block i hi (fun hS => hn (hs i hi hS))⟩
theorem Mod.drew {S : Nat → Prop} {a w : World} (h : Mod S a w) : Mod S a w.drew := ⟨h.os, h.tape, h.output, h.size, h.block⟩
theorem Mod.drewN {S : Nat → Prop} {a w : World} (h : Mod S a w) (n : Nat) : Mod S a (w.drewN n) := ⟨h.os, h.tape, h.output, h.size, h.block⟩
theorem Mod.setRow {S : Nat → Prop} {a w : World} (h : Mod S a w) {g : Nat} (cs : Array Value) : Mod (fun k => S k ∨ k = g) a (w.setRow g cs) :=
  ⟨h.os, h.tape, h.output, by have := h.size; simp [World.setRow]; omega, fun i hi hn => (setRow_other w g i _ (fun e => hn (Or.inr e))).trans (h.block i hi (fun hS => hn (Or.inl hS)))⟩
/-- What was written anew alone. -/
theorem Mod.drop_new {S : Nat → Prop} {a b : World} {g : Nat} (h : Mod (fun k => S k ∨ k = g) a b) (hg : a.heap.size ≤ g) : Mod S a b :=
  h.mono (fun i hi h => h.elim id (fun e => by omega))
theorem Mod.alloc {S : Nat → Prop} {a w : World} (h : Mod S a w) (o : Obj) : Mod S a (w.alloc o) :=
  ⟨h.os, h.tape, h.output, by have := h.size; simp; omega, fun i hi hn => (Below.heap_alloc _ _ _ (Nat.lt_of_lt_of_le hi h.size)).trans (h.block i hi hn)⟩
theorem Mod.setCell {S : Nat → Prop} {a w : World} (h : Mod S a w) {p : Addr} (hp : p.block < a.heap.size → S p.block) (u : Value) : Mod S a (w.setCell p u) :=
  ⟨h.os, h.tape, h.output, by have := h.size; simp [World.setCell]; omega, fun i hi hn => (Below.heap_setCell _ _ _ _ (fun e => hn (by subst e; exact hp hi))).trans (h.block i hi hn)⟩
theorem Mod.grown {S : Nat → Prop} {a w w' : World} {row : Option Nat} (h : Mod S a w) (hg : w.grownBy w' row) (hr : ∀ k, row = some k → k < a.heap.size → S k) : Mod S a w' :=
  ⟨hg.os.trans h.os, hg.tape.trans h.tape, hg.output.trans h.output, Nat.le_trans h.size hg.size,
    fun i hi hn => (hg.block i (Nat.lt_of_lt_of_le hi h.size) (fun e => hn (hr i e.symm hi))).trans (h.block i hi hn)⟩
theorem Mod.of_below {B : Nat} {w w' : World} (h : Below B w w') : Mod (fun k => B ≤ k) w w' :=
  ⟨h.os, h.tape, h.output, h.size, fun k _ hn => h.block k (by omega)⟩
theorem Mod.to_below {S : Nat → Prop} {w w' : World} {B : Nat} (h : Mod S w w') (hB : B ≤ w.heap.size) (hS : ∀ k, k < B → ¬ S k) : Below B w w' :=
  ⟨h.os, h.tape, h.output, h.size, fun k hk => h.block k (by omega) (hS k hk)⟩

def vals (bs : List UInt8) : List Value := bs.map fun b => Value.int .u8 b.toNat
theorem vals_len (bs : List UInt8) : (vals bs).length = bs.length := by simp [vals]
theorem vals_app (a b : List UInt8) : vals (a ++ b) = vals a ++ vals b := by simp [vals]

/-- Block b is a struct of one field, a slice value v that owns the bytes bs in a row of its own. -/
structure OutAt (T E : TypeId) (w : World) (b : Nat) (v : Value) (bs : List UInt8) : Prop where
  blk : w.heap[b]? = some (.cells #[v] T (0, 0))
  own : w.ownsRow 0 E 1 v bs.length (vals bs)
  ne : v.ownBlock ≠ some b

theorem OutAt.cell {T E : TypeId} {w : World} {b : Nat} {v : Value} {bs : List UInt8} (h : OutAt T E w b v bs) : w.cell? ⟨b, 0, none⟩ = some v := by
  unfold World.cell?; rw [h.blk]; rfl
theorem OutAt.froz {T E : TypeId} {w : World} {b : Nat} {v : Value} {bs : List UInt8} (h : OutAt T E w b v bs) : w.frozen? ⟨b, 0, none⟩ = false := by
  unfold World.frozen?; rw [h.blk]; rfl
theorem OutAt.lt {T E : TypeId} {w : World} {b : Nat} {v : Value} {bs : List UInt8} (h : OutAt T E w b v bs) : b < w.heap.size := (Array.getElem?_eq_some_iff.1 h.blk).1
theorem OutAt.fresh {T E : TypeId} (w : World) : OutAt T E (w.alloc (.cells #[.slice none 0 0] T)) w.heap.size (.slice none 0 0) [] :=
  ⟨heap_alloc_new w _, World.ownsRow_nil _ _ _ _, by simp [Value.ownBlock]⟩
theorem OutAt.kept {T E : TypeId} {w w' : World} {b : Nat} {v : Value} {bs : List UInt8} {S : Nat → Prop} (h : OutAt T E w b v bs) (hm : Mod S w w') (hb : ¬ S b) (hv : ∀ k, v.ownBlock = some k → ¬ S k) : OutAt T E w' b v bs := by
  refine ⟨(hm.block b h.lt hb).trans h.blk, ⟨h.own.1, ?_⟩, h.ne⟩
  rcases h.own.2 with hn | ⟨g, cap, cur, rfl, hg, hh, r⟩
  · exact .inl hn
  · exact .inr ⟨g, cap, cur, rfl, hg, (hm.block g (Array.getElem?_eq_some_iff.1 hh).1 (hv g rfl)).trans hh, r⟩

theorem OutAt.alloc {T E : TypeId} {w : World} {b : Nat} {v : Value} {bs : List UInt8} (h : OutAt T E w b v bs) (o : Obj) : OutAt T E (w.alloc o) b v bs :=
  h.kept ((Mod.refl (fun _ => False) w).alloc o) (fun h => h) (fun _ _ h => h)

/-- The struct's field is stored anew: a slice value that owns more. -/
theorem OutAt.store {T E : TypeId} {w w1 : World} {b : Nat} {v v1 : Value} {bs bs1 : List UInt8} (h : OutAt T E w b v bs) (hg : w.grownBy w1 v.ownBlock) (hown : w1.ownsRow 0 E 1 v1 bs1.length (vals bs1)) (hne : v1.ownBlock ≠ some b) :
    OutAt T E (w1.setCell ⟨b, 0, none⟩ v1) b v1 bs1 := by
  have hb : w1.heap[b]? = some (.cells #[v] T (0, 0)) := (hg.block b h.lt (fun e => h.ne e.symm)).trans h.blk
  refine ⟨?_, ⟨hown.1, ?_⟩, hne⟩
  · have := heap_setCell_same w1 b 0 #[v] T v1 hb
    simpa using this
  · rcases hown.2 with hn | ⟨g, cap, cur, rfl, hg', hh, r⟩
    · exact .inl hn
    · refine .inr ⟨g, cap, cur, rfl, hg', ?_, r⟩
      rw [Below.heap_setCell _ _ _ _ (by intro e; exact hne (by simp [Value.ownBlock, e]))]
      exact hh

/-- A slice value that owns something shows its address. -/
theorem ownsRow_shape {w : World} {base e size n : Nat} {v : Value} {xs : List Value} (h : w.ownsRow base e size v n xs) (hn : 0 < n) : ∃ g cap, v = .slice (some ⟨g, 0, none⟩) n cap := by
  rcases h.2 with ⟨_, h0⟩ | ⟨g, cap, _, hv, _⟩
  · omega
  · exact ⟨g, cap, hv⟩

/-- An append to an owned row, as a step of a region that draws. -/
theorem step_append_own {P : Program} {ops : Array Oper} {o : Oper} {a : Act} {w : World} {K : Act → World → Prop} {Q : Exit → Act → World → Prop} {E : Prop}
    (hgd : o.guard = none) (s x : Operand) (t : TypeId)
    (ho : o.op = .call { callee := .builtin .append, args := #[s, x], argTypes := #[t, t] })
    (base : Nat) (e : TypeId) (i : TypeInfo) (z : Value) (size bytes : Nat) (ht : P.underlying t = some (.slice e)) (hi : P.info? e = some i) (hz : i.zero = some z)
    (hsize : i.size = size) (hby : i.bytes = bytes) (hzs : z.cells.size = size) (hsz : 0 < size)
    (v : Value) (n : Nat) (xs : List Value) (hs : a.eval s = v) (hown : w.ownsRow base e size v n xs)
    (ad : Addr) (m c : Nat) (news : List Value) (hx : a.eval x = .slice (some ad) m c) (hl : news.length = m * size) (hnews : ∀ j u, news[j]? = some u → w.cell? (ad.add j) = some u) (h1 : ∀ u ∈ news, u.oneCell' = true)
    (h63 : n + m ≤ maxLen) (hbytes : (n + m) * bytes ≤ 140737488355328) (hbase : base ≤ w.heap.size)
    (h : ∀ v' w', w'.ownsRow base e size v' (n + m) (xs ++ news) → w.grownBy w' v.ownBlock → (v' = .slice none 0 0 ↔ v = .slice none 0 0 ∧ m = 0) → K (a.put o.dst v') w') :
    if Region.wanted o (yielded ops a.tmps) = true then Oper.wp P o a w K Q else E := by
  have hw : Region.wanted o (yielded ops a.tmps) = true := by simp [Region.wanted, hgd]
  rw [if_pos hw]
  exact wp_append_own w s x t ho base e i z size bytes ht hi hz hsize hby hzs hsz v n xs hs hown ad m c news hx hl hnews h1 h63 hbytes hbase h

theorem bapp1 (a : UInt8) (l : List UInt8) : (ByteArray.mk #[a] ++ ByteArray.mk l.toArray) = ByteArray.mk (a :: l).toArray := ByteArray.mk_append_mk [a] l
theorem ret_str {a b : ByteArray} (h : a = b) : Ending.returned (.string a) = .returned (.string b) := by rw [h]
theorem val_str {a b : ByteArray} (h : a = b) : Value.string a = .string b := by rw [h]
theorem val_int {k : IntKind} {a b : Int} (h : a = b) : Value.int k a = .int k b := by rw [h]
theorem ret_int {k : IntKind} {a b : Int} (h : a = b) : Ending.returned (.int k a) = .returned (.int k b) := by rw [h]

theorem convLit1 {P : Program} (src dst e : TypeId) (hs : P.underlying src = some (.slice e)) (he : P.underlying e = some (.int .u8)) (hd : P.underlying dst = some .string) (w : World) (x : Int) :
    (convert src dst (.slice (some ⟨w.heap.size, 0, none⟩) 1 1)).run P (w.alloc (.cells #[.int .u8 x] e)) = .ok (.string ⟨#[UInt8.ofNat x.toNat]⟩) (w.alloc (.cells #[.int .u8 x] e)) := by
  have h := run_convert_bytes_arg (P := P) (w.alloc (.cells #[.int .u8 x] e)) src e hs he w.heap.size 0 1 1 [x] rfl (fun i hi => by
    obtain rfl : i = 0 := by omega
    unfold World.cell?
    rw [heap_alloc_new]
    rfl) dst hd
  simpa [strOfNums] using h

/-- The old world's name is kept. -/
theorem Lib.flip {P : Program} {f : FuncId} {args : Array Value} {w : World} {v : Ending} (h : Calls P f args w fun e w' => e = v ∧ w' = w) : Calls P f args w fun e w' => e = v ∧ w = w' :=
  h.mono fun _ _ ⟨a, b⟩ => ⟨a, b.symm⟩

/-- A shift to the right of a number from 0 on. -/
theorem shr_nat {P : Program} (k j : IntKind) (n s : Nat) (w : World) (hs : s ≤ k.bits) : (Op.shift .shr k (n : Int) j (s : Int)).run P w = .ok (.int k ((n / 2 ^ s : Nat) : Int)) w := by
  have h0 : ¬ ((s : Int) < 0) := by omega
  have hm : min ((s : Int)).toNat k.bits = s := by rw [Int.toNat_natCast]; exact Nat.min_eq_left hs
  unfold Op.shift
  rw [if_neg h0]
  simp only [hm]
  have : (n : Int).fdiv (2 ^ s) = ((n / 2 ^ s : Nat) : Int) := by
    rw [Int.fdiv_eq_ediv_of_nonneg _ (by exact_mod_cast Nat.zero_le (2 ^ s))]
    push_cast
    rfl
  rw [this]
  rfl

/-- A whole variable is stored: an array or a struct by value. -/
theorem wp_store_row {P : Program} {o : Oper} {a : Act} {w : World} {K : Act → World → Prop} {Q : Exit → Act → World → Prop} (ty : TypeId) (x y : Operand) (ho : o.op = .store ty x y)
    (g : Nat) (hx : a.eval x = .pointer (some ⟨g, 0, none⟩)) (t : TypeId) (old cs : Array Value) (hy : a.eval y = .agg cs) (hg : w.heap[g]? = some (.cells old t (0, 0))) (hsz : old.size = cs.size)
    (hi : (P.info? ty).map (·.size) = some cs.size) (h1 : ∀ v ∈ cs.toList, v.oneCell' = true)
    (h : K (a.put o.dst undef) (w.setRow g cs)) : o.wp P a w K Q := by
  have hst := run_storeCells_at P g 0 t cs.toList 0 old w hg (by simp; omega) h1
  have e : (old.toList.take (0 + 0) ++ cs.toList ++ old.toList.drop (0 + 0 + cs.toList.length)).toArray = cs := by
    have : old.toList.drop (0 + 0 + cs.toList.length) = [] := List.drop_eq_nil_of_le (by simp; omega)
    rw [this]; simp
  rw [e] at hst
  cases hq : P.info? ty with
  | none => simp [hq] at hi
  | some i =>
    have hs : i.size = cs.size := by simpa [hq] using hi
    have hv : (storeVar ty ⟨g, 0, none⟩ (.agg cs)).run P w = .ok () (w.setRow g cs) := by
      simp [storeVar, sizeOf, typeInfo, hq, hs, Value.cells, hst]
    unfold Oper.wp execOp
    simp only [ho, hx, hy, Instr.storeAt, Instr.sureAddr, Sem.run_bind, Sem.run_pure, Result.andThen_ok, hv]
    exact h

theorem wpList_store_row {P : Program} {ops : Array Oper} {rest : List Oper} {o : Oper} {a : Act} {w : World} {Q : Exit → Act → World → Prop} (hgd : o.guard = none) (hdst : o.dst = none) (ty : TypeId) (x y : Operand) (ho : o.op = .store ty x y)
    (g : Nat) (hx : a.eval x = .pointer (some ⟨g, 0, none⟩)) (t : TypeId) (old cs : Array Value) (hy : a.eval y = .agg cs) (hg : w.heap[g]? = some (.cells old t (0, 0))) (hsz : old.size = cs.size)
    (hi : (P.info? ty).map (·.size) = some cs.size) (h1 : ∀ v ∈ cs.toList, v.oneCell' = true)
    (h : wpList P ops Q rest a (w.setRow g cs)) : wpList P ops Q (o :: rest) a w :=
  wpList_plain hgd fun _ hK => wp_store_row ty x y ho g hx t old cs hy hg hsz hi h1 (hK _ _ (by rw [hdst]; exact h))

/-- Numbers as cells. -/
def nums (k : IntKind) (A : List Nat) : List Value := A.map fun (x : Nat) => Value.int k (x : Int)
theorem nums_len (k : IntKind) (A : List Nat) : (nums k A).length = A.length := by simp [nums]
theorem nums_one (k : IntKind) (A : List Nat) : ∀ v ∈ nums k A, v.oneCell' = true := by
  intro v hv; obtain ⟨x, _, rfl⟩ := List.mem_map.1 hv; rfl
theorem nums_get (k : IntKind) (A : List Nat) (i : Nat) (h : i < A.length) : (nums k A)[i]? = some (.int k (A[i]'h)) := by simp [nums, h]
theorem nums_set (k : IntKind) (A : List Nat) (i x : Nat) : (nums k A).set i (.int k x) = nums k (A.set i x) := by simp [nums, List.map_set]

/-- A block of numbers. -/
def RowAt (k : IntKind) (T : TypeId) (w : World) (g : Nat) (A : List Nat) : Prop := w.heap[g]? = some (.cells (nums k A).toArray T (0, 0))
theorem RowAt.cell {k : IntKind} {T : TypeId} {w : World} {g : Nat} {A : List Nat} (h : RowAt k T w g A) (i : Nat) (hi : i < A.length) : w.cell? ⟨g, i, none⟩ = some (.int k (A[i]'hi)) := by
  rw [cell_of_row w g i _ T (0, 0) h]; simpa using nums_get k A i hi
theorem RowAt.froz {k : IntKind} {T : TypeId} {w : World} {g : Nat} {A : List Nat} (h : RowAt k T w g A) (i : Nat) : w.frozen? ⟨g, i, none⟩ = false := frozen_of_row w g i _ T h
theorem RowAt.lt {k : IntKind} {T : TypeId} {w : World} {g : Nat} {A : List Nat} (h : RowAt k T w g A) : g < w.heap.size := (Array.getElem?_eq_some_iff.1 h).1
theorem RowAt.set {k : IntKind} {T : TypeId} {w : World} {g : Nat} {A : List Nat} (h : RowAt k T w g A) (i x : Nat) : RowAt k T (w.setCell ⟨g, i, none⟩ (.int k x)) g (A.set i x) := by
  have := heap_setCell_same w g i _ T (.int k x) h
  unfold RowAt
  rw [this, ← nums_set]
  simp
theorem RowAt.kept {k : IntKind} {T : TypeId} {w w' : World} {g : Nat} {A : List Nat} {S : Nat → Prop} (h : RowAt k T w g A) (hm : Mod S w w') (hg : ¬ S g) : RowAt k T w' g A := (hm.block g h.lt hg).trans h

/-- An array of numbers, by value, indexed. -/
theorem run_index_nums {P : Program} (T E : TypeId) (len : Nat) (k : IntKind) (A : List Nat) (i : Nat) (hi : i < A.length) (hT : P.underlying T = some (.array len E)) (hl : A.length = len)
    (hE : P.underlying E = some (.int k)) (hs : (P.info? E).map (·.size) = some 1) (w : World) :
    (Instr.index T (.agg (nums k A).toArray) (.int .i64 (i : Int))).run P w = .ok (.int k (A[i]'hi)) w := by
  have h1 : (0 : Int) ≤ i ∧ (i : Int) < len := by omega
  cases hq : P.info? E with
  | none => simp [hq] at hs
  | some j =>
    have hj : j.size = 1 := by simpa [hq] using hs
    have hg := nums_get k A i hi
    unfold Instr.index
    simp only [asIntOf, Sem.run_bind, Sem.run_pure, Result.andThen_ok, run_underlying hT]
    rw [if_pos h1]
    simp [sizeOf, typeInfo, hq, hj, part, isAgg, run_underlying hE, hg]
end Go.Proofs.YtemnebbdaljfbaaGreatDoor

namespace Go.Proofs.YtemnebbdaljfbaaGreatDoor
open Go.RowKit

/-- How an element lies in memory: k cells. -/
structure Enc (α : Type) where
  f : α → List Value
  k : Nat
  len : ∀ x, (f x).length = k
  one : ∀ x, ∀ v ∈ f x, v.oneCell' = true
  pos : 0 < k

section
variable {α : Type} (E : Enc α)
def Enc.all (L : List α) : List Value := L.flatMap E.f
theorem Enc.all_nil : E.all [] = [] := rfl
theorem Enc.all_app (A B : List α) : E.all (A ++ B) = E.all A ++ E.all B := by simp [Enc.all]
theorem Enc.all_len (L : List α) : (E.all L).length = L.length * E.k := by
  induction L with
  | nil => simp [Enc.all]
  | cons x l ih => rw [show x :: l = [x] ++ l from rfl, E.all_app, List.length_append, ih]; simp [Enc.all, E.len, Nat.add_mul]; omega
theorem Enc.all_one (L : List α) : ∀ v ∈ E.all L, v.oneCell' = true := by
  intro v hv
  obtain ⟨x, _, h⟩ := List.mem_flatMap.1 hv
  exact E.one x v h
theorem Enc.all_get (L : List α) (j i : Nat) (hj : j < L.length) (hi : i < E.k) : (E.all L)[j * E.k + i]? = (E.f L[j])[i]? := by
  induction L generalizing j with
  | nil => simp at hj
  | cons x l ih =>
    rw [show E.all (x :: l) = E.f x ++ E.all l by simp [Enc.all]]
    cases j with
    | zero => rw [Nat.zero_mul, Nat.zero_add, List.getElem?_append_left (by rw [E.len]; exact hi)]; rfl
    | succ j =>
      rw [List.getElem?_append_right (by rw [E.len, Nat.add_mul]; omega), E.len, show (j + 1) * E.k + i - E.k = j * E.k + i by rw [Nat.add_mul]; omega, ih j (by simpa using hj)]
      rfl

/-- The slice at p holds L from its block's head on; nil holds none. -/
def Rw (T : TypeId) (w : World) (p : Option Addr) (cap : Nat) (L : List α) : Prop := w.ownsRow 0 T E.k (.slice p L.length cap) L.length (E.all L)
/-- L is read at ao. -/
def Rd (w : World) (ao : Option Addr) (L : List α) : Prop :=
  ∀ j (h : j < L.length), ∃ bs off, ao = some ⟨bs, off, none⟩ ∧ bs < w.heap.size ∧ ∀ i u, (E.f L[j])[i]? = some u → w.cell? ⟨bs, off + j * E.k + i, none⟩ = some u

variable {E}
theorem Rd.old {w w' : World} {ao : Option Addr} {L : List α} (h : Rd E w ao L) (hb : Below w.heap.size w w') : Rd E w' ao L := by
  intro j hj
  obtain ⟨bs, off, e, hlt, hc⟩ := h j hj
  exact ⟨bs, off, e, Nat.lt_of_lt_of_le hlt hb.size, fun i u hu => (World.cell?_of_block (hb.block bs hlt)).trans (hc i u hu)⟩
theorem Rd.nil (w : World) (ao : Option Addr) : Rd E w ao [] := fun j hj => by simp at hj
theorem Rd.take {w : World} {ao : Option Addr} {L : List α} (h : Rd E w ao L) (n : Nat) : Rd E w ao (L.take n) := by
  intro j hj
  have hj2 : j < L.length := by rw [List.length_take] at hj; omega
  obtain ⟨bs, off, e, hlt, c1⟩ := h j hj2
  refine ⟨bs, off, e, hlt, ?_⟩
  rw [List.getElem_take]; exact c1
theorem Rw.shape {T : TypeId} {w : World} {p : Option Addr} {cap : Nat} {L : List α} (h : Rw E T w p cap L) :
    (p = none ∧ L = [] ∧ cap = 0) ∨ ∃ g, p = some ⟨g, 0, none⟩ ∧ g < w.heap.size ∧ L.length ≤ cap ∧ cap ≤ maxLen ∧ ∃ cur : Array Value, w.heap[g]? = some (.cells cur T (0, 0)) ∧ cur.size = cap * E.k ∧ cur.toList.take (L.length * E.k) = E.all L := by
  rcases h.2 with ⟨e, h0⟩ | ⟨g, cap', cur, e, _, hh, h1, h2, h3, h4⟩
  · simp only [Value.slice.injEq] at e
    exact .inl ⟨e.1, List.eq_nil_of_length_eq_zero h0, e.2.2⟩
  · simp only [Value.slice.injEq] at e
    obtain ⟨rfl, _, rfl⟩ := e
    exact .inr ⟨g, rfl, (Array.getElem?_eq_some_iff.1 hh).1, h1, h2, cur, hh, h3, h4⟩
theorem Rw.of_row {T : TypeId} {w : World} {g cap : Nat} {L : List α} {cur : Array Value} (hh : w.heap[g]? = some (.cells cur T (0, 0))) (h1 : L.length ≤ cap) (h2 : cap ≤ maxLen) (h3 : cur.size = cap * E.k) (h4 : cur.toList.take (L.length * E.k) = E.all L) :
    Rw E T w (some ⟨g, 0, none⟩) cap L := ⟨by rw [E.all_len], .inr ⟨g, cap, cur, rfl, Nat.zero_le _, hh, h1, h2, h3, h4⟩⟩
theorem Rw.empty (T : TypeId) (w : World) : Rw E T w none 0 ([] : List α) := World.ownsRow_nil _ _ _ _
theorem Rw.cap_le {T : TypeId} {w : World} {p : Option Addr} {cap : Nat} {L : List α} (h : Rw E T w p cap L) : L.length ≤ cap := by
  rcases h.shape with ⟨_, rfl, _⟩ | ⟨g, _, _, hc, _⟩
  · exact Nat.zero_le _
  · exact hc
theorem Rw.made (T : TypeId) (w : World) (L : List α) (hl : L.length ≤ maxLen) : Rw E T (w.alloc (.cells (E.all L).toArray T)) (some ⟨w.heap.size, 0, none⟩) L.length L :=
  Rw.of_row (heap_alloc_new _ _) (Nat.le_refl _) hl (by rw [List.size_toArray, E.all_len]) (by rw [List.take_of_length_le (by simp [E.all_len])])
theorem Rw.lt {T : TypeId} {w : World} {a : Addr} {cap : Nat} {L : List α} (h : Rw E T w (some a) cap L) : a.block < w.heap.size := by
  rcases h.shape with ⟨e, _⟩ | ⟨g, e, hl, _⟩
  · cases e
  · cases e; exact hl
theorem Rw.kept {T : TypeId} {w w' : World} {p : Option Addr} {cap : Nat} {L : List α} {S : Nat → Prop} (h : Rw E T w p cap L) (hm : Mod S w w') (hp : ∀ a, p = some a → ¬ S a.block) : Rw E T w' p cap L := by
  rcases h.shape with ⟨rfl, rfl, rfl⟩ | ⟨g, rfl, hl, h1, h2, cur, hh, h3, h4⟩
  · exact Rw.empty _ _
  · exact Rw.of_row ((hm.block g hl (hp _ rfl)).trans hh) h1 h2 h3 h4
theorem Rw.old {T : TypeId} {w w' : World} {p : Option Addr} {cap : Nat} {L : List α} (h : Rw E T w p cap L) (hb : Below w.heap.size w w') : Rw E T w' p cap L :=
  h.kept (Mod.of_below hb) (fun a e hs => by subst e; exact Nat.lt_irrefl _ (Nat.lt_of_lt_of_le h.lt hs))
theorem Rw.rd {T : TypeId} {w : World} {p : Option Addr} {cap : Nat} {L : List α} (h : Rw E T w p cap L) : Rd E w p L := by
  intro j hj
  rcases h.shape with ⟨rfl, rfl, rfl⟩ | ⟨g, rfl, hl, h1, h2, cur, hh, h3, h4⟩
  · simp at hj
  · refine ⟨g, 0, rfl, hl, fun i u hu => ?_⟩
    have hi : i < E.k := by have := (List.getElem?_eq_some_iff.1 hu).1; rwa [E.len] at this
    rw [← E.all_get L j i hj hi, ← h4] at hu
    have hlt : j * E.k + i < L.length * E.k := by
      have := Nat.mul_le_mul_right E.k (show j + 1 ≤ L.length by omega); rw [Nat.add_mul] at this; omega
    rw [List.getElem?_take_of_lt hlt] at hu
    rw [cell_of_row w g _ _ T (0, 0) hh, Nat.zero_add]
    simpa using hu
/-- Behind an append: the slice holds more, in its own block or in a new one. -/
def PushR (E : Enc α) (T : TypeId) (w : World) (p : Option Addr) (B : List α) (q : Option Addr) (cap : Nat) (w' : World) : Prop :=
  Rw E T w' q cap B ∧ Mod (fun i => ∃ a, p = some a ∧ i = a.block) w w' ∧ ∀ a, q = some a → p = some a ∨ w.heap.size ≤ a.block
theorem run_append_no {P : Program} {w : World} (t ty e : TypeId) (i : TypeInfo) (ht : P.underlying t = some (.slice e)) (hi : P.info? e = some i)
    (p : Option Addr) (n cap : Nat) (hle : n ≤ cap) (hn : p = none → n = 0 ∧ cap = 0) (q : Option Addr) (c : Nat) :
    (Builtin.append_ #[t, t] ty #[.slice p n cap, .slice q 0 c]).run P w = .ok (.slice p n cap) w := by
  cases p with
  | some a => cases q <;> simp [Builtin.append_, run_underlying ht, sizeOf, typeInfo, hi, Builtin.lenOf, Builtin.firstCells, hle, storeCells, loadCells, loadCellsFrom]
  | none =>
    obtain ⟨rfl, rfl⟩ := hn rfl
    cases q <;> simp [Builtin.append_, run_underlying ht, sizeOf, typeInfo, hi, Builtin.lenOf, Builtin.firstCells, loadCells, loadCellsFrom]
theorem wpList_pushR {P : Program} {ops : Array Oper} {rest : List Oper} {o : Oper} {a : Act} {Q : Exit → Act → World → Prop} {w : World} (E : Enc α) (hgd : o.guard = none) (s x : Operand) (Ts T : TypeId) (z : Value) (by_ : Nat)
    (ho : o.op = .call { callee := .builtin .append, args := #[s, x], argTypes := #[Ts, Ts] }) (hT : P.underlying Ts = some (.slice T)) (hi : (P.info? T).map (fun i => (i.zero, i.size, i.bytes)) = some (some z, E.k, by_)) (hzs : z.cells.size = E.k) (hby : by_ ≤ 1024)
    (p : Option Addr) (cap n : Nat) (L : List α) (hn : L.length = n) (hs : a.eval s = .slice p n cap) (hS : Rw E T w p cap L) (ao : Option Addr) (m cx : Nat) (Y : List α) (hm : Y.length = m) (hx : a.eval x = .slice ao m cx) (hY : Rd E w ao Y) (hl : n + m ≤ 100000000000)
    (h : ∀ q c w', PushR E T w p (L ++ Y) q c w' → wpList P ops Q rest (a.put o.dst (.slice q (n + m) c)) w') :
    wpList P ops Q (o :: rest) a w := by
  cases hq : P.info? T with
  | none => rw [hq] at hi; cases hi
  | some i =>
    rw [hq] at hi
    simp only [Option.map_some, Option.some.injEq, Prod.mk.injEq] at hi
    obtain ⟨hz, h1, h2⟩ := hi
    subst hn
    subst hm
    have hmul : (L.length + Y.length) * by_ ≤ 140737488355328 := Nat.le_trans (Nat.mul_le_mul hl hby) (by decide)
    by_cases h0 : 0 < Y.length
    · obtain ⟨bs, off, rfl, hbs, _⟩ := hY 0 h0
      refine wpList_append_lies _ hgd s x Ts ho 0 T i z E.k by_ hT hq hz h1 h2 hzs E.pos _ L.length (E.all L) hs hS ⟨bs, off, none⟩ Y.length cx (E.all Y) hx (E.all_len Y) ?_ (E.all_one _) h0 (by unfold maxLen; omega) hmul (Nat.zero_le _) _ rfl ?_
      · intro j u hj
        have hjl : j < Y.length * E.k := by
          have := (List.getElem?_eq_some_iff.1 hj).1
          rwa [E.all_len] at this
        have hd : j / E.k < Y.length := by rw [Nat.div_lt_iff_lt_mul E.pos]; exact hjl
        have hr : j % E.k < E.k := Nat.mod_lt _ E.pos
        have he : j / E.k * E.k + j % E.k = j := by rw [Nat.mul_comm]; exact Nat.div_add_mod j E.k
        obtain ⟨bs', off', e, _, c1⟩ := hY (j / E.k) hd
        cases e
        have hadd : (⟨bs, off, none⟩ : Addr).add j = ⟨bs, off + j, none⟩ := by unfold Addr.add; split <;> simp_all
        rw [← he, E.all_get Y _ _ hd hr] at hj
        have := c1 _ _ hj
        rw [Nat.add_assoc, he] at this
        rw [hadd, this]
      · intro g c w' hown hgrow hat _
        refine h (some ⟨g, 0, none⟩) c w' ⟨?_, ?_, ?_⟩
        · unfold Rw; rw [List.length_append, E.all_app]; exact hown
        · refine (Mod.refl _ w).grown hgrow ?_
          intro j hj _
          cases p with
          | none => simp [Value.ownBlock] at hj
          | some a => simp [Value.ownBlock] at hj; exact ⟨a, rfl, hj.symm⟩
        · rintro a' e; cases e
          rcases hat with hat | hat
          · left
            rcases hS.shape with ⟨rfl, _⟩ | ⟨g', rfl, _⟩
            · simp [Value.ownBlock] at hat
            · simp [Value.ownBlock] at hat; subst hat; rfl
          · right; rw [hat]; exact Nat.le_refl _
    · obtain rfl : Y = [] := List.eq_nil_of_length_eq_zero (by omega)
      refine wpList_plain hgd fun K hK => ?_
      have hfin := h p cap w ⟨by rw [List.append_nil]; exact hS, Mod.refl _ w, fun a e => .inl e⟩
      have hle : L.length ≤ cap := hS.cap_le
      have hno : p = none → L.length = 0 ∧ cap = 0 := by
        intro e
        rcases hS.shape with ⟨_, rfl, hc⟩ | ⟨g', e', _⟩
        · exact ⟨rfl, hc⟩
        · rw [e] at e'; cases e'
      have hrun := run_append_no (P := P) (w := w) Ts o.type T i hT hq p L.length cap hle hno ao cx
      unfold Oper.wp
      simp only [List.length_nil] at hx
      simp [execOp, ho, resolve, invoke, builtin, hs, hx, hrun, Result.andThen]
      simp at hfin
      exact hK _ _ hfin
/-- Elements are gathered in a row of its own. -/
structure AccR (E : Enc α) (T : TypeId) (w : World) (i : Nat) (D : List α) (q : Option Addr) (c : Nat) (wr : World) : Prop where
  s : Rw E T wr q c D
  len : D.length = i
  new : ∀ a, q = some a → w.heap.size ≤ a.block
  m : Below w.heap.size w wr
theorem AccR.zero (E : Enc α) (T : TypeId) (w : World) : AccR E T w 0 [] none 0 w := ⟨Rw.empty _ _, rfl, (fun a e => by cases e), Below.refl _ _⟩
theorem AccR.push {T : TypeId} {w : World} {i : Nat} {D : List α} {q : Option Addr} {c : Nat} {wr w' : World} (h : AccR E T w i D q c wr) {Y : List α} {q' : Option Addr} {c' : Nat} (hP : PushR E T wr q (D ++ Y) q' c' w') : AccR E T w (i + Y.length) (D ++ Y) q' c' w' := by
  obtain ⟨hS, hm, hor⟩ := hP
  refine ⟨hS, by rw [List.length_append, h.len], ?_, h.m.trans (hm.to_below h.m.size (by rintro j hj ⟨a, e, rfl⟩; have := h.new a e; omega))⟩
  intro a e
  rcases hor a e with h1 | h1
  · exact h.new _ h1
  · exact Nat.le_trans h.m.size h1
theorem AccR.below {T : TypeId} {w : World} {i : Nat} {D : List α} {q : Option Addr} {c : Nat} {wr w' : World} (h : AccR E T w i D q c wr) (hb : Below wr.heap.size wr w') : AccR E T w i D q c w' :=
  ⟨h.s.old hb, h.len, h.new, h.m.trans (hb.mono h.m.size)⟩
theorem AccR.take {T : TypeId} {w : World} {i : Nat} {D : List α} {q : Option Addr} {c : Nat} {wr : World} (h : AccR E T w i D q c wr) : Rd E wr q D := h.s.rd
end
/-- Elements that were just laid. -/
theorem Rd.made {α : Type} (E : Enc α) (w : World) (T : TypeId) (L : List α) (hl : L.length ≤ maxLen) : Rd E (w.alloc (.cells (E.all L).toArray T)) (some ⟨w.heap.size, 0, none⟩) L := (Rw.made (E := E) T w L hl).rd

/-- Texts. -/
def encS : Enc (List UInt8) := ⟨fun s => [.string ⟨s.toArray⟩], 1, fun _ => rfl, fun _ v hv => by rw [List.mem_singleton.1 hv]; rfl, Nat.one_pos⟩
/-- Ints. -/
def encI : Enc Int := ⟨fun x => [.int .i64 x], 1, fun _ => rfl, fun _ v hv => by rw [List.mem_singleton.1 hv]; rfl, Nat.one_pos⟩
theorem encS_all (ss : List (List UInt8)) : encS.all ss = ss.map fun s => Value.string ⟨s.toArray⟩ := by
  induction ss with
  | nil => rfl
  | cons a l ih => rw [show encS.all (a :: l) = encS.f a ++ encS.all l from rfl, ih]; rfl
theorem Rd.str {w : World} {ao : Option Addr} {L : List (List UInt8)} (h : Rd encS w ao L) (j : Nat) (hj : j < L.length) : ∃ bs off, ao = some ⟨bs, off, none⟩ ∧ bs < w.heap.size ∧ w.cell? ⟨bs, off + j, none⟩ = some (.string ⟨(L[j]).toArray⟩) := by
  obtain ⟨bs, off, e, hlt, hc⟩ := h j hj
  exact ⟨bs, off, e, hlt, by have := hc 0 _ rfl; simpa [encS] using this⟩
end Go.Proofs.YtemnebbdaljfbaaGreatDoor

namespace Go.Proofs.YtemnebbdaljfbaaGreatDoor

/-- x turned to the right by n bits. -/
def rotr (x n : Nat) : Nat := x / 2 ^ n + x % 2 ^ n * 2 ^ (32 - n)

theorem rotr_lt (x n : Nat) (hx : x < 4294967296) (hn : n ≤ 32) : rotr x n < 4294967296 := by
  unfold rotr
  have e : 2 ^ n * 2 ^ (32 - n) = 4294967296 := by rw [← Nat.pow_add, show n + (32 - n) = 32 by omega]
  have p : 0 < 2 ^ n := Nat.two_pow_pos n
  have h1 : x / 2 ^ n < 2 ^ (32 - n) := by rw [Nat.div_lt_iff_lt_mul p, Nat.mul_comm, e]; exact hx
  have h2 : x % 2 ^ n + 1 ≤ 2 ^ n := Nat.mod_lt x p
  have h3 : (x % 2 ^ n + 1) * 2 ^ (32 - n) ≤ 2 ^ n * 2 ^ (32 - n) := Nat.mul_le_mul_right _ h2
  rw [e, Nat.add_mul] at h3
  omega

theorem rotr_zero (x : Nat) : rotr x 0 = x := by simp [rotr, Nat.mod_one]

/-- A turn by one bit more. -/
theorem rotr_succ (x n : Nat) (hn : n < 32) : rotr x (n + 1) = rotr x n / 2 + rotr x n % 2 * 2147483648 := by
  unfold rotr
  have e : 2 ^ (32 - n) = 2 * 2 ^ (31 - n) := by rw [show 32 - n = (31 - n) + 1 by omega, Nat.pow_succ, Nat.mul_comm]
  have e31 : 2 ^ n * 2 ^ (31 - n) = 2147483648 := by rw [← Nat.pow_add, show n + (31 - n) = 31 by omega]
  rw [show 32 - (n + 1) = 31 - n by omega, e]
  have hd : x / 2 ^ (n + 1) = x / 2 ^ n / 2 := by rw [Nat.pow_succ, Nat.div_div_eq_div_mul]
  have hm : x % 2 ^ (n + 1) = x % 2 ^ n + 2 ^ n * (x / 2 ^ n % 2) := by rw [Nat.pow_succ, Nat.mod_mul]
  rw [hd, hm]
  generalize x / 2 ^ n = q
  generalize x % 2 ^ n = r
  generalize 2 ^ (31 - n) = k at *
  have a1 : (q + r * (2 * k)) / 2 = q / 2 + r * k := by
    rw [show r * (2 * k) = 2 * (r * k) by rw [Nat.mul_left_comm]]; omega
  have a2 : (q + r * (2 * k)) % 2 = q % 2 := by
    rw [show r * (2 * k) = 2 * (r * k) by rw [Nat.mul_left_comm]]; omega
  rw [a1, a2, Nat.add_mul, Nat.mul_right_comm, e31, Nat.mul_comm 2147483648]
  omega

theorem or_disjoint (a b i : Nat) (hb : b < 2 ^ i) : a * 2 ^ i ||| b = a * 2 ^ i + b := by
  rw [Nat.mul_comm]; exact (Nat.two_pow_add_eq_or_of_lt hb a).symm

/-- How the machine turns: two shifts and an or. -/
theorem rotr_or (x n : Nat) (hx : x < 4294967296) (h1 : 1 ≤ n) (h2 : n ≤ 31) : (x * 2 ^ (32 - n) % 4294967296) ||| (x / 2 ^ n) = rotr x n := by
  have e : 2 ^ n * 2 ^ (32 - n) = 4294967296 := by rw [← Nat.pow_add, show n + (32 - n) = 32 by omega]
  have e2 : x * 2 ^ (32 - n) % 4294967296 = x % 2 ^ n * 2 ^ (32 - n) := by rw [← e, Nat.mul_mod_mul_right]
  rw [e2, or_disjoint _ _ _ (by rw [Nat.div_lt_iff_lt_mul (Nat.two_pow_pos n), Nat.mul_comm, e]; exact hx)]
  unfold rotr
  omega

theorem word_or (a b c d : Nat) (hb : b < 256) (hc : c < 256) (hd : d < 256) :
    ((a * 16777216 ||| b * 65536) ||| c * 256) ||| d = a * 16777216 + b * 65536 + c * 256 + d := by
  have e1 : a * 16777216 ||| b * 65536 = (a * 256 + b) * 65536 := by
    have := or_disjoint a (b * 65536) 24 (by omega)
    rw [show (2 : Nat) ^ 24 = 16777216 from rfl] at this
    rw [this]; omega
  have e2 : (a * 256 + b) * 65536 ||| c * 256 = ((a * 256 + b) * 256 + c) * 256 := by
    have := or_disjoint (a * 256 + b) (c * 256) 16 (by omega)
    rw [show (2 : Nat) ^ 16 = 65536 from rfl] at this
    rw [this]; omega
  have e3 : ((a * 256 + b) * 256 + c) * 256 ||| d = (((a * 256 + b) * 256 + c) * 256) + d := or_disjoint _ d 8 hd
  rw [e1, e2, e3]; omega

theorem getD_at (l : List Nat) (i : Nat) (h : i < l.length) : l.getD i 0 = l[i] := by simp [List.getD, h]

def s0 (x : Nat) : Nat := (rotr x 7 ^^^ rotr x 18) ^^^ x / 8
def s1 (x : Nat) : Nat := (rotr x 17 ^^^ rotr x 19) ^^^ x / 1024
/-- The i-th word of a block. -/
def w16 (L : List Nat) (i : Nat) : Nat := L.getD (4 * i) 0 * 16777216 + L.getD (4 * i + 1) 0 * 65536 + L.getD (4 * i + 2) 0 * 256 + L.getD (4 * i + 3) 0
/-- The first words of the rounds. -/
def schedTo (L : List Nat) : Nat → List Nat
  | 0 => []
  | n + 1 => schedTo L n ++ [if n < 16 then w16 L n else
      ((((schedTo L n).getD (n - 16) 0 + s0 ((schedTo L n).getD (n - 15) 0)) % 4294967296 + (schedTo L n).getD (n - 7) 0) % 4294967296 + s1 ((schedTo L n).getD (n - 2) 0)) % 4294967296]
theorem schedTo_len (L : List Nat) (n : Nat) : (schedTo L n).length = n := by
  induction n with
  | zero => rfl
  | succ n ih => simp [schedTo, ih]
theorem w16_lt (L : List Nat) (hL : ∀ x ∈ L, x < 256) (i : Nat) : w16 L i < 4294967296 := by
  have h : ∀ j, L.getD j 0 < 256 := by
    intro j
    by_cases hj : j < L.length
    · rw [getD_at _ _ hj]; exact hL _ (List.getElem_mem _)
    · simp [List.getD, List.getElem?_eq_none (Nat.le_of_not_lt hj)]
  unfold w16
  have := h (4 * i); have := h (4 * i + 1); have := h (4 * i + 2); have := h (4 * i + 3)
  omega
theorem schedTo_lt (L : List Nat) (hL : ∀ x ∈ L, x < 256) (n : Nat) : ∀ x ∈ schedTo L n, x < 4294967296 := by
  induction n with
  | zero => intro x hx; cases hx
  | succ n ih =>
    intro x hx
    rcases List.mem_append.1 hx with h | h
    · exact ih x h
    · rw [List.mem_singleton.1 h]
      split
      · exact w16_lt L hL n
      · exact Nat.mod_lt _ (by decide)
theorem xor_lt (a b : Nat) (ha : a < 4294967296) (hb : b < 4294967296) : a ^^^ b < 4294967296 := Nat.xor_lt_two_pow (n := 32) ha hb
theorem and_lt (a b : Nat) (hb : b < 4294967296) : a &&& b < 4294967296 := Nat.and_lt_two_pow (n := 32) a hb
theorem s0_lt (x : Nat) (h : x < 4294967296) : s0 x < 4294967296 := xor_lt _ _ (xor_lt _ _ (rotr_lt x 7 h (by decide)) (rotr_lt x 18 h (by decide))) (by omega)
theorem s1_lt (x : Nat) (h : x < 4294967296) : s1 x < 4294967296 := xor_lt _ _ (xor_lt _ _ (rotr_lt x 17 h (by decide)) (rotr_lt x 19 h (by decide))) (by omega)
theorem take_set_succ (A : List Nat) (k x : Nat) (h : k < A.length) : (A.set k x).take (k + 1) = A.take k ++ [x] := by
  rw [List.take_succ_eq_append_getElem (by simpa using h), List.getElem_set_self, List.take_set_of_le (Nat.le_refl k)]
theorem getD_take (A : List Nat) (k i : Nat) (hi : i < k) (hk : k ≤ A.length) : (A.take k).getD i 0 = A[i]'(by omega) := by
  rw [getD_at _ _ (by simp; omega)]; simp

/-- The rounds' words. -/
def kTab : List Nat := [1116352408, 1899447441, 3049323471, 3921009573, 961987163, 1508970993, 2453635748, 2870763221, 3624381080, 310598401, 607225278, 1426881987, 1925078388, 2162078206, 2614888103, 3248222580, 3835390401, 4022224774, 264347078, 604807628, 770255983, 1249150122, 1555081692, 1996064986, 2554220882, 2821834349, 2952996808, 3210313671, 3336571891, 3584528711, 113926993, 338241895, 666307205, 773529912, 1294757372, 1396182291, 1695183700, 1986661051, 2177026350, 2456956037, 2730485921, 2820302411, 3259730800, 3345764771, 3516065817, 3600352804, 4094571909, 275423344, 430227734, 506948616, 659060556, 883997877, 958139571, 1322822218, 1537002063, 1747873779, 1955562222, 2024104815, 2227730452, 2361852424, 2428436474, 2756734187, 3204031479, 3329325298]
theorem kTab_len : kTab.length = 64 := rfl
theorem kTab_lt : ∀ x ∈ kTab, x < 4294967296 := by decide

def S1 (e : Nat) : Nat := (rotr e 6 ^^^ rotr e 11) ^^^ rotr e 25
def S0 (a : Nat) : Nat := (rotr a 2 ^^^ rotr a 13) ^^^ rotr a 22
def ch (e f g : Nat) : Nat := (e &&& f) ^^^ ((4294967295 - e) &&& g)
def maj (a b c : Nat) : Nat := ((a &&& b) ^^^ (a &&& c)) ^^^ (b &&& c)
theorem S1_lt (x : Nat) (h : x < 4294967296) : S1 x < 4294967296 := xor_lt _ _ (xor_lt _ _ (rotr_lt x 6 h (by decide)) (rotr_lt x 11 h (by decide))) (rotr_lt x 25 h (by decide))
theorem S0_lt (x : Nat) (h : x < 4294967296) : S0 x < 4294967296 := xor_lt _ _ (xor_lt _ _ (rotr_lt x 2 h (by decide)) (rotr_lt x 13 h (by decide))) (rotr_lt x 22 h (by decide))
theorem ch_lt (e f g : Nat) (hf : f < 4294967296) (hg : g < 4294967296) : ch e f g < 4294967296 := xor_lt _ _ (and_lt _ _ hf) (and_lt _ _ hg)
theorem maj_lt (a b c : Nat) (hb : b < 4294967296) (hc : c < 4294967296) : maj a b c < 4294967296 := xor_lt _ _ (xor_lt _ _ (and_lt _ _ hb) (and_lt _ _ hc)) (and_lt _ _ hc)

/-- The eight words of a round. -/
structure V where
  a : Nat
  b : Nat
  c : Nat
  d : Nat
  e : Nat
  f : Nat
  g : Nat
  h : Nat
structure V.ok (v : V) : Prop where
  a : v.a < 4294967296
  b : v.b < 4294967296
  c : v.c < 4294967296
  d : v.d < 4294967296
  e : v.e < 4294967296
  f : v.f < 4294967296
  g : v.g < 4294967296
  h : v.h < 4294967296
def tOf (v : V) (k w : Nat) : Nat := ((((v.h + S1 v.e) % 4294967296 + ch v.e v.f v.g) % 4294967296 + k) % 4294967296 + w) % 4294967296
def uOf (v : V) : Nat := (S0 v.a + maj v.a v.b v.c) % 4294967296
def rnd (v : V) (k w : Nat) : V := ⟨(tOf v k w + uOf v) % 4294967296, v.a, v.b, v.c, (v.d + tOf v k w) % 4294967296, v.e, v.f, v.g⟩
theorem rnd_ok (v : V) (h : v.ok) (k w : Nat) : (rnd v k w).ok := ⟨Nat.mod_lt _ (by decide), h.a, h.b, h.c, Nat.mod_lt _ (by decide), h.e, h.f, h.g⟩
def rounds (v : V) (W : List Nat) : Nat → V
  | 0 => v
  | n + 1 => rnd (rounds v W n) (kTab.getD n 0) (W.getD n 0)
theorem rounds_ok (v : V) (h : v.ok) (W : List Nat) (n : Nat) : (rounds v W n).ok := by
  induction n with
  | zero => exact h
  | succ n ih => exact rnd_ok _ ih _ _
def toV (H : List Nat) : V := ⟨H.getD 0 0, H.getD 1 0, H.getD 2 0, H.getD 3 0, H.getD 4 0, H.getD 5 0, H.getD 6 0, H.getD 7 0⟩
def V.list (v : V) : List Nat := [v.a, v.b, v.c, v.d, v.e, v.f, v.g, v.h]
/-- The words behind a block. -/
def block (H L : List Nat) : List Nat := List.zipWith (fun x y => (x + y) % 4294967296) H (rounds (toV H) (schedTo L 64) 64).list
theorem block_len (H L : List Nat) (h : H.length = 8) : (block H L).length = 8 := by simp [block, V.list, h]

theorem block_lt (H L : List Nat) : ∀ x ∈ block H L, x < 4294967296 := by
  intro x hx
  unfold block at hx
  obtain ⟨i, hi, rfl⟩ := List.mem_iff_getElem.1 hx
  rw [List.getElem_zipWith]
  exact Nat.mod_lt _ (by decide)

/-- The words at first. -/
def hTab : List Nat := [1779033703, 3144134277, 1013904242, 2773480762, 1359893119, 2600822924, 528734635, 1541459225]
/-- One byte more: the words, and what is of no whole block yet. -/
def absorb1 (s : List Nat × List Nat) (x : Nat) : List Nat × List Nat := if s.2.length + 1 = 64 then (block s.1 (s.2 ++ [x]), []) else (s.1, s.2 ++ [x])
def absorb (m : List Nat) : List Nat × List Nat := m.foldl absorb1 (hTab, [])
theorem absorb_snoc (m : List Nat) (x : Nat) : absorb (m ++ [x]) = absorb1 (absorb m) x := by simp [absorb]
theorem snoc_ind {P : List Nat → Prop} (h0 : P []) (h1 : ∀ m x, P m → P (m ++ [x])) (m : List Nat) : P m := by
  have : ∀ l : List Nat, P l.reverse := by
    intro l
    induction l with
    | nil => exact h0
    | cons x l ih => rw [List.reverse_cons]; exact h1 _ _ ih
  have h := this m.reverse
  rwa [List.reverse_reverse] at h
theorem absorb_buf (m : List Nat) : (absorb m).2.length = m.length % 64 := by
  induction m using snoc_ind with
  | h0 => rfl
  | h1 m x ih =>
    rw [absorb_snoc, absorb1]
    split
    · rename_i h; simp only [List.length_nil, List.length_append, List.length_singleton]; omega
    · rename_i h; simp only [List.length_append, List.length_singleton]; omega
theorem absorb_words (m : List Nat) : (absorb m).1.length = 8 := by
  induction m using snoc_ind with
  | h0 => rfl
  | h1 m x ih =>
    rw [absorb_snoc, absorb1]
    split
    · exact block_len _ _ ih
    · exact ih
theorem absorb_lt (m : List Nat) : ∀ x ∈ (absorb m).1, x < 4294967296 := by
  induction m using snoc_ind with
  | h0 => decide
  | h1 m x ih =>
    rw [absorb_snoc, absorb1]
    split
    · exact block_lt _ _
    · exact ih

/-- Letters as numbers. -/
def nats (s : List UInt8) : List Nat := s.map (·.toNat)
theorem nats_len (s : List UInt8) : (nats s).length = s.length := by simp [nats]
theorem nats_take_succ (s : List UInt8) (k : Nat) (h : k < s.length) : nats (s.take (k + 1)) = nats (s.take k) ++ [s[k].toNat] := by
  rw [List.take_succ_eq_append_getElem h]; simp only [nats, List.map_append, List.map_cons, List.map_nil]
/-- How many noughts there are behind the byte 80. -/
def zeros (n : Nat) : Nat := (119 - n % 64) % 64
/-- How many bits there were, in eight bytes, the highest first. -/
def lenBytes (n k : Nat) : List Nat := (List.range k).map fun i => n * 8 / 2 ^ (8 * (7 - i)) % 256
theorem lenBytes_succ (n k : Nat) : lenBytes n (k + 1) = lenBytes n k ++ [n * 8 / 2 ^ (8 * (7 - k)) % 256] := by simp [lenBytes, List.range_succ]
theorem lenBytes_len (n k : Nat) : (lenBytes n k).length = k := by simp [lenBytes]
/-- The bytes, and what follows them. -/
def padded (m : List Nat) : List Nat := m ++ [128] ++ List.replicate (zeros m.length) 0 ++ lenBytes m.length 8

/-- The words' bytes, the highest first. -/
def outTo (H : List Nat) (k : Nat) : List Nat := (List.range k).map fun i => H.getD (i / 4) 0 / 2 ^ (8 * (3 - i % 4)) % 256
theorem outTo_succ (H : List Nat) (k : Nat) : outTo H (k + 1) = outTo H k ++ [H.getD (k / 4) 0 / 2 ^ (8 * (3 - k % 4)) % 256] := by simp [outTo, List.range_succ]
theorem outTo_len (H : List Nat) (k : Nat) : (outTo H k).length = k := by simp [outTo]
/-- The digest of bytes. -/
def sha (m : List Nat) : List Nat := outTo (absorb (padded m)).1 32
theorem sha_len (m : List Nat) : (sha m).length = 32 := outTo_len _ _
theorem nats_app (a b : List UInt8) : nats (a ++ b) = nats a ++ nats b := by simp [nats]

end Go.Proofs.YtemnebbdaljfbaaGreatDoor

namespace Go.Proofs.YtemnebbdaljfbaaGreatDoor
open Go.RowKit

theorem word_bits (a b c d : Nat) (ha : a < 256) (hb : b < 256) (hc : c < 256) (hd : d < 256) :
    bits BinOp.or IntKind.u32 (bits BinOp.or IntKind.u32 (bits BinOp.or IntKind.u32 ((a : Int) * 16777216) ((b : Int) * 65536)) ((c : Int) * 256)) (d : Int) = ((a * 16777216 + b * 65536 + c * 256 + d : Nat) : Int) := by
  have h := word_or a b c d hb hc hd
  have f : ∀ x y : Nat, x < 4294967296 → y < 4294967296 → x ||| y < 4294967296 := fun x y h1 h2 => Nat.or_lt_two_pow (n := 32) h1 h2
  rw [show (a : Int) * 16777216 = ((a * 16777216 : Nat) : Int) by omega, show (b : Int) * 65536 = ((b * 65536 : Nat) : Int) by omega, show (c : Int) * 256 = ((c * 256 : Nat) : Int) by omega,
    u32_or_nat _ _ (by omega) (by omega), u32_or_nat _ _ (f _ _ (by omega) (by omega)) (by omega), u32_or_nat _ _ (f _ _ (f _ _ (by omega) (by omega)) (by omega)) (by omega), h]

set_option maxHeartbeats 400000 in
theorem word_any (a b c d : Nat) (w : World) (ha : a < 256) (hb : b < 256) (hc : c < 256) (hd : d < 256) :
    Calls Tryz.prog 174 #[.int .u8 a, .int .u8 b, .int .u8 c, .int .u8 d] w fun r w' => r = .returned (.int .u32 ((a * 16777216 + b * 65536 + c * 256 + d : Nat) : Int)) ∧ w = w' := by
  rw [← word_bits a b c d ha hb hc hd]
  go_enter Tryz.func174, Tryz.ntmps174
  go_wp2
  go_ret
  exact ⟨rfl, rfl⟩

theorem rot_bits (x n : Nat) (hx : x < 4294967296) (h1 : 1 ≤ n) (h2 : n ≤ 31) :
    bits BinOp.or IntKind.u32 (IntKind.u32.wrap ((x : Int) * 2 ^ (32 - n))) ((x : Int) / 2 ^ n) = (rotr x n : Int) := by
  have hp : 0 < 2 ^ n := Nat.two_pow_pos n
  rw [IntKind.wrap_u32, show (x : Int) * 2 ^ (32 - n) % 4294967296 = ((x * 2 ^ (32 - n) % 4294967296 : Nat) : Int) by rw [Int.natCast_emod, Int.natCast_mul, Int.natCast_pow]; rfl,
    show (x : Int) / 2 ^ n = ((x / 2 ^ n : Nat) : Int) by rw [Int.natCast_ediv, Int.natCast_pow]; rfl,
    u32_or_nat _ _ (Nat.mod_lt _ (by decide)) (Nat.lt_of_le_of_lt (Nat.div_le_self _ _) hx), rotr_or x n hx h1 h2]

set_option maxHeartbeats 400000 in
theorem rotl_any (x n : Nat) (w : World) (hx : x < 4294967296) (h1 : 1 ≤ n) (h2 : n ≤ 31) :
    Calls Tryz.prog 175 #[.int .u32 x, .int .i64 (-(n : Int))] w fun r w' => r = .returned (.int .u32 (rotr x n : Int)) ∧ w = w' := by
  obtain ⟨m, hm⟩ : ∃ m, m = 32 - n := ⟨_, rfl⟩
  have e1 : IntKind.u64.wrap (-(n : Int)) = ((18446744073709551616 - n : Nat) : Int) := by rw [IntKind.wrap_u64]; omega
  have e2 : bits BinOp.and IntKind.u64 (IntKind.u64.wrap (-(n : Int))) 31 = (m : Int) := by
    rw [e1, show (31 : Int) = ((31 : Nat) : Int) from rfl, u64_and_nat _ _ (by omega) (by omega), Nat.and_two_pow_sub_one_eq_mod _ 5]
    omega
  clear e1
  have e3 : IntKind.u64.wrap (32 - (m : Int)) = (n : Int) := by rw [IntKind.wrap_u64]; omega
  have e4 : (32 : Int) - m = n := by omega
  have Hb := Lib.hid (rot_bits x n hx h1 h2)
  have hm31 : m ≤ 31 := by omega
  have Hm := Lib.hid hm
  clear hm
  go_enter Tryz.func175, Tryz.ntmps175
  go_wp2
  go_ret
  exact ⟨by rw [← Hb.out, ← Hm.out]; rfl, rfl⟩

set_option maxHeartbeats 400000 in
theorem dright_any (x n : Nat) (w : World) (hx : x < 4294967296) (h1 : 1 ≤ n) (h2 : n ≤ 31) :
    Calls Tryz.prog 171 #[.int .u32 x, .int .i64 (n : Int)] w fun r w' => r = .returned (.int .u32 (rotr x n : Int)) ∧ w = w' := by
  go_enter Tryz.func171, Tryz.ntmps171
  go_wp2_with fail
  refine (rotl_any x n w hx h1 h2).mono ?_
  rintro r w' ⟨rfl, rfl⟩
  go_wp2_with fail
  go_ret
  exact ⟨rfl, rfl⟩
end Go.Proofs.YtemnebbdaljfbaaGreatDoor

namespace Go.Proofs.YtemnebbdaljfbaaGreatDoor
open Go.RowKit

def sumCells (H L : List Nat) (c : Nat) : Array Value := (nums .u32 H ++ nums .u8 L ++ [Value.int .u64 c]).toArray
structure SumAt (w : World) (b : Nat) (H L : List Nat) (c : Nat) : Prop where
  blk : w.heap[b]? = some (.cells (sumCells H L c) 142 (0, 0))
  hl : H.length = 8
  ll : L.length = 64
theorem SumAt.lt {w : World} {b : Nat} {H L : List Nat} {c : Nat} (h : SumAt w b H L c) : b < w.heap.size := (Array.getElem?_eq_some_iff.1 h.blk).1
theorem SumAt.froz {w : World} {b : Nat} {H L : List Nat} {c : Nat} (h : SumAt w b H L c) (i : Nat) : w.frozen? ⟨b, i, none⟩ = false := frozen_of_row w b i _ _ h.blk
theorem SumAt.kept {w w' : World} {b : Nat} {H L : List Nat} {c : Nat} {S : Nat → Prop} (h : SumAt w b H L c) (hm : Mod S w w') (hb : ¬ S b) : SumAt w' b H L c := ⟨(hm.block b h.lt hb).trans h.blk, h.hl, h.ll⟩
theorem SumAt.word {w : World} {b : Nat} {H L : List Nat} {c : Nat} (h : SumAt w b H L c) (i : Nat) (hi : i < 8) : w.cell? ⟨b, i, none⟩ = some (.int .u32 (H[i]'(by have := h.hl; omega))) := by
  have hi' : i < H.length := by rw [h.hl]; exact hi
  rw [cell_of_row w b i _ _ _ h.blk]
  simp only [sumCells, List.getElem?_toArray, List.append_assoc]
  rw [List.getElem?_append_left (by rw [nums_len]; exact hi'), nums_get _ _ _ hi']
theorem SumAt.byte {w : World} {b : Nat} {H L : List Nat} {c : Nat} (h : SumAt w b H L c) (i : Nat) (hi : i < 64) : w.cell? ⟨b, 8 + i, none⟩ = some (.int .u8 (L[i]'(by have := h.ll; omega))) := by
  have hi' : i < L.length := by rw [h.ll]; exact hi
  have e8 := h.hl
  rw [cell_of_row w b _ _ _ _ h.blk]
  simp only [sumCells, List.getElem?_toArray, List.append_assoc]
  rw [List.getElem?_append_right (by rw [nums_len]; omega), nums_len, show 8 + i - H.length = i by omega, List.getElem?_append_left (by rw [nums_len]; exact hi'), nums_get _ _ _ hi']
theorem SumAt.cnt {w : World} {b : Nat} {H L : List Nat} {c : Nat} (h : SumAt w b H L c) : w.cell? ⟨b, 72, none⟩ = some (.int .u64 c) := by
  have e8 := h.hl
  have e64 := h.ll
  rw [cell_of_row w b _ _ _ _ h.blk]
  simp only [sumCells, List.getElem?_toArray]
  rw [List.getElem?_append_right (by rw [List.length_append, nums_len, nums_len]; omega), List.length_append, nums_len, nums_len, show 72 - (H.length + L.length) = 0 by omega]
  rfl

theorem SumAt.setWord {w : World} {b : Nat} {H L : List Nat} {c : Nat} (h : SumAt w b H L c) (i x : Nat) (hi : i < 8) : SumAt (w.setCell ⟨b, i, none⟩ (.int .u32 (x : Int))) b (H.set i x) L c := by
  have e8 := h.hl
  refine ⟨?_, by simpa using h.hl, h.ll⟩
  rw [heap_setCell_same w b i _ _ _ h.blk]
  congr 2
  simp only [sumCells, List.append_assoc, ← nums_set, List.setIfInBounds_toArray]
  rw [List.set_append_left _ _ (by rw [nums_len]; omega)]
theorem SumAt.setByte {w : World} {b : Nat} {H L : List Nat} {c : Nat} (h : SumAt w b H L c) (i x : Nat) (hi : i < 64) : SumAt (w.setCell ⟨b, 8 + i, none⟩ (.int .u8 (x : Int))) b H (L.set i x) c := by
  have e8 := h.hl
  have e64 := h.ll
  refine ⟨?_, h.hl, by simpa using h.ll⟩
  rw [heap_setCell_same w b (8 + i) _ _ _ h.blk]
  congr 2
  simp only [sumCells, List.append_assoc, ← nums_set, List.setIfInBounds_toArray]
  rw [List.set_append_right _ _ (by rw [nums_len]; omega), nums_len, show 8 + i - H.length = i by omega, List.set_append_left _ _ (by rw [nums_len]; omega)]
theorem SumAt.setCnt {w : World} {b : Nat} {H L : List Nat} {c : Nat} (h : SumAt w b H L c) (x : Nat) : SumAt (w.setCell ⟨b, 72, none⟩ (.int .u64 (x : Int))) b H L x := by
  have e8 := h.hl
  have e64 := h.ll
  refine ⟨?_, h.hl, h.ll⟩
  rw [heap_setCell_same w b 72 _ _ _ h.blk]
  congr 2
  simp only [sumCells, List.setIfInBounds_toArray]
  rw [List.set_append_right _ _ (by rw [List.length_append, nums_len, nums_len]; omega), List.length_append, nums_len, nums_len, show 72 - (H.length + L.length) = 0 by omega]
  rfl

def SchedRel (W0 wr : World) (g : Nat) (L : List Nat) (k : Nat) : Prop := ∃ A, A.length = 64 ∧ A.take k = schedTo L k ∧ RowAt .u32 199 wr g A ∧ Mod (· = g) W0 wr

set_option maxHeartbeats 1000000 in
set_option maxRecDepth 100000 in
theorem schedule_any (b : Nat) (H L : List Nat) (c : Nat) (w : World) (hS : SumAt w b H L c) (hL : ∀ x ∈ L, x < 256) :
    Calls Tryz.prog 170 #[.pointer (some ⟨b, 0, none⟩)] w fun r w' => r = .returned (.agg (nums .u32 (schedTo L 64)).toArray) ∧ Mod (fun _ => False) w w' := by
  go_enter Tryz.func170, Tryz.ntmps170
  go_wp2_with fail
  have hz : ∀ W : World, (W.alloc (.cells (nums .u32 (List.replicate 64 0)).toArray 199)).heap[W.heap.size]? = some (.cells (nums .u32 (List.replicate 64 0)).toArray 199 (0, 0)) := fun W => heap_alloc_new W _
  generalize hW0 : (w.alloc _).alloc _ = W0
  have hA2 : RowAt .u32 199 W0 w.heap.size (List.replicate 64 0) := by rw [← hW0]; exact (heap_alloc_old _ _ (by simp)).trans (heap_alloc_new _ _)
  have hA3 : RowAt .u32 199 W0 (w.heap.size + 1) (List.replicate 64 0) := by rw [← hW0]; have := heap_alloc_new (w.alloc (.cells (nums .u32 (List.replicate 64 0)).toArray 199)) (.cells (nums .u32 (List.replicate 64 0)).toArray 199); rw [World.size_alloc] at this; exact this
  have hM : Mod (fun _ => False) w W0 := by rw [← hW0]; exact ((Mod.refl _ _).alloc _).alloc _
  have hSz : W0.heap.size = w.heap.size + 2 := by rw [← hW0]; simp
  clear hW0 hz
  have hS0 := hS.kept hM (fun h => h)
  have hbl := hS.lt
  go_loopw [8] (fun i wr => ∃ k : Nat, k ≤ 16 ∧ i = .int .i64 k ∧ RowAt .u32 199 wr w.heap.size (List.replicate 64 0) ∧ SchedRel W0 wr (w.heap.size + 1) L k) (fun i _ => 16 - (intOf i).toNat)
  case atStart => exact ⟨0, by omega, rfl, hA2, _, by simp, rfl, hA3, Mod.refl _ _⟩
  case round =>
    obtain ⟨k, hk, rfl, hR2, hR⟩ := hrel
    by_cases hlt : k < 16
    · go_wp2_with fail
      obtain ⟨A, hA, hAt, hRA, hMA⟩ := hR
      have hSr := hS0.kept hMA (by omega)
      have e64 := hS.ll
      obtain ⟨l0, hl0⟩ : ∃ x, x = L[4 * k]'(by omega) := ⟨_, rfl⟩
      obtain ⟨l1, hl1⟩ : ∃ x, x = L[4 * k + 1]'(by omega) := ⟨_, rfl⟩
      obtain ⟨l2, hl2⟩ : ∃ x, x = L[4 * k + 2]'(by omega) := ⟨_, rfl⟩
      obtain ⟨l3, hl3⟩ : ∃ x, x = L[4 * k + 3]'(by omega) := ⟨_, rfl⟩
      have c0 := hSr.byte (4 * k) (by omega)
      have c1 := hSr.byte (4 * k + 1) (by omega)
      have c2 := hSr.byte (4 * k + 2) (by omega)
      have c3 := hSr.byte (4 * k + 3) (by omega)
      rw [← hl0] at c0; rw [← hl1] at c1; rw [← hl2] at c2; rw [← hl3] at c3
      have b0 : l0 < 256 := by rw [hl0]; exact hL _ (List.getElem_mem _)
      have b1 : l1 < 256 := by rw [hl1]; exact hL _ (List.getElem_mem _)
      have b2 : l2 < 256 := by rw [hl2]; exact hL _ (List.getElem_mem _)
      have b3 : l3 < 256 := by rw [hl3]; exact hL _ (List.getElem_mem _)
      have Hl0 := Lib.hid hl0; have Hl1 := Lib.hid hl1; have Hl2 := Lib.hid hl2; have Hl3 := Lib.hid hl3
      clear hl0 hl1 hl2 hl3
      have q0 : IntKind.i64.wrap (4 * (k : Int)) = 4 * (k : Int) := IntWalk.i64_in _ (by omega)
      have q1 : IntKind.i64.wrap (4 * (k : Int) + 1) = 4 * (k : Int) + 1 := IntWalk.i64_in _ (by omega)
      have q2 : IntKind.i64.wrap (4 * (k : Int) + 2) = 4 * (k : Int) + 2 := IntWalk.i64_in _ (by omega)
      have q3 : IntKind.i64.wrap (4 * (k : Int) + 3) = 4 * (k : Int) + 3 := IntWalk.i64_in _ (by omega)
      have ia0 : (0 : Int) ≤ 4 * (k : Int) := by omega
      have ib0 : 4 * (k : Int) < 64 := by omega
      have it0 : (4 * (k : Int)).toNat = 4 * k := by omega
      have ia1 : (0 : Int) ≤ 4 * (k : Int) + 1 := by omega
      have ib1 : 4 * (k : Int) + 1 < 64 := by omega
      have it1 : (4 * (k : Int) + 1).toNat = 4 * k + 1 := by omega
      have ia2 : (0 : Int) ≤ 4 * (k : Int) + 2 := by omega
      have ib2 : 4 * (k : Int) + 2 < 64 := by omega
      have it2 : (4 * (k : Int) + 2).toNat = 4 * k + 2 := by omega
      have ia3 : (0 : Int) ≤ 4 * (k : Int) + 3 := by omega
      have ib3 : 4 * (k : Int) + 3 < 64 := by omega
      have it3 : (4 * (k : Int) + 3).toNat = 4 * k + 3 := by omega
      go_still_tail 34, (by kernel_rfl)
      have ia : (0 : Int) ≤ k := by omega
      have ib : (k : Int) < 64 := by omega
      still_call ((word_any l0 l1 l2 l3 _ b0 b1 b2 b3).mono fun _ _ ⟨h1, h2⟩ => ⟨h1, h2.symm⟩)
      repeat still_step
      refine wpStill_nil ?_
      have ck := hRA.cell k (by omega)
      have fk := hRA.froz k
      obtain ⟨y, hy⟩ : ∃ y : Nat, y = A[k]'(by omega) := ⟨_, rfl⟩
      rw [← hy] at ck
      clear hy c0 c1 c2 c3
      have Hr : Hid (RowAt .u32 199 (wr.setCell ⟨w.heap.size + 1, k, none⟩ (.int .u32 ((l0 * 16777216 + l1 * 65536 + l2 * 256 + l3 : Nat) : Int))).drew w.heap.size (List.replicate 64 0) ∧
          SchedRel W0 (wr.setCell ⟨w.heap.size + 1, k, none⟩ (.int .u32 ((l0 * 16777216 + l1 * 65536 + l2 * 256 + l3 : Nat) : Int))).drew (w.heap.size + 1) L (k + 1)) := Lib.hid (by
        refine ⟨hR2.kept ((Mod.refl (· = w.heap.size + 1) _).setCell (p := ⟨w.heap.size + 1, k, none⟩) (fun _ => rfl) _).drew (by omega), A.set k (l0 * 16777216 + l1 * 65536 + l2 * 256 + l3), by simpa using hA, ?_, hRA.set _ _, (hMA.setCell (p := ⟨w.heap.size + 1, k, none⟩) (fun _ => rfl) _).drew⟩
        rw [take_set_succ _ _ _ (by omega), hAt, schedTo, if_pos hlt]
        unfold w16
        rw [getD_at _ _ (by omega), getD_at _ _ (by omega), getD_at _ _ (by omega), getD_at _ _ (by omega), Hl0.out, Hl1.out, Hl2.out, Hl3.out])
      change wpList _ _ _ _ _ wr.drew
      go_wp2_with fail
      go_roundw
      case rel => exact ⟨k + 1, by omega, by go_num, Hr.out.1, Hr.out.2⟩
      case measure => simp [intOf]; omega
    · obtain rfl : k = 16 := by omega
      rw [show ((16 : Nat) : Int) = 16 from rfl]
      go_wp2_with fail
      obtain ⟨wo, rfl⟩ : ∃ wo : World, wo = wr := ⟨_, rfl⟩
      go_loopw [5] (fun i wr => ∃ k : Nat, 16 ≤ k ∧ k ≤ 64 ∧ i = .int .i64 k ∧ RowAt .u32 199 wr w.heap.size (List.replicate 64 0) ∧ SchedRel W0 wr (w.heap.size + 1) L k) (fun i _ => 64 - (intOf i).toNat)
      case atStart => exact ⟨16, by omega, by omega, rfl, hR2, hR⟩
      case round =>
        clear hR2 hR
        obtain ⟨k, hk1, hk2, rfl, hR2, hR⟩ := hrel
        obtain ⟨A, hA, hAt, hRA, hMA⟩ := hR
        by_cases hlt : k < 64
        · have hAlt : ∀ i (hi : i < k), A[i]'(by omega) < 4294967296 := by
            intro i hi
            have h := schedTo_lt L hL k (A[i]'(by omega))
            rw [← hAt] at h
            exact h (by rw [← getD_take A k i hi (by omega), getD_at _ _ (by simp; omega)]; exact List.getElem_mem _)
          obtain ⟨x15, h15⟩ : ∃ x, x = A[k - 15]'(by omega) := ⟨_, rfl⟩
          obtain ⟨x2, h2⟩ : ∃ x, x = A[k - 2]'(by omega) := ⟨_, rfl⟩
          obtain ⟨x16, h16⟩ : ∃ x, x = A[k - 16]'(by omega) := ⟨_, rfl⟩
          obtain ⟨x7, h7⟩ : ∃ x, x = A[k - 7]'(by omega) := ⟨_, rfl⟩
          have c15 := hRA.cell (k - 15) (by omega)
          have c2 := hRA.cell (k - 2) (by omega)
          have c16 := hRA.cell (k - 16) (by omega)
          have c7 := hRA.cell (k - 7) (by omega)
          have b15 := hAlt (k - 15) (by omega)
          have b2 := hAlt (k - 2) (by omega)
          have b16 := hAlt (k - 16) (by omega)
          have b7 := hAlt (k - 7) (by omega)
          rw [← h15] at c15 b15; rw [← h2] at c2 b2; rw [← h16] at c16 b16; rw [← h7] at c7 b7
          have H15 := Lib.hid h15; have H2 := Lib.hid h2; have H16 := Lib.hid h16; have H7 := Lib.hid h7
          have HA := Lib.hid hAlt
          clear h15 h2 h16 h7 hAlt
          have t15 : ((k : Int) - 15).toNat = k - 15 := by omega
          have t2 : ((k : Int) - 2).toNat = k - 2 := by omega
          have t16 : ((k : Int) - 16).toNat = k - 16 := by omega
          have t7 : ((k : Int) - 7).toNat = k - 7 := by omega
          have q15 : IntKind.i64.wrap ((k : Int) - 15) = (k : Int) - 15 := IntWalk.i64_in _ (by omega)
          have q2 : IntKind.i64.wrap ((k : Int) - 2) = (k : Int) - 2 := IntWalk.i64_in _ (by omega)
          have q16 : IntKind.i64.wrap ((k : Int) - 16) = (k : Int) - 16 := IntWalk.i64_in _ (by omega)
          have q7 : IntKind.i64.wrap ((k : Int) - 7) = (k : Int) - 7 := IntWalk.i64_in _ (by omega)
          go_wp2_with fail
          go_quiet (fail)
          go_wp2_with fail
          have hmw : Mod (fun _ => False) wr (wr.drewN nq) := Mod.drewN (Mod.refl _ _) nq
          generalize wr.drewN nq = wq at hmw ⊢
          have hRq2 := hR2.kept hmw (fun h => h)
          have hRq := hRA.kept hmw (fun h => h)
          have hMq : Mod (· = w.heap.size + 1) W0 wq := hMA.trans hmw (fun _ _ h => h.elim)
          clear hR2 hRA hMA hmw c15 c2 c16 c7
          have c16 := hRq.cell (k - 16) (by omega)
          have c7 := hRq.cell (k - 7) (by omega)
          rw [← H16.out] at c16; rw [← H7.out] at c7
          have u16 : (16 : Int) ≤ k := by omega
          have v16 : (k : Int) - 16 < 64 := by omega
          have u7 : (7 : Int) ≤ k := by omega
          have v7 : (k : Int) - 7 < 64 := by omega
          obtain ⟨r1, hr1⟩ : ∃ r, r = rotr x15 7 ^^^ rotr x15 18 := ⟨_, rfl⟩
          obtain ⟨z0, hz0⟩ : ∃ r, r = s0 x15 := ⟨_, rfl⟩
          obtain ⟨r2, hr2⟩ : ∃ r, r = rotr x2 17 ^^^ rotr x2 19 := ⟨_, rfl⟩
          obtain ⟨z1, hz1⟩ : ∃ r, r = s1 x2 := ⟨_, rfl⟩
          obtain ⟨y1, hy1⟩ : ∃ r, r = (x16 + z0) % 4294967296 := ⟨_, rfl⟩
          obtain ⟨y2, hy2⟩ : ∃ r, r = (y1 + x7) % 4294967296 := ⟨_, rfl⟩
          obtain ⟨y3, hy3⟩ : ∃ r, r = (y2 + z1) % 4294967296 := ⟨_, rfl⟩
          have f1 : bits BinOp.xor IntKind.u32 (rotr x15 7 : Int) (rotr x15 18 : Int) = (r1 : Int) := by
            rw [u32_xor_nat _ _ (rotr_lt _ _ b15 (by decide)) (rotr_lt _ _ b15 (by decide)), hr1]
          have f2 : bits BinOp.xor IntKind.u32 (r1 : Int) ((x15 : Int) / 8) = (z0 : Int) := by
            rw [show (x15 : Int) / 8 = ((x15 / 8 : Nat) : Int) by omega, u32_xor_nat _ _ (by rw [hr1]; exact xor_lt _ _ (rotr_lt _ _ b15 (by decide)) (rotr_lt _ _ b15 (by decide))) (by omega), hr1, hz0]; rfl
          have f3 : bits BinOp.xor IntKind.u32 (rotr x2 17 : Int) (rotr x2 19 : Int) = (r2 : Int) := by
            rw [u32_xor_nat _ _ (rotr_lt _ _ b2 (by decide)) (rotr_lt _ _ b2 (by decide)), hr2]
          have f4 : bits BinOp.xor IntKind.u32 (r2 : Int) ((x2 : Int) / 1024) = (z1 : Int) := by
            rw [show (x2 : Int) / 1024 = ((x2 / 1024 : Nat) : Int) by omega, u32_xor_nat _ _ (by rw [hr2]; exact xor_lt _ _ (rotr_lt _ _ b2 (by decide)) (rotr_lt _ _ b2 (by decide))) (by omega), hr2, hz1]; rfl
          have f5 : IntKind.u32.wrap ((x16 : Int) + z0) = (y1 : Int) := by rw [IntKind.wrap_u32, hy1]; omega
          have f6 : IntKind.u32.wrap ((y1 : Int) + x7) = (y2 : Int) := by rw [IntKind.wrap_u32, hy2]; omega
          have f7 : IntKind.u32.wrap ((y2 : Int) + z1) = (y3 : Int) := by rw [IntKind.wrap_u32, hy3]; omega
          have Hr : Hid (RowAt .u32 199 ((wq.setCell ⟨w.heap.size + 1, k, none⟩ (.int .u32 (y3 : Int))).drew) w.heap.size (List.replicate 64 0) ∧
              SchedRel W0 ((wq.setCell ⟨w.heap.size + 1, k, none⟩ (.int .u32 (y3 : Int))).drew) (w.heap.size + 1) L (k + 1)) := Lib.hid (by
            refine ⟨hRq2.kept (((Mod.refl (· = w.heap.size + 1) _).setCell (p := ⟨w.heap.size + 1, k, none⟩) (fun _ => rfl) _).drew) (by omega), A.set k y3, by simpa using hA, ?_, hRq.set _ _, (hMq.setCell (p := ⟨w.heap.size + 1, k, none⟩) (fun _ => rfl) _).drew⟩
            rw [take_set_succ _ _ _ (by omega), hAt, schedTo, if_neg (by omega), ← hAt, getD_take _ _ _ (by omega) (by omega), getD_take _ _ _ (by omega) (by omega), getD_take _ _ _ (by omega) (by omega), getD_take _ _ _ (by omega) (by omega),
              ← H15.out, ← H2.out, ← H16.out, ← H7.out, ← hz0, ← hz1, ← hy1, ← hy2, ← hy3])
          clear hr1 hz0 hr2 hz1 hy1 hy2 hy3
          have ia : (0 : Int) ≤ k := by omega
          have ib : (k : Int) < 64 := by omega
          have ck := hRq.cell k (by omega)
          have fk := hRq.froz k
          obtain ⟨y, hy⟩ : ∃ y : Nat, y = A[k]'(by omega) := ⟨_, rfl⟩
          rw [← hy] at ck
          clear hy
          go_still_tail 29, (by kernel_rfl)
          still_call ((dright_any x15 7 _ b15 (by omega) (by omega)).mono fun _ _ ⟨h1, h2⟩ => ⟨h1, h2.symm⟩)
          repeat still_step
          still_call ((dright_any x15 18 _ b15 (by omega) (by omega)).mono fun _ _ ⟨h1, h2⟩ => ⟨h1, h2.symm⟩)
          repeat still_step
          still_call ((dright_any x2 17 _ b2 (by omega) (by omega)).mono fun _ _ ⟨h1, h2⟩ => ⟨h1, h2.symm⟩)
          repeat still_step
          still_call ((dright_any x2 19 _ b2 (by omega) (by omega)).mono fun _ _ ⟨h1, h2⟩ => ⟨h1, h2.symm⟩)
          repeat still_step
          refine wpStill_nil ?_
          change wpList _ _ _ _ _ wq.drew
          clear c16 c7
          go_wp2_with fail
          go_roundw
          case rel => exact ⟨k + 1, by omega, by omega, by go_num, Hr.out.1, Hr.out.2⟩
          case measure => simp [intOf]; omega
        · obtain rfl : k = 64 := by omega
          have hAe : A = schedTo L 64 := by rw [← hAt, List.take_of_length_le (by omega)]
          rw [hAe] at hRA
          have h1 := nums_one .u32 (schedTo L 64)
          have hl := schedTo_len L 64
          have hM2 : Mod (fun _ => False) w (wr.setRow w.heap.size (nums .u32 (schedTo L 64)).toArray) :=
            hM.trans (hMA.setRow (g := w.heap.size) (nums .u32 (schedTo L 64)).toArray) (by rintro i hi (h | h) <;> omega)
          have hg2 := setRow_heap wr w.heap.size _ (nums .u32 (schedTo L 64)).toArray _ _ hR2
          obtain ⟨Z, hZ⟩ : ∃ Z, Z = schedTo L 64 := ⟨_, rfl⟩
          rw [← hZ] at hRA h1 hl hM2 hg2
          have HZ := Lib.hid hZ
          have HM2 := Lib.hid hM2
          have Hg2 := Lib.hid hg2
          clear hZ hM2 hg2 hAt hAe
          go_wp2_with (first | (refine wpList_load_row rfl 199 (.tmp 3) rfl (w.heap.size + 1) rfl 199 (nums .u32 Z).toArray (0, 0) _ hRA Tryz.underlying199 rfl ?s1 ?_) | (refine wpList_store_row rfl rfl 199 (.tmp 2) (.tmp 87) rfl w.heap.size rfl 199 (nums .u32 (List.replicate 64 0)).toArray (nums .u32 Z).toArray rfl hR2 ?s2 ?s3 ?s4 ?_))
          case s1 => rw [List.size_toArray, nums_len, hl]; kernel_rfl
          case s2 => simp [nums_len, hl]
          case s3 => rw [List.size_toArray, nums_len, hl]; kernel_rfl
          case s4 => simpa using h1
          refine bodyPost_ret (v := .agg (nums .u32 Z).toArray) (results_cell_row Tryz.results170 _ _ w.heap.size 199 (nums .u32 Z).toArray (0, 0) _ rfl Hg2.out Tryz.underlying199 rfl ?_) rfl ⟨by rw [← HZ.out], HM2.out⟩
          rw [List.size_toArray, nums_len, hl]; kernel_rfl
end Go.Proofs.YtemnebbdaljfbaaGreatDoor

namespace Go.Proofs.YtemnebbdaljfbaaGreatDoor
open Go.RowKit

/-- The rounds' words lie in the program's table. -/
def TabAt (w : World) : Prop := ∀ i, i < 64 → w.cell? ⟨1, i, none⟩ = some (.int .u32 (kTab.getD i 0))
theorem TabAt.lt {w : World} (h : TabAt w) : 1 < w.heap.size := World.block_lt_of_cell? _ _ (h 0 (by omega))
theorem TabAt.kept {w w' : World} {S : Nat → Prop} (h : TabAt w) (hm : Mod S w w') (h0 : ¬ S 1) : TabAt w' := fun i hi => (World.cell?_of_block (hm.block 1 h.lt h0)).trans (h i hi)

theorem right_q (x n : Nat) (w : World) (hx : x < 4294967296) (h1 : 1 ≤ n) (h2 : n ≤ 31) :
    Calls Tryz.prog 171 #[.int .u32 x, .int .i64 (n : Int)] w fun r w' => r = .returned (.int .u32 (rotr x n : Int)) ∧ w' = w :=
  (dright_any x n w hx h1 h2).mono fun _ _ ⟨a, b⟩ => ⟨a, b.symm⟩

theorem list8 {H : List Nat} (h : H.length = 8) : ∃ a b c d e f g i, H = [a, b, c, d, e, f, g, i] := by
  match H, h with
  | [a, b, c, d, e, f, g, i], _ => exact ⟨a, b, c, d, e, f, g, i, rfl⟩

/-- The words of a round, step by step, in the machine's spelling. -/
theorem t_facts (e f g h k w : Nat) (be : e < 4294967296) (bf : f < 4294967296) (bg : g < 4294967296) (_bh : h < 4294967296) (_bk : k < 4294967296) (_bw : w < 4294967296) :
    ∃ r1 z1 q1 ne q2 q3 y1 y2 y3 t : Nat, Hid (t = tOf ⟨0, 0, 0, 0, e, f, g, h⟩ k w) ∧
      bits BinOp.xor IntKind.u32 (rotr e 6 : Int) (rotr e 11 : Int) = (r1 : Int) ∧ bits BinOp.xor IntKind.u32 (r1 : Int) (rotr e 25 : Int) = (z1 : Int) ∧
      bits BinOp.and IntKind.u32 (e : Int) (f : Int) = (q1 : Int) ∧ bits BinOp.xor IntKind.u32 (if IntKind.u32.signed = true then -1 else IntKind.u32.max) (e : Int) = (ne : Int) ∧ bits BinOp.and IntKind.u32 (ne : Int) (g : Int) = (q2 : Int) ∧
      bits BinOp.xor IntKind.u32 (q1 : Int) (q2 : Int) = (q3 : Int) ∧
      ((h : Int) + z1) % 4294967296 = (y1 : Int) ∧ ((y1 : Int) + q3) % 4294967296 = (y2 : Int) ∧ ((y2 : Int) + k) % 4294967296 = (y3 : Int) ∧ ((y3 : Int) + w) % 4294967296 = (t : Int) := by
  have hne : bits BinOp.xor IntKind.u32 (if IntKind.u32.signed = true then -1 else IntKind.u32.max) (e : Int) = ((4294967295 - e : Nat) : Int) := by
    rw [if_neg (by decide), show IntKind.u32.max = ((4294967295 : Nat) : Int) from rfl, u32_xor_nat _ _ (by decide) be]
    have h := BitVec.toNat_not (x := BitVec.ofNat 32 e)
    have h2 : (~~~ BitVec.ofNat 32 e) = BitVec.allOnes 32 ^^^ BitVec.ofNat 32 e := by rw [BitVec.allOnes_xor]
    rw [h2, BitVec.toNat_xor, BitVec.toNat_allOnes, BitVec.toNat_ofNat, Nat.mod_eq_of_lt (by omega)] at h
    exact congrArg Int.ofNat h
  have h6 := rotr_lt e 6 be (by decide)
  have h11 := rotr_lt e 11 be (by decide)
  have h25 := rotr_lt e 25 be (by decide)
  refine ⟨rotr e 6 ^^^ rotr e 11, S1 e, e &&& f, 4294967295 - e, (4294967295 - e) &&& g, ch e f g, (h + S1 e) % 4294967296, ((h + S1 e) % 4294967296 + ch e f g) % 4294967296, (((h + S1 e) % 4294967296 + ch e f g) % 4294967296 + k) % 4294967296, _, rfl,
    u32_xor_nat _ _ h6 h11, u32_xor_nat _ _ (xor_lt _ _ h6 h11) h25, u32_and_nat _ _ be bf, hne, u32_and_nat _ _ (by omega) bg, u32_xor_nat _ _ (and_lt _ _ bf) (and_lt _ _ bg), by omega, by omega, by omega, ?_⟩
  simp only [tOf]
  omega
theorem u_facts (a b c : Nat) (ba : a < 4294967296) (bb : b < 4294967296) (bc : c < 4294967296) :
    ∃ r2 z2 m1 m2 m3 m4 m5 u : Nat, Hid (u = uOf ⟨a, b, c, 0, 0, 0, 0, 0⟩) ∧
      bits BinOp.xor IntKind.u32 (rotr a 2 : Int) (rotr a 13 : Int) = (r2 : Int) ∧ bits BinOp.xor IntKind.u32 (r2 : Int) (rotr a 22 : Int) = (z2 : Int) ∧
      bits BinOp.and IntKind.u32 (a : Int) (b : Int) = (m1 : Int) ∧ bits BinOp.and IntKind.u32 (a : Int) (c : Int) = (m2 : Int) ∧ bits BinOp.xor IntKind.u32 (m1 : Int) (m2 : Int) = (m3 : Int) ∧
      bits BinOp.and IntKind.u32 (b : Int) (c : Int) = (m4 : Int) ∧ bits BinOp.xor IntKind.u32 (m3 : Int) (m4 : Int) = (m5 : Int) ∧ ((z2 : Int) + m5) % 4294967296 = (u : Int) := by
  have h2 := rotr_lt a 2 ba (by decide)
  have h13 := rotr_lt a 13 ba (by decide)
  have h22 := rotr_lt a 22 ba (by decide)
  refine ⟨rotr a 2 ^^^ rotr a 13, S0 a, a &&& b, a &&& c, (a &&& b) ^^^ (a &&& c), b &&& c, maj a b c, _, rfl,
    u32_xor_nat _ _ h2 h13, u32_xor_nat _ _ (xor_lt _ _ h2 h13) h22, u32_and_nat _ _ ba bb, u32_and_nat _ _ ba bc, u32_xor_nat _ _ (and_lt _ _ bb) (and_lt _ _ bc), u32_and_nat _ _ bb bc, u32_xor_nat _ _ (xor_lt _ _ (and_lt _ _ bb) (and_lt _ _ bc)) (and_lt _ _ bc), ?_⟩
  simp only [uOf]
  omega

structure MixRel (w : World) (b : Nat) (H L : List Nat) (c N : Nat) (Z : List Nat) (wr : World) : Prop where
  s : SumAt wr b H L c
  r : RowAt .u32 199 wr N Z
  t : TabAt wr
  m : Mod (fun _ => False) w wr
theorem MixRel.drewN {w : World} {b : Nat} {H L : List Nat} {c N : Nat} {Z : List Nat} {wr : World} (h : MixRel w b H L c N Z wr) (n : Nat) : MixRel w b H L c N Z (wr.drewN n) :=
  have hm : Mod (fun _ => False) wr (wr.drewN n) := Mod.drewN (Mod.refl _ _) n
  ⟨h.s.kept hm (fun h => h), h.r.kept hm (fun h => h), h.t.kept hm (fun h => h), h.m.trans hm (fun _ _ h => h)⟩

/-- The words are added, one by one. -/
def AddRel (w : World) (b : Nat) (H B L : List Nat) (c k : Nat) (wr : World) : Prop := ∃ Hp, SumAt wr b Hp L c ∧ Hp.take k = B.take k ∧ Hp.drop k = H.drop k ∧ Mod (· = b) w wr

def VSlots (v : V) (s3 s4 s5 s6 s7 s8 s9 s10 : Value) : Prop :=
  s3 = .int .u32 v.a ∧ s4 = .int .u32 v.b ∧ s5 = .int .u32 v.c ∧ s6 = .int .u32 v.d ∧ s7 = .int .u32 v.e ∧ s8 = .int .u32 v.f ∧ s9 = .int .u32 v.g ∧ s10 = .int .u32 v.h

set_option maxHeartbeats 2000000 in
set_option maxRecDepth 100000 in
theorem mix_any (b : Nat) (H L : List Nat) (c : Nat) (w : World) (hS : SumAt w b H L c) (hL : ∀ x ∈ L, x < 256) (hH : ∀ x ∈ H, x < 4294967296) (hT : TabAt w) :
    Calls Tryz.prog 160 #[.pointer (some ⟨b, 0, none⟩)] w fun r w' => r = .returned (.tuple #[]) ∧ SumAt w' b (block H L) L c ∧ Mod (· = b) w w' := by
  go_enter Tryz.func160, Tryz.ntmps160
  go_wp2_with fail
  refine (schedule_any b H L c w hS hL).mono ?_
  rintro r w1 ⟨rfl, hM1⟩
  have hS1 := hS.kept hM1 (fun h => h)
  have hT1 := hT.kept hM1 (fun h => h)
  have hZl := schedTo_len L 64
  have hZb := schedTo_lt L hL 64
  obtain ⟨Z, hZ⟩ : ∃ Z, Z = schedTo L 64 := ⟨_, rfl⟩
  rw [← hZ] at hZl hZb ⊢
  have HZ := Lib.hid hZ
  clear hZ
  go_wp2_with (refine wpList_store_row rfl rfl 199 (.tmp 2) (.tmp 17) rfl w1.heap.size rfl 199 (nums .u32 (List.replicate 64 0)).toArray (nums .u32 Z).toArray rfl (heap_alloc_new _ _) ?s2 ?s3 ?s4 ?_)
  case s2 => simp [nums_len, hZl]
  case s3 => rw [List.size_toArray, nums_len, hZl]; kernel_rfl
  case s4 => simpa using nums_one .u32 Z
  generalize hW1 : (w1.alloc _).setRow w1.heap.size _ = W1
  have hW1' : Mod (fun _ => False) w1 W1 := by
    rw [← hW1]
    exact (((Mod.refl (fun _ => False) _).alloc _).setRow (g := w1.heap.size) _).drop_new (Nat.le_refl _)
  have hR1 : RowAt .u32 199 W1 w1.heap.size Z := by rw [← hW1]; exact setRow_heap _ _ _ _ _ _ (heap_alloc_new _ _)
  have hM2 : Mod (fun _ => False) w W1 := hM1.trans hW1' (fun _ _ h => h)
  have hS2 := hS1.kept hW1' (fun h => h)
  have hT2 := hT1.kept hW1' (fun h => h)
  have hbN : b < w1.heap.size := hS1.lt
  have hbw : b < w.heap.size := hS.lt
  clear hS1 hT1 hM1 hW1 hW1' hS hT
  obtain ⟨h0, h1, h2, h3, h4, h5, h6, h7, rfl⟩ := list8 hS2.hl
  have c0 := hS2.word 0 (by omega)
  have c1 := hS2.word 1 (by omega)
  have c2 := hS2.word 2 (by omega)
  have c3 := hS2.word 3 (by omega)
  have c4 := hS2.word 4 (by omega)
  have c5 := hS2.word 5 (by omega)
  have c6 := hS2.word 6 (by omega)
  have c7 := hS2.word 7 (by omega)
  simp only [List.getElem_cons_zero, List.getElem_cons_succ] at c0 c1 c2 c3 c4 c5 c6 c7
  go_quiet (fail)
  go_wp2_with fail
  go_quiet (fail)
  go_upto_block 0 with fail
  have hR2 := (MixRel.mk hS2 hR1 hT2 hM2).drewN
  generalize hW2 : (W1.drewN _).drewN _ = W2
  have hR3 : MixRel w b [h0, h1, h2, h3, h4, h5, h6, h7] L c w1.heap.size Z W2 := by rw [← hW2]; exact (hR2 _).drewN _
  clear hW2 hR2 hR1 hS2 hT2 hM2 c0 c1 c2 c3 c4 c5 c6 c7
  have hv0 : (toV [h0, h1, h2, h3, h4, h5, h6, h7]).ok := by
    have hh := hH
    simp only [List.mem_cons, List.not_mem_nil, or_false, forall_eq_or_imp, forall_eq] at hh
    obtain ⟨a, b, c, d, e, f, g, h⟩ := hh
    exact ⟨a, b, c, d, e, f, g, h⟩
  obtain ⟨v0, hv0e⟩ : ∃ v, v = toV [h0, h1, h2, h3, h4, h5, h6, h7] := ⟨_, rfl⟩
  rw [← hv0e] at hv0
  have Hv0 := Lib.hid hv0e
  go_cut [3, 4, 5, 6, 7, 8, 9, 10] (fun s3 s4 s5 s6 s7 s8 s9 s10 wx => VSlots (rounds v0 Z 64) s3 s4 s5 s6 s7 s8 s9 s10 ∧ MixRel w b [h0, h1, h2, h3, h4, h5, h6, h7] L c w1.heap.size Z wx)
  case first =>
    go_wp2_with fail
    go_loopw [3, 4, 5, 6, 7, 8, 9, 10, 58] (fun s3 s4 s5 s6 s7 s8 s9 s10 i wr => ∃ k : Nat, k ≤ 64 ∧ i = .int .i64 k ∧ VSlots (rounds v0 Z k) s3 s4 s5 s6 s7 s8 s9 s10 ∧ MixRel w b [h0, h1, h2, h3, h4, h5, h6, h7] L c w1.heap.size Z wr) (fun _ _ _ _ _ _ _ _ i _ => 64 - (intOf i).toNat)
    case atStart => exact ⟨0, by omega, rfl, by rw [hv0e]; exact ⟨rfl, rfl, rfl, rfl, rfl, rfl, rfl, rfl⟩, hR3⟩
    case round =>
      clear hv0e
      obtain ⟨k, hk, rfl, ⟨rfl, rfl, rfl, rfl, rfl, rfl, rfl, rfl⟩, hR4⟩ := hrel
      by_cases hlt : k < 64
      · as_aux_lemma =>
        have hvk := rounds_ok v0 hv0 Z k
        obtain ⟨wk, hwk⟩ : ∃ x, x = Z[k]'(by omega) := ⟨_, rfl⟩
        obtain ⟨kk, hkk⟩ : ∃ x, x = kTab.getD k 0 := ⟨_, rfl⟩
        have cw := hR4.r.cell k (by omega)
        have ck := hR4.t k hlt
        have bw : wk < 4294967296 := by rw [hwk]; exact hZb _ (List.getElem_mem _)
        have bk : kk < 4294967296 := by rw [hkk, getD_at _ _ (by rw [kTab_len]; omega)]; exact kTab_lt _ (List.getElem_mem _)
        rw [← hwk] at cw; rw [← hkk] at ck
        have hnext : rounds v0 Z (k + 1) = rnd (rounds v0 Z k) kk wk := by rw [rounds, ← hkk, getD_at _ _ (by omega), ← hwk]
        have Hnext := Lib.hid hnext
        clear hnext hwk hkk
        generalize rounds v0 Z k = v at hvk Hnext ⊢
        obtain ⟨a, bb, cc, d, e, f, g, h⟩ := v
        obtain ⟨ba, bb', bc, bd, be, bf, bg, bh⟩ := hvk
        simp only at ba bb' bc bd be bf bg bh
        have ia : (0 : Int) ≤ k := by omega
        have ib : (k : Int) < 64 := by omega
        -- the first sum
        obtain ⟨r1, z1, q1, ne, q2, q3, y1, y2, y3, t, Ht, f1, f2, f3, f4, f5, f6, g1, g2, g3, g4⟩ := t_facts e f g h kk wk be bf bg bh bk bw
        obtain ⟨r2, z2, m1, m2, m3, m4, m5, u, Hu, k1, k2, k3, k4, k5, k6, k7, k8⟩ := u_facts a bb cc ba bb' bc
        go_wp2_with fail
        go_quiet ((first | (go_at_call_of 171 (Value.int IntKind.i64 6); exact Calls.quiet_of_same (right_q e 6 _ be (by omega) (by omega))) | (go_at_call_of 171 (Value.int IntKind.i64 11); exact Calls.quiet_of_same (right_q e 11 _ be (by omega) (by omega))) | (go_at_call_of 171 (Value.int IntKind.i64 25); exact Calls.quiet_of_same (right_q e 25 _ be (by omega) (by omega)))))
        go_wp2_with (first | (go_at_call_of 171 (Value.int IntKind.i64 2); refine (dright_any a 2 _ ba (by omega) (by omega)).mono ?_; rintro _ _ ⟨rfl, rfl⟩) | (go_at_call_of 171 (Value.int IntKind.i64 13); refine (dright_any a 13 _ ba (by omega) (by omega)).mono ?_; rintro _ _ ⟨rfl, rfl⟩) | (go_at_call_of 171 (Value.int IntKind.i64 22); refine (dright_any a 22 _ ba (by omega) (by omega)).mono ?_; rintro _ _ ⟨rfl, rfl⟩))
        go_roundw
        case rel =>
          refine ⟨k + 1, by omega, by go_num, ?_, hR4.drewN nq⟩
          rw [Hnext.out]
          have e1 : t = tOf ⟨a, bb, cc, d, e, f, g, h⟩ kk wk := Ht.out
          have e2 : u = uOf ⟨a, bb, cc, d, e, f, g, h⟩ := Hu.out
          exact ⟨by rw [e1, e2]; exact val_int (by simp [rnd]), rfl, rfl, rfl, by rw [e1]; exact val_int (by simp [rnd]), rfl, rfl, rfl⟩
        case measure => simp [intOf]; omega
      · obtain rfl : k = 64 := by omega
        go_wp2_with fail
        go_meet
        exact ⟨⟨rfl, rfl, rfl, rfl, rfl, rfl, rfl, rfl⟩, hR4⟩
  case rest =>
  obtain ⟨⟨rfl, rfl, rfl, rfl, rfl, rfl, rfl, rfl⟩, hR4⟩ := hcut
  have hvk := rounds_ok v0 hv0 Z 64
  have hbl : block [h0, h1, h2, h3, h4, h5, h6, h7] L = List.zipWith (fun x y => (x + y) % 4294967296) [h0, h1, h2, h3, h4, h5, h6, h7] (rounds v0 Z 64).list := by rw [block, ← HZ.out, ← Hv0.out]
  generalize rounds v0 Z 64 = v at hvk hbl ⊢
  have Hbl := Lib.hid hbl
  clear hbl
  obtain ⟨a, bb, cc, d, e, f, g, h⟩ := v
  go_wp2_with fail
  have hlen : (block [h0, h1, h2, h3, h4, h5, h6, h7] L).length = 8 := block_len _ _ rfl
  obtain ⟨wo, rfl⟩ : ∃ wo : World, wo = wc := ⟨_, rfl⟩
  go_loopw [130] (fun i wr => ∃ k : Nat, k ≤ 8 ∧ i = .int .i64 k ∧ AddRel w b [h0, h1, h2, h3, h4, h5, h6, h7] (block [h0, h1, h2, h3, h4, h5, h6, h7] L) L c k wr) (fun i _ => 8 - (intOf i).toNat)
  case atStart => exact ⟨0, by omega, rfl, _, hR4.s, by rw [List.take_zero, List.take_zero], rfl, hR4.m.mono (fun _ _ h => h.elim)⟩
  case round =>
    obtain ⟨k, hk, rfl, Hp, hSp, htk, hdk, hMp⟩ := hrel
    clear hR4
    have hpl := hSp.hl
    by_cases hlt : k < 8
    · as_aux_lemma =>
      obtain ⟨y, hy⟩ : ∃ y, y = [a, bb, cc, d, e, f, g, h][k]'(by simp; omega) := ⟨_, rfl⟩
      obtain ⟨z, hz⟩ : ∃ z, z = Hp[k]'(by omega) := ⟨_, rfl⟩
      have hz2 : z = [h0, h1, h2, h3, h4, h5, h6, h7][k]'(by simp; omega) := by
        have e1 : (Hp.drop k)[0]? = ([h0, h1, h2, h3, h4, h5, h6, h7].drop k)[0]? := by rw [hdk]
        rw [List.getElem?_drop, List.getElem?_drop, Nat.add_zero, List.getElem?_eq_getElem (by omega), List.getElem?_eq_getElem (by simp; omega)] at e1
        rw [hz]; exact Option.some.inj e1
      obtain ⟨x, hx⟩ : ∃ x, x = (z + y) % 4294967296 := ⟨_, rfl⟩
      have hidx : ∀ w : World, (Instr.index 139 (.agg #[.int .u32 (a : Int), .int .u32 (bb : Int), .int .u32 (cc : Int), .int .u32 (d : Int), .int .u32 (e : Int), .int .u32 (f : Int), .int .u32 (g : Int), .int .u32 (h : Int)]) (.int .i64 (k : Int))).run Tryz.prog w = .ok (.int .u32 (y : Int)) w := fun w => by
        rw [hy]
        exact run_index_nums (P := Tryz.prog) 139 138 8 .u32 [a, bb, cc, d, e, f, g, h] k (by simp; omega) Tryz.underlying139 rfl Tryz.underlying138 (by kernel_rfl) w
      have ck := hSp.word k hlt
      rw [← hz] at ck
      have fk := hSp.froz k
      have l1 : IntKind.u32.wrap ((z : Int) + y) = (x : Int) := by rw [IntKind.wrap_u32, hx]; omega
      have Hr : Hid (AddRel w b [h0, h1, h2, h3, h4, h5, h6, h7] (block [h0, h1, h2, h3, h4, h5, h6, h7] L) L c (k + 1) (wr.setCell ⟨b, k, none⟩ (.int .u32 (x : Int))).drew) := Lib.hid (by
        have hsb := (hSp.setWord k x hlt).kept (Mod.drew (Mod.refl (fun _ => False) _)) (fun h => h)
        refine ⟨_, hsb, ?_, ?_, (hMp.setCell (p := ⟨b, k, none⟩) (fun _ => rfl) _).drew⟩
        · rw [take_set_succ _ _ _ (by omega), htk, List.take_succ_eq_append_getElem (by omega)]
          congr 2
          rw [hx, hz2, hy]
          simp only [Hbl.out, V.list, List.getElem_zipWith]
        · rw [List.drop_set_of_lt (by omega), ← List.drop_drop, hdk, List.drop_drop])
      have ia : (0 : Int) ≤ k := by omega
      have ib : (k : Int) < 8 := by omega
      clear hy hz hz2 hx htk hdk
      go_wp2_with fail
      go_still_tail 11, (by kernel_rfl)
      change wpList _ _ _ _ _ wr.drew
      go_wp2_with fail
      go_roundw
      case rel => exact ⟨k + 1, by omega, by go_num, Hr.out⟩
      case measure => simp [intOf]; omega
    · obtain rfl : k = 8 := by omega
      have hHp : Hp = block [h0, h1, h2, h3, h4, h5, h6, h7] L := by
        rw [List.take_of_length_le (by omega), List.take_of_length_le (by omega)] at htk; exact htk
      rw [hHp] at hSp
      go_wp2_with fail
      go_end0
      exact ⟨rfl, hSp, hMp⟩
end Go.Proofs.YtemnebbdaljfbaaGreatDoor

namespace Go.Proofs.YtemnebbdaljfbaaGreatDoor
open Go.ChangeShapes Go.WideShapes Go.ChangeAt Go.RowKit Go.Deep

theorem cell_block {w : World} {a : Addr} {v : Value} (h : w.cell? a = some v) : a.block < w.heap.size := by
  unfold World.cell? at h
  apply Nat.lt_of_not_le; intro hle
  rw [Array.getElem?_eq_none hle] at h
  simp at h

theorem okWide_array {P : Program} {w : World} {r : Reach} {base : Nat} {t : TypeId} {v : Value} {n : Nat} {e : TypeId} (ht : P.underlying t = some (.array n e)) (h : Value.okWide P w r base t v) : ∃ cs, v = .agg cs ∧ cs.size = P.cellsOf t := by
  unfold Value.okWide at h
  simp only [ht] at h
  cases v <;> simp at h
  exact ⟨_, rfl, h.1⟩

set_option maxRecDepth 20000 in
theorem open_a32 {H : Type} {enc : TypeId × Value → H} {W : World} {base : Nat} {v : Value} {d : DataW H} {ps : List MemPlace} (hval : Value.okWide Tryz.prog W .any base 69 v) (h : DataW.Trod enc Tryz.prog W 0 (fun _ => true) true 69 v d ps) :
    ∃ A : List Nat, v = .agg (nums .u8 A).toArray ∧ A.length = 32 ∧ ∀ x ∈ A, x < 256 := by
  obtain ⟨cs, rfl, _⟩ := okWide_array Tryz.underlying69 hval
  obtain ⟨fuel, hf⟩ := h
  obtain ⟨xs, m, _, _, hl, hx, hi⟩ := DataW.trod_array Tryz.underlying69 hf
  have hc : Tryz.prog.cellsOf 5 = 1 := by kernel_rfl
  have hct : Tryz.prog.cellsOf 69 = 32 := by kernel_rfl
  simp only [Value.cells, hct] at hl
  simp only [Value.cells, hc, Nat.mul_one] at hi
  have hcl : cs.size = 32 := by simpa using hl
  have hj : ∀ i, i < 32 → ∃ s : Nat, cs.toList[i]? = some (.int .u8 (s : Int)) ∧ s < 256 := by
    intro i h32
    have h1 := hi i h32
    rw [List.getElem?_eq_getElem (by omega)] at h1
    obtain ⟨N, hN, _, hw⟩ := DataW.trod_int Tryz.underlying5 h1
    have hb := bounds_u8 hw
    refine ⟨N.toNat, ?_, by omega⟩
    have h2 : cs.toList[i]? = some (.int .u8 N) := by
      have := congrArg (·[0]?) hN
      simpa [List.getElem?_take, List.getElem?_drop] using this
    rw [h2, Int.toNat_of_nonneg hb.1]
  obtain ⟨f, hf2⟩ := choose_lt hj
  refine ⟨(List.range 32).map f, ?_, by simp, ?_⟩
  · congr 1
    apply Array.ext'
    apply List.ext_getElem?
    intro i
    by_cases h32 : i < 32
    · rw [(hf2 i h32).1]; simp [nums, h32]
    · rw [List.getElem?_eq_none (by simp; omega), List.getElem?_eq_none (by simp [nums]; omega)]
  · intro x hx
    obtain ⟨i, hi', rfl⟩ := List.mem_map.1 hx
    exact (hf2 i (List.mem_range.1 hi')).2

set_option maxRecDepth 20000 in
theorem open_texts {H : Type} {enc : TypeId × Value → H} {W : World} {base : Nat} {v : Value} {d : DataW H} {ps : List MemPlace} (hval : Value.okWide Tryz.prog W .any base 27 v) (h : DataW.Trod enc Tryz.prog W 0 (fun _ => true) true 27 v d ps) :
    ∃ ao cap L, v = .slice ao L.length cap ∧ Rd encS W ao L ∧ (∀ s ∈ L, (s.length : Int) ≤ 9223372036854775807) ∧ L.length ≤ 9223372036854775807 ∧ L.length ≤ cap := by
  obtain ⟨a, len, cap, rfl⟩ := okWide_slice Tryz.underlying27 hval
  obtain ⟨fuel, hf⟩ := h
  rcases open_strings Tryz.underlying27 Tryz.underlying9 (by kernel_rfl) hf with ⟨hc, _⟩ | ⟨a', len', cap', ss, hc, _, hl, hm, hss, _, hcell, hsz⟩
  · have hc2 : [Value.slice a len cap] = [Value.slice none 0 0] := hc
    simp only [List.cons.injEq, Value.slice.injEq, and_true] at hc2
    obtain ⟨rfl, rfl, rfl⟩ := hc2
    exact ⟨none, 0, [], rfl, Rd.nil _ _, fun s hs => by simp at hs, Nat.zero_le _, Nat.le_refl _⟩
  · have hc2 : [Value.slice a len cap] = [Value.slice (some a') len' cap'] := hc
    simp only [List.cons.injEq, Value.slice.injEq, and_true] at hc2
    obtain ⟨rfl, rfl, rfl⟩ := hc2
    simp only [if_true] at hss
    have hlen : (ss.take len).length = len := by rw [List.length_take]; omega
    refine ⟨some a', cap, (ss.take len).map (fun (b : ByteArray) => b.data.toList), by rw [List.length_map, hlen], ?_, ?_, ?_, ?_⟩
    · intro j hj
      have hjl : j < len := by rw [List.length_map, hlen] at hj; exact hj
      have hc0 := hcell 0 (by omega)
      obtain ⟨bs, off, spot⟩ := a'
      have hspot : spot = none := by simpa [Addr.add] using World.cell?_spot hc0
      subst hspot
      have hcj := hcell j (by omega)
      refine ⟨bs, off, rfl, cell_block (by simpa [Addr.add_lit] using hcj), fun i u hu => ?_⟩
      have hi0 : i = 0 := by
        have := (List.getElem?_eq_some_iff.1 hu).1
        simp [encS] at this; exact this
      subst hi0
      simp only [encS, List.getElem?_cons_zero, Option.some.injEq] at hu
      subst hu
      have e : (ss.getD j ByteArray.empty) = ⟨(((ss.take len).map (fun (b : ByteArray) => b.data.toList))[j]'hj).toArray⟩ := by
        rw [List.getElem_map, List.getElem_take]
        simp [List.getD, List.getElem?_eq_getElem (show j < ss.length by omega)]
      rw [← e]
      simpa [Addr.add_lit, encS] using hcj
    · intro s hs
      obtain ⟨b, hb, rfl⟩ := List.mem_map.1 hs
      have := hsz b (List.mem_of_mem_take hb)
      unfold maxLen at this
      have e : b.data.toList.length = b.size := rfl
      omega
    · unfold maxLen at hm; rw [List.length_map, hlen]; omega
    · rw [List.length_map, hlen]; exact hl

set_option maxRecDepth 20000 in
theorem tab_of_laid {W : World} (h : laidMetH Tryz.prog [("coxswain/digest.roundWords", Rows.laid_coxswain_digest_roundWords)] W) : TabAt W := by
  have h2 : laidMet Tryz.prog (("coxswain/digest.roundWords", Lib.tabData .u32 (kTab.map fun (x : Nat) => (x : Int))) :: []) W := (laidMetH_iff.1 h).1
  have h3 := Lib.tabIs_of_head (g := 1) (t := 199) (e := 138) (n := 64) (by kernel_rfl) (by kernel_rfl) Tryz.underlying199 Tryz.underlying138 (by kernel_rfl) (by kernel_rfl) h2
  intro i hi
  have hi2 : i < kTab.length := by rw [kTab_len]; exact hi
  have := h3.cell (g := 1) (by kernel_rfl) i (by simpa using hi2)
  rw [this]
  simp [List.getD, hi2]
end Go.Proofs.YtemnebbdaljfbaaGreatDoor

namespace Go.Proofs.YtemnebbdaljfbaaGreatDoor
open Go.RowKit

/-- Block b is a sum that holds the bytes m. -/
structure Holds (w : World) (b : Nat) (m : List Nat) : Prop where
  ex : ∃ L, SumAt w b (absorb m).1 L m.length ∧ L.take (m.length % 64) = (absorb m).2 ∧ ∀ x ∈ L, x < 256
theorem Holds.lt {w : World} {b : Nat} {m : List Nat} (h : Holds w b m) : b < w.heap.size := by obtain ⟨L, hS, _⟩ := h.ex; exact hS.lt
theorem Holds.kept {w w' : World} {b : Nat} {m : List Nat} {S : Nat → Prop} (h : Holds w b m) (hm : Mod S w w') (hb : ¬ S b) : Holds w' b m := by
  obtain ⟨L, hS, h2, h3⟩ := h.ex; exact ⟨L, hS.kept hm hb, h2, h3⟩

set_option maxHeartbeats 1000000 in
set_option maxRecDepth 100000 in
theorem dadd_any (b : Nat) (m : List Nat) (x : Nat) (w : World) (hS : Holds w b m) (hx : x < 256) (hm : m.length < 1099511627776) (hT : TabAt w) (hb : b ≠ 1) :
    Calls Tryz.prog 135 #[.pointer (some ⟨b, 0, none⟩), .int .u8 x] w fun r w' => r = .returned (.tuple #[]) ∧ Holds w' b (m ++ [x]) ∧ Mod (· = b) w w' := by
  obtain ⟨L, hS, hLt, hLb⟩ := hS.ex
  have hbuf := absorb_buf m
  obtain ⟨r, hr⟩ : ∃ r, r = m.length % 64 := ⟨_, rfl⟩
  rw [← hr] at hLt hbuf
  obtain ⟨n, hn⟩ : ∃ n, n = m.length := ⟨_, rfl⟩
  rw [← hn] at hS hm hr
  have e1 : (n : Int) % 64 = (r : Int) := by omega
  have hr64 : r < 64 := by omega
  have e64 := hS.ll
  have cc := hS.cnt
  have cb := hS.byte r hr64
  have f1 := hS.froz (8 + r)
  have f2 := hS.froz 72
  have hS1 : SumAt ((w.setCell ⟨b, 8 + r, none⟩ (.int .u8 (x : Int))).setCell ⟨b, 72, none⟩ (.int .u64 ((n : Int) + 1))).drew b (absorb m).1 (L.set r x) (n + 1) := ((hS.setByte r x hr64).setCnt (n + 1)).kept (Mod.drew (Mod.refl (fun _ => False) _)) (fun h => h)
  have hM1 : Mod (· = b) w ((w.setCell ⟨b, 8 + r, none⟩ (.int .u8 (x : Int))).setCell ⟨b, 72, none⟩ (.int .u64 ((n : Int) + 1))).drew := (((Mod.refl (· = b) _).setCell (p := ⟨b, 8 + r, none⟩) (fun _ => rfl) _).setCell (p := ⟨b, 72, none⟩) (fun _ => rfl) _).drew
  have hT1 := hT.kept hM1 (by omega)
  have hLb1 : ∀ y ∈ L.set r x, y < 256 := by
    intro y hy
    rcases List.mem_or_eq_of_mem_set hy with h | h
    · exact hLb y h
    · rw [h]; exact hx
  have hLt1 : (L.set r x).take (r + 1) = (absorb m).2 ++ [x] := by rw [take_set_succ _ _ _ (by omega), hLt]
  obtain ⟨y, hy⟩ : ∃ y, y = L[r]'(by omega) := ⟨_, rfl⟩
  rw [← hy] at cb
  have Hr := Lib.hid hr
  have Hn := Lib.hid hn
  have i0 : (0 : Int) ≤ r := by omega
  have i1 : (r : Int) < 64 := by omega
  have H1 := absorb_words m
  have Hlt := absorb_lt m
  have hsn := absorb_snoc m x
  have HS1 := Lib.hid hS1
  have HM1 := Lib.hid hM1
  have HL1 := Lib.hid hLt1
  have Hsn := Lib.hid hsn
  have Hbuf := Lib.hid hbuf
  clear hr hn hy hS1 hM1 hLt1 hsn hLt hS hbuf
  have n0 : (0 : Int) ≤ n := by omega
  have e1t : (n : Int).tmod 64 = (r : Int) := by rw [Int.tmod_eq_emod_of_nonneg n0]; exact e1
  have ne72 : ¬ 8 + r = 72 := by omega
  by_cases h63 : r = 63
  · have z : (((n : Int) + 1) % 64 == 0) = true := by rw [beq_iff_eq]; omega
    have H63 := Lib.hid h63
    clear h63 e1 hT
    go_enter Tryz.func135, Tryz.ntmps135
    go_wp2_with fail
    go_still_tail 10, (by kernel_rfl)
    change wpList _ _ _ _ _ w.drew
    go_wp2_with fail
    refine (mix_any b _ _ (n + 1) _ HS1.out hLb1 Hlt hT1).mono ?_
    rintro e w1 ⟨rfl, hS2, hM2⟩
    have hfin : Holds w1 b (m ++ [x]) ∧ Mod (· = b) w w1 := by
      refine ⟨⟨L.set r x, ?_, ?_, hLb1⟩, HM1.out.trans hM2 (fun _ _ h => h)⟩
      · rw [Hsn.out, absorb1, if_pos (by rw [Hbuf.out, H63.out]), List.length_append, List.length_singleton, ← Hn.out]
        have e : L.set r x = (absorb m).2 ++ [x] := by rw [← HL1.out, List.take_of_length_le (by simp; have := H63.out; omega)]
        rw [← e]; exact hS2
      · rw [Hsn.out, absorb1, if_pos (by rw [Hbuf.out, H63.out])]
        have : (m ++ [x]).length % 64 = 0 := by have h1 := H63.out; have h2 := Hr.out; have h3 := Hn.out; simp; omega
        rw [this]; rfl
    have Hf := Lib.hid hfin
    clear hfin hS2 hM2
    go_wp2_with fail
    go_end0
    exact ⟨rfl, Hf.out⟩
  · have z : (((n : Int) + 1) % 64 == 0) = false := by rw [beq_eq_false_iff_ne]; omega
    have H63 := Lib.hid h63
    clear h63 e1 hT
    have hfin : Holds ((w.setCell ⟨b, 8 + r, none⟩ (.int .u8 (x : Int))).setCell ⟨b, 72, none⟩ (.int .u64 ((n : Int) + 1))).drew b (m ++ [x]) := by
      refine ⟨L.set r x, ?_, ?_, hLb1⟩
      · rw [Hsn.out, absorb1, if_neg (by rw [Hbuf.out]; have := H63.out; omega), List.length_append, List.length_singleton, ← Hn.out]
        exact HS1.out
      · rw [Hsn.out, absorb1, if_neg (by rw [Hbuf.out]; have := H63.out; omega)]
        have : (m ++ [x]).length % 64 = r + 1 := by have h1 := H63.out; have h2 := Hr.out; have h3 := Hn.out; simp; omega
        rw [this]; exact HL1.out
    have Hf := Lib.hid hfin
    clear hfin
    go_enter Tryz.func135, Tryz.ntmps135
    go_wp2_with fail
    go_still_tail 10, (by kernel_rfl)
    change wpList _ _ _ _ _ w.drew
    go_wp2_with fail
    go_end0
    exact ⟨rfl, Hf.out, HM1.out⟩
end Go.Proofs.YtemnebbdaljfbaaGreatDoor

namespace Go.Proofs.YtemnebbdaljfbaaGreatDoor
open Go.RowKit

set_option maxHeartbeats 1000000 in
theorem dtext_any (b : Nat) (m : List Nat) (s : List UInt8) (w : World) (hS : Holds w b m) (hm : m.length + s.length ≤ 549755813888) (hT : TabAt w) (hb : b ≠ 1) :
    Calls Tryz.prog 105 #[.pointer (some ⟨b, 0, none⟩), .string ⟨s.toArray⟩] w fun r w' => r = .returned (.tuple #[]) ∧ Holds w' b (m ++ nats s) ∧ Mod (· = b) w w' := by
  go_enter Tryz.func105, Tryz.ntmps105
  go_wp2_with fail
  go_loopw [7] (fun i wr => ∃ k : Nat, k ≤ s.length ∧ i = .int .i64 k ∧ Holds wr b (m ++ nats (s.take k)) ∧ Mod (· = b) w wr) (fun i _ => s.length - (intOf i).toNat)
  case atStart => exact ⟨0, by omega, rfl, by simpa [nats] using hS, Mod.refl _ _⟩
  case round =>
    obtain ⟨k, hk, rfl, hR, hM⟩ := hrel
    by_cases hlt : k < s.length
    · obtain ⟨x, hxe⟩ : ∃ x, x = s[k] := ⟨_, rfl⟩
      have hg : ∀ h' : k < (ByteArray.mk s.toArray).size, (ByteArray.mk s.toArray)[k] = x := fun _ => by rw [hxe]; rfl
      have hx := (s[k]).toNat_lt
      have hn := nats_take_succ s k hlt
      rw [← hxe] at hx hn
      have Hn := Lib.hid hn
      have hl : (m ++ nats (s.take k)).length < 1099511627776 := by rw [List.length_append, nats_len, List.length_take]; omega
      have hTr := hT.kept hM (by omega)
      clear hn hxe
      go_wp2_with fail
      refine (dadd_any b _ x.toNat wr hR hx hl hTr hb).mono ?_
      rintro e w1 ⟨rfl, hR1, hM1⟩
      rw [List.append_assoc, ← Hn.out] at hR1
      go_wp2_with fail
      go_roundw
      case rel => exact ⟨k + 1, by omega, by go_num, hR1, hM.trans hM1 (fun _ _ h => h)⟩
      case measure => simp [intOf]; omega
    · obtain rfl : k = s.length := by omega
      go_wp2_with fail
      go_end0
      rw [List.take_length] at hR
      exact ⟨rfl, hR, hM⟩

set_option maxHeartbeats 1000000 in
theorem pad_any (b : Nat) (m : List Nat) (w : World) (hS : Holds w b m) (hm : m.length ≤ 549755813888) (hT : TabAt w) (hb : b ≠ 1) :
    Calls Tryz.prog 106 #[.pointer (some ⟨b, 0, none⟩)] w fun r w' => r = .returned (.tuple #[]) ∧ Holds w' b (padded m) ∧ Mod (· = b) w w' := by
  obtain ⟨L0, hS0, _⟩ := hS.ex
  have cc := hS0.cnt
  obtain ⟨n, hn⟩ : ∃ n, n = m.length := ⟨_, rfl⟩
  rw [← hn] at cc hm
  have n0 : (0 : Int) ≤ n := by omega
  have Hn := Lib.hid hn
  clear hS0 hn
  go_enter Tryz.func106, Tryz.ntmps106
  go_wp2_with fail
  refine (dadd_any b m 128 w hS (by decide) (by rw [← Hn.out]; omega) hT hb).mono ?_
  rintro e w1 ⟨rfl, hR1, hM1⟩
  clear hS cc
  go_wp2_with fail
  go_loopg [] (zeros n) (fun g wr => ∃ j, j + g = zeros n ∧ Holds wr b (m ++ [128] ++ List.replicate j 0) ∧ Mod (· = b) w wr)
  case atStart => exact ⟨0, by omega, by simpa using hR1, hM1⟩
  case round =>
    clear hR1 hM1
    obtain ⟨j, hj, hR, hM⟩ := hrel
    obtain ⟨L, hSr, _⟩ := hR.ex
    have cc := hSr.cnt
    have hlen : (m ++ [128] ++ List.replicate j 0).length = n + 1 + j := by simp [← Hn.out]; omega
    rw [hlen] at cc
    have hz : zeros n = (119 - n % 64) % 64 := rfl
    have hTr := hT.kept hM (by omega)
    obtain ⟨c, hc⟩ : ∃ c, c = n + 1 + j := ⟨_, rfl⟩
    rw [← hc] at cc
    have c0 : (0 : Int) ≤ c := by omega
    by_cases hlt : 0 < gk
    · have t : ((c : Int) % 64 != 56) = true := by rw [bne_iff_ne]; omega
      have Hj := Lib.hid hj
      have Hc := Lib.hid hc
      have Hz := Lib.hid hz
      have Hl := Lib.hid hlen
      have hjn : j < 64 := by omega
      clear hj hc hz hlen hSr
      go_wp2_with fail
      refine (dadd_any b _ 0 wr hR (by decide) (by rw [Hl.out]; omega) hTr hb).mono ?_
      rintro e w2 ⟨rfl, hR2, hM2⟩
      rw [List.append_assoc, ← List.replicate_succ'] at hR2
      go_wp2_with fail
      go_roundg (gk - 1)
      case measure => omega
      case rel => exact ⟨j + 1, by have := Hj.out; omega, hR2, hM.trans hM2 (fun _ _ h => h)⟩
    · have t : ((c : Int) % 64 != 56) = false := by rw [bne_eq_false_iff_eq]; omega
      have hjz : j = zeros n := by omega
      rw [hjz] at hR
      clear hj hc hz hlen hSr hjz
      go_wp2_with fail
      obtain ⟨wo, rfl⟩ : ∃ wo : World, wo = wr := ⟨_, rfl⟩
      go_loopw [19] (fun i wr => ∃ k : Nat, k ≤ 8 ∧ i = .int .i64 k ∧ Holds wr b (m ++ [128] ++ List.replicate (zeros n) 0 ++ lenBytes n k) ∧ Mod (· = b) w wr) (fun i _ => 8 - (intOf i).toNat)
      case atStart => exact ⟨0, by omega, rfl, by simpa [lenBytes] using hR, hM⟩
      case round =>
        clear hR hM hTr cc
        obtain ⟨k, hk, rfl, hR, hM⟩ := hrel
        have hTr := hT.kept hM (by omega)
        by_cases hlt : k < 8
        · have hl : (m ++ [128] ++ List.replicate (zeros n) 0 ++ lenBytes n k).length < 1099511627776 := by
            have : zeros n < 64 := Nat.mod_lt _ (by decide)
            simp [← Hn.out, lenBytes_len]; omega
          obtain ⟨s, hs⟩ : ∃ s : Nat, s = 7 - k := ⟨_, rfl⟩
          have e2 : (7 : Int) - k = (s : Int) := by omega
          obtain ⟨c, hcs⟩ : ∃ c : Nat, c = 8 * s := ⟨_, rfl⟩
          have e3 : 8 * (s : Int) = (c : Int) := by omega
          have hc64 : c ≤ 64 := by omega
          have e4 : IntKind.u8.wrap ((n : Int) * 8 / 2 ^ c) = ((n * 8 / 2 ^ c % 256 : Nat) : Int) := by
            rw [IntKind.wrap_u8, Int.natCast_emod, Int.natCast_ediv, Int.natCast_pow]; rfl
          have Hcs : Hid (c = 8 * (7 - k)) := Lib.hid (by omega)
          clear hs hcs
          go_wp2_with fail
          refine (dadd_any b _ (n * 8 / 2 ^ c % 256) wr hR (Nat.mod_lt _ (by decide)) hl hTr hb).mono ?_
          rintro e w2 ⟨rfl, hR2, hM2⟩
          rw [List.append_assoc _ _ [_], Hcs.out, ← lenBytes_succ] at hR2
          go_wp2_with fail
          go_roundw
          case rel => exact ⟨k + 1, by omega, by go_num, hR2, hM.trans hM2 (fun _ _ h => h)⟩
          case measure => simp [intOf]; omega
        · obtain rfl : k = 8 := by omega
          go_wp2_with fail
          go_end0
          exact ⟨rfl, by unfold padded; rw [← Hn.out]; exact hR, hM⟩

set_option maxHeartbeats 1000000 in
set_option maxRecDepth 100000 in
theorem begin_any (w : World) :
    Calls Tryz.prog 104 #[] w fun r w' => r = .returned (.agg (sumCells hTab (List.replicate 64 0) 0)) ∧ Mod (fun _ => False) w w' := by
  have hz : ∀ w : World, (zeroValue 142).run Tryz.prog w = .ok (.agg (sumCells (List.replicate 8 0) (List.replicate 64 0) 0)) w := fun _ => by kernel_rfl
  go_enter Tryz.func104, Tryz.ntmps104
  go_wp2_with (refine wpList_store_row rfl rfl 142 (.tmp 0) (.tmp 2) rfl w.heap.size rfl 142 (sumCells (List.replicate 8 0) (List.replicate 64 0) 0) (sumCells hTab (List.replicate 64 0) 0) rfl (heap_alloc_new _ _) rfl (by kernel_rfl) ?s4 ?_)
  case s4 =>
    intro v hv
    simp only [sumCells, List.mem_append, List.mem_singleton] at hv
    rcases hv with (h | h) | h
    · exact nums_one _ _ v h
    · exact nums_one _ _ v h
    · rw [h]; rfl
  generalize hW1 : (w.alloc _).setRow w.heap.size _ = W1
  have hM : Mod (fun _ => False) w W1 := by rw [← hW1]; exact (((Mod.refl (fun _ => False) _).alloc _).setRow (g := w.heap.size) _).drop_new (Nat.le_refl _)
  have hg : W1.heap[w.heap.size]? = some (.cells (sumCells hTab (List.replicate 64 0) 0) 142 (0, 0)) := by rw [← hW1]; exact setRow_heap _ _ _ _ _ _ (heap_alloc_new _ _)
  clear hW1
  go_wp2_with fail
  exact bodyPost_ret (v := .agg (sumCells hTab (List.replicate 64 0) 0)) (results_cell_row Tryz.results104 _ _ w.heap.size 142 _ (0, 0) _ rfl hg Tryz.underlying142 rfl (by kernel_rfl)) rfl ⟨rfl, hM⟩
end Go.Proofs.YtemnebbdaljfbaaGreatDoor

namespace Go.Proofs.YtemnebbdaljfbaaGreatDoor
open Go.RowKit

/-- v is a slice of the texts ss. -/
def StrsAt (w : World) (v : Value) (ss : List (List UInt8)) : Prop :=
  ∃ ao cap, v = .slice ao ss.length cap ∧ ∀ j (h : j < ss.length), ∃ bs off, ao = some ⟨bs, off, none⟩ ∧ bs < w.heap.size ∧ w.cell? ⟨bs, off + j, none⟩ = some (.string ⟨(ss[j]).toArray⟩)

def OutRel (w : World) (M : Nat) (H : List Nat) (k : Nat) : Prop := ∃ A, RowAt .u8 70 w M A ∧ A.length = 32 ∧ A.take k = outTo H k

theorem holds_nil {w : World} {b : Nat} (h : w.heap[b]? = some (.cells (sumCells hTab (List.replicate 64 0) 0) 142 (0, 0))) : Holds w b [] :=
  ⟨List.replicate 64 0, ⟨h, rfl, by simp⟩, rfl, fun x hx => by rw [List.eq_of_mem_replicate hx]; decide⟩

theorem flat_take_succ (ss : List (List UInt8)) (k : Nat) (h : k < ss.length) : (ss.take (k + 1)).flatten = (ss.take k).flatten ++ ss[k] := by
  rw [List.take_succ_eq_append_getElem h, List.flatten_append, List.flatten_cons, List.flatten_nil, List.append_nil]
theorem flat_take_len (ss : List (List UInt8)) (k : Nat) : (ss.take k).flatten.length ≤ ss.flatten.length := by
  have h : ss.flatten = (ss.take k).flatten ++ (ss.drop k).flatten := by rw [← List.flatten_append, List.take_append_drop]
  rw [h]; simp

set_option maxHeartbeats 1000000 in
set_option maxRecDepth 100000 in
theorem dof_any (v : Value) (ss : List (List UInt8)) (w : World) (hv : StrsAt w v ss) (hl : ss.flatten.length ≤ 274877906944) (hn : (ss.length : Int) ≤ 1099511627776) (hT : TabAt w) :
    Calls Tryz.prog 75 #[v] w fun r w' => r = .returned (.agg (nums .u8 (sha (nats ss.flatten))).toArray) ∧ Mod (fun _ => False) w w' := by
  obtain ⟨ao, cap, rfl, hcell⟩ := hv
  have Hcell := Lib.hid hcell
  clear hcell
  have hz : ∀ w : World, (zeroValue 142).run Tryz.prog w = .ok (.agg (sumCells (List.replicate 8 0) (List.replicate 64 0) 0)) w := fun _ => by kernel_rfl
  have hz2 : ∀ w : World, (zeroValue 70).run Tryz.prog w = .ok (.agg (nums .u8 (List.replicate 32 0)).toArray) w := fun _ => by kernel_rfl
  have hw0 := hT.lt
  go_enter Tryz.func75, Tryz.ntmps75
  go_wp2_with fail
  generalize hW1 : w.alloc _ = W1
  have hR1 : RowAt .u8 70 W1 w.heap.size (List.replicate 32 0) := by rw [← hW1]; exact heap_alloc_new _ _
  have hM1 : Mod (fun _ => False) w W1 := by rw [← hW1]; exact (Mod.refl _ _).alloc _
  have hs1 : w.heap.size < W1.heap.size := hR1.lt
  clear hW1
  refine (begin_any W1).mono ?_
  rintro r w2 ⟨rfl, hM2⟩
  have hR2 := hR1.kept hM2 (fun h => h)
  have hs2 := hM2.size
  have hM2' := hM1.trans hM2 (fun _ _ h => h)
  clear hR1 hM1 hM2
  go_wp2_with (refine wpList_store_row rfl rfl 142 (.tmp 3) (.tmp 8) rfl w2.heap.size rfl 142 (sumCells (List.replicate 8 0) (List.replicate 64 0) 0) (sumCells hTab (List.replicate 64 0) 0) rfl (heap_alloc_new _ _) rfl (by kernel_rfl) ?s4 ?_)
  case s4 =>
    intro v hv
    simp only [sumCells, List.mem_append, List.mem_singleton] at hv
    rcases hv with (h | h) | h
    · exact nums_one _ _ v h
    · exact nums_one _ _ v h
    · rw [h]; rfl
  generalize hW3 : (w2.alloc _).setRow w2.heap.size _ = W3
  have hM3 : Mod (fun _ => False) w2 W3 := by rw [← hW3]; exact (((Mod.refl (fun _ => False) _).alloc _).setRow (g := w2.heap.size) _).drop_new (Nat.le_refl _)
  have hH3 : Holds W3 w2.heap.size [] := holds_nil (by rw [← hW3]; exact setRow_heap _ _ _ _ _ _ (heap_alloc_new _ _))
  have hR3 := hR2.kept hM3 (fun h => h)
  have hM3' := hM2'.trans hM3 (fun _ _ h => h)
  clear hW3 hM3 hR2 hM2'
  obtain ⟨B, hB⟩ : ∃ B, B = w2.heap.size := ⟨_, rfl⟩
  rw [← hB] at hH3 hs2 ⊢
  have hBw : w.heap.size < B := by omega
  clear hB hs2 hs1
  go_loopw [11] (fun i wr => ∃ k : Nat, k ≤ ss.length ∧ i = .int .i64 k ∧ Holds wr B (nats (ss.take k).flatten) ∧ RowAt .u8 70 wr w.heap.size (List.replicate 32 0) ∧ Mod (fun _ => False) w wr) (fun i _ => ss.length - (intOf i).toNat)
  case atStart => exact ⟨0, by omega, rfl, hH3, hR3, hM3'⟩
  case round =>
    clear hH3 hR3 hM3'
    obtain ⟨k, hk, rfl, hH, hR, hM⟩ := hrel
    by_cases hlt : k < ss.length
    · obtain ⟨bs, off, rfl, hbs, hc⟩ := Hcell.out k hlt
      have hcr : wr.cell? ⟨bs, off + k, none⟩ = _ := (World.cell?_of_block (hM.block bs hbs (fun h => h))).trans hc
      have hfl := flat_take_succ ss k hlt
      have hle := flat_take_len ss (k + 1)
      obtain ⟨s, hs⟩ : ∃ s, s = ss[k] := ⟨_, rfl⟩
      rw [← hs] at hfl hcr
      rw [hfl] at hle
      have hTr := hT.kept hM (fun h => h)
      have Hfl := Lib.hid hfl
      have hlen : (nats (ss.take k).flatten).length + s.length ≤ 549755813888 := by rw [nats_len]; simp only [List.length_append] at hle; omega
      clear hc hfl hle hs
      go_wp2_with fail
      refine (dtext_any B _ s wr hH hlen hTr (by omega)).mono ?_
      rintro e w4 ⟨rfl, hH4, hM4⟩
      rw [← nats_app, ← Hfl.out] at hH4
      have hR4 := hR.kept hM4 (by omega)
      have hM5 := hM.trans hM4 (T := (· = B)) (by intro i hi h; omega)
      go_wp2_with fail
      go_roundw
      case rel => exact ⟨k + 1, by omega, by go_num, hH4, hR4, hM5⟩
      case measure => simp [intOf]; omega
    · obtain rfl : k = ss.length := by omega
      rw [List.take_length] at hH
      have hlen : (nats ss.flatten).length ≤ 549755813888 := by rw [nats_len]; omega
      have hTr := hT.kept hM (fun h => h)
      go_wp2_with fail
      refine (pad_any B _ wr hH hlen hTr (by omega)).mono ?_
      rintro e w4 ⟨rfl, hH4, hM4⟩
      have hR4 := hR.kept hM4 (by omega)
      have hM5 := hM.trans hM4 (T := (· = B)) (by intro i hi h; omega)
      clear hH hR hM hTr hlen hM4
      obtain ⟨L, hS4, _⟩ := hH4.ex
      have hsz4 := hM5.size
      obtain ⟨HH, hHH⟩ : ∃ HH, HH = (absorb (padded (nats ss.flatten))).1 := ⟨_, rfl⟩
      rw [← hHH] at hS4
      have hsha : sha (nats ss.flatten) = outTo HH 32 := by rw [hHH]; rfl
      have Hsha := Lib.hid hsha
      clear hH4 hHH hsha Hcell
      go_wp2_with fail
      generalize hW5 : w4.alloc _ = W5
      have hM6 : Mod (fun _ => False) w4 W5 := by rw [← hW5]; exact (Mod.refl _ _).alloc _
      have hR6 : RowAt .u8 70 W5 w4.heap.size (List.replicate 32 0) := by rw [← hW5]; exact heap_alloc_new _ _
      have hS6 := hS4.kept hM6 (fun h => h)
      have hR7 := hR4.kept hM6 (fun h => h)
      have hM7 := hM5.trans hM6 (fun _ _ h => h)
      have hBlt := hS4.lt
      have hNlt := hR4.lt
      obtain ⟨M, hM⟩ : ∃ M, M = w4.heap.size := ⟨_, rfl⟩
      rw [← hM] at hR6 hBlt hNlt ⊢
      have hMw : w.heap.size ≤ M := by omega
      clear hW5 hM6 hS4 hR4 hM5 hM hsz4
      obtain ⟨wo, rfl⟩ : ∃ wo : World, wo = wr := ⟨_, rfl⟩
      go_loopw [19] (fun i wr => ∃ k : Nat, k ≤ 32 ∧ i = .int .i64 k ∧ SumAt wr B HH L (padded (nats ss.flatten)).length ∧ RowAt .u8 70 wr w.heap.size (List.replicate 32 0) ∧ Mod (fun _ => False) w wr ∧ OutRel wr M HH k) (fun i _ => 32 - (intOf i).toNat)
      case atStart => exact ⟨0, by omega, rfl, hS6, hR7, hM7, _, hR6, by simp, by rw [List.take_zero]; rfl⟩
      case round =>
        clear hS6 hR7 hM7 hR6
        obtain ⟨k, hk, rfl, hS, hR, hM, A, hRA, hA, hAt⟩ := hrel
        by_cases hlt : k < 32
        · have hhl := hS.hl
          obtain ⟨h, hh⟩ : ∃ h, h = HH[k / 4]'(by omega) := ⟨_, rfl⟩
          have ch := hS.word (k / 4) (by omega)
          rw [← hh] at ch
          obtain ⟨c, hc⟩ : ∃ c : Nat, c = 8 * (3 - k % 4) := ⟨_, rfl⟩
          have a1 : (0 : Int) ≤ (k : Int) / 4 := by omega
          have a2 : (k : Int) / 4 < 8 := by omega
          have a3 : ((k : Int) / 4).toNat = k / 4 := by omega
          have a4 : 8 * (3 - (k : Int) % 4) = (c : Int) := by omega
          have hc64 : c ≤ 64 := by omega
          have a5 : IntKind.u8.wrap ((h : Int) / 2 ^ c) = ((h / 2 ^ c % 256 : Nat) : Int) := by
            rw [IntKind.wrap_u8, Int.natCast_emod, Int.natCast_ediv, Int.natCast_pow]; rfl
          have ck := hRA.cell k (by omega)
          have fk := hRA.froz k
          obtain ⟨y, hy⟩ : ∃ y, y = A[k]'(by omega) := ⟨_, rfl⟩
          rw [← hy] at ck
          have i0 : (0 : Int) ≤ k := by omega
          have i1 : (k : Int) < 32 := by omega
          have Hr : Hid (SumAt (wr.setCell ⟨M, k, none⟩ (.int .u8 ((h / 2 ^ c % 256 : Nat) : Int))) B HH L (padded (nats ss.flatten)).length ∧ RowAt .u8 70 (wr.setCell ⟨M, k, none⟩ (.int .u8 ((h / 2 ^ c % 256 : Nat) : Int))) w.heap.size (List.replicate 32 0) ∧
              Mod (fun _ => False) w (wr.setCell ⟨M, k, none⟩ (.int .u8 ((h / 2 ^ c % 256 : Nat) : Int))) ∧ OutRel (wr.setCell ⟨M, k, none⟩ (.int .u8 ((h / 2 ^ c % 256 : Nat) : Int))) M HH (k + 1)) := Lib.hid (by
            have hm : Mod (· = M) wr (wr.setCell ⟨M, k, none⟩ (.int .u8 ((h / 2 ^ c % 256 : Nat) : Int))) := (Mod.refl (· = M) _).setCell (p := ⟨M, k, none⟩) (fun _ => rfl) _
            refine ⟨hS.kept hm (by omega), hR.kept hm (by omega), hM.trans hm (by intro i hi h; omega), _, hRA.set k _, by simpa using hA, ?_⟩
            rw [take_set_succ _ _ _ (by omega), hAt, outTo_succ, getD_at _ _ (by omega), ← hh, ← hc])
          clear hh hc hy hS hR hM hRA hAt
          go_wp2_with fail
          go_roundw
          case rel => exact ⟨k + 1, by omega, by go_num, Hr.out.1, Hr.out.2.1, Hr.out.2.2.1, Hr.out.2.2.2⟩
          case measure => simp [intOf]; omega
        · obtain rfl : k = 32 := by omega
          have hAe : A = sha (nats ss.flatten) := by rw [Hsha.out, ← hAt, List.take_of_length_le (by omega)]
          obtain ⟨Z, hZ⟩ : ∃ Z, Z = sha (nats ss.flatten) := ⟨_, rfl⟩
          rw [hAe, ← hZ] at hRA hA
          have h1 := nums_one .u8 Z
          have hM2 : Mod (fun _ => False) w (wr.setRow w.heap.size (nums .u8 Z).toArray) := (hM.setRow (g := w.heap.size) _).drop_new (Nat.le_refl _)
          have hg2 := setRow_heap wr w.heap.size _ (nums .u8 Z).toArray _ _ hR
          have HZ := Lib.hid hZ
          have HM2 := Lib.hid hM2
          have Hg2 := Lib.hid hg2
          clear hZ hM2 hg2 hAt hAe hS hM
          go_wp2_with (first | (refine wpList_load_row rfl 70 (.tmp 6) rfl M rfl 70 (nums .u8 Z).toArray (0, 0) _ hRA Tryz.underlying70 rfl ?s1 ?_) | (refine wpList_store_row rfl rfl 70 (.tmp 2) (.tmp 36) rfl w.heap.size rfl 70 (nums .u8 (List.replicate 32 0)).toArray (nums .u8 Z).toArray rfl hR ?s2 ?s3 ?s4 ?_))
          case s1 => rw [List.size_toArray, nums_len, hA]; kernel_rfl
          case s2 => simp [nums_len, hA]
          case s3 => rw [List.size_toArray, nums_len, hA]; kernel_rfl
          case s4 => simpa using h1
          refine bodyPost_ret (v := .agg (nums .u8 Z).toArray) (results_cell_row Tryz.results75 _ _ w.heap.size 70 (nums .u8 Z).toArray (0, 0) _ rfl Hg2.out Tryz.underlying70 rfl ?_) rfl ⟨by rw [← HZ.out], HM2.out⟩
          rw [List.size_toArray, nums_len, hA]; kernel_rfl
end Go.Proofs.YtemnebbdaljfbaaGreatDoor

namespace Go.Proofs.YtemnebbdaljfbaaGreatDoor
open Go.RowKit

/-- The letter of a digit. -/
def hexd (n : Nat) : Nat := if n < 10 then 48 + n else 87 + n
def hexs (A : List Nat) : List Nat := A.flatMap fun x => [hexd (x / 16), hexd (x % 16)]
theorem hexs_len (A : List Nat) : (hexs A).length = 2 * A.length := by
  induction A with
  | nil => rfl
  | cons x l ih =>
    have h : hexs (x :: l) = [hexd (x / 16), hexd (x % 16)] ++ hexs l := rfl
    rw [h, List.length_append, ih]; simp; omega
theorem hexs_snoc (A : List Nat) (x : Nat) : hexs (A ++ [x]) = hexs A ++ [hexd (x / 16), hexd (x % 16)] := by simp [hexs]
theorem hexd_lt (n : Nat) (h : n < 16) : hexd n < 256 := by unfold hexd; split <;> omega

def bytesOf (A : List Nat) : ByteArray := ⟨(A.map UInt8.ofNat).toArray⟩

theorem digits_at (n : Nat) (h : n < 16) (w : World) :
    (Instr.index 9 (.string ⟨#[48, 49, 50, 51, 52, 53, 54, 55, 56, 57, 97, 98, 99, 100, 101, 102]⟩) (.int .u8 (n : Int))).run Tryz.prog w = .ok (.int .u8 (hexd n : Int)) w := by
  have hn : n = 0 ∨ n = 1 ∨ n = 2 ∨ n = 3 ∨ n = 4 ∨ n = 5 ∨ n = 6 ∨ n = 7 ∨ n = 8 ∨ n = 9 ∨ n = 10 ∨ n = 11 ∨ n = 12 ∨ n = 13 ∨ n = 14 ∨ n = 15 := by omega
  rcases hn with rfl | rfl | rfl | rfl | rfl | rfl | rfl | rfl | rfl | rfl | rfl | rfl | rfl | rfl | rfl | rfl <;> (refine Eq.trans ?_ rfl; kernel_rfl)

theorem low4 (x : Nat) (h : x < 256) : bits BinOp.and IntKind.u8 (x : Int) 15 = ((x % 16 : Nat) : Int) := by
  rw [show (15 : Int) = ((15 : Nat) : Int) from rfl, u8_and_nat _ _ h (by omega), Nat.and_two_pow_sub_one_eq_mod _ 4]

theorem take_set_two (T : List Nat) (k x y : Nat) (h : k + 1 < T.length) : ((T.set k x).set (k + 1) y).take (k + 2) = T.take k ++ [x, y] := by
  rw [show k + 2 = (k + 1) + 1 from rfl, take_set_succ _ _ _ (by simpa using h), take_set_succ _ _ _ (by omega)]; simp

def HexRel (M : Nat) (A : List Nat) (k : Nat) (wr : World) : Prop :=
  ∃ T, RowAt .u8 140 wr M T ∧ T.length = 64 ∧ T.take (2 * k) = hexs (A.take k)

end Go.Proofs.YtemnebbdaljfbaaGreatDoor

namespace Go.Proofs.YtemnebbdaljfbaaGreatDoor
open Go.RowKit

theorem outTo_lt (H : List Nat) (k : Nat) : ∀ x ∈ outTo H k, x < 256 := by
  intro x hx
  obtain ⟨i, _, rfl⟩ := List.mem_map.1 hx
  exact Nat.mod_lt _ (by decide)
theorem sha_lt (m : List Nat) : ∀ x ∈ sha m, x < 256 := outTo_lt _ _

theorem bytesOf_size (A : List Nat) : (bytesOf A).size = A.length := by simp [bytesOf, ByteArray.size]

end Go.Proofs.YtemnebbdaljfbaaGreatDoor

namespace Go.Proofs.YtemnebbdaljfbaaGreatDoor

def beBytes (n : Nat) : List UInt8 := if n = 0 then [] else beBytes (n / 256) ++ [UInt8.ofNat (n % 256)]
termination_by n
decreasing_by omega

theorem beBytes_zero : beBytes 0 = [] := by rw [beBytes]; simp
theorem beBytes_pos (n : Nat) (h : 0 < n) : beBytes n = beBytes (n / 256) ++ [UInt8.ofNat (n % 256)] := by
  rw [beBytes]; simp [show n ≠ 0 by omega]
theorem beBytes_len (k : Nat) : ∀ n, n < 256 ^ k → (beBytes n).length ≤ k := by
  induction k with
  | zero => intro n h; simp at h; subst h; simp [beBytes_zero]
  | succ k ih =>
    intro n h
    by_cases h0 : 0 < n
    · rw [beBytes_pos n h0]
      have := ih (n / 256) (by rw [Nat.pow_succ] at h; omega)
      simp; omega
    · obtain rfl : n = 0 := by omega
      simp [beBytes_zero]

/-- The first k of the L bytes of n. -/
def digs (n L k : Nat) : List UInt8 := (List.range k).map fun i => UInt8.ofNat (n / 2 ^ (8 * (L - 1 - i)))
theorem digs_succ (n L k : Nat) : digs n L (k + 1) = digs n L k ++ [UInt8.ofNat (n / 2 ^ (8 * (L - 1 - k)))] := by
  simp [digs, List.range_succ]
theorem digs_len (n L k : Nat) : (digs n L k).length = k := by simp [digs]

theorem digs_up (n L : Nat) (k : Nat) (hk : k ≤ L) : digs (n / 256) L k = digs n (L + 1) k := by
  unfold digs
  apply List.map_congr_left
  intro i hi
  have hi' : i < k := List.mem_range.1 hi
  rw [Nat.div_div_eq_div_mul, show L + 1 - 1 - i = (L - 1 - i) + 1 by omega, Nat.mul_add, Nat.pow_add, Nat.mul_comm (2 ^ _)]

theorem ofNat_mod (n : Nat) : UInt8.ofNat (n % 256) = UInt8.ofNat n := by
  apply UInt8.toNat_inj.1; simp

theorem digs_be (L : Nat) : ∀ n, (beBytes n).length = L → digs n L L = beBytes n := by
  induction L with
  | zero => intro n h; rw [List.length_eq_zero_iff.1 h]; rfl
  | succ L ih =>
    intro n h
    by_cases h0 : 0 < n
    · rw [beBytes_pos n h0] at h ⊢
      simp at h
      rw [digs_succ, ← digs_up n L L (Nat.le_refl _), ih _ h]
      simp [ofNat_mod]
    · obtain rfl : n = 0 := by omega
      simp [beBytes_zero] at h

theorem beBytes_lo (n : Nat) : n < 256 ^ (beBytes n).length := by
  induction n using Nat.strongRecOn with
  | _ n ih =>
    by_cases h0 : 0 < n
    · rw [beBytes_pos n h0]
      have := ih (n / 256) (by omega)
      simp only [List.length_append, List.length_singleton, Nat.pow_succ]
      omega
    · obtain rfl : n = 0 := by omega
      simp [beBytes_zero]
theorem beBytes_hi (n : Nat) (h : 0 < n) : 256 ^ ((beBytes n).length - 1) ≤ n := by
  induction n using Nat.strongRecOn with
  | _ n ih =>
    rw [beBytes_pos n h]
    simp only [List.length_append, List.length_singleton, Nat.add_sub_cancel]
    by_cases h1 : 0 < n / 256
    · have := ih (n / 256) (by omega) h1
      have hl : 0 < (beBytes (n / 256)).length := by rw [beBytes_pos _ h1]; simp
      obtain ⟨l, hl'⟩ : ∃ l, (beBytes (n / 256)).length = l + 1 := ⟨_, (Nat.succ_pred_eq_of_pos hl).symm⟩
      rw [hl'] at this ⊢
      simp only [Nat.add_sub_cancel] at this
      rw [Nat.pow_succ]; omega
    · rw [show n / 256 = 0 by omega, beBytes_zero]; simp; omega

theorem bitLenAux_spec (f : Nat) : ∀ x, x < 2 ^ f → x < 2 ^ Lib.bitLenAux f x ∧ (0 < x → 0 < Lib.bitLenAux f x ∧ 2 ^ (Lib.bitLenAux f x - 1) ≤ x) ∧ Lib.bitLenAux f x ≤ f := by
  induction f with
  | zero => intro x h; simp at h; subst h; simp [Lib.bitLenAux]
  | succ f ih =>
    intro x h
    unfold Lib.bitLenAux
    by_cases h0 : x = 0
    · subst h0; simp
    · rw [if_neg h0]
      obtain ⟨a, b, c⟩ := ih (x / 2) (by rw [Nat.pow_succ] at h; omega)
      refine ⟨by rw [Nat.pow_add]; omega, fun _ => ⟨by omega, ?_⟩, by omega⟩
      rw [Nat.add_sub_cancel_left]
      by_cases h1 : 0 < x / 2
      · obtain ⟨p, q⟩ := b h1
        obtain ⟨l, hl⟩ : ∃ l, Lib.bitLenAux f (x / 2) = l + 1 := ⟨_, (Nat.succ_pred_eq_of_pos p).symm⟩
        rw [hl] at q ⊢
        simp only [Nat.add_sub_cancel] at q
        rw [Nat.pow_succ]; omega
      · have : x / 2 = 0 := by omega
        rw [this]
        cases f <;> simp [Lib.bitLenAux] <;> omega

theorem bitLen_bytes (n : Nat) (h : n < 2 ^ 64) : Lib.bitLen n ≤ 64 ∧ (Lib.bitLen n + 7) / 8 = (beBytes n).length := by
  obtain ⟨a, b, c⟩ := bitLenAux_spec 64 n h
  refine ⟨c, ?_⟩
  by_cases h00 : n = 0
  · subst h00; rw [beBytes_zero]; rfl
  show (Lib.bitLenAux 64 n + 7) / 8 = _
  generalize Lib.bitLenAux 64 n = q at a b c
  have h1 := beBytes_lo n
  have h0 : 0 < n := by omega
  have h2 := beBytes_hi n h0
  obtain ⟨b1, b2⟩ := b h0
  generalize (beBytes n).length = L at h1 h2
  rw [show (256 : Nat) = 2 ^ 8 from rfl, ← Nat.pow_mul] at h1 h2
  have e1 : q - 1 < 8 * L := (Nat.pow_lt_pow_iff_right (by decide)).1 (Nat.lt_of_le_of_lt b2 h1)
  have e2 : 8 * (L - 1) < q := (Nat.pow_lt_pow_iff_right (by decide)).1 (Nat.lt_of_le_of_lt h2 a)
  omega

/-- A number's bytes, as the chapter says (a number below 0 counts as 0). -/
def numL (x : Int) : List UInt8 := UInt8.ofNat (beBytes x.toNat).length :: beBytes x.toNat
theorem numL_eq (n : Nat) : numL n = UInt8.ofNat (beBytes n).length :: digs n (beBytes n).length (beBytes n).length := by
  unfold numL; rw [Int.toNat_natCast, digs_be _ n rfl]

/-- The number whose bytes they are. -/
def beVal (l : List UInt8) : Nat := l.foldl (fun a b => a * 256 + b.toNat) 0
theorem beVal_snoc (l : List UInt8) (b : UInt8) : beVal (l ++ [b]) = beVal l * 256 + b.toNat := by simp [beVal]
theorem beVal_take_lt (l : List UInt8) : ∀ k, k ≤ l.length → beVal (l.take k) < 256 ^ k
  | 0, _ => by simp [beVal]
  | k + 1, h => by
    have ih := beVal_take_lt l k (by omega)
    rw [List.take_succ_eq_append_getElem (show k < l.length by omega), beVal_snoc, Nat.pow_succ]
    have := (l[k]'(by omega)).toNat_lt
    omega
theorem take_snoc (l : List UInt8) (k : Nat) (h : k < l.length) : l.take (k + 1) = l.take k ++ [l[k]] := by
  rw [List.take_succ_eq_append_getElem h]

/-- What stands at the head of bytes: a number, how many bytes it takes, the error's number. -/
def headL : List UInt8 → Nat × Nat × Int
  | [] => (0, 0, 2)
  | c :: r =>
    if c.toNat = 0 then (0, 1, 0) else if 8 < c.toNat then (0, 0, 3) else
    match r with
    | [] => (0, 0, 2)
    | d :: _ => if d.toNat = 0 then (0, 0, 3) else if r.length < c.toNat then (0, 0, 2) else
      if 9223372036854775807 < beVal (r.take c.toNat) then (0, 0, 3) else (beVal (r.take c.toNat), c.toNat + 1, 0)

theorem beVal_be (n : Nat) : beVal (beBytes n) = n := by
  induction n using Nat.strongRecOn with
  | _ n ih =>
    by_cases h0 : 0 < n
    · rw [beBytes_pos n h0, beVal_snoc, ih _ (by omega)]
      simp; omega
    · obtain rfl : n = 0 := by omega
      rw [beBytes_zero]; rfl
theorem beBytes_first (n : Nat) (h : 0 < n) : ∃ d r, beBytes n = d :: r ∧ d.toNat ≠ 0 := by
  induction n using Nat.strongRecOn with
  | _ n ih =>
    rw [beBytes_pos n h]
    by_cases h1 : 0 < n / 256
    · obtain ⟨d, r, e, hd⟩ := ih _ (by omega) h1
      exact ⟨d, r ++ [UInt8.ofNat (n % 256)], by rw [e]; rfl, hd⟩
    · rw [show n / 256 = 0 by omega, beBytes_zero]
      exact ⟨_, [], rfl, by simp; omega⟩
theorem headL_num (n : Nat) (h : n ≤ 9223372036854775807) (r : List UInt8) : headL (numL n ++ r) = (n, (numL n).length, 0) := by
  have hl := beBytes_len 8 n (by simp; omega)
  unfold numL
  rw [Int.toNat_natCast]
  have hc : (UInt8.ofNat (beBytes n).length).toNat = (beBytes n).length := by simp; omega
  by_cases h0 : 0 < n
  · obtain ⟨d, t, e, hd⟩ := beBytes_first n h0
    have hv := beVal_be n
    rw [e] at hl hc hv ⊢
    simp only [List.cons_append, headL, hc]
    rw [if_neg (by simp), if_neg (by simp only [List.length_cons] at hl ⊢; omega), if_neg hd, if_neg (by simp)]
    have e2 : (d :: (t ++ r)).take (d :: t).length = d :: t := by simp
    rw [e2, hv, if_neg (by omega)]
    simp
  · obtain rfl : n = 0 := by omega
    rw [beBytes_zero]; rfl
theorem numL_toNat (x : Int) : numL x = numL (x.toNat : Int) := by unfold numL; rw [Int.toNat_natCast]
theorem numL_inj (n m : Nat) (hn : n ≤ 9223372036854775807) (hm : m ≤ 9223372036854775807) (r : List UInt8) (h : numL m = numL n ++ r) : n = m := by
  have a := headL_num n hn r
  have b := headL_num m hm []
  rw [List.append_nil, h, a] at b
  exact (Prod.mk.injEq _ _ _ _ ▸ b).1

end Go.Proofs.YtemnebbdaljfbaaGreatDoor

namespace Go.Proofs.YtemnebbdaljfbaaGreatDoor
open Go.RowKit

theorem Tryz.info5 : (Tryz.prog.info? 5).map (fun i => (i.zero, i.size, i.bytes)) = some (some (.int .u8 0), 1, 1) := by kernel_rfl

def NumPost (b : Nat) (v : Value) (out : List UInt8) (w : World) (r : Ending) (w' : World) : Prop :=
  r = .returned (.pointer (some ⟨b, 0, none⟩)) ∧ ∃ v', OutAt 146 5 w' b v' out ∧ Mod (fun k => k = b ∨ v.ownBlock = some k) w w' ∧ (v'.ownBlock = v.ownBlock ∨ ∀ k, v'.ownBlock = some k → w.heap.size ≤ k)

def LoopRel (b : Nat) (v : Value) (out : List UInt8) (w w' : World) : Prop :=
  ∃ v', OutAt 146 5 w' b v' out ∧ Mod (fun k => k = b ∨ v.ownBlock = some k) w w' ∧ (v'.ownBlock = v.ownBlock ∨ ∀ k, v'.ownBlock = some k → w.heap.size ≤ k)

theorem LoopRel.next {b : Nat} {v : Value} {out : List UInt8} {w w1 w2 : World} {v1 : Value} {x : UInt8} {g cap : Nat} (hb : b < w.heap.size)
    (hO : OutAt 146 5 w1 b v1 out) (hM : Mod (fun k => k = b ∨ v.ownBlock = some k) w w1) (hv : v1.ownBlock = v.ownBlock ∨ ∀ k, v1.ownBlock = some k → w.heap.size ≤ k)
    (W : World) (hMW : Mod (fun _ => False) w1 W)
    (hown : w2.ownsRow 0 5 1 (.slice (some ⟨g, 0, none⟩) (out.length + 1) cap) (out.length + 1) (vals out ++ [.int .u8 x.toNat])) (hgrow : W.grownBy w2 v1.ownBlock) (hg : v1.ownBlock = some g ∨ g = W.heap.size) :
    LoopRel b v (out ++ [x]) w (w2.setCell ⟨b, 0, none⟩ (.slice (some ⟨g, 0, none⟩) (out.length + 1) cap)) := by
  have hbW : b < W.heap.size := Nat.lt_of_lt_of_le hO.lt hMW.size
  have hOW : OutAt 146 5 W b v1 out := hO.kept hMW (by simp) (by simp)
  have hbg : g ≠ b := by
    rcases hg with h | h
    · intro e; subst e; exact hO.ne h
    · omega
  refine ⟨_, hOW.store hgrow (by simpa [vals] using hown) (by simp [Value.ownBlock, hbg]), ?_, ?_⟩
  · refine ((hM.trans hMW (by simp)).grown hgrow ?_).setCell (fun _ => Or.inl rfl) _
    intro k hk hlt
    rcases hv with h | h
    · exact Or.inr (h ▸ hk)
    · have := h k hk; omega
  · rcases hg with h | h
    · rcases hv with h' | h'
      · left; rw [← h', h]; rfl
      · right; intro k hk; simp [Value.ownBlock] at hk; subst hk; exact h' _ h
    · right; intro k hk; simp [Value.ownBlock] at hk; subst hk
      have h1 := hM.size; have h2 := hMW.size; omega

theorem LoopRel.step {b : Nat} {v : Value} {out : List UInt8} {w w1 w2 W : World} {v1 : Value} {x : UInt8} {y : Int} {g cap : Nat} (hb : b < w.heap.size)
    (hO : OutAt 146 5 w1 b v1 out) (hM : Mod (fun k => k = b ∨ v.ownBlock = some k) w w1) (hv : v1.ownBlock = v.ownBlock ∨ ∀ k, v1.ownBlock = some k → w.heap.size ≤ k)
    (hgrow : W.grownBy w2 v1.ownBlock)
    (hown : w2.ownsRow 0 5 1 (.slice (some ⟨g, 0, none⟩) (out.length + 1) cap) (out.length + 1) (vals out ++ [.int .u8 y])) (hy : y = (x.toNat : Int)) (hg : v1.ownBlock = some g ∨ g = W.heap.size)
    (hMW : Mod (fun _ => False) w1 W) :
    w2.cell? ⟨b, 0, none⟩ = some v1 ∧ w2.frozen? ⟨b, 0, none⟩ = false ∧
    LoopRel b v (out ++ [x]) w (w2.setCell ⟨b, 0, none⟩ (.slice (some ⟨g, 0, none⟩) (out.length + 1) cap)) := by
  have hO2 := hO.kept hMW (by simp) (by simp)
  exact ⟨(World.cell?_of_block (hgrow.block b hO2.lt (fun e => hO2.ne e.symm))).trans hO2.cell,
    (World.frozen?_of_block (hgrow.block b hO2.lt (fun e => hO2.ne e.symm))).trans hO2.froz,
    LoopRel.next hb hO hM hv W hMW (by rw [← hy]; exact hown) hgrow hg⟩

set_option maxHeartbeats 400000 in
theorem num_any (x : Int) (b : Nat) (v : Value) (bs : List UInt8) (w : World) (hx0 : -9223372036854775808 ≤ x) (hxm : x ≤ 9223372036854775807) (hO : OutAt 146 5 w b v bs) (hlen : bs.length ≤ 1099511627776) :
    Calls Tryz.prog 107 #[.pointer (some ⟨b, 0, none⟩), .int .i64 x] w (NumPost b v (bs ++ numL x) w) := by
  obtain ⟨i0, hi, hz0, hz1, hz2⟩ := info_parts Tryz.info5
  have hc := hO.cell
  have hf := hO.froz
  go_enter Tryz.func107, Tryz.ntmps107
  go_upto_region 1 with fail
  go_cut [1] (fun s1 wx => ∃ n : Nat, s1 = .int .i64 n ∧ x.toNat = n ∧ w = wx)
  case first =>
    by_cases hxx : 0 ≤ x
    · obtain ⟨n, rfl⟩ := Int.eq_ofNat_of_zero_le hxx
      go_wp2_with fail
      go_meet
      exact ⟨n, rfl, rfl, rfl⟩
    · go_wp2_with fail
      go_meet
      exact ⟨0, by go_num, by omega, rfl⟩
  case rest =>
  obtain ⟨n, rfl, hn, rfl⟩ := hcut
  have hhi : (n : Int) ≤ 9223372036854775807 := by omega
  have h0 : (0 : Int) ≤ n := by omega
  have Hn := Lib.hid hn
  clear hn hx0 hxm
  obtain ⟨hq0, hL0⟩ := bitLen_bytes n (by omega)
  obtain ⟨q, hqe⟩ : ∃ q, q = Lib.bitLen n := ⟨_, rfl⟩
  obtain ⟨L, hLe⟩ : ∃ L, L = (beBytes n).length := ⟨_, rfl⟩
  rw [← hqe, ← hLe] at hL0
  rw [← hqe] at hq0
  have hq := hq0
  have hL8 : L ≤ 8 := by omega
  have HL : Hid (((q : Int) + 7) / 8 = (L : Int)) := Lib.hid (by omega)
  have Hout0 : Hid (bs ++ numL x = bs ++ [UInt8.ofNat L] ++ digs n L L) := Lib.hid (by unfold numL; rw [Hn.out, hLe, digs_be _ _ rfl]; simp)
  have Hqe := Lib.hid hqe
  have HLe := Lib.hid hLe
  clear hqe hLe hL0 hq0
  go_wp2_with fail
  refine (Lib.flip (Tryz.bits_Len n _ (by omega) (by omega))).mono ?_
  rintro e w' ⟨rfl, rfl⟩
  rw [Int.toNat_natCast, ← Hqe.out]
  go_wp2_with (at_builtin; refine wpList_append_lies _ rfl _ _ 68 rfl 0 5 i0 (.int .u8 0) 1 1 Tryz.underlying68 hi hz0 hz1 hz2 rfl (by decide) _ _ _ rfl (hO.own.alloc _) ⟨w.heap.size, 0, none⟩ 1 1 [.int .u8 (((q : Int) + 7) / 8)] rfl rfl ?c1 ?c2 ?c6 ?c3 ?c4 ?c5 _ rfl ?_)
  case c1 => exact cell_one_new _ _ _
  case c2 => intro u hu; simp at hu; subst hu; rfl
  case c6 => omega
  case c3 => unfold maxLen; omega
  case c4 => omega
  case c5 => omega
  intro g cap w1 hown1 hgrow1 hg1 hlt1
  have hx : (((q : Int) + 7) / 8) = ((UInt8.ofNat L).toNat : Int) := by rw [HL.out]; simp; omega
  have hrel0 : LoopRel b v (bs ++ [UInt8.ofNat L]) w (w1.setCell ⟨b, 0, none⟩ (.slice (some ⟨g, 0, none⟩) (bs.length + 1) cap)) :=
    LoopRel.next hO.lt hO (Mod.refl _ _) (Or.inl rfl) (w.alloc (.cells #[.int .u8 (((q : Int) + 7) / 8)] 5)) ((Mod.refl _ _).alloc _) (by rw [← hx]; exact hown1) hgrow1 (by simpa using hg1)
  have hc1 : w1.cell? ⟨b, 0, none⟩ = some v := (World.cell?_of_block (hgrow1.block b (by have := hO.lt; simp; omega) (fun e => hO.ne e.symm))).trans ((World.cell?_of_block (heap_alloc_old w _ hO.lt)).trans hc)
  have hf1 : w1.frozen? ⟨b, 0, none⟩ = false := (World.frozen?_of_block (hgrow1.block b (by have := hO.lt; simp; omega) (fun e => hO.ne e.symm))).trans ((World.frozen?_of_block (heap_alloc_old w _ hO.lt)).trans hf)
  have Hrel := Lib.hid hrel0
  clear hrel0 hgrow1 hown1
  rw [HL.out]
  go_wp2
  go_loopw [26] (fun i wr => ∃ k : Nat, k ≤ L ∧ i = .int .i64 k ∧ LoopRel b v (bs ++ [UInt8.ofNat L] ++ digs n L k) w wr)
    (fun i _ => L - (intOf i).toNat)
  case atStart => exact ⟨0, by omega, rfl, by simpa [digs] using Hrel.out⟩
  case round =>
    obtain ⟨k, hk, rfl, hR⟩ := hrel
    obtain ⟨v1, hO1, hM1, hv1⟩ := hR
    obtain ⟨out, hout⟩ : ∃ out : List UInt8, out = bs ++ [UInt8.ofNat L] ++ digs n L k := ⟨_, rfl⟩
    rw [← hout] at hO1
    have hol : out.length ≤ 1099511627800 := by have := digs_len n L k; rw [hout]; simp; omega
    have Hout := Lib.hid hout
    clear hout
    have hcr := hO1.cell
    have hfr := hO1.froz
    have hblt := hO1.lt
    clear hc1 hf1 hc hf
    by_cases hlt : k < L
    · go_wp2
      obtain ⟨s, hs⟩ : ∃ s : Nat, s = L - 1 - k := ⟨_, rfl⟩
      have e1 : IntKind.i64.wrap ((L : Int) - 1) = (L : Int) - 1 := IntWalk.i64_in _ (by omega)
      have e2 : IntKind.i64.wrap ((L : Int) - 1 - k) = (s : Int) := by rw [IntWalk.i64_in _ (by omega)]; omega
      obtain ⟨c, hcs⟩ : ∃ c : Nat, c = 8 * s := ⟨_, rfl⟩
      have e3 : IntKind.i64.wrap (8 * (s : Int)) = (c : Int) := by rw [IntWalk.i64_in _ (by omega)]; omega
      have hc64 : c ≤ 64 := by omega
      have Hxm : Hid (IntKind.u8.wrap ((n : Int) / 2 ^ c) = ((UInt8.ofNat (n / 2 ^ c)).toNat : Int)) := Lib.hid (by rw [IntKind.wrap_u8]; simp)
      have Hs := Lib.hid hs
      have Hcs := Lib.hid hcs
      clear hs hcs
      go_region_law (
        refine step_append_lies _ rfl (.tmp 33) (.tmp 42) 68 rfl 0 5 i0 (.int .u8 0) 1 1 Tryz.underlying68 hi hz0 hz1 hz2 rfl (by decide) v1 out.length (vals out) rfl ?_ ⟨wr.heap.size, 0, none⟩ 1 1 [.int .u8 (IntKind.u8.wrap ((n : Int) / 2 ^ c))] rfl rfl ?_ ?_ ?_ ?_ ?_ ?_ _ rfl ?_
        · exact (hO1.own.alloc _)
        · exact cell_one_new _ _ _
        · intro u hu; simp at hu; subst hu; rfl
        · omega
        · unfold maxLen; omega
        · omega
        · omega
        intro g2 cap2 w2 hown2 hgrow2 hg2 hlt2
        obtain ⟨hc2, hf2, hr2⟩ := LoopRel.step (x := UInt8.ofNat (n / 2 ^ c)) hO.lt hO1 hM1 hv1 hgrow2 hown2 Hxm.out hg2 (by first | exact ((Mod.refl _ _).alloc _).drew | exact (Mod.refl _ _).drew.alloc _)
        have Hrel2 := Lib.hid hr2
        clear hr2 hown2 hgrow2 hg2 hlt2)
      all_goals
        go_wp2
        go_roundw
        case rel => exact ⟨k + 1, by omega, by go_num, by
          rw [digs_succ, ← List.append_assoc, ← Hout.out, ← Hs.out, ← Hcs.out]
          exact Hrel2.out⟩
        case measure => simp [intOf]; omega
    · obtain rfl : k = L := by omega
      go_wp2
      go_ret
      exact ⟨rfl, v1, by rw [Hout0.out, ← Hout.out]; exact hO1, hM1, hv1⟩
end Go.Proofs.YtemnebbdaljfbaaGreatDoor
