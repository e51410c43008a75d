/- Texts 1: what the laws lean on. -/
import Derived.WalkKit
import Derived.WalkSpells
import Derived.WalkLawsBesides
import Derived.Lib.Hide
import Derived.Laws.BytesArg
import Derived.Deep.RegionLaw
import Derived.Deep.AppendLies
import Derived.Test.YtpbcglepecojmaaRows
import Derived.ProofKit
import Derived.OpenShut
import Derived.Deep.Slices
import Derived.Maps.RangeWalk
import Derived.Maps.OwnSet
import Derived.Sort.KeysCollected
import Derived.Orders
import Derived.Tactics
import Derived.Test.YtpbcglepecojmaaProg
import Derived.Sort.Walk0
import Derived.Test.YtpbcglepecojmaaShelf
import Derived.Deep.CutBlock
import Derived.Deep.DeepCutAuto
import Derived.LoopTactic
namespace Go.Proofs.Ytpbcglepecojmaa
open Go.RowKit

/-- Of the old blocks only those of S may have turned. -/
structure Mod (S : Nat → Prop) (w w' : World) : Prop where
  os : w'.os = w.os
  tape : w'.tape = w.tape
  output : w'.output = w.output
  size : w.heap.size ≤ w'.heap.size
  block : ∀ k, k < w.heap.size → ¬ S k → w'.heap[k]? = w.heap[k]?

theorem Mod.refl (S : Nat → Prop) (w : World) : Mod S w w := ⟨rfl, rfl, rfl, Nat.le_refl _, fun _ _ _ => rfl⟩
theorem Mod.trans {S T : Nat → Prop} {a b c : World} (h : Mod S a b) (k : Mod T b c) (hs : ∀ i, i < a.heap.size → T i → S i) : Mod S a c :=
  ⟨k.os.trans h.os, k.tape.trans h.tape, k.output.trans h.output, Nat.le_trans h.size k.size,
    fun i hi hn => (k.block i (Nat.lt_of_lt_of_le hi h.size) (fun ht => hn (hs i hi ht))).trans (h.block i hi hn)⟩
theorem Mod.mono {S T : Nat → Prop} {a b : World} (h : Mod S a b) (hs : ∀ i, i < a.heap.size → S i → T i) : Mod T a b :=
  ⟨h.os, h.tape, h.output, h.size, fun i hi hn => h.block i hi (fun hS => hn (hs i hi hS))⟩
theorem Mod.drew {S : Nat → Prop} {a w : World} (h : Mod S a w) : Mod S a w.drew := ⟨h.os, h.tape, h.output, h.size, h.block⟩
theorem Mod.drewN {S : Nat → Prop} {a w : World} (h : Mod S a w) (n : Nat) : Mod S a (w.drewN n) := ⟨h.os, h.tape, h.output, h.size, h.block⟩
theorem Mod.setRow {S : Nat → Prop} {a w : World} (h : Mod S a w) {g : Nat} (cs : Array Value) : Mod (fun k => S k ∨ k = g) a (w.setRow g cs) :=
  ⟨h.os, h.tape, h.output, by have := h.size; simp [World.setRow]; omega, fun i hi hn => (setRow_other w g i _ (fun e => hn (Or.inr e))).trans (h.block i hi (fun hS => hn (Or.inl hS)))⟩
/-- What was written anew alone. -/
theorem Mod.drop_new {S : Nat → Prop} {a b : World} {g : Nat} (h : Mod (fun k => S k ∨ k = g) a b) (hg : a.heap.size ≤ g) : Mod S a b :=
  h.mono (fun i hi h => h.elim id (fun e => by omega))
theorem Mod.alloc {S : Nat → Prop} {a w : World} (h : Mod S a w) (o : Obj) : Mod S a (w.alloc o) :=
  ⟨h.os, h.tape, h.output, by have := h.size; simp; omega, fun i hi hn => (Below.heap_alloc _ _ _ (Nat.lt_of_lt_of_le hi h.size)).trans (h.block i hi hn)⟩
theorem Mod.setCell {S : Nat → Prop} {a w : World} (h : Mod S a w) {p : Addr} (hp : p.block < a.heap.size → S p.block) (u : Value) : Mod S a (w.setCell p u) :=
  ⟨h.os, h.tape, h.output, by have := h.size; simp [World.setCell]; omega, fun i hi hn => (Below.heap_setCell _ _ _ _ (fun e => hn (by subst e; exact hp hi))).trans (h.block i hi hn)⟩
theorem Mod.grown {S : Nat → Prop} {a w w' : World} {row : Option Nat} (h : Mod S a w) (hg : w.grownBy w' row) (hr : ∀ k, row = some k → k < a.heap.size → S k) : Mod S a w' :=
  ⟨hg.os.trans h.os, hg.tape.trans h.tape, hg.output.trans h.output, Nat.le_trans h.size hg.size,
    fun i hi hn => (hg.block i (Nat.lt_of_lt_of_le hi h.size) (fun e => hn (hr i e.symm hi))).trans (h.block i hi hn)⟩
theorem Mod.of_below {B : Nat} {w w' : World} (h : Below B w w') : Mod (fun k => B ≤ k) w w' :=
  ⟨h.os, h.tape, h.output, h.size, fun k _ hn => h.block k (by omega)⟩
theorem Mod.to_below {S : Nat → Prop} {w w' : World} {B : Nat} (h : Mod S w w') (hB : B ≤ w.heap.size) (hS : ∀ k, k < B → ¬ S k) : Below B w w' :=
  ⟨h.os, h.tape, h.output, h.size, fun k hk => h.block k (by omega) (hS k hk)⟩

def vals (bs : List UInt8) : List Value := bs.map fun b => Value.int .u8 b.toNat
theorem vals_len (bs : List UInt8) : (vals bs).length = bs.length := by simp [vals]
theorem vals_app (a b : List UInt8) : vals (a ++ b) = vals a ++ vals b := by simp [vals]

/-- Block b is a struct of one field, a slice value v that owns the bytes bs in a row of its own. -/
structure OutAt (T E : TypeId) (w : World) (b : Nat) (v : Value) (bs : List UInt8) : Prop where
  blk : w.heap[b]? = some (.cells #[v] T (0, 0))
  own : w.ownsRow 0 E 1 v bs.length (vals bs)
  ne : v.ownBlock ≠ some b

theorem OutAt.cell {T E : TypeId} {w : World} {b : Nat} {v : Value} {bs : List UInt8} (h : OutAt T E w b v bs) : w.cell? ⟨b, 0, none⟩ = some v := by
  unfold World.cell?; rw [h.blk]; rfl
theorem OutAt.froz {T E : TypeId} {w : World} {b : Nat} {v : Value} {bs : List UInt8} (h : OutAt T E w b v bs) : w.frozen? ⟨b, 0, none⟩ = false := by
  unfold World.frozen?; rw [h.blk]; rfl
theorem OutAt.lt {T E : TypeId} {w : World} {b : Nat} {v : Value} {bs : List UInt8} (h : OutAt T E w b v bs) : b < w.heap.size := (Array.getElem?_eq_some_iff.1 h.blk).1
theorem OutAt.fresh {T E : TypeId} (w : World) : OutAt T E (w.alloc (.cells #[.slice none 0 0] T)) w.heap.size (.slice none 0 0) [] :=
  ⟨heap_alloc_new w _, World.ownsRow_nil _ _ _ _, by simp [Value.ownBlock]⟩
theorem OutAt.kept {T E : TypeId} {w w' : World} {b : Nat} {v : Value} {bs : List UInt8} {S : Nat → Prop} (h : OutAt T E w b v bs) (hm : Mod S w w') (hb : ¬ S b) (hv : ∀ k, v.ownBlock = some k → ¬ S k) : OutAt T E w' b v bs := by
  refine ⟨(hm.block b h.lt hb).trans h.blk, ⟨h.own.1, ?_⟩, h.ne⟩
  rcases h.own.2 with hn | ⟨g, cap, cur, rfl, hg, hh, r⟩
  · exact .inl hn
  · exact .inr ⟨g, cap, cur, rfl, hg, (hm.block g (Array.getElem?_eq_some_iff.1 hh).1 (hv g rfl)).trans hh, r⟩

theorem OutAt.alloc {T E : TypeId} {w : World} {b : Nat} {v : Value} {bs : List UInt8} (h : OutAt T E w b v bs) (o : Obj) : OutAt T E (w.alloc o) b v bs :=
  h.kept ((Mod.refl (fun _ => False) w).alloc o) (fun h => h) (fun _ _ h => h)

/-- The struct's field is stored anew: a slice value that owns more. -/
theorem OutAt.store {T E : TypeId} {w w1 : World} {b : Nat} {v v1 : Value} {bs bs1 : List UInt8} (h : OutAt T E w b v bs) (hg : w.grownBy w1 v.ownBlock) (hown : w1.ownsRow 0 E 1 v1 bs1.length (vals bs1)) (hne : v1.ownBlock ≠ some b) :
    OutAt T E (w1.setCell ⟨b, 0, none⟩ v1) b v1 bs1 := by
  have hb : w1.heap[b]? = some (.cells #[v] T (0, 0)) := (hg.block b h.lt (fun e => h.ne e.symm)).trans h.blk
  refine ⟨?_, ⟨hown.1, ?_⟩, hne⟩
  · have := heap_setCell_same w1 b 0 #[v] T v1 hb
    simpa using this
  · rcases hown.2 with hn | ⟨g, cap, cur, rfl, hg', hh, r⟩
    · exact .inl hn
    · refine .inr ⟨g, cap, cur, rfl, hg', ?_, r⟩
      rw [Below.heap_setCell _ _ _ _ (by intro e; exact hne (by simp [Value.ownBlock, e]))]
      exact hh

/-- A slice value that owns something shows its address. -/
theorem ownsRow_shape {w : World} {base e size n : Nat} {v : Value} {xs : List Value} (h : w.ownsRow base e size v n xs) (hn : 0 < n) : ∃ g cap, v = .slice (some ⟨g, 0, none⟩) n cap := by
  rcases h.2 with ⟨_, h0⟩ | ⟨g, cap, _, hv, _⟩
  · omega
  · exact ⟨g, cap, hv⟩

/-- An append to an owned row, as a step of a region that draws. -/
theorem step_append_own {P : Program} {ops : Array Oper} {o : Oper} {a : Act} {w : World} {K : Act → World → Prop} {Q : Exit → Act → World → Prop} {E : Prop}
    (hgd : o.guard = none) (s x : Operand) (t : TypeId)
    (ho : o.op = .call { callee := .builtin .append, args := #[s, x], argTypes := #[t, t] })
    (base : Nat) (e : TypeId) (i : TypeInfo) (z : Value) (size bytes : Nat) (ht : P.underlying t = some (.slice e)) (hi : P.info? e = some i) (hz : i.zero = some z)
    (hsize : i.size = size) (hby : i.bytes = bytes) (hzs : z.cells.size = size) (hsz : 0 < size)
    (v : Value) (n : Nat) (xs : List Value) (hs : a.eval s = v) (hown : w.ownsRow base e size v n xs)
    (ad : Addr) (m c : Nat) (news : List Value) (hx : a.eval x = .slice (some ad) m c) (hl : news.length = m * size) (hnews : ∀ j u, news[j]? = some u → w.cell? (ad.add j) = some u) (h1 : ∀ u ∈ news, u.oneCell' = true)
    (h63 : n + m ≤ maxLen) (hbytes : (n + m) * bytes ≤ 140737488355328) (hbase : base ≤ w.heap.size)
    (h : ∀ v' w', w'.ownsRow base e size v' (n + m) (xs ++ news) → w.grownBy w' v.ownBlock → (v' = .slice none 0 0 ↔ v = .slice none 0 0 ∧ m = 0) → K (a.put o.dst v') w') :
    if Region.wanted o (yielded ops a.tmps) = true then Oper.wp P o a w K Q else E := by
  have hw : Region.wanted o (yielded ops a.tmps) = true := by simp [Region.wanted, hgd]
  rw [if_pos hw]
  exact wp_append_own w s x t ho base e i z size bytes ht hi hz hsize hby hzs hsz v n xs hs hown ad m c news hx hl hnews h1 h63 hbytes hbase h

theorem bapp1 (a : UInt8) (l : List UInt8) : (ByteArray.mk #[a] ++ ByteArray.mk l.toArray) = ByteArray.mk (a :: l).toArray := ByteArray.mk_append_mk [a] l
theorem ret_str {a b : ByteArray} (h : a = b) : Ending.returned (.string a) = .returned (.string b) := by rw [h]
theorem val_str {a b : ByteArray} (h : a = b) : Value.string a = .string b := by rw [h]
theorem val_int {k : IntKind} {a b : Int} (h : a = b) : Value.int k a = .int k b := by rw [h]
theorem ret_int {k : IntKind} {a b : Int} (h : a = b) : Ending.returned (.int k a) = .returned (.int k b) := by rw [h]

theorem convLit1 {P : Program} (src dst e : TypeId) (hs : P.underlying src = some (.slice e)) (he : P.underlying e = some (.int .u8)) (hd : P.underlying dst = some .string) (w : World) (x : Int) :
    (convert src dst (.slice (some ⟨w.heap.size, 0, none⟩) 1 1)).run P (w.alloc (.cells #[.int .u8 x] e)) = .ok (.string ⟨#[UInt8.ofNat x.toNat]⟩) (w.alloc (.cells #[.int .u8 x] e)) := by
  have h := run_convert_bytes_arg (P := P) (w.alloc (.cells #[.int .u8 x] e)) src e hs he w.heap.size 0 1 1 [x] rfl (fun i hi => by
    obtain rfl : i = 0 := by omega
    unfold World.cell?
    rw [heap_alloc_new]
    rfl) dst hd
  simpa [strOfNums] using h

/-- The old world's name is kept. -/
theorem Lib.flip {P : Program} {f : FuncId} {args : Array Value} {w : World} {v : Ending} (h : Calls P f args w fun e w' => e = v ∧ w' = w) : Calls P f args w fun e w' => e = v ∧ w = w' :=
  h.mono fun _ _ ⟨a, b⟩ => ⟨a, b.symm⟩

/-- A shift to the right of a number from 0 on. -/
theorem shr_nat {P : Program} (k j : IntKind) (n s : Nat) (w : World) (hs : s ≤ k.bits) : (Op.shift .shr k (n : Int) j (s : Int)).run P w = .ok (.int k ((n / 2 ^ s : Nat) : Int)) w := by
  have h0 : ¬ ((s : Int) < 0) := by omega
  have hm : min ((s : Int)).toNat k.bits = s := by rw [Int.toNat_natCast]; exact Nat.min_eq_left hs
  unfold Op.shift
  rw [if_neg h0]
  simp only [hm]
  have : (n : Int).fdiv (2 ^ s) = ((n / 2 ^ s : Nat) : Int) := by
    rw [Int.fdiv_eq_ediv_of_nonneg _ (by exact_mod_cast Nat.zero_le (2 ^ s))]
    push_cast
    rfl
  rw [this]
  rfl

/-- A whole variable is stored: an array or a struct by value. -/
theorem wp_store_row {P : Program} {o : Oper} {a : Act} {w : World} {K : Act → World → Prop} {Q : Exit → Act → World → Prop} (ty : TypeId) (x y : Operand) (ho : o.op = .store ty x y)
    (g : Nat) (hx : a.eval x = .pointer (some ⟨g, 0, none⟩)) (t : TypeId) (old cs : Array Value) (hy : a.eval y = .agg cs) (hg : w.heap[g]? = some (.cells old t (0, 0))) (hsz : old.size = cs.size)
    (hi : (P.info? ty).map (·.size) = some cs.size) (h1 : ∀ v ∈ cs.toList, v.oneCell' = true)
    (h : K (a.put o.dst undef) (w.setRow g cs)) : o.wp P a w K Q := by
  have hst := run_storeCells_at P g 0 t cs.toList 0 old w hg (by simp; omega) h1
  have e : (old.toList.take (0 + 0) ++ cs.toList ++ old.toList.drop (0 + 0 + cs.toList.length)).toArray = cs := by
    have : old.toList.drop (0 + 0 + cs.toList.length) = [] := List.drop_eq_nil_of_le (by simp; omega)
    rw [this]; simp
  rw [e] at hst
  cases hq : P.info? ty with
  | none => simp [hq] at hi
  | some i =>
    have hs : i.size = cs.size := by simpa [hq] using hi
    have hv : (storeVar ty ⟨g, 0, none⟩ (.agg cs)).run P w = .ok () (w.setRow g cs) := by
      simp [storeVar, sizeOf, typeInfo, hq, hs, Value.cells, hst]
    unfold Oper.wp execOp
    simp only [ho, hx, hy, Instr.storeAt, Instr.sureAddr, Sem.run_bind, Sem.run_pure, Result.andThen_ok, hv]
    exact h

theorem wpList_store_row {P : Program} {ops : Array Oper} {rest : List Oper} {o : Oper} {a : Act} {w : World} {Q : Exit → Act → World → Prop} (hgd : o.guard = none) (hdst : o.dst = none) (ty : TypeId) (x y : Operand) (ho : o.op = .store ty x y)
    (g : Nat) (hx : a.eval x = .pointer (some ⟨g, 0, none⟩)) (t : TypeId) (old cs : Array Value) (hy : a.eval y = .agg cs) (hg : w.heap[g]? = some (.cells old t (0, 0))) (hsz : old.size = cs.size)
    (hi : (P.info? ty).map (·.size) = some cs.size) (h1 : ∀ v ∈ cs.toList, v.oneCell' = true)
    (h : wpList P ops Q rest a (w.setRow g cs)) : wpList P ops Q (o :: rest) a w :=
  wpList_plain hgd fun _ hK => wp_store_row ty x y ho g hx t old cs hy hg hsz hi h1 (hK _ _ (by rw [hdst]; exact h))

/-- Numbers as cells. -/
def nums (k : IntKind) (A : List Nat) : List Value := A.map fun (x : Nat) => Value.int k (x : Int)
theorem nums_len (k : IntKind) (A : List Nat) : (nums k A).length = A.length := by simp [nums]
theorem nums_one (k : IntKind) (A : List Nat) : ∀ v ∈ nums k A, v.oneCell' = true := by
  intro v hv; obtain ⟨x, _, rfl⟩ := List.mem_map.1 hv; rfl
theorem nums_get (k : IntKind) (A : List Nat) (i : Nat) (h : i < A.length) : (nums k A)[i]? = some (.int k (A[i]'h)) := by simp [nums, h]
theorem nums_set (k : IntKind) (A : List Nat) (i x : Nat) : (nums k A).set i (.int k x) = nums k (A.set i x) := by simp [nums, List.map_set]

/-- A block of numbers. -/
def RowAt (k : IntKind) (T : TypeId) (w : World) (g : Nat) (A : List Nat) : Prop := w.heap[g]? = some (.cells (nums k A).toArray T (0, 0))
theorem RowAt.cell {k : IntKind} {T : TypeId} {w : World} {g : Nat} {A : List Nat} (h : RowAt k T w g A) (i : Nat) (hi : i < A.length) : w.cell? ⟨g, i, none⟩ = some (.int k (A[i]'hi)) := by
  rw [cell_of_row w g i _ T (0, 0) h]; simpa using nums_get k A i hi
theorem RowAt.froz {k : IntKind} {T : TypeId} {w : World} {g : Nat} {A : List Nat} (h : RowAt k T w g A) (i : Nat) : w.frozen? ⟨g, i, none⟩ = false := frozen_of_row w g i _ T h
theorem RowAt.lt {k : IntKind} {T : TypeId} {w : World} {g : Nat} {A : List Nat} (h : RowAt k T w g A) : g < w.heap.size := (Array.getElem?_eq_some_iff.1 h).1
theorem RowAt.set {k : IntKind} {T : TypeId} {w : World} {g : Nat} {A : List Nat} (h : RowAt k T w g A) (i x : Nat) : RowAt k T (w.setCell ⟨g, i, none⟩ (.int k x)) g (A.set i x) := by
  have := heap_setCell_same w g i _ T (.int k x) h
  unfold RowAt
  rw [this, ← nums_set]
  simp
theorem RowAt.kept {k : IntKind} {T : TypeId} {w w' : World} {g : Nat} {A : List Nat} {S : Nat → Prop} (h : RowAt k T w g A) (hm : Mod S w w') (hg : ¬ S g) : RowAt k T w' g A := (hm.block g h.lt hg).trans h

/-- An array of numbers, by value, indexed. -/
theorem run_index_nums {P : Program} (T E : TypeId) (len : Nat) (k : IntKind) (A : List Nat) (i : Nat) (hi : i < A.length) (hT : P.underlying T = some (.array len E)) (hl : A.length = len)
    (hE : P.underlying E = some (.int k)) (hs : (P.info? E).map (·.size) = some 1) (w : World) :
    (Instr.index T (.agg (nums k A).toArray) (.int .i64 (i : Int))).run P w = .ok (.int k (A[i]'hi)) w := by
  have h1 : (0 : Int) ≤ i ∧ (i : Int) < len := by omega
  cases hq : P.info? E with
  | none => simp [hq] at hs
  | some j =>
    have hj : j.size = 1 := by simpa [hq] using hs
    have hg := nums_get k A i hi
    unfold Instr.index
    simp only [asIntOf, Sem.run_bind, Sem.run_pure, Result.andThen_ok, run_underlying hT]
    rw [if_pos h1]
    simp [sizeOf, typeInfo, hq, hj, part, isAgg, run_underlying hE, hg]
end Go.Proofs.Ytpbcglepecojmaa

namespace Go.Proofs.Ytpbcglepecojmaa
open Go.RowKit

/-- How an element lies in memory: k cells. -/
structure Enc (α : Type) where
  f : α → List Value
  k : Nat
  len : ∀ x, (f x).length = k
  one : ∀ x, ∀ v ∈ f x, v.oneCell' = true
  pos : 0 < k

section
variable {α : Type} (E : Enc α)
def Enc.all (L : List α) : List Value := L.flatMap E.f
theorem Enc.all_nil : E.all [] = [] := rfl
theorem Enc.all_app (A B : List α) : E.all (A ++ B) = E.all A ++ E.all B := by simp [Enc.all]
theorem Enc.all_len (L : List α) : (E.all L).length = L.length * E.k := by
  induction L with
  | nil => simp [Enc.all]
  | cons x l ih => rw [show x :: l = [x] ++ l from rfl, E.all_app, List.length_append, ih]; simp [Enc.all, E.len, Nat.add_mul]; omega
theorem Enc.all_one (L : List α) : ∀ v ∈ E.all L, v.oneCell' = true := by
  intro v hv
  obtain ⟨x, _, h⟩ := List.mem_flatMap.1 hv
  exact E.one x v h
theorem Enc.all_get (L : List α) (j i : Nat) (hj : j < L.length) (hi : i < E.k) : (E.all L)[j * E.k + i]? = (E.f L[j])[i]? := by
  induction L generalizing j with
  | nil => simp at hj
  | cons x l ih =>
    rw [show E.all (x :: l) = E.f x ++ E.all l by simp [Enc.all]]
    cases j with
    | zero => rw [Nat.zero_mul, Nat.zero_add, List.getElem?_append_left (by rw [E.len]; exact hi)]; rfl
    | succ j =>
      rw [List.getElem?_append_right (by rw [E.len, Nat.add_mul]; omega), E.len, show (j + 1) * E.k + i - E.k = j * E.k + i by rw [Nat.add_mul]; omega, ih j (by simpa using hj)]
      rfl

/-- The slice at p holds L from its block's head on; nil holds none. -/
def Rw (T : TypeId) (w : World) (p : Option Addr) (cap : Nat) (L : List α) : Prop := w.ownsRow 0 T E.k (.slice p L.length cap) L.length (E.all L)
/-- L is read at ao. -/
def Rd (w : World) (ao : Option Addr) (L : List α) : Prop :=
  ∀ j (h : j < L.length), ∃ bs off, ao = some ⟨bs, off, none⟩ ∧ bs < w.heap.size ∧ ∀ i u, (E.f L[j])[i]? = some u → w.cell? ⟨bs, off + j * E.k + i, none⟩ = some u

variable {E}
theorem Rd.old {w w' : World} {ao : Option Addr} {L : List α} (h : Rd E w ao L) (hb : Below w.heap.size w w') : Rd E w' ao L := by
  intro j hj
  obtain ⟨bs, off, e, hlt, hc⟩ := h j hj
  exact ⟨bs, off, e, Nat.lt_of_lt_of_le hlt hb.size, fun i u hu => (World.cell?_of_block (hb.block bs hlt)).trans (hc i u hu)⟩
theorem Rd.nil (w : World) (ao : Option Addr) : Rd E w ao [] := fun j hj => by simp at hj
theorem Rd.take {w : World} {ao : Option Addr} {L : List α} (h : Rd E w ao L) (n : Nat) : Rd E w ao (L.take n) := by
  intro j hj
  have hj2 : j < L.length := by rw [List.length_take] at hj; omega
  obtain ⟨bs, off, e, hlt, c1⟩ := h j hj2
  refine ⟨bs, off, e, hlt, ?_⟩
  rw [List.getElem_take]; exact c1
theorem Rw.shape {T : TypeId} {w : World} {p : Option Addr} {cap : Nat} {L : List α} (h : Rw E T w p cap L) :
    (p = none ∧ L = [] ∧ cap = 0) ∨ ∃ g, p = some ⟨g, 0, none⟩ ∧ g < w.heap.size ∧ L.length ≤ cap ∧ cap ≤ maxLen ∧ ∃ cur : Array Value, w.heap[g]? = some (.cells cur T (0, 0)) ∧ cur.size = cap * E.k ∧ cur.toList.take (L.length * E.k) = E.all L := by
  rcases h.2 with ⟨e, h0⟩ | ⟨g, cap', cur, e, _, hh, h1, h2, h3, h4⟩
  · simp only [Value.slice.injEq] at e
    exact .inl ⟨e.1, List.eq_nil_of_length_eq_zero h0, e.2.2⟩
  · simp only [Value.slice.injEq] at e
    obtain ⟨rfl, _, rfl⟩ := e
    exact .inr ⟨g, rfl, (Array.getElem?_eq_some_iff.1 hh).1, h1, h2, cur, hh, h3, h4⟩
theorem Rw.of_row {T : TypeId} {w : World} {g cap : Nat} {L : List α} {cur : Array Value} (hh : w.heap[g]? = some (.cells cur T (0, 0))) (h1 : L.length ≤ cap) (h2 : cap ≤ maxLen) (h3 : cur.size = cap * E.k) (h4 : cur.toList.take (L.length * E.k) = E.all L) :
    Rw E T w (some ⟨g, 0, none⟩) cap L := ⟨by rw [E.all_len], .inr ⟨g, cap, cur, rfl, Nat.zero_le _, hh, h1, h2, h3, h4⟩⟩
theorem Rw.empty (T : TypeId) (w : World) : Rw E T w none 0 ([] : List α) := World.ownsRow_nil _ _ _ _
theorem Rw.cap_le {T : TypeId} {w : World} {p : Option Addr} {cap : Nat} {L : List α} (h : Rw E T w p cap L) : L.length ≤ cap := by
  rcases h.shape with ⟨_, rfl, _⟩ | ⟨g, _, _, hc, _⟩
  · exact Nat.zero_le _
  · exact hc
theorem Rw.made (T : TypeId) (w : World) (L : List α) (hl : L.length ≤ maxLen) : Rw E T (w.alloc (.cells (E.all L).toArray T)) (some ⟨w.heap.size, 0, none⟩) L.length L :=
  Rw.of_row (heap_alloc_new _ _) (Nat.le_refl _) hl (by rw [List.size_toArray, E.all_len]) (by rw [List.take_of_length_le (by simp [E.all_len])])
theorem Rw.lt {T : TypeId} {w : World} {a : Addr} {cap : Nat} {L : List α} (h : Rw E T w (some a) cap L) : a.block < w.heap.size := by
  rcases h.shape with ⟨e, _⟩ | ⟨g, e, hl, _⟩
  · cases e
  · cases e; exact hl
theorem Rw.kept {T : TypeId} {w w' : World} {p : Option Addr} {cap : Nat} {L : List α} {S : Nat → Prop} (h : Rw E T w p cap L) (hm : Mod S w w') (hp : ∀ a, p = some a → ¬ S a.block) : Rw E T w' p cap L := by
  rcases h.shape with ⟨rfl, rfl, rfl⟩ | ⟨g, rfl, hl, h1, h2, cur, hh, h3, h4⟩
  · exact Rw.empty _ _
  · exact Rw.of_row ((hm.block g hl (hp _ rfl)).trans hh) h1 h2 h3 h4
theorem Rw.old {T : TypeId} {w w' : World} {p : Option Addr} {cap : Nat} {L : List α} (h : Rw E T w p cap L) (hb : Below w.heap.size w w') : Rw E T w' p cap L :=
  h.kept (Mod.of_below hb) (fun a e hs => by subst e; exact Nat.lt_irrefl _ (Nat.lt_of_lt_of_le h.lt hs))
theorem Rw.rd {T : TypeId} {w : World} {p : Option Addr} {cap : Nat} {L : List α} (h : Rw E T w p cap L) : Rd E w p L := by
  intro j hj
  rcases h.shape with ⟨rfl, rfl, rfl⟩ | ⟨g, rfl, hl, h1, h2, cur, hh, h3, h4⟩
  · simp at hj
  · refine ⟨g, 0, rfl, hl, fun i u hu => ?_⟩
    have hi : i < E.k := by have := (List.getElem?_eq_some_iff.1 hu).1; rwa [E.len] at this
    rw [← E.all_get L j i hj hi, ← h4] at hu
    have hlt : j * E.k + i < L.length * E.k := by
      have := Nat.mul_le_mul_right E.k (show j + 1 ≤ L.length by omega); rw [Nat.add_mul] at this; omega
    rw [List.getElem?_take_of_lt hlt] at hu
    rw [cell_of_row w g _ _ T (0, 0) hh, Nat.zero_add]
    simpa using hu
/-- Behind an append: the slice holds more, in its own block or in a new one. -/
def PushR (E : Enc α) (T : TypeId) (w : World) (p : Option Addr) (B : List α) (q : Option Addr) (cap : Nat) (w' : World) : Prop :=
  Rw E T w' q cap B ∧ Mod (fun i => ∃ a, p = some a ∧ i = a.block) w w' ∧ ∀ a, q = some a → p = some a ∨ w.heap.size ≤ a.block
theorem run_append_no {P : Program} {w : World} (t ty e : TypeId) (i : TypeInfo) (ht : P.underlying t = some (.slice e)) (hi : P.info? e = some i)
    (p : Option Addr) (n cap : Nat) (hle : n ≤ cap) (hn : p = none → n = 0 ∧ cap = 0) (q : Option Addr) (c : Nat) :
    (Builtin.append_ #[t, t] ty #[.slice p n cap, .slice q 0 c]).run P w = .ok (.slice p n cap) w := by
  cases p with
  | some a => cases q <;> simp [Builtin.append_, run_underlying ht, sizeOf, typeInfo, hi, Builtin.lenOf, Builtin.firstCells, hle, storeCells, loadCells, loadCellsFrom]
  | none =>
    obtain ⟨rfl, rfl⟩ := hn rfl
    cases q <;> simp [Builtin.append_, run_underlying ht, sizeOf, typeInfo, hi, Builtin.lenOf, Builtin.firstCells, loadCells, loadCellsFrom]
theorem wpList_pushR {P : Program} {ops : Array Oper} {rest : List Oper} {o : Oper} {a : Act} {Q : Exit → Act → World → Prop} {w : World} (E : Enc α) (hgd : o.guard = none) (s x : Operand) (Ts T : TypeId) (z : Value) (by_ : Nat)
    (ho : o.op = .call { callee := .builtin .append, args := #[s, x], argTypes := #[Ts, Ts] }) (hT : P.underlying Ts = some (.slice T)) (hi : (P.info? T).map (fun i => (i.zero, i.size, i.bytes)) = some (some z, E.k, by_)) (hzs : z.cells.size = E.k) (hby : by_ ≤ 1024)
    (p : Option Addr) (cap n : Nat) (L : List α) (hn : L.length = n) (hs : a.eval s = .slice p n cap) (hS : Rw E T w p cap L) (ao : Option Addr) (m cx : Nat) (Y : List α) (hm : Y.length = m) (hx : a.eval x = .slice ao m cx) (hY : Rd E w ao Y) (hl : n + m ≤ 100000000000)
    (h : ∀ q c w', PushR E T w p (L ++ Y) q c w' → wpList P ops Q rest (a.put o.dst (.slice q (n + m) c)) w') :
    wpList P ops Q (o :: rest) a w := by
  cases hq : P.info? T with
  | none => rw [hq] at hi; cases hi
  | some i =>
    rw [hq] at hi
    simp only [Option.map_some, Option.some.injEq, Prod.mk.injEq] at hi
    obtain ⟨hz, h1, h2⟩ := hi
    subst hn
    subst hm
    have hmul : (L.length + Y.length) * by_ ≤ 140737488355328 := Nat.le_trans (Nat.mul_le_mul hl hby) (by decide)
    by_cases h0 : 0 < Y.length
    · obtain ⟨bs, off, rfl, hbs, _⟩ := hY 0 h0
      refine wpList_append_lies _ hgd s x Ts ho 0 T i z E.k by_ hT hq hz h1 h2 hzs E.pos _ L.length (E.all L) hs hS ⟨bs, off, none⟩ Y.length cx (E.all Y) hx (E.all_len Y) ?_ (E.all_one _) h0 (by unfold maxLen; omega) hmul (Nat.zero_le _) _ rfl ?_
      · intro j u hj
        have hjl : j < Y.length * E.k := by
          have := (List.getElem?_eq_some_iff.1 hj).1
          rwa [E.all_len] at this
        have hd : j / E.k < Y.length := by rw [Nat.div_lt_iff_lt_mul E.pos]; exact hjl
        have hr : j % E.k < E.k := Nat.mod_lt _ E.pos
        have he : j / E.k * E.k + j % E.k = j := by rw [Nat.mul_comm]; exact Nat.div_add_mod j E.k
        obtain ⟨bs', off', e, _, c1⟩ := hY (j / E.k) hd
        cases e
        have hadd : (⟨bs, off, none⟩ : Addr).add j = ⟨bs, off + j, none⟩ := by unfold Addr.add; split <;> simp_all
        rw [← he, E.all_get Y _ _ hd hr] at hj
        have := c1 _ _ hj
        rw [Nat.add_assoc, he] at this
        rw [hadd, this]
      · intro g c w' hown hgrow hat _
        refine h (some ⟨g, 0, none⟩) c w' ⟨?_, ?_, ?_⟩
        · unfold Rw; rw [List.length_append, E.all_app]; exact hown
        · refine (Mod.refl _ w).grown hgrow ?_
          intro j hj _
          cases p with
          | none => simp [Value.ownBlock] at hj
          | some a => simp [Value.ownBlock] at hj; exact ⟨a, rfl, hj.symm⟩
        · rintro a' e; cases e
          rcases hat with hat | hat
          · left
            rcases hS.shape with ⟨rfl, _⟩ | ⟨g', rfl, _⟩
            · simp [Value.ownBlock] at hat
            · simp [Value.ownBlock] at hat; subst hat; rfl
          · right; rw [hat]; exact Nat.le_refl _
    · obtain rfl : Y = [] := List.eq_nil_of_length_eq_zero (by omega)
      refine wpList_plain hgd fun K hK => ?_
      have hfin := h p cap w ⟨by rw [List.append_nil]; exact hS, Mod.refl _ w, fun a e => .inl e⟩
      have hle : L.length ≤ cap := hS.cap_le
      have hno : p = none → L.length = 0 ∧ cap = 0 := by
        intro e
        rcases hS.shape with ⟨_, rfl, hc⟩ | ⟨g', e', _⟩
        · exact ⟨rfl, hc⟩
        · rw [e] at e'; cases e'
      have hrun := run_append_no (P := P) (w := w) Ts o.type T i hT hq p L.length cap hle hno ao cx
      unfold Oper.wp
      simp only [List.length_nil] at hx
      simp [execOp, ho, resolve, invoke, builtin, hs, hx, hrun, Result.andThen]
      simp at hfin
      exact hK _ _ hfin
/-- Elements are gathered in a row of its own. -/
structure AccR (E : Enc α) (T : TypeId) (w : World) (i : Nat) (D : List α) (q : Option Addr) (c : Nat) (wr : World) : Prop where
  s : Rw E T wr q c D
  len : D.length = i
  new : ∀ a, q = some a → w.heap.size ≤ a.block
  m : Below w.heap.size w wr
theorem AccR.zero (E : Enc α) (T : TypeId) (w : World) : AccR E T w 0 [] none 0 w := ⟨Rw.empty _ _, rfl, (fun a e => by cases e), Below.refl _ _⟩
theorem AccR.push {T : TypeId} {w : World} {i : Nat} {D : List α} {q : Option Addr} {c : Nat} {wr w' : World} (h : AccR E T w i D q c wr) {Y : List α} {q' : Option Addr} {c' : Nat} (hP : PushR E T wr q (D ++ Y) q' c' w') : AccR E T w (i + Y.length) (D ++ Y) q' c' w' := by
  obtain ⟨hS, hm, hor⟩ := hP
  refine ⟨hS, by rw [List.length_append, h.len], ?_, h.m.trans (hm.to_below h.m.size (by rintro j hj ⟨a, e, rfl⟩; have := h.new a e; omega))⟩
  intro a e
  rcases hor a e with h1 | h1
  · exact h.new _ h1
  · exact Nat.le_trans h.m.size h1
theorem AccR.below {T : TypeId} {w : World} {i : Nat} {D : List α} {q : Option Addr} {c : Nat} {wr w' : World} (h : AccR E T w i D q c wr) (hb : Below wr.heap.size wr w') : AccR E T w i D q c w' :=
  ⟨h.s.old hb, h.len, h.new, h.m.trans (hb.mono h.m.size)⟩
theorem AccR.take {T : TypeId} {w : World} {i : Nat} {D : List α} {q : Option Addr} {c : Nat} {wr : World} (h : AccR E T w i D q c wr) : Rd E wr q D := h.s.rd
end
/-- Elements that were just laid. -/
theorem Rd.made {α : Type} (E : Enc α) (w : World) (T : TypeId) (L : List α) (hl : L.length ≤ maxLen) : Rd E (w.alloc (.cells (E.all L).toArray T)) (some ⟨w.heap.size, 0, none⟩) L := (Rw.made (E := E) T w L hl).rd

/-- Texts. -/
def encS : Enc (List UInt8) := ⟨fun s => [.string ⟨s.toArray⟩], 1, fun _ => rfl, fun _ v hv => by rw [List.mem_singleton.1 hv]; rfl, Nat.one_pos⟩
/-- Ints. -/
def encI : Enc Int := ⟨fun x => [.int .i64 x], 1, fun _ => rfl, fun _ v hv => by rw [List.mem_singleton.1 hv]; rfl, Nat.one_pos⟩
theorem encS_all (ss : List (List UInt8)) : encS.all ss = ss.map fun s => Value.string ⟨s.toArray⟩ := by
  induction ss with
  | nil => rfl
  | cons a l ih => rw [show encS.all (a :: l) = encS.f a ++ encS.all l from rfl, ih]; rfl
theorem Rd.str {w : World} {ao : Option Addr} {L : List (List UInt8)} (h : Rd encS w ao L) (j : Nat) (hj : j < L.length) : ∃ bs off, ao = some ⟨bs, off, none⟩ ∧ bs < w.heap.size ∧ w.cell? ⟨bs, off + j, none⟩ = some (.string ⟨(L[j]).toArray⟩) := by
  obtain ⟨bs, off, e, hlt, hc⟩ := h j hj
  exact ⟨bs, off, e, hlt, by have := hc 0 _ rfl; simpa [encS] using this⟩
end Go.Proofs.Ytpbcglepecojmaa

namespace Go.Proofs.Ytpbcglepecojmaa
open Go.ChangeShapes Go.WideShapes Go.ChangeAt Go.RowKit Go.Deep

theorem cell_block9 {w : World} {a : Addr} {v : Value} (h : w.cell? a = some v) : a.block < w.heap.size := by
  unfold World.cell? at h
  apply Nat.lt_of_not_le; intro hle
  rw [Array.getElem?_eq_none hle] at h
  simp at h
set_option maxRecDepth 20000 in
theorem open_intsL {H : Type} {enc : TypeId × Value → H} {W : World} {base : Nat} {v : Value} {d : DataW H} {ps : List MemPlace} (hval : Value.okWide Try.prog W .any base 29 v) (h : DataW.Trod enc Try.prog W 0 (fun _ => true) true 29 v d ps) :
    ∃ ao cap S, v = .slice ao S.length cap ∧ Rd encI W ao S ∧ (∀ x ∈ S, -9223372036854775808 ≤ x ∧ x ≤ 9223372036854775807) ∧ S.length ≤ 9223372036854775807 ∧ S.length ≤ cap := by
  obtain ⟨a, len, cap, rfl⟩ := okWide_slice Try.underlying29 hval
  obtain ⟨fuel, hf⟩ := h
  rcases open_slice1 Try.underlying29 (by kernel_rfl) hf with ⟨hc, _⟩ | ⟨a', len', cap', m, k, V, D, Pl, hc, _, hl, hm, hmm, _, hall⟩
  · have hc2 : [Value.slice a len cap] = [Value.slice none 0 0] := hc
    simp only [List.cons.injEq, Value.slice.injEq, and_true] at hc2
    obtain ⟨rfl, rfl, rfl⟩ := hc2
    exact ⟨none, 0, [], rfl, Rd.nil _ _, (fun x hx => by simp at hx), Nat.zero_le _, Nat.le_refl _⟩
  · have hc2 : [Value.slice a len cap] = [Value.slice (some a') len' cap'] := hc
    simp only [List.cons.injEq, Value.slice.injEq, and_true] at hc2
    obtain ⟨rfl, rfl, rfl⟩ := hc2
    simp only [if_true] at hmm
    subst hmm
    have hj : ∀ i, i < len → ∃ s : Int, V i = .int .i64 s ∧ -9223372036854775808 ≤ s ∧ s ≤ 9223372036854775807 := by
      intro i hi
      obtain ⟨N, h1, _, hw⟩ := DataW.trod_int Try.underlying3 (hall i (by omega)).2
      simp only [List.cons.injEq, and_true] at h1
      have b := bounds_i64 hw
      exact ⟨N, h1, by omega, by omega⟩
    obtain ⟨f, hf2⟩ := choose_lt hj
    obtain ⟨bs, off, spot⟩ := a'
    by_cases h0 : 0 < m
    · have hspot : spot = none := by simpa [Addr.add] using World.cell?_spot (hall 0 (by omega)).1
      subst hspot
      refine ⟨some ⟨bs, off, none⟩, m, (List.range len).map f, by simp, ?_, ?_, by unfold maxLen at hm; rw [List.length_map, List.length_range]; omega, by rw [List.length_map, List.length_range]; exact hl⟩
      · intro j hjl
        have hjn : j < len := by simpa using hjl
        have e0 := (hf2 j hjn).1
        obtain ⟨c0, _⟩ := hall j (by omega)
        rw [e0] at c0
        have c0' : W.cell? ⟨bs, off + j, none⟩ = some (.int .i64 (f j)) := by simpa [Addr.add_lit] using c0
        refine ⟨bs, off, rfl, cell_block9 c0', fun i u hu => ?_⟩
        have hi0 : i = 0 := by
          have := (List.getElem?_eq_some_iff.1 hu).1
          simp [encI] at this; exact this
        subst hi0
        simp only [encI, List.getElem?_cons_zero, Option.some.injEq] at hu
        subst hu
        simpa [encI] using c0'
      · intro x hx
        obtain ⟨i, hi, rfl⟩ := List.mem_map.1 hx
        exact (hf2 i (List.mem_range.1 hi)).2
    · have hl0 : len = 0 := by omega
      subst hl0
      exact ⟨some ⟨bs, off, spot⟩, m, [], rfl, (fun j hj => by simp at hj), (fun x hx => by simp at hx), Nat.zero_le _, Nat.zero_le _⟩
end Go.Proofs.Ytpbcglepecojmaa

namespace Go.Proofs.Ytpbcglepecojmaa
open Go.RowKit Go.ChangeMaps Go.WideShapes

/-- Whatever an element is, it reads as itself. -/
abbrev RV : Value → Option (DataW Value × List MemPlace) := fun v => some (.held v, [])
abbrev Ent := List UInt8 × Value
def entL (x : Ent) : Lit × DataW Value := (.string x.1, .held x.2)
def esOf (L : List Ent) : List (Lit × DataW Value) := (L.map entL).foldr DataW.insert []
def dOf (L : List Ent) : DataW Value := .map (esOf L)
def Apart (L : List Ent) : Prop := L.Pairwise fun x y => x.1 ≠ y.1
/-- Without a key. -/
def without (k : List UInt8) (L : List Ent) : List Ent := L.filter fun x => x.1 != k
def hasK (k : List UInt8) (L : List Ent) : Bool := L.any fun x => x.1 == k
def getK (k : List UInt8) (L : List Ent) (z : Value) : Value := match L.find? fun x => x.1 == k with | some x => x.2 | none => z

theorem Apart.perm {L L' : List Ent} (h : Apart L) (hp : L.Perm L') : Apart L' := (hp.pairwise_iff (fun {_ _} h => Ne.symm h)).1 h
theorem Apart.without {L : List Ent} (h : Apart L) (k : List UInt8) : Apart (without k L) := h.filter _
theorem Apart.cons {L : List Ent} (h : Apart L) (k : List UInt8) (v : Value) : Apart ((k, v) :: Go.Proofs.Ytpbcglepecojmaa.without k L) :=
  List.pairwise_cons.2 ⟨fun y hy => by have := (List.mem_filter.1 hy).2; simp at this; exact fun e => this e.symm, h.without k⟩
theorem strKeys_ent (L : List Ent) : StrKeys (L.map entL) := by
  intro p hp; obtain ⟨x, _, rfl⟩ := List.mem_map.1 hp; exact ⟨x.1, rfl⟩
theorem apart_ent {L : List Ent} (h : Apart L) : (L.map entL).Pairwise (fun p q => p.1 ≠ q.1) := by
  rw [List.pairwise_map]
  exact h.imp (fun {a b} hn e => hn (by simpa [entL] using e))
theorem esOf_perm {L L' : List Ent} (h : Apart L) (hp : L.Perm L') : esOf L = esOf L' := by
  refine eq_of_perm_sorted ?_ (sorted_sorted _ (strKeys_ent L) (apart_ent h)) (sorted_sorted _ (strKeys_ent L') (apart_ent (h.perm hp)))
  exact (sorted_perm _).trans ((hp.map entL).trans (sorted_perm _).symm)
theorem dOf_perm {L L' : List Ent} (h : Apart L) (hp : L.Perm L') : dOf L = dOf L' := by unfold dOf; rw [esOf_perm h hp]
theorem same_str (a b : List UInt8) : Lit.sameKey (.string a) (.string b) = (a == b) := by simp [Lit.sameKey]
theorem notKey_ent (k : List UInt8) (L : List Ent) : (L.map entL).filter (notKey (.string k)) = (without k L).map entL := by
  rw [List.filter_map]
  congr 1
theorem del_dOf {L L' : List Ent} (h : Apart L) (k : List UInt8) (hp : L'.Perm (without k L)) : (dOf L).del (.string k) = dOf L' := by
  have := (sorted_del (k := .string k) (E' := L'.map entL) (strKeys_ent L) (apart_ent h) (by rw [notKey_ent]; exact hp.map entL)).1
  unfold dOf esOf
  rw [DataW.del_eq, this]
theorem put_dOf {L L' : List Ent} (h : Apart L) (k : List UInt8) (v : Value) (hp : L'.Perm ((k, v) :: without k L)) : (dOf L).put (.string k) (.held v) = dOf L' := by
  have := (sorted_put (k := .string k) (d := .held v) (E' := L'.map entL) ⟨k, rfl⟩ (strKeys_ent L) (apart_ent h) (by rw [notKey_ent]; exact hp.map entL)).1
  unfold dOf esOf
  rw [DataW.put_eq, this]
theorem any_esOf (f : Lit × DataW Value → Bool) (L : List Ent) : (esOf L).any f = L.any fun x => f (entL x) := by
  induction L with
  | nil => rfl
  | cons x l ih => show (DataW.insert (entL x) (esOf l)).any f = _; rw [Maps.any_insert, ih]; rfl
theorem has_dOf (L : List Ent) (k : List UInt8) : Maps.has (dOf L) (.string k) = hasK k L := by
  show (esOf L).any _ = _
  rw [any_esOf]
  unfold hasK
  congr 1
theorem size_dOf (L : List Ent) : Maps.size (dOf L) = L.length := by
  show (esOf L).length = _
  unfold esOf
  rw [length_sorted, List.length_map]
theorem find_esOf (k : List UInt8) : ∀ L : List Ent, Apart L → (esOf L).find? (fun p => p.1.sameKey (.string k)) = (L.find? fun x => x.1 == k).map entL
  | [], _ => rfl
  | x :: l, h => by
    obtain ⟨h1, h2⟩ := List.pairwise_cons.1 h
    show (DataW.insert (entL x) (esOf l)).find? _ = _
    by_cases hk : x.1 = k
    · have hx : (fun p : Lit × DataW Value => p.1.sameKey (.string k)) (entL x) = true := by simp [entL, Lit.sameKey, hk]
      rw [Maps.find_insert_hit hx]
      · simp [hk]
      · intro p hp
        obtain ⟨y, hy, rfl⟩ := List.mem_map.1 ((sorted_perm _).mem_iff.1 hp)
        have := h1 y hy
        rw [hk] at this
        simp [entL, Lit.sameKey]; exact fun e => this e.symm
    · have hx : (fun p : Lit × DataW Value => p.1.sameKey (.string k)) (entL x) = false := by simp [entL, Lit.sameKey, hk]
      rw [Maps.find_insert_miss hx, find_esOf k l h2, List.find?_cons_of_neg (by simpa using hk)]
theorem atKey_dOf {L : List Ent} (h : Apart L) (k : List UInt8) (z : Value) : (dOf L).atKey (.string k) (.held z) = .held (getK k L z) := by
  unfold DataW.atKey dOf getK
  simp only [find_esOf k L h]
  cases L.find? fun x => x.1 == k <;> rfl
theorem strKeys_dOf (L : List Ent) : (strKeys (dOf L)).Perm (L.map (·.1)) := by
  show ((esOf L).map fun p => strOf p.1).Perm _
  refine ((sorted_perm _).map _).trans ?_
  rw [List.map_map]
  exact .refl _

/-- Block b is a map of just these entries. -/
structure MapAt (P : Program) (K : TypeId) (w : World) (b : Nat) (L : List Ent) : Prop where
  ap : Apart L
  le : ∀ x ∈ L, x.1.length ≤ maxLen
  own : w.ownsMap P K RV b L.length (dOf L)

section
variable {P : Program} {K : TypeId} {w w' : World} {b : Nat} {L : List Ent}
theorem ownsMap_tight {n : Nat} (h : w.ownsMap P K RV b n (dOf L)) : w.ownsMap P K RV b L.length (dOf L) := by
  obtain ⟨es, clock, hb, F, hs, hD⟩ := h
  refine ⟨es, clock, hb, F, ?_, hD⟩
  have := congrArg Maps.size hD
  rw [size_dOf] at this
  simp [Maps.size, length_sorted] at this
  omega
theorem MapAt.lt (h : MapAt P K w b L) : b < w.heap.size := h.own.lt
theorem MapAt.perm (h : MapAt P K w b L) {L' : List Ent} (hp : L.Perm L') : MapAt P K w b L' :=
  ⟨h.ap.perm hp, fun x hx => h.le x (hp.mem_iff.2 hx), by rw [← dOf_perm h.ap hp, ← hp.length_eq]; exact h.own⟩
theorem MapAt.same (h : MapAt P K w b L) (hb : w'.heap[b]? = w.heap[b]?) : MapAt P K w' b L := by
  refine ⟨h.ap, h.le, ?_⟩
  obtain ⟨es, clock, hh, r⟩ := h.own
  exact ⟨es, clock, hb.trans hh, r⟩
theorem MapAt.kept {S : Nat → Prop} (h : MapAt P K w b L) (hm : Mod S w w') (hb : ¬ S b) : MapAt P K w' b L := h.same (hm.block b h.lt hb)
theorem MapAt.old (h : MapAt P K w b L) (hb : Below w.heap.size w w') : MapAt P K w' b L := h.same (hb.block b h.lt)
theorem MapAt.notCells (h : MapAt P K w b L) {g : Nat} {cs : Array Value} {T : TypeId} {fr : Nat × Nat} (hg : w.heap[g]? = some (.cells cs T fr)) : g ≠ b := by
  rintro rfl
  obtain ⟨es, clock, hh, _⟩ := h.own
  rw [hh] at hg; cases hg
theorem MapAt.made (P : Program) (K : TypeId) (w : World) : MapAt P K (w.alloc (.map #[] 0)) w.heap.size [] :=
  ⟨List.Pairwise.nil, (fun _ h => by cases h), World.ownsMap_made w P K RV⟩
theorem Mod.turned (h : w.mapTurned w' b) : Mod (fun k => k = b) w w' := by
  have hg := h.grown
  exact ⟨hg.os, hg.tape, hg.output, hg.size, fun k hk hn => hg.block k hk (fun e => hn (Option.some.inj e))⟩
theorem keyStr (hK : P.underlying K = some .string) (k : List UInt8) (hk : k.length ≤ maxLen) : keyOf P K (.string ⟨k.toArray⟩) = some (.string k) := by
  simp [keyOf, hK, mapKey, ByteArray.size, hk]
variable {t e : TypeId}
theorem MapAt.len (h : MapAt P K w b L) (ht : P.underlying t = some (.map K e)) (ty : TypeId) : (Builtin.len_ #[t] ty #[.map (some b)]).run P w = .ok (.int .i64 (L.length : Nat)) w := by
  rw [h.own.len ht ty, size_dOf]
theorem MapAt.look (h : MapAt P K w b L) (hK : P.underlying K = some .string) (ht : P.underlying t = some (.map K e)) {z : Value} (hz : (zeroValue e).run P w = .ok z w) (k : List UInt8) (hk : k.length ≤ maxLen) :
    (Instr.lookup t (.map (some b)) (.string ⟨k.toArray⟩) false).run P w = .ok (getK k L z) w := by
  obtain ⟨v, ps, hr, hv⟩ := h.own.lookup (Maps.string_keyed hK) ht hz (zd := .held z) (zp := []) rfl (keyStr hK k hk)
  rw [atKey_dOf h.ap] at hv
  simp only [Option.some.injEq, Prod.mk.injEq, DataW.held.injEq] at hv
  rw [hr, hv.1]
theorem MapAt.look_ok (h : MapAt P K w b L) (hK : P.underlying K = some .string) (ht : P.underlying t = some (.map K e)) {z : Value} (hz : (zeroValue e).run P w = .ok z w) (k : List UInt8) (hk : k.length ≤ maxLen) :
    (Instr.lookup t (.map (some b)) (.string ⟨k.toArray⟩) true).run P w = .ok (.tuple #[getK k L z, .bool (hasK k L)]) w := by
  obtain ⟨v, ps, hr, hv⟩ := h.own.look_ok (Maps.string_keyed hK) ht hz (zd := .held z) (zp := []) rfl (keyStr hK k hk)
  rw [atKey_dOf h.ap] at hv
  simp only [Option.some.injEq, Prod.mk.injEq, DataW.held.injEq] at hv
  rw [hr, hv.1, has_dOf]
theorem MapAt.drop (h : MapAt P K w b L) (hK : P.underlying K = some .string) (ht : P.underlying t = some (.map K e)) (k : List UInt8) (hk : k.length ≤ maxLen) (ty : TypeId) :
    ∃ w', (Builtin.delete_ #[t, K] ty #[.map (some b), .string ⟨k.toArray⟩]).run P w = .ok (.tuple #[]) w' ∧ MapAt P K w' b (without k L) ∧ Mod (fun i => i = b) w w' := by
  obtain ⟨w', hr, ho, hm⟩ := h.own.drop (Maps.string_keyed hK) ht (keyStr hK k hk) ty
  rw [del_dOf h.ap k (.refl _)] at ho
  exact ⟨w', hr, ⟨h.ap.without k, fun x hx => h.le x (List.mem_filter.1 hx).1, ownsMap_tight ho⟩, Mod.turned hm⟩
theorem MapAt.store (h : MapAt P K w b L) (hK : P.underlying K = some .string) (ht : P.underlying t = some (.map K e)) (hn : L.length < maxLen) (k : List UInt8) (hk : k.length ≤ maxLen) (v : Value) :
    ∃ w', (Instr.mapUpdate t (.map (some b)) (.string ⟨k.toArray⟩) v).run P w = .ok () w' ∧ MapAt P K w' b ((k, v) :: without k L) ∧ Mod (fun i => i = b) w w' := by
  obtain ⟨w', hr, ho, hm⟩ := h.own.store (Maps.string_keyed hK) ht hn (keyStr hK k hk) (val := v) (d := .held v) (ps := []) rfl
  rw [put_dOf h.ap k v (.refl _)] at ho
  refine ⟨w', hr, ⟨h.ap.cons k v, ?_, ownsMap_tight ho⟩, Mod.turned hm⟩
  intro x hx
  rcases List.mem_cons.1 hx with rfl | hx
  · exact hk
  · exact h.le x (List.mem_filter.1 hx).1
end
end Go.Proofs.Ytpbcglepecojmaa

namespace Go.Proofs.Ytpbcglepecojmaa
open Go

/-- How many of the first n are not listed yet. -/
def unl (L : Array Bool) : Nat → Nat
  | 0 => 0
  | n + 1 => unl L n + (if L.getD n true then 0 else 1)
theorem unl_le (L : Array Bool) : ∀ n, unl L n ≤ n
  | 0 => Nat.le_refl _
  | n + 1 => by have := unl_le L n; simp only [unl]; split <;> omega
theorem set_self (L : Array Bool) (i : Nat) : (L.setIfInBounds i true).getD i true = true := by
  by_cases h : i < L.size
  · simp [h]
  · simp [h]
theorem unl_set (L : Array Bool) (i : Nat) (hi : L.getD i true = false) : ∀ n, unl (L.setIfInBounds i true) n + (if i < n then 1 else 0) = unl L n
  | 0 => rfl
  | n + 1 => by
    have ih := unl_set L i hi n
    simp only [unl]
    by_cases h : n = i
    · subst h
      rw [set_self, hi]
      simp at ih ⊢
      exact ih
    · rw [getD_set_ne true (Ne.symm h)]
      generalize (if L.getD n true = true then 0 else 1) = z
      by_cases h2 : i < n
      · rw [if_pos h2] at ih; rw [if_pos (by omega)]; omega
      · rw [if_neg h2] at ih; rw [if_neg (by omega)]; omega
theorem unl_pos (L : Array Bool) : ∀ n i, i < n → L.getD i true = false → 0 < unl L n
  | n + 1, i, h, hi => by
    simp only [unl]
    by_cases e : i = n
    · subst e; rw [hi]; simp
    · have := unl_pos L n i (by omega) hi; omega

/-- What is in the slots that the operations know: those of the list. -/
def AllV (V : Tmp → Value → World → Prop) (a : Act) (w : World) : List Tmp → Prop
  | [] => True
  | t :: r => V t (a.eval (.tmp t)) w ∧ AllV V a w r
theorem AllV.of {V : Tmp → Value → World → Prop} {a : Act} {w : World} : ∀ {l : List Tmp}, (∀ t ∈ l, V t (a.eval (.tmp t)) w) → AllV V a w l
  | [], _ => trivial
  | t :: r, h => ⟨h t (by simp), AllV.of (fun u hu => h u (by simp [hu]))⟩

/-- The slots whose values an operation waits for. -/
def waits (md : Region.Mode) (ops : Array Oper) (o : Oper) : List Tmp :=
  (o.after.toList.filter (Region.binds md)).filterMap fun e => (ops[e.on]?).bind (·.dst)

structure Agree (ops : Array Oper) (a0 a : Act) : Prop where
  size : a.tmps.size = a0.tmps.size
  defers : a.defers = a0.defers
  same : ∀ t, (∀ (i : Nat) (o : Oper), ops[i]? = some o → o.dst ≠ some t) → a.eval (.tmp t) = a0.eval (.tmp t)

def drawOk (ops : Array Oper) (N : Nat) : Bool :=
  (List.range ops.size).all fun i => match ops[i]? with
    | none => true
    | some o => o.after.all (fun e => decide (e.on < i)) && (match o.dst with
      | none => true
      | some d => decide (d < N) && (List.range ops.size).all fun j => j == i || (match ops[j]? with | some p => p.dst != some d | none => true))

structure DrawOk (ops : Array Oper) (N : Nat) : Prop where
  before : ∀ (i : Nat) (o : Oper), ops[i]? = some o → ∀ e ∈ o.after, e.on < i
  room : ∀ (i : Nat) (o : Oper) (d : Tmp), ops[i]? = some o → o.dst = some d → d < N
  apart : ∀ (i j : Nat) (o p : Oper) (d : Tmp), ops[i]? = some o → ops[j]? = some p → j ≠ i → o.dst = some d → p.dst ≠ some d
theorem drawOk_spec {ops : Array Oper} {N : Nat} (h : drawOk ops N = true) : DrawOk ops N := by
  have key : ∀ (i : Nat) (o : Oper), ops[i]? = some o → o.after.all (fun e => decide (e.on < i)) = true ∧ (match o.dst with
      | none => true
      | some d => decide (d < N) && (List.range ops.size).all fun j => j == i || (match ops[j]? with | some p => p.dst != some d | none => true)) = true := by
    intro i o ho
    have hlt : i < ops.size := (Array.getElem?_eq_some_iff.1 ho).1
    have := List.all_eq_true.1 h i (List.mem_range.2 hlt)
    simp only [ho, Bool.and_eq_true] at this
    exact this
  refine ⟨fun i o ho e he => ?_, fun i o d ho hd => ?_, fun i j o p d ho hp hj hd hpd => ?_⟩
  · have := Array.all_eq_true_iff_forall_mem.1 (key i o ho).1 e he
    exact of_decide_eq_true this
  · have := (key i o ho).2
    rw [hd] at this
    simp only [Bool.and_eq_true] at this
    exact of_decide_eq_true this.1
  · have := (key i o ho).2
    rw [hd] at this
    simp only [Bool.and_eq_true] at this
    have h2 := List.all_eq_true.1 this.2 j (List.mem_range.2 (Array.getElem?_eq_some_iff.1 hp).1)
    simp only [hp, Bool.or_eq_true, beq_iff_eq, hj, false_or, bne_iff_ne, ne_eq] at h2
    exact h2 hpd

/-- What one operation owes. -/
def Owes (P : Program) (md : Region.Mode) (ops : Array Oper) (Q : Exit → Act → World → Prop) (V : Tmp → Value → World → Prop) (G : World → Prop) (a0 : Act) (i : Nat) (o : Oper) : Prop :=
  ∀ a w, Agree ops a0 a → G w → AllV V a w (waits md ops o) →
    wpOp P ops Q i (fun a' w' => ∃ v, a' = a.put o.dst v ∧ (∀ t, o.dst = some t → V t v w') ∧ G w' ∧ ∀ t x, V t x w → V t x w') a w

theorem eval_put_same {a : Act} {d : Tmp} (h : d < a.tmps.size) (v : Value) : (a.put (some d) v).eval (.tmp d) = v := by
  simp [Act.put, Act.eval, h]
theorem size_put (a : Act) (d : Option Tmp) (v : Value) : (a.put d v).tmps.size = a.tmps.size := by
  cases d <;> simp [Act.put]
theorem defers_put (a : Act) (d : Option Tmp) (v : Value) : (a.put d v).defers = a.defers := by
  cases d <;> rfl

section
variable {P : Program} {ops : Array Oper} {Q : Exit → Act → World → Prop} {md : Region.Mode} {V : Tmp → Value → World → Prop} {G : World → Prop} {a0 : Act}

theorem ready_some (hok : DrawOk ops a0.tmps.size) {L : Array Bool} (hL : L.size = ops.size) : ∀ i, i < ops.size → L.getD i true = false → ∃ j, j ∈ Region.ready md ops L := by
  intro i
  induction i using Nat.strongRecOn with
  | ind i ih =>
    intro hi hun
    have ho : ops[i]? = some ops[i] := Array.getElem?_eq_getElem hi
    by_cases h : ∀ e ∈ ops[i].after, Region.binds md e = true → L.getD e.on false = true
    · exact ⟨i, mem_ready.2 ⟨hun, _, ho, h⟩⟩
    · have ⟨e, he⟩ := Classical.not_forall.1 h
      have ⟨he1, he2⟩ := Classical.not_imp.1 he
      have ⟨hb, hf⟩ := Classical.not_imp.1 he2
      have hlt := hok.before i _ ho e he1
      have hel : e.on < L.size := by omega
      refine ih e.on hlt (by omega) ?_
      simp [hel] at hf ⊢
      exact hf

theorem wpAny_vals (hok : DrawOk ops a0.tmps.size) (step : ∀ (i : Nat) (o : Oper), ops[i]? = some o → Owes P md ops Q V G a0 i o)
    (fin : ∀ a w, Agree ops a0 a → G w → (∀ (i : Nat) (o : Oper) (t : Tmp), ops[i]? = some o → o.dst = some t → V t (a.eval (.tmp t)) w) → Q .normal a w) :
    ∀ (fuel : Nat) (L : Array Bool) (a : Act) (w : World), unl L ops.size ≤ fuel → L.size = ops.size → Agree ops a0 a → G w →
      (∀ (i : Nat) (o : Oper) (t : Tmp), ops[i]? = some o → L.getD i true = true → o.dst = some t → V t (a.eval (.tmp t)) w) → wpAny P md ops Q fuel L a w := by
  have allL : ∀ L : Array Bool, L.size = ops.size → Region.ready md ops L = [] → ∀ (i : Nat) (o : Oper), ops[i]? = some o → L.getD i true = true := by
    intro L hL hr i o ho
    cases hc : L.getD i true with
    | true => rfl
    | false =>
      obtain ⟨j, hj⟩ := ready_some (md := md) hok hL i (Array.getElem?_eq_some_iff.1 ho).1 hc
      rw [hr] at hj; cases hj
  intro fuel
  induction fuel with
  | zero =>
    intro L a w hu hL ha hG hv
    have hr : Region.ready md ops L = [] := by
      apply List.eq_nil_iff_forall_not_mem.2
      intro j hj
      obtain ⟨hun, o, ho, _⟩ := mem_ready.1 hj
      have := unl_pos L ops.size j (Array.getElem?_eq_some_iff.1 ho).1 hun
      omega
    exact ⟨hr, fin a w ha hG (fun i o t ho ht => hv i o t ho (allL L hL hr i o ho) ht)⟩
  | succ fuel ih =>
    intro L a w hu hL ha hG hv
    refine ⟨fun hr => fin a w ha hG (fun i o t ho ht => hv i o t ho (allL L hL hr i o ho) ht), fun i hi => ?_⟩
    obtain ⟨hun, o, ho, hall⟩ := mem_ready.1 hi
    have hil : i < ops.size := (Array.getElem?_eq_some_iff.1 ho).1
    have hw : AllV V a w (waits md ops o) := AllV.of (by
      intro t ht
      unfold waits at ht
      obtain ⟨e, he, hd⟩ := List.mem_filterMap.1 ht
      obtain ⟨he1, he2⟩ := List.mem_filter.1 he
      cases hj : ops[e.on]? with
      | none => rw [hj] at hd; cases hd
      | some p =>
        rw [hj] at hd
        have hl := hall e (by simpa using he1) he2
        have hel : e.on < L.size := by rw [hL]; exact (Array.getElem?_eq_some_iff.1 hj).1
        exact hv e.on p t hj (by simp [hel] at hl ⊢; exact hl) hd)
    refine wpOp_mono (fun a' w' h => ?_) (step i o ho a w ha hG hw)
    obtain ⟨v, rfl, hvi, hG', hst⟩ := h
    refine ih _ _ _ ?_ (by simpa using hL) ?_ hG' ?_
    · have := unl_set L i hun ops.size
      rw [if_pos hil] at this; omega
    · refine ⟨by rw [size_put]; exact ha.size, by rw [defers_put]; exact ha.defers, fun t ht => ?_⟩
      rw [Act.eval_put (fun d hd e => ht i o ho (by cases e; exact hd))]
      exact ha.same t ht
    · intro j p t hp hl ht
      by_cases e : j = i
      · subst e
        rw [ho] at hp; cases hp
        rw [ht, eval_put_same (by rw [ha.size]; exact hok.room j o t ho ht)]
        exact hvi t ht
      · rw [Act.eval_put (fun d hd e2 => by cases e2; exact hok.apart i j o p t ho hp e hd ht)]
        rw [getD_set_ne true (Ne.symm e)] at hl
        exact hst _ _ (hv j p t hp hl ht)

/-- The obligations one after the other. -/
def OweAll (P : Program) (md : Region.Mode) (ops : Array Oper) (Q : Exit → Act → World → Prop) (V : Tmp → Value → World → Prop) (G : World → Prop) (a0 : Act) : Nat → List Oper → Prop
  | _, [] => True
  | k, o :: r => Owes P md ops Q V G a0 k o ∧ OweAll P md ops Q V G a0 (k + 1) r
theorem OweAll.get : ∀ {l : List Oper} {k : Nat}, OweAll P md ops Q V G a0 k l → ∀ (i : Nat) (o : Oper), l[i]? = some o → Owes P md ops Q V G a0 (k + i) o
  | _ :: _, k, h, 0, o, hi => by cases hi; exact h.1
  | _ :: r, k, h, i + 1, o, hi => by
    have := OweAll.get h.2 i o (by simpa using hi)
    rwa [show k + 1 + i = k + (i + 1) by omega] at this
  | [], _, _, i, o, hi => by simp at hi
theorem OweAll.cons {k : Nat} {o : Oper} {r : List Oper} (h : Owes P md ops Q V G a0 k o) (h2 : OweAll P md ops Q V G a0 (k + 1) r) : OweAll P md ops Q V G a0 k (o :: r) := ⟨h, h2⟩
theorem OweAll.nil {k : Nat} : OweAll P md ops Q V G a0 k [] := trivial

/-- A region that draws its order. -/
theorem wp_region_vals {id : Nat} {w : World} (V : Tmp → Value → World → Prop) (G : World → Prop) (N : Nat) (hm : P.follows .mixedOrders = true) (hok : drawOk ops N = true) (hN : a0.tmps.size = N) (hG : G w.drew)
    (step : OweAll P .any ops Q V G a0 0 ops.toList)
    (fin : ∀ a w, Agree ops a0 a → G w → (∀ (i : Nat) (o : Oper) (t : Tmp), ops[i]? = some o → o.dst = some t → V t (a.eval (.tmp t)) w) → Q .normal a w) : (Code.region id ops true).wp P Q a0 w := by
  subst hN
  have hok := drawOk_spec hok
  refine wp_region_any hm (wpAny_vals hok (V := V) (G := G) (fun i o ho => ?_) fin ops.size _ a0 _ (unl_le _ _) (by simp) ⟨rfl, rfl, fun _ _ => rfl⟩ hG ?_)
  · have := step.get i o (by simpa using ho)
    rwa [Nat.zero_add] at this
  · intro i o t ho hl _
    have hlt := (Array.getElem?_eq_some_iff.1 ho).1
    simp [hlt] at hl

/-- The slots of the operations. -/
def dsts (ops : Array Oper) : List Tmp := ops.toList.filterMap (·.dst)
def puts (f : Tmp → Value) (l : List Tmp) (b : Act) : Act := l.foldl (fun b t => b.put (some t) (f t)) b
theorem puts_spec (f : Tmp → Value) : ∀ (l : List Tmp) (b : Act), (∀ t ∈ l, t < b.tmps.size) →
    (puts f l b).tmps.size = b.tmps.size ∧ (puts f l b).defers = b.defers ∧ ∀ t, (puts f l b).eval (.tmp t) = if t ∈ l then f t else b.eval (.tmp t)
  | [], b, _ => ⟨rfl, rfl, fun t => by simp [puts]⟩
  | u :: r, b, h => by
    have ih := puts_spec f r (b.put (some u) (f u)) (fun t ht => by rw [size_put]; exact h t (by simp [ht]))
    refine ⟨ih.1.trans (size_put _ _ _), ih.2.1.trans (defers_put _ _ _), fun t => ?_⟩
    have e : puts f (u :: r) b = puts f r (b.put (some u) (f u)) := rfl
    rw [e, ih.2.2 t]
    by_cases h1 : t ∈ r
    · rw [if_pos h1, if_pos (by simp [h1])]
    · rw [if_neg h1]
      by_cases h2 : t = u
      · subst h2; rw [eval_put_same (h t (by simp)), if_pos (by simp)]
      · rw [Act.eval_put (fun d hd e2 => by cases hd; cases e2; exact h2 rfl), if_neg (by simp [h1, h2])]
theorem act_ext {a b : Act} (hs : a.tmps.size = b.tmps.size) (hd : a.defers = b.defers) (h : ∀ t, a.eval (.tmp t) = b.eval (.tmp t)) : a = b := by
  obtain ⟨ta, da⟩ := a
  obtain ⟨tb, db⟩ := b
  have : ta = tb := by
    apply Array.ext hs
    intro i h1 h2
    have := h i
    simpa [Act.eval, h1, h2] using this
  subst this
  cases hd
  rfl
theorem Agree.puts {a : Act} (ha : Agree ops a0 a) (hok : DrawOk ops a0.tmps.size) : a = puts (fun t => a.eval (.tmp t)) (dsts ops) a0 := by
  have hm : ∀ t ∈ dsts ops, ∃ (i : Nat) (o : Oper), ops[i]? = some o ∧ o.dst = some t := by
    intro t ht
    obtain ⟨o, ho, hd⟩ := List.mem_filterMap.1 ht
    obtain ⟨i, hi, e⟩ := List.getElem_of_mem ho
    refine ⟨i, o, ?_, hd⟩
    rw [← e]
    simp at hi
    simp [hi]
  have hp := puts_spec (fun t => a.eval (.tmp t)) (dsts ops) a0 (fun t ht => by obtain ⟨i, o, hi, hd⟩ := hm t ht; exact hok.room i o t hi hd)
  refine act_ext (ha.size.trans hp.1.symm) (ha.defers.trans hp.2.1.symm) (fun t => ?_)
  rw [hp.2.2 t]
  by_cases h : t ∈ dsts ops
  · rw [if_pos h]
  · rw [if_neg h]
    refine ha.same t (fun i o hi hd => h ?_)
    exact List.mem_filterMap.2 ⟨o, by simpa using Array.mem_of_getElem? hi, hd⟩

/-- A region that draws its order, what follows it at a known frame. -/
theorem wp_region_puts {id : Nat} {w : World} (V : Tmp → Value → World → Prop) (G : World → Prop) (N : Nat) (hm : P.follows .mixedOrders = true) (hok : drawOk ops N = true) (hN : a0.tmps.size = N) (hG : G w.drew)
    (step : OweAll P .any ops Q V G a0 0 ops.toList)
    (fin : ∀ f w, G w → (∀ (i : Nat) (o : Oper) (t : Tmp), ops[i]? = some o → o.dst = some t → V t (f t) w) → Q .normal (puts f (dsts ops) a0) w) : (Code.region id ops true).wp P Q a0 w :=
  wp_region_vals V G N hm hok hN hG step (fun a w ha hG hv => by
    subst hN
    rw [ha.puts (drawOk_spec hok)]
    exact fin _ w hG hv)

theorem AllV.get {a : Act} {w : World} : ∀ {l : List Tmp}, AllV V a w l → ∀ t, l.contains t = true → V t (a.eval (.tmp t)) w
  | [], _, t, h => by simp at h
  | u :: r, hh, t, h => by
    by_cases e : t = u
    · subst e; exact hh.1
    · exact AllV.get hh.2 t (by simpa [e] using h)
theorem Agree.outer {a : Act} (h : Agree ops a0 a) (t : Tmp) (ht : ops.all (fun o => o.dst != some t) = true) : a.eval (.tmp t) = a0.eval (.tmp t) := by
  refine h.same t (fun i o ho e => ?_)
  have := Array.all_eq_true_iff_forall_mem.1 ht o (Array.mem_of_getElem? ho)
  rw [e] at this; simp at this
theorem getD_bool {a : Act} {t : Tmp} {b : Bool} (h : a.eval (.tmp t) = .bool b) : a.tmps[t]? = some (.bool b) := by
  unfold Act.eval at h
  cases hc : a.tmps[t]? with
  | none => simp [hc, undef] at h
  | some x => simp [hc] at h; rw [h]
theorem wanted_of {o : Oper} {a : Act} {g : Nat} {want : Bool} {t : Tmp} (hg : o.guard = some (g, want)) (hd : (ops[g]?).bind (·.dst) = some t) (h : a.eval (.tmp t) = .bool want) : Region.wanted o (yielded ops a.tmps) = true := by
  unfold Region.wanted yielded
  rw [hg]
  simp only [hd, Option.bind_some, getD_bool h]
  simp
theorem wanted_free {o : Oper} {a : Act} (hg : o.guard = none) : Region.wanted o (yielded ops a.tmps) = true := by
  unfold Region.wanted; rw [hg]

/-- An operation that yields a value and turns nothing. -/
theorem owes_val {i : Nat} {o : Oper} {t : Tmp} (hi : ops[i]? = some o) (ht : o.dst = some t) (h : ∀ a w, Agree ops a0 a → G w → AllV V a w (waits md ops o) →
    ∃ v, Region.wanted o (yielded ops a.tmps) = true ∧ (execOp a.eval o).run P w = .ok (.value v) w ∧ V t v w) : Owes P md ops Q V G a0 i o := by
  intro a w ha hG hV
  obtain ⟨v, hw, hr, hv⟩ := h a w ha hG hV
  unfold wpOp
  rw [hi]
  simp only [hw, if_true, Oper.wp, hr, Oper.upon]
  exact .inl ⟨v, rfl, fun u hu => by rw [ht] at hu; cases hu; exact hv, hG, fun _ _ h => h⟩
/-- A call. -/
theorem owes_call {i : Nat} {o : Oper} {t : Tmp} (hi : ops[i]? = some o) (ht : o.dst = some t) (f : FuncId) (h : ∀ a w, Agree ops a0 a → G w → AllV V a w (waits md ops o) →
    ∃ args, Region.wanted o (yielded ops a.tmps) = true ∧ (execOp a.eval o).run P w = .ok (.enter f args) w ∧
      Calls P f args w fun e w' => ∃ v, e = .returned v ∧ V t v w' ∧ G w' ∧ ∀ t x, V t x w → V t x w') : Owes P md ops Q V G a0 i o := by
  intro a w ha hG hV
  obtain ⟨args, hw, hr, hc⟩ := h a w ha hG hV
  unfold wpOp
  rw [hi]
  simp only [hw, if_true, Oper.wp, hr, Oper.upon]
  refine .inl (hc.mono ?_)
  rintro e w' ⟨v, rfl, h1, h2, h3⟩
  exact ⟨v, rfl, fun u hu => by rw [ht] at hu; cases hu; exact h1, h2, h3⟩
end
end Go.Proofs.Ytpbcglepecojmaa

namespace Go.Proofs.Ytpbcglepecojmaa
open Go.RowKit

/-- What stays where nothing below turns. -/
structure Stays where
  p : Value → World → Prop
  old : ∀ {v : Value} {w w' : World}, p v w → Below w.heap.size w w' → p v w'
inductive Kd where
  | any
  | eq (v : Value)
  | st (s : Stays)
def VK : Kd → Value → World → Prop
  | .any, _, _ => True
  | .eq x, v, _ => v = x
  | .st s, v, w => s.p v w
theorem VK.old {k : Kd} {v : Value} {w w' : World} (h : VK k v w) (hb : Below w.heap.size w w') : VK k v w' := by
  cases k with
  | any => trivial
  | eq x => exact h
  | st s => exact s.old h hb
theorem not_wanted {ops : Array Oper} {o : Oper} {a : Act} {g : Nat} {want : Bool} {t : Tmp} {v : Value} (hg : o.guard = some (g, want)) (hd : (ops[g]?).bind (·.dst) = some t) (h : a.eval (.tmp t) = v) (hv : v ≠ .bool want) : Region.wanted o (yielded ops a.tmps) = false := by
  unfold Region.wanted yielded
  rw [hg]
  simp only [hd, Option.bind_some]
  unfold Act.eval at h
  cases hc : a.tmps[t]? with
  | none => rfl
  | some x =>
    simp [hc] at h
    subst h
    cases x with
    | bool b =>
      simp only [beq_eq_false_iff_ne, ne_eq, Option.some.injEq]
      intro e; exact hv (by rw [e])
    | _ => rfl
section
variable {P : Program} {ops : Array Oper} {Q : Exit → Act → World → Prop} {md : Region.Mode} {K : Tmp → Kd} {W : World} {a0 : Act}
/-- An operation that is not wanted. -/
theorem owesK_not {i : Nat} {o : Oper} {t : Tmp} (hi : ops[i]? = some o) (ht : o.dst = some t)
    (h : ∀ a w, Agree ops a0 a → Below W.heap.size W w → AllV (fun t v w => VK (K t) v w) a w (waits md ops o) → Region.wanted o (yielded ops a.tmps) = false ∧ VK (K t) undef w) : Owes P md ops Q (fun t v w => VK (K t) v w) (fun w => Below W.heap.size W w) a0 i o := by
  intro a w ha hG hV
  obtain ⟨hw, hv⟩ := h a w ha hG hV
  unfold wpOp
  rw [hi]
  simp only [hw]
  exact ⟨undef, rfl, fun u hu => by rw [ht] at hu; cases hu; exact hv, hG, fun _ _ h => h⟩
/-- An operation that yields a value, and may make memory. -/
theorem owesK {i : Nat} {o : Oper} {t : Tmp} (hi : ops[i]? = some o) (ht : o.dst = some t) (h : ∀ a w, Agree ops a0 a → Below W.heap.size W w → AllV (fun t v w => VK (K t) v w) a w (waits md ops o) →
    ∃ v w', Region.wanted o (yielded ops a.tmps) = true ∧ (execOp a.eval o).run P w = .ok (.value v) w' ∧ Below w.heap.size w w' ∧ VK (K t) v w') : Owes P md ops Q (fun t v w => VK (K t) v w) (fun w => Below W.heap.size W w) a0 i o := by
  intro a w ha hG hV
  obtain ⟨v, w', hw, hr, hb, hv⟩ := h a w ha hG hV
  unfold wpOp
  rw [hi]
  simp only [hw, if_true, Oper.wp, hr, Oper.upon]
  exact .inl ⟨v, rfl, fun u hu => by rw [ht] at hu; cases hu; exact hv, hG.trans (hb.mono hG.size), fun _ _ h => VK.old h hb⟩
/-- A call. -/
theorem owesK_call {i : Nat} {o : Oper} {t : Tmp} (hi : ops[i]? = some o) (ht : o.dst = some t) (f : FuncId) (h : ∀ a w, Agree ops a0 a → Below W.heap.size W w → AllV (fun t v w => VK (K t) v w) a w (waits md ops o) →
    ∃ args, Region.wanted o (yielded ops a.tmps) = true ∧ (execOp a.eval o).run P w = .ok (.enter f args) w ∧
      Calls P f args w fun e w' => ∃ v, e = .returned v ∧ VK (K t) v w' ∧ Below w.heap.size w w') : Owes P md ops Q (fun t v w => VK (K t) v w) (fun w => Below W.heap.size W w) a0 i o := by
  intro a w ha hG hV
  obtain ⟨args, hw, hr, hc⟩ := h a w ha hG hV
  unfold wpOp
  rw [hi]
  simp only [hw, if_true, Oper.wp, hr, Oper.upon]
  refine .inl (hc.mono ?_)
  rintro e w' ⟨v, rfl, h1, hb⟩
  exact ⟨v, rfl, fun u hu => by rw [ht] at hu; cases hu; exact h1, hG.trans (hb.mono hG.size), fun _ _ h => VK.old h hb⟩
end
end Go.Proofs.Ytpbcglepecojmaa

namespace Go.Proofs.Ytpbcglepecojmaa
open Go

/-- Each of the chain waits for the one ahead of it. -/
def chainOk (md : Region.Mode) (ops : Array Oper) (C : List Nat) : Bool :=
  (List.range C.length).all fun m => match C[m]?, C[m + 1]? with
    | some i, some j => (match ops[j]? with | some p => p.after.any (fun e => Region.binds md e && e.on == i) | none => false)
    | _, _ => true
/-- Operation j waits for i, by n edges at most. -/
def reach (md : Region.Mode) (ops : Array Oper) : Nat → Nat → Nat → Bool
  | 0, _, _ => false
  | n + 1, j, i => match ops[j]? with
    | some p => p.after.any (fun e => Region.binds md e && (e.on == i || reach md ops n e.on i))
    | none => false
/-- The chain's place b waits for operation i (or there is no such place). -/
def aheadOf (md : Region.Mode) (ops : Array Oper) (C : List Nat) (i b : Nat) : Bool :=
  b == C.length || (match C[b]? with
    | some j => reach md ops 16 j i
    | none => false)

/-- Only slots of the operations turn; that of a chain's operation that isn't done yet hasn't. -/
structure AgreeC (ops : Array Oper) (C : List Nat) (k : Nat) (a0 a : Act) : Prop extends Agree ops a0 a where
  kp : ∀ (m i : Nat) (o : Oper) (t : Tmp), k ≤ m → C[m]? = some i → ops[i]? = some o → o.dst = some t → a.eval (.tmp t) = a0.eval (.tmp t)

section
variable {P : Program} {ops : Array Oper} {Q : Exit → Act → World → Prop} {md : Region.Mode} {V : Tmp → Value → Prop} {G : Nat → Value → World → Prop} {C : List Nat} {a0 : Act}

/-- What one operation owes while k of the chain are done, k' behind it. -/
def OwesAt (P : Program) (md : Region.Mode) (ops : Array Oper) (Q : Exit → Act → World → Prop) (V : Tmp → Value → Prop) (G : Nat → Value → World → Prop) (C : List Nat) (a0 : Act) (i : Nat) (o : Oper) (k : Nat) : Prop :=
  ∀ a w x, AgreeC ops C k a0 a → G k x w → AllV (fun t v _ => V t v) a w (waits md ops o) →
    wpOp P ops Q i (fun a' w' => ∃ v, a' = a.put o.dst v ∧ (∀ t, o.dst = some t → V t v) ∧ G k x w') a w
/-- The slot of the chain's last one that is done holds x. -/
def Holds' (ops : Array Oper) (C : List Nat) (a : Act) (k : Nat) (x : Value) : Prop := ∀ (m i : Nat) (o : Oper) (t : Tmp), k = m + 1 → C[m]? = some i → ops[i]? = some o → o.dst = some t → a.eval (.tmp t) = x
/-- What the chain's operation m owes. -/
def OwesIn (P : Program) (md : Region.Mode) (ops : Array Oper) (Q : Exit → Act → World → Prop) (V : Tmp → Value → Prop) (G : Nat → Value → World → Prop) (C : List Nat) (a0 : Act) (i : Nat) (o : Oper) (m : Nat) : Prop :=
  ∀ a w x, AgreeC ops C m a0 a → G m x w → Holds' ops C a m x → AllV (fun t v _ => V t v) a w (waits md ops o) →
    wpOp P ops Q i (fun a' w' => ∃ v, a' = a.put o.dst v ∧ (∀ t, o.dst = some t → V t v) ∧ G (m + 1) v w') a w
def OwesC (P : Program) (md : Region.Mode) (ops : Array Oper) (Q : Exit → Act → World → Prop) (V : Tmp → Value → Prop) (G : Nat → Value → World → Prop) (C : List Nat) (a0 : Act) (i : Nat) (o : Oper) : Prop :=
  (∃ m, C[m]? = some i ∧ OwesIn P md ops Q V G C a0 i o m) ∨ (C.contains i = false ∧ ∃ b, aheadOf md ops C i b = true ∧ ∀ k, k ≤ b → OwesAt P md ops Q V G C a0 i o k)

theorem any_edge {md : Region.Mode} {p : Oper} {i : Nat} (h : p.after.any (fun e => Region.binds md e && e.on == i) = true) : ∃ e ∈ p.after, Region.binds md e = true ∧ e.on = i := by
  obtain ⟨j, hj, h1⟩ := Array.any_iff_exists.1 h
  obtain ⟨_, _, h2⟩ := h1
  rw [Bool.and_eq_true, beq_iff_eq] at h2
  exact ⟨_, Array.getElem_mem _, h2.1, h2.2⟩
theorem chain_edge {m i j : Nat} {p : Oper} (h : chainOk md ops C = true) (hi : C[m]? = some i) (hj : C[m + 1]? = some j) (hp : ops[j]? = some p) : ∃ e ∈ p.after, Region.binds md e = true ∧ e.on = i := by
  have := List.all_eq_true.1 h m (List.mem_range.2 (List.getElem?_eq_some_iff.1 hi).1)
  simp only [hi, hj, hp] at this
  exact any_edge this

theorem reach_done {L : Array Bool} (cl : ∀ (i : Nat) (o : Oper), ops[i]? = some o → L.getD i true = true → ∀ e ∈ o.after, Region.binds md e = true → L.getD e.on false = true) :
    ∀ (n j i : Nat), reach md ops n j i = true → L.getD j true = true → L.getD i false = true
  | 0, _, _, h, _ => by cases h
  | n + 1, j, i, h, hl => by
    unfold reach at h
    cases hp : ops[j]? with
    | none => rw [hp] at h; cases h
    | some p =>
      rw [hp] at h
      obtain ⟨q, _, h1⟩ := Array.any_iff_exists.1 h
      obtain ⟨_, _, h2⟩ := h1
      rw [Bool.and_eq_true, Bool.or_eq_true, beq_iff_eq] at h2
      have h3 := cl j p hp hl _ (Array.getElem_mem _) h2.1
      rcases h2.2 with e | hr
      · rw [← e]; exact h3
      · refine reach_done cl n _ i hr ?_
        have : p.after[q].on < L.size := by
          apply Nat.lt_of_not_le; intro hle
          simp [Array.getElem?_eq_none hle] at h3
        simp [this] at h3 ⊢
        exact h3
theorem getD_tf {L : Array Bool} {n i : Nat} (hL : L.size = n) (hi : i < n) : L.getD i true = L.getD i false := by
  simp [show i < L.size by omega]
theorem getD_set_at {L : Array Bool} {i : Nat} (hi : i < L.size) (d : Bool) : (L.setIfInBounds i true).getD i d = true := by simp [hi]
theorem getD_set_ne' {L : Array Bool} {i j : Nat} (h : j ≠ i) (d : Bool) : (L.setIfInBounds i true).getD j d = L.getD j d := by
  have := Ne.symm h
  simp [Array.getD_eq_getD_getElem?, this]

/-- What is known while the region goes. -/
structure ChainAt (md : Region.Mode) (ops : Array Oper) (V : Tmp → Value → Prop) (G : Nat → Value → World → Prop) (C : List Nat) (a0 : Act) (L : Array Bool) (a : Act) (w : World) (k : Nat) (x : Value) : Prop where
  g : G k x w
  ho : Holds' ops C a k x
  le : k ≤ C.length
  ch : ∀ (m i : Nat), C[m]? = some i → (L.getD i true = true ↔ m < k)
  cl : ∀ (i : Nat) (o : Oper), ops[i]? = some o → L.getD i true = true → ∀ e ∈ o.after, Region.binds md e = true → L.getD e.on false = true
  ag : Agree ops a0 a
  kp : ∀ (i : Nat) (o : Oper) (t : Tmp), ops[i]? = some o → L.getD i true = false → o.dst = some t → a.eval (.tmp t) = a0.eval (.tmp t)
  v : ∀ (i : Nat) (o : Oper) (t : Tmp), ops[i]? = some o → L.getD i true = true → o.dst = some t → V t (a.eval (.tmp t))

theorem ChainAt.agc {L : Array Bool} {a : Act} {w : World} {k : Nat} {x : Value} (h : ChainAt md ops V G C a0 L a w k x) : AgreeC ops C k a0 a :=
  ⟨h.ag, fun m i o t hm hi ho ht => h.kp i o t ho (by
    cases hl : L.getD i true with
    | false => rfl
    | true => exact absurd ((h.ch m i hi).1 hl) (by omega)) ht⟩
theorem wpAny_chain (hok : DrawOk ops a0.tmps.size) (hch : chainOk md ops C = true) (hnd : C.Nodup) (hCl : ∀ i ∈ C, i < ops.size) (step : ∀ (i : Nat) (o : Oper), ops[i]? = some o → OwesC P md ops Q V G C a0 i o)
    (fin : ∀ a w x, Agree ops a0 a → G C.length x w → Holds' ops C a C.length x → (∀ (i : Nat) (o : Oper) (t : Tmp), ops[i]? = some o → o.dst = some t → V t (a.eval (.tmp t))) → Q .normal a w) :
    ∀ (fuel : Nat) (L : Array Bool) (a : Act) (w : World) (k : Nat) (x : Value), unl L ops.size ≤ fuel → L.size = ops.size → ChainAt md ops V G C a0 L a w k x → wpAny P md ops Q fuel L a w := by
  have allL : ∀ L : Array Bool, L.size = ops.size → Region.ready md ops L = [] → ∀ (i : Nat) (o : Oper), ops[i]? = some o → L.getD i true = true := by
    intro L hL hr i o ho
    cases hc : L.getD i true with
    | true => rfl
    | false =>
      obtain ⟨j, hj⟩ := ready_some (md := md) hok hL i (Array.getElem?_eq_some_iff.1 ho).1 hc
      rw [hr] at hj; cases hj
  have done : ∀ (L : Array Bool) (a : Act) (w : World) (k : Nat) (x : Value), L.size = ops.size → ChainAt md ops V G C a0 L a w k x → Region.ready md ops L = [] → Q .normal a w := by
    intro L a w k x hL h hr
    have hk : k = C.length := by
      refine Nat.le_antisymm h.le (Nat.le_of_not_lt fun hlt => ?_)
      have hm : C[k]? = some C[k] := List.getElem?_eq_getElem hlt
      have hi := hCl _ (List.getElem_mem hlt)
      exact Nat.lt_irrefl _ ((h.ch k _ hm).1 (allL L hL hr _ _ (Array.getElem?_eq_getElem hi)))
    subst hk
    exact fin a w x h.ag h.g h.ho (fun i o t ho ht => h.v i o t ho (allL L hL hr i o ho) ht)
  intro fuel
  induction fuel with
  | zero =>
    intro L a w k x hu hL h
    have hr : Region.ready md ops L = [] := by
      apply List.eq_nil_iff_forall_not_mem.2
      intro j hj
      obtain ⟨hun, o, ho, _⟩ := mem_ready.1 hj
      have := unl_pos L ops.size j (Array.getElem?_eq_some_iff.1 ho).1 hun
      omega
    exact ⟨hr, done L a w k x hL h hr⟩
  | succ fuel ih =>
    intro L a w k x hu hL h
    refine ⟨fun hr => done L a w k x hL h hr, fun i hi => ?_⟩
    obtain ⟨hun, o, ho, hall⟩ := mem_ready.1 hi
    have hil : i < ops.size := (Array.getElem?_eq_some_iff.1 ho).1
    have hw : AllV (fun t v _ => V t v) a w (waits md ops o) := AllV.of (by
      intro t ht
      unfold waits at ht
      obtain ⟨e, he, hd⟩ := List.mem_filterMap.1 ht
      obtain ⟨he1, he2⟩ := List.mem_filter.1 he
      cases hj : ops[e.on]? with
      | none => rw [hj] at hd; cases hd
      | some p =>
        rw [hj] at hd
        have hl := hall e (by simpa using he1) he2
        exact h.v e.on p t hj (by rw [getD_tf hL (Array.getElem?_eq_some_iff.1 hj).1]; exact hl) hd)
    -- what follows, with k' of the chain done
    have next : ∀ (k' : Nat) (y : Value → Value), k' ≤ C.length → (∀ v, Holds' ops C (a.put o.dst v) k' (y v)) → (∀ (m j : Nat), C[m]? = some j → ((L.setIfInBounds i true).getD j true = true ↔ m < k')) →
        wpOp P ops Q i (fun a' w' => ∃ v, a' = a.put o.dst v ∧ (∀ t, o.dst = some t → V t v) ∧ G k' (y v) w') a w → wpOp P ops Q i (fun a' w' => wpAny P md ops Q fuel (L.setIfInBounds i true) a' w') a w := by
      intro k' y hk' hho hch' hop
      refine wpOp_mono (fun a' w' hh => ?_) hop
      obtain ⟨v, rfl, hvi, hG'⟩ := hh
      refine ih _ _ _ k' (y v) ?_ (by simpa using hL) ⟨hG', hho v, hk', hch', ?_, ?_, ?_, ?_⟩
      · have := unl_set L i hun ops.size
        rw [if_pos hil] at this; omega
      · intro j p hp hl e he hb
        by_cases hji : j = i
        · subst hji
          rw [ho] at hp; cases hp
          have := hall e he hb
          by_cases hei : e.on = j
          · rw [hei, getD_set_at (by omega)]
          · rw [getD_set_ne' hei]; exact this
        · rw [getD_set_ne' hji] at hl
          have := h.cl j p hp hl e he hb
          by_cases hei : e.on = i
          · rw [hei, getD_set_at (by omega)]
          · rw [getD_set_ne' hei]; exact this
      · refine ⟨by rw [size_put]; exact h.ag.size, by rw [defers_put]; exact h.ag.defers, fun t ht => ?_⟩
        rw [Act.eval_put (fun d hd e => ht i o ho (by cases e; exact hd))]
        exact h.ag.same t ht
      · intro j p t hp hl ht
        have e : j ≠ i := by
          rintro rfl
          rw [getD_set_at (by omega)] at hl; cases hl
        rw [Act.eval_put (fun d hd e2 => by cases e2; exact hok.apart i j o p t ho hp e hd ht)]
        rw [getD_set_ne' e] at hl
        exact h.kp j p t hp hl ht
      · intro j p t hp hl ht
        by_cases e : j = i
        · subst e
          rw [ho] at hp; cases hp
          rw [ht, eval_put_same (by rw [h.ag.size]; exact hok.room j o t ho ht)]
          exact hvi t ht
        · rw [Act.eval_put (fun d hd e2 => by cases e2; exact hok.apart i j o p t ho hp e hd ht)]
          rw [getD_set_ne' e] at hl
          exact h.v j p t hp hl ht
    rcases step i o ho with ⟨m, hm, hop⟩ | ⟨hni, b, hb, hop⟩
    · have hmk : m = k := by
        have h1 : ¬ m < k := fun hlt => by rw [(h.ch m i hm).2 hlt] at hun; cases hun
        have h2 : m ≤ k := by
          cases m with
          | zero => exact Nat.zero_le _
          | succ m =>
            have hlt : m < C.length := by have := (List.getElem?_eq_some_iff.1 hm).1; omega
            have hj : C[m]? = some C[m] := List.getElem?_eq_getElem hlt
            obtain ⟨e, he, hbd, hon⟩ := chain_edge hch hj hm ho
            have := hall e he hbd
            rw [hon] at this
            exact (h.ch m _ hj).1 (by rw [getD_tf hL (hCl _ (List.getElem_mem hlt))]; exact this)
        omega
      subst hmk
      have hmlt : m < C.length := (List.getElem?_eq_some_iff.1 hm).1
      refine next (m + 1) (fun v => v) hmlt ?_ ?_ (hop a w x h.agc h.g h.ho hw)
      · intro v m2 j p t hm2 hj hp ht
        obtain rfl : m2 = m := by omega
        rw [hm] at hj; cases hj
        rw [ho] at hp; cases hp
        rw [ht, eval_put_same (by rw [h.ag.size]; exact hok.room i o t ho ht)]
      intro m2 j hj
      by_cases hji : j = i
      · subst hji
        have : m2 = m := by
          obtain ⟨l2, e2⟩ := List.getElem?_eq_some_iff.1 hj
          obtain ⟨l1, e1⟩ := List.getElem?_eq_some_iff.1 hm
          exact (List.getElem_inj hnd).1 (e2.trans e1.symm)
        subst this
        rw [getD_set_at (by omega)]
        exact ⟨fun _ => Nat.lt_succ_self _, fun _ => rfl⟩
      · rw [getD_set_ne' hji, h.ch m2 j hj]
        have : m2 ≠ m := by
          rintro rfl
          rw [hm] at hj; cases hj; exact hji rfl
        omega
    · have hkb : k ≤ b := by
        unfold aheadOf at hb
        rw [Bool.or_eq_true, beq_iff_eq] at hb
        rcases hb with rfl | hb
        · exact h.le
        · cases hj : C[b]? with
          | none => rw [hj] at hb; cases hb
          | some j =>
            rw [hj] at hb
            simp only at hb
            refine Nat.le_of_not_lt fun hlt => ?_
            have := reach_done h.cl 16 j i hb ((h.ch b j hj).2 hlt)
            rw [← getD_tf hL hil, hun] at this
            cases this
      refine next k (fun _ => x) h.le ?_ ?_ (hop k hkb a w x h.agc h.g hw)
      · intro v m2 j p t hm2 hj hp ht
        have hji : j ≠ i := by
          rintro rfl
          have := List.mem_of_getElem? hj
          rw [List.contains_eq_mem, decide_eq_false_iff_not] at hni
          exact hni this
        rw [Act.eval_put (fun d hd e2 => by cases e2; exact hok.apart i j o p t ho hp hji hd ht)]
        exact h.ho m2 j p t hm2 hj hp ht
      intro m2 j hj
      have hji : j ≠ i := by
        rintro rfl
        have := List.mem_of_getElem? hj
        rw [List.contains_eq_mem, decide_eq_false_iff_not] at hni
        exact hni this
      rw [getD_set_ne' hji, h.ch m2 j hj]

/-- The obligations one after the other. -/
def OweAllC (P : Program) (md : Region.Mode) (ops : Array Oper) (Q : Exit → Act → World → Prop) (V : Tmp → Value → Prop) (G : Nat → Value → World → Prop) (C : List Nat) (a0 : Act) : Nat → List Oper → Prop
  | _, [] => True
  | k, o :: r => OwesC P md ops Q V G C a0 k o ∧ OweAllC P md ops Q V G C a0 (k + 1) r
theorem OweAllC.get : ∀ {l : List Oper} {k : Nat}, OweAllC P md ops Q V G C a0 k l → ∀ (i : Nat) (o : Oper), l[i]? = some o → OwesC P md ops Q V G C a0 (k + i) o
  | _ :: _, k, h, 0, o, hi => by cases hi; exact h.1
  | _ :: r, k, h, i + 1, o, hi => by
    have := OweAllC.get h.2 i o (by simpa using hi)
    rwa [show k + 1 + i = k + (i + 1) by omega] at this
  | [], _, _, i, o, hi => by simp at hi
theorem OweAllC.cons {k : Nat} {o : Oper} {r : List Oper} (h : OwesC P md ops Q V G C a0 k o) (h2 : OweAllC P md ops Q V G C a0 (k + 1) r) : OweAllC P md ops Q V G C a0 k (o :: r) := ⟨h, h2⟩
theorem OweAllC.nil {k : Nat} : OweAllC P md ops Q V G C a0 k [] := trivial

theorem wp_region_chain {id : Nat} {w : World} (V : Tmp → Value → Prop) (G : Nat → Value → World → Prop) (C : List Nat) (N : Nat) (hm : P.follows .mixedOrders = true) (hok : drawOk ops N = true) (hN : a0.tmps.size = N)
    (hch : chainOk .any ops C = true) (hnd : decide C.Nodup = true) (hCl : C.all (· < ops.size) = true) (hG : G 0 undef w.drew)
    (step : OweAllC P .any ops Q V G C a0 0 ops.toList)
    (fin : ∀ f w x, G C.length x w → (∀ (m i : Nat) (o : Oper) (t : Tmp), C.length = m + 1 → C[m]? = some i → ops[i]? = some o → o.dst = some t → f t = x) → (∀ (i : Nat) (o : Oper) (t : Tmp), ops[i]? = some o → o.dst = some t → V t (f t)) → Q .normal (puts f (dsts ops) a0) w) : (Code.region id ops true).wp P Q a0 w := by
  subst hN
  have hok := drawOk_spec hok
  have hCl' : ∀ i ∈ C, i < ops.size := fun i hi => by simpa using List.all_eq_true.1 hCl i hi
  have hL0 : ∀ i, i < ops.size → (Array.replicate ops.size false).getD i true = false := fun i hi => by simp [hi]
  refine wp_region_any hm (wpAny_chain (V := V) (G := G) (C := C) hok hch (of_decide_eq_true hnd) hCl' (fun i o ho => ?_) (fun a w x ha hg hh hv => ?_) ops.size _ a0 _ 0 undef (unl_le _ _) (by simp) ⟨hG, (fun m i o t h => by omega), Nat.zero_le _, ?_, ?_, ⟨rfl, rfl, fun _ _ => rfl⟩, (fun _ _ _ _ _ _ => rfl), ?_⟩)
  · have := step.get i o (by simpa using ho)
    rwa [Nat.zero_add] at this
  · rw [ha.puts hok]
    exact fin _ w x hg hh hv
  · intro m i hi
    have := hCl' i (List.mem_of_getElem? hi)
    rw [hL0 i this]
    simp
  · intro i o ho hl
    rw [hL0 i (Array.getElem?_eq_some_iff.1 ho).1] at hl; cases hl
  · intro i o t ho hl _
    rw [hL0 i (Array.getElem?_eq_some_iff.1 ho).1] at hl; cases hl

/-- An operation beside the chain that yields a value and turns nothing. -/
theorem owesC_val {i : Nat} {o : Oper} {t : Tmp} (b : Nat) (hb : aheadOf md ops C i b = true) (hni : C.contains i = false) (hi : ops[i]? = some o) (ht : o.dst = some t)
    (h : ∀ k a w x, k ≤ b → AgreeC ops C k a0 a → G k x w → AllV (fun t v _ => V t v) a w (waits md ops o) → ∃ v, Region.wanted o (yielded ops a.tmps) = true ∧ (execOp a.eval o).run P w = .ok (.value v) w ∧ V t v) : OwesC P md ops Q V G C a0 i o := by
  refine .inr ⟨hni, b, hb, fun k hk a w x ha hG hV => ?_⟩
  obtain ⟨v, hw, hr, hv⟩ := h k a w x hk ha hG hV
  unfold wpOp
  rw [hi]
  simp only [hw, if_true, Oper.wp, hr, Oper.upon]
  exact .inl ⟨v, rfl, fun u hu => by rw [ht] at hu; cases hu; exact hv, hG⟩
/-- A call beside the chain. -/
theorem owesC_side {i : Nat} {o : Oper} {t : Tmp} (b : Nat) (hb : aheadOf md ops C i b = true) (hni : C.contains i = false) (hi : ops[i]? = some o) (ht : o.dst = some t) (f : FuncId)
    (h : ∀ k a w x, k ≤ b → AgreeC ops C k a0 a → G k x w → AllV (fun t v _ => V t v) a w (waits md ops o) → ∃ args, Region.wanted o (yielded ops a.tmps) = true ∧ (execOp a.eval o).run P w = .ok (.enter f args) w ∧
      Calls P f args w fun e w' => ∃ v, e = .returned v ∧ V t v ∧ G k x w') : OwesC P md ops Q V G C a0 i o := by
  refine .inr ⟨hni, b, hb, fun k hk a w x ha hG hV => ?_⟩
  obtain ⟨args, hw, hr, hc⟩ := h k a w x hk ha hG hV
  unfold wpOp
  rw [hi]
  simp only [hw, if_true, Oper.wp, hr, Oper.upon]
  refine .inl (hc.mono ?_)
  rintro e w' ⟨v, rfl, h1, h2⟩
  exact ⟨v, rfl, fun u hu => by rw [ht] at hu; cases hu; exact h1, h2⟩
/-- A call of the chain. -/
theorem owesC_call {i : Nat} {o : Oper} {t : Tmp} (m : Nat) (hm : C[m]? = some i) (hi : ops[i]? = some o) (ht : o.dst = some t) (f : FuncId)
    (h : ∀ a w x, AgreeC ops C m a0 a → G m x w → Holds' ops C a m x → AllV (fun t v _ => V t v) a w (waits md ops o) → ∃ args, Region.wanted o (yielded ops a.tmps) = true ∧ (execOp a.eval o).run P w = .ok (.enter f args) w ∧
      Calls P f args w fun e w' => ∃ v, e = .returned v ∧ V t v ∧ G (m + 1) v w') : OwesC P md ops Q V G C a0 i o := by
  refine .inl ⟨m, hm, fun a w x ha hG hh hV => ?_⟩
  obtain ⟨args, hw, hr, hc⟩ := h a w x ha hG hh hV
  unfold wpOp
  rw [hi]
  simp only [hw, if_true, Oper.wp, hr, Oper.upon]
  refine .inl (hc.mono ?_)
  rintro e w' ⟨v, rfl, h1, h2⟩
  exact ⟨v, rfl, fun u hu => by rw [ht] at hu; cases hu; exact h1, h2⟩
/-- An operation of the chain that yields a value and turns memory. -/
theorem owesC_mem {i : Nat} {o : Oper} {t : Tmp} (m : Nat) (hm : C[m]? = some i) (hi : ops[i]? = some o) (ht : o.dst = some t)
    (h : ∀ a w x, AgreeC ops C m a0 a → G m x w → Holds' ops C a m x → AllV (fun t v _ => V t v) a w (waits md ops o) → ∃ v w', Region.wanted o (yielded ops a.tmps) = true ∧ (execOp a.eval o).run P w = .ok (.value v) w' ∧ V t v ∧ G (m + 1) v w') : OwesC P md ops Q V G C a0 i o := by
  refine .inl ⟨m, hm, fun a w x ha hG hh hV => ?_⟩
  obtain ⟨v, w', hw, hr, h1, h2⟩ := h a w x ha hG hh hV
  unfold wpOp
  rw [hi]
  simp only [hw, if_true, Oper.wp, hr, Oper.upon]
  exact .inl ⟨v, rfl, fun u hu => by rw [ht] at hu; cases hu; exact h1, h2⟩
/-- A store of the chain. -/
theorem owesC_store {i : Nat} {o : Oper} (m : Nat) (hm : C[m]? = some i) (hi : ops[i]? = some o) (ht : o.dst = none)
    (h : ∀ a w x, AgreeC ops C m a0 a → G m x w → Holds' ops C a m x → AllV (fun t v _ => V t v) a w (waits md ops o) → ∃ w', Region.wanted o (yielded ops a.tmps) = true ∧ (execOp a.eval o).run P w = .ok .skip w' ∧ G (m + 1) undef w') : OwesC P md ops Q V G C a0 i o := by
  refine .inl ⟨m, hm, fun a w x ha hG hh hV => ?_⟩
  obtain ⟨w', hw, hr, h2⟩ := h a w x ha hG hh hV
  unfold wpOp
  rw [hi]
  simp only [hw, if_true, Oper.wp, hr, Oper.upon]
  exact .inl ⟨undef, rfl, fun u hu => (by rw [ht] at hu; cases hu), h2⟩
/-- An operation of the chain by its own law (an append). -/
theorem owesC_law {i : Nat} {o : Oper} (m : Nat) (hm : C[m]? = some i) (hi : ops[i]? = some o)
    (h : ∀ a w x, AgreeC ops C m a0 a → G m x w → Holds' ops C a m x → AllV (fun t v _ => V t v) a w (waits md ops o) → Region.wanted o (yielded ops a.tmps) = true ∧
      ∀ K : Act → World → Prop, (∀ v w', (∀ t, o.dst = some t → V t v) → G (m + 1) v w' → K (a.put o.dst v) w') → o.wp P a w K Q) : OwesC P md ops Q V G C a0 i o := by
  refine .inl ⟨m, hm, fun a w x ha hG hh hV => ?_⟩
  obtain ⟨hw, hl⟩ := h a w x ha hG hh hV
  unfold wpOp
  rw [hi]
  simp only [hw, if_true]
  exact .inl (hl _ (fun v w' h1 h2 => ⟨v, rfl, h1, h2⟩))
end
end Go.Proofs.Ytpbcglepecojmaa
namespace Go.Proofs.Ytpbcglepecojmaa
open Go
/-- A slot is written, by an operation of no region. -/
def mv (t : Tmp) (v : Value) : Oper := { dst := some t, op := .move (.const v), type := 0, pos := "", after := #[], guard := none }
theorem moves_back {P : Program} {ops : Array Oper} {Q : Exit → Act → World → Prop} (f : Tmp → Value) : ∀ (l : List Tmp) (a : Act) (w : World), wpList P ops Q (l.map fun t => mv t (f t)) a w → Q .normal (puts f l a) w
  | [], _, _, h => h
  | t :: r, a, w, h => by
    refine moves_back (P := P) (ops := ops) f r (a.put (some t) (f t)) w ?_
    rw [List.map_cons, wpList] at h
    have hw : Region.wanted (mv t (f t)) (yielded ops a.tmps) = true := rfl
    rw [if_pos hw] at h
    rcases h with h | h
    · unfold Oper.wp at h
      have he : (execOp a.eval (mv t (f t))).run P w = .ok (.value (f t)) w := rfl
      rw [he] at h
      exact h
    · exfalso
      have he : ((execOp a.eval (mv t (f t))).runT P w #[]).2 = #[] := rfl
      have h1 := h.1.1
      rw [he] at h1
      simp at h1
end Go.Proofs.Ytpbcglepecojmaa

namespace Go.Proofs.Ytpbcglepecojmaa
open Go.RowKit Go.Sort

section
variable {P : Program} {ops : Array Oper} {Q : Exit → Act → World → Prop} {md : Region.Mode} {V : Tmp → Value → Prop} {G : Nat → Value → World → Prop} {C : List Nat} {a0 : Act}
/-- A call of the chain whose answer nobody takes. -/
theorem owesC_eff {i : Nat} {o : Oper} (m : Nat) (hm : C[m]? = some i) (hi : ops[i]? = some o) (ht : o.dst = none)
    (h : ∀ a w x, AgreeC ops C m a0 a → G m x w → Holds' ops C a m x → AllV (fun t v _ => V t v) a w (waits md ops o) → ∃ v w', Region.wanted o (yielded ops a.tmps) = true ∧ (execOp a.eval o).run P w = .ok (.value v) w' ∧ G (m + 1) undef w') : OwesC P md ops Q V G C a0 i o := by
  refine .inl ⟨m, hm, fun a w x ha hG hh hV => ?_⟩
  obtain ⟨v, w', hw, hr, h2⟩ := h a w x ha hG hh hV
  unfold wpOp
  rw [hi]
  simp only [hw, if_true, Oper.wp, hr, Oper.upon, ht]
  exact .inl ⟨undef, rfl, fun u hu => (by cases hu), h2⟩
end

/-- Bytes. -/
def encY : Enc UInt8 := ⟨fun x => [.int .u8 (x.toNat : Int)], 1, fun _ => rfl, fun _ v hv => by rw [List.mem_singleton.1 hv]; rfl, Nat.one_pos⟩
theorem encY_all (l : List UInt8) : encY.all l = vals l := by
  induction l with
  | nil => rfl
  | cons a l ih => rw [show encY.all (a :: l) = encY.f a ++ encY.all l from rfl, ih]; rfl
theorem Rw.cutY {T : TypeId} {w : World} {p : Option Addr} {cap : Nat} {L : List UInt8} (h : Rw encY T w p cap L) (n : Nat) : Rw encY T w p cap (L.take n) := by
  rcases h.shape with ⟨rfl, rfl, rfl⟩ | ⟨g, rfl, _, h1, h2, cur, hh, h3, h4⟩
  · rw [List.take_nil]; exact Rw.empty _ _
  · refine Rw.of_row hh (Nat.le_trans (List.length_take_le' _ _) h1) h2 h3 ?_
    have hl : (L.take n).length * encY.k ≤ L.length * encY.k := Nat.mul_le_mul_right _ (List.length_take_le' _ _)
    have := congrArg (List.take ((L.take n).length * encY.k)) h4
    rw [List.take_take, Nat.min_eq_left hl] at this
    rw [this]
    have e : encY.all L = encY.all (L.take n) ++ encY.all (L.drop n) := by rw [← encY.all_app, List.take_append_drop]
    rw [e, List.take_left' (encY.all_len _)]
theorem Rw.convY {P : Program} {E : TypeId} {w : World} {p : Option Addr} {cap : Nat} {bs : List UInt8} (h : Rw encY E w p cap bs) (src dst : TypeId) (hs : P.underlying src = some (.slice E)) (he : P.underlying E = some (.int .u8)) (hd : P.underlying dst = some .string) :
    (convert src dst (.slice p bs.length cap)).run P w = .ok (.string ⟨bs.toArray⟩) w := by
  have hown : w.ownsRow 0 E 1 (.slice p bs.length cap) bs.length (vals bs) := by have := h; unfold Rw at this; rw [encY_all] at this; exact this
  rcases h.shape with ⟨rfl, rfl, rfl⟩ | ⟨g, rfl, _, h1, h2, cur, hh, h3, h4⟩
  · exact run_convert_bytes_nil w src E hs he 0 0 dst hd
  · have hr := run_convert_bytes_arg (P := P) w src E hs he g 0 bs.length cap (bs.map fun x => (x.toNat : Int)) (by simp) (fun i hi => by
      have := hown.cellAt i (by omega)
      rw [Nat.zero_add, this]
      simp [vals, List.getD, hi]) dst hd
    rw [hr]
    congr 2
    apply ByteArray.ext
    apply Array.toList_inj.1
    rw [strOfNums_data, List.map_map]
    simp only [Function.comp_def, Int.toNat_natCast, UInt8.ofNat_toNat, List.map_id']

/-! ## Files by rising names -/

/-- A file: its name, its bytes, how many of these are synced. -/
abbrev FX := List UInt8 × List UInt8 × Nat
def SrtX (X : List FX) : Prop := X.Pairwise fun x y => x.1 < y.1
def wo (k : List UInt8) (X : List FX) : List FX := X.filter fun x => x.1 != k
def insX (x : FX) : List FX → List FX
  | [] => [x]
  | y :: l => if x.1 < y.1 then x :: y :: l else y :: insX x l
def withX (x : FX) (X : List FX) : List FX := insX x (wo x.1 X)
def fiX (k : List UInt8) (X : List FX) : FX := match X.find? fun x => x.1 == k with | some x => x | none => (k, [], 0)
def hasX (k : List UInt8) (X : List FX) : Bool := X.any fun x => x.1 == k
/-- How many bytes there are. -/
def usedX : List FX → Nat
  | [] => 0
  | x :: l => x.2.1.length + usedX l
theorem insX_perm (x : FX) : ∀ X : List FX, (insX x X).Perm (x :: X)
  | [] => .refl _
  | y :: l => by
    unfold insX
    by_cases h : x.1 < y.1
    · rw [if_pos h]
    · rw [if_neg h]; exact ((insX_perm x l).cons y).trans (.swap x y l)
theorem lt_of_not {a b : List UInt8} (h : ¬ a < b) (hn : a ≠ b) : b < a := by
  apply Classical.byContradiction
  intro h2
  exact hn (List.le_antisymm (List.not_lt.1 h2) (List.not_lt.1 h))
theorem insX_srt {x : FX} : ∀ {X : List FX}, SrtX X → (∀ y ∈ X, y.1 ≠ x.1) → SrtX (insX x X)
  | [], _, _ => List.pairwise_singleton _ _
  | y :: l, h, hn => by
    obtain ⟨h1, h2⟩ := List.pairwise_cons.1 h
    unfold insX
    by_cases hx : x.1 < y.1
    · rw [if_pos hx]
      refine List.pairwise_cons.2 ⟨fun z hz => ?_, h⟩
      rcases List.mem_cons.1 hz with rfl | hz
      · exact hx
      · exact List.lt_trans hx (h1 z hz)
    · rw [if_neg hx]
      refine List.pairwise_cons.2 ⟨fun z hz => ?_, insX_srt h2 (fun z hz => hn z (List.mem_cons_of_mem _ hz))⟩
      rcases List.mem_cons.1 ((insX_perm x l).mem_iff.1 hz) with rfl | hz
      · exact lt_of_not hx (fun e => hn y (List.mem_cons_self ..) e.symm)
      · exact h1 z hz
theorem wo_srt {X : List FX} (h : SrtX X) (k : List UInt8) : SrtX (wo k X) := List.Pairwise.filter _ h
theorem withX_srt {X : List FX} (h : SrtX X) (x : FX) : SrtX (withX x X) :=
  insX_srt (wo_srt h _) (fun y hy => by have := (List.mem_filter.1 hy).2; simpa using this)
theorem withX_perm (x : FX) (X : List FX) : (withX x X).Perm (x :: wo x.1 X) := insX_perm x _
theorem srt_ne {X : List FX} (h : SrtX X) : X.Pairwise fun x y => x.1 ≠ y.1 := List.Pairwise.imp (fun {a b} hab e => by rw [e] at hab; exact List.lt_irrefl _ hab) h
theorem find_perm {L X : List FX} (hp : L.Perm X) (hX : X.Pairwise fun x y => x.1 ≠ y.1) (k : List UInt8) : (L.find? fun x => x.1 == k) = X.find? fun x => x.1 == k := by
  have hL : L.Pairwise fun x y => x.1 ≠ y.1 := (hp.pairwise_iff (fun {_ _} h => Ne.symm h)).2 hX
  have key : ∀ {A : List FX}, A.Pairwise (fun x y => x.1 ≠ y.1) → ∀ x ∈ A, x.1 = k → (A.find? fun x => x.1 == k) = some x := by
    intro A
    induction A with
    | nil => intro _ x hx; cases hx
    | cons y l ih =>
      intro h x hx hk
      obtain ⟨h1, h2⟩ := List.pairwise_cons.1 h
      rcases List.mem_cons.1 hx with rfl | hx
      · rw [List.find?_cons_of_pos (by simp [hk])]
      · rw [List.find?_cons_of_neg (by have := h1 x hx; rw [hk] at this; simpa using this)]
        exact ih h2 x hx hk
  cases hf : L.find? fun x => x.1 == k with
  | none =>
    symm
    rw [List.find?_eq_none] at hf ⊢
    exact fun x hx => hf x (hp.mem_iff.2 hx)
  | some x =>
    have h1 := List.mem_of_find?_eq_some hf
    have h2 := List.find?_some hf
    exact (key hX x (hp.mem_iff.1 h1) (by simpa using h2)).symm
theorem usedX_perm {L X : List FX} (hp : L.Perm X) : usedX L = usedX X := by
  induction hp with
  | nil => rfl
  | cons x _ ih => simp only [usedX, ih]
  | swap x y l => simp only [usedX]; omega
  | trans _ _ h1 h2 => rw [h1, h2]

/-! ## In memory -/

/-- A file in memory. -/
structure Fl where
  k : List UInt8
  b : List UInt8
  s : Nat
  p : Option Addr
  c : Nat
def Fl.x (f : Fl) : FX := (f.k, f.b, f.s)
def Fl.v (f : Fl) : Value := .agg #[.slice f.p f.b.length f.c, .int .i64 (f.s : Int)]
def entD (f : Fl) : Ent := (f.k, f.v)
def noFl (k : List UInt8) : Fl := ⟨k, [], 0, none, 0⟩
def atF (k : List UInt8) (L : List Fl) : Fl := match L.find? fun f => f.k == k with | some f => f | none => noFl k
def woF (k : List UInt8) (L : List Fl) : List Fl := L.filter fun f => f.k != k
/-- A disk's numbers and files. -/
structure St where
  rm : Int
  dd : Int
  lf : Int
  dn : Bool
  X : List FX
def stCells (S : St) (b : Nat) : Array Value := #[.int .i64 S.rm, .map (some b), .int .i64 S.dd, .int .i64 S.lf, .bool S.dn]
structure DK (w : World) (d b : Nat) (S : St) (L : List Fl) : Prop where
  cell : w.heap[d]? = some (.cells (stCells S b) 60 (0, 0))
  map : MapAt Try.prog 9 w b (L.map entD)
  row : ∀ f ∈ L, Rw encY 5 w f.p f.c f.b
  syn : ∀ f ∈ L, f.s ≤ f.b.length
  far : L.Pairwise fun f g => ∀ a a', f.p = some a → g.p = some a' → a.block ≠ a'.block
  pm : (L.map Fl.x).Perm S.X
  so : SrtX S.X
def inD (d b : Nat) (L : List Fl) (i : Nat) : Prop := i = d ∨ i = b ∨ ∃ f ∈ L, ∃ a, f.p = some a ∧ a.block = i
theorem without_entD (k : List UInt8) (L : List Fl) : without k (L.map entD) = (woF k L).map entD := by
  unfold without woF
  rw [List.filter_map]
  congr 1
theorem has_entD (k : List UInt8) (L : List Fl) : hasK k (L.map entD) = L.any fun f => f.k == k := by
  unfold hasK
  rw [List.any_map]
  congr 1
theorem get_entD (k : List UInt8) (L : List Fl) : getK k (L.map entD) (noFl k).v = (atF k L).v := by
  unfold getK atF
  rw [List.find?_map]
  have : ((fun x : Ent => x.1 == k) ∘ entD) = fun f : Fl => f.k == k := rfl
  rw [this]
  cases L.find? fun f => f.k == k <;> rfl
theorem wo_x (k : List UInt8) (L : List Fl) : (woF k L).map Fl.x = wo k (L.map Fl.x) := by
  unfold wo woF
  rw [List.filter_map]
  congr 1
section
variable {w w' : World} {d b : Nat} {S : St} {L : List Fl}
theorem DK.plt (h : DK w d b S L) : d < w.heap.size := (Array.getElem?_eq_some_iff.1 h.cell).1
theorem DK.ne (h : DK w d b S L) : d ≠ b := h.map.notCells h.cell
theorem DK.rowAt (h : DK w d b S L) {f : Fl} (hf : f ∈ L) {a : Addr} (ha : f.p = some a) : a.block < w.heap.size ∧ a.block ≠ d ∧ a.block ≠ b := by
  have hr := h.row f hf
  rw [ha] at hr
  rcases hr.shape with ⟨e, _⟩ | ⟨g, e, hl, _, _, cur, hh, _⟩
  · cases e
  · cases e
    refine ⟨hl, ?_, h.map.notCells hh⟩
    rintro rfl
    have := h.cell
    rw [hh] at this
    simp at this
theorem DK.lt (h : DK w d b S L) {i : Nat} (hi : inD d b L i) : i < w.heap.size := by
  rcases hi with rfl | rfl | ⟨f, hf, a, ha, rfl⟩
  · exact h.plt
  · exact h.map.lt
  · exact (h.rowAt hf ha).1
theorem DK.kept (h : DK w d b S L) {T : Nat → Prop} (hm : Mod T w w') (hd : ∀ i, inD d b L i → ¬ T i) : DK w' d b S L :=
  ⟨(hm.block d h.plt (hd d (.inl rfl))).trans h.cell, h.map.kept hm (hd b (.inr (.inl rfl))), fun f hf => (h.row f hf).kept hm (fun a ha => hd _ (.inr (.inr ⟨f, hf, a, ha, rfl⟩))), h.syn, h.far, h.pm, h.so⟩
theorem DK.old (h : DK w d b S L) (hb : Below w.heap.size w w') : DK w' d b S L := h.kept (Mod.of_below hb) (fun i hi hn => by have := h.lt hi; omega)
theorem DK.turn (h : DK w d b S L) {S' : St} (hm : Mod (fun i => i = d) w w') (hc : w'.heap[d]? = some (.cells (stCells S' b) 60 (0, 0))) (hX : S'.X = S.X) : DK w' d b S' L :=
  ⟨hc, h.map.kept hm (fun e => h.ne e.symm), fun f hf => (h.row f hf).kept hm (fun _ ha => (h.rowAt hf ha).2.1), h.syn, h.far, by rw [hX]; exact h.pm, by rw [hX]; exact h.so⟩
theorem DK.c0 (h : DK w d b S L) : w.cell? ⟨d, 0, none⟩ = some (.int .i64 S.rm) := by unfold World.cell?; rw [h.cell]; rfl
theorem DK.c1 (h : DK w d b S L) : w.cell? ⟨d, 1, none⟩ = some (.map (some b)) := by unfold World.cell?; rw [h.cell]; rfl
theorem DK.c2 (h : DK w d b S L) : w.cell? ⟨d, 2, none⟩ = some (.int .i64 S.dd) := by unfold World.cell?; rw [h.cell]; rfl
theorem DK.c3 (h : DK w d b S L) : w.cell? ⟨d, 3, none⟩ = some (.int .i64 S.lf) := by unfold World.cell?; rw [h.cell]; rfl
theorem DK.c4 (h : DK w d b S L) : w.cell? ⟨d, 4, none⟩ = some (.bool S.dn) := by unfold World.cell?; rw [h.cell]; rfl
theorem DK.fr (h : DK w d b S L) (j : Nat) : w.frozen? ⟨d, j, none⟩ = false := frozen_of_row w d j _ 60 h.cell
theorem zeroF (k : List UInt8) (w : World) : (zeroValue 62).run Try.prog w = .ok (noFl k).v w := by kernel_rfl
theorem DK.look (h : DK w d b S L) (k : List UInt8) (hk : k.length ≤ maxLen) : (Instr.lookup 58 (.map (some b)) (.string ⟨k.toArray⟩) false).run Try.prog w = .ok (atF k L).v w := by
  rw [h.map.look Try.underlying9 Try.underlying58 (zeroF k w) k hk, get_entD]
theorem hasL_eq (h : DK w d b S L) (k : List UInt8) : (L.any fun f => f.k == k) = hasX k S.X := by
  have e : (L.any fun f => f.k == k) = hasX k (L.map Fl.x) := by unfold hasX; rw [List.any_map]; congr 1
  rw [e]
  unfold hasX
  rw [Bool.eq_iff_iff, List.any_eq_true, List.any_eq_true]
  constructor
  · rintro ⟨x, hx, e⟩; exact ⟨x, h.pm.mem_iff.1 hx, e⟩
  · rintro ⟨x, hx, e⟩; exact ⟨x, h.pm.mem_iff.2 hx, e⟩
theorem DK.look_ok (h : DK w d b S L) (k : List UInt8) (hk : k.length ≤ maxLen) : (Instr.lookup 58 (.map (some b)) (.string ⟨k.toArray⟩) true).run Try.prog w = .ok (.tuple #[(atF k L).v, .bool (hasX k S.X)]) w := by
  rw [h.map.look_ok Try.underlying9 Try.underlying58 (zeroF k w) k hk, get_entD, has_entD, hasL_eq h]
theorem atF_x (h : DK w d b S L) (k : List UInt8) : (atF k L).x = fiX k S.X := by
  unfold fiX
  rw [← find_perm h.pm (srt_ne h.so) k]
  unfold atF
  have e : (L.map Fl.x).find? (fun x => x.1 == k) = (L.find? fun f => f.k == k).map Fl.x := List.find?_map ..
  rw [e]
  cases L.find? fun f => f.k == k <;> rfl
theorem DK.at (h : DK w d b S L) (k : List UInt8) : Rw encY 5 w (atF k L).p (atF k L).c (atF k L).b ∧ (atF k L).s ≤ (atF k L).b.length ∧ ((atF k L) ∈ L ∨ (atF k L).p = none) := by
  unfold atF
  cases hf : L.find? fun f => f.k == k with
  | none => exact ⟨Rw.empty _ _, Nat.le_refl _, .inr rfl⟩
  | some f => exact ⟨h.row f (List.mem_of_find?_eq_some hf), h.syn f (List.mem_of_find?_eq_some hf), .inl (List.mem_of_find?_eq_some hf)⟩
theorem pw_of {α : Type} {R : α → α → Prop} : ∀ {L : List α}, L.Pairwise R → ∀ {x y : α}, x ∈ L → y ∈ L → x ≠ y → R x y ∨ R y x
  | [], _, _, _, hx, _, _ => by cases hx
  | z :: l, h, x, y, hx, hy, hn => by
    obtain ⟨h1, h2⟩ := List.pairwise_cons.1 h
    rcases List.mem_cons.1 hx with e1 | hx1
    · rcases List.mem_cons.1 hy with e2 | hy1
      · exact absurd (e1.trans e2.symm) hn
      · subst e1; exact .inl (h1 y hy1)
    · rcases List.mem_cons.1 hy with e2 | hy1
      · subst e2; exact .inr (h1 x hx1)
      · exact pw_of h2 hx1 hy1 hn
/-- The block of the file of that name is no other one's. -/
theorem DK.alone (h : DK w d b S L) (k : List UInt8) {a : Addr} (ha : (atF k L).p = some a) : ∀ g ∈ woF k L, ∀ a', g.p = some a' → a'.block ≠ a.block := by
  intro g hg a' ha' e
  have hg1 := List.mem_filter.1 hg
  have hgk : g.k ≠ k := by simpa using hg1.2
  unfold atF at ha
  cases hf : L.find? fun f => f.k == k with
  | none => rw [hf] at ha; cases ha
  | some f =>
    rw [hf] at ha
    simp only at ha
    have hfm := List.mem_of_find?_eq_some hf
    have hfk : f.k = k := by have := List.find?_some hf; simpa using this
    have hfg : f ≠ g := fun e' => hgk (e' ▸ hfk)
    rcases pw_of h.far hfm hg1.1 hfg with hh | hh
    · exact hh a a' ha ha' e.symm
    · exact hh a' a ha' ha e
theorem DK.drop (h : DK w d b S L) (k : List UInt8) (hk : k.length ≤ maxLen) :
    ∃ w', (∀ ty, (Builtin.delete_ #[58, 9] ty #[.map (some b), .string ⟨k.toArray⟩]).run Try.prog w = .ok (.tuple #[]) w') ∧ DK w' d b { S with X := wo k S.X } (woF k L) ∧ Mod (fun i => i = b) w w' := by
  obtain ⟨w', hr', hM, hm⟩ := h.map.drop Try.underlying9 Try.underlying58 k hk 0
  rw [without_entD] at hM
  refine ⟨w', fun _ => hr', ⟨(hm.block d h.plt h.ne).trans h.cell, hM, fun g hg => ?_, fun g hg => ?_, h.far.filter _, ?_, wo_srt h.so _⟩, hm⟩
  · exact (h.row g (List.mem_filter.1 hg).1).kept hm (fun a e => (h.rowAt (List.mem_filter.1 hg).1 e).2.2)
  · exact h.syn g (List.mem_filter.1 hg).1
  · rw [wo_x]; exact h.pm.filter _
theorem DK.len (h : DK w d b S L) : L.length = S.X.length := by have := h.pm.length_eq; rwa [List.length_map] at this
end
/-- Disk d, whose blocks are among F. -/
def DA (w : World) (d : Nat) (S : St) (F : Nat → Prop) : Prop := ∃ b L, DK w d b S L ∧ (∀ i, inD d b L i → F i) ∧ ∀ i, F i → i < w.heap.size
theorem DA.kept {w w' : World} {d : Nat} {S : St} {F : Nat → Prop} (h : DA w d S F) {T : Nat → Prop} (hm : Mod T w w') (hd : ∀ i, F i → ¬ T i) : DA w' d S F := by
  obtain ⟨b, L, h, hF, hl⟩ := h
  exact ⟨b, L, h.kept hm (fun i hi => hd i (hF i hi)), hF, fun i hi => Nat.lt_of_lt_of_le (hl i hi) hm.size⟩
theorem DA.old {w w' : World} {d : Nat} {S : St} {F : Nat → Prop} (h : DA w d S F) (hb : Below w.heap.size w w') : DA w' d S F := by
  obtain ⟨b, L, h, hF, hl⟩ := h
  exact ⟨b, L, h.old hb, hF, fun i hi => Nat.lt_of_lt_of_le (hl i hi) hb.size⟩
theorem DA.self {w : World} {d : Nat} {S : St} {F : Nat → Prop} (h : DA w d S F) : F d := by
  obtain ⟨b, L, h, hF, hl⟩ := h
  exact hF d (.inl rfl)
/-- What a call on disk d leaves. -/
def Eff (w w' : World) (d : Nat) (S : St) (F : Nat → Prop) : Prop := ∃ F', DA w' d S F' ∧ (∀ i, F' i → F i ∨ w.heap.size ≤ i) ∧ Mod F w w'
theorem Eff.of {w w' : World} {d : Nat} {S : St} {F : Nat → Prop} (h : DA w' d S F) (hm : Mod F w w') : Eff w w' d S F := ⟨F, h, fun _ hi => .inl hi, hm⟩
theorem Eff.below {w w' : World} {d : Nat} {S : St} {F : Nat → Prop} (h : DA w d S F) (hb : Below w.heap.size w w') : Eff w w' d S F :=
  Eff.of (h.old hb) ((Mod.of_below hb).mono (fun i hi h' => by omega))
theorem Eff.trans {w w1 w2 : World} {d : Nat} {S : St} {F : Nat → Prop} (hm : Mod F w w1) (h : Eff w1 w2 d S F) : Eff w w2 d S F := by
  obtain ⟨F', hA, hF, hm2⟩ := h
  exact ⟨F', hA, fun i hi => (hF i hi).imp id (fun h => Nat.le_trans hm.size h), hm.trans hm2 (fun _ _ h => h)⟩
theorem Eff.then {w w1 w2 : World} {d : Nat} {S S2 : St} {F : Nat → Prop} (h : Eff w w1 d S F) (k : ∀ F', DA w1 d S F' → Eff w1 w2 d S2 F') : Eff w w2 d S2 F := by
  obtain ⟨F', hA, hF, hm⟩ := h
  obtain ⟨F2, hA2, hF2, hm2⟩ := k F' hA
  refine ⟨F2, hA2, fun i hi => ?_, hm.trans hm2 (fun i hi h => (hF i h).elim id (fun h' => by omega))⟩
  rcases hF2 i hi with h' | h'
  · exact hF i h'
  · exact .inr (Nat.le_trans hm.size h')
end Go.Proofs.Ytpbcglepecojmaa

namespace Go.Proofs.Ytpbcglepecojmaa
open Go.RowKit

theorem DK.setC {w : World} {d b : Nat} {S S' : St} {L : List Fl} (h : DK w d b S L) (j : Nat) (v : Value) (hc : (stCells S b).setIfInBounds j v = stCells S' b) (hX : S'.X = S.X) : DK (w.setCell ⟨d, j, none⟩ v) d b S' L := by
  refine h.turn (S' := S') (((Mod.refl (fun i => i = d) w)).setCell (fun _ => rfl) v) ?_ hX
  rw [heap_setCell_same w d j _ 60 v h.cell, hc]
theorem DA.setC {w : World} {d b : Nat} {S S' : St} {L : List Fl} {F : Nat → Prop} (h : DK w d b S L) (hF : ∀ i, inD d b L i → F i) (hl : ∀ i, F i → i < w.heap.size) (j : Nat) (v : Value) (hc : (stCells S b).setIfInBounds j v = stCells S' b) (hX : S'.X = S.X) :
    DA (w.setCell ⟨d, j, none⟩ v) d S' F ∧ Mod F w (w.setCell ⟨d, j, none⟩ v) :=
  ⟨⟨b, L, h.setC j v hc hX, hF, fun i hi => by have := hl i hi; simpa [World.setCell] using this⟩, (Mod.refl F w).setCell (fun _ => hF d (.inl rfl)) v⟩
theorem dsclone_any (k : List UInt8) (w : World) (hk : k.length ≤ 1000000) :
    Calls Try.prog 42 #[.string ⟨k.toArray⟩] w fun r w' => r = .returned (.string ⟨k.toArray⟩) ∧ Below w.heap.size w w' := by
  have h := fun w => Try.stringslite_Clone ⟨k.toArray⟩ w (by simp [ByteArray.size]; omega)
  have H := Lib.hid h
  clear h
  go_enter Try.func42, Try.ntmps42
  go_wp2_with fail
  refine (H.out _).mono ?_
  rintro r w1 ⟨rfl, hb⟩
  have HB := Lib.hid hb
  clear hb
  go_wp2_with fail
  go_ret
  exact ⟨rfl, HB.out⟩
theorem dknew_any (m m1 r : Int) (w : World) (e1 : max m 0 = m1) (e2 : min m1 1073741824 = r) :
    Calls Try.prog 8 #[.int .i64 m] w fun e w' => ∃ p, e = .returned (.pointer (some ⟨p, 0, none⟩)) ∧ ∃ F, DA w' p ⟨r, 0, -1, false, []⟩ F ∧ Below w.heap.size w w' ∧ ∀ i, F i → w.heap.size ≤ i := by
  have hP : DA ((w.alloc (.map #[] 0)).alloc (.cells (stCells ⟨r, 0, -1, false, []⟩ w.heap.size) 60)) (w.heap.size + 1) ⟨r, 0, -1, false, []⟩ (fun i => i = w.heap.size + 1 ∨ i = w.heap.size) := by
    refine ⟨w.heap.size, [], ⟨?_, ?_, (fun f hf => by cases hf), (fun f hf => by cases hf), List.Pairwise.nil, .refl _, List.Pairwise.nil⟩, ?_, ?_⟩
    · have := heap_alloc_new (w.alloc (.map #[] 0)) (.cells (stCells ⟨r, 0, -1, false, []⟩ w.heap.size) 60)
      simpa using this
    · exact (MapAt.made _ _ w).same (Below.heap_alloc _ _ _ (by simp))
    · rintro i (h | h | ⟨f, hf, _⟩)
      · exact .inl h
      · exact .inr h
      · cases hf
    · rintro i (h | h) <;> subst h <;> first | (simp; done) | (simp; omega)
  unfold stCells at hP
  have HP := Lib.hid hP
  clear hP
  have hmk : (Instr.makeMap 58 none).run Try.prog w = .ok (.map (some w.heap.size)) (w.alloc (.map #[] 0)) := run_makeMap _ _
  go_enter Try.func8, Try.ntmps8
  go_wp2_with fail
  go_ret
  exact ⟨_, rfl, _, HP.out, ((Below.refl _ w).alloc (Nat.le_refl _) _).alloc (by simp) _, by rintro i (h | h) <;> omega⟩
theorem dkroom_any {w : World} {d : Nat} {S : St} {F : Nat → Prop} (h : DA w d S F) :
    Calls Try.prog 25 #[.pointer (some ⟨d, 0, none⟩)] w fun e w' => e = .returned (.int .i64 S.rm) ∧ w' = w := by
  obtain ⟨b, L, h, _, _⟩ := h
  have c := h.c0
  clear h
  go_enter Try.func25, Try.ntmps25
  go_wp2_with fail
  go_ret
  exact ⟨rfl, rfl⟩
theorem dkdeeds_any {w : World} {d : Nat} {S : St} {F : Nat → Prop} (h : DA w d S F) :
    Calls Try.prog 26 #[.pointer (some ⟨d, 0, none⟩)] w fun e w' => e = .returned (.int .i64 S.dd) ∧ w' = w := by
  obtain ⟨b, L, h, _, _⟩ := h
  have c := h.c2
  clear h
  go_enter Try.func26, Try.ntmps26
  go_wp2_with fail
  go_ret
  exact ⟨rfl, rfl⟩
theorem dkhalt_any {w : World} {d : Nat} {S : St} {F : Nat → Prop} (h : DA w d S F) (n : Int) :
    Calls Try.prog 12 #[.pointer (some ⟨d, 0, none⟩), .int .i64 n] w fun e w' => e = .returned (.tuple #[]) ∧ Eff w w' d { S with lf := max n (-1) } F := by
  obtain ⟨b, L, h, hF, hl⟩ := h
  have c := h.c3
  have f3 := h.fr 3
  obtain ⟨m, hm⟩ : ∃ m, m = max n (-1) := ⟨_, rfl⟩
  have hE := DA.setC (S' := { S with lf := m }) h hF hl 3 (.int .i64 m) rfl rfl
  have HE : Hid (Eff w (w.setCell ⟨d, 3, none⟩ (.int .i64 m)) d { S with lf := m } F) := Lib.hid (Eff.of hE.1 hE.2)
  rw [← hm]
  have hm2 := hm.symm
  clear h hF hl hE hm
  go_enter Try.func12, Try.ntmps12
  go_wp2_with fail
  go_end0
  exact ⟨rfl, HE.out⟩
theorem dfloose_any (f : Fl) (w : World) (hs : f.s ≤ f.b.length) (hl : f.b.length ≤ 2000000000) :
    Calls Try.prog 28 #[f.v] w fun e w' => e = .returned (.int .i64 ((f.b.length - f.s : Nat) : Int)) ∧ Below w.heap.size w w' := by
  obtain ⟨k, bs, s, p, c⟩ := f
  unfold Fl.v
  simp only at hs hl ⊢
  obtain ⟨n, hn⟩ : ∃ n, n = bs.length := ⟨_, rfl⟩
  rw [← hn] at hs hl ⊢
  have e : ((n - s : Nat) : Int) = (n : Int) - s := by omega
  have hw : IntKind.i64.wrap ((n : Int) - s) = (n : Int) - s := by rw [IntKind.wrap_i64]; omega
  rw [e]
  clear hn hs hl e
  have hb : Below w.heap.size w (w.alloc (.cells #[.slice p n c, .int .i64 (s : Int)] 62)) := (Below.refl _ _).alloc (Nat.le_refl _) _
  have HB := Lib.hid hb
  clear hb
  go_enter Try.func28, Try.ntmps28
  go_wp2_with fail
  go_ret
  exact ⟨rfl, HB.out⟩
theorem dkloose_any {w : World} {d : Nat} {S : St} {F : Nat → Prop} (h : DA w d S F) (k : List UInt8) (hk : k.length ≤ maxLen) (hl : ∀ x ∈ S.X, x.2.1.length ≤ 2000000000) :
    Calls Try.prog 23 #[.pointer (some ⟨d, 0, none⟩), .string ⟨k.toArray⟩] w fun e w' => e = .returned (.int .i64 (((fiX k S.X).2.1.length - (fiX k S.X).2.2 : Nat) : Int)) ∧ Below w.heap.size w w' := by
  obtain ⟨b, L, h, _, _⟩ := h
  have c := h.c1
  have hlk := h.look k hk
  have hat := h.at k
  have hx := atF_x h k
  have hlen : (atF k L).b.length ≤ 2000000000 := by
    rcases hat.2.2 with hm | hn
    · exact hl (atF k L).x (h.pm.mem_iff.1 (List.mem_map_of_mem hm))
    · rcases hat.1.shape with ⟨_, e, _⟩ | ⟨g, e, _⟩
      · rw [e]; simp
      · rw [hn] at e; cases e
  have HC := Lib.hid (dfloose_any (atF k L) w hat.2.1 hlen)
  have e : ((fiX k S.X).2.1.length - (fiX k S.X).2.2 : Nat) = (atF k L).b.length - (atF k L).s := by rw [← hx]; rfl
  rw [e]
  generalize (atF k L).b.length - (atF k L).s = R at HC ⊢
  generalize (atF k L).v = v at hlk HC
  clear h hat hx hlen e hk hl
  go_enter Try.func23, Try.ntmps23
  go_wp2_with fail
  refine HC.out.mono ?_
  rintro r w1 ⟨rfl, hb⟩
  have HB := Lib.hid hb
  clear hb
  go_wp2_with fail
  go_ret
  exact ⟨rfl, HB.out⟩
set_option maxRecDepth 20000 in
theorem dkthere_any {w : World} {d : Nat} {S : St} {F : Nat → Prop} (h : DA w d S F) (k : List UInt8) (hk : k.length ≤ maxLen) :
    Calls Try.prog 27 #[.pointer (some ⟨d, 0, none⟩), .string ⟨k.toArray⟩] w fun e w' => e = .returned (.int .i64 (if hasX k S.X then 0 else 7)) ∧ Below w.heap.size w w' := by
  obtain ⟨b, L, h, _, _⟩ := h
  have c := h.c1
  have hlk := h.look_ok k hk
  obtain ⟨B, hB⟩ : ∃ B, B = hasX k S.X := ⟨_, rfl⟩
  rw [← hB] at hlk ⊢
  unfold Fl.v at hlk
  have hV1 : (Value.slice (atF k L).p (atF k L).b.length (atF k L).c).oneCell' = true := rfl
  generalize Value.slice (atF k L).p (atF k L).b.length (atF k L).c = V at hlk hV1
  generalize ((atF k L).s : Int) = sy at hlk
  clear h hk hB
  go_enter Try.func27, Try.ntmps27
  have hr1 : (w.alloc (.cells #[.slice none 0 0, .int .i64 0] 62)).heap[w.heap.size]? = some (.cells #[.slice none 0 0, .int .i64 0] 62 (0, 0)) := heap_alloc_new _ _
  have hB' : Below w.heap.size w ((w.alloc (.cells #[.slice none 0 0, .int .i64 0] 62)).setRow w.heap.size #[V, .int .i64 sy]) := ((((Mod.refl (fun _ => False) w).alloc (.cells #[.slice none 0 0, .int .i64 0] 62)).setRow _).to_below (Nat.le_refl _) (by rintro k hk (h | h) <;> omega))
  have HB := Lib.hid hB'
  have hi : (Try.prog.info? 62).map (·.size) = some 2 := by kernel_rfl
  have hV : ∀ v ∈ (#[V, .int .i64 sy] : Array Value).toList, v.oneCell' = true := by intro v hv; simp at hv; rcases hv with rfl | rfl; exact hV1; exact rfl
  clear hB'
  cases B
  · go_upto_region 2 with (refine wpList_store_row rfl rfl 62 (.tmp 5) (.tmp 14) rfl w.heap.size rfl 62 _ #[V, .int .i64 sy] rfl hr1 rfl hi hV ?_)
    generalize (w.alloc (.cells #[.slice none 0 0, .int .i64 0] 62)).setRow w.heap.size #[V, .int .i64 sy] = W at HB ⊢
    clear hr1 hi hV
    go_wp2_with fail
    go_ret
    exact ⟨rfl, HB.out⟩
  · go_upto_region 2 with (refine wpList_store_row rfl rfl 62 (.tmp 5) (.tmp 14) rfl w.heap.size rfl 62 _ #[V, .int .i64 sy] rfl hr1 rfl hi hV ?_)
    generalize (w.alloc (.cells #[.slice none 0 0, .int .i64 0] 62)).setRow w.heap.size #[V, .int .i64 sy] = W at HB ⊢
    clear hr1 hi hV
    go_wp2_with fail
    go_ret
    exact ⟨rfl, HB.out⟩
end Go.Proofs.Ytpbcglepecojmaa

namespace Go.Proofs.Ytpbcglepecojmaa
open Go.RowKit

/-- What Read answers. -/
def rdX (S : St) (k : List UInt8) : List UInt8 × Int := if S.dn then ([], 6) else if hasX k S.X then ((fiX k S.X).2.1, 0) else ([], 7)
set_option maxRecDepth 20000 in
theorem dkread_any {w : World} {d : Nat} {S : St} {F : Nat → Prop} (h : DA w d S F) (k : List UInt8) (hk : k.length ≤ maxLen) :
    Calls Try.prog 10 #[.pointer (some ⟨d, 0, none⟩), .string ⟨k.toArray⟩] w fun e w' => e = .returned (.tuple #[.string ⟨(rdX S k).1.toArray⟩, .int .i64 (rdX S k).2]) ∧ Below w.heap.size w w' := by
  have HC := Lib.hid (dkthere_any h k hk)
  obtain ⟨b, L, h, _, _⟩ := h
  have c4 := h.c4
  have hx := atF_x h k
  have HN : Hid (∀ w', Below w.heap.size w w' → w'.cell? ⟨d, 1, none⟩ = some (.map (some b)) ∧ (Instr.lookup 58 (.map (some b)) (.string ⟨k.toArray⟩) false).run Try.prog w' = .ok (.agg #[.slice (atF k L).p (atF k L).b.length (atF k L).c, .int .i64 ((atF k L).s : Int)]) w' ∧ (convert 54 9 (.slice (atF k L).p (atF k L).b.length (atF k L).c)).run Try.prog w' = .ok (.string ⟨(fiX k S.X).2.1.toArray⟩) w') := Lib.hid (by
    intro w' hb
    have h' := h.old hb
    refine ⟨h'.c1, h'.look k hk, ?_⟩
    rw [show (fiX k S.X).2.1 = (atF k L).b by rw [← hx]; rfl]
    exact Rw.convY (h'.at k).1 54 9 Try.underlying54 Try.underlying5 Try.underlying9)
  unfold rdX
  generalize (fiX k S.X).2.1 = bs at HN ⊢
  generalize hasX k S.X = B at HC ⊢
  generalize S.dn = D at c4 ⊢
  generalize (atF k L).p = p at HN
  generalize (atF k L).b.length = n at HN
  generalize ((atF k L).s : Int) = sy at HN
  generalize (atF k L).c = c at HN
  clear h hx hk
  cases D
  · cases B
    · go_enter Try.func10, Try.ntmps10
      go_wp2_with fail
      refine HC.out.mono ?_
      rintro r w1 ⟨rfl, hb⟩
      have HB := Lib.hid hb
      clear hb
      go_wp2_with fail
      go_ret2
      exact ⟨rfl, HB.out⟩
    · go_enter Try.func10, Try.ntmps10
      go_wp2_with fail
      refine HC.out.mono ?_
      rintro r w1 ⟨rfl, hb⟩
      obtain ⟨c1, hlk, hcv⟩ := HN.out w1 hb
      have HB := Lib.hid hb
      have hf : (Instr.field 62 (.agg #[.slice p n c, .int .i64 sy]) 0).run Try.prog w1 = .ok (.slice p n c) w1 := by kernel_rfl
      clear hb
      go_wp2_with fail
      go_ret2
      exact ⟨rfl, HB.out⟩
  · go_enter Try.func10, Try.ntmps10
    go_wp2_with fail
    go_ret2
    exact ⟨rfl, Below.refl _ _⟩
end Go.Proofs.Ytpbcglepecojmaa
