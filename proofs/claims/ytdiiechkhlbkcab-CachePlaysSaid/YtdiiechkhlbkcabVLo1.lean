/- Texts 1: what the laws lean on. -/
import Derived.WalkKit
import Derived.WalkSpells
import Derived.WalkLawsBesides
import Derived.Lib.Hide
import Derived.Laws.BytesArg
import Derived.Deep.RegionLaw
import Derived.Maps.RangeWalk
import Derived.Maps.OwnSet
import Derived.Sort.KeysCollected
import Derived.Test.YtdiiechkhlbkcabProg
import Derived.Orders
import Derived.Tactics
import Derived.Deep.CutBlock
import Derived.Deep.DeepCutAuto
import Derived.LoopTactic
namespace Go.Proofs.Ytdiiechkhlbkcab
open Go.RowKit

/-- Of the old blocks only those of S may have turned. -/
structure Mod (S : Nat → Prop) (w w' : World) : Prop where
  os : w'.os = w.os
  tape : w'.tape = w.tape
  output : w'.output = w.output
  size : w.heap.size ≤ w'.heap.size
  block : ∀ k, k < w.heap.size → ¬ S k → w'.heap[k]? = w.heap[k]?

theorem Mod.refl (S : Nat → Prop) (w : World) : Mod S w w := ⟨rfl, rfl, rfl, Nat.le_refl _, fun _ _ _ => rfl⟩
theorem Mod.trans {S T : Nat → Prop} {a b c : World} (h : Mod S a b) (k : Mod T b c) (hs : ∀ i, i < a.heap.size → T i → S i) : Mod S a c :=
  ⟨k.os.trans h.os, k.tape.trans h.tape, k.output.trans h.output, Nat.le_trans h.size k.size,
    fun i hi hn => (k.block i (Nat.lt_of_lt_of_le hi h.size) (fun ht => hn (hs i hi ht))).trans (h.block i hi hn)⟩
theorem Mod.mono {S T : Nat → Prop} {a b : World} (h : Mod S a b) (hs : ∀ i, i < a.heap.size → S i → T i) : Mod T a b :=
  ⟨h.os, h.tape, h.output, h.size, fun i hi hn => h.block i hi (fun hS => hn (hs i hi hS))⟩
theorem Mod.drew {S : Nat → Prop} {a w : World} (h : Mod S a w) : Mod S a w.drew := ⟨h.os, h.tape, h.output, h.size, h.block⟩
theorem Mod.drewN {S : Nat → Prop} {a w : World} (h : Mod S a w) (n : Nat) : Mod S a (w.drewN n) := ⟨h.os, h.tape, h.output, h.size, h.block⟩
theorem Mod.setRow {S : Nat → Prop} {a w : World} (h : Mod S a w) {g : Nat} (cs : Array Value) : Mod (fun k => S k ∨ k = g) a (w.setRow g cs) :=
  ⟨h.os, h.tape, h.output, by have := h.size; simp [World.setRow]; omega, fun i hi hn => (setRow_other w g i _ (fun e => hn (Or.inr e))).trans (h.block i hi (fun hS => hn (Or.inl hS)))⟩
/-- What was written anew alone. -/
theorem Mod.drop_new {S : Nat → Prop} {a b : World} {g : Nat} (h : Mod (fun k => S k ∨ k = g) a b) (hg : a.heap.size ≤ g) : Mod S a b :=
  h.mono (fun i hi h => h.elim id (fun e => by omega))
theorem Mod.alloc {S : Nat → Prop} {a w : World} (h : Mod S a w) (o : Obj) : Mod S a (w.alloc o) :=
  ⟨h.os, h.tape, h.output, by have := h.size; simp; omega, fun i hi hn => (Below.heap_alloc _ _ _ (Nat.lt_of_lt_of_le hi h.size)).trans (h.block i hi hn)⟩
theorem Mod.setCell {S : Nat → Prop} {a w : World} (h : Mod S a w) {p : Addr} (hp : p.block < a.heap.size → S p.block) (u : Value) : Mod S a (w.setCell p u) :=
  ⟨h.os, h.tape, h.output, by have := h.size; simp [World.setCell]; omega, fun i hi hn => (Below.heap_setCell _ _ _ _ (fun e => hn (by subst e; exact hp hi))).trans (h.block i hi hn)⟩
theorem Mod.grown {S : Nat → Prop} {a w w' : World} {row : Option Nat} (h : Mod S a w) (hg : w.grownBy w' row) (hr : ∀ k, row = some k → k < a.heap.size → S k) : Mod S a w' :=
  ⟨hg.os.trans h.os, hg.tape.trans h.tape, hg.output.trans h.output, Nat.le_trans h.size hg.size,
    fun i hi hn => (hg.block i (Nat.lt_of_lt_of_le hi h.size) (fun e => hn (hr i e.symm hi))).trans (h.block i hi hn)⟩
theorem Mod.of_below {B : Nat} {w w' : World} (h : Below B w w') : Mod (fun k => B ≤ k) w w' :=
  ⟨h.os, h.tape, h.output, h.size, fun k _ hn => h.block k (by omega)⟩
theorem Mod.to_below {S : Nat → Prop} {w w' : World} {B : Nat} (h : Mod S w w') (hB : B ≤ w.heap.size) (hS : ∀ k, k < B → ¬ S k) : Below B w w' :=
  ⟨h.os, h.tape, h.output, h.size, fun k hk => h.block k (by omega) (hS k hk)⟩

def vals (bs : List UInt8) : List Value := bs.map fun b => Value.int .u8 b.toNat
theorem vals_len (bs : List UInt8) : (vals bs).length = bs.length := by simp [vals]
theorem vals_app (a b : List UInt8) : vals (a ++ b) = vals a ++ vals b := by simp [vals]

/-- Block b is a struct of one field, a slice value v that owns the bytes bs in a row of its own. -/
structure OutAt (T E : TypeId) (w : World) (b : Nat) (v : Value) (bs : List UInt8) : Prop where
  blk : w.heap[b]? = some (.cells #[v] T (0, 0))
  own : w.ownsRow 0 E 1 v bs.length (vals bs)
  ne : v.ownBlock ≠ some b

theorem OutAt.cell {T E : TypeId} {w : World} {b : Nat} {v : Value} {bs : List UInt8} (h : OutAt T E w b v bs) : w.cell? ⟨b, 0, none⟩ = some v := by
  unfold World.cell?; rw [h.blk]; rfl
theorem OutAt.froz {T E : TypeId} {w : World} {b : Nat} {v : Value} {bs : List UInt8} (h : OutAt T E w b v bs) : w.frozen? ⟨b, 0, none⟩ = false := by
  unfold World.frozen?; rw [h.blk]; rfl
theorem OutAt.lt {T E : TypeId} {w : World} {b : Nat} {v : Value} {bs : List UInt8} (h : OutAt T E w b v bs) : b < w.heap.size := (Array.getElem?_eq_some_iff.1 h.blk).1
theorem OutAt.fresh {T E : TypeId} (w : World) : OutAt T E (w.alloc (.cells #[.slice none 0 0] T)) w.heap.size (.slice none 0 0) [] :=
  ⟨heap_alloc_new w _, World.ownsRow_nil _ _ _ _, by simp [Value.ownBlock]⟩
theorem OutAt.kept {T E : TypeId} {w w' : World} {b : Nat} {v : Value} {bs : List UInt8} {S : Nat → Prop} (h : OutAt T E w b v bs) (hm : Mod S w w') (hb : ¬ S b) (hv : ∀ k, v.ownBlock = some k → ¬ S k) : OutAt T E w' b v bs := by
  refine ⟨(hm.block b h.lt hb).trans h.blk, ⟨h.own.1, ?_⟩, h.ne⟩
  rcases h.own.2 with hn | ⟨g, cap, cur, rfl, hg, hh, r⟩
  · exact .inl hn
  · exact .inr ⟨g, cap, cur, rfl, hg, (hm.block g (Array.getElem?_eq_some_iff.1 hh).1 (hv g rfl)).trans hh, r⟩

theorem OutAt.alloc {T E : TypeId} {w : World} {b : Nat} {v : Value} {bs : List UInt8} (h : OutAt T E w b v bs) (o : Obj) : OutAt T E (w.alloc o) b v bs :=
  h.kept ((Mod.refl (fun _ => False) w).alloc o) (fun h => h) (fun _ _ h => h)

/-- The struct's field is stored anew: a slice value that owns more. -/
theorem OutAt.store {T E : TypeId} {w w1 : World} {b : Nat} {v v1 : Value} {bs bs1 : List UInt8} (h : OutAt T E w b v bs) (hg : w.grownBy w1 v.ownBlock) (hown : w1.ownsRow 0 E 1 v1 bs1.length (vals bs1)) (hne : v1.ownBlock ≠ some b) :
    OutAt T E (w1.setCell ⟨b, 0, none⟩ v1) b v1 bs1 := by
  have hb : w1.heap[b]? = some (.cells #[v] T (0, 0)) := (hg.block b h.lt (fun e => h.ne e.symm)).trans h.blk
  refine ⟨?_, ⟨hown.1, ?_⟩, hne⟩
  · have := heap_setCell_same w1 b 0 #[v] T v1 hb
    simpa using this
  · rcases hown.2 with hn | ⟨g, cap, cur, rfl, hg', hh, r⟩
    · exact .inl hn
    · refine .inr ⟨g, cap, cur, rfl, hg', ?_, r⟩
      rw [Below.heap_setCell _ _ _ _ (by intro e; exact hne (by simp [Value.ownBlock, e]))]
      exact hh

/-- A slice value that owns something shows its address. -/
theorem ownsRow_shape {w : World} {base e size n : Nat} {v : Value} {xs : List Value} (h : w.ownsRow base e size v n xs) (hn : 0 < n) : ∃ g cap, v = .slice (some ⟨g, 0, none⟩) n cap := by
  rcases h.2 with ⟨_, h0⟩ | ⟨g, cap, _, hv, _⟩
  · omega
  · exact ⟨g, cap, hv⟩

/-- An append to an owned row, as a step of a region that draws. -/
theorem step_append_own {P : Program} {ops : Array Oper} {o : Oper} {a : Act} {w : World} {K : Act → World → Prop} {Q : Exit → Act → World → Prop} {E : Prop}
    (hgd : o.guard = none) (s x : Operand) (t : TypeId)
    (ho : o.op = .call { callee := .builtin .append, args := #[s, x], argTypes := #[t, t] })
    (base : Nat) (e : TypeId) (i : TypeInfo) (z : Value) (size bytes : Nat) (ht : P.underlying t = some (.slice e)) (hi : P.info? e = some i) (hz : i.zero = some z)
    (hsize : i.size = size) (hby : i.bytes = bytes) (hzs : z.cells.size = size) (hsz : 0 < size)
    (v : Value) (n : Nat) (xs : List Value) (hs : a.eval s = v) (hown : w.ownsRow base e size v n xs)
    (ad : Addr) (m c : Nat) (news : List Value) (hx : a.eval x = .slice (some ad) m c) (hl : news.length = m * size) (hnews : ∀ j u, news[j]? = some u → w.cell? (ad.add j) = some u) (h1 : ∀ u ∈ news, u.oneCell' = true)
    (h63 : n + m ≤ maxLen) (hbytes : (n + m) * bytes ≤ 140737488355328) (hbase : base ≤ w.heap.size)
    (h : ∀ v' w', w'.ownsRow base e size v' (n + m) (xs ++ news) → w.grownBy w' v.ownBlock → (v' = .slice none 0 0 ↔ v = .slice none 0 0 ∧ m = 0) → K (a.put o.dst v') w') :
    if Region.wanted o (yielded ops a.tmps) = true then Oper.wp P o a w K Q else E := by
  have hw : Region.wanted o (yielded ops a.tmps) = true := by simp [Region.wanted, hgd]
  rw [if_pos hw]
  exact wp_append_own w s x t ho base e i z size bytes ht hi hz hsize hby hzs hsz v n xs hs hown ad m c news hx hl hnews h1 h63 hbytes hbase h

theorem bapp1 (a : UInt8) (l : List UInt8) : (ByteArray.mk #[a] ++ ByteArray.mk l.toArray) = ByteArray.mk (a :: l).toArray := ByteArray.mk_append_mk [a] l
theorem ret_str {a b : ByteArray} (h : a = b) : Ending.returned (.string a) = .returned (.string b) := by rw [h]
theorem val_str {a b : ByteArray} (h : a = b) : Value.string a = .string b := by rw [h]
theorem val_int {k : IntKind} {a b : Int} (h : a = b) : Value.int k a = .int k b := by rw [h]
theorem ret_int {k : IntKind} {a b : Int} (h : a = b) : Ending.returned (.int k a) = .returned (.int k b) := by rw [h]

theorem convLit1 {P : Program} (src dst e : TypeId) (hs : P.underlying src = some (.slice e)) (he : P.underlying e = some (.int .u8)) (hd : P.underlying dst = some .string) (w : World) (x : Int) :
    (convert src dst (.slice (some ⟨w.heap.size, 0, none⟩) 1 1)).run P (w.alloc (.cells #[.int .u8 x] e)) = .ok (.string ⟨#[UInt8.ofNat x.toNat]⟩) (w.alloc (.cells #[.int .u8 x] e)) := by
  have h := run_convert_bytes_arg (P := P) (w.alloc (.cells #[.int .u8 x] e)) src e hs he w.heap.size 0 1 1 [x] rfl (fun i hi => by
    obtain rfl : i = 0 := by omega
    unfold World.cell?
    rw [heap_alloc_new]
    rfl) dst hd
  simpa [strOfNums] using h

/-- The old world's name is kept. -/
theorem Lib.flip {P : Program} {f : FuncId} {args : Array Value} {w : World} {v : Ending} (h : Calls P f args w fun e w' => e = v ∧ w' = w) : Calls P f args w fun e w' => e = v ∧ w = w' :=
  h.mono fun _ _ ⟨a, b⟩ => ⟨a, b.symm⟩

/-- A shift to the right of a number from 0 on. -/
theorem shr_nat {P : Program} (k j : IntKind) (n s : Nat) (w : World) (hs : s ≤ k.bits) : (Op.shift .shr k (n : Int) j (s : Int)).run P w = .ok (.int k ((n / 2 ^ s : Nat) : Int)) w := by
  have h0 : ¬ ((s : Int) < 0) := by omega
  have hm : min ((s : Int)).toNat k.bits = s := by rw [Int.toNat_natCast]; exact Nat.min_eq_left hs
  unfold Op.shift
  rw [if_neg h0]
  simp only [hm]
  have : (n : Int).fdiv (2 ^ s) = ((n / 2 ^ s : Nat) : Int) := by
    rw [Int.fdiv_eq_ediv_of_nonneg _ (by exact_mod_cast Nat.zero_le (2 ^ s))]
    push_cast
    rfl
  rw [this]
  rfl

/-- A whole variable is stored: an array or a struct by value. -/
theorem wp_store_row {P : Program} {o : Oper} {a : Act} {w : World} {K : Act → World → Prop} {Q : Exit → Act → World → Prop} (ty : TypeId) (x y : Operand) (ho : o.op = .store ty x y)
    (g : Nat) (hx : a.eval x = .pointer (some ⟨g, 0, none⟩)) (t : TypeId) (old cs : Array Value) (hy : a.eval y = .agg cs) (hg : w.heap[g]? = some (.cells old t (0, 0))) (hsz : old.size = cs.size)
    (hi : (P.info? ty).map (·.size) = some cs.size) (h1 : ∀ v ∈ cs.toList, v.oneCell' = true)
    (h : K (a.put o.dst undef) (w.setRow g cs)) : o.wp P a w K Q := by
  have hst := run_storeCells_at P g 0 t cs.toList 0 old w hg (by simp; omega) h1
  have e : (old.toList.take (0 + 0) ++ cs.toList ++ old.toList.drop (0 + 0 + cs.toList.length)).toArray = cs := by
    have : old.toList.drop (0 + 0 + cs.toList.length) = [] := List.drop_eq_nil_of_le (by simp; omega)
    rw [this]; simp
  rw [e] at hst
  cases hq : P.info? ty with
  | none => simp [hq] at hi
  | some i =>
    have hs : i.size = cs.size := by simpa [hq] using hi
    have hv : (storeVar ty ⟨g, 0, none⟩ (.agg cs)).run P w = .ok () (w.setRow g cs) := by
      simp [storeVar, sizeOf, typeInfo, hq, hs, Value.cells, hst]
    unfold Oper.wp execOp
    simp only [ho, hx, hy, Instr.storeAt, Instr.sureAddr, Sem.run_bind, Sem.run_pure, Result.andThen_ok, hv]
    exact h

theorem wpList_store_row {P : Program} {ops : Array Oper} {rest : List Oper} {o : Oper} {a : Act} {w : World} {Q : Exit → Act → World → Prop} (hgd : o.guard = none) (hdst : o.dst = none) (ty : TypeId) (x y : Operand) (ho : o.op = .store ty x y)
    (g : Nat) (hx : a.eval x = .pointer (some ⟨g, 0, none⟩)) (t : TypeId) (old cs : Array Value) (hy : a.eval y = .agg cs) (hg : w.heap[g]? = some (.cells old t (0, 0))) (hsz : old.size = cs.size)
    (hi : (P.info? ty).map (·.size) = some cs.size) (h1 : ∀ v ∈ cs.toList, v.oneCell' = true)
    (h : wpList P ops Q rest a (w.setRow g cs)) : wpList P ops Q (o :: rest) a w :=
  wpList_plain hgd fun _ hK => wp_store_row ty x y ho g hx t old cs hy hg hsz hi h1 (hK _ _ (by rw [hdst]; exact h))

/-- Numbers as cells. -/
def nums (k : IntKind) (A : List Nat) : List Value := A.map fun (x : Nat) => Value.int k (x : Int)
theorem nums_len (k : IntKind) (A : List Nat) : (nums k A).length = A.length := by simp [nums]
theorem nums_one (k : IntKind) (A : List Nat) : ∀ v ∈ nums k A, v.oneCell' = true := by
  intro v hv; obtain ⟨x, _, rfl⟩ := List.mem_map.1 hv; rfl
theorem nums_get (k : IntKind) (A : List Nat) (i : Nat) (h : i < A.length) : (nums k A)[i]? = some (.int k (A[i]'h)) := by simp [nums, h]
theorem nums_set (k : IntKind) (A : List Nat) (i x : Nat) : (nums k A).set i (.int k x) = nums k (A.set i x) := by simp [nums, List.map_set]

/-- A block of numbers. -/
def RowAt (k : IntKind) (T : TypeId) (w : World) (g : Nat) (A : List Nat) : Prop := w.heap[g]? = some (.cells (nums k A).toArray T (0, 0))
theorem RowAt.cell {k : IntKind} {T : TypeId} {w : World} {g : Nat} {A : List Nat} (h : RowAt k T w g A) (i : Nat) (hi : i < A.length) : w.cell? ⟨g, i, none⟩ = some (.int k (A[i]'hi)) := by
  rw [cell_of_row w g i _ T (0, 0) h]; simpa using nums_get k A i hi
theorem RowAt.froz {k : IntKind} {T : TypeId} {w : World} {g : Nat} {A : List Nat} (h : RowAt k T w g A) (i : Nat) : w.frozen? ⟨g, i, none⟩ = false := frozen_of_row w g i _ T h
theorem RowAt.lt {k : IntKind} {T : TypeId} {w : World} {g : Nat} {A : List Nat} (h : RowAt k T w g A) : g < w.heap.size := (Array.getElem?_eq_some_iff.1 h).1
theorem RowAt.set {k : IntKind} {T : TypeId} {w : World} {g : Nat} {A : List Nat} (h : RowAt k T w g A) (i x : Nat) : RowAt k T (w.setCell ⟨g, i, none⟩ (.int k x)) g (A.set i x) := by
  have := heap_setCell_same w g i _ T (.int k x) h
  unfold RowAt
  rw [this, ← nums_set]
  simp
theorem RowAt.kept {k : IntKind} {T : TypeId} {w w' : World} {g : Nat} {A : List Nat} {S : Nat → Prop} (h : RowAt k T w g A) (hm : Mod S w w') (hg : ¬ S g) : RowAt k T w' g A := (hm.block g h.lt hg).trans h

/-- An array of numbers, by value, indexed. -/
theorem run_index_nums {P : Program} (T E : TypeId) (len : Nat) (k : IntKind) (A : List Nat) (i : Nat) (hi : i < A.length) (hT : P.underlying T = some (.array len E)) (hl : A.length = len)
    (hE : P.underlying E = some (.int k)) (hs : (P.info? E).map (·.size) = some 1) (w : World) :
    (Instr.index T (.agg (nums k A).toArray) (.int .i64 (i : Int))).run P w = .ok (.int k (A[i]'hi)) w := by
  have h1 : (0 : Int) ≤ i ∧ (i : Int) < len := by omega
  cases hq : P.info? E with
  | none => simp [hq] at hs
  | some j =>
    have hj : j.size = 1 := by simpa [hq] using hs
    have hg := nums_get k A i hi
    unfold Instr.index
    simp only [asIntOf, Sem.run_bind, Sem.run_pure, Result.andThen_ok, run_underlying hT]
    rw [if_pos h1]
    simp [sizeOf, typeInfo, hq, hj, part, isAgg, run_underlying hE, hg]
end Go.Proofs.Ytdiiechkhlbkcab

namespace Go.Proofs.Ytdiiechkhlbkcab
open Go.RowKit Go.ChangeMaps Go.WideShapes

/-- Whatever an element is, it reads as itself. -/
abbrev RV : Value → Option (DataW Value × List MemPlace) := fun v => some (.held v, [])
abbrev Ent := List UInt8 × Value
def entL (x : Ent) : Lit × DataW Value := (.string x.1, .held x.2)
def esOf (L : List Ent) : List (Lit × DataW Value) := (L.map entL).foldr DataW.insert []
def dOf (L : List Ent) : DataW Value := .map (esOf L)
def Apart (L : List Ent) : Prop := L.Pairwise fun x y => x.1 ≠ y.1
/-- Without a key. -/
def without (k : List UInt8) (L : List Ent) : List Ent := L.filter fun x => x.1 != k
def hasK (k : List UInt8) (L : List Ent) : Bool := L.any fun x => x.1 == k
def getK (k : List UInt8) (L : List Ent) (z : Value) : Value := match L.find? fun x => x.1 == k with | some x => x.2 | none => z

theorem Apart.perm {L L' : List Ent} (h : Apart L) (hp : L.Perm L') : Apart L' := (hp.pairwise_iff (fun {_ _} h => Ne.symm h)).1 h
theorem Apart.without {L : List Ent} (h : Apart L) (k : List UInt8) : Apart (without k L) := h.filter _
theorem Apart.cons {L : List Ent} (h : Apart L) (k : List UInt8) (v : Value) : Apart ((k, v) :: Go.Proofs.Ytdiiechkhlbkcab.without k L) :=
  List.pairwise_cons.2 ⟨fun y hy => by have := (List.mem_filter.1 hy).2; simp at this; exact fun e => this e.symm, h.without k⟩
theorem strKeys_ent (L : List Ent) : StrKeys (L.map entL) := by
  intro p hp; obtain ⟨x, _, rfl⟩ := List.mem_map.1 hp; exact ⟨x.1, rfl⟩
theorem apart_ent {L : List Ent} (h : Apart L) : (L.map entL).Pairwise (fun p q => p.1 ≠ q.1) := by
  rw [List.pairwise_map]
  exact h.imp (fun {a b} hn e => hn (by simpa [entL] using e))
theorem esOf_perm {L L' : List Ent} (h : Apart L) (hp : L.Perm L') : esOf L = esOf L' := by
  refine eq_of_perm_sorted ?_ (sorted_sorted _ (strKeys_ent L) (apart_ent h)) (sorted_sorted _ (strKeys_ent L') (apart_ent (h.perm hp)))
  exact (sorted_perm _).trans ((hp.map entL).trans (sorted_perm _).symm)
theorem dOf_perm {L L' : List Ent} (h : Apart L) (hp : L.Perm L') : dOf L = dOf L' := by unfold dOf; rw [esOf_perm h hp]
theorem same_str (a b : List UInt8) : Lit.sameKey (.string a) (.string b) = (a == b) := by simp [Lit.sameKey]
theorem notKey_ent (k : List UInt8) (L : List Ent) : (L.map entL).filter (notKey (.string k)) = (without k L).map entL := by
  rw [List.filter_map]
  congr 1
theorem del_dOf {L L' : List Ent} (h : Apart L) (k : List UInt8) (hp : L'.Perm (without k L)) : (dOf L).del (.string k) = dOf L' := by
  have := (sorted_del (k := .string k) (E' := L'.map entL) (strKeys_ent L) (apart_ent h) (by rw [notKey_ent]; exact hp.map entL)).1
  unfold dOf esOf
  rw [DataW.del_eq, this]
theorem put_dOf {L L' : List Ent} (h : Apart L) (k : List UInt8) (v : Value) (hp : L'.Perm ((k, v) :: without k L)) : (dOf L).put (.string k) (.held v) = dOf L' := by
  have := (sorted_put (k := .string k) (d := .held v) (E' := L'.map entL) ⟨k, rfl⟩ (strKeys_ent L) (apart_ent h) (by rw [notKey_ent]; exact hp.map entL)).1
  unfold dOf esOf
  rw [DataW.put_eq, this]
theorem any_esOf (f : Lit × DataW Value → Bool) (L : List Ent) : (esOf L).any f = L.any fun x => f (entL x) := by
  induction L with
  | nil => rfl
  | cons x l ih => show (DataW.insert (entL x) (esOf l)).any f = _; rw [Maps.any_insert, ih]; rfl
theorem has_dOf (L : List Ent) (k : List UInt8) : Maps.has (dOf L) (.string k) = hasK k L := by
  show (esOf L).any _ = _
  rw [any_esOf]
  unfold hasK
  congr 1
theorem size_dOf (L : List Ent) : Maps.size (dOf L) = L.length := by
  show (esOf L).length = _
  unfold esOf
  rw [length_sorted, List.length_map]
theorem find_esOf (k : List UInt8) : ∀ L : List Ent, Apart L → (esOf L).find? (fun p => p.1.sameKey (.string k)) = (L.find? fun x => x.1 == k).map entL
  | [], _ => rfl
  | x :: l, h => by
    obtain ⟨h1, h2⟩ := List.pairwise_cons.1 h
    show (DataW.insert (entL x) (esOf l)).find? _ = _
    by_cases hk : x.1 = k
    · have hx : (fun p : Lit × DataW Value => p.1.sameKey (.string k)) (entL x) = true := by simp [entL, Lit.sameKey, hk]
      rw [Maps.find_insert_hit hx]
      · simp [hk]
      · intro p hp
        obtain ⟨y, hy, rfl⟩ := List.mem_map.1 ((sorted_perm _).mem_iff.1 hp)
        have := h1 y hy
        rw [hk] at this
        simp [entL, Lit.sameKey]; exact fun e => this e.symm
    · have hx : (fun p : Lit × DataW Value => p.1.sameKey (.string k)) (entL x) = false := by simp [entL, Lit.sameKey, hk]
      rw [Maps.find_insert_miss hx, find_esOf k l h2, List.find?_cons_of_neg (by simpa using hk)]
theorem atKey_dOf {L : List Ent} (h : Apart L) (k : List UInt8) (z : Value) : (dOf L).atKey (.string k) (.held z) = .held (getK k L z) := by
  unfold DataW.atKey dOf getK
  simp only [find_esOf k L h]
  cases L.find? fun x => x.1 == k <;> rfl
theorem strKeys_dOf (L : List Ent) : (strKeys (dOf L)).Perm (L.map (·.1)) := by
  show ((esOf L).map fun p => strOf p.1).Perm _
  refine ((sorted_perm _).map _).trans ?_
  rw [List.map_map]
  exact .refl _

/-- Block b is a map of just these entries. -/
structure MapAt (P : Program) (K : TypeId) (w : World) (b : Nat) (L : List Ent) : Prop where
  ap : Apart L
  le : ∀ x ∈ L, x.1.length ≤ maxLen
  own : w.ownsMap P K RV b L.length (dOf L)

section
variable {P : Program} {K : TypeId} {w w' : World} {b : Nat} {L : List Ent}
theorem ownsMap_tight {n : Nat} (h : w.ownsMap P K RV b n (dOf L)) : w.ownsMap P K RV b L.length (dOf L) := by
  obtain ⟨es, clock, hb, F, hs, hD⟩ := h
  refine ⟨es, clock, hb, F, ?_, hD⟩
  have := congrArg Maps.size hD
  rw [size_dOf] at this
  simp [Maps.size, length_sorted] at this
  omega
theorem MapAt.lt (h : MapAt P K w b L) : b < w.heap.size := h.own.lt
theorem MapAt.perm (h : MapAt P K w b L) {L' : List Ent} (hp : L.Perm L') : MapAt P K w b L' :=
  ⟨h.ap.perm hp, fun x hx => h.le x (hp.mem_iff.2 hx), by rw [← dOf_perm h.ap hp, ← hp.length_eq]; exact h.own⟩
theorem MapAt.same (h : MapAt P K w b L) (hb : w'.heap[b]? = w.heap[b]?) : MapAt P K w' b L := by
  refine ⟨h.ap, h.le, ?_⟩
  obtain ⟨es, clock, hh, r⟩ := h.own
  exact ⟨es, clock, hb.trans hh, r⟩
theorem MapAt.kept {S : Nat → Prop} (h : MapAt P K w b L) (hm : Mod S w w') (hb : ¬ S b) : MapAt P K w' b L := h.same (hm.block b h.lt hb)
theorem MapAt.old (h : MapAt P K w b L) (hb : Below w.heap.size w w') : MapAt P K w' b L := h.same (hb.block b h.lt)
theorem MapAt.notCells (h : MapAt P K w b L) {g : Nat} {cs : Array Value} {T : TypeId} {fr : Nat × Nat} (hg : w.heap[g]? = some (.cells cs T fr)) : g ≠ b := by
  rintro rfl
  obtain ⟨es, clock, hh, _⟩ := h.own
  rw [hh] at hg; cases hg
theorem MapAt.made (P : Program) (K : TypeId) (w : World) : MapAt P K (w.alloc (.map #[] 0)) w.heap.size [] :=
  ⟨List.Pairwise.nil, (fun _ h => by cases h), World.ownsMap_made w P K RV⟩
theorem Mod.turned (h : w.mapTurned w' b) : Mod (fun k => k = b) w w' := by
  have hg := h.grown
  exact ⟨hg.os, hg.tape, hg.output, hg.size, fun k hk hn => hg.block k hk (fun e => hn (Option.some.inj e))⟩
theorem keyStr (hK : P.underlying K = some .string) (k : List UInt8) (hk : k.length ≤ maxLen) : keyOf P K (.string ⟨k.toArray⟩) = some (.string k) := by
  simp [keyOf, hK, mapKey, ByteArray.size, hk]
variable {t e : TypeId}
theorem MapAt.len (h : MapAt P K w b L) (ht : P.underlying t = some (.map K e)) (ty : TypeId) : (Builtin.len_ #[t] ty #[.map (some b)]).run P w = .ok (.int .i64 (L.length : Nat)) w := by
  rw [h.own.len ht ty, size_dOf]
theorem MapAt.look (h : MapAt P K w b L) (hK : P.underlying K = some .string) (ht : P.underlying t = some (.map K e)) {z : Value} (hz : (zeroValue e).run P w = .ok z w) (k : List UInt8) (hk : k.length ≤ maxLen) :
    (Instr.lookup t (.map (some b)) (.string ⟨k.toArray⟩) false).run P w = .ok (getK k L z) w := by
  obtain ⟨v, ps, hr, hv⟩ := h.own.lookup (Maps.string_keyed hK) ht hz (zd := .held z) (zp := []) rfl (keyStr hK k hk)
  rw [atKey_dOf h.ap] at hv
  simp only [Option.some.injEq, Prod.mk.injEq, DataW.held.injEq] at hv
  rw [hr, hv.1]
theorem MapAt.look_ok (h : MapAt P K w b L) (hK : P.underlying K = some .string) (ht : P.underlying t = some (.map K e)) {z : Value} (hz : (zeroValue e).run P w = .ok z w) (k : List UInt8) (hk : k.length ≤ maxLen) :
    (Instr.lookup t (.map (some b)) (.string ⟨k.toArray⟩) true).run P w = .ok (.tuple #[getK k L z, .bool (hasK k L)]) w := by
  obtain ⟨v, ps, hr, hv⟩ := h.own.look_ok (Maps.string_keyed hK) ht hz (zd := .held z) (zp := []) rfl (keyStr hK k hk)
  rw [atKey_dOf h.ap] at hv
  simp only [Option.some.injEq, Prod.mk.injEq, DataW.held.injEq] at hv
  rw [hr, hv.1, has_dOf]
theorem MapAt.drop (h : MapAt P K w b L) (hK : P.underlying K = some .string) (ht : P.underlying t = some (.map K e)) (k : List UInt8) (hk : k.length ≤ maxLen) (ty : TypeId) :
    ∃ w', (Builtin.delete_ #[t, K] ty #[.map (some b), .string ⟨k.toArray⟩]).run P w = .ok (.tuple #[]) w' ∧ MapAt P K w' b (without k L) ∧ Mod (fun i => i = b) w w' := by
  obtain ⟨w', hr, ho, hm⟩ := h.own.drop (Maps.string_keyed hK) ht (keyStr hK k hk) ty
  rw [del_dOf h.ap k (.refl _)] at ho
  exact ⟨w', hr, ⟨h.ap.without k, fun x hx => h.le x (List.mem_filter.1 hx).1, ownsMap_tight ho⟩, Mod.turned hm⟩
theorem MapAt.store (h : MapAt P K w b L) (hK : P.underlying K = some .string) (ht : P.underlying t = some (.map K e)) (hn : L.length < maxLen) (k : List UInt8) (hk : k.length ≤ maxLen) (v : Value) :
    ∃ w', (Instr.mapUpdate t (.map (some b)) (.string ⟨k.toArray⟩) v).run P w = .ok () w' ∧ MapAt P K w' b ((k, v) :: without k L) ∧ Mod (fun i => i = b) w w' := by
  obtain ⟨w', hr, ho, hm⟩ := h.own.store (Maps.string_keyed hK) ht hn (keyStr hK k hk) (val := v) (d := .held v) (ps := []) rfl
  rw [put_dOf h.ap k v (.refl _)] at ho
  refine ⟨w', hr, ⟨h.ap.cons k v, ?_, ownsMap_tight ho⟩, Mod.turned hm⟩
  intro x hx
  rcases List.mem_cons.1 hx with rfl | hx
  · exact hk
  · exact h.le x (List.mem_filter.1 hx).1
end
end Go.Proofs.Ytdiiechkhlbkcab

namespace Go.Proofs.Ytdiiechkhlbkcab
open Go.RowKit

/-- Each one's older is the next one, whose newer it is. -/
def Lk (nw od : Nat → Nat) : List Nat → Prop
  | a :: b :: l => (od a = b ∧ nw b = a) ∧ Lk nw od (b :: l)
  | _ => True
theorem Lk_app (nw od : Nat → Nat) (p : Nat) (B : List Nat) : ∀ A, Lk nw od (A ++ p :: B) ↔ Lk nw od (A ++ [p]) ∧ Lk nw od (p :: B)
  | [] => by simp [Lk]
  | [a] => by simp [Lk]
  | a :: a' :: A => by
    have ih := Lk_app nw od p B (a' :: A)
    simp only [List.cons_append] at ih ⊢
    simp only [Lk, ih, and_assoc]
theorem Lk_congr {nw od nw' od' : Nat → Nat} : ∀ l : List Nat, (∀ a ∈ l.dropLast, od' a = od a) → (∀ a ∈ l.tail, nw' a = nw a) → Lk nw od l → Lk nw' od' l
  | [], _, _, _ => trivial
  | [a], _, _, _ => trivial
  | a :: b :: l, h1, h2, ⟨⟨e1, e2⟩, h⟩ => by
    refine ⟨⟨by rw [h1 a (by simp), e1], by rw [h2 b (by simp), e2]⟩, Lk_congr (b :: l) (fun x hx => h1 x ?_) (fun x hx => h2 x ?_) h⟩
    · rw [List.dropLast_cons_of_ne_nil (by simp)]; exact List.mem_cons_of_mem _ hx
    · simp only [List.tail_cons] at hx ⊢; exact List.mem_cons_of_mem _ hx
def upd (f : Nat → Nat) (a b : Nat) : Nat → Nat := fun x => if x = a then b else f x
theorem upd_same (f : Nat → Nat) (a b : Nat) : upd f a b a = b := by simp [upd]
theorem upd_other (f : Nat → Nat) {a x : Nat} (b : Nat) (h : x ≠ a) : upd f a b x = f x := by simp [upd, h]
/-- One goes. -/
theorem Lk_leave {nw od : Nat → Nat} {A R : List Nat} {p x n : Nat} {B : List Nat} {r : Nat} (h : Lk nw od (A ++ p :: x :: n :: B)) (hr : (A ++ [p]).head? = some r) (hn : n :: B = R ++ [r]) (hd : (A ++ p :: x :: R).Nodup) :
    od x = n ∧ nw x = p ∧ Lk (upd nw n p) (upd od p n) (A ++ p :: n :: B) := by
  rw [Lk_app] at h
  obtain ⟨h1, ⟨⟨_, e2⟩, ⟨e3, _⟩, h4⟩⟩ := h
  refine ⟨e3, e2, ?_⟩
  rw [Lk_app]
  obtain ⟨d1, d2, d3⟩ := List.nodup_append.1 hd
  have hpR : p ∉ R := by intro hp; have := (List.nodup_cons.1 d2).1; exact this (List.mem_cons_of_mem _ hp)
  have hpA : p ∉ A := fun hp => d3 p hp p (by simp) rfl
  have hrm : r ∈ A ++ [p] := List.mem_of_mem_head? hr
  have hrR : r ∉ R := by
    intro h
    rcases List.mem_append.1 hrm with hA | hp
    · exact d3 r hA r (by simp [h]) rfl
    · rw [List.mem_singleton.1 hp] at h; exact hpR h
  have hnT : n ∉ (A ++ [p]).tail := by
    intro h
    have hA : (A ++ [p]) = r :: (A ++ [p]).tail := by
      cases hAp : A ++ [p] with
      | nil => simp at hAp
      | cons a l => rw [hAp] at hr; simp at hr; rw [hr]; rfl
    have hnd : (A ++ [p]).Nodup := by
      have : (A ++ p :: x :: R) = (A ++ [p]) ++ (x :: R) := by simp
      rw [this] at hd; exact (List.nodup_append.1 hd).1
    cases R with
    | nil => simp at hn; rw [hn.1] at h; rw [hA] at hnd; exact (List.nodup_cons.1 hnd).1 h
    | cons a l =>
      simp at hn
      have hm : n ∈ A ++ [p] := List.mem_of_mem_tail h
      rcases List.mem_append.1 hm with hm | hm
      · exact d3 n hm n (by simp [hn.1]) rfl
      · rw [List.mem_singleton.1 hm] at hn; exact hpR (by simp [hn.1])
  have hnB : n ∉ B := by
    cases R with
    | nil => simp at hn; rw [hn.2]; simp
    | cons a l =>
      simp at hn
      rw [hn.2, hn.1]
      intro h
      have hR : (a :: l).Nodup := (List.nodup_cons.1 (List.nodup_cons.1 d2).2).2
      rcases List.mem_append.1 h with h | h
      · exact (List.nodup_cons.1 hR).1 h
      · rw [List.mem_singleton.1 h] at hrR; exact hrR (by simp)
  refine ⟨Lk_congr _ (fun a ha => upd_other _ _ ?_) (fun a ha => upd_other _ _ ?_) h1, ⟨⟨upd_same _ _ _, upd_same _ _ _⟩, Lk_congr _ (fun a ha => upd_other _ _ ?_) (fun a ha => upd_other _ _ ?_) h4⟩⟩
  · rw [List.dropLast_concat] at ha; rintro rfl; exact hpA ha
  · rintro rfl; exact hnT ha
  · rw [hn, List.dropLast_concat] at ha; rintro rfl; exact hpR ha
  · rintro rfl; exact hnB ha
/-- One comes, behind r. -/
theorem Lk_enter {nw od : Nat → Nat} {r x h : Nat} {B bs : List Nat} (hl : Lk nw od (r :: h :: B)) (hb : h :: B = bs ++ [r]) (hd : (r :: bs).Nodup) (hx : x ∉ r :: bs) :
    od r = h ∧ Lk (upd (upd nw x r) h x) (upd (upd od x h) r x) (r :: x :: h :: B) := by
  obtain ⟨⟨e1, _⟩, h2⟩ := hl
  refine ⟨e1, ?_⟩
  have hxr : x ≠ r := fun e => hx (by simp [e])
  have hxb : x ∉ bs := fun e => hx (by simp [e])
  have hrb : r ∉ bs := (List.nodup_cons.1 hd).1
  have hxh : x ≠ h := by
    rintro rfl
    cases bs with
    | nil => simp at hb; exact hxr hb.1
    | cons a l => simp at hb; exact hxb (by simp [hb.1])
  have hhB : h ∉ B := by
    cases bs with
    | nil => simp at hb; rw [hb.2]; simp
    | cons a l =>
      simp at hb
      rw [hb.2, hb.1]
      intro hm
      rcases List.mem_append.1 hm with hm | hm
      · exact (List.nodup_cons.1 (List.nodup_cons.1 hd).2).1 hm
      · rw [List.mem_singleton.1 hm] at hrb; exact hrb (by simp)
  have hxB : x ∉ B := by
    intro hm
    have : x ∈ h :: B := List.mem_cons_of_mem _ hm
    rw [hb] at this
    rcases List.mem_append.1 this with hm | hm
    · exact hxb hm
    · exact hxr (List.mem_singleton.1 hm)
  refine ⟨⟨upd_same _ _ _, by rw [upd_other _ _ hxh, upd_same]⟩, ⟨by rw [upd_other _ _ hxr, upd_same], upd_same _ _ _⟩, Lk_congr _ (fun a ha => ?_) (fun a ha => ?_) h2⟩
  · rw [hb, List.dropLast_concat] at ha
    rw [upd_other _ _ (by rintro rfl; exact hrb ha), upd_other _ _ (by rintro rfl; exact hxb ha)]
  · rw [List.tail_cons] at ha
    rw [upd_other _ _ (by rintro rfl; exact hhB ha), upd_other _ _ (by rintro rfl; exact hxB ha)]

/-- An entry's row. -/
def entR (k : List UInt8) (v : Int) (n o : Nat) : Array Value := #[.string ⟨k.toArray⟩, .int .i64 v, .pointer (some ⟨n, 0, none⟩), .pointer (some ⟨o, 0, none⟩)]
def Nodes (w : World) (S : List Nat) (kf : Nat → List UInt8) (vf : Nat → Int) (nw od : Nat → Nat) : Prop := ∀ y ∈ S, w.heap[y]? = some (.cells (entR (kf y) (vf y) (nw y) (od y)) 49 (0, 0))
theorem Nodes.same {w w' : World} {S : List Nat} {kf : Nat → List UInt8} {vf : Nat → Int} {nw od : Nat → Nat} (h : Nodes w S kf vf nw od) (hb : ∀ y ∈ S, w'.heap[y]? = w.heap[y]?) : Nodes w' S kf vf nw od := fun y hy => (hb y hy).trans (h y hy)
theorem Nodes.sub {w : World} {S S' : List Nat} {kf : Nat → List UInt8} {vf : Nat → Int} {nw od : Nat → Nat} (h : Nodes w S kf vf nw od) (hs : ∀ y ∈ S', y ∈ S) : Nodes w S' kf vf nw od := fun y hy => h y (hs y hy)
theorem Nodes.cell {w : World} {S : List Nat} {kf : Nat → List UInt8} {vf : Nat → Int} {nw od : Nat → Nat} (h : Nodes w S kf vf nw od) {y : Nat} (hy : y ∈ S) :
    w.cell? ⟨y, 0, none⟩ = some (.string ⟨(kf y).toArray⟩) ∧ w.cell? ⟨y, 1, none⟩ = some (.int .i64 (vf y)) ∧ w.cell? ⟨y, 2, none⟩ = some (.pointer (some ⟨nw y, 0, none⟩)) ∧ w.cell? ⟨y, 3, none⟩ = some (.pointer (some ⟨od y, 0, none⟩)) := by
  refine ⟨?_, ?_, ?_, ?_⟩ <;> (unfold World.cell?; rw [h y hy]; rfl)
theorem Nodes.froz {w : World} {S : List Nat} {kf : Nat → List UInt8} {vf : Nat → Int} {nw od : Nat → Nat} (h : Nodes w S kf vf nw od) {y : Nat} (hy : y ∈ S) (i : Nat) : w.frozen? ⟨y, i, none⟩ = false := frozen_of_row w y i _ 49 (h y hy)
theorem Nodes.setNw {w : World} {S : List Nat} {kf : Nat → List UInt8} {vf : Nat → Int} {nw od : Nat → Nat} (h : Nodes w S kf vf nw od) (a b : Nat) : Nodes (w.setCell ⟨a, 2, none⟩ (.pointer (some ⟨b, 0, none⟩))) S kf vf (upd nw a b) od := by
  intro y hy
  by_cases e : y = a
  · subst e
    rw [upd_same]
    have := heap_setCell_same w y 2 _ 49 (.pointer (some ⟨b, 0, none⟩)) (h y hy)
    rw [this]; rfl
  · rw [upd_other _ _ e, Below.heap_setCell _ _ _ _ e]; exact h y hy
theorem Nodes.setOd {w : World} {S : List Nat} {kf : Nat → List UInt8} {vf : Nat → Int} {nw od : Nat → Nat} (h : Nodes w S kf vf nw od) (a b : Nat) : Nodes (w.setCell ⟨a, 3, none⟩ (.pointer (some ⟨b, 0, none⟩))) S kf vf nw (upd od a b) := by
  intro y hy
  by_cases e : y = a
  · subst e
    rw [upd_same]
    have := heap_setCell_same w y 3 _ 49 (.pointer (some ⟨b, 0, none⟩)) (h y hy)
    rw [this]; rfl
  · rw [upd_other _ _ e, Below.heap_setCell _ _ _ _ e]; exact h y hy
theorem Nodes.lt {w : World} {S : List Nat} {kf : Nat → List UInt8} {vf : Nat → Int} {nw od : Nat → Nat} (h : Nodes w S kf vf nw od) {y : Nat} (hy : y ∈ S) : y < w.heap.size := (Array.getElem?_eq_some_iff.1 (h y hy)).1
end Go.Proofs.Ytdiiechkhlbkcab

namespace Go.Proofs.Ytdiiechkhlbkcab
open Go

/-- How many of the first n are not listed yet. -/
def unl (L : Array Bool) : Nat → Nat
  | 0 => 0
  | n + 1 => unl L n + (if L.getD n true then 0 else 1)
theorem unl_le (L : Array Bool) : ∀ n, unl L n ≤ n
  | 0 => Nat.le_refl _
  | n + 1 => by have := unl_le L n; simp only [unl]; split <;> omega
theorem set_self (L : Array Bool) (i : Nat) : (L.setIfInBounds i true).getD i true = true := by
  by_cases h : i < L.size
  · simp [h]
  · simp [h]
theorem unl_set (L : Array Bool) (i : Nat) (hi : L.getD i true = false) : ∀ n, unl (L.setIfInBounds i true) n + (if i < n then 1 else 0) = unl L n
  | 0 => rfl
  | n + 1 => by
    have ih := unl_set L i hi n
    simp only [unl]
    by_cases h : n = i
    · subst h
      rw [set_self, hi]
      simp at ih ⊢
      exact ih
    · rw [getD_set_ne true (Ne.symm h)]
      generalize (if L.getD n true = true then 0 else 1) = z
      by_cases h2 : i < n
      · rw [if_pos h2] at ih; rw [if_pos (by omega)]; omega
      · rw [if_neg h2] at ih; rw [if_neg (by omega)]; omega
theorem unl_pos (L : Array Bool) : ∀ n i, i < n → L.getD i true = false → 0 < unl L n
  | n + 1, i, h, hi => by
    simp only [unl]
    by_cases e : i = n
    · subst e; rw [hi]; simp
    · have := unl_pos L n i (by omega) hi; omega

/-- What is in the slots that the operations know: those of the list. -/
def AllV (V : Tmp → Value → World → Prop) (a : Act) (w : World) : List Tmp → Prop
  | [] => True
  | t :: r => V t (a.eval (.tmp t)) w ∧ AllV V a w r
theorem AllV.of {V : Tmp → Value → World → Prop} {a : Act} {w : World} : ∀ {l : List Tmp}, (∀ t ∈ l, V t (a.eval (.tmp t)) w) → AllV V a w l
  | [], _ => trivial
  | t :: r, h => ⟨h t (by simp), AllV.of (fun u hu => h u (by simp [hu]))⟩

/-- The slots whose values an operation waits for. -/
def waits (md : Region.Mode) (ops : Array Oper) (o : Oper) : List Tmp :=
  (o.after.toList.filter (Region.binds md)).filterMap fun e => (ops[e.on]?).bind (·.dst)

structure Agree (ops : Array Oper) (a0 a : Act) : Prop where
  size : a.tmps.size = a0.tmps.size
  defers : a.defers = a0.defers
  same : ∀ t, (∀ (i : Nat) (o : Oper), ops[i]? = some o → o.dst ≠ some t) → a.eval (.tmp t) = a0.eval (.tmp t)

def drawOk (ops : Array Oper) (N : Nat) : Bool :=
  (List.range ops.size).all fun i => match ops[i]? with
    | none => true
    | some o => o.after.all (fun e => decide (e.on < i)) && (match o.dst with
      | none => true
      | some d => decide (d < N) && (List.range ops.size).all fun j => j == i || (match ops[j]? with | some p => p.dst != some d | none => true))

structure DrawOk (ops : Array Oper) (N : Nat) : Prop where
  before : ∀ (i : Nat) (o : Oper), ops[i]? = some o → ∀ e ∈ o.after, e.on < i
  room : ∀ (i : Nat) (o : Oper) (d : Tmp), ops[i]? = some o → o.dst = some d → d < N
  apart : ∀ (i j : Nat) (o p : Oper) (d : Tmp), ops[i]? = some o → ops[j]? = some p → j ≠ i → o.dst = some d → p.dst ≠ some d
theorem drawOk_spec {ops : Array Oper} {N : Nat} (h : drawOk ops N = true) : DrawOk ops N := by
  have key : ∀ (i : Nat) (o : Oper), ops[i]? = some o → o.after.all (fun e => decide (e.on < i)) = true ∧ (match o.dst with
      | none => true
      | some d => decide (d < N) && (List.range ops.size).all fun j => j == i || (match ops[j]? with | some p => p.dst != some d | none => true)) = true := by
    intro i o ho
    have hlt : i < ops.size := (Array.getElem?_eq_some_iff.1 ho).1
    have := List.all_eq_true.1 h i (List.mem_range.2 hlt)
    simp only [ho, Bool.and_eq_true] at this
    exact this
  refine ⟨fun i o ho e he => ?_, fun i o d ho hd => ?_, fun i j o p d ho hp hj hd hpd => ?_⟩
  · have := Array.all_eq_true_iff_forall_mem.1 (key i o ho).1 e he
    exact of_decide_eq_true this
  · have := (key i o ho).2
    rw [hd] at this
    simp only [Bool.and_eq_true] at this
    exact of_decide_eq_true this.1
  · have := (key i o ho).2
    rw [hd] at this
    simp only [Bool.and_eq_true] at this
    have h2 := List.all_eq_true.1 this.2 j (List.mem_range.2 (Array.getElem?_eq_some_iff.1 hp).1)
    simp only [hp, Bool.or_eq_true, beq_iff_eq, hj, false_or, bne_iff_ne, ne_eq] at h2
    exact h2 hpd

/-- What one operation owes. -/
def Owes (P : Program) (md : Region.Mode) (ops : Array Oper) (Q : Exit → Act → World → Prop) (V : Tmp → Value → World → Prop) (G : World → Prop) (a0 : Act) (i : Nat) (o : Oper) : Prop :=
  ∀ a w, Agree ops a0 a → G w → AllV V a w (waits md ops o) →
    wpOp P ops Q i (fun a' w' => ∃ v, a' = a.put o.dst v ∧ (∀ t, o.dst = some t → V t v w') ∧ G w' ∧ ∀ t x, V t x w → V t x w') a w

theorem eval_put_same {a : Act} {d : Tmp} (h : d < a.tmps.size) (v : Value) : (a.put (some d) v).eval (.tmp d) = v := by
  simp [Act.put, Act.eval, h]
theorem size_put (a : Act) (d : Option Tmp) (v : Value) : (a.put d v).tmps.size = a.tmps.size := by
  cases d <;> simp [Act.put]
theorem defers_put (a : Act) (d : Option Tmp) (v : Value) : (a.put d v).defers = a.defers := by
  cases d <;> rfl

section
variable {P : Program} {ops : Array Oper} {Q : Exit → Act → World → Prop} {md : Region.Mode} {V : Tmp → Value → World → Prop} {G : World → Prop} {a0 : Act}

theorem ready_some (hok : DrawOk ops a0.tmps.size) {L : Array Bool} (hL : L.size = ops.size) : ∀ i, i < ops.size → L.getD i true = false → ∃ j, j ∈ Region.ready md ops L := by
  intro i
  induction i using Nat.strongRecOn with
  | ind i ih =>
    intro hi hun
    have ho : ops[i]? = some ops[i] := Array.getElem?_eq_getElem hi
    by_cases h : ∀ e ∈ ops[i].after, Region.binds md e = true → L.getD e.on false = true
    · exact ⟨i, mem_ready.2 ⟨hun, _, ho, h⟩⟩
    · have ⟨e, he⟩ := Classical.not_forall.1 h
      have ⟨he1, he2⟩ := Classical.not_imp.1 he
      have ⟨hb, hf⟩ := Classical.not_imp.1 he2
      have hlt := hok.before i _ ho e he1
      have hel : e.on < L.size := by omega
      refine ih e.on hlt (by omega) ?_
      simp [hel] at hf ⊢
      exact hf

theorem wpAny_vals (hok : DrawOk ops a0.tmps.size) (step : ∀ (i : Nat) (o : Oper), ops[i]? = some o → Owes P md ops Q V G a0 i o)
    (fin : ∀ a w, Agree ops a0 a → G w → (∀ (i : Nat) (o : Oper) (t : Tmp), ops[i]? = some o → o.dst = some t → V t (a.eval (.tmp t)) w) → Q .normal a w) :
    ∀ (fuel : Nat) (L : Array Bool) (a : Act) (w : World), unl L ops.size ≤ fuel → L.size = ops.size → Agree ops a0 a → G w →
      (∀ (i : Nat) (o : Oper) (t : Tmp), ops[i]? = some o → L.getD i true = true → o.dst = some t → V t (a.eval (.tmp t)) w) → wpAny P md ops Q fuel L a w := by
  have allL : ∀ L : Array Bool, L.size = ops.size → Region.ready md ops L = [] → ∀ (i : Nat) (o : Oper), ops[i]? = some o → L.getD i true = true := by
    intro L hL hr i o ho
    cases hc : L.getD i true with
    | true => rfl
    | false =>
      obtain ⟨j, hj⟩ := ready_some (md := md) hok hL i (Array.getElem?_eq_some_iff.1 ho).1 hc
      rw [hr] at hj; cases hj
  intro fuel
  induction fuel with
  | zero =>
    intro L a w hu hL ha hG hv
    have hr : Region.ready md ops L = [] := by
      apply List.eq_nil_iff_forall_not_mem.2
      intro j hj
      obtain ⟨hun, o, ho, _⟩ := mem_ready.1 hj
      have := unl_pos L ops.size j (Array.getElem?_eq_some_iff.1 ho).1 hun
      omega
    exact ⟨hr, fin a w ha hG (fun i o t ho ht => hv i o t ho (allL L hL hr i o ho) ht)⟩
  | succ fuel ih =>
    intro L a w hu hL ha hG hv
    refine ⟨fun hr => fin a w ha hG (fun i o t ho ht => hv i o t ho (allL L hL hr i o ho) ht), fun i hi => ?_⟩
    obtain ⟨hun, o, ho, hall⟩ := mem_ready.1 hi
    have hil : i < ops.size := (Array.getElem?_eq_some_iff.1 ho).1
    have hw : AllV V a w (waits md ops o) := AllV.of (by
      intro t ht
      unfold waits at ht
      obtain ⟨e, he, hd⟩ := List.mem_filterMap.1 ht
      obtain ⟨he1, he2⟩ := List.mem_filter.1 he
      cases hj : ops[e.on]? with
      | none => rw [hj] at hd; cases hd
      | some p =>
        rw [hj] at hd
        have hl := hall e (by simpa using he1) he2
        have hel : e.on < L.size := by rw [hL]; exact (Array.getElem?_eq_some_iff.1 hj).1
        exact hv e.on p t hj (by simp [hel] at hl ⊢; exact hl) hd)
    refine wpOp_mono (fun a' w' h => ?_) (step i o ho a w ha hG hw)
    obtain ⟨v, rfl, hvi, hG', hst⟩ := h
    refine ih _ _ _ ?_ (by simpa using hL) ?_ hG' ?_
    · have := unl_set L i hun ops.size
      rw [if_pos hil] at this; omega
    · refine ⟨by rw [size_put]; exact ha.size, by rw [defers_put]; exact ha.defers, fun t ht => ?_⟩
      rw [Act.eval_put (fun d hd e => ht i o ho (by cases e; exact hd))]
      exact ha.same t ht
    · intro j p t hp hl ht
      by_cases e : j = i
      · subst e
        rw [ho] at hp; cases hp
        rw [ht, eval_put_same (by rw [ha.size]; exact hok.room j o t ho ht)]
        exact hvi t ht
      · rw [Act.eval_put (fun d hd e2 => by cases e2; exact hok.apart i j o p t ho hp e hd ht)]
        rw [getD_set_ne true (Ne.symm e)] at hl
        exact hst _ _ (hv j p t hp hl ht)

/-- The obligations one after the other. -/
def OweAll (P : Program) (md : Region.Mode) (ops : Array Oper) (Q : Exit → Act → World → Prop) (V : Tmp → Value → World → Prop) (G : World → Prop) (a0 : Act) : Nat → List Oper → Prop
  | _, [] => True
  | k, o :: r => Owes P md ops Q V G a0 k o ∧ OweAll P md ops Q V G a0 (k + 1) r
theorem OweAll.get : ∀ {l : List Oper} {k : Nat}, OweAll P md ops Q V G a0 k l → ∀ (i : Nat) (o : Oper), l[i]? = some o → Owes P md ops Q V G a0 (k + i) o
  | _ :: _, k, h, 0, o, hi => by cases hi; exact h.1
  | _ :: r, k, h, i + 1, o, hi => by
    have := OweAll.get h.2 i o (by simpa using hi)
    rwa [show k + 1 + i = k + (i + 1) by omega] at this
  | [], _, _, i, o, hi => by simp at hi
theorem OweAll.cons {k : Nat} {o : Oper} {r : List Oper} (h : Owes P md ops Q V G a0 k o) (h2 : OweAll P md ops Q V G a0 (k + 1) r) : OweAll P md ops Q V G a0 k (o :: r) := ⟨h, h2⟩
theorem OweAll.nil {k : Nat} : OweAll P md ops Q V G a0 k [] := trivial

/-- A region that draws its order. -/
theorem wp_region_vals {id : Nat} {w : World} (V : Tmp → Value → World → Prop) (G : World → Prop) (N : Nat) (hm : P.follows .mixedOrders = true) (hok : drawOk ops N = true) (hN : a0.tmps.size = N) (hG : G w.drew)
    (step : OweAll P .any ops Q V G a0 0 ops.toList)
    (fin : ∀ a w, Agree ops a0 a → G w → (∀ (i : Nat) (o : Oper) (t : Tmp), ops[i]? = some o → o.dst = some t → V t (a.eval (.tmp t)) w) → Q .normal a w) : (Code.region id ops true).wp P Q a0 w := by
  subst hN
  have hok := drawOk_spec hok
  refine wp_region_any hm (wpAny_vals hok (V := V) (G := G) (fun i o ho => ?_) fin ops.size _ a0 _ (unl_le _ _) (by simp) ⟨rfl, rfl, fun _ _ => rfl⟩ hG ?_)
  · have := step.get i o (by simpa using ho)
    rwa [Nat.zero_add] at this
  · intro i o t ho hl _
    have hlt := (Array.getElem?_eq_some_iff.1 ho).1
    simp [hlt] at hl

/-- The slots of the operations. -/
def dsts (ops : Array Oper) : List Tmp := ops.toList.filterMap (·.dst)
def puts (f : Tmp → Value) (l : List Tmp) (b : Act) : Act := l.foldl (fun b t => b.put (some t) (f t)) b
theorem puts_spec (f : Tmp → Value) : ∀ (l : List Tmp) (b : Act), (∀ t ∈ l, t < b.tmps.size) →
    (puts f l b).tmps.size = b.tmps.size ∧ (puts f l b).defers = b.defers ∧ ∀ t, (puts f l b).eval (.tmp t) = if t ∈ l then f t else b.eval (.tmp t)
  | [], b, _ => ⟨rfl, rfl, fun t => by simp [puts]⟩
  | u :: r, b, h => by
    have ih := puts_spec f r (b.put (some u) (f u)) (fun t ht => by rw [size_put]; exact h t (by simp [ht]))
    refine ⟨ih.1.trans (size_put _ _ _), ih.2.1.trans (defers_put _ _ _), fun t => ?_⟩
    have e : puts f (u :: r) b = puts f r (b.put (some u) (f u)) := rfl
    rw [e, ih.2.2 t]
    by_cases h1 : t ∈ r
    · rw [if_pos h1, if_pos (by simp [h1])]
    · rw [if_neg h1]
      by_cases h2 : t = u
      · subst h2; rw [eval_put_same (h t (by simp)), if_pos (by simp)]
      · rw [Act.eval_put (fun d hd e2 => by cases hd; cases e2; exact h2 rfl), if_neg (by simp [h1, h2])]
theorem act_ext {a b : Act} (hs : a.tmps.size = b.tmps.size) (hd : a.defers = b.defers) (h : ∀ t, a.eval (.tmp t) = b.eval (.tmp t)) : a = b := by
  obtain ⟨ta, da⟩ := a
  obtain ⟨tb, db⟩ := b
  have : ta = tb := by
    apply Array.ext hs
    intro i h1 h2
    have := h i
    simpa [Act.eval, h1, h2] using this
  subst this
  cases hd
  rfl
theorem Agree.puts {a : Act} (ha : Agree ops a0 a) (hok : DrawOk ops a0.tmps.size) : a = puts (fun t => a.eval (.tmp t)) (dsts ops) a0 := by
  have hm : ∀ t ∈ dsts ops, ∃ (i : Nat) (o : Oper), ops[i]? = some o ∧ o.dst = some t := by
    intro t ht
    obtain ⟨o, ho, hd⟩ := List.mem_filterMap.1 ht
    obtain ⟨i, hi, e⟩ := List.getElem_of_mem ho
    refine ⟨i, o, ?_, hd⟩
    rw [← e]
    simp at hi
    simp [hi]
  have hp := puts_spec (fun t => a.eval (.tmp t)) (dsts ops) a0 (fun t ht => by obtain ⟨i, o, hi, hd⟩ := hm t ht; exact hok.room i o t hi hd)
  refine act_ext (ha.size.trans hp.1.symm) (ha.defers.trans hp.2.1.symm) (fun t => ?_)
  rw [hp.2.2 t]
  by_cases h : t ∈ dsts ops
  · rw [if_pos h]
  · rw [if_neg h]
    refine ha.same t (fun i o hi hd => h ?_)
    exact List.mem_filterMap.2 ⟨o, by simpa using Array.mem_of_getElem? hi, hd⟩

/-- A region that draws its order, what follows it at a known frame. -/
theorem wp_region_puts {id : Nat} {w : World} (V : Tmp → Value → World → Prop) (G : World → Prop) (N : Nat) (hm : P.follows .mixedOrders = true) (hok : drawOk ops N = true) (hN : a0.tmps.size = N) (hG : G w.drew)
    (step : OweAll P .any ops Q V G a0 0 ops.toList)
    (fin : ∀ f w, G w → (∀ (i : Nat) (o : Oper) (t : Tmp), ops[i]? = some o → o.dst = some t → V t (f t) w) → Q .normal (puts f (dsts ops) a0) w) : (Code.region id ops true).wp P Q a0 w :=
  wp_region_vals V G N hm hok hN hG step (fun a w ha hG hv => by
    subst hN
    rw [ha.puts (drawOk_spec hok)]
    exact fin _ w hG hv)

theorem AllV.get {a : Act} {w : World} : ∀ {l : List Tmp}, AllV V a w l → ∀ t, l.contains t = true → V t (a.eval (.tmp t)) w
  | [], _, t, h => by simp at h
  | u :: r, hh, t, h => by
    by_cases e : t = u
    · subst e; exact hh.1
    · exact AllV.get hh.2 t (by simpa [e] using h)
theorem Agree.outer {a : Act} (h : Agree ops a0 a) (t : Tmp) (ht : ops.all (fun o => o.dst != some t) = true) : a.eval (.tmp t) = a0.eval (.tmp t) := by
  refine h.same t (fun i o ho e => ?_)
  have := Array.all_eq_true_iff_forall_mem.1 ht o (Array.mem_of_getElem? ho)
  rw [e] at this; simp at this
theorem getD_bool {a : Act} {t : Tmp} {b : Bool} (h : a.eval (.tmp t) = .bool b) : a.tmps[t]? = some (.bool b) := by
  unfold Act.eval at h
  cases hc : a.tmps[t]? with
  | none => simp [hc, undef] at h
  | some x => simp [hc] at h; rw [h]
theorem wanted_of {o : Oper} {a : Act} {g : Nat} {want : Bool} {t : Tmp} (hg : o.guard = some (g, want)) (hd : (ops[g]?).bind (·.dst) = some t) (h : a.eval (.tmp t) = .bool want) : Region.wanted o (yielded ops a.tmps) = true := by
  unfold Region.wanted yielded
  rw [hg]
  simp only [hd, Option.bind_some, getD_bool h]
  simp
theorem wanted_free {o : Oper} {a : Act} (hg : o.guard = none) : Region.wanted o (yielded ops a.tmps) = true := by
  unfold Region.wanted; rw [hg]

/-- An operation that yields a value and turns nothing. -/
theorem owes_val {i : Nat} {o : Oper} {t : Tmp} (hi : ops[i]? = some o) (ht : o.dst = some t) (h : ∀ a w, Agree ops a0 a → G w → AllV V a w (waits md ops o) →
    ∃ v, Region.wanted o (yielded ops a.tmps) = true ∧ (execOp a.eval o).run P w = .ok (.value v) w ∧ V t v w) : Owes P md ops Q V G a0 i o := by
  intro a w ha hG hV
  obtain ⟨v, hw, hr, hv⟩ := h a w ha hG hV
  unfold wpOp
  rw [hi]
  simp only [hw, if_true, Oper.wp, hr, Oper.upon]
  exact .inl ⟨v, rfl, fun u hu => by rw [ht] at hu; cases hu; exact hv, hG, fun _ _ h => h⟩
/-- A call. -/
theorem owes_call {i : Nat} {o : Oper} {t : Tmp} (hi : ops[i]? = some o) (ht : o.dst = some t) (f : FuncId) (h : ∀ a w, Agree ops a0 a → G w → AllV V a w (waits md ops o) →
    ∃ args, Region.wanted o (yielded ops a.tmps) = true ∧ (execOp a.eval o).run P w = .ok (.enter f args) w ∧
      Calls P f args w fun e w' => ∃ v, e = .returned v ∧ V t v w' ∧ G w' ∧ ∀ t x, V t x w → V t x w') : Owes P md ops Q V G a0 i o := by
  intro a w ha hG hV
  obtain ⟨args, hw, hr, hc⟩ := h a w ha hG hV
  unfold wpOp
  rw [hi]
  simp only [hw, if_true, Oper.wp, hr, Oper.upon]
  refine .inl (hc.mono ?_)
  rintro e w' ⟨v, rfl, h1, h2, h3⟩
  exact ⟨v, rfl, fun u hu => by rw [ht] at hu; cases hu; exact h1, h2, h3⟩
end
end Go.Proofs.Ytdiiechkhlbkcab

namespace Go.Proofs.Ytdiiechkhlbkcab
open Go.RowKit

/-- What stays where nothing below turns. -/
structure Stays where
  p : Value → World → Prop
  old : ∀ {v : Value} {w w' : World}, p v w → Below w.heap.size w w' → p v w'
inductive Kd where
  | any
  | eq (v : Value)
  | st (s : Stays)
def VK : Kd → Value → World → Prop
  | .any, _, _ => True
  | .eq x, v, _ => v = x
  | .st s, v, w => s.p v w
theorem VK.old {k : Kd} {v : Value} {w w' : World} (h : VK k v w) (hb : Below w.heap.size w w') : VK k v w' := by
  cases k with
  | any => trivial
  | eq x => exact h
  | st s => exact s.old h hb
theorem not_wanted {ops : Array Oper} {o : Oper} {a : Act} {g : Nat} {want : Bool} {t : Tmp} {v : Value} (hg : o.guard = some (g, want)) (hd : (ops[g]?).bind (·.dst) = some t) (h : a.eval (.tmp t) = v) (hv : v ≠ .bool want) : Region.wanted o (yielded ops a.tmps) = false := by
  unfold Region.wanted yielded
  rw [hg]
  simp only [hd, Option.bind_some]
  unfold Act.eval at h
  cases hc : a.tmps[t]? with
  | none => rfl
  | some x =>
    simp [hc] at h
    subst h
    cases x with
    | bool b =>
      simp only [beq_eq_false_iff_ne, ne_eq, Option.some.injEq]
      intro e; exact hv (by rw [e])
    | _ => rfl
section
variable {P : Program} {ops : Array Oper} {Q : Exit → Act → World → Prop} {md : Region.Mode} {K : Tmp → Kd} {W : World} {a0 : Act}
/-- An operation that is not wanted. -/
theorem owesK_not {i : Nat} {o : Oper} {t : Tmp} (hi : ops[i]? = some o) (ht : o.dst = some t)
    (h : ∀ a w, Agree ops a0 a → Below W.heap.size W w → AllV (fun t v w => VK (K t) v w) a w (waits md ops o) → Region.wanted o (yielded ops a.tmps) = false ∧ VK (K t) undef w) : Owes P md ops Q (fun t v w => VK (K t) v w) (fun w => Below W.heap.size W w) a0 i o := by
  intro a w ha hG hV
  obtain ⟨hw, hv⟩ := h a w ha hG hV
  unfold wpOp
  rw [hi]
  simp only [hw]
  exact ⟨undef, rfl, fun u hu => by rw [ht] at hu; cases hu; exact hv, hG, fun _ _ h => h⟩
/-- An operation that yields a value, and may make memory. -/
theorem owesK {i : Nat} {o : Oper} {t : Tmp} (hi : ops[i]? = some o) (ht : o.dst = some t) (h : ∀ a w, Agree ops a0 a → Below W.heap.size W w → AllV (fun t v w => VK (K t) v w) a w (waits md ops o) →
    ∃ v w', Region.wanted o (yielded ops a.tmps) = true ∧ (execOp a.eval o).run P w = .ok (.value v) w' ∧ Below w.heap.size w w' ∧ VK (K t) v w') : Owes P md ops Q (fun t v w => VK (K t) v w) (fun w => Below W.heap.size W w) a0 i o := by
  intro a w ha hG hV
  obtain ⟨v, w', hw, hr, hb, hv⟩ := h a w ha hG hV
  unfold wpOp
  rw [hi]
  simp only [hw, if_true, Oper.wp, hr, Oper.upon]
  exact .inl ⟨v, rfl, fun u hu => by rw [ht] at hu; cases hu; exact hv, hG.trans (hb.mono hG.size), fun _ _ h => VK.old h hb⟩
/-- A call. -/
theorem owesK_call {i : Nat} {o : Oper} {t : Tmp} (hi : ops[i]? = some o) (ht : o.dst = some t) (f : FuncId) (h : ∀ a w, Agree ops a0 a → Below W.heap.size W w → AllV (fun t v w => VK (K t) v w) a w (waits md ops o) →
    ∃ args, Region.wanted o (yielded ops a.tmps) = true ∧ (execOp a.eval o).run P w = .ok (.enter f args) w ∧
      Calls P f args w fun e w' => ∃ v, e = .returned v ∧ VK (K t) v w' ∧ Below w.heap.size w w') : Owes P md ops Q (fun t v w => VK (K t) v w) (fun w => Below W.heap.size W w) a0 i o := by
  intro a w ha hG hV
  obtain ⟨args, hw, hr, hc⟩ := h a w ha hG hV
  unfold wpOp
  rw [hi]
  simp only [hw, if_true, Oper.wp, hr, Oper.upon]
  refine .inl (hc.mono ?_)
  rintro e w' ⟨v, rfl, h1, hb⟩
  exact ⟨v, rfl, fun u hu => by rw [ht] at hu; cases hu; exact h1, hG.trans (hb.mono hG.size), fun _ _ h => VK.old h hb⟩
end
end Go.Proofs.Ytdiiechkhlbkcab

namespace Go.Proofs.Ytdiiechkhlbkcab
open Go

/-- Each of the chain waits for the one ahead of it. -/
def chainOk (md : Region.Mode) (ops : Array Oper) (C : List Nat) : Bool :=
  (List.range C.length).all fun m => match C[m]?, C[m + 1]? with
    | some i, some j => (match ops[j]? with | some p => p.after.any (fun e => Region.binds md e && e.on == i) | none => false)
    | _, _ => true
/-- Operation j waits for i, by n edges at most. -/
def reach (md : Region.Mode) (ops : Array Oper) : Nat → Nat → Nat → Bool
  | 0, _, _ => false
  | n + 1, j, i => match ops[j]? with
    | some p => p.after.any (fun e => Region.binds md e && (e.on == i || reach md ops n e.on i))
    | none => false
/-- The chain's place b waits for operation i (or there is no such place). -/
def aheadOf (md : Region.Mode) (ops : Array Oper) (C : List Nat) (i b : Nat) : Bool :=
  b == C.length || (match C[b]? with
    | some j => reach md ops 16 j i
    | none => false)

/-- Only slots of the operations turn; that of a chain's operation that isn't done yet hasn't. -/
structure AgreeC (ops : Array Oper) (C : List Nat) (k : Nat) (a0 a : Act) : Prop extends Agree ops a0 a where
  kp : ∀ (m i : Nat) (o : Oper) (t : Tmp), k ≤ m → C[m]? = some i → ops[i]? = some o → o.dst = some t → a.eval (.tmp t) = a0.eval (.tmp t)

section
variable {P : Program} {ops : Array Oper} {Q : Exit → Act → World → Prop} {md : Region.Mode} {V : Tmp → Value → Prop} {G : Nat → Value → World → Prop} {C : List Nat} {a0 : Act}

/-- What one operation owes while k of the chain are done, k' behind it. -/
def OwesAt (P : Program) (md : Region.Mode) (ops : Array Oper) (Q : Exit → Act → World → Prop) (V : Tmp → Value → Prop) (G : Nat → Value → World → Prop) (C : List Nat) (a0 : Act) (i : Nat) (o : Oper) (k : Nat) : Prop :=
  ∀ a w x, AgreeC ops C k a0 a → G k x w → AllV (fun t v _ => V t v) a w (waits md ops o) →
    wpOp P ops Q i (fun a' w' => ∃ v, a' = a.put o.dst v ∧ (∀ t, o.dst = some t → V t v) ∧ G k x w') a w
/-- The slot of the chain's last one that is done holds x. -/
def Holds' (ops : Array Oper) (C : List Nat) (a : Act) (k : Nat) (x : Value) : Prop := ∀ (m i : Nat) (o : Oper) (t : Tmp), k = m + 1 → C[m]? = some i → ops[i]? = some o → o.dst = some t → a.eval (.tmp t) = x
/-- What the chain's operation m owes. -/
def OwesIn (P : Program) (md : Region.Mode) (ops : Array Oper) (Q : Exit → Act → World → Prop) (V : Tmp → Value → Prop) (G : Nat → Value → World → Prop) (C : List Nat) (a0 : Act) (i : Nat) (o : Oper) (m : Nat) : Prop :=
  ∀ a w x, AgreeC ops C m a0 a → G m x w → Holds' ops C a m x → AllV (fun t v _ => V t v) a w (waits md ops o) →
    wpOp P ops Q i (fun a' w' => ∃ v, a' = a.put o.dst v ∧ (∀ t, o.dst = some t → V t v) ∧ G (m + 1) v w') a w
def OwesC (P : Program) (md : Region.Mode) (ops : Array Oper) (Q : Exit → Act → World → Prop) (V : Tmp → Value → Prop) (G : Nat → Value → World → Prop) (C : List Nat) (a0 : Act) (i : Nat) (o : Oper) : Prop :=
  (∃ m, C[m]? = some i ∧ OwesIn P md ops Q V G C a0 i o m) ∨ (C.contains i = false ∧ ∃ b, aheadOf md ops C i b = true ∧ ∀ k, k ≤ b → OwesAt P md ops Q V G C a0 i o k)

theorem any_edge {md : Region.Mode} {p : Oper} {i : Nat} (h : p.after.any (fun e => Region.binds md e && e.on == i) = true) : ∃ e ∈ p.after, Region.binds md e = true ∧ e.on = i := by
  obtain ⟨j, hj, h1⟩ := Array.any_iff_exists.1 h
  obtain ⟨_, _, h2⟩ := h1
  rw [Bool.and_eq_true, beq_iff_eq] at h2
  exact ⟨_, Array.getElem_mem _, h2.1, h2.2⟩
theorem chain_edge {m i j : Nat} {p : Oper} (h : chainOk md ops C = true) (hi : C[m]? = some i) (hj : C[m + 1]? = some j) (hp : ops[j]? = some p) : ∃ e ∈ p.after, Region.binds md e = true ∧ e.on = i := by
  have := List.all_eq_true.1 h m (List.mem_range.2 (List.getElem?_eq_some_iff.1 hi).1)
  simp only [hi, hj, hp] at this
  exact any_edge this

theorem reach_done {L : Array Bool} (cl : ∀ (i : Nat) (o : Oper), ops[i]? = some o → L.getD i true = true → ∀ e ∈ o.after, Region.binds md e = true → L.getD e.on false = true) :
    ∀ (n j i : Nat), reach md ops n j i = true → L.getD j true = true → L.getD i false = true
  | 0, _, _, h, _ => by cases h
  | n + 1, j, i, h, hl => by
    unfold reach at h
    cases hp : ops[j]? with
    | none => rw [hp] at h; cases h
    | some p =>
      rw [hp] at h
      obtain ⟨q, _, h1⟩ := Array.any_iff_exists.1 h
      obtain ⟨_, _, h2⟩ := h1
      rw [Bool.and_eq_true, Bool.or_eq_true, beq_iff_eq] at h2
      have h3 := cl j p hp hl _ (Array.getElem_mem _) h2.1
      rcases h2.2 with e | hr
      · rw [← e]; exact h3
      · refine reach_done cl n _ i hr ?_
        have : p.after[q].on < L.size := by
          apply Nat.lt_of_not_le; intro hle
          simp [Array.getElem?_eq_none hle] at h3
        simp [this] at h3 ⊢
        exact h3
theorem getD_tf {L : Array Bool} {n i : Nat} (hL : L.size = n) (hi : i < n) : L.getD i true = L.getD i false := by
  simp [show i < L.size by omega]
theorem getD_set_at {L : Array Bool} {i : Nat} (hi : i < L.size) (d : Bool) : (L.setIfInBounds i true).getD i d = true := by simp [hi]
theorem getD_set_ne' {L : Array Bool} {i j : Nat} (h : j ≠ i) (d : Bool) : (L.setIfInBounds i true).getD j d = L.getD j d := by
  have := Ne.symm h
  simp [Array.getD_eq_getD_getElem?, this]

/-- What is known while the region goes. -/
structure ChainAt (md : Region.Mode) (ops : Array Oper) (V : Tmp → Value → Prop) (G : Nat → Value → World → Prop) (C : List Nat) (a0 : Act) (L : Array Bool) (a : Act) (w : World) (k : Nat) (x : Value) : Prop where
  g : G k x w
  ho : Holds' ops C a k x
  le : k ≤ C.length
  ch : ∀ (m i : Nat), C[m]? = some i → (L.getD i true = true ↔ m < k)
  cl : ∀ (i : Nat) (o : Oper), ops[i]? = some o → L.getD i true = true → ∀ e ∈ o.after, Region.binds md e = true → L.getD e.on false = true
  ag : Agree ops a0 a
  kp : ∀ (i : Nat) (o : Oper) (t : Tmp), ops[i]? = some o → L.getD i true = false → o.dst = some t → a.eval (.tmp t) = a0.eval (.tmp t)
  v : ∀ (i : Nat) (o : Oper) (t : Tmp), ops[i]? = some o → L.getD i true = true → o.dst = some t → V t (a.eval (.tmp t))

theorem ChainAt.agc {L : Array Bool} {a : Act} {w : World} {k : Nat} {x : Value} (h : ChainAt md ops V G C a0 L a w k x) : AgreeC ops C k a0 a :=
  ⟨h.ag, fun m i o t hm hi ho ht => h.kp i o t ho (by
    cases hl : L.getD i true with
    | false => rfl
    | true => exact absurd ((h.ch m i hi).1 hl) (by omega)) ht⟩
theorem wpAny_chain (hok : DrawOk ops a0.tmps.size) (hch : chainOk md ops C = true) (hnd : C.Nodup) (hCl : ∀ i ∈ C, i < ops.size) (step : ∀ (i : Nat) (o : Oper), ops[i]? = some o → OwesC P md ops Q V G C a0 i o)
    (fin : ∀ a w x, Agree ops a0 a → G C.length x w → Holds' ops C a C.length x → (∀ (i : Nat) (o : Oper) (t : Tmp), ops[i]? = some o → o.dst = some t → V t (a.eval (.tmp t))) → Q .normal a w) :
    ∀ (fuel : Nat) (L : Array Bool) (a : Act) (w : World) (k : Nat) (x : Value), unl L ops.size ≤ fuel → L.size = ops.size → ChainAt md ops V G C a0 L a w k x → wpAny P md ops Q fuel L a w := by
  have allL : ∀ L : Array Bool, L.size = ops.size → Region.ready md ops L = [] → ∀ (i : Nat) (o : Oper), ops[i]? = some o → L.getD i true = true := by
    intro L hL hr i o ho
    cases hc : L.getD i true with
    | true => rfl
    | false =>
      obtain ⟨j, hj⟩ := ready_some (md := md) hok hL i (Array.getElem?_eq_some_iff.1 ho).1 hc
      rw [hr] at hj; cases hj
  have done : ∀ (L : Array Bool) (a : Act) (w : World) (k : Nat) (x : Value), L.size = ops.size → ChainAt md ops V G C a0 L a w k x → Region.ready md ops L = [] → Q .normal a w := by
    intro L a w k x hL h hr
    have hk : k = C.length := by
      refine Nat.le_antisymm h.le (Nat.le_of_not_lt fun hlt => ?_)
      have hm : C[k]? = some C[k] := List.getElem?_eq_getElem hlt
      have hi := hCl _ (List.getElem_mem hlt)
      exact Nat.lt_irrefl _ ((h.ch k _ hm).1 (allL L hL hr _ _ (Array.getElem?_eq_getElem hi)))
    subst hk
    exact fin a w x h.ag h.g h.ho (fun i o t ho ht => h.v i o t ho (allL L hL hr i o ho) ht)
  intro fuel
  induction fuel with
  | zero =>
    intro L a w k x hu hL h
    have hr : Region.ready md ops L = [] := by
      apply List.eq_nil_iff_forall_not_mem.2
      intro j hj
      obtain ⟨hun, o, ho, _⟩ := mem_ready.1 hj
      have := unl_pos L ops.size j (Array.getElem?_eq_some_iff.1 ho).1 hun
      omega
    exact ⟨hr, done L a w k x hL h hr⟩
  | succ fuel ih =>
    intro L a w k x hu hL h
    refine ⟨fun hr => done L a w k x hL h hr, fun i hi => ?_⟩
    obtain ⟨hun, o, ho, hall⟩ := mem_ready.1 hi
    have hil : i < ops.size := (Array.getElem?_eq_some_iff.1 ho).1
    have hw : AllV (fun t v _ => V t v) a w (waits md ops o) := AllV.of (by
      intro t ht
      unfold waits at ht
      obtain ⟨e, he, hd⟩ := List.mem_filterMap.1 ht
      obtain ⟨he1, he2⟩ := List.mem_filter.1 he
      cases hj : ops[e.on]? with
      | none => rw [hj] at hd; cases hd
      | some p =>
        rw [hj] at hd
        have hl := hall e (by simpa using he1) he2
        exact h.v e.on p t hj (by rw [getD_tf hL (Array.getElem?_eq_some_iff.1 hj).1]; exact hl) hd)
    -- what follows, with k' of the chain done
    have next : ∀ (k' : Nat) (y : Value → Value), k' ≤ C.length → (∀ v, Holds' ops C (a.put o.dst v) k' (y v)) → (∀ (m j : Nat), C[m]? = some j → ((L.setIfInBounds i true).getD j true = true ↔ m < k')) →
        wpOp P ops Q i (fun a' w' => ∃ v, a' = a.put o.dst v ∧ (∀ t, o.dst = some t → V t v) ∧ G k' (y v) w') a w → wpOp P ops Q i (fun a' w' => wpAny P md ops Q fuel (L.setIfInBounds i true) a' w') a w := by
      intro k' y hk' hho hch' hop
      refine wpOp_mono (fun a' w' hh => ?_) hop
      obtain ⟨v, rfl, hvi, hG'⟩ := hh
      refine ih _ _ _ k' (y v) ?_ (by simpa using hL) ⟨hG', hho v, hk', hch', ?_, ?_, ?_, ?_⟩
      · have := unl_set L i hun ops.size
        rw [if_pos hil] at this; omega
      · intro j p hp hl e he hb
        by_cases hji : j = i
        · subst hji
          rw [ho] at hp; cases hp
          have := hall e he hb
          by_cases hei : e.on = j
          · rw [hei, getD_set_at (by omega)]
          · rw [getD_set_ne' hei]; exact this
        · rw [getD_set_ne' hji] at hl
          have := h.cl j p hp hl e he hb
          by_cases hei : e.on = i
          · rw [hei, getD_set_at (by omega)]
          · rw [getD_set_ne' hei]; exact this
      · refine ⟨by rw [size_put]; exact h.ag.size, by rw [defers_put]; exact h.ag.defers, fun t ht => ?_⟩
        rw [Act.eval_put (fun d hd e => ht i o ho (by cases e; exact hd))]
        exact h.ag.same t ht
      · intro j p t hp hl ht
        have e : j ≠ i := by
          rintro rfl
          rw [getD_set_at (by omega)] at hl; cases hl
        rw [Act.eval_put (fun d hd e2 => by cases e2; exact hok.apart i j o p t ho hp e hd ht)]
        rw [getD_set_ne' e] at hl
        exact h.kp j p t hp hl ht
      · intro j p t hp hl ht
        by_cases e : j = i
        · subst e
          rw [ho] at hp; cases hp
          rw [ht, eval_put_same (by rw [h.ag.size]; exact hok.room j o t ho ht)]
          exact hvi t ht
        · rw [Act.eval_put (fun d hd e2 => by cases e2; exact hok.apart i j o p t ho hp e hd ht)]
          rw [getD_set_ne' e] at hl
          exact h.v j p t hp hl ht
    rcases step i o ho with ⟨m, hm, hop⟩ | ⟨hni, b, hb, hop⟩
    · have hmk : m = k := by
        have h1 : ¬ m < k := fun hlt => by rw [(h.ch m i hm).2 hlt] at hun; cases hun
        have h2 : m ≤ k := by
          cases m with
          | zero => exact Nat.zero_le _
          | succ m =>
            have hlt : m < C.length := by have := (List.getElem?_eq_some_iff.1 hm).1; omega
            have hj : C[m]? = some C[m] := List.getElem?_eq_getElem hlt
            obtain ⟨e, he, hbd, hon⟩ := chain_edge hch hj hm ho
            have := hall e he hbd
            rw [hon] at this
            exact (h.ch m _ hj).1 (by rw [getD_tf hL (hCl _ (List.getElem_mem hlt))]; exact this)
        omega
      subst hmk
      have hmlt : m < C.length := (List.getElem?_eq_some_iff.1 hm).1
      refine next (m + 1) (fun v => v) hmlt ?_ ?_ (hop a w x h.agc h.g h.ho hw)
      · intro v m2 j p t hm2 hj hp ht
        obtain rfl : m2 = m := by omega
        rw [hm] at hj; cases hj
        rw [ho] at hp; cases hp
        rw [ht, eval_put_same (by rw [h.ag.size]; exact hok.room i o t ho ht)]
      intro m2 j hj
      by_cases hji : j = i
      · subst hji
        have : m2 = m := by
          obtain ⟨l2, e2⟩ := List.getElem?_eq_some_iff.1 hj
          obtain ⟨l1, e1⟩ := List.getElem?_eq_some_iff.1 hm
          exact (List.getElem_inj hnd).1 (e2.trans e1.symm)
        subst this
        rw [getD_set_at (by omega)]
        exact ⟨fun _ => Nat.lt_succ_self _, fun _ => rfl⟩
      · rw [getD_set_ne' hji, h.ch m2 j hj]
        have : m2 ≠ m := by
          rintro rfl
          rw [hm] at hj; cases hj; exact hji rfl
        omega
    · have hkb : k ≤ b := by
        unfold aheadOf at hb
        rw [Bool.or_eq_true, beq_iff_eq] at hb
        rcases hb with rfl | hb
        · exact h.le
        · cases hj : C[b]? with
          | none => rw [hj] at hb; cases hb
          | some j =>
            rw [hj] at hb
            simp only at hb
            refine Nat.le_of_not_lt fun hlt => ?_
            have := reach_done h.cl 16 j i hb ((h.ch b j hj).2 hlt)
            rw [← getD_tf hL hil, hun] at this
            cases this
      refine next k (fun _ => x) h.le ?_ ?_ (hop k hkb a w x h.agc h.g hw)
      · intro v m2 j p t hm2 hj hp ht
        have hji : j ≠ i := by
          rintro rfl
          have := List.mem_of_getElem? hj
          rw [List.contains_eq_mem, decide_eq_false_iff_not] at hni
          exact hni this
        rw [Act.eval_put (fun d hd e2 => by cases e2; exact hok.apart i j o p t ho hp hji hd ht)]
        exact h.ho m2 j p t hm2 hj hp ht
      intro m2 j hj
      have hji : j ≠ i := by
        rintro rfl
        have := List.mem_of_getElem? hj
        rw [List.contains_eq_mem, decide_eq_false_iff_not] at hni
        exact hni this
      rw [getD_set_ne' hji, h.ch m2 j hj]

/-- The obligations one after the other. -/
def OweAllC (P : Program) (md : Region.Mode) (ops : Array Oper) (Q : Exit → Act → World → Prop) (V : Tmp → Value → Prop) (G : Nat → Value → World → Prop) (C : List Nat) (a0 : Act) : Nat → List Oper → Prop
  | _, [] => True
  | k, o :: r => OwesC P md ops Q V G C a0 k o ∧ OweAllC P md ops Q V G C a0 (k + 1) r
theorem OweAllC.get : ∀ {l : List Oper} {k : Nat}, OweAllC P md ops Q V G C a0 k l → ∀ (i : Nat) (o : Oper), l[i]? = some o → OwesC P md ops Q V G C a0 (k + i) o
  | _ :: _, k, h, 0, o, hi => by cases hi; exact h.1
  | _ :: r, k, h, i + 1, o, hi => by
    have := OweAllC.get h.2 i o (by simpa using hi)
    rwa [show k + 1 + i = k + (i + 1) by omega] at this
  | [], _, _, i, o, hi => by simp at hi
theorem OweAllC.cons {k : Nat} {o : Oper} {r : List Oper} (h : OwesC P md ops Q V G C a0 k o) (h2 : OweAllC P md ops Q V G C a0 (k + 1) r) : OweAllC P md ops Q V G C a0 k (o :: r) := ⟨h, h2⟩
theorem OweAllC.nil {k : Nat} : OweAllC P md ops Q V G C a0 k [] := trivial

theorem wp_region_chain {id : Nat} {w : World} (V : Tmp → Value → Prop) (G : Nat → Value → World → Prop) (C : List Nat) (N : Nat) (hm : P.follows .mixedOrders = true) (hok : drawOk ops N = true) (hN : a0.tmps.size = N)
    (hch : chainOk .any ops C = true) (hnd : decide C.Nodup = true) (hCl : C.all (· < ops.size) = true) (hG : G 0 undef w.drew)
    (step : OweAllC P .any ops Q V G C a0 0 ops.toList)
    (fin : ∀ f w x, G C.length x w → (∀ (m i : Nat) (o : Oper) (t : Tmp), C.length = m + 1 → C[m]? = some i → ops[i]? = some o → o.dst = some t → f t = x) → (∀ (i : Nat) (o : Oper) (t : Tmp), ops[i]? = some o → o.dst = some t → V t (f t)) → Q .normal (puts f (dsts ops) a0) w) : (Code.region id ops true).wp P Q a0 w := by
  subst hN
  have hok := drawOk_spec hok
  have hCl' : ∀ i ∈ C, i < ops.size := fun i hi => by simpa using List.all_eq_true.1 hCl i hi
  have hL0 : ∀ i, i < ops.size → (Array.replicate ops.size false).getD i true = false := fun i hi => by simp [hi]
  refine wp_region_any hm (wpAny_chain (V := V) (G := G) (C := C) hok hch (of_decide_eq_true hnd) hCl' (fun i o ho => ?_) (fun a w x ha hg hh hv => ?_) ops.size _ a0 _ 0 undef (unl_le _ _) (by simp) ⟨hG, (fun m i o t h => by omega), Nat.zero_le _, ?_, ?_, ⟨rfl, rfl, fun _ _ => rfl⟩, (fun _ _ _ _ _ _ => rfl), ?_⟩)
  · have := step.get i o (by simpa using ho)
    rwa [Nat.zero_add] at this
  · rw [ha.puts hok]
    exact fin _ w x hg hh hv
  · intro m i hi
    have := hCl' i (List.mem_of_getElem? hi)
    rw [hL0 i this]
    simp
  · intro i o ho hl
    rw [hL0 i (Array.getElem?_eq_some_iff.1 ho).1] at hl; cases hl
  · intro i o t ho hl _
    rw [hL0 i (Array.getElem?_eq_some_iff.1 ho).1] at hl; cases hl

/-- An operation beside the chain that yields a value and turns nothing. -/
theorem owesC_val {i : Nat} {o : Oper} {t : Tmp} (b : Nat) (hb : aheadOf md ops C i b = true) (hni : C.contains i = false) (hi : ops[i]? = some o) (ht : o.dst = some t)
    (h : ∀ k a w x, k ≤ b → AgreeC ops C k a0 a → G k x w → AllV (fun t v _ => V t v) a w (waits md ops o) → ∃ v, Region.wanted o (yielded ops a.tmps) = true ∧ (execOp a.eval o).run P w = .ok (.value v) w ∧ V t v) : OwesC P md ops Q V G C a0 i o := by
  refine .inr ⟨hni, b, hb, fun k hk a w x ha hG hV => ?_⟩
  obtain ⟨v, hw, hr, hv⟩ := h k a w x hk ha hG hV
  unfold wpOp
  rw [hi]
  simp only [hw, if_true, Oper.wp, hr, Oper.upon]
  exact .inl ⟨v, rfl, fun u hu => by rw [ht] at hu; cases hu; exact hv, hG⟩
/-- A call beside the chain. -/
theorem owesC_side {i : Nat} {o : Oper} {t : Tmp} (b : Nat) (hb : aheadOf md ops C i b = true) (hni : C.contains i = false) (hi : ops[i]? = some o) (ht : o.dst = some t) (f : FuncId)
    (h : ∀ k a w x, k ≤ b → AgreeC ops C k a0 a → G k x w → AllV (fun t v _ => V t v) a w (waits md ops o) → ∃ args, Region.wanted o (yielded ops a.tmps) = true ∧ (execOp a.eval o).run P w = .ok (.enter f args) w ∧
      Calls P f args w fun e w' => ∃ v, e = .returned v ∧ V t v ∧ G k x w') : OwesC P md ops Q V G C a0 i o := by
  refine .inr ⟨hni, b, hb, fun k hk a w x ha hG hV => ?_⟩
  obtain ⟨args, hw, hr, hc⟩ := h k a w x hk ha hG hV
  unfold wpOp
  rw [hi]
  simp only [hw, if_true, Oper.wp, hr, Oper.upon]
  refine .inl (hc.mono ?_)
  rintro e w' ⟨v, rfl, h1, h2⟩
  exact ⟨v, rfl, fun u hu => by rw [ht] at hu; cases hu; exact h1, h2⟩
/-- A call of the chain. -/
theorem owesC_call {i : Nat} {o : Oper} {t : Tmp} (m : Nat) (hm : C[m]? = some i) (hi : ops[i]? = some o) (ht : o.dst = some t) (f : FuncId)
    (h : ∀ a w x, AgreeC ops C m a0 a → G m x w → Holds' ops C a m x → AllV (fun t v _ => V t v) a w (waits md ops o) → ∃ args, Region.wanted o (yielded ops a.tmps) = true ∧ (execOp a.eval o).run P w = .ok (.enter f args) w ∧
      Calls P f args w fun e w' => ∃ v, e = .returned v ∧ V t v ∧ G (m + 1) v w') : OwesC P md ops Q V G C a0 i o := by
  refine .inl ⟨m, hm, fun a w x ha hG hh hV => ?_⟩
  obtain ⟨args, hw, hr, hc⟩ := h a w x ha hG hh hV
  unfold wpOp
  rw [hi]
  simp only [hw, if_true, Oper.wp, hr, Oper.upon]
  refine .inl (hc.mono ?_)
  rintro e w' ⟨v, rfl, h1, h2⟩
  exact ⟨v, rfl, fun u hu => by rw [ht] at hu; cases hu; exact h1, h2⟩
/-- An operation of the chain that yields a value and turns memory. -/
theorem owesC_mem {i : Nat} {o : Oper} {t : Tmp} (m : Nat) (hm : C[m]? = some i) (hi : ops[i]? = some o) (ht : o.dst = some t)
    (h : ∀ a w x, AgreeC ops C m a0 a → G m x w → Holds' ops C a m x → AllV (fun t v _ => V t v) a w (waits md ops o) → ∃ v w', Region.wanted o (yielded ops a.tmps) = true ∧ (execOp a.eval o).run P w = .ok (.value v) w' ∧ V t v ∧ G (m + 1) v w') : OwesC P md ops Q V G C a0 i o := by
  refine .inl ⟨m, hm, fun a w x ha hG hh hV => ?_⟩
  obtain ⟨v, w', hw, hr, h1, h2⟩ := h a w x ha hG hh hV
  unfold wpOp
  rw [hi]
  simp only [hw, if_true, Oper.wp, hr, Oper.upon]
  exact .inl ⟨v, rfl, fun u hu => by rw [ht] at hu; cases hu; exact h1, h2⟩
/-- A store of the chain. -/
theorem owesC_store {i : Nat} {o : Oper} (m : Nat) (hm : C[m]? = some i) (hi : ops[i]? = some o) (ht : o.dst = none)
    (h : ∀ a w x, AgreeC ops C m a0 a → G m x w → Holds' ops C a m x → AllV (fun t v _ => V t v) a w (waits md ops o) → ∃ w', Region.wanted o (yielded ops a.tmps) = true ∧ (execOp a.eval o).run P w = .ok .skip w' ∧ G (m + 1) undef w') : OwesC P md ops Q V G C a0 i o := by
  refine .inl ⟨m, hm, fun a w x ha hG hh hV => ?_⟩
  obtain ⟨w', hw, hr, h2⟩ := h a w x ha hG hh hV
  unfold wpOp
  rw [hi]
  simp only [hw, if_true, Oper.wp, hr, Oper.upon]
  exact .inl ⟨undef, rfl, fun u hu => (by rw [ht] at hu; cases hu), h2⟩
/-- An operation of the chain by its own law (an append). -/
theorem owesC_law {i : Nat} {o : Oper} (m : Nat) (hm : C[m]? = some i) (hi : ops[i]? = some o)
    (h : ∀ a w x, AgreeC ops C m a0 a → G m x w → Holds' ops C a m x → AllV (fun t v _ => V t v) a w (waits md ops o) → Region.wanted o (yielded ops a.tmps) = true ∧
      ∀ K : Act → World → Prop, (∀ v w', (∀ t, o.dst = some t → V t v) → G (m + 1) v w' → K (a.put o.dst v) w') → o.wp P a w K Q) : OwesC P md ops Q V G C a0 i o := by
  refine .inl ⟨m, hm, fun a w x ha hG hh hV => ?_⟩
  obtain ⟨hw, hl⟩ := h a w x ha hG hh hV
  unfold wpOp
  rw [hi]
  simp only [hw, if_true]
  exact .inl (hl _ (fun v w' h1 h2 => ⟨v, rfl, h1, h2⟩))
end
end Go.Proofs.Ytdiiechkhlbkcab
namespace Go.Proofs.Ytdiiechkhlbkcab
open Go
/-- A slot is written, by an operation of no region. -/
def mv (t : Tmp) (v : Value) : Oper := { dst := some t, op := .move (.const v), type := 0, pos := "", after := #[], guard := none }
theorem moves_back {P : Program} {ops : Array Oper} {Q : Exit → Act → World → Prop} (f : Tmp → Value) : ∀ (l : List Tmp) (a : Act) (w : World), wpList P ops Q (l.map fun t => mv t (f t)) a w → Q .normal (puts f l a) w
  | [], _, _, h => h
  | t :: r, a, w, h => by
    refine moves_back (P := P) (ops := ops) f r (a.put (some t) (f t)) w ?_
    rw [List.map_cons, wpList] at h
    have hw : Region.wanted (mv t (f t)) (yielded ops a.tmps) = true := rfl
    rw [if_pos hw] at h
    rcases h with h | h
    · unfold Oper.wp at h
      have he : (execOp a.eval (mv t (f t))).run P w = .ok (.value (f t)) w := rfl
      rw [he] at h
      exact h
    · exfalso
      have he : ((execOp a.eval (mv t (f t))).runT P w #[]).2 = #[] := rfl
      have h1 := h.1.1
      rw [he] at h1
      simp at h1
end Go.Proofs.Ytdiiechkhlbkcab

namespace Go.Proofs.Ytdiiechkhlbkcab
open Go

def waitsI (md : Region.Mode) (o : Oper) : List Nat := (o.after.toList.filter (Region.binds md)).map (·.on)
def AllU {Γ : Type} (U : Nat → Γ → World → Prop) (γ : Γ) (w : World) (l : List Nat) : Prop := ∀ j, l.contains j = true → U j γ w

/-- As drawOk, of the edges that bind. -/
def drawOk2 (md : Region.Mode) (ops : Array Oper) (N : Nat) : Bool :=
  (List.range ops.size).all fun i => match ops[i]? with
    | none => true
    | some o => o.after.all (fun e => !Region.binds md e || decide (e.on < i)) && (match o.dst with
      | none => true
      | some d => decide (d < N) && (List.range ops.size).all fun j => j == i || (match ops[j]? with | some p => p.dst != some d | none => true))
structure DrawOk2 (md : Region.Mode) (ops : Array Oper) (N : Nat) : Prop where
  before : ∀ (i : Nat) (o : Oper), ops[i]? = some o → ∀ e ∈ o.after, Region.binds md e = true → e.on < i
  room : ∀ (i : Nat) (o : Oper) (d : Tmp), ops[i]? = some o → o.dst = some d → d < N
  apart : ∀ (i j : Nat) (o p : Oper) (d : Tmp), ops[i]? = some o → ops[j]? = some p → j ≠ i → o.dst = some d → p.dst ≠ some d
theorem drawOk2_spec {md : Region.Mode} {ops : Array Oper} {N : Nat} (h : drawOk2 md ops N = true) : DrawOk2 md ops N := by
  have key : ∀ (i : Nat) (o : Oper), ops[i]? = some o → o.after.all (fun e => !Region.binds md e || decide (e.on < i)) = true ∧ (match o.dst with
      | none => true
      | some d => decide (d < N) && (List.range ops.size).all fun j => j == i || (match ops[j]? with | some p => p.dst != some d | none => true)) = true := by
    intro i o ho
    have hlt : i < ops.size := (Array.getElem?_eq_some_iff.1 ho).1
    have := List.all_eq_true.1 h i (List.mem_range.2 hlt)
    simp only [ho, Bool.and_eq_true] at this
    exact this
  refine ⟨fun i o ho e he hb => ?_, fun i o d ho hd => ?_, fun i j o p d ho hp hj hd hpd => ?_⟩
  · have := Array.all_eq_true_iff_forall_mem.1 (key i o ho).1 e he
    rw [hb] at this
    simpa using this
  · have := (key i o ho).2
    rw [hd] at this
    simp only [Bool.and_eq_true] at this
    exact of_decide_eq_true this.1
  · have := (key i o ho).2
    rw [hd] at this
    simp only [Bool.and_eq_true] at this
    have h2 := List.all_eq_true.1 this.2 j (List.mem_range.2 (Array.getElem?_eq_some_iff.1 hp).1)
    simp only [hp, Bool.or_eq_true, beq_iff_eq, hj, false_or, bne_iff_ne, ne_eq] at h2
    exact h2 hpd
theorem ready_some2 {ops : Array Oper} {md : Region.Mode} {N : Nat} (hok : DrawOk2 md ops N) {L : Array Bool} (hL : L.size = ops.size) : ∀ i, i < ops.size → L.getD i true = false → ∃ j, j ∈ Region.ready md ops L := by
  intro i
  induction i using Nat.strongRecOn with
  | ind i ih =>
    intro hi hun
    have ho : ops[i]? = some ops[i] := Array.getElem?_eq_getElem hi
    by_cases h : ∀ e ∈ ops[i].after, Region.binds md e = true → L.getD e.on false = true
    · exact ⟨i, mem_ready.2 ⟨hun, _, ho, h⟩⟩
    · have ⟨e, he⟩ := Classical.not_forall.1 h
      have ⟨he1, he2⟩ := Classical.not_imp.1 he
      have ⟨hb, hf⟩ := Classical.not_imp.1 he2
      have hlt := hok.before i _ ho e he1 hb
      have hel : e.on < L.size := by omega
      refine ih e.on hlt (by omega) ?_
      simp [hel] at hf ⊢
      exact hf
theorem agree_puts2 {ops : Array Oper} {a0 a : Act} (ha : Agree ops a0 a) (room : ∀ (i : Nat) (o : Oper) (d : Tmp), ops[i]? = some o → o.dst = some d → d < a0.tmps.size) : a = puts (fun t => a.eval (.tmp t)) (dsts ops) a0 := by
  have hm : ∀ t ∈ dsts ops, ∃ (i : Nat) (o : Oper), ops[i]? = some o ∧ o.dst = some t := by
    intro t ht
    obtain ⟨o, ho, hd⟩ := List.mem_filterMap.1 ht
    obtain ⟨i, hi, e⟩ := List.getElem_of_mem ho
    refine ⟨i, o, ?_, hd⟩
    rw [← e]
    simp at hi
    simp [hi]
  have hp := puts_spec (fun t => a.eval (.tmp t)) (dsts ops) a0 (fun t ht => by obtain ⟨i, o, hi, hd⟩ := hm t ht; exact room i o t hi hd)
  refine act_ext (ha.size.trans hp.1.symm) (ha.defers.trans hp.2.1.symm) (fun t => ?_)
  rw [hp.2.2 t]
  by_cases h : t ∈ dsts ops
  · rw [if_pos h]
  · rw [if_neg h]
    refine ha.same t (fun i o hi hd => h ?_)
    exact List.mem_filterMap.2 ⟨o, by simpa using Array.mem_of_getElem? hi, hd⟩

section
variable {P : Program} {ops : Array Oper} {Q : Exit → Act → World → Prop} {md : Region.Mode} {Γ : Type} {V : Tmp → Value → Γ → World → Prop} {U : Nat → Γ → World → Prop} {G : Γ → World → Prop} {a0 : Act}

/-- What one operation owes. -/
def Owes2 (P : Program) (md : Region.Mode) (ops : Array Oper) (Q : Exit → Act → World → Prop) (V : Tmp → Value → Γ → World → Prop) (U : Nat → Γ → World → Prop) (G : Γ → World → Prop) (a0 : Act) (i : Nat) (o : Oper) : Prop :=
  ∀ γ a w, Agree ops a0 a → G γ w → AllV (fun t v w => V t v γ w) a w (waits md ops o) → AllU U γ w (waitsI md o) →
    wpOp P ops Q i (fun a' w' => ∃ v γ', a' = a.put o.dst v ∧ (∀ t, o.dst = some t → V t v γ' w') ∧ U i γ' w' ∧ G γ' w' ∧
      ∀ j p, ops[j]? = some p → j ≠ i → (∀ e ∈ p.after, Region.binds md e = true → e.on ≠ i) → (∀ t x, p.dst = some t → V t x γ w → V t x γ' w') ∧ (U j γ w → U j γ' w')) a w

theorem wpAny_vals2 (hok : DrawOk2 md ops a0.tmps.size) (step : ∀ (i : Nat) (o : Oper), ops[i]? = some o → Owes2 P md ops Q V U G a0 i o)
    (fin : ∀ γ a w, Agree ops a0 a → G γ w → (∀ (i : Nat) (o : Oper) (t : Tmp), ops[i]? = some o → o.dst = some t → V t (a.eval (.tmp t)) γ w) → (∀ (i : Nat) (o : Oper), ops[i]? = some o → U i γ w) → Q .normal a w) :
    ∀ (fuel : Nat) (γ : Γ) (L : Array Bool) (a : Act) (w : World), unl L ops.size ≤ fuel → L.size = ops.size → Agree ops a0 a → G γ w →
      (∀ (j : Nat) (p : Oper), ops[j]? = some p → L.getD j true = true → ∀ e ∈ p.after, Region.binds md e = true → L.getD e.on true = true) →
      (∀ (i : Nat) (o : Oper) (t : Tmp), ops[i]? = some o → L.getD i true = true → o.dst = some t → V t (a.eval (.tmp t)) γ w) →
      (∀ (i : Nat) (o : Oper), ops[i]? = some o → L.getD i true = true → U i γ w) → wpAny P md ops Q fuel L a w := by
  have allL : ∀ L : Array Bool, L.size = ops.size → Region.ready md ops L = [] → ∀ (i : Nat) (o : Oper), ops[i]? = some o → L.getD i true = true := by
    intro L hL hr i o ho
    cases hc : L.getD i true with
    | true => rfl
    | false =>
      obtain ⟨j, hj⟩ := ready_some2 hok hL i (Array.getElem?_eq_some_iff.1 ho).1 hc
      rw [hr] at hj; cases hj
  intro fuel
  induction fuel with
  | zero =>
    intro γ L a w hu hL ha hG _ hv hU
    have hr : Region.ready md ops L = [] := by
      apply List.eq_nil_iff_forall_not_mem.2
      intro j hj
      obtain ⟨hun, o, ho, _⟩ := mem_ready.1 hj
      have := unl_pos L ops.size j (Array.getElem?_eq_some_iff.1 ho).1 hun
      omega
    exact ⟨hr, fin γ a w ha hG (fun i o t ho ht => hv i o t ho (allL L hL hr i o ho) ht) (fun i o ho => hU i o ho (allL L hL hr i o ho))⟩
  | succ fuel ih =>
    intro γ L a w hu hL ha hG hcl hv hU
    refine ⟨fun hr => fin γ a w ha hG (fun i o t ho ht => hv i o t ho (allL L hL hr i o ho) ht) (fun i o ho => hU i o ho (allL L hL hr i o ho)), fun i hi => ?_⟩
    obtain ⟨hun, o, ho, hall⟩ := mem_ready.1 hi
    have hil : i < ops.size := (Array.getElem?_eq_some_iff.1 ho).1
    have up : ∀ k, k < ops.size → L.getD k false = true → L.getD k true = true := by
      intro k hk h
      have hkl : k < L.size := by omega
      simp [hkl] at h ⊢; exact h
    have hw : AllV (fun t v w => V t v γ w) a w (waits md ops o) := AllV.of (by
      intro t ht
      unfold waits at ht
      obtain ⟨e, he, hd⟩ := List.mem_filterMap.1 ht
      obtain ⟨he1, he2⟩ := List.mem_filter.1 he
      cases hj : ops[e.on]? with
      | none => rw [hj] at hd; cases hd
      | some p =>
        rw [hj] at hd
        exact hv e.on p t hj (up _ (Array.getElem?_eq_some_iff.1 hj).1 (hall e (by simpa using he1) he2)) hd)
    have hwU : AllU U γ w (waitsI md o) := by
      intro j hj
      have hj2 : j ∈ waitsI md o := by simpa using hj
      obtain ⟨e, he, rfl⟩ := List.mem_map.1 hj2
      obtain ⟨he1, he2⟩ := List.mem_filter.1 he
      have hlt := hok.before i o ho e (by simpa using he1) he2
      have hes : e.on < ops.size := by omega
      exact hU e.on _ (Array.getElem?_eq_getElem hes) (up _ hes (hall e (by simpa using he1) he2))
    refine wpOp_mono (fun a' w' h => ?_) (step i o ho γ a w ha hG hw hwU)
    obtain ⟨v, γ', rfl, hvi, hUi, hG', hst⟩ := h
    have notOn : ∀ (j : Nat) (p : Oper), ops[j]? = some p → L.getD j true = true → ∀ e ∈ p.after, Region.binds md e = true → e.on ≠ i := by
      intro j p hp hl e he hb heq
      have := hcl j p hp hl e he hb
      rw [heq, hun] at this; cases this
    refine ih γ' _ _ _ ?_ (by simpa using hL) ?_ hG' ?_ ?_ ?_
    · have := unl_set L i hun ops.size
      rw [if_pos hil] at this; omega
    · refine ⟨by rw [size_put]; exact ha.size, by rw [defers_put]; exact ha.defers, fun t ht => ?_⟩
      rw [Act.eval_put (fun d hd e => ht i o ho (by cases e; exact hd))]
      exact ha.same t ht
    · intro j p hp hl e he hb
      by_cases e1 : e.on = i
      · rw [e1]; exact set_self L i
      · rw [getD_set_ne true (Ne.symm e1)]
        by_cases e2 : j = i
        · subst e2
          rw [ho] at hp; cases hp
          have hlt := hok.before j o ho e he hb
          exact up _ (by omega) (hall e he hb)
        · rw [getD_set_ne true (Ne.symm e2)] at hl
          exact hcl j p hp hl e he hb
    · intro j p t hp hl ht
      by_cases e : j = i
      · subst e
        rw [ho] at hp; cases hp
        rw [ht, eval_put_same (by rw [ha.size]; exact hok.room j o t ho ht)]
        exact hvi t ht
      · rw [Act.eval_put (fun d hd e2 => by cases e2; exact hok.apart i j o p t ho hp e hd ht)]
        rw [getD_set_ne true (Ne.symm e)] at hl
        exact (hst j p hp e (notOn j p hp hl)).1 t _ ht (hv j p t hp hl ht)
    · intro j p hp hl
      by_cases e : j = i
      · subst e; exact hUi
      · rw [getD_set_ne true (Ne.symm e)] at hl
        exact (hst j p hp e (notOn j p hp hl)).2 (hU j p hp hl)

def OweAll2 (P : Program) (md : Region.Mode) (ops : Array Oper) (Q : Exit → Act → World → Prop) (V : Tmp → Value → Γ → World → Prop) (U : Nat → Γ → World → Prop) (G : Γ → World → Prop) (a0 : Act) : Nat → List Oper → Prop
  | _, [] => True
  | k, o :: r => Owes2 P md ops Q V U G a0 k o ∧ OweAll2 P md ops Q V U G a0 (k + 1) r
theorem OweAll2.get : ∀ {l : List Oper} {k : Nat}, OweAll2 P md ops Q V U G a0 k l → ∀ (i : Nat) (o : Oper), l[i]? = some o → Owes2 P md ops Q V U G a0 (k + i) o
  | _ :: _, k, h, 0, o, hi => by cases hi; exact h.1
  | _ :: r, k, h, i + 1, o, hi => by
    have := OweAll2.get h.2 i o (by simpa using hi)
    rwa [show k + 1 + i = k + (i + 1) by omega] at this
  | [], _, _, i, o, hi => by simp at hi
theorem OweAll2.cons {k : Nat} {o : Oper} {r : List Oper} (h : Owes2 P md ops Q V U G a0 k o) (h2 : OweAll2 P md ops Q V U G a0 (k + 1) r) : OweAll2 P md ops Q V U G a0 k (o :: r) := ⟨h, h2⟩
theorem OweAll2.nil {k : Nat} : OweAll2 P md ops Q V U G a0 k [] := trivial

/-- A region that draws its order, with a ghost. -/
theorem wp_region_vals2 {id : Nat} {w : World} (γ0 : Γ) (V : Tmp → Value → Γ → World → Prop) (U : Nat → Γ → World → Prop) (G : Γ → World → Prop) (N : Nat) (hm : P.follows .mixedOrders = true) (hok : drawOk2 .any ops N = true) (hN : a0.tmps.size = N) (hG : G γ0 w.drew)
    (step : OweAll2 P .any ops Q V U G a0 0 ops.toList)
    (fin : ∀ γ a w, Agree ops a0 a → G γ w → (∀ (i : Nat) (o : Oper) (t : Tmp), ops[i]? = some o → o.dst = some t → V t (a.eval (.tmp t)) γ w) → (∀ (i : Nat) (o : Oper), ops[i]? = some o → U i γ w) → Q .normal a w) : (Code.region id ops true).wp P Q a0 w := by
  subst hN
  have hok := drawOk2_spec hok
  have hrep : ∀ (i : Nat) (o : Oper), ops[i]? = some o → (Array.replicate ops.size false).getD i true = true → False := by
    intro i o ho hl
    have hlt := (Array.getElem?_eq_some_iff.1 ho).1
    simp [hlt] at hl
  refine wp_region_any hm (wpAny_vals2 hok (V := V) (U := U) (G := G) (fun i o ho => ?_) fin ops.size γ0 _ a0 _ (unl_le _ _) (by simp) ⟨rfl, rfl, fun _ _ => rfl⟩ hG ?_ ?_ ?_)
  · have := step.get i o (by simpa using ho)
    rwa [Nat.zero_add] at this
  · intro j p hp hl; exact (hrep j p hp hl).elim
  · intro j p t hp hl; exact (hrep j p hp hl).elim
  · intro j p hp hl; exact (hrep j p hp hl).elim
/-- .. what follows it at a known frame. -/
theorem wp_region_puts2 {id : Nat} {w : World} (γ0 : Γ) (V : Tmp → Value → Γ → World → Prop) (U : Nat → Γ → World → Prop) (G : Γ → World → Prop) (N : Nat) (hm : P.follows .mixedOrders = true) (hok : drawOk2 .any ops N = true) (hN : a0.tmps.size = N) (hG : G γ0 w.drew)
    (step : OweAll2 P .any ops Q V U G a0 0 ops.toList)
    (fin : ∀ f γ w, G γ w → (∀ (i : Nat) (o : Oper) (t : Tmp), ops[i]? = some o → o.dst = some t → V t (f t) γ w) → (∀ (i : Nat) (o : Oper), ops[i]? = some o → U i γ w) → Q .normal (puts f (dsts ops) a0) w) : (Code.region id ops true).wp P Q a0 w :=
  wp_region_vals2 γ0 V U G N hm hok hN hG step (fun γ a w ha hG hv hU => by
    subst hN
    rw [agree_puts2 ha (drawOk2_spec hok).room]
    exact fin _ γ w hG hv hU)
end
end Go.Proofs.Ytdiiechkhlbkcab

namespace Go.Proofs.Ytdiiechkhlbkcab.CV
open Go

section
variable {P : Program} {ops : Array Oper} {Q : Exit → Act → World → Prop} {md : Region.Mode} {V : Tmp → Value → Prop} {G : Nat → Value → World → Prop} {C : List Nat} {a0 : Act}
theorem wpAny_chain (hok : DrawOk2 md ops a0.tmps.size) (hch : chainOk md ops C = true) (hnd : C.Nodup) (hCl : ∀ i ∈ C, i < ops.size) (step : ∀ (i : Nat) (o : Oper), ops[i]? = some o → OwesC P md ops Q V G C a0 i o)
    (fin : ∀ a w x, Agree ops a0 a → G C.length x w → Holds' ops C a C.length x → (∀ (i : Nat) (o : Oper) (t : Tmp), ops[i]? = some o → o.dst = some t → V t (a.eval (.tmp t))) → Q .normal a w) :
    ∀ (fuel : Nat) (L : Array Bool) (a : Act) (w : World) (k : Nat) (x : Value), unl L ops.size ≤ fuel → L.size = ops.size → ChainAt md ops V G C a0 L a w k x → wpAny P md ops Q fuel L a w := by
  have allL : ∀ L : Array Bool, L.size = ops.size → Region.ready md ops L = [] → ∀ (i : Nat) (o : Oper), ops[i]? = some o → L.getD i true = true := by
    intro L hL hr i o ho
    cases hc : L.getD i true with
    | true => rfl
    | false =>
      obtain ⟨j, hj⟩ := ready_some2 hok hL i (Array.getElem?_eq_some_iff.1 ho).1 hc
      rw [hr] at hj; cases hj
  have done : ∀ (L : Array Bool) (a : Act) (w : World) (k : Nat) (x : Value), L.size = ops.size → ChainAt md ops V G C a0 L a w k x → Region.ready md ops L = [] → Q .normal a w := by
    intro L a w k x hL h hr
    have hk : k = C.length := by
      refine Nat.le_antisymm h.le (Nat.le_of_not_lt fun hlt => ?_)
      have hm : C[k]? = some C[k] := List.getElem?_eq_getElem hlt
      have hi := hCl _ (List.getElem_mem hlt)
      exact Nat.lt_irrefl _ ((h.ch k _ hm).1 (allL L hL hr _ _ (Array.getElem?_eq_getElem hi)))
    subst hk
    exact fin a w x h.ag h.g h.ho (fun i o t ho ht => h.v i o t ho (allL L hL hr i o ho) ht)
  intro fuel
  induction fuel with
  | zero =>
    intro L a w k x hu hL h
    have hr : Region.ready md ops L = [] := by
      apply List.eq_nil_iff_forall_not_mem.2
      intro j hj
      obtain ⟨hun, o, ho, _⟩ := mem_ready.1 hj
      have := unl_pos L ops.size j (Array.getElem?_eq_some_iff.1 ho).1 hun
      omega
    exact ⟨hr, done L a w k x hL h hr⟩
  | succ fuel ih =>
    intro L a w k x hu hL h
    refine ⟨fun hr => done L a w k x hL h hr, fun i hi => ?_⟩
    obtain ⟨hun, o, ho, hall⟩ := mem_ready.1 hi
    have hil : i < ops.size := (Array.getElem?_eq_some_iff.1 ho).1
    have hw : AllV (fun t v _ => V t v) a w (waits md ops o) := AllV.of (by
      intro t ht
      unfold waits at ht
      obtain ⟨e, he, hd⟩ := List.mem_filterMap.1 ht
      obtain ⟨he1, he2⟩ := List.mem_filter.1 he
      cases hj : ops[e.on]? with
      | none => rw [hj] at hd; cases hd
      | some p =>
        rw [hj] at hd
        have hl := hall e (by simpa using he1) he2
        exact h.v e.on p t hj (by rw [getD_tf hL (Array.getElem?_eq_some_iff.1 hj).1]; exact hl) hd)
    -- what follows, with k' of the chain done
    have next : ∀ (k' : Nat) (y : Value → Value), k' ≤ C.length → (∀ v, Holds' ops C (a.put o.dst v) k' (y v)) → (∀ (m j : Nat), C[m]? = some j → ((L.setIfInBounds i true).getD j true = true ↔ m < k')) →
        wpOp P ops Q i (fun a' w' => ∃ v, a' = a.put o.dst v ∧ (∀ t, o.dst = some t → V t v) ∧ G k' (y v) w') a w → wpOp P ops Q i (fun a' w' => wpAny P md ops Q fuel (L.setIfInBounds i true) a' w') a w := by
      intro k' y hk' hho hch' hop
      refine wpOp_mono (fun a' w' hh => ?_) hop
      obtain ⟨v, rfl, hvi, hG'⟩ := hh
      refine ih _ _ _ k' (y v) ?_ (by simpa using hL) ⟨hG', hho v, hk', hch', ?_, ?_, ?_, ?_⟩
      · have := unl_set L i hun ops.size
        rw [if_pos hil] at this; omega
      · intro j p hp hl e he hb
        by_cases hji : j = i
        · subst hji
          rw [ho] at hp; cases hp
          have := hall e he hb
          by_cases hei : e.on = j
          · rw [hei, getD_set_at (by omega)]
          · rw [getD_set_ne' hei]; exact this
        · rw [getD_set_ne' hji] at hl
          have := h.cl j p hp hl e he hb
          by_cases hei : e.on = i
          · rw [hei, getD_set_at (by omega)]
          · rw [getD_set_ne' hei]; exact this
      · refine ⟨by rw [size_put]; exact h.ag.size, by rw [defers_put]; exact h.ag.defers, fun t ht => ?_⟩
        rw [Act.eval_put (fun d hd e => ht i o ho (by cases e; exact hd))]
        exact h.ag.same t ht
      · intro j p t hp hl ht
        have e : j ≠ i := by
          rintro rfl
          rw [getD_set_at (by omega)] at hl; cases hl
        rw [Act.eval_put (fun d hd e2 => by cases e2; exact hok.apart i j o p t ho hp e hd ht)]
        rw [getD_set_ne' e] at hl
        exact h.kp j p t hp hl ht
      · intro j p t hp hl ht
        by_cases e : j = i
        · subst e
          rw [ho] at hp; cases hp
          rw [ht, eval_put_same (by rw [h.ag.size]; exact hok.room j o t ho ht)]
          exact hvi t ht
        · rw [Act.eval_put (fun d hd e2 => by cases e2; exact hok.apart i j o p t ho hp e hd ht)]
          rw [getD_set_ne' e] at hl
          exact h.v j p t hp hl ht
    rcases step i o ho with ⟨m, hm, hop⟩ | ⟨hni, b, hb, hop⟩
    · have hmk : m = k := by
        have h1 : ¬ m < k := fun hlt => by rw [(h.ch m i hm).2 hlt] at hun; cases hun
        have h2 : m ≤ k := by
          cases m with
          | zero => exact Nat.zero_le _
          | succ m =>
            have hlt : m < C.length := by have := (List.getElem?_eq_some_iff.1 hm).1; omega
            have hj : C[m]? = some C[m] := List.getElem?_eq_getElem hlt
            obtain ⟨e, he, hbd, hon⟩ := chain_edge hch hj hm ho
            have := hall e he hbd
            rw [hon] at this
            exact (h.ch m _ hj).1 (by rw [getD_tf hL (hCl _ (List.getElem_mem hlt))]; exact this)
        omega
      subst hmk
      have hmlt : m < C.length := (List.getElem?_eq_some_iff.1 hm).1
      refine next (m + 1) (fun v => v) hmlt ?_ ?_ (hop a w x h.agc h.g h.ho hw)
      · intro v m2 j p t hm2 hj hp ht
        obtain rfl : m2 = m := by omega
        rw [hm] at hj; cases hj
        rw [ho] at hp; cases hp
        rw [ht, eval_put_same (by rw [h.ag.size]; exact hok.room i o t ho ht)]
      intro m2 j hj
      by_cases hji : j = i
      · subst hji
        have : m2 = m := by
          obtain ⟨l2, e2⟩ := List.getElem?_eq_some_iff.1 hj
          obtain ⟨l1, e1⟩ := List.getElem?_eq_some_iff.1 hm
          exact (List.getElem_inj hnd).1 (e2.trans e1.symm)
        subst this
        rw [getD_set_at (by omega)]
        exact ⟨fun _ => Nat.lt_succ_self _, fun _ => rfl⟩
      · rw [getD_set_ne' hji, h.ch m2 j hj]
        have : m2 ≠ m := by
          rintro rfl
          rw [hm] at hj; cases hj; exact hji rfl
        omega
    · have hkb : k ≤ b := by
        unfold aheadOf at hb
        rw [Bool.or_eq_true, beq_iff_eq] at hb
        rcases hb with rfl | hb
        · exact h.le
        · cases hj : C[b]? with
          | none => rw [hj] at hb; cases hb
          | some j =>
            rw [hj] at hb
            simp only at hb
            refine Nat.le_of_not_lt fun hlt => ?_
            have := reach_done h.cl 16 j i hb ((h.ch b j hj).2 hlt)
            rw [← getD_tf hL hil, hun] at this
            cases this
      refine next k (fun _ => x) h.le ?_ ?_ (hop k hkb a w x h.agc h.g hw)
      · intro v m2 j p t hm2 hj hp ht
        have hji : j ≠ i := by
          rintro rfl
          have := List.mem_of_getElem? hj
          rw [List.contains_eq_mem, decide_eq_false_iff_not] at hni
          exact hni this
        rw [Act.eval_put (fun d hd e2 => by cases e2; exact hok.apart i j o p t ho hp hji hd ht)]
        exact h.ho m2 j p t hm2 hj hp ht
      intro m2 j hj
      have hji : j ≠ i := by
        rintro rfl
        have := List.mem_of_getElem? hj
        rw [List.contains_eq_mem, decide_eq_false_iff_not] at hni
        exact hni this
      rw [getD_set_ne' hji, h.ch m2 j hj]

theorem wp_region_chain {id : Nat} {w : World} (V : Tmp → Value → Prop) (G : Nat → Value → World → Prop) (C : List Nat) (N : Nat) (hm : P.follows .mixedOrders = true) (hok : drawOk2 .any ops N = true) (hN : a0.tmps.size = N)
    (hch : chainOk .any ops C = true) (hnd : decide C.Nodup = true) (hCl : C.all (· < ops.size) = true) (hG : G 0 undef w.drew)
    (step : OweAllC P .any ops Q V G C a0 0 ops.toList)
    (fin : ∀ f w x, G C.length x w → (∀ (m i : Nat) (o : Oper) (t : Tmp), C.length = m + 1 → C[m]? = some i → ops[i]? = some o → o.dst = some t → f t = x) → (∀ (i : Nat) (o : Oper) (t : Tmp), ops[i]? = some o → o.dst = some t → V t (f t)) → Q .normal (puts f (dsts ops) a0) w) : (Code.region id ops true).wp P Q a0 w := by
  subst hN
  have hok := drawOk2_spec hok
  have hCl' : ∀ i ∈ C, i < ops.size := fun i hi => by simpa using List.all_eq_true.1 hCl i hi
  have hL0 : ∀ i, i < ops.size → (Array.replicate ops.size false).getD i true = false := fun i hi => by simp [hi]
  refine wp_region_any hm (wpAny_chain (V := V) (G := G) (C := C) hok hch (of_decide_eq_true hnd) hCl' (fun i o ho => ?_) (fun a w x ha hg hh hv => ?_) ops.size _ a0 _ 0 undef (unl_le _ _) (by simp) ⟨hG, (fun m i o t h => by omega), Nat.zero_le _, ?_, ?_, ⟨rfl, rfl, fun _ _ => rfl⟩, (fun _ _ _ _ _ _ => rfl), ?_⟩)
  · have := step.get i o (by simpa using ho)
    rwa [Nat.zero_add] at this
  · rw [agree_puts2 ha hok.room]
    exact fin _ w x hg hh hv
  · intro m i hi
    have := hCl' i (List.mem_of_getElem? hi)
    rw [hL0 i this]
    simp
  · intro i o ho hl
    rw [hL0 i (Array.getElem?_eq_some_iff.1 ho).1] at hl; cases hl
  · intro i o t ho hl _
    rw [hL0 i (Array.getElem?_eq_some_iff.1 ho).1] at hl; cases hl

end
end Go.Proofs.Ytdiiechkhlbkcab.CV

namespace Go.Proofs.Ytdiiechkhlbkcab
open Go.RowKit

set_option maxRecDepth 20000 in
set_option maxHeartbeats 1000000 in
theorem leave_any (nd p n : Nat) (S : List Nat) (kf : Nat → List UInt8) (vf : Nat → Int) (nw od : Nat → Nat) (w : World) (hN : Nodes w S kf vf nw od) (hx : nd ∈ S) (hp : p ∈ S) (hn : n ∈ S) (ep : nw nd = p) (en : od nd = n) (np : nd ≠ p) :
    Calls Try.prog 19 #[.pointer (some ⟨nd, 0, none⟩)] w fun e w' => e = .returned (.tuple #[]) ∧ Nodes w' S kf vf (upd nw n p) (upd od p n) ∧ Mod (fun i => i ∈ S) w w' := by
  have HP := Lib.hid hp
  have HNN := Lib.hid hn
  have HN := Lib.hid hN
  have HCL : Hid (∀ (k : Nat) (z : Value) (w' : World), k ≤ 1 → (fun (j : Nat) (_ : Value) (w' : World) => (j = 0 → Nodes w' S kf vf nw od) ∧ (j = 1 → Nodes w' S kf vf nw (upd od p n)) ∧ (j = 2 → Nodes w' S kf vf (upd nw n p) (upd od p n)) ∧ Mod (fun i => i ∈ S) w w') k z w' → w'.cell? ⟨nd, 2, none⟩ = some (.pointer (some ⟨p, 0, none⟩)) ∧ w'.cell? ⟨nd, 3, none⟩ = some (.pointer (some ⟨n, 0, none⟩))) := Lib.hid (by
    intro k z w' hk hG
    have : k = 0 ∨ k = 1 := by omega
    rcases this with rfl | rfl
    · obtain ⟨_, _, h1, h2⟩ := (hG.1 rfl).cell hx
      rw [ep] at h1; rw [en] at h2
      exact ⟨h1, h2⟩
    · obtain ⟨_, _, h1, h2⟩ := (hG.2.1 rfl).cell hx
      rw [ep] at h1; rw [upd_other _ _ np, en] at h2
      exact ⟨h1, h2⟩)
  clear hN hx hp hn ep en np
  go_enter Try.func19, Try.ntmps19
  try go_wp2_with fail
  have HG0 : Hid ((fun (j : Nat) (_ : Value) (w' : World) => (j = 0 → Nodes w' S kf vf nw od) ∧ (j = 1 → Nodes w' S kf vf nw (upd od p n)) ∧ (j = 2 → Nodes w' S kf vf (upd nw n p) (upd od p n)) ∧ Mod (fun i => i ∈ S) w w') 0 undef w.drew) := Lib.hid ⟨(fun _ => HN.out), (fun h => absurd h (by omega)), (fun h => absurd h (by omega)), (Mod.refl _ _).drew⟩
  refine CV.wp_region_chain (fun t v => match t with
    | 2 => v = .pointer (some ⟨nd, 0, none⟩)
    | 3 => v = .pointer (some ⟨nd, 0, none⟩)
    | 4 => v = .pointer (some ⟨nd, 2, none⟩)
    | 5 => v = .pointer (some ⟨p, 0, none⟩)
    | 6 => v = .pointer (some ⟨nd, 0, none⟩)
    | 7 => v = .pointer (some ⟨nd, 0, none⟩)
    | 8 => v = .pointer (some ⟨nd, 3, none⟩)
    | 9 => v = .pointer (some ⟨n, 0, none⟩)
    | 10 => v = .pointer (some ⟨nd, 0, none⟩)
    | 11 => v = .pointer (some ⟨nd, 0, none⟩)
    | 12 => v = .pointer (some ⟨nd, 3, none⟩)
    | 13 => v = .pointer (some ⟨n, 0, none⟩)
    | 14 => v = .pointer (some ⟨nd, 0, none⟩)
    | 15 => v = .pointer (some ⟨nd, 0, none⟩)
    | 16 => v = .pointer (some ⟨nd, 2, none⟩)
    | 17 => v = .pointer (some ⟨p, 0, none⟩)
    | 18 => v = .pointer (some ⟨p, 0, none⟩)
    | 19 => v = .pointer (some ⟨p, 3, none⟩)
    | 20 => v = .pointer (some ⟨n, 0, none⟩)
    | 21 => v = .pointer (some ⟨n, 2, none⟩)
    | _ => True) (fun (j : Nat) (_ : Value) (w' : World) => (j = 0 → Nodes w' S kf vf nw od) ∧ (j = 1 → Nodes w' S kf vf nw (upd od p n)) ∧ (j = 2 → Nodes w' S kf vf (upd nw n p) (upd od p n)) ∧ Mod (fun i => i ∈ S) w w') [18, 21] 22 (by kernel_rfl) (by decide +kernel) rfl (by decide +kernel) (by decide) (by decide) HG0.out (by
    refine OweAllC.cons (owesC_val 0 (by decide +kernel) (by decide) rfl rfl fun k' a w1 x hk ha hG hV => ?_) ?_
    · skip
      have h0 := ha.outer 0 (by decide +kernel)
      simp only [Act.eval] at h0
      exact ⟨.pointer (some ⟨nd, 0, none⟩), wanted_free rfl, by simp [execOp, go_sem, h0], rfl⟩
    refine OweAllC.cons (owesC_val 0 (by decide +kernel) (by decide) rfl rfl fun k' a w1 x hk ha hG hV => ?_) ?_
    · skip
      have h2 : a.tmps.getD 2 undef = .pointer (some ⟨nd, 0, none⟩) := hV.get 2 (by decide +kernel)
      exact ⟨.pointer (some ⟨nd, 0, none⟩), wanted_free rfl, by simp [execOp, go_sem, h2], rfl⟩
    refine OweAllC.cons (owesC_val 0 (by decide +kernel) (by decide) rfl rfl fun k' a w1 x hk ha hG hV => ?_) ?_
    · skip
      have h3 : a.tmps.getD 3 undef = .pointer (some ⟨nd, 0, none⟩) := hV.get 3 (by decide +kernel)
      exact ⟨.pointer (some ⟨nd, 2, none⟩), wanted_free rfl, by simp [execOp, go_sem, h3], rfl⟩
    refine OweAllC.cons (owesC_val 0 (by decide +kernel) (by decide) rfl rfl fun k' a w1 x hk ha hG hV => ?_) ?_
    · skip
      have h4 : a.tmps.getD 4 undef = .pointer (some ⟨nd, 2, none⟩) := hV.get 4 (by decide +kernel)
      have cc := HCL.out k' x w1 (by omega) hG
      exact ⟨.pointer (some ⟨p, 0, none⟩), wanted_free rfl, by simp [execOp, go_sem, h4, cc.1], rfl⟩
    refine OweAllC.cons (owesC_val 1 (by decide +kernel) (by decide) rfl rfl fun k' a w1 x hk ha hG hV => ?_) ?_
    · skip
      have h0 := ha.outer 0 (by decide +kernel)
      simp only [Act.eval] at h0
      exact ⟨.pointer (some ⟨nd, 0, none⟩), wanted_free rfl, by simp [execOp, go_sem, h0], rfl⟩
    refine OweAllC.cons (owesC_val 1 (by decide +kernel) (by decide) rfl rfl fun k' a w1 x hk ha hG hV => ?_) ?_
    · skip
      have h6 : a.tmps.getD 6 undef = .pointer (some ⟨nd, 0, none⟩) := hV.get 6 (by decide +kernel)
      exact ⟨.pointer (some ⟨nd, 0, none⟩), wanted_free rfl, by simp [execOp, go_sem, h6], rfl⟩
    refine OweAllC.cons (owesC_val 1 (by decide +kernel) (by decide) rfl rfl fun k' a w1 x hk ha hG hV => ?_) ?_
    · skip
      have h7 : a.tmps.getD 7 undef = .pointer (some ⟨nd, 0, none⟩) := hV.get 7 (by decide +kernel)
      exact ⟨.pointer (some ⟨nd, 3, none⟩), wanted_free rfl, by simp [execOp, go_sem, h7], rfl⟩
    refine OweAllC.cons (owesC_val 1 (by decide +kernel) (by decide) rfl rfl fun k' a w1 x hk ha hG hV => ?_) ?_
    · skip
      have h8 : a.tmps.getD 8 undef = .pointer (some ⟨nd, 3, none⟩) := hV.get 8 (by decide +kernel)
      have cc := HCL.out k' x w1 (by omega) hG
      exact ⟨.pointer (some ⟨n, 0, none⟩), wanted_free rfl, by simp [execOp, go_sem, h8, cc.2], rfl⟩
    refine OweAllC.cons (owesC_val 0 (by decide +kernel) (by decide) rfl rfl fun k' a w1 x hk ha hG hV => ?_) ?_
    · skip
      have h0 := ha.outer 0 (by decide +kernel)
      simp only [Act.eval] at h0
      exact ⟨.pointer (some ⟨nd, 0, none⟩), wanted_free rfl, by simp [execOp, go_sem, h0], rfl⟩
    refine OweAllC.cons (owesC_val 0 (by decide +kernel) (by decide) rfl rfl fun k' a w1 x hk ha hG hV => ?_) ?_
    · skip
      have h10 : a.tmps.getD 10 undef = .pointer (some ⟨nd, 0, none⟩) := hV.get 10 (by decide +kernel)
      exact ⟨.pointer (some ⟨nd, 0, none⟩), wanted_free rfl, by simp [execOp, go_sem, h10], rfl⟩
    refine OweAllC.cons (owesC_val 0 (by decide +kernel) (by decide) rfl rfl fun k' a w1 x hk ha hG hV => ?_) ?_
    · skip
      have h11 : a.tmps.getD 11 undef = .pointer (some ⟨nd, 0, none⟩) := hV.get 11 (by decide +kernel)
      exact ⟨.pointer (some ⟨nd, 3, none⟩), wanted_free rfl, by simp [execOp, go_sem, h11], rfl⟩
    refine OweAllC.cons (owesC_val 0 (by decide +kernel) (by decide) rfl rfl fun k' a w1 x hk ha hG hV => ?_) ?_
    · skip
      have h12 : a.tmps.getD 12 undef = .pointer (some ⟨nd, 3, none⟩) := hV.get 12 (by decide +kernel)
      have cc := HCL.out k' x w1 (by omega) hG
      exact ⟨.pointer (some ⟨n, 0, none⟩), wanted_free rfl, by simp [execOp, go_sem, h12, cc.2], rfl⟩
    refine OweAllC.cons (owesC_val 1 (by decide +kernel) (by decide) rfl rfl fun k' a w1 x hk ha hG hV => ?_) ?_
    · skip
      have h0 := ha.outer 0 (by decide +kernel)
      simp only [Act.eval] at h0
      exact ⟨.pointer (some ⟨nd, 0, none⟩), wanted_free rfl, by simp [execOp, go_sem, h0], rfl⟩
    refine OweAllC.cons (owesC_val 1 (by decide +kernel) (by decide) rfl rfl fun k' a w1 x hk ha hG hV => ?_) ?_
    · skip
      have h14 : a.tmps.getD 14 undef = .pointer (some ⟨nd, 0, none⟩) := hV.get 14 (by decide +kernel)
      exact ⟨.pointer (some ⟨nd, 0, none⟩), wanted_free rfl, by simp [execOp, go_sem, h14], rfl⟩
    refine OweAllC.cons (owesC_val 1 (by decide +kernel) (by decide) rfl rfl fun k' a w1 x hk ha hG hV => ?_) ?_
    · skip
      have h15 : a.tmps.getD 15 undef = .pointer (some ⟨nd, 0, none⟩) := hV.get 15 (by decide +kernel)
      exact ⟨.pointer (some ⟨nd, 2, none⟩), wanted_free rfl, by simp [execOp, go_sem, h15], rfl⟩
    refine OweAllC.cons (owesC_val 1 (by decide +kernel) (by decide) rfl rfl fun k' a w1 x hk ha hG hV => ?_) ?_
    · skip
      have h16 : a.tmps.getD 16 undef = .pointer (some ⟨nd, 2, none⟩) := hV.get 16 (by decide +kernel)
      have cc := HCL.out k' x w1 (by omega) hG
      exact ⟨.pointer (some ⟨p, 0, none⟩), wanted_free rfl, by simp [execOp, go_sem, h16, cc.1], rfl⟩
    refine OweAllC.cons (owesC_val 0 (by decide +kernel) (by decide) rfl rfl fun k' a w1 x hk ha hG hV => ?_) ?_
    · skip
      have h5 : a.tmps.getD 5 undef = .pointer (some ⟨p, 0, none⟩) := hV.get 5 (by decide +kernel)
      exact ⟨.pointer (some ⟨p, 0, none⟩), wanted_free rfl, by simp [execOp, go_sem, h5], rfl⟩
    refine OweAllC.cons (owesC_val 0 (by decide +kernel) (by decide) rfl rfl fun k' a w1 x hk ha hG hV => ?_) ?_
    · skip
      have h18 : a.tmps.getD 18 undef = .pointer (some ⟨p, 0, none⟩) := hV.get 18 (by decide +kernel)
      exact ⟨.pointer (some ⟨p, 3, none⟩), wanted_free rfl, by simp [execOp, go_sem, h18], rfl⟩
    refine OweAllC.cons (owesC_store 0 rfl rfl rfl fun a w1 x ha hG hx hV => ?_) ?_
    · skip
      have h19 : a.tmps.getD 19 undef = .pointer (some ⟨p, 3, none⟩) := hV.get 19 (by decide +kernel)
      have h13 : a.tmps.getD 13 undef = .pointer (some ⟨n, 0, none⟩) := hV.get 13 (by decide +kernel)
      have hN := hG.1 rfl
      have c3 := (hN.cell HP.out).2.2.2
      have f3 := hN.froz HP.out 3
      refine ⟨w1.setCell ⟨p, 3, none⟩ (.pointer (some ⟨n, 0, none⟩)), wanted_free rfl, by simp [execOp, go_sem, h19, h13, c3, f3], (fun h => absurd h (by omega)), fun _ => hN.setOd p n, (fun h => absurd h (by omega)), hG.2.2.2.setCell (fun _ => HP.out) _⟩
    refine OweAllC.cons (owesC_val 1 (by decide +kernel) (by decide) rfl rfl fun k' a w1 x hk ha hG hV => ?_) ?_
    · skip
      have h9 : a.tmps.getD 9 undef = .pointer (some ⟨n, 0, none⟩) := hV.get 9 (by decide +kernel)
      exact ⟨.pointer (some ⟨n, 0, none⟩), wanted_free rfl, by simp [execOp, go_sem, h9], rfl⟩
    refine OweAllC.cons (owesC_val 1 (by decide +kernel) (by decide) rfl rfl fun k' a w1 x hk ha hG hV => ?_) ?_
    · skip
      have h20 : a.tmps.getD 20 undef = .pointer (some ⟨n, 0, none⟩) := hV.get 20 (by decide +kernel)
      exact ⟨.pointer (some ⟨n, 2, none⟩), wanted_free rfl, by simp [execOp, go_sem, h20], rfl⟩
    refine OweAllC.cons (owesC_store 1 rfl rfl rfl fun a w1 x ha hG hx hV => ?_) ?_
    · skip
      have h21 : a.tmps.getD 21 undef = .pointer (some ⟨n, 2, none⟩) := hV.get 21 (by decide +kernel)
      have h17 : a.tmps.getD 17 undef = .pointer (some ⟨p, 0, none⟩) := hV.get 17 (by decide +kernel)
      have hN := hG.2.1 rfl
      have c2 := (hN.cell HNN.out).2.2.1
      have f2 := hN.froz HNN.out 2
      refine ⟨w1.setCell ⟨n, 2, none⟩ (.pointer (some ⟨p, 0, none⟩)), wanted_free rfl, by simp [execOp, go_sem, h21, h17, c2, f2], (fun h => absurd h (by omega)), (fun h => absurd h (by omega)), fun _ => hN.setNw n p, hG.2.2.2.setCell (fun _ => HNN.out) _⟩
    exact OweAllC.nil
    ) ?_
  intro f wz xz hG hx hv
  clear hv hx
  have HE := Lib.hid (And.intro (hG.2.2.1 rfl) hG.2.2.2)
  clear hG
  go_end0
  exact ⟨rfl, HE.out.1, HE.out.2⟩

set_option maxRecDepth 20000 in
set_option maxHeartbeats 1000000 in
theorem enter_any (c nd r h : Nat) (S : List Nat) (kf : Nat → List UInt8) (vf : Nat → Int) (nw od : Nat → Nat) (a2 a3 : Value) (w : World) (hN : Nodes w S kf vf nw od) (hr : r ∈ S) (hh : h ∈ S) (hx : nd ∉ S) (eh : od r = h)
    (hc : w.cell? ⟨c, 2, none⟩ = some (.pointer (some ⟨r, 0, none⟩))) (hcx : c ≠ nd) (hrow : w.heap[nd]? = some (.cells #[.string ⟨(kf nd).toArray⟩, .int .i64 (vf nd), a2, a3] 49 (0, 0))) :
    Calls Try.prog 20 #[.pointer (some ⟨c, 0, none⟩), .pointer (some ⟨nd, 0, none⟩)] w fun e w' => e = .returned (.tuple #[]) ∧ Nodes w' (nd :: S) kf vf (upd (upd nw nd r) h nd) (upd (upd od nd h) r nd) ∧ Mod (fun i => i ∈ nd :: S) w w' := by
  have hnr : nd ≠ r := fun e => hx (e ▸ hr)
  have hnh : nd ≠ h := fun e => hx (e ▸ hh)
  have HR : Hid (r ∈ nd :: S) := Lib.hid (List.mem_cons_of_mem _ hr)
  have HHH : Hid (h ∈ nd :: S) := Lib.hid (List.mem_cons_of_mem _ hh)
  have HCR : Hid (∀ w', Mod (fun i => i = nd) w w' → w'.cell? ⟨c, 2, none⟩ = some (.pointer (some ⟨r, 0, none⟩)) ∧ w'.cell? ⟨r, 3, none⟩ = some (.pointer (some ⟨h, 0, none⟩))) := Lib.hid (by
    intro w' hm
    have hcl : c < w.heap.size := by
      unfold World.cell? at hc
      apply Nat.lt_of_not_le; intro hle
      rw [Array.getElem?_eq_none hle] at hc
      simp at hc
    refine ⟨(World.cell?_of_block (hm.block c hcl hcx)).trans hc, ?_⟩
    obtain ⟨_, _, _, h4⟩ := hN.cell hr
    rw [eh] at h4
    exact (World.cell?_of_block (hm.block r (hN.lt hr) (fun e => hnr e.symm))).trans h4)
  have HW0 := Lib.hid hrow
  obtain ⟨nw1, hnw⟩ : ∃ f, f = upd nw nd r := ⟨_, rfl⟩
  obtain ⟨od1, hod⟩ : ∃ f, f = upd od nd h := ⟨_, rfl⟩
  have e1 : nw1 nd = r := by rw [hnw, upd_same]
  have e2 : od1 nd = h := by rw [hod, upd_same]
  have e3 : ∀ y, y ≠ nd → nw1 y = nw y := fun y e => by rw [hnw, upd_other _ _ e]
  have e4 : ∀ y, y ≠ nd → od1 y = od y := fun y e => by rw [hod, upd_other _ _ e]
  rw [← hnw, ← hod]
  clear hnw hod
  have HB : Hid (∀ w', Mod (fun i => i = nd) w w' → w'.heap[nd]? = some (.cells (entR (kf nd) (vf nd) r h) 49 (0, 0)) → Nodes w' (nd :: S) kf vf nw1 od1 ∧ Mod (fun i => i ∈ nd :: S) w w') := Lib.hid (by
    intro w' hm hrw
    refine ⟨?_, hm.mono (fun i _ e => by rw [e]; simp)⟩
    intro y hy
    by_cases e : y = nd
    · subst e; rw [e1, e2]; exact hrw
    · rw [e3 _ e, e4 _ e]
      have hyS : y ∈ S := by rcases List.mem_cons.1 hy with h | h; exact absurd h e; exact h
      exact (hm.block y (hN.lt hyS) e).trans (hN y hyS))
  have HCF : Hid (∀ (k : Nat) (z : Value) (w' : World), k ≤ 1 → (fun (j : Nat) (_ : Value) (w' : World) => (j = 0 → Nodes w' (nd :: S) kf vf nw1 od1) ∧ (j = 1 → Nodes w' (nd :: S) kf vf nw1 (upd od1 r nd)) ∧ (j = 2 → Nodes w' (nd :: S) kf vf (upd nw1 h nd) (upd od1 r nd)) ∧ Mod (fun i => i ∈ nd :: S) w w') k z w' → w'.cell? ⟨nd, 2, none⟩ = some (.pointer (some ⟨r, 0, none⟩)) ∧ w'.cell? ⟨nd, 3, none⟩ = some (.pointer (some ⟨h, 0, none⟩))) := Lib.hid (by
    intro k z w' hk hG
    have : k = 0 ∨ k = 1 := by omega
    rcases this with rfl | rfl
    · obtain ⟨_, _, h1, h2⟩ := (hG.1 rfl).cell (y := nd) (by simp)
      rw [e1] at h1; rw [e2] at h2
      exact ⟨h1, h2⟩
    · obtain ⟨_, _, h1, h2⟩ := (hG.2.1 rfl).cell (y := nd) (by simp)
      rw [e1] at h1; rw [upd_other _ _ hnr, e2] at h2
      exact ⟨h1, h2⟩)
  clear hN hr hh hx eh hc hcx hrow e1 e2 e3 e4 hnr hnh
  go_enter Try.func20, Try.ntmps20
  try go_wp2_with fail
  have HG0 : Hid ((fun (j : Nat) (_ : Value) (w' : World) => (j = 0 → w'.heap[nd]? = some (.cells #[.string ⟨(kf nd).toArray⟩, .int .i64 (vf nd), a2, a3] 49 (0, 0))) ∧ (j = 1 → w'.heap[nd]? = some (.cells #[.string ⟨(kf nd).toArray⟩, .int .i64 (vf nd), .pointer (some ⟨r, 0, none⟩), a3] 49 (0, 0))) ∧ (j = 2 → w'.heap[nd]? = some (.cells (entR (kf nd) (vf nd) r h) 49 (0, 0))) ∧ Mod (fun i => i = nd) w w') 0 undef w.drew) := Lib.hid ⟨(fun _ => HW0.out), (fun h => absurd h (by omega)), (fun h => absurd h (by omega)), (Mod.refl _ _).drew⟩
  refine CV.wp_region_chain (fun t v => match t with
    | 4 => v = .pointer (some ⟨nd, 0, none⟩)
    | 5 => v = .pointer (some ⟨nd, 0, none⟩)
    | 6 => v = .pointer (some ⟨c, 0, none⟩)
    | 7 => v = .pointer (some ⟨c, 0, none⟩)
    | 8 => v = .pointer (some ⟨c, 2, none⟩)
    | 9 => v = .pointer (some ⟨r, 0, none⟩)
    | 10 => v = .pointer (some ⟨c, 0, none⟩)
    | 11 => v = .pointer (some ⟨c, 0, none⟩)
    | 12 => v = .pointer (some ⟨c, 2, none⟩)
    | 13 => v = .pointer (some ⟨r, 0, none⟩)
    | 14 => v = .pointer (some ⟨r, 0, none⟩)
    | 15 => v = .pointer (some ⟨r, 3, none⟩)
    | 16 => v = .pointer (some ⟨h, 0, none⟩)
    | 17 => v = .pointer (some ⟨nd, 0, none⟩)
    | 18 => v = .pointer (some ⟨nd, 2, none⟩)
    | 19 => v = .pointer (some ⟨nd, 0, none⟩)
    | 20 => v = .pointer (some ⟨nd, 3, none⟩)
    | _ => True) (fun (j : Nat) (_ : Value) (w' : World) => (j = 0 → w'.heap[nd]? = some (.cells #[.string ⟨(kf nd).toArray⟩, .int .i64 (vf nd), a2, a3] 49 (0, 0))) ∧ (j = 1 → w'.heap[nd]? = some (.cells #[.string ⟨(kf nd).toArray⟩, .int .i64 (vf nd), .pointer (some ⟨r, 0, none⟩), a3] 49 (0, 0))) ∧ (j = 2 → w'.heap[nd]? = some (.cells (entR (kf nd) (vf nd) r h) 49 (0, 0))) ∧ Mod (fun i => i = nd) w w') [15, 18] 35 (by kernel_rfl) (by decide +kernel) rfl (by decide +kernel) (by decide) (by decide) HG0.out (by
    refine OweAllC.cons (owesC_val 0 (by decide +kernel) (by decide) rfl rfl fun k' a w1 x hk ha hG hV => ?_) ?_
    · skip
      have h1 := ha.outer 1 (by decide +kernel)
      simp only [Act.eval] at h1
      exact ⟨.pointer (some ⟨nd, 0, none⟩), wanted_free rfl, by simp [execOp, go_sem, h1], rfl⟩
    refine OweAllC.cons (owesC_val 1 (by decide +kernel) (by decide) rfl rfl fun k' a w1 x hk ha hG hV => ?_) ?_
    · skip
      have h1 := ha.outer 1 (by decide +kernel)
      simp only [Act.eval] at h1
      exact ⟨.pointer (some ⟨nd, 0, none⟩), wanted_free rfl, by simp [execOp, go_sem, h1], rfl⟩
    refine OweAllC.cons (owesC_val 0 (by decide +kernel) (by decide) rfl rfl fun k' a w1 x hk ha hG hV => ?_) ?_
    · skip
      have h0 := ha.outer 0 (by decide +kernel)
      simp only [Act.eval] at h0
      exact ⟨.pointer (some ⟨c, 0, none⟩), wanted_free rfl, by simp [execOp, go_sem, h0], rfl⟩
    refine OweAllC.cons (owesC_val 0 (by decide +kernel) (by decide) rfl rfl fun k' a w1 x hk ha hG hV => ?_) ?_
    · skip
      have h6 : a.tmps.getD 6 undef = .pointer (some ⟨c, 0, none⟩) := hV.get 6 (by decide +kernel)
      exact ⟨.pointer (some ⟨c, 0, none⟩), wanted_free rfl, by simp [execOp, go_sem, h6], rfl⟩
    refine OweAllC.cons (owesC_val 0 (by decide +kernel) (by decide) rfl rfl fun k' a w1 x hk ha hG hV => ?_) ?_
    · skip
      have h7 : a.tmps.getD 7 undef = .pointer (some ⟨c, 0, none⟩) := hV.get 7 (by decide +kernel)
      exact ⟨.pointer (some ⟨c, 2, none⟩), wanted_free rfl, by simp [execOp, go_sem, h7], rfl⟩
    refine OweAllC.cons (owesC_val 0 (by decide +kernel) (by decide) rfl rfl fun k' a w1 x hk ha hG hV => ?_) ?_
    · skip
      have h8 : a.tmps.getD 8 undef = .pointer (some ⟨c, 2, none⟩) := hV.get 8 (by decide +kernel)
      have cc := HCR.out w1 hG.2.2.2
      exact ⟨.pointer (some ⟨r, 0, none⟩), wanted_free rfl, by simp [execOp, go_sem, h8, cc.1], rfl⟩
    refine OweAllC.cons (owesC_val 1 (by decide +kernel) (by decide) rfl rfl fun k' a w1 x hk ha hG hV => ?_) ?_
    · skip
      have h0 := ha.outer 0 (by decide +kernel)
      simp only [Act.eval] at h0
      exact ⟨.pointer (some ⟨c, 0, none⟩), wanted_free rfl, by simp [execOp, go_sem, h0], rfl⟩
    refine OweAllC.cons (owesC_val 1 (by decide +kernel) (by decide) rfl rfl fun k' a w1 x hk ha hG hV => ?_) ?_
    · skip
      have h10 : a.tmps.getD 10 undef = .pointer (some ⟨c, 0, none⟩) := hV.get 10 (by decide +kernel)
      exact ⟨.pointer (some ⟨c, 0, none⟩), wanted_free rfl, by simp [execOp, go_sem, h10], rfl⟩
    refine OweAllC.cons (owesC_val 1 (by decide +kernel) (by decide) rfl rfl fun k' a w1 x hk ha hG hV => ?_) ?_
    · skip
      have h11 : a.tmps.getD 11 undef = .pointer (some ⟨c, 0, none⟩) := hV.get 11 (by decide +kernel)
      exact ⟨.pointer (some ⟨c, 2, none⟩), wanted_free rfl, by simp [execOp, go_sem, h11], rfl⟩
    refine OweAllC.cons (owesC_val 1 (by decide +kernel) (by decide) rfl rfl fun k' a w1 x hk ha hG hV => ?_) ?_
    · skip
      have h12 : a.tmps.getD 12 undef = .pointer (some ⟨c, 2, none⟩) := hV.get 12 (by decide +kernel)
      have cc := HCR.out w1 hG.2.2.2
      exact ⟨.pointer (some ⟨r, 0, none⟩), wanted_free rfl, by simp [execOp, go_sem, h12, cc.1], rfl⟩
    refine OweAllC.cons (owesC_val 1 (by decide +kernel) (by decide) rfl rfl fun k' a w1 x hk ha hG hV => ?_) ?_
    · skip
      have h13 : a.tmps.getD 13 undef = .pointer (some ⟨r, 0, none⟩) := hV.get 13 (by decide +kernel)
      exact ⟨.pointer (some ⟨r, 0, none⟩), wanted_free rfl, by simp [execOp, go_sem, h13], rfl⟩
    refine OweAllC.cons (owesC_val 1 (by decide +kernel) (by decide) rfl rfl fun k' a w1 x hk ha hG hV => ?_) ?_
    · skip
      have h14 : a.tmps.getD 14 undef = .pointer (some ⟨r, 0, none⟩) := hV.get 14 (by decide +kernel)
      exact ⟨.pointer (some ⟨r, 3, none⟩), wanted_free rfl, by simp [execOp, go_sem, h14], rfl⟩
    refine OweAllC.cons (owesC_val 1 (by decide +kernel) (by decide) rfl rfl fun k' a w1 x hk ha hG hV => ?_) ?_
    · skip
      have h15 : a.tmps.getD 15 undef = .pointer (some ⟨r, 3, none⟩) := hV.get 15 (by decide +kernel)
      have cc := HCR.out w1 hG.2.2.2
      exact ⟨.pointer (some ⟨h, 0, none⟩), wanted_free rfl, by simp [execOp, go_sem, h15, cc.2], rfl⟩
    refine OweAllC.cons (owesC_val 0 (by decide +kernel) (by decide) rfl rfl fun k' a w1 x hk ha hG hV => ?_) ?_
    · skip
      have h4 : a.tmps.getD 4 undef = .pointer (some ⟨nd, 0, none⟩) := hV.get 4 (by decide +kernel)
      exact ⟨.pointer (some ⟨nd, 0, none⟩), wanted_free rfl, by simp [execOp, go_sem, h4], rfl⟩
    refine OweAllC.cons (owesC_val 0 (by decide +kernel) (by decide) rfl rfl fun k' a w1 x hk ha hG hV => ?_) ?_
    · skip
      have h17 : a.tmps.getD 17 undef = .pointer (some ⟨nd, 0, none⟩) := hV.get 17 (by decide +kernel)
      exact ⟨.pointer (some ⟨nd, 2, none⟩), wanted_free rfl, by simp [execOp, go_sem, h17], rfl⟩
    refine OweAllC.cons (owesC_store 0 rfl rfl rfl fun a w1 x ha hG hx hV => ?_) ?_
    · skip
      have h18 : a.tmps.getD 18 undef = .pointer (some ⟨nd, 2, none⟩) := hV.get 18 (by decide +kernel)
      have h9 : a.tmps.getD 9 undef = .pointer (some ⟨r, 0, none⟩) := hV.get 9 (by decide +kernel)
      have hh := hG.1 rfl
      have c2 : w1.cell? ⟨nd, 2, none⟩ = some a2 := by unfold World.cell?; rw [hh]; rfl
      have f2 := frozen_of_row w1 nd 2 _ 49 hh
      have hs := heap_setCell_same w1 nd 2 _ 49 (.pointer (some ⟨r, 0, none⟩)) hh
      refine ⟨w1.setCell ⟨nd, 2, none⟩ (.pointer (some ⟨r, 0, none⟩)), wanted_free rfl, by simp [execOp, go_sem, h18, h9, c2, f2], (fun h => absurd h (by omega)), fun _ => by rw [hs]; rfl, (fun h => absurd h (by omega)), hG.2.2.2.setCell (fun _ => rfl) _⟩
    refine OweAllC.cons (owesC_val 1 (by decide +kernel) (by decide) rfl rfl fun k' a w1 x hk ha hG hV => ?_) ?_
    · skip
      have h5 : a.tmps.getD 5 undef = .pointer (some ⟨nd, 0, none⟩) := hV.get 5 (by decide +kernel)
      exact ⟨.pointer (some ⟨nd, 0, none⟩), wanted_free rfl, by simp [execOp, go_sem, h5], rfl⟩
    refine OweAllC.cons (owesC_val 1 (by decide +kernel) (by decide) rfl rfl fun k' a w1 x hk ha hG hV => ?_) ?_
    · skip
      have h19 : a.tmps.getD 19 undef = .pointer (some ⟨nd, 0, none⟩) := hV.get 19 (by decide +kernel)
      exact ⟨.pointer (some ⟨nd, 3, none⟩), wanted_free rfl, by simp [execOp, go_sem, h19], rfl⟩
    refine OweAllC.cons (owesC_store 1 rfl rfl rfl fun a w1 x ha hG hx hV => ?_) ?_
    · skip
      have h20 : a.tmps.getD 20 undef = .pointer (some ⟨nd, 3, none⟩) := hV.get 20 (by decide +kernel)
      have h16 : a.tmps.getD 16 undef = .pointer (some ⟨h, 0, none⟩) := hV.get 16 (by decide +kernel)
      have hh := hG.2.1 rfl
      have c3 : w1.cell? ⟨nd, 3, none⟩ = some a3 := by unfold World.cell?; rw [hh]; rfl
      have f3 := frozen_of_row w1 nd 3 _ 49 hh
      have hs := heap_setCell_same w1 nd 3 _ 49 (.pointer (some ⟨h, 0, none⟩)) hh
      refine ⟨w1.setCell ⟨nd, 3, none⟩ (.pointer (some ⟨h, 0, none⟩)), wanted_free rfl, by simp [execOp, go_sem, h20, h16, c3, f3], (fun h => absurd h (by omega)), (fun h => absurd h (by omega)), fun _ => by rw [hs]; rfl, hG.2.2.2.setCell (fun _ => rfl) _⟩
    exact OweAllC.nil
    ) ?_
  intro f wz xz hG hx hv
  first | (rename_i hK; refine hK _ _ ?_; clear hK) | (rename_i hK _; refine hK _ _ ?_; clear hK) | (rename_i hK _ _; refine hK _ _ ?_; clear hK) | (rename_i hK _ _ _; refine hK _ _ ?_; clear hK)
  clear hv hx
  simp only [dsts, puts, List.filterMap_cons, List.filterMap_nil, List.foldl_cons, List.foldl_nil, Act.put, List.setIfInBounds_toArray, List.set_cons_succ, List.set_cons_zero]
  obtain ⟨hN1, hM1⟩ := HB.out wz hG.2.2.2 (hG.2.2.1 rfl)
  have HNM := Lib.hid (And.intro hN1 hM1)
  clear hG hN1 hM1 HB HCR HG0
  try go_wp2_with fail
  have HG1 : Hid ((fun (j : Nat) (_ : Value) (w' : World) => (j = 0 → Nodes w' (nd :: S) kf vf nw1 od1) ∧ (j = 1 → Nodes w' (nd :: S) kf vf nw1 (upd od1 r nd)) ∧ (j = 2 → Nodes w' (nd :: S) kf vf (upd nw1 h nd) (upd od1 r nd)) ∧ Mod (fun i => i ∈ nd :: S) w w') 0 undef wz.drew) := Lib.hid ⟨(fun _ => HNM.out.1), (fun h => absurd h (by omega)), (fun h => absurd h (by omega)), HNM.out.2.drew⟩
  refine CV.wp_region_chain (fun t v => match t with
    | 21 => v = .pointer (some ⟨nd, 0, none⟩)
    | 22 => v = .pointer (some ⟨nd, 0, none⟩)
    | 23 => v = .pointer (some ⟨nd, 2, none⟩)
    | 24 => v = .pointer (some ⟨r, 0, none⟩)
    | 25 => v = .pointer (some ⟨nd, 0, none⟩)
    | 26 => v = .pointer (some ⟨nd, 0, none⟩)
    | 27 => v = .pointer (some ⟨nd, 3, none⟩)
    | 28 => v = .pointer (some ⟨h, 0, none⟩)
    | 29 => v = .pointer (some ⟨nd, 0, none⟩)
    | 30 => v = .pointer (some ⟨nd, 0, none⟩)
    | 31 => v = .pointer (some ⟨r, 0, none⟩)
    | 32 => v = .pointer (some ⟨r, 3, none⟩)
    | 33 => v = .pointer (some ⟨h, 0, none⟩)
    | 34 => v = .pointer (some ⟨h, 2, none⟩)
    | _ => True) (fun (j : Nat) (_ : Value) (w' : World) => (j = 0 → Nodes w' (nd :: S) kf vf nw1 od1) ∧ (j = 1 → Nodes w' (nd :: S) kf vf nw1 (upd od1 r nd)) ∧ (j = 2 → Nodes w' (nd :: S) kf vf (upd nw1 h nd) (upd od1 r nd)) ∧ Mod (fun i => i ∈ nd :: S) w w') [12, 15] 35 (by kernel_rfl) (by decide +kernel) rfl (by decide +kernel) (by decide) (by decide) HG1.out (by
    refine OweAllC.cons (owesC_val 0 (by decide +kernel) (by decide) rfl rfl fun k' a w1 x hk ha hG hV => ?_) ?_
    · skip
      have h1 := ha.outer 1 (by decide +kernel)
      simp only [Act.eval] at h1
      exact ⟨.pointer (some ⟨nd, 0, none⟩), wanted_free rfl, by simp [execOp, go_sem, h1], rfl⟩
    refine OweAllC.cons (owesC_val 0 (by decide +kernel) (by decide) rfl rfl fun k' a w1 x hk ha hG hV => ?_) ?_
    · skip
      have h21 : a.tmps.getD 21 undef = .pointer (some ⟨nd, 0, none⟩) := hV.get 21 (by decide +kernel)
      exact ⟨.pointer (some ⟨nd, 0, none⟩), wanted_free rfl, by simp [execOp, go_sem, h21], rfl⟩
    refine OweAllC.cons (owesC_val 0 (by decide +kernel) (by decide) rfl rfl fun k' a w1 x hk ha hG hV => ?_) ?_
    · skip
      have h22 : a.tmps.getD 22 undef = .pointer (some ⟨nd, 0, none⟩) := hV.get 22 (by decide +kernel)
      exact ⟨.pointer (some ⟨nd, 2, none⟩), wanted_free rfl, by simp [execOp, go_sem, h22], rfl⟩
    refine OweAllC.cons (owesC_val 0 (by decide +kernel) (by decide) rfl rfl fun k' a w1 x hk ha hG hV => ?_) ?_
    · skip
      have h23 : a.tmps.getD 23 undef = .pointer (some ⟨nd, 2, none⟩) := hV.get 23 (by decide +kernel)
      have cc := HCF.out k' x w1 (by omega) hG
      exact ⟨.pointer (some ⟨r, 0, none⟩), wanted_free rfl, by simp [execOp, go_sem, h23, cc.1], rfl⟩
    refine OweAllC.cons (owesC_val 1 (by decide +kernel) (by decide) rfl rfl fun k' a w1 x hk ha hG hV => ?_) ?_
    · skip
      have h1 := ha.outer 1 (by decide +kernel)
      simp only [Act.eval] at h1
      exact ⟨.pointer (some ⟨nd, 0, none⟩), wanted_free rfl, by simp [execOp, go_sem, h1], rfl⟩
    refine OweAllC.cons (owesC_val 1 (by decide +kernel) (by decide) rfl rfl fun k' a w1 x hk ha hG hV => ?_) ?_
    · skip
      have h25 : a.tmps.getD 25 undef = .pointer (some ⟨nd, 0, none⟩) := hV.get 25 (by decide +kernel)
      exact ⟨.pointer (some ⟨nd, 0, none⟩), wanted_free rfl, by simp [execOp, go_sem, h25], rfl⟩
    refine OweAllC.cons (owesC_val 1 (by decide +kernel) (by decide) rfl rfl fun k' a w1 x hk ha hG hV => ?_) ?_
    · skip
      have h26 : a.tmps.getD 26 undef = .pointer (some ⟨nd, 0, none⟩) := hV.get 26 (by decide +kernel)
      exact ⟨.pointer (some ⟨nd, 3, none⟩), wanted_free rfl, by simp [execOp, go_sem, h26], rfl⟩
    refine OweAllC.cons (owesC_val 1 (by decide +kernel) (by decide) rfl rfl fun k' a w1 x hk ha hG hV => ?_) ?_
    · skip
      have h27 : a.tmps.getD 27 undef = .pointer (some ⟨nd, 3, none⟩) := hV.get 27 (by decide +kernel)
      have cc := HCF.out k' x w1 (by omega) hG
      exact ⟨.pointer (some ⟨h, 0, none⟩), wanted_free rfl, by simp [execOp, go_sem, h27, cc.2], rfl⟩
    refine OweAllC.cons (owesC_val 0 (by decide +kernel) (by decide) rfl rfl fun k' a w1 x hk ha hG hV => ?_) ?_
    · skip
      have h1 := ha.outer 1 (by decide +kernel)
      simp only [Act.eval] at h1
      exact ⟨.pointer (some ⟨nd, 0, none⟩), wanted_free rfl, by simp [execOp, go_sem, h1], rfl⟩
    refine OweAllC.cons (owesC_val 1 (by decide +kernel) (by decide) rfl rfl fun k' a w1 x hk ha hG hV => ?_) ?_
    · skip
      have h1 := ha.outer 1 (by decide +kernel)
      simp only [Act.eval] at h1
      exact ⟨.pointer (some ⟨nd, 0, none⟩), wanted_free rfl, by simp [execOp, go_sem, h1], rfl⟩
    refine OweAllC.cons (owesC_val 0 (by decide +kernel) (by decide) rfl rfl fun k' a w1 x hk ha hG hV => ?_) ?_
    · skip
      have h24 : a.tmps.getD 24 undef = .pointer (some ⟨r, 0, none⟩) := hV.get 24 (by decide +kernel)
      exact ⟨.pointer (some ⟨r, 0, none⟩), wanted_free rfl, by simp [execOp, go_sem, h24], rfl⟩
    refine OweAllC.cons (owesC_val 0 (by decide +kernel) (by decide) rfl rfl fun k' a w1 x hk ha hG hV => ?_) ?_
    · skip
      have h31 : a.tmps.getD 31 undef = .pointer (some ⟨r, 0, none⟩) := hV.get 31 (by decide +kernel)
      exact ⟨.pointer (some ⟨r, 3, none⟩), wanted_free rfl, by simp [execOp, go_sem, h31], rfl⟩
    refine OweAllC.cons (owesC_store 0 rfl rfl rfl fun a w1 x ha hG hx hV => ?_) ?_
    · skip
      have h32 : a.tmps.getD 32 undef = .pointer (some ⟨r, 3, none⟩) := hV.get 32 (by decide +kernel)
      have h29 : a.tmps.getD 29 undef = .pointer (some ⟨nd, 0, none⟩) := hV.get 29 (by decide +kernel)
      have hN := hG.1 rfl
      have hm := HR.out
      have c3 := (hN.cell hm).2.2.2
      have f3 := hN.froz hm 3
      refine ⟨w1.setCell ⟨r, 3, none⟩ (.pointer (some ⟨nd, 0, none⟩)), wanted_free rfl, by simp [execOp, go_sem, h32, h29, c3, f3], (fun h => absurd h (by omega)), fun _ => hN.setOd r nd, (fun h => absurd h (by omega)), hG.2.2.2.setCell (fun _ => hm) _⟩
    refine OweAllC.cons (owesC_val 1 (by decide +kernel) (by decide) rfl rfl fun k' a w1 x hk ha hG hV => ?_) ?_
    · skip
      have h28 : a.tmps.getD 28 undef = .pointer (some ⟨h, 0, none⟩) := hV.get 28 (by decide +kernel)
      exact ⟨.pointer (some ⟨h, 0, none⟩), wanted_free rfl, by simp [execOp, go_sem, h28], rfl⟩
    refine OweAllC.cons (owesC_val 1 (by decide +kernel) (by decide) rfl rfl fun k' a w1 x hk ha hG hV => ?_) ?_
    · skip
      have h33 : a.tmps.getD 33 undef = .pointer (some ⟨h, 0, none⟩) := hV.get 33 (by decide +kernel)
      exact ⟨.pointer (some ⟨h, 2, none⟩), wanted_free rfl, by simp [execOp, go_sem, h33], rfl⟩
    refine OweAllC.cons (owesC_store 1 rfl rfl rfl fun a w1 x ha hG hx hV => ?_) ?_
    · skip
      have h34 : a.tmps.getD 34 undef = .pointer (some ⟨h, 2, none⟩) := hV.get 34 (by decide +kernel)
      have h30 : a.tmps.getD 30 undef = .pointer (some ⟨nd, 0, none⟩) := hV.get 30 (by decide +kernel)
      have hN := hG.2.1 rfl
      have hm := HHH.out
      have c2 := (hN.cell hm).2.2.1
      have f2 := hN.froz hm 2
      refine ⟨w1.setCell ⟨h, 2, none⟩ (.pointer (some ⟨nd, 0, none⟩)), wanted_free rfl, by simp [execOp, go_sem, h34, h30, c2, f2], (fun h => absurd h (by omega)), (fun h => absurd h (by omega)), fun _ => hN.setNw h nd, hG.2.2.2.setCell (fun _ => hm) _⟩
    exact OweAllC.nil
    ) ?_
  intro f wz xz hG hx hv
  clear hv hx
  have HE := Lib.hid (And.intro (hG.2.2.1 rfl) hG.2.2.2)
  clear hG
  go_end0
  exact ⟨rfl, HE.out.1, HE.out.2⟩
end Go.Proofs.Ytdiiechkhlbkcab
