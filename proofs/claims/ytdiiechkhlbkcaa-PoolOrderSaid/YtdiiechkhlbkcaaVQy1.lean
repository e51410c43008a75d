/- Texts 1: what the laws lean on. -/
import Derived.WalkKit
import Derived.WalkSpells
import Derived.WalkLawsBesides
import Derived.Lib.Hide
import Derived.Laws.BytesArg
import Derived.Deep.RegionLaw
import Derived.Maps.RangeWalk
import Derived.Maps.OwnSet
import Derived.Sort.KeysCollected
import Derived.Deep.AppendLies
import Derived.Test.YtdiiechkhlbkcaaProg
import Derived.Lib.Bytealg
import Derived.Test.YtdiiechkhlbkcaaSort
import Derived.Test.YtdiiechkhlbkcaaShelf
import Derived.LoopTactic
import Derived.Orders
import Derived.Tactics
import Derived.Deep.CutBlock
import Derived.Deep.DeepCutAuto
namespace Go.Proofs.Ytdiiechkhlbkcaa
open Go.RowKit

/-- Of the old blocks only those of S may have turned. -/
structure Mod (S : Nat → Prop) (w w' : World) : Prop where
  os : w'.os = w.os
  tape : w'.tape = w.tape
  output : w'.output = w.output
  size : w.heap.size ≤ w'.heap.size
  block : ∀ k, k < w.heap.size → ¬ S k → w'.heap[k]? = w.heap[k]?

theorem Mod.refl (S : Nat → Prop) (w : World) : Mod S w w := ⟨rfl, rfl, rfl, Nat.le_refl _, fun _ _ _ => rfl⟩
theorem Mod.trans {S T : Nat → Prop} {a b c : World} (h : Mod S a b) (k : Mod T b c) (hs : ∀ i, i < a.heap.size → T i → S i) : Mod S a c :=
  ⟨k.os.trans h.os, k.tape.trans h.tape, k.output.trans h.output, Nat.le_trans h.size k.size,
    fun i hi hn => (k.block i (Nat.lt_of_lt_of_le hi h.size) (fun ht => hn (hs i hi ht))).trans (h.block i hi hn)⟩
theorem Mod.mono {S T : Nat → Prop} {a b : World} (h : Mod S a b) (hs : ∀ i, i < a.heap.size → S i → T i) : Mod T a b :=
  ⟨h.os, h.tape, h.output, h.size, fun i hi hn => h.block i hi (fun hS => hn (hs i hi hS))⟩
theorem Mod.drew {S : Nat → Prop} {a w : World} (h : Mod S a w) : Mod S a w.drew := ⟨h.os, h.tape, h.output, h.size, h.block⟩
theorem Mod.drewN {S : Nat → Prop} {a w : World} (h : Mod S a w) (n : Nat) : Mod S a (w.drewN n) := ⟨h.os, h.tape, h.output, h.size, h.block⟩
theorem Mod.setRow {S : Nat → Prop} {a w : World} (h : Mod S a w) {g : Nat} (cs : Array Value) : Mod (fun k => S k ∨ k = g) a (w.setRow g cs) :=
  ⟨h.os, h.tape, h.output, by have := h.size; simp [World.setRow]; omega, fun i hi hn => (setRow_other w g i _ (fun e => hn (Or.inr e))).trans (h.block i hi (fun hS => hn (Or.inl hS)))⟩
/-- What was written anew alone. -/
theorem Mod.drop_new {S : Nat → Prop} {a b : World} {g : Nat} (h : Mod (fun k => S k ∨ k = g) a b) (hg : a.heap.size ≤ g) : Mod S a b :=
  h.mono (fun i hi h => h.elim id (fun e => by omega))
theorem Mod.alloc {S : Nat → Prop} {a w : World} (h : Mod S a w) (o : Obj) : Mod S a (w.alloc o) :=
  ⟨h.os, h.tape, h.output, by have := h.size; simp; omega, fun i hi hn => (Below.heap_alloc _ _ _ (Nat.lt_of_lt_of_le hi h.size)).trans (h.block i hi hn)⟩
theorem Mod.setCell {S : Nat → Prop} {a w : World} (h : Mod S a w) {p : Addr} (hp : p.block < a.heap.size → S p.block) (u : Value) : Mod S a (w.setCell p u) :=
  ⟨h.os, h.tape, h.output, by have := h.size; simp [World.setCell]; omega, fun i hi hn => (Below.heap_setCell _ _ _ _ (fun e => hn (by subst e; exact hp hi))).trans (h.block i hi hn)⟩
theorem Mod.grown {S : Nat → Prop} {a w w' : World} {row : Option Nat} (h : Mod S a w) (hg : w.grownBy w' row) (hr : ∀ k, row = some k → k < a.heap.size → S k) : Mod S a w' :=
  ⟨hg.os.trans h.os, hg.tape.trans h.tape, hg.output.trans h.output, Nat.le_trans h.size hg.size,
    fun i hi hn => (hg.block i (Nat.lt_of_lt_of_le hi h.size) (fun e => hn (hr i e.symm hi))).trans (h.block i hi hn)⟩
theorem Mod.of_below {B : Nat} {w w' : World} (h : Below B w w') : Mod (fun k => B ≤ k) w w' :=
  ⟨h.os, h.tape, h.output, h.size, fun k _ hn => h.block k (by omega)⟩
theorem Mod.to_below {S : Nat → Prop} {w w' : World} {B : Nat} (h : Mod S w w') (hB : B ≤ w.heap.size) (hS : ∀ k, k < B → ¬ S k) : Below B w w' :=
  ⟨h.os, h.tape, h.output, h.size, fun k hk => h.block k (by omega) (hS k hk)⟩

def vals (bs : List UInt8) : List Value := bs.map fun b => Value.int .u8 b.toNat
theorem vals_len (bs : List UInt8) : (vals bs).length = bs.length := by simp [vals]
theorem vals_app (a b : List UInt8) : vals (a ++ b) = vals a ++ vals b := by simp [vals]

/-- Block b is a struct of one field, a slice value v that owns the bytes bs in a row of its own. -/
structure OutAt (T E : TypeId) (w : World) (b : Nat) (v : Value) (bs : List UInt8) : Prop where
  blk : w.heap[b]? = some (.cells #[v] T (0, 0))
  own : w.ownsRow 0 E 1 v bs.length (vals bs)
  ne : v.ownBlock ≠ some b

theorem OutAt.cell {T E : TypeId} {w : World} {b : Nat} {v : Value} {bs : List UInt8} (h : OutAt T E w b v bs) : w.cell? ⟨b, 0, none⟩ = some v := by
  unfold World.cell?; rw [h.blk]; rfl
theorem OutAt.froz {T E : TypeId} {w : World} {b : Nat} {v : Value} {bs : List UInt8} (h : OutAt T E w b v bs) : w.frozen? ⟨b, 0, none⟩ = false := by
  unfold World.frozen?; rw [h.blk]; rfl
theorem OutAt.lt {T E : TypeId} {w : World} {b : Nat} {v : Value} {bs : List UInt8} (h : OutAt T E w b v bs) : b < w.heap.size := (Array.getElem?_eq_some_iff.1 h.blk).1
theorem OutAt.fresh {T E : TypeId} (w : World) : OutAt T E (w.alloc (.cells #[.slice none 0 0] T)) w.heap.size (.slice none 0 0) [] :=
  ⟨heap_alloc_new w _, World.ownsRow_nil _ _ _ _, by simp [Value.ownBlock]⟩
theorem OutAt.kept {T E : TypeId} {w w' : World} {b : Nat} {v : Value} {bs : List UInt8} {S : Nat → Prop} (h : OutAt T E w b v bs) (hm : Mod S w w') (hb : ¬ S b) (hv : ∀ k, v.ownBlock = some k → ¬ S k) : OutAt T E w' b v bs := by
  refine ⟨(hm.block b h.lt hb).trans h.blk, ⟨h.own.1, ?_⟩, h.ne⟩
  rcases h.own.2 with hn | ⟨g, cap, cur, rfl, hg, hh, r⟩
  · exact .inl hn
  · exact .inr ⟨g, cap, cur, rfl, hg, (hm.block g (Array.getElem?_eq_some_iff.1 hh).1 (hv g rfl)).trans hh, r⟩

theorem OutAt.alloc {T E : TypeId} {w : World} {b : Nat} {v : Value} {bs : List UInt8} (h : OutAt T E w b v bs) (o : Obj) : OutAt T E (w.alloc o) b v bs :=
  h.kept ((Mod.refl (fun _ => False) w).alloc o) (fun h => h) (fun _ _ h => h)

/-- The struct's field is stored anew: a slice value that owns more. -/
theorem OutAt.store {T E : TypeId} {w w1 : World} {b : Nat} {v v1 : Value} {bs bs1 : List UInt8} (h : OutAt T E w b v bs) (hg : w.grownBy w1 v.ownBlock) (hown : w1.ownsRow 0 E 1 v1 bs1.length (vals bs1)) (hne : v1.ownBlock ≠ some b) :
    OutAt T E (w1.setCell ⟨b, 0, none⟩ v1) b v1 bs1 := by
  have hb : w1.heap[b]? = some (.cells #[v] T (0, 0)) := (hg.block b h.lt (fun e => h.ne e.symm)).trans h.blk
  refine ⟨?_, ⟨hown.1, ?_⟩, hne⟩
  · have := heap_setCell_same w1 b 0 #[v] T v1 hb
    simpa using this
  · rcases hown.2 with hn | ⟨g, cap, cur, rfl, hg', hh, r⟩
    · exact .inl hn
    · refine .inr ⟨g, cap, cur, rfl, hg', ?_, r⟩
      rw [Below.heap_setCell _ _ _ _ (by intro e; exact hne (by simp [Value.ownBlock, e]))]
      exact hh

/-- A slice value that owns something shows its address. -/
theorem ownsRow_shape {w : World} {base e size n : Nat} {v : Value} {xs : List Value} (h : w.ownsRow base e size v n xs) (hn : 0 < n) : ∃ g cap, v = .slice (some ⟨g, 0, none⟩) n cap := by
  rcases h.2 with ⟨_, h0⟩ | ⟨g, cap, _, hv, _⟩
  · omega
  · exact ⟨g, cap, hv⟩

/-- An append to an owned row, as a step of a region that draws. -/
theorem step_append_own {P : Program} {ops : Array Oper} {o : Oper} {a : Act} {w : World} {K : Act → World → Prop} {Q : Exit → Act → World → Prop} {E : Prop}
    (hgd : o.guard = none) (s x : Operand) (t : TypeId)
    (ho : o.op = .call { callee := .builtin .append, args := #[s, x], argTypes := #[t, t] })
    (base : Nat) (e : TypeId) (i : TypeInfo) (z : Value) (size bytes : Nat) (ht : P.underlying t = some (.slice e)) (hi : P.info? e = some i) (hz : i.zero = some z)
    (hsize : i.size = size) (hby : i.bytes = bytes) (hzs : z.cells.size = size) (hsz : 0 < size)
    (v : Value) (n : Nat) (xs : List Value) (hs : a.eval s = v) (hown : w.ownsRow base e size v n xs)
    (ad : Addr) (m c : Nat) (news : List Value) (hx : a.eval x = .slice (some ad) m c) (hl : news.length = m * size) (hnews : ∀ j u, news[j]? = some u → w.cell? (ad.add j) = some u) (h1 : ∀ u ∈ news, u.oneCell' = true)
    (h63 : n + m ≤ maxLen) (hbytes : (n + m) * bytes ≤ 140737488355328) (hbase : base ≤ w.heap.size)
    (h : ∀ v' w', w'.ownsRow base e size v' (n + m) (xs ++ news) → w.grownBy w' v.ownBlock → (v' = .slice none 0 0 ↔ v = .slice none 0 0 ∧ m = 0) → K (a.put o.dst v') w') :
    if Region.wanted o (yielded ops a.tmps) = true then Oper.wp P o a w K Q else E := by
  have hw : Region.wanted o (yielded ops a.tmps) = true := by simp [Region.wanted, hgd]
  rw [if_pos hw]
  exact wp_append_own w s x t ho base e i z size bytes ht hi hz hsize hby hzs hsz v n xs hs hown ad m c news hx hl hnews h1 h63 hbytes hbase h

theorem bapp1 (a : UInt8) (l : List UInt8) : (ByteArray.mk #[a] ++ ByteArray.mk l.toArray) = ByteArray.mk (a :: l).toArray := ByteArray.mk_append_mk [a] l
theorem ret_str {a b : ByteArray} (h : a = b) : Ending.returned (.string a) = .returned (.string b) := by rw [h]
theorem val_str {a b : ByteArray} (h : a = b) : Value.string a = .string b := by rw [h]
theorem val_int {k : IntKind} {a b : Int} (h : a = b) : Value.int k a = .int k b := by rw [h]
theorem ret_int {k : IntKind} {a b : Int} (h : a = b) : Ending.returned (.int k a) = .returned (.int k b) := by rw [h]

theorem convLit1 {P : Program} (src dst e : TypeId) (hs : P.underlying src = some (.slice e)) (he : P.underlying e = some (.int .u8)) (hd : P.underlying dst = some .string) (w : World) (x : Int) :
    (convert src dst (.slice (some ⟨w.heap.size, 0, none⟩) 1 1)).run P (w.alloc (.cells #[.int .u8 x] e)) = .ok (.string ⟨#[UInt8.ofNat x.toNat]⟩) (w.alloc (.cells #[.int .u8 x] e)) := by
  have h := run_convert_bytes_arg (P := P) (w.alloc (.cells #[.int .u8 x] e)) src e hs he w.heap.size 0 1 1 [x] rfl (fun i hi => by
    obtain rfl : i = 0 := by omega
    unfold World.cell?
    rw [heap_alloc_new]
    rfl) dst hd
  simpa [strOfNums] using h

/-- The old world's name is kept. -/
theorem Lib.flip {P : Program} {f : FuncId} {args : Array Value} {w : World} {v : Ending} (h : Calls P f args w fun e w' => e = v ∧ w' = w) : Calls P f args w fun e w' => e = v ∧ w = w' :=
  h.mono fun _ _ ⟨a, b⟩ => ⟨a, b.symm⟩

/-- A shift to the right of a number from 0 on. -/
theorem shr_nat {P : Program} (k j : IntKind) (n s : Nat) (w : World) (hs : s ≤ k.bits) : (Op.shift .shr k (n : Int) j (s : Int)).run P w = .ok (.int k ((n / 2 ^ s : Nat) : Int)) w := by
  have h0 : ¬ ((s : Int) < 0) := by omega
  have hm : min ((s : Int)).toNat k.bits = s := by rw [Int.toNat_natCast]; exact Nat.min_eq_left hs
  unfold Op.shift
  rw [if_neg h0]
  simp only [hm]
  have : (n : Int).fdiv (2 ^ s) = ((n / 2 ^ s : Nat) : Int) := by
    rw [Int.fdiv_eq_ediv_of_nonneg _ (by exact_mod_cast Nat.zero_le (2 ^ s))]
    push_cast
    rfl
  rw [this]
  rfl

/-- A whole variable is stored: an array or a struct by value. -/
theorem wp_store_row {P : Program} {o : Oper} {a : Act} {w : World} {K : Act → World → Prop} {Q : Exit → Act → World → Prop} (ty : TypeId) (x y : Operand) (ho : o.op = .store ty x y)
    (g : Nat) (hx : a.eval x = .pointer (some ⟨g, 0, none⟩)) (t : TypeId) (old cs : Array Value) (hy : a.eval y = .agg cs) (hg : w.heap[g]? = some (.cells old t (0, 0))) (hsz : old.size = cs.size)
    (hi : (P.info? ty).map (·.size) = some cs.size) (h1 : ∀ v ∈ cs.toList, v.oneCell' = true)
    (h : K (a.put o.dst undef) (w.setRow g cs)) : o.wp P a w K Q := by
  have hst := run_storeCells_at P g 0 t cs.toList 0 old w hg (by simp; omega) h1
  have e : (old.toList.take (0 + 0) ++ cs.toList ++ old.toList.drop (0 + 0 + cs.toList.length)).toArray = cs := by
    have : old.toList.drop (0 + 0 + cs.toList.length) = [] := List.drop_eq_nil_of_le (by simp; omega)
    rw [this]; simp
  rw [e] at hst
  cases hq : P.info? ty with
  | none => simp [hq] at hi
  | some i =>
    have hs : i.size = cs.size := by simpa [hq] using hi
    have hv : (storeVar ty ⟨g, 0, none⟩ (.agg cs)).run P w = .ok () (w.setRow g cs) := by
      simp [storeVar, sizeOf, typeInfo, hq, hs, Value.cells, hst]
    unfold Oper.wp execOp
    simp only [ho, hx, hy, Instr.storeAt, Instr.sureAddr, Sem.run_bind, Sem.run_pure, Result.andThen_ok, hv]
    exact h

theorem wpList_store_row {P : Program} {ops : Array Oper} {rest : List Oper} {o : Oper} {a : Act} {w : World} {Q : Exit → Act → World → Prop} (hgd : o.guard = none) (hdst : o.dst = none) (ty : TypeId) (x y : Operand) (ho : o.op = .store ty x y)
    (g : Nat) (hx : a.eval x = .pointer (some ⟨g, 0, none⟩)) (t : TypeId) (old cs : Array Value) (hy : a.eval y = .agg cs) (hg : w.heap[g]? = some (.cells old t (0, 0))) (hsz : old.size = cs.size)
    (hi : (P.info? ty).map (·.size) = some cs.size) (h1 : ∀ v ∈ cs.toList, v.oneCell' = true)
    (h : wpList P ops Q rest a (w.setRow g cs)) : wpList P ops Q (o :: rest) a w :=
  wpList_plain hgd fun _ hK => wp_store_row ty x y ho g hx t old cs hy hg hsz hi h1 (hK _ _ (by rw [hdst]; exact h))

/-- Numbers as cells. -/
def nums (k : IntKind) (A : List Nat) : List Value := A.map fun (x : Nat) => Value.int k (x : Int)
theorem nums_len (k : IntKind) (A : List Nat) : (nums k A).length = A.length := by simp [nums]
theorem nums_one (k : IntKind) (A : List Nat) : ∀ v ∈ nums k A, v.oneCell' = true := by
  intro v hv; obtain ⟨x, _, rfl⟩ := List.mem_map.1 hv; rfl
theorem nums_get (k : IntKind) (A : List Nat) (i : Nat) (h : i < A.length) : (nums k A)[i]? = some (.int k (A[i]'h)) := by simp [nums, h]
theorem nums_set (k : IntKind) (A : List Nat) (i x : Nat) : (nums k A).set i (.int k x) = nums k (A.set i x) := by simp [nums, List.map_set]

/-- A block of numbers. -/
def RowAt (k : IntKind) (T : TypeId) (w : World) (g : Nat) (A : List Nat) : Prop := w.heap[g]? = some (.cells (nums k A).toArray T (0, 0))
theorem RowAt.cell {k : IntKind} {T : TypeId} {w : World} {g : Nat} {A : List Nat} (h : RowAt k T w g A) (i : Nat) (hi : i < A.length) : w.cell? ⟨g, i, none⟩ = some (.int k (A[i]'hi)) := by
  rw [cell_of_row w g i _ T (0, 0) h]; simpa using nums_get k A i hi
theorem RowAt.froz {k : IntKind} {T : TypeId} {w : World} {g : Nat} {A : List Nat} (h : RowAt k T w g A) (i : Nat) : w.frozen? ⟨g, i, none⟩ = false := frozen_of_row w g i _ T h
theorem RowAt.lt {k : IntKind} {T : TypeId} {w : World} {g : Nat} {A : List Nat} (h : RowAt k T w g A) : g < w.heap.size := (Array.getElem?_eq_some_iff.1 h).1
theorem RowAt.set {k : IntKind} {T : TypeId} {w : World} {g : Nat} {A : List Nat} (h : RowAt k T w g A) (i x : Nat) : RowAt k T (w.setCell ⟨g, i, none⟩ (.int k x)) g (A.set i x) := by
  have := heap_setCell_same w g i _ T (.int k x) h
  unfold RowAt
  rw [this, ← nums_set]
  simp
theorem RowAt.kept {k : IntKind} {T : TypeId} {w w' : World} {g : Nat} {A : List Nat} {S : Nat → Prop} (h : RowAt k T w g A) (hm : Mod S w w') (hg : ¬ S g) : RowAt k T w' g A := (hm.block g h.lt hg).trans h

/-- An array of numbers, by value, indexed. -/
theorem run_index_nums {P : Program} (T E : TypeId) (len : Nat) (k : IntKind) (A : List Nat) (i : Nat) (hi : i < A.length) (hT : P.underlying T = some (.array len E)) (hl : A.length = len)
    (hE : P.underlying E = some (.int k)) (hs : (P.info? E).map (·.size) = some 1) (w : World) :
    (Instr.index T (.agg (nums k A).toArray) (.int .i64 (i : Int))).run P w = .ok (.int k (A[i]'hi)) w := by
  have h1 : (0 : Int) ≤ i ∧ (i : Int) < len := by omega
  cases hq : P.info? E with
  | none => simp [hq] at hs
  | some j =>
    have hj : j.size = 1 := by simpa [hq] using hs
    have hg := nums_get k A i hi
    unfold Instr.index
    simp only [asIntOf, Sem.run_bind, Sem.run_pure, Result.andThen_ok, run_underlying hT]
    rw [if_pos h1]
    simp [sizeOf, typeInfo, hq, hj, part, isAgg, run_underlying hE, hg]
end Go.Proofs.Ytdiiechkhlbkcaa

namespace Go.Proofs.Ytdiiechkhlbkcaa
open Go.RowKit Go.ChangeMaps Go.WideShapes

/-- Whatever an element is, it reads as itself. -/
abbrev RV : Value → Option (DataW Value × List MemPlace) := fun v => some (.held v, [])
abbrev Ent := List UInt8 × Value
def entL (x : Ent) : Lit × DataW Value := (.string x.1, .held x.2)
def esOf (L : List Ent) : List (Lit × DataW Value) := (L.map entL).foldr DataW.insert []
def dOf (L : List Ent) : DataW Value := .map (esOf L)
def Apart (L : List Ent) : Prop := L.Pairwise fun x y => x.1 ≠ y.1
/-- Without a key. -/
def without (k : List UInt8) (L : List Ent) : List Ent := L.filter fun x => x.1 != k
def hasK (k : List UInt8) (L : List Ent) : Bool := L.any fun x => x.1 == k
def getK (k : List UInt8) (L : List Ent) (z : Value) : Value := match L.find? fun x => x.1 == k with | some x => x.2 | none => z

theorem Apart.perm {L L' : List Ent} (h : Apart L) (hp : L.Perm L') : Apart L' := (hp.pairwise_iff (fun {_ _} h => Ne.symm h)).1 h
theorem Apart.without {L : List Ent} (h : Apart L) (k : List UInt8) : Apart (without k L) := h.filter _
theorem Apart.cons {L : List Ent} (h : Apart L) (k : List UInt8) (v : Value) : Apart ((k, v) :: Go.Proofs.Ytdiiechkhlbkcaa.without k L) :=
  List.pairwise_cons.2 ⟨fun y hy => by have := (List.mem_filter.1 hy).2; simp at this; exact fun e => this e.symm, h.without k⟩
theorem strKeys_ent (L : List Ent) : StrKeys (L.map entL) := by
  intro p hp; obtain ⟨x, _, rfl⟩ := List.mem_map.1 hp; exact ⟨x.1, rfl⟩
theorem apart_ent {L : List Ent} (h : Apart L) : (L.map entL).Pairwise (fun p q => p.1 ≠ q.1) := by
  rw [List.pairwise_map]
  exact h.imp (fun {a b} hn e => hn (by simpa [entL] using e))
theorem esOf_perm {L L' : List Ent} (h : Apart L) (hp : L.Perm L') : esOf L = esOf L' := by
  refine eq_of_perm_sorted ?_ (sorted_sorted _ (strKeys_ent L) (apart_ent h)) (sorted_sorted _ (strKeys_ent L') (apart_ent (h.perm hp)))
  exact (sorted_perm _).trans ((hp.map entL).trans (sorted_perm _).symm)
theorem dOf_perm {L L' : List Ent} (h : Apart L) (hp : L.Perm L') : dOf L = dOf L' := by unfold dOf; rw [esOf_perm h hp]
theorem same_str (a b : List UInt8) : Lit.sameKey (.string a) (.string b) = (a == b) := by simp [Lit.sameKey]
theorem notKey_ent (k : List UInt8) (L : List Ent) : (L.map entL).filter (notKey (.string k)) = (without k L).map entL := by
  rw [List.filter_map]
  congr 1
theorem del_dOf {L L' : List Ent} (h : Apart L) (k : List UInt8) (hp : L'.Perm (without k L)) : (dOf L).del (.string k) = dOf L' := by
  have := (sorted_del (k := .string k) (E' := L'.map entL) (strKeys_ent L) (apart_ent h) (by rw [notKey_ent]; exact hp.map entL)).1
  unfold dOf esOf
  rw [DataW.del_eq, this]
theorem put_dOf {L L' : List Ent} (h : Apart L) (k : List UInt8) (v : Value) (hp : L'.Perm ((k, v) :: without k L)) : (dOf L).put (.string k) (.held v) = dOf L' := by
  have := (sorted_put (k := .string k) (d := .held v) (E' := L'.map entL) ⟨k, rfl⟩ (strKeys_ent L) (apart_ent h) (by rw [notKey_ent]; exact hp.map entL)).1
  unfold dOf esOf
  rw [DataW.put_eq, this]
theorem any_esOf (f : Lit × DataW Value → Bool) (L : List Ent) : (esOf L).any f = L.any fun x => f (entL x) := by
  induction L with
  | nil => rfl
  | cons x l ih => show (DataW.insert (entL x) (esOf l)).any f = _; rw [Maps.any_insert, ih]; rfl
theorem has_dOf (L : List Ent) (k : List UInt8) : Maps.has (dOf L) (.string k) = hasK k L := by
  show (esOf L).any _ = _
  rw [any_esOf]
  unfold hasK
  congr 1
theorem size_dOf (L : List Ent) : Maps.size (dOf L) = L.length := by
  show (esOf L).length = _
  unfold esOf
  rw [length_sorted, List.length_map]
theorem find_esOf (k : List UInt8) : ∀ L : List Ent, Apart L → (esOf L).find? (fun p => p.1.sameKey (.string k)) = (L.find? fun x => x.1 == k).map entL
  | [], _ => rfl
  | x :: l, h => by
    obtain ⟨h1, h2⟩ := List.pairwise_cons.1 h
    show (DataW.insert (entL x) (esOf l)).find? _ = _
    by_cases hk : x.1 = k
    · have hx : (fun p : Lit × DataW Value => p.1.sameKey (.string k)) (entL x) = true := by simp [entL, Lit.sameKey, hk]
      rw [Maps.find_insert_hit hx]
      · simp [hk]
      · intro p hp
        obtain ⟨y, hy, rfl⟩ := List.mem_map.1 ((sorted_perm _).mem_iff.1 hp)
        have := h1 y hy
        rw [hk] at this
        simp [entL, Lit.sameKey]; exact fun e => this e.symm
    · have hx : (fun p : Lit × DataW Value => p.1.sameKey (.string k)) (entL x) = false := by simp [entL, Lit.sameKey, hk]
      rw [Maps.find_insert_miss hx, find_esOf k l h2, List.find?_cons_of_neg (by simpa using hk)]
theorem atKey_dOf {L : List Ent} (h : Apart L) (k : List UInt8) (z : Value) : (dOf L).atKey (.string k) (.held z) = .held (getK k L z) := by
  unfold DataW.atKey dOf getK
  simp only [find_esOf k L h]
  cases L.find? fun x => x.1 == k <;> rfl
theorem strKeys_dOf (L : List Ent) : (strKeys (dOf L)).Perm (L.map (·.1)) := by
  show ((esOf L).map fun p => strOf p.1).Perm _
  refine ((sorted_perm _).map _).trans ?_
  rw [List.map_map]
  exact .refl _

/-- Block b is a map of just these entries. -/
structure MapAt (P : Program) (K : TypeId) (w : World) (b : Nat) (L : List Ent) : Prop where
  ap : Apart L
  le : ∀ x ∈ L, x.1.length ≤ maxLen
  own : w.ownsMap P K RV b L.length (dOf L)

section
variable {P : Program} {K : TypeId} {w w' : World} {b : Nat} {L : List Ent}
theorem ownsMap_tight {n : Nat} (h : w.ownsMap P K RV b n (dOf L)) : w.ownsMap P K RV b L.length (dOf L) := by
  obtain ⟨es, clock, hb, F, hs, hD⟩ := h
  refine ⟨es, clock, hb, F, ?_, hD⟩
  have := congrArg Maps.size hD
  rw [size_dOf] at this
  simp [Maps.size, length_sorted] at this
  omega
theorem MapAt.lt (h : MapAt P K w b L) : b < w.heap.size := h.own.lt
theorem MapAt.perm (h : MapAt P K w b L) {L' : List Ent} (hp : L.Perm L') : MapAt P K w b L' :=
  ⟨h.ap.perm hp, fun x hx => h.le x (hp.mem_iff.2 hx), by rw [← dOf_perm h.ap hp, ← hp.length_eq]; exact h.own⟩
theorem MapAt.same (h : MapAt P K w b L) (hb : w'.heap[b]? = w.heap[b]?) : MapAt P K w' b L := by
  refine ⟨h.ap, h.le, ?_⟩
  obtain ⟨es, clock, hh, r⟩ := h.own
  exact ⟨es, clock, hb.trans hh, r⟩
theorem MapAt.kept {S : Nat → Prop} (h : MapAt P K w b L) (hm : Mod S w w') (hb : ¬ S b) : MapAt P K w' b L := h.same (hm.block b h.lt hb)
theorem MapAt.old (h : MapAt P K w b L) (hb : Below w.heap.size w w') : MapAt P K w' b L := h.same (hb.block b h.lt)
theorem MapAt.notCells (h : MapAt P K w b L) {g : Nat} {cs : Array Value} {T : TypeId} {fr : Nat × Nat} (hg : w.heap[g]? = some (.cells cs T fr)) : g ≠ b := by
  rintro rfl
  obtain ⟨es, clock, hh, _⟩ := h.own
  rw [hh] at hg; cases hg
theorem MapAt.made (P : Program) (K : TypeId) (w : World) : MapAt P K (w.alloc (.map #[] 0)) w.heap.size [] :=
  ⟨List.Pairwise.nil, (fun _ h => by cases h), World.ownsMap_made w P K RV⟩
theorem Mod.turned (h : w.mapTurned w' b) : Mod (fun k => k = b) w w' := by
  have hg := h.grown
  exact ⟨hg.os, hg.tape, hg.output, hg.size, fun k hk hn => hg.block k hk (fun e => hn (Option.some.inj e))⟩
theorem keyStr (hK : P.underlying K = some .string) (k : List UInt8) (hk : k.length ≤ maxLen) : keyOf P K (.string ⟨k.toArray⟩) = some (.string k) := by
  simp [keyOf, hK, mapKey, ByteArray.size, hk]
variable {t e : TypeId}
theorem MapAt.len (h : MapAt P K w b L) (ht : P.underlying t = some (.map K e)) (ty : TypeId) : (Builtin.len_ #[t] ty #[.map (some b)]).run P w = .ok (.int .i64 (L.length : Nat)) w := by
  rw [h.own.len ht ty, size_dOf]
theorem MapAt.look (h : MapAt P K w b L) (hK : P.underlying K = some .string) (ht : P.underlying t = some (.map K e)) {z : Value} (hz : (zeroValue e).run P w = .ok z w) (k : List UInt8) (hk : k.length ≤ maxLen) :
    (Instr.lookup t (.map (some b)) (.string ⟨k.toArray⟩) false).run P w = .ok (getK k L z) w := by
  obtain ⟨v, ps, hr, hv⟩ := h.own.lookup (Maps.string_keyed hK) ht hz (zd := .held z) (zp := []) rfl (keyStr hK k hk)
  rw [atKey_dOf h.ap] at hv
  simp only [Option.some.injEq, Prod.mk.injEq, DataW.held.injEq] at hv
  rw [hr, hv.1]
theorem MapAt.look_ok (h : MapAt P K w b L) (hK : P.underlying K = some .string) (ht : P.underlying t = some (.map K e)) {z : Value} (hz : (zeroValue e).run P w = .ok z w) (k : List UInt8) (hk : k.length ≤ maxLen) :
    (Instr.lookup t (.map (some b)) (.string ⟨k.toArray⟩) true).run P w = .ok (.tuple #[getK k L z, .bool (hasK k L)]) w := by
  obtain ⟨v, ps, hr, hv⟩ := h.own.look_ok (Maps.string_keyed hK) ht hz (zd := .held z) (zp := []) rfl (keyStr hK k hk)
  rw [atKey_dOf h.ap] at hv
  simp only [Option.some.injEq, Prod.mk.injEq, DataW.held.injEq] at hv
  rw [hr, hv.1, has_dOf]
theorem MapAt.drop (h : MapAt P K w b L) (hK : P.underlying K = some .string) (ht : P.underlying t = some (.map K e)) (k : List UInt8) (hk : k.length ≤ maxLen) (ty : TypeId) :
    ∃ w', (Builtin.delete_ #[t, K] ty #[.map (some b), .string ⟨k.toArray⟩]).run P w = .ok (.tuple #[]) w' ∧ MapAt P K w' b (without k L) ∧ Mod (fun i => i = b) w w' := by
  obtain ⟨w', hr, ho, hm⟩ := h.own.drop (Maps.string_keyed hK) ht (keyStr hK k hk) ty
  rw [del_dOf h.ap k (.refl _)] at ho
  exact ⟨w', hr, ⟨h.ap.without k, fun x hx => h.le x (List.mem_filter.1 hx).1, ownsMap_tight ho⟩, Mod.turned hm⟩
theorem MapAt.store (h : MapAt P K w b L) (hK : P.underlying K = some .string) (ht : P.underlying t = some (.map K e)) (hn : L.length < maxLen) (k : List UInt8) (hk : k.length ≤ maxLen) (v : Value) :
    ∃ w', (Instr.mapUpdate t (.map (some b)) (.string ⟨k.toArray⟩) v).run P w = .ok () w' ∧ MapAt P K w' b ((k, v) :: without k L) ∧ Mod (fun i => i = b) w w' := by
  obtain ⟨w', hr, ho, hm⟩ := h.own.store (Maps.string_keyed hK) ht hn (keyStr hK k hk) (val := v) (d := .held v) (ps := []) rfl
  rw [put_dOf h.ap k v (.refl _)] at ho
  refine ⟨w', hr, ⟨h.ap.cons k v, ?_, ownsMap_tight ho⟩, Mod.turned hm⟩
  intro x hx
  rcases List.mem_cons.1 hx with rfl | hx
  · exact hk
  · exact h.le x (List.mem_filter.1 hx).1
end
end Go.Proofs.Ytdiiechkhlbkcaa

namespace Go.Proofs.Ytdiiechkhlbkcaa
open Go.RowKit

/-- How an element lies in memory: k cells. -/
structure Enc (α : Type) where
  f : α → List Value
  k : Nat
  len : ∀ x, (f x).length = k
  one : ∀ x, ∀ v ∈ f x, v.oneCell' = true
  pos : 0 < k

section
variable {α : Type} (E : Enc α)
def Enc.all (L : List α) : List Value := L.flatMap E.f
theorem Enc.all_nil : E.all [] = [] := rfl
theorem Enc.all_app (A B : List α) : E.all (A ++ B) = E.all A ++ E.all B := by simp [Enc.all]
theorem Enc.all_len (L : List α) : (E.all L).length = L.length * E.k := by
  induction L with
  | nil => simp [Enc.all]
  | cons x l ih => rw [show x :: l = [x] ++ l from rfl, E.all_app, List.length_append, ih]; simp [Enc.all, E.len, Nat.add_mul]; omega
theorem Enc.all_one (L : List α) : ∀ v ∈ E.all L, v.oneCell' = true := by
  intro v hv
  obtain ⟨x, _, h⟩ := List.mem_flatMap.1 hv
  exact E.one x v h
theorem Enc.all_get (L : List α) (j i : Nat) (hj : j < L.length) (hi : i < E.k) : (E.all L)[j * E.k + i]? = (E.f L[j])[i]? := by
  induction L generalizing j with
  | nil => simp at hj
  | cons x l ih =>
    rw [show E.all (x :: l) = E.f x ++ E.all l by simp [Enc.all]]
    cases j with
    | zero => rw [Nat.zero_mul, Nat.zero_add, List.getElem?_append_left (by rw [E.len]; exact hi)]; rfl
    | succ j =>
      rw [List.getElem?_append_right (by rw [E.len, Nat.add_mul]; omega), E.len, show (j + 1) * E.k + i - E.k = j * E.k + i by rw [Nat.add_mul]; omega, ih j (by simpa using hj)]
      rfl

/-- The slice at p holds L from its block's head on; nil holds none. -/
def Rw (T : TypeId) (w : World) (p : Option Addr) (cap : Nat) (L : List α) : Prop := w.ownsRow 0 T E.k (.slice p L.length cap) L.length (E.all L)
/-- L is read at ao. -/
def Rd (w : World) (ao : Option Addr) (L : List α) : Prop :=
  ∀ j (h : j < L.length), ∃ bs off, ao = some ⟨bs, off, none⟩ ∧ bs < w.heap.size ∧ ∀ i u, (E.f L[j])[i]? = some u → w.cell? ⟨bs, off + j * E.k + i, none⟩ = some u

variable {E}
theorem Rd.old {w w' : World} {ao : Option Addr} {L : List α} (h : Rd E w ao L) (hb : Below w.heap.size w w') : Rd E w' ao L := by
  intro j hj
  obtain ⟨bs, off, e, hlt, hc⟩ := h j hj
  exact ⟨bs, off, e, Nat.lt_of_lt_of_le hlt hb.size, fun i u hu => (World.cell?_of_block (hb.block bs hlt)).trans (hc i u hu)⟩
theorem Rd.nil (w : World) (ao : Option Addr) : Rd E w ao [] := fun j hj => by simp at hj
theorem Rd.take {w : World} {ao : Option Addr} {L : List α} (h : Rd E w ao L) (n : Nat) : Rd E w ao (L.take n) := by
  intro j hj
  have hj2 : j < L.length := by rw [List.length_take] at hj; omega
  obtain ⟨bs, off, e, hlt, c1⟩ := h j hj2
  refine ⟨bs, off, e, hlt, ?_⟩
  rw [List.getElem_take]; exact c1
theorem Rw.shape {T : TypeId} {w : World} {p : Option Addr} {cap : Nat} {L : List α} (h : Rw E T w p cap L) :
    (p = none ∧ L = [] ∧ cap = 0) ∨ ∃ g, p = some ⟨g, 0, none⟩ ∧ g < w.heap.size ∧ L.length ≤ cap ∧ cap ≤ maxLen ∧ ∃ cur : Array Value, w.heap[g]? = some (.cells cur T (0, 0)) ∧ cur.size = cap * E.k ∧ cur.toList.take (L.length * E.k) = E.all L := by
  rcases h.2 with ⟨e, h0⟩ | ⟨g, cap', cur, e, _, hh, h1, h2, h3, h4⟩
  · simp only [Value.slice.injEq] at e
    exact .inl ⟨e.1, List.eq_nil_of_length_eq_zero h0, e.2.2⟩
  · simp only [Value.slice.injEq] at e
    obtain ⟨rfl, _, rfl⟩ := e
    exact .inr ⟨g, rfl, (Array.getElem?_eq_some_iff.1 hh).1, h1, h2, cur, hh, h3, h4⟩
theorem Rw.of_row {T : TypeId} {w : World} {g cap : Nat} {L : List α} {cur : Array Value} (hh : w.heap[g]? = some (.cells cur T (0, 0))) (h1 : L.length ≤ cap) (h2 : cap ≤ maxLen) (h3 : cur.size = cap * E.k) (h4 : cur.toList.take (L.length * E.k) = E.all L) :
    Rw E T w (some ⟨g, 0, none⟩) cap L := ⟨by rw [E.all_len], .inr ⟨g, cap, cur, rfl, Nat.zero_le _, hh, h1, h2, h3, h4⟩⟩
theorem Rw.empty (T : TypeId) (w : World) : Rw E T w none 0 ([] : List α) := World.ownsRow_nil _ _ _ _
theorem Rw.cap_le {T : TypeId} {w : World} {p : Option Addr} {cap : Nat} {L : List α} (h : Rw E T w p cap L) : L.length ≤ cap := by
  rcases h.shape with ⟨_, rfl, _⟩ | ⟨g, _, _, hc, _⟩
  · exact Nat.zero_le _
  · exact hc
theorem Rw.made (T : TypeId) (w : World) (L : List α) (hl : L.length ≤ maxLen) : Rw E T (w.alloc (.cells (E.all L).toArray T)) (some ⟨w.heap.size, 0, none⟩) L.length L :=
  Rw.of_row (heap_alloc_new _ _) (Nat.le_refl _) hl (by rw [List.size_toArray, E.all_len]) (by rw [List.take_of_length_le (by simp [E.all_len])])
theorem Rw.lt {T : TypeId} {w : World} {a : Addr} {cap : Nat} {L : List α} (h : Rw E T w (some a) cap L) : a.block < w.heap.size := by
  rcases h.shape with ⟨e, _⟩ | ⟨g, e, hl, _⟩
  · cases e
  · cases e; exact hl
theorem Rw.kept {T : TypeId} {w w' : World} {p : Option Addr} {cap : Nat} {L : List α} {S : Nat → Prop} (h : Rw E T w p cap L) (hm : Mod S w w') (hp : ∀ a, p = some a → ¬ S a.block) : Rw E T w' p cap L := by
  rcases h.shape with ⟨rfl, rfl, rfl⟩ | ⟨g, rfl, hl, h1, h2, cur, hh, h3, h4⟩
  · exact Rw.empty _ _
  · exact Rw.of_row ((hm.block g hl (hp _ rfl)).trans hh) h1 h2 h3 h4
theorem Rw.old {T : TypeId} {w w' : World} {p : Option Addr} {cap : Nat} {L : List α} (h : Rw E T w p cap L) (hb : Below w.heap.size w w') : Rw E T w' p cap L :=
  h.kept (Mod.of_below hb) (fun a e hs => by subst e; exact Nat.lt_irrefl _ (Nat.lt_of_lt_of_le h.lt hs))
theorem Rw.rd {T : TypeId} {w : World} {p : Option Addr} {cap : Nat} {L : List α} (h : Rw E T w p cap L) : Rd E w p L := by
  intro j hj
  rcases h.shape with ⟨rfl, rfl, rfl⟩ | ⟨g, rfl, hl, h1, h2, cur, hh, h3, h4⟩
  · simp at hj
  · refine ⟨g, 0, rfl, hl, fun i u hu => ?_⟩
    have hi : i < E.k := by have := (List.getElem?_eq_some_iff.1 hu).1; rwa [E.len] at this
    rw [← E.all_get L j i hj hi, ← h4] at hu
    have hlt : j * E.k + i < L.length * E.k := by
      have := Nat.mul_le_mul_right E.k (show j + 1 ≤ L.length by omega); rw [Nat.add_mul] at this; omega
    rw [List.getElem?_take_of_lt hlt] at hu
    rw [cell_of_row w g _ _ T (0, 0) hh, Nat.zero_add]
    simpa using hu
/-- Behind an append: the slice holds more, in its own block or in a new one. -/
def PushR (E : Enc α) (T : TypeId) (w : World) (p : Option Addr) (B : List α) (q : Option Addr) (cap : Nat) (w' : World) : Prop :=
  Rw E T w' q cap B ∧ Mod (fun i => ∃ a, p = some a ∧ i = a.block) w w' ∧ ∀ a, q = some a → p = some a ∨ w.heap.size ≤ a.block
theorem run_append_no {P : Program} {w : World} (t ty e : TypeId) (i : TypeInfo) (ht : P.underlying t = some (.slice e)) (hi : P.info? e = some i)
    (p : Option Addr) (n cap : Nat) (hle : n ≤ cap) (hn : p = none → n = 0 ∧ cap = 0) (q : Option Addr) (c : Nat) :
    (Builtin.append_ #[t, t] ty #[.slice p n cap, .slice q 0 c]).run P w = .ok (.slice p n cap) w := by
  cases p with
  | some a => cases q <;> simp [Builtin.append_, run_underlying ht, sizeOf, typeInfo, hi, Builtin.lenOf, Builtin.firstCells, hle, storeCells, loadCells, loadCellsFrom]
  | none =>
    obtain ⟨rfl, rfl⟩ := hn rfl
    cases q <;> simp [Builtin.append_, run_underlying ht, sizeOf, typeInfo, hi, Builtin.lenOf, Builtin.firstCells, loadCells, loadCellsFrom]
theorem wpList_pushR {P : Program} {ops : Array Oper} {rest : List Oper} {o : Oper} {a : Act} {Q : Exit → Act → World → Prop} {w : World} (E : Enc α) (hgd : o.guard = none) (s x : Operand) (Ts T : TypeId) (z : Value) (by_ : Nat)
    (ho : o.op = .call { callee := .builtin .append, args := #[s, x], argTypes := #[Ts, Ts] }) (hT : P.underlying Ts = some (.slice T)) (hi : (P.info? T).map (fun i => (i.zero, i.size, i.bytes)) = some (some z, E.k, by_)) (hzs : z.cells.size = E.k) (hby : by_ ≤ 1024)
    (p : Option Addr) (cap n : Nat) (L : List α) (hn : L.length = n) (hs : a.eval s = .slice p n cap) (hS : Rw E T w p cap L) (ao : Option Addr) (m cx : Nat) (Y : List α) (hm : Y.length = m) (hx : a.eval x = .slice ao m cx) (hY : Rd E w ao Y) (hl : n + m ≤ 100000000000)
    (h : ∀ q c w', PushR E T w p (L ++ Y) q c w' → wpList P ops Q rest (a.put o.dst (.slice q (n + m) c)) w') :
    wpList P ops Q (o :: rest) a w := by
  cases hq : P.info? T with
  | none => rw [hq] at hi; cases hi
  | some i =>
    rw [hq] at hi
    simp only [Option.map_some, Option.some.injEq, Prod.mk.injEq] at hi
    obtain ⟨hz, h1, h2⟩ := hi
    subst hn
    subst hm
    have hmul : (L.length + Y.length) * by_ ≤ 140737488355328 := Nat.le_trans (Nat.mul_le_mul hl hby) (by decide)
    by_cases h0 : 0 < Y.length
    · obtain ⟨bs, off, rfl, hbs, _⟩ := hY 0 h0
      refine wpList_append_lies _ hgd s x Ts ho 0 T i z E.k by_ hT hq hz h1 h2 hzs E.pos _ L.length (E.all L) hs hS ⟨bs, off, none⟩ Y.length cx (E.all Y) hx (E.all_len Y) ?_ (E.all_one _) h0 (by unfold maxLen; omega) hmul (Nat.zero_le _) _ rfl ?_
      · intro j u hj
        have hjl : j < Y.length * E.k := by
          have := (List.getElem?_eq_some_iff.1 hj).1
          rwa [E.all_len] at this
        have hd : j / E.k < Y.length := by rw [Nat.div_lt_iff_lt_mul E.pos]; exact hjl
        have hr : j % E.k < E.k := Nat.mod_lt _ E.pos
        have he : j / E.k * E.k + j % E.k = j := by rw [Nat.mul_comm]; exact Nat.div_add_mod j E.k
        obtain ⟨bs', off', e, _, c1⟩ := hY (j / E.k) hd
        cases e
        have hadd : (⟨bs, off, none⟩ : Addr).add j = ⟨bs, off + j, none⟩ := by unfold Addr.add; split <;> simp_all
        rw [← he, E.all_get Y _ _ hd hr] at hj
        have := c1 _ _ hj
        rw [Nat.add_assoc, he] at this
        rw [hadd, this]
      · intro g c w' hown hgrow hat _
        refine h (some ⟨g, 0, none⟩) c w' ⟨?_, ?_, ?_⟩
        · unfold Rw; rw [List.length_append, E.all_app]; exact hown
        · refine (Mod.refl _ w).grown hgrow ?_
          intro j hj _
          cases p with
          | none => simp [Value.ownBlock] at hj
          | some a => simp [Value.ownBlock] at hj; exact ⟨a, rfl, hj.symm⟩
        · rintro a' e; cases e
          rcases hat with hat | hat
          · left
            rcases hS.shape with ⟨rfl, _⟩ | ⟨g', rfl, _⟩
            · simp [Value.ownBlock] at hat
            · simp [Value.ownBlock] at hat; subst hat; rfl
          · right; rw [hat]; exact Nat.le_refl _
    · obtain rfl : Y = [] := List.eq_nil_of_length_eq_zero (by omega)
      refine wpList_plain hgd fun K hK => ?_
      have hfin := h p cap w ⟨by rw [List.append_nil]; exact hS, Mod.refl _ w, fun a e => .inl e⟩
      have hle : L.length ≤ cap := hS.cap_le
      have hno : p = none → L.length = 0 ∧ cap = 0 := by
        intro e
        rcases hS.shape with ⟨_, rfl, hc⟩ | ⟨g', e', _⟩
        · exact ⟨rfl, hc⟩
        · rw [e] at e'; cases e'
      have hrun := run_append_no (P := P) (w := w) Ts o.type T i hT hq p L.length cap hle hno ao cx
      unfold Oper.wp
      simp only [List.length_nil] at hx
      simp [execOp, ho, resolve, invoke, builtin, hs, hx, hrun, Result.andThen]
      simp at hfin
      exact hK _ _ hfin
/-- Elements are gathered in a row of its own. -/
structure AccR (E : Enc α) (T : TypeId) (w : World) (i : Nat) (D : List α) (q : Option Addr) (c : Nat) (wr : World) : Prop where
  s : Rw E T wr q c D
  len : D.length = i
  new : ∀ a, q = some a → w.heap.size ≤ a.block
  m : Below w.heap.size w wr
theorem AccR.zero (E : Enc α) (T : TypeId) (w : World) : AccR E T w 0 [] none 0 w := ⟨Rw.empty _ _, rfl, (fun a e => by cases e), Below.refl _ _⟩
theorem AccR.push {T : TypeId} {w : World} {i : Nat} {D : List α} {q : Option Addr} {c : Nat} {wr w' : World} (h : AccR E T w i D q c wr) {Y : List α} {q' : Option Addr} {c' : Nat} (hP : PushR E T wr q (D ++ Y) q' c' w') : AccR E T w (i + Y.length) (D ++ Y) q' c' w' := by
  obtain ⟨hS, hm, hor⟩ := hP
  refine ⟨hS, by rw [List.length_append, h.len], ?_, h.m.trans (hm.to_below h.m.size (by rintro j hj ⟨a, e, rfl⟩; have := h.new a e; omega))⟩
  intro a e
  rcases hor a e with h1 | h1
  · exact h.new _ h1
  · exact Nat.le_trans h.m.size h1
theorem AccR.below {T : TypeId} {w : World} {i : Nat} {D : List α} {q : Option Addr} {c : Nat} {wr w' : World} (h : AccR E T w i D q c wr) (hb : Below wr.heap.size wr w') : AccR E T w i D q c w' :=
  ⟨h.s.old hb, h.len, h.new, h.m.trans (hb.mono h.m.size)⟩
theorem AccR.take {T : TypeId} {w : World} {i : Nat} {D : List α} {q : Option Addr} {c : Nat} {wr : World} (h : AccR E T w i D q c wr) : Rd E wr q D := h.s.rd
end
/-- Elements that were just laid. -/
theorem Rd.made {α : Type} (E : Enc α) (w : World) (T : TypeId) (L : List α) (hl : L.length ≤ maxLen) : Rd E (w.alloc (.cells (E.all L).toArray T)) (some ⟨w.heap.size, 0, none⟩) L := (Rw.made (E := E) T w L hl).rd

/-- Texts. -/
def encS : Enc (List UInt8) := ⟨fun s => [.string ⟨s.toArray⟩], 1, fun _ => rfl, fun _ v hv => by rw [List.mem_singleton.1 hv]; rfl, Nat.one_pos⟩
/-- Ints. -/
def encI : Enc Int := ⟨fun x => [.int .i64 x], 1, fun _ => rfl, fun _ v hv => by rw [List.mem_singleton.1 hv]; rfl, Nat.one_pos⟩
theorem encS_all (ss : List (List UInt8)) : encS.all ss = ss.map fun s => Value.string ⟨s.toArray⟩ := by
  induction ss with
  | nil => rfl
  | cons a l ih => rw [show encS.all (a :: l) = encS.f a ++ encS.all l from rfl, ih]; rfl
theorem Rd.str {w : World} {ao : Option Addr} {L : List (List UInt8)} (h : Rd encS w ao L) (j : Nat) (hj : j < L.length) : ∃ bs off, ao = some ⟨bs, off, none⟩ ∧ bs < w.heap.size ∧ w.cell? ⟨bs, off + j, none⟩ = some (.string ⟨(L[j]).toArray⟩) := by
  obtain ⟨bs, off, e, hlt, hc⟩ := h j hj
  exact ⟨bs, off, e, hlt, by have := hc 0 _ rfl; simpa [encS] using this⟩
end Go.Proofs.Ytdiiechkhlbkcaa

namespace Go.Proofs.Ytdiiechkhlbkcaa
open Go.RowKit

/-- A thing that waits: its key, its rank, itself. -/
abbrev It := List UInt8 × Int × Value
def entW (x : It) : Ent := (x.1, .agg #[.int .i64 x.2.1, x.2.2])
def PoolAt (T : TypeId) (w : World) (p b : Nat) (most : Int) (L : List It) : Prop :=
  w.heap[p]? = some (.cells #[.int .i64 most, .map (some b)] T (0, 0)) ∧ MapAt Try.prog 9 w b (L.map entW)
theorem PoolAt.old {T : TypeId} {w w' : World} {p b : Nat} {most : Int} {L : List It} (h : PoolAt T w p b most L) (hb : Below w.heap.size w w') : PoolAt T w' p b most L :=
  ⟨(hb.block p (Array.getElem?_eq_some_iff.1 h.1).1).trans h.1, h.2.old hb⟩
theorem PoolAt.kept {T : TypeId} {w w' : World} {p b : Nat} {most : Int} {L : List It} {S : Nat → Prop} (h : PoolAt T w p b most L) (hm : Mod S w w') (hp : ¬ S p) (hb : ¬ S b) : PoolAt T w' p b most L :=
  ⟨(hm.block p (Array.getElem?_eq_some_iff.1 h.1).1 hp).trans h.1, h.2.kept hm hb⟩
theorem PoolAt.ne {T : TypeId} {w : World} {p b : Nat} {most : Int} {L : List It} (h : PoolAt T w p b most L) : p ≠ b := h.2.notCells h.1
theorem PoolAt.plt {T : TypeId} {w : World} {p b : Nat} {most : Int} {L : List It} (h : PoolAt T w p b most L) : p < w.heap.size := (Array.getElem?_eq_some_iff.1 h.1).1
theorem PoolAt.blt {T : TypeId} {w : World} {p b : Nat} {most : Int} {L : List It} (h : PoolAt T w p b most L) : b < w.heap.size := h.2.lt
theorem PoolAt.c0 {T : TypeId} {w : World} {p b : Nat} {most : Int} {L : List It} (h : PoolAt T w p b most L) : w.cell? ⟨p, 0, none⟩ = some (.int .i64 most) := by unfold World.cell?; rw [h.1]; rfl
theorem PoolAt.c1 {T : TypeId} {w : World} {p b : Nat} {most : Int} {L : List It} (h : PoolAt T w p b most L) : w.cell? ⟨p, 1, none⟩ = some (.map (some b)) := by unfold World.cell?; rw [h.1]; rfl
theorem PoolAt.perm {T : TypeId} {w : World} {p b : Nat} {most : Int} {L L' : List It} (h : PoolAt T w p b most L) (hp : L.Perm L') : PoolAt T w p b most L' := ⟨h.1, h.2.perm (hp.map entW)⟩
theorem without_ent (k : List UInt8) (L : List It) : without k (L.map entW) = (L.filter fun x => x.1 != k).map entW := by
  unfold without
  rw [List.filter_map]
  congr 1
theorem has_ent (k : List UInt8) (L : List It) : hasK k (L.map entW) = L.any fun x => x.1 == k := by
  unfold hasK
  rw [List.any_map]
  congr 1
/-- The rank, and the thing, that wait by the key. -/
def rkL (k : List UInt8) (L : List It) : Int := match L.find? fun x => x.1 == k with | some x => x.2.1 | none => 0
def thL (k : List UInt8) (L : List It) (z : Value) : Value := match L.find? fun x => x.1 == k with | some x => x.2.2 | none => z
theorem get_ent (k : List UInt8) (L : List It) (z : Value) : getK k (L.map entW) (.agg #[.int .i64 0, z]) = .agg #[.int .i64 (rkL k L), thL k L z] := by
  unfold getK rkL thL
  rw [List.find?_map]
  have : ((fun x : Ent => x.1 == k) ∘ entW) = fun x : It => x.1 == k := rfl
  rw [this]
  cases L.find? fun x => x.1 == k <;> rfl
end Go.Proofs.Ytdiiechkhlbkcaa

namespace Go.Proofs.Ytdiiechkhlbkcaa
open Go.RowKit

theorem cmpB_self (a : List UInt8) : Lib.compareBytes a a = 0 := by
  induction a with
  | nil => rfl
  | cons x l ih => simp [Lib.compareBytes, ih]
theorem cmpB_eq : ∀ (a b : List UInt8), ¬ Lib.compareBytes a b < 0 → ¬ Lib.compareBytes b a < 0 → a = b
  | [], [], _, _ => rfl
  | [], _ :: _, h, _ => absurd (by simp [Lib.compareBytes]) h
  | _ :: _, [], _, h => absurd (by simp [Lib.compareBytes]) h
  | a :: l, b :: m, h1, h2 => by
    simp only [Lib.compareBytes] at h1 h2
    by_cases e : a < b
    · rw [if_pos e] at h1; exact absurd (by decide) h1
    · by_cases e2 : b < a
      · rw [if_pos e2] at h2; exact absurd (by decide) h2
      · rw [if_neg e, if_neg e2] at h1
        rw [if_neg e2, if_neg e] at h2
        have : a = b := UInt8.toNat_inj.1 (by rw [UInt8.lt_iff_toNat_lt] at e e2; omega)
        rw [this, cmpB_eq l m h1 h2]
theorem cmpB_trans : ∀ (a b c : List UInt8), Lib.compareBytes a b < 0 → Lib.compareBytes b c < 0 → Lib.compareBytes a c < 0
  | [], [], _, h, _ => by exact absurd h (by decide)
  | [], _ :: _, [], _, h => by exact absurd h (by simp [Lib.compareBytes])
  | [], _ :: _, _ :: _, _, _ => by simp [Lib.compareBytes]
  | _ :: _, [], _, h, _ => by exact absurd h (by simp [Lib.compareBytes])
  | _ :: _, _ :: _, [], _, h => by exact absurd h (by simp [Lib.compareBytes])
  | a :: l, b :: m, c :: n, h1, h2 => by
    simp only [Lib.compareBytes] at h1 h2 ⊢
    simp only [UInt8.lt_iff_toNat_lt] at h1 h2 ⊢
    by_cases e1 : a.toNat < b.toNat
    · by_cases e2 : b.toNat < c.toNat
      · rw [if_pos (by omega)]; decide
      · rw [if_neg e2] at h2
        by_cases e3 : c.toNat < b.toNat
        · rw [if_pos e3] at h2; exact absurd h2 (by decide)
        · rw [if_pos (by omega)]; decide
    · rw [if_neg e1] at h1
      by_cases e4 : b.toNat < a.toNat
      · rw [if_pos e4] at h1; exact absurd h1 (by decide)
      · rw [if_neg e4] at h1
        by_cases e2 : b.toNat < c.toNat
        · rw [if_pos (by omega)]; decide
        · rw [if_neg e2] at h2
          by_cases e3 : c.toNat < b.toNat
          · rw [if_pos e3] at h2; exact absurd h2 (by decide)
          · rw [if_neg e3] at h2
            rw [if_neg (by omega), if_neg (by omega)]
            exact cmpB_trans l m n h1 h2
end Go.Proofs.Ytdiiechkhlbkcaa

namespace Go.Proofs.Ytdiiechkhlbkcaa
open Go.RowKit Go.Sort

abbrev KS := {s : List UInt8 // s.length ≤ 1000000}
instance : Inhabited KS := ⟨⟨[], by decide⟩⟩
def encK : KS → Value := fun s => .string ⟨s.1.toArray⟩
def or2 (a b : Int) : Int := if a = 0 then b else a
def cfR (rk : List UInt8 → Int) (x y : List UInt8) : Int := or2 (Lib.compareInt (rk x) (rk y)) (Lib.compareBytes x y)
def cfK (rk : List UInt8 → Int) (x y : KS) : Int := cfR rk x.1 y.1
theorem cfR_neg (rk : List UInt8 → Int) (x y : List UInt8) : cfR rk x y < 0 ↔ rk x < rk y ∨ rk x = rk y ∧ Lib.compareBytes x y < 0 := by
  unfold cfR or2 Lib.compareInt
  by_cases h1 : rk x < rk y
  · simp [h1]
  · by_cases h2 : rk y < rk x
    · have h3 : ¬ rk x = rk y := by omega
      simp [h1, h2, h3]
    · have h3 : rk x = rk y := by omega
      simp [h3]
theorem cfR_trans (rk : List UInt8 → Int) (x y z : List UInt8) (h1 : cfR rk x y < 0) (h2 : cfR rk y z < 0) : cfR rk x z < 0 := by
  rw [cfR_neg] at *
  rcases h1 with h1 | ⟨h1, h1'⟩ <;> rcases h2 with h2 | ⟨h2, h2'⟩
  · exact .inl (by omega)
  · exact .inl (by omega)
  · exact .inl (by omega)
  · exact .inr ⟨by omega, cmpB_trans _ _ _ h1' h2'⟩
theorem cfR_total (rk : List UInt8 → Int) (x y : List UInt8) (h1 : ¬ cfR rk x y < 0) (h2 : ¬ cfR rk y x < 0) : x = y := by
  rw [cfR_neg] at *
  simp only [not_or, not_and] at h1 h2
  have e : rk x = rk y := by omega
  exact cmpB_eq _ _ (h1.2 e) (h2.2 e.symm)
theorem cfR_irr (rk : List UInt8 → Int) (x : List UInt8) : ¬ cfR rk x x < 0 := by
  rw [cfR_neg, cmpB_self]; omega
theorem cfK_lt (rk : List UInt8 → Int) (x y : KS) : ltOf (cfK rk) x y = decide (cfR rk x.1 y.1 < 0) := rfl
theorem cfK_total (rk : List UInt8 → Int) (x y : KS) (h1 : ltOf (cfK rk) x y = false) (h2 : ltOf (cfK rk) y x = false) : x = y := by
  rw [cfK_lt, decide_eq_false_iff_not] at h1 h2
  exact Subtype.ext (cfR_total rk _ _ h1 h2)
theorem cfK_trans (rk : List UInt8 → Int) (x y z : KS) (h1 : ltOf (cfK rk) x y = true) (h2 : ltOf (cfK rk) y z = true) : ltOf (cfK rk) x z = true := by
  rw [cfK_lt, decide_eq_true_iff] at *
  exact cfR_trans rk _ _ _ h1 h2
theorem cfK_swo (rk : List UInt8 → Int) : SWO (ltOf (cfK rk)) where
  irrefl x := by rw [cfK_lt, decide_eq_false_iff_not]; exact cfR_irr rk _
  trans := cfK_trans rk
  ntrans x y z h1 h2 := by
    cases h : ltOf (cfK rk) x z with
    | false => rfl
    | true =>
      cases h3 : ltOf (cfK rk) y x with
      | true => rw [cfK_trans rk y x z h3 h] at h2; cases h2
      | false => rw [cfK_total rk x y h1 h3, h2] at h; cases h
/-- What is sorted already is it behind a sort, in whatever order it came. -/
theorem ksort_eq (rk : List UInt8 → Int) (L M : List KS) (hp : L.Perm M) (hM : M.Pairwise fun x y => cfR rk x.1 y.1 < 0) : (L.mergeSort fun x y => !(ltOf (cfK rk)) y x) = M := by
  refine List.Perm.eq_of_pairwise (le := fun a b => (!(ltOf (cfK rk)) b a) = true) (fun a b _ _ h1 h2 => ?_) (List.pairwise_mergeSort ?_ ?_ L) (hM.imp ?_) ((List.mergeSort_perm L _).trans hp)
  · simp only [Bool.not_eq_true'] at h1 h2
    exact cfK_total rk a b h2 h1
  · intro a b c h1 h2
    simp only [Bool.not_eq_true'] at *
    exact (cfK_swo rk).ntrans c b a h2 h1
  · intro a b
    cases h : ltOf (cfK rk) a b with
    | false => simp
    | true =>
      have : ltOf (cfK rk) b a = false := by
        cases h' : ltOf (cfK rk) b a with
        | false => rfl
        | true => have := cfK_trans rk a b a h h'; rw [(cfK_swo rk).irrefl] at this; cases this
      rw [this]; rfl
  · intro a b h
    simp only [Bool.not_eq_true']
    rw [cfK_lt, decide_eq_false_iff_not]
    intro h'
    exact cfR_irr rk _ (cfR_trans rk _ _ _ h h')

theorem Rw.holds1 {T : TypeId} {w : World} {g c : Nat} {L : List KS} (h : Rw encS T w (some ⟨g, 0, none⟩) c (L.map (·.1))) : Holds encK w g 0 L.toArray := by
  rcases h.shape with ⟨e, _⟩ | ⟨g', e, hl, h1, h2, cur, hh, h3, h4⟩
  · cases e
  simp only [Option.some.injEq, Addr.mk.injEq] at e
  obtain ⟨rfl, _⟩ := e
  intro j hj
  have hj2 : j < L.length := by simpa using hj
  refine ⟨?_, frozen_of_row w g _ _ T hh⟩
  rw [cell_of_row w g _ _ T (0, 0) hh, Nat.zero_add, ← Array.getElem?_toList]
  have e2 : (cur.toList.take ((L.map (·.1)).length * encS.k))[j]? = some (encK L[j]) := by rw [h4, encS_all]; simp [hj2, encK]
  rw [List.getElem?_take_of_lt (by simp [encS]; omega)] at e2
  rw [e2]
  simp [hj2]
theorem Rw.sorted1 {T : TypeId} {w : World} {g c : Nat} {L : List KS} (h : Rw encS T w (some ⟨g, 0, none⟩) c (L.map (·.1))) (d : List KS) (hd : d.length = L.length) (m : Nat) (os : Array Obj) :
    Rw encS T (sortWorld encK w g 0 m d.toArray os) (some ⟨g, 0, none⟩) c (d.map (·.1)) ∧ Mod (fun i => i = g) w (sortWorld encK w g 0 m d.toArray os) := by
  rcases h.shape with ⟨e, _⟩ | ⟨g', e, hl, h1, h2, cur, hh, h3, h4⟩
  · cases e
  simp only [Option.some.injEq, Addr.mk.injEq] at e
  obtain ⟨rfl, _⟩ := e
  have hk : ∀ k, k < w.heap.size → (sortWorld encK w g 0 m d.toArray os).heap[k]? = if g = k then some (.cells (putCells encK 0 d.toArray cur) T (0, 0)) else w.heap[k]? := by
    intro k hk
    have e : (sortWorld encK w g 0 m d.toArray os).heap = (w.heap.modify g (onCells (putCells encK 0 d.toArray))) ++ os := rfl
    rw [e, Array.getElem?_append_left (by rw [Array.size_modify]; exact hk), Array.getElem?_modify]
    by_cases e1 : g = k
    · subst e1; rw [if_pos rfl, if_pos rfl, hh]; rfl
    · rw [if_neg e1, if_neg e1]
  have hsz : w.heap.size ≤ (sortWorld encK w g 0 m d.toArray os).heap.size := by
    have e : (sortWorld encK w g 0 m d.toArray os).heap = (w.heap.modify g (onCells (putCells encK 0 d.toArray))) ++ os := rfl
    rw [e, Array.size_append, Array.size_modify]; omega
  refine ⟨Rw.of_row (by rw [hk g hl, if_pos rfl]) (by simpa [hd] using h1) h2 (by rw [← h3]; simp [putCells]) ?_, rfl, rfl, rfl, hsz, fun k hk1 hn => by rw [hk k hk1, if_neg (fun e => hn e.symm)]⟩
  rw [encS_all]
  have hcl : L.length ≤ cur.size := by rw [h3]; simpa [encS] using h1
  apply List.ext_getElem?
  intro t
  by_cases ht : t < d.length
  · rw [List.getElem?_take_of_lt (by simpa [encS] using ht), Array.getElem?_toList]
    have htc : t < cur.size := by omega
    simp [putCells, htc, ht, encK]
  · rw [List.getElem?_eq_none (by rw [List.length_take]; exact Nat.le_trans (Nat.min_le_left _ _) (by simpa [encS] using ht)), List.getElem?_eq_none (by simpa using ht)]

set_option maxRecDepth 20000 in
theorem or2_any (g : Nat) (c1 c2 : Int) (w : World) (hg : w.heap[g]? = some (.cells #[.int .i64 c1, .int .i64 c2] 3 (0, 0))) :
    Calls Try.prog 31 #[.slice (some ⟨g, 0, none⟩) 2 2] w fun r w' => r = .returned (.int .i64 (or2 c1 c2)) ∧ w' = w := by
  have k0 : w.cell? ⟨g, 0, none⟩ = some (.int .i64 c1) := by unfold World.cell?; rw [hg]; rfl
  have k1 : w.cell? ⟨g, 1, none⟩ = some (.int .i64 c2) := by unfold World.cell?; rw [hg]; rfl
  clear hg
  unfold or2
  by_cases h : c1 = 0
  · subst h
    by_cases h2 : c2 = 0
    · subst h2
      go_enter Try.func31, Try.ntmps31
      go_wp2
      refine wp_loop_rounds 3 ?_
      iterate 3 (rw [rounds_succ]; go_wp2)
      go_ret
      exact ⟨rfl, rfl⟩
    · have h3 : (c2 != 0) = true := by simpa using h2
      go_enter Try.func31, Try.ntmps31
      go_wp2
      refine wp_loop_rounds 2 ?_
      iterate 2 (rw [rounds_succ]; go_wp2)
      go_ret
      exact ⟨rfl, rfl⟩
  · have h3 : (c1 != 0) = true := by simpa using h
    go_enter Try.func31, Try.ntmps31
    go_wp2
    refine wp_loop_rounds 1 ?_
    rw [rounds_succ]
    go_wp2
    go_ret
    exact ⟨rfl, rfl⟩
end Go.Proofs.Ytdiiechkhlbkcaa

namespace Go.Proofs.Ytdiiechkhlbkcaa
open Go.RowKit Go.Sort

def ltI (x y : It) : Prop := x.2.1 < y.2.1 ∨ x.2.1 = y.2.1 ∧ Lib.compareBytes x.1 y.1 < 0
def Srt (L : List It) : Prop := L.Pairwise ltI
def ApI (L : List It) : Prop := L.Pairwise fun x y => x.1 ≠ y.1
theorem apart_it {L : List It} (h : Apart (L.map entW)) : ApI L := by
  unfold Apart at h; rw [List.pairwise_map] at h; exact h
theorem find_mem : ∀ (L : List It), ApI L → ∀ x ∈ L, L.find? (fun y => y.1 == x.1) = some x
  | [], _, x, h => by cases h
  | y :: l, h, x, hx => by
    obtain ⟨h1, h2⟩ := List.pairwise_cons.1 h
    rcases List.mem_cons.1 hx with rfl | hx
    · simp
    · have : y.1 ≠ x.1 := h1 x hx
      rw [List.find?_cons_of_neg (by simpa using this)]
      exact find_mem l h2 x hx
theorem rk_mem {L : List It} (h : ApI L) {x : It} (hx : x ∈ L) : rkL x.1 L = x.2.1 := by unfold rkL; rw [find_mem L h x hx]
theorem th_mem {L : List It} (h : ApI L) {x : It} (hx : x ∈ L) (z : Value) : thL x.1 L z = x.2.2 := by unfold thL; rw [find_mem L h x hx]
theorem any_mem {L : List It} {x : It} (hx : x ∈ L) : (L.any fun y => y.1 == x.1) = true := by rw [List.any_eq_true]; exact ⟨x, hx, by simp⟩
theorem srt_keys {L : List It} (ha : ApI L) (hs : Srt L) (kL : List KS) (hk : kL.map (·.1) = L.map (·.1)) : kL.Pairwise fun x y => cfR (fun k => rkL k L) x.1 y.1 < 0 := by
  have h1 : (kL.map (·.1)).Pairwise fun x y => cfR (fun k => rkL k L) x y < 0 := by
    rw [hk, List.pairwise_map]
    refine List.Pairwise.imp_of_mem ?_ hs
    intro a b ha' hb' h
    rw [cfR_neg, rk_mem ha ha', rk_mem ha hb']
    exact h
  rwa [List.pairwise_map] at h1
theorem ks_of : ∀ (l : List (List UInt8)), (∀ x ∈ l, x.length ≤ 1000000) → ∃ m : List KS, m.map (·.1) = l
  | [], _ => ⟨[], rfl⟩
  | x :: l, h => by
    obtain ⟨m, hm⟩ := ks_of l (fun y hy => h y (List.mem_cons_of_mem _ hy))
    exact ⟨⟨x, h x List.mem_cons_self⟩ :: m, by simp [hm]⟩
theorem ks_perm {l m : List KS} (h : (l.map (·.1)).Perm (m.map (·.1))) (hd : (l.map (·.1)).Nodup) : l.Perm m := by
  have hd2 := h.nodup_iff.1 hd
  have n1 : l.Nodup := (List.pairwise_map.1 hd).imp (fun h e => h (congrArg _ e))
  have n2 : m.Nodup := (List.pairwise_map.1 hd2).imp (fun h e => h (congrArg _ e))
  refine (List.perm_ext_iff_of_nodup n1 n2).2 fun x => ?_
  constructor
  · intro hx
    obtain ⟨y, hy, e⟩ := List.mem_map.1 (h.mem_iff.1 (List.mem_map_of_mem (f := (·.1)) hx))
    rw [← Subtype.ext e]; exact hy
  · intro hx
    obtain ⟨y, hy, e⟩ := List.mem_map.1 (h.mem_iff.2 (List.mem_map_of_mem (f := (·.1)) hx))
    rw [← Subtype.ext e]; exact hy
/-- Put among the others, by ranks, then keys. -/
def insI (x : It) : List It → List It
  | [] => [x]
  | y :: l => if x.2.1 < y.2.1 ∨ x.2.1 = y.2.1 ∧ Lib.compareBytes x.1 y.1 < 0 then x :: y :: l else y :: insI x l
theorem insI_perm (x : It) : ∀ L, (insI x L).Perm (x :: L)
  | [] => .refl _
  | y :: l => by
    unfold insI
    split
    · exact .refl _
    · exact ((insI_perm x l).cons y).trans (List.Perm.swap x y l)
theorem ltI_trans {x y z : It} (h1 : ltI x y) (h2 : ltI y z) : ltI x z := by
  rcases h1 with h1 | ⟨h1, h1'⟩ <;> rcases h2 with h2 | ⟨h2, h2'⟩
  · exact .inl (by omega)
  · exact .inl (by omega)
  · exact .inl (by omega)
  · exact .inr ⟨by omega, cmpB_trans _ _ _ h1' h2'⟩
theorem ltI_total {x y : It} (h : ¬ ltI x y) (hk : x.1 ≠ y.1) : ltI y x := by
  unfold ltI at *
  simp only [not_or, not_and] at h
  by_cases e : x.2.1 = y.2.1
  · refine .inr ⟨e.symm, ?_⟩
    have h1 := h.2 e
    by_cases h2 : Lib.compareBytes y.1 x.1 < 0
    · exact h2
    · exact absurd (cmpB_eq _ _ h1 h2) hk
  · exact .inl (by omega)
theorem insI_srt (x : It) : ∀ L, Srt L → (∀ y ∈ L, y.1 ≠ x.1) → Srt (insI x L)
  | [], _, _ => List.pairwise_singleton _ _
  | y :: l, h, hk => by
    obtain ⟨h1, h2⟩ := List.pairwise_cons.1 h
    unfold insI
    split
    · rename_i hlt
      refine List.pairwise_cons.2 ⟨fun z hz => ?_, h⟩
      rcases List.mem_cons.1 hz with rfl | hz
      · exact hlt
      · exact ltI_trans hlt (h1 z hz)
    · rename_i hlt
      refine List.pairwise_cons.2 ⟨fun z hz => ?_, insI_srt x l h2 (fun z hz => hk z (List.mem_cons_of_mem _ hz))⟩
      rcases List.mem_cons.1 ((insI_perm x l).mem_iff.1 hz) with rfl | hz
      · exact ltI_total hlt (fun e => hk y List.mem_cons_self e.symm)
      · exact h1 z hz
/-- All by other keys. -/
def dropL (k : List UInt8) (L : List It) : List It := L.filter fun x => x.1 != k
theorem dropL_srt {L : List It} (h : Srt L) (k : List UInt8) : Srt (dropL k L) := h.filter _
theorem dropL_ne (k : List UInt8) (L : List It) : ∀ y ∈ dropL k L, y.1 ≠ k := by
  intro y hy; have := (List.mem_filter.1 hy).2; simpa using this
/-- The one put. -/
def putI (x : It) (L : List It) : List It := insI x (dropL x.1 L)
theorem putI_srt {L : List It} (h : Srt L) (x : It) : Srt (putI x L) := insI_srt x _ (dropL_srt h _) (dropL_ne _ _)
theorem putI_perm (x : It) (L : List It) : (putI x L).Perm (x :: dropL x.1 L) := insI_perm x _
theorem srt_last {L : List It} {x : It} (h : ApI (L ++ [x])) : dropL x.1 (L ++ [x]) = L := by
  unfold dropL
  rw [List.filter_append]
  obtain ⟨_, _, h3⟩ := List.pairwise_append.1 h
  have e1 : L.filter (fun y => y.1 != x.1) = L := List.filter_eq_self.2 (fun y hy => by simpa using h3 y hy x (by simp))
  have e2 : [x].filter (fun y => y.1 != x.1) = [] := by simp
  rw [e1, e2, List.append_nil]
end Go.Proofs.Ytdiiechkhlbkcaa

namespace Go.Proofs.Ytdiiechkhlbkcaa
open Go

/-- How many of the first n are not listed yet. -/
def unl (L : Array Bool) : Nat → Nat
  | 0 => 0
  | n + 1 => unl L n + (if L.getD n true then 0 else 1)
theorem unl_le (L : Array Bool) : ∀ n, unl L n ≤ n
  | 0 => Nat.le_refl _
  | n + 1 => by have := unl_le L n; simp only [unl]; split <;> omega
theorem set_self (L : Array Bool) (i : Nat) : (L.setIfInBounds i true).getD i true = true := by
  by_cases h : i < L.size
  · simp [h]
  · simp [Array.getElem?_eq_none (Nat.le_of_not_lt h), h]
theorem unl_set (L : Array Bool) (i : Nat) (hi : L.getD i true = false) : ∀ n, unl (L.setIfInBounds i true) n + (if i < n then 1 else 0) = unl L n
  | 0 => rfl
  | n + 1 => by
    have ih := unl_set L i hi n
    simp only [unl]
    by_cases h : n = i
    · subst h
      rw [set_self, hi]
      simp at ih ⊢
      exact ih
    · rw [getD_set_ne true (Ne.symm h)]
      generalize (if L.getD n true = true then 0 else 1) = z
      by_cases h2 : i < n
      · rw [if_pos h2] at ih; rw [if_pos (by omega)]; omega
      · rw [if_neg h2] at ih; rw [if_neg (by omega)]; omega
theorem unl_pos (L : Array Bool) : ∀ n i, i < n → L.getD i true = false → 0 < unl L n
  | n + 1, i, h, hi => by
    simp only [unl]
    by_cases e : i = n
    · subst e; rw [hi]; simp
    · have := unl_pos L n i (by omega) hi; omega

/-- What is in the slots that the operations know: those of the list. -/
def AllV (V : Tmp → Value → World → Prop) (a : Act) (w : World) : List Tmp → Prop
  | [] => True
  | t :: r => V t (a.eval (.tmp t)) w ∧ AllV V a w r
theorem AllV.of {V : Tmp → Value → World → Prop} {a : Act} {w : World} : ∀ {l : List Tmp}, (∀ t ∈ l, V t (a.eval (.tmp t)) w) → AllV V a w l
  | [], _ => trivial
  | t :: r, h => ⟨h t (by simp), AllV.of (fun u hu => h u (by simp [hu]))⟩

/-- The slots whose values an operation waits for. -/
def waits (md : Region.Mode) (ops : Array Oper) (o : Oper) : List Tmp :=
  (o.after.toList.filter (Region.binds md)).filterMap fun e => (ops[e.on]?).bind (·.dst)

structure Agree (ops : Array Oper) (a0 a : Act) : Prop where
  size : a.tmps.size = a0.tmps.size
  defers : a.defers = a0.defers
  same : ∀ t, (∀ (i : Nat) (o : Oper), ops[i]? = some o → o.dst ≠ some t) → a.eval (.tmp t) = a0.eval (.tmp t)

def drawOk (ops : Array Oper) (N : Nat) : Bool :=
  (List.range ops.size).all fun i => match ops[i]? with
    | none => true
    | some o => o.after.all (fun e => decide (e.on < i)) && (match o.dst with
      | none => true
      | some d => decide (d < N) && (List.range ops.size).all fun j => j == i || (match ops[j]? with | some p => p.dst != some d | none => true))

structure DrawOk (ops : Array Oper) (N : Nat) : Prop where
  before : ∀ (i : Nat) (o : Oper), ops[i]? = some o → ∀ e ∈ o.after, e.on < i
  room : ∀ (i : Nat) (o : Oper) (d : Tmp), ops[i]? = some o → o.dst = some d → d < N
  apart : ∀ (i j : Nat) (o p : Oper) (d : Tmp), ops[i]? = some o → ops[j]? = some p → j ≠ i → o.dst = some d → p.dst ≠ some d
theorem drawOk_spec {ops : Array Oper} {N : Nat} (h : drawOk ops N = true) : DrawOk ops N := by
  have key : ∀ (i : Nat) (o : Oper), ops[i]? = some o → o.after.all (fun e => decide (e.on < i)) = true ∧ (match o.dst with
      | none => true
      | some d => decide (d < N) && (List.range ops.size).all fun j => j == i || (match ops[j]? with | some p => p.dst != some d | none => true)) = true := by
    intro i o ho
    have hlt : i < ops.size := (Array.getElem?_eq_some_iff.1 ho).1
    have := List.all_eq_true.1 h i (List.mem_range.2 hlt)
    simp only [ho, Bool.and_eq_true] at this
    exact this
  refine ⟨fun i o ho e he => ?_, fun i o d ho hd => ?_, fun i j o p d ho hp hj hd hpd => ?_⟩
  · have := Array.all_eq_true_iff_forall_mem.1 (key i o ho).1 e he
    exact of_decide_eq_true this
  · have := (key i o ho).2
    rw [hd] at this
    simp only [Bool.and_eq_true] at this
    exact of_decide_eq_true this.1
  · have := (key i o ho).2
    rw [hd] at this
    simp only [Bool.and_eq_true] at this
    have h2 := List.all_eq_true.1 this.2 j (List.mem_range.2 (Array.getElem?_eq_some_iff.1 hp).1)
    simp only [hp, Bool.or_eq_true, beq_iff_eq, hj, false_or, bne_iff_ne, ne_eq] at h2
    exact h2 hpd

/-- What one operation owes. -/
def Owes (P : Program) (md : Region.Mode) (ops : Array Oper) (Q : Exit → Act → World → Prop) (V : Tmp → Value → World → Prop) (G : World → Prop) (a0 : Act) (i : Nat) (o : Oper) : Prop :=
  ∀ a w, Agree ops a0 a → G w → AllV V a w (waits md ops o) →
    wpOp P ops Q i (fun a' w' => ∃ v, a' = a.put o.dst v ∧ (∀ t, o.dst = some t → V t v w') ∧ G w' ∧ ∀ t x, V t x w → V t x w') a w

theorem eval_put_same {a : Act} {d : Tmp} (h : d < a.tmps.size) (v : Value) : (a.put (some d) v).eval (.tmp d) = v := by
  simp [Act.put, Act.eval, h]
theorem size_put (a : Act) (d : Option Tmp) (v : Value) : (a.put d v).tmps.size = a.tmps.size := by
  cases d <;> simp [Act.put]
theorem defers_put (a : Act) (d : Option Tmp) (v : Value) : (a.put d v).defers = a.defers := by
  cases d <;> rfl

section
variable {P : Program} {ops : Array Oper} {Q : Exit → Act → World → Prop} {md : Region.Mode} {V : Tmp → Value → World → Prop} {G : World → Prop} {a0 : Act}

theorem ready_some (hok : DrawOk ops a0.tmps.size) {L : Array Bool} (hL : L.size = ops.size) : ∀ i, i < ops.size → L.getD i true = false → ∃ j, j ∈ Region.ready md ops L := by
  intro i
  induction i using Nat.strongRecOn with
  | ind i ih =>
    intro hi hun
    have ho : ops[i]? = some ops[i] := Array.getElem?_eq_getElem hi
    by_cases h : ∀ e ∈ ops[i].after, Region.binds md e = true → L.getD e.on false = true
    · exact ⟨i, mem_ready.2 ⟨hun, _, ho, h⟩⟩
    · have ⟨e, he⟩ := Classical.not_forall.1 h
      have ⟨he1, he2⟩ := Classical.not_imp.1 he
      have ⟨hb, hf⟩ := Classical.not_imp.1 he2
      have hlt := hok.before i _ ho e he1
      have hel : e.on < L.size := by omega
      refine ih e.on hlt (by omega) ?_
      simp [hel] at hf ⊢
      exact hf

theorem wpAny_vals (hok : DrawOk ops a0.tmps.size) (step : ∀ (i : Nat) (o : Oper), ops[i]? = some o → Owes P md ops Q V G a0 i o)
    (fin : ∀ a w, Agree ops a0 a → G w → (∀ (i : Nat) (o : Oper) (t : Tmp), ops[i]? = some o → o.dst = some t → V t (a.eval (.tmp t)) w) → Q .normal a w) :
    ∀ (fuel : Nat) (L : Array Bool) (a : Act) (w : World), unl L ops.size ≤ fuel → L.size = ops.size → Agree ops a0 a → G w →
      (∀ (i : Nat) (o : Oper) (t : Tmp), ops[i]? = some o → L.getD i true = true → o.dst = some t → V t (a.eval (.tmp t)) w) → wpAny P md ops Q fuel L a w := by
  have allL : ∀ L : Array Bool, L.size = ops.size → Region.ready md ops L = [] → ∀ (i : Nat) (o : Oper), ops[i]? = some o → L.getD i true = true := by
    intro L hL hr i o ho
    cases hc : L.getD i true with
    | true => rfl
    | false =>
      obtain ⟨j, hj⟩ := ready_some (md := md) hok hL i (Array.getElem?_eq_some_iff.1 ho).1 hc
      rw [hr] at hj; cases hj
  intro fuel
  induction fuel with
  | zero =>
    intro L a w hu hL ha hG hv
    have hr : Region.ready md ops L = [] := by
      apply List.eq_nil_iff_forall_not_mem.2
      intro j hj
      obtain ⟨hun, o, ho, _⟩ := mem_ready.1 hj
      have := unl_pos L ops.size j (Array.getElem?_eq_some_iff.1 ho).1 hun
      omega
    exact ⟨hr, fin a w ha hG (fun i o t ho ht => hv i o t ho (allL L hL hr i o ho) ht)⟩
  | succ fuel ih =>
    intro L a w hu hL ha hG hv
    refine ⟨fun hr => fin a w ha hG (fun i o t ho ht => hv i o t ho (allL L hL hr i o ho) ht), fun i hi => ?_⟩
    obtain ⟨hun, o, ho, hall⟩ := mem_ready.1 hi
    have hil : i < ops.size := (Array.getElem?_eq_some_iff.1 ho).1
    have hw : AllV V a w (waits md ops o) := AllV.of (by
      intro t ht
      unfold waits at ht
      obtain ⟨e, he, hd⟩ := List.mem_filterMap.1 ht
      obtain ⟨he1, he2⟩ := List.mem_filter.1 he
      cases hj : ops[e.on]? with
      | none => rw [hj] at hd; cases hd
      | some p =>
        rw [hj] at hd
        have hl := hall e (by simpa using he1) he2
        have hel : e.on < L.size := by rw [hL]; exact (Array.getElem?_eq_some_iff.1 hj).1
        exact hv e.on p t hj (by simp [hel] at hl ⊢; exact hl) hd)
    refine wpOp_mono (fun a' w' h => ?_) (step i o ho a w ha hG hw)
    obtain ⟨v, rfl, hvi, hG', hst⟩ := h
    refine ih _ _ _ ?_ (by simpa using hL) ?_ hG' ?_
    · have := unl_set L i hun ops.size
      rw [if_pos hil] at this; omega
    · refine ⟨by rw [size_put]; exact ha.size, by rw [defers_put]; exact ha.defers, fun t ht => ?_⟩
      rw [Act.eval_put (fun d hd e => ht i o ho (by cases e; exact hd))]
      exact ha.same t ht
    · intro j p t hp hl ht
      by_cases e : j = i
      · subst e
        rw [ho] at hp; cases hp
        rw [ht, eval_put_same (by rw [ha.size]; exact hok.room j o t ho ht)]
        exact hvi t ht
      · rw [Act.eval_put (fun d hd e2 => by cases e2; exact hok.apart i j o p t ho hp e hd ht)]
        rw [getD_set_ne true (Ne.symm e)] at hl
        exact hst _ _ (hv j p t hp hl ht)

/-- The obligations one after the other. -/
def OweAll (P : Program) (md : Region.Mode) (ops : Array Oper) (Q : Exit → Act → World → Prop) (V : Tmp → Value → World → Prop) (G : World → Prop) (a0 : Act) : Nat → List Oper → Prop
  | _, [] => True
  | k, o :: r => Owes P md ops Q V G a0 k o ∧ OweAll P md ops Q V G a0 (k + 1) r
theorem OweAll.get : ∀ {l : List Oper} {k : Nat}, OweAll P md ops Q V G a0 k l → ∀ (i : Nat) (o : Oper), l[i]? = some o → Owes P md ops Q V G a0 (k + i) o
  | _ :: _, k, h, 0, o, hi => by cases hi; exact h.1
  | _ :: r, k, h, i + 1, o, hi => by
    have := OweAll.get h.2 i o (by simpa using hi)
    rwa [show k + 1 + i = k + (i + 1) by omega] at this
  | [], _, _, i, o, hi => by simp at hi
theorem OweAll.cons {k : Nat} {o : Oper} {r : List Oper} (h : Owes P md ops Q V G a0 k o) (h2 : OweAll P md ops Q V G a0 (k + 1) r) : OweAll P md ops Q V G a0 k (o :: r) := ⟨h, h2⟩
theorem OweAll.nil {k : Nat} : OweAll P md ops Q V G a0 k [] := trivial

/-- A region that draws its order. -/
theorem wp_region_vals {id : Nat} {w : World} (V : Tmp → Value → World → Prop) (G : World → Prop) (N : Nat) (hm : P.follows .mixedOrders = true) (hok : drawOk ops N = true) (hN : a0.tmps.size = N) (hG : G w.drew)
    (step : OweAll P .any ops Q V G a0 0 ops.toList)
    (fin : ∀ a w, Agree ops a0 a → G w → (∀ (i : Nat) (o : Oper) (t : Tmp), ops[i]? = some o → o.dst = some t → V t (a.eval (.tmp t)) w) → Q .normal a w) : (Code.region id ops true).wp P Q a0 w := by
  subst hN
  have hok := drawOk_spec hok
  refine wp_region_any hm (wpAny_vals hok (V := V) (G := G) (fun i o ho => ?_) fin ops.size _ a0 _ (unl_le _ _) (by simp) ⟨rfl, rfl, fun _ _ => rfl⟩ hG ?_)
  · have := step.get i o (by simpa using ho)
    rwa [Nat.zero_add] at this
  · intro i o t ho hl _
    have hlt := (Array.getElem?_eq_some_iff.1 ho).1
    simp [hlt] at hl

/-- The slots of the operations. -/
def dsts (ops : Array Oper) : List Tmp := ops.toList.filterMap (·.dst)
def puts (f : Tmp → Value) (l : List Tmp) (b : Act) : Act := l.foldl (fun b t => b.put (some t) (f t)) b
theorem puts_spec (f : Tmp → Value) : ∀ (l : List Tmp) (b : Act), (∀ t ∈ l, t < b.tmps.size) →
    (puts f l b).tmps.size = b.tmps.size ∧ (puts f l b).defers = b.defers ∧ ∀ t, (puts f l b).eval (.tmp t) = if t ∈ l then f t else b.eval (.tmp t)
  | [], b, _ => ⟨rfl, rfl, fun t => by simp [puts]⟩
  | u :: r, b, h => by
    have ih := puts_spec f r (b.put (some u) (f u)) (fun t ht => by rw [size_put]; exact h t (by simp [ht]))
    refine ⟨ih.1.trans (size_put _ _ _), ih.2.1.trans (defers_put _ _ _), fun t => ?_⟩
    have e : puts f (u :: r) b = puts f r (b.put (some u) (f u)) := rfl
    rw [e, ih.2.2 t]
    by_cases h1 : t ∈ r
    · rw [if_pos h1, if_pos (by simp [h1])]
    · rw [if_neg h1]
      by_cases h2 : t = u
      · subst h2; rw [eval_put_same (h t (by simp)), if_pos (by simp)]
      · rw [Act.eval_put (fun d hd e2 => by cases hd; cases e2; exact h2 rfl), if_neg (by simp [h1, h2])]
theorem act_ext {a b : Act} (hs : a.tmps.size = b.tmps.size) (hd : a.defers = b.defers) (h : ∀ t, a.eval (.tmp t) = b.eval (.tmp t)) : a = b := by
  obtain ⟨ta, da⟩ := a
  obtain ⟨tb, db⟩ := b
  have : ta = tb := by
    apply Array.ext hs
    intro i h1 h2
    have := h i
    simpa [Act.eval, h1, h2] using this
  subst this
  cases hd
  rfl
theorem Agree.puts {a : Act} (ha : Agree ops a0 a) (hok : DrawOk ops a0.tmps.size) : a = puts (fun t => a.eval (.tmp t)) (dsts ops) a0 := by
  have hm : ∀ t ∈ dsts ops, ∃ (i : Nat) (o : Oper), ops[i]? = some o ∧ o.dst = some t := by
    intro t ht
    obtain ⟨o, ho, hd⟩ := List.mem_filterMap.1 ht
    obtain ⟨i, hi, e⟩ := List.getElem_of_mem ho
    refine ⟨i, o, ?_, hd⟩
    rw [← e]
    simp at hi
    simp [hi]
  have hp := puts_spec (fun t => a.eval (.tmp t)) (dsts ops) a0 (fun t ht => by obtain ⟨i, o, hi, hd⟩ := hm t ht; exact hok.room i o t hi hd)
  refine act_ext (ha.size.trans hp.1.symm) (ha.defers.trans hp.2.1.symm) (fun t => ?_)
  rw [hp.2.2 t]
  by_cases h : t ∈ dsts ops
  · rw [if_pos h]
  · rw [if_neg h]
    refine ha.same t (fun i o hi hd => h ?_)
    exact List.mem_filterMap.2 ⟨o, by simpa using Array.mem_of_getElem? hi, hd⟩

/-- A region that draws its order, what follows it at a known frame. -/
theorem wp_region_puts {id : Nat} {w : World} (V : Tmp → Value → World → Prop) (G : World → Prop) (N : Nat) (hm : P.follows .mixedOrders = true) (hok : drawOk ops N = true) (hN : a0.tmps.size = N) (hG : G w.drew)
    (step : OweAll P .any ops Q V G a0 0 ops.toList)
    (fin : ∀ f w, G w → (∀ (i : Nat) (o : Oper) (t : Tmp), ops[i]? = some o → o.dst = some t → V t (f t) w) → Q .normal (puts f (dsts ops) a0) w) : (Code.region id ops true).wp P Q a0 w :=
  wp_region_vals V G N hm hok hN hG step (fun a w ha hG hv => by
    subst hN
    rw [ha.puts (drawOk_spec hok)]
    exact fin _ w hG hv)

theorem AllV.get {a : Act} {w : World} : ∀ {l : List Tmp}, AllV V a w l → ∀ t, l.contains t = true → V t (a.eval (.tmp t)) w
  | [], _, t, h => by simp at h
  | u :: r, hh, t, h => by
    by_cases e : t = u
    · subst e; exact hh.1
    · exact AllV.get hh.2 t (by simpa [e] using h)
theorem Agree.outer {a : Act} (h : Agree ops a0 a) (t : Tmp) (ht : ops.all (fun o => o.dst != some t) = true) : a.eval (.tmp t) = a0.eval (.tmp t) := by
  refine h.same t (fun i o ho e => ?_)
  have := Array.all_eq_true_iff_forall_mem.1 ht o (Array.mem_of_getElem? ho)
  rw [e] at this; simp at this
theorem getD_bool {a : Act} {t : Tmp} {b : Bool} (h : a.eval (.tmp t) = .bool b) : a.tmps[t]? = some (.bool b) := by
  unfold Act.eval at h
  cases hc : a.tmps[t]? with
  | none => simp [hc, undef] at h
  | some x => simp [hc] at h; rw [h]
theorem wanted_of {o : Oper} {a : Act} {g : Nat} {want : Bool} {t : Tmp} (hg : o.guard = some (g, want)) (hd : (ops[g]?).bind (·.dst) = some t) (h : a.eval (.tmp t) = .bool want) : Region.wanted o (yielded ops a.tmps) = true := by
  unfold Region.wanted yielded
  rw [hg]
  simp only [hd, Option.bind_some, getD_bool h]
  simp
theorem wanted_free {o : Oper} {a : Act} (hg : o.guard = none) : Region.wanted o (yielded ops a.tmps) = true := by
  unfold Region.wanted; rw [hg]

/-- An operation that yields a value and turns nothing. -/
theorem owes_val {i : Nat} {o : Oper} {t : Tmp} (hi : ops[i]? = some o) (ht : o.dst = some t) (h : ∀ a w, Agree ops a0 a → G w → AllV V a w (waits md ops o) →
    ∃ v, Region.wanted o (yielded ops a.tmps) = true ∧ (execOp a.eval o).run P w = .ok (.value v) w ∧ V t v w) : Owes P md ops Q V G a0 i o := by
  intro a w ha hG hV
  obtain ⟨v, hw, hr, hv⟩ := h a w ha hG hV
  unfold wpOp
  rw [hi]
  simp only [hw, if_true, Oper.wp, hr, Oper.upon]
  exact .inl ⟨v, rfl, fun u hu => by rw [ht] at hu; cases hu; exact hv, hG, fun _ _ h => h⟩
/-- A call. -/
theorem owes_call {i : Nat} {o : Oper} {t : Tmp} (hi : ops[i]? = some o) (ht : o.dst = some t) (f : FuncId) (h : ∀ a w, Agree ops a0 a → G w → AllV V a w (waits md ops o) →
    ∃ args, Region.wanted o (yielded ops a.tmps) = true ∧ (execOp a.eval o).run P w = .ok (.enter f args) w ∧
      Calls P f args w fun e w' => ∃ v, e = .returned v ∧ V t v w' ∧ G w' ∧ ∀ t x, V t x w → V t x w') : Owes P md ops Q V G a0 i o := by
  intro a w ha hG hV
  obtain ⟨args, hw, hr, hc⟩ := h a w ha hG hV
  unfold wpOp
  rw [hi]
  simp only [hw, if_true, Oper.wp, hr, Oper.upon]
  refine .inl (hc.mono ?_)
  rintro e w' ⟨v, rfl, h1, h2, h3⟩
  exact ⟨v, rfl, fun u hu => by rw [ht] at hu; cases hu; exact h1, h2, h3⟩
end
end Go.Proofs.Ytdiiechkhlbkcaa

namespace Go.Proofs.Ytdiiechkhlbkcaa
open Go.RowKit

/-- What stays where nothing below turns. -/
structure Stays where
  p : Value → World → Prop
  old : ∀ {v : Value} {w w' : World}, p v w → Below w.heap.size w w' → p v w'
inductive Kd where
  | any
  | eq (v : Value)
  | st (s : Stays)
def VK : Kd → Value → World → Prop
  | .any, _, _ => True
  | .eq x, v, _ => v = x
  | .st s, v, w => s.p v w
theorem VK.old {k : Kd} {v : Value} {w w' : World} (h : VK k v w) (hb : Below w.heap.size w w') : VK k v w' := by
  cases k with
  | any => trivial
  | eq x => exact h
  | st s => exact s.old h hb
theorem not_wanted {ops : Array Oper} {o : Oper} {a : Act} {g : Nat} {want : Bool} {t : Tmp} {v : Value} (hg : o.guard = some (g, want)) (hd : (ops[g]?).bind (·.dst) = some t) (h : a.eval (.tmp t) = v) (hv : v ≠ .bool want) : Region.wanted o (yielded ops a.tmps) = false := by
  unfold Region.wanted yielded
  rw [hg]
  simp only [hd, Option.bind_some]
  unfold Act.eval at h
  cases hc : a.tmps[t]? with
  | none => rfl
  | some x =>
    simp [hc] at h
    subst h
    cases x with
    | bool b =>
      simp only [beq_eq_false_iff_ne, ne_eq, Option.some.injEq]
      intro e; exact hv (by rw [e])
    | _ => rfl
section
variable {P : Program} {ops : Array Oper} {Q : Exit → Act → World → Prop} {md : Region.Mode} {K : Tmp → Kd} {W : World} {a0 : Act}
/-- An operation that is not wanted. -/
theorem owesK_not {i : Nat} {o : Oper} {t : Tmp} (hi : ops[i]? = some o) (ht : o.dst = some t)
    (h : ∀ a w, Agree ops a0 a → Below W.heap.size W w → AllV (fun t v w => VK (K t) v w) a w (waits md ops o) → Region.wanted o (yielded ops a.tmps) = false ∧ VK (K t) undef w) : Owes P md ops Q (fun t v w => VK (K t) v w) (fun w => Below W.heap.size W w) a0 i o := by
  intro a w ha hG hV
  obtain ⟨hw, hv⟩ := h a w ha hG hV
  unfold wpOp
  rw [hi]
  simp only [hw]
  exact ⟨undef, rfl, fun u hu => by rw [ht] at hu; cases hu; exact hv, hG, fun _ _ h => h⟩
/-- An operation that yields a value, and may make memory. -/
theorem owesK {i : Nat} {o : Oper} {t : Tmp} (hi : ops[i]? = some o) (ht : o.dst = some t) (h : ∀ a w, Agree ops a0 a → Below W.heap.size W w → AllV (fun t v w => VK (K t) v w) a w (waits md ops o) →
    ∃ v w', Region.wanted o (yielded ops a.tmps) = true ∧ (execOp a.eval o).run P w = .ok (.value v) w' ∧ Below w.heap.size w w' ∧ VK (K t) v w') : Owes P md ops Q (fun t v w => VK (K t) v w) (fun w => Below W.heap.size W w) a0 i o := by
  intro a w ha hG hV
  obtain ⟨v, w', hw, hr, hb, hv⟩ := h a w ha hG hV
  unfold wpOp
  rw [hi]
  simp only [hw, if_true, Oper.wp, hr, Oper.upon]
  exact .inl ⟨v, rfl, fun u hu => by rw [ht] at hu; cases hu; exact hv, hG.trans (hb.mono hG.size), fun _ _ h => VK.old h hb⟩
/-- A call. -/
theorem owesK_call {i : Nat} {o : Oper} {t : Tmp} (hi : ops[i]? = some o) (ht : o.dst = some t) (f : FuncId) (h : ∀ a w, Agree ops a0 a → Below W.heap.size W w → AllV (fun t v w => VK (K t) v w) a w (waits md ops o) →
    ∃ args, Region.wanted o (yielded ops a.tmps) = true ∧ (execOp a.eval o).run P w = .ok (.enter f args) w ∧
      Calls P f args w fun e w' => ∃ v, e = .returned v ∧ VK (K t) v w' ∧ Below w.heap.size w w') : Owes P md ops Q (fun t v w => VK (K t) v w) (fun w => Below W.heap.size W w) a0 i o := by
  intro a w ha hG hV
  obtain ⟨args, hw, hr, hc⟩ := h a w ha hG hV
  unfold wpOp
  rw [hi]
  simp only [hw, if_true, Oper.wp, hr, Oper.upon]
  refine .inl (hc.mono ?_)
  rintro e w' ⟨v, rfl, h1, hb⟩
  exact ⟨v, rfl, fun u hu => by rw [ht] at hu; cases hu; exact h1, hG.trans (hb.mono hG.size), fun _ _ h => VK.old h hb⟩
end
end Go.Proofs.Ytdiiechkhlbkcaa

namespace Go.Proofs.Ytdiiechkhlbkcaa
open Go

/-- Each of the chain waits for the one ahead of it. -/
def chainOk (md : Region.Mode) (ops : Array Oper) (C : List Nat) : Bool :=
  (List.range C.length).all fun m => match C[m]?, C[m + 1]? with
    | some i, some j => (match ops[j]? with | some p => p.after.any (fun e => Region.binds md e && e.on == i) | none => false)
    | _, _ => true
/-- Operation j waits for i, by n edges at most. -/
def reach (md : Region.Mode) (ops : Array Oper) : Nat → Nat → Nat → Bool
  | 0, _, _ => false
  | n + 1, j, i => match ops[j]? with
    | some p => p.after.any (fun e => Region.binds md e && (e.on == i || reach md ops n e.on i))
    | none => false
/-- The chain's place b waits for operation i (or there is no such place). -/
def aheadOf (md : Region.Mode) (ops : Array Oper) (C : List Nat) (i b : Nat) : Bool :=
  b == C.length || (match C[b]? with
    | some j => reach md ops 16 j i
    | none => false)

/-- Only slots of the operations turn; that of a chain's operation that isn't done yet hasn't. -/
structure AgreeC (ops : Array Oper) (C : List Nat) (k : Nat) (a0 a : Act) : Prop extends Agree ops a0 a where
  kp : ∀ (m i : Nat) (o : Oper) (t : Tmp), k ≤ m → C[m]? = some i → ops[i]? = some o → o.dst = some t → a.eval (.tmp t) = a0.eval (.tmp t)

section
variable {P : Program} {ops : Array Oper} {Q : Exit → Act → World → Prop} {md : Region.Mode} {V : Tmp → Value → Prop} {G : Nat → Value → World → Prop} {C : List Nat} {a0 : Act}

/-- What one operation owes while k of the chain are done, k' behind it. -/
def OwesAt (P : Program) (md : Region.Mode) (ops : Array Oper) (Q : Exit → Act → World → Prop) (V : Tmp → Value → Prop) (G : Nat → Value → World → Prop) (C : List Nat) (a0 : Act) (i : Nat) (o : Oper) (k : Nat) : Prop :=
  ∀ a w x, AgreeC ops C k a0 a → G k x w → AllV (fun t v _ => V t v) a w (waits md ops o) →
    wpOp P ops Q i (fun a' w' => ∃ v, a' = a.put o.dst v ∧ (∀ t, o.dst = some t → V t v) ∧ G k x w') a w
/-- The slot of the chain's last one that is done holds x. -/
def Holds' (ops : Array Oper) (C : List Nat) (a : Act) (k : Nat) (x : Value) : Prop := ∀ (m i : Nat) (o : Oper) (t : Tmp), k = m + 1 → C[m]? = some i → ops[i]? = some o → o.dst = some t → a.eval (.tmp t) = x
/-- What the chain's operation m owes. -/
def OwesIn (P : Program) (md : Region.Mode) (ops : Array Oper) (Q : Exit → Act → World → Prop) (V : Tmp → Value → Prop) (G : Nat → Value → World → Prop) (C : List Nat) (a0 : Act) (i : Nat) (o : Oper) (m : Nat) : Prop :=
  ∀ a w x, AgreeC ops C m a0 a → G m x w → Holds' ops C a m x → AllV (fun t v _ => V t v) a w (waits md ops o) →
    wpOp P ops Q i (fun a' w' => ∃ v, a' = a.put o.dst v ∧ (∀ t, o.dst = some t → V t v) ∧ G (m + 1) v w') a w
def OwesC (P : Program) (md : Region.Mode) (ops : Array Oper) (Q : Exit → Act → World → Prop) (V : Tmp → Value → Prop) (G : Nat → Value → World → Prop) (C : List Nat) (a0 : Act) (i : Nat) (o : Oper) : Prop :=
  (∃ m, C[m]? = some i ∧ OwesIn P md ops Q V G C a0 i o m) ∨ (C.contains i = false ∧ ∃ b, aheadOf md ops C i b = true ∧ ∀ k, k ≤ b → OwesAt P md ops Q V G C a0 i o k)

theorem any_edge {md : Region.Mode} {p : Oper} {i : Nat} (h : p.after.any (fun e => Region.binds md e && e.on == i) = true) : ∃ e ∈ p.after, Region.binds md e = true ∧ e.on = i := by
  obtain ⟨j, hj, h1⟩ := Array.any_iff_exists.1 h
  obtain ⟨_, _, h2⟩ := h1
  rw [Bool.and_eq_true, beq_iff_eq] at h2
  exact ⟨_, Array.getElem_mem _, h2.1, h2.2⟩
theorem chain_edge {m i j : Nat} {p : Oper} (h : chainOk md ops C = true) (hi : C[m]? = some i) (hj : C[m + 1]? = some j) (hp : ops[j]? = some p) : ∃ e ∈ p.after, Region.binds md e = true ∧ e.on = i := by
  have := List.all_eq_true.1 h m (List.mem_range.2 (List.getElem?_eq_some_iff.1 hi).1)
  simp only [hi, hj, hp] at this
  exact any_edge this

theorem reach_done {L : Array Bool} (cl : ∀ (i : Nat) (o : Oper), ops[i]? = some o → L.getD i true = true → ∀ e ∈ o.after, Region.binds md e = true → L.getD e.on false = true) :
    ∀ (n j i : Nat), reach md ops n j i = true → L.getD j true = true → L.getD i false = true
  | 0, _, _, h, _ => by cases h
  | n + 1, j, i, h, hl => by
    unfold reach at h
    cases hp : ops[j]? with
    | none => rw [hp] at h; cases h
    | some p =>
      rw [hp] at h
      obtain ⟨q, _, h1⟩ := Array.any_iff_exists.1 h
      obtain ⟨_, _, h2⟩ := h1
      rw [Bool.and_eq_true, Bool.or_eq_true, beq_iff_eq] at h2
      have h3 := cl j p hp hl _ (Array.getElem_mem _) h2.1
      rcases h2.2 with e | hr
      · rw [← e]; exact h3
      · refine reach_done cl n _ i hr ?_
        have : p.after[q].on < L.size := by
          apply Nat.lt_of_not_le; intro hle
          simp [Array.getElem?_eq_none hle] at h3
        simp [this] at h3 ⊢
        exact h3
theorem getD_tf {L : Array Bool} {n i : Nat} (hL : L.size = n) (hi : i < n) : L.getD i true = L.getD i false := by
  simp [show i < L.size by omega]
theorem getD_set_at {L : Array Bool} {i : Nat} (hi : i < L.size) (d : Bool) : (L.setIfInBounds i true).getD i d = true := by simp [hi]
theorem getD_set_ne' {L : Array Bool} {i j : Nat} (h : j ≠ i) (d : Bool) : (L.setIfInBounds i true).getD j d = L.getD j d := by
  have := Ne.symm h
  simp [Array.getD_eq_getD_getElem?, Array.getElem?_setIfInBounds, this]

/-- What is known while the region goes. -/
structure ChainAt (md : Region.Mode) (ops : Array Oper) (V : Tmp → Value → Prop) (G : Nat → Value → World → Prop) (C : List Nat) (a0 : Act) (L : Array Bool) (a : Act) (w : World) (k : Nat) (x : Value) : Prop where
  g : G k x w
  ho : Holds' ops C a k x
  le : k ≤ C.length
  ch : ∀ (m i : Nat), C[m]? = some i → (L.getD i true = true ↔ m < k)
  cl : ∀ (i : Nat) (o : Oper), ops[i]? = some o → L.getD i true = true → ∀ e ∈ o.after, Region.binds md e = true → L.getD e.on false = true
  ag : Agree ops a0 a
  kp : ∀ (i : Nat) (o : Oper) (t : Tmp), ops[i]? = some o → L.getD i true = false → o.dst = some t → a.eval (.tmp t) = a0.eval (.tmp t)
  v : ∀ (i : Nat) (o : Oper) (t : Tmp), ops[i]? = some o → L.getD i true = true → o.dst = some t → V t (a.eval (.tmp t))

theorem ChainAt.agc {L : Array Bool} {a : Act} {w : World} {k : Nat} {x : Value} (h : ChainAt md ops V G C a0 L a w k x) : AgreeC ops C k a0 a :=
  ⟨h.ag, fun m i o t hm hi ho ht => h.kp i o t ho (by
    cases hl : L.getD i true with
    | false => rfl
    | true => exact absurd ((h.ch m i hi).1 hl) (by omega)) ht⟩
theorem wpAny_chain (hok : DrawOk ops a0.tmps.size) (hch : chainOk md ops C = true) (hnd : C.Nodup) (hCl : ∀ i ∈ C, i < ops.size) (step : ∀ (i : Nat) (o : Oper), ops[i]? = some o → OwesC P md ops Q V G C a0 i o)
    (fin : ∀ a w x, Agree ops a0 a → G C.length x w → Holds' ops C a C.length x → (∀ (i : Nat) (o : Oper) (t : Tmp), ops[i]? = some o → o.dst = some t → V t (a.eval (.tmp t))) → Q .normal a w) :
    ∀ (fuel : Nat) (L : Array Bool) (a : Act) (w : World) (k : Nat) (x : Value), unl L ops.size ≤ fuel → L.size = ops.size → ChainAt md ops V G C a0 L a w k x → wpAny P md ops Q fuel L a w := by
  have allL : ∀ L : Array Bool, L.size = ops.size → Region.ready md ops L = [] → ∀ (i : Nat) (o : Oper), ops[i]? = some o → L.getD i true = true := by
    intro L hL hr i o ho
    cases hc : L.getD i true with
    | true => rfl
    | false =>
      obtain ⟨j, hj⟩ := ready_some (md := md) hok hL i (Array.getElem?_eq_some_iff.1 ho).1 hc
      rw [hr] at hj; cases hj
  have done : ∀ (L : Array Bool) (a : Act) (w : World) (k : Nat) (x : Value), L.size = ops.size → ChainAt md ops V G C a0 L a w k x → Region.ready md ops L = [] → Q .normal a w := by
    intro L a w k x hL h hr
    have hk : k = C.length := by
      refine Nat.le_antisymm h.le (Nat.le_of_not_lt fun hlt => ?_)
      have hm : C[k]? = some C[k] := List.getElem?_eq_getElem hlt
      have hi := hCl _ (List.getElem_mem hlt)
      exact Nat.lt_irrefl _ ((h.ch k _ hm).1 (allL L hL hr _ _ (Array.getElem?_eq_getElem hi)))
    subst hk
    exact fin a w x h.ag h.g h.ho (fun i o t ho ht => h.v i o t ho (allL L hL hr i o ho) ht)
  intro fuel
  induction fuel with
  | zero =>
    intro L a w k x hu hL h
    have hr : Region.ready md ops L = [] := by
      apply List.eq_nil_iff_forall_not_mem.2
      intro j hj
      obtain ⟨hun, o, ho, _⟩ := mem_ready.1 hj
      have := unl_pos L ops.size j (Array.getElem?_eq_some_iff.1 ho).1 hun
      omega
    exact ⟨hr, done L a w k x hL h hr⟩
  | succ fuel ih =>
    intro L a w k x hu hL h
    refine ⟨fun hr => done L a w k x hL h hr, fun i hi => ?_⟩
    obtain ⟨hun, o, ho, hall⟩ := mem_ready.1 hi
    have hil : i < ops.size := (Array.getElem?_eq_some_iff.1 ho).1
    have hw : AllV (fun t v _ => V t v) a w (waits md ops o) := AllV.of (by
      intro t ht
      unfold waits at ht
      obtain ⟨e, he, hd⟩ := List.mem_filterMap.1 ht
      obtain ⟨he1, he2⟩ := List.mem_filter.1 he
      cases hj : ops[e.on]? with
      | none => rw [hj] at hd; cases hd
      | some p =>
        rw [hj] at hd
        have hl := hall e (by simpa using he1) he2
        exact h.v e.on p t hj (by rw [getD_tf hL (Array.getElem?_eq_some_iff.1 hj).1]; exact hl) hd)
    -- what follows, with k' of the chain done
    have next : ∀ (k' : Nat) (y : Value → Value), k' ≤ C.length → (∀ v, Holds' ops C (a.put o.dst v) k' (y v)) → (∀ (m j : Nat), C[m]? = some j → ((L.setIfInBounds i true).getD j true = true ↔ m < k')) →
        wpOp P ops Q i (fun a' w' => ∃ v, a' = a.put o.dst v ∧ (∀ t, o.dst = some t → V t v) ∧ G k' (y v) w') a w → wpOp P ops Q i (fun a' w' => wpAny P md ops Q fuel (L.setIfInBounds i true) a' w') a w := by
      intro k' y hk' hho hch' hop
      refine wpOp_mono (fun a' w' hh => ?_) hop
      obtain ⟨v, rfl, hvi, hG'⟩ := hh
      refine ih _ _ _ k' (y v) ?_ (by simpa using hL) ⟨hG', hho v, hk', hch', ?_, ?_, ?_, ?_⟩
      · have := unl_set L i hun ops.size
        rw [if_pos hil] at this; omega
      · intro j p hp hl e he hb
        by_cases hji : j = i
        · subst hji
          rw [ho] at hp; cases hp
          have := hall e he hb
          by_cases hei : e.on = j
          · rw [hei, getD_set_at (by omega)]
          · rw [getD_set_ne' hei]; exact this
        · rw [getD_set_ne' hji] at hl
          have := h.cl j p hp hl e he hb
          by_cases hei : e.on = i
          · rw [hei, getD_set_at (by omega)]
          · rw [getD_set_ne' hei]; exact this
      · refine ⟨by rw [size_put]; exact h.ag.size, by rw [defers_put]; exact h.ag.defers, fun t ht => ?_⟩
        rw [Act.eval_put (fun d hd e => ht i o ho (by cases e; exact hd))]
        exact h.ag.same t ht
      · intro j p t hp hl ht
        have e : j ≠ i := by
          rintro rfl
          rw [getD_set_at (by omega)] at hl; cases hl
        rw [Act.eval_put (fun d hd e2 => by cases e2; exact hok.apart i j o p t ho hp e hd ht)]
        rw [getD_set_ne' e] at hl
        exact h.kp j p t hp hl ht
      · intro j p t hp hl ht
        by_cases e : j = i
        · subst e
          rw [ho] at hp; cases hp
          rw [ht, eval_put_same (by rw [h.ag.size]; exact hok.room j o t ho ht)]
          exact hvi t ht
        · rw [Act.eval_put (fun d hd e2 => by cases e2; exact hok.apart i j o p t ho hp e hd ht)]
          rw [getD_set_ne' e] at hl
          exact h.v j p t hp hl ht
    rcases step i o ho with ⟨m, hm, hop⟩ | ⟨hni, b, hb, hop⟩
    · have hmk : m = k := by
        have h1 : ¬ m < k := fun hlt => by rw [(h.ch m i hm).2 hlt] at hun; cases hun
        have h2 : m ≤ k := by
          cases m with
          | zero => exact Nat.zero_le _
          | succ m =>
            have hlt : m < C.length := by have := (List.getElem?_eq_some_iff.1 hm).1; omega
            have hj : C[m]? = some C[m] := List.getElem?_eq_getElem hlt
            obtain ⟨e, he, hbd, hon⟩ := chain_edge hch hj hm ho
            have := hall e he hbd
            rw [hon] at this
            exact (h.ch m _ hj).1 (by rw [getD_tf hL (hCl _ (List.getElem_mem hlt))]; exact this)
        omega
      subst hmk
      have hmlt : m < C.length := (List.getElem?_eq_some_iff.1 hm).1
      refine next (m + 1) (fun v => v) hmlt ?_ ?_ (hop a w x h.agc h.g h.ho hw)
      · intro v m2 j p t hm2 hj hp ht
        obtain rfl : m2 = m := by omega
        rw [hm] at hj; cases hj
        rw [ho] at hp; cases hp
        rw [ht, eval_put_same (by rw [h.ag.size]; exact hok.room i o t ho ht)]
      intro m2 j hj
      by_cases hji : j = i
      · subst hji
        have : m2 = m := by
          obtain ⟨l2, e2⟩ := List.getElem?_eq_some_iff.1 hj
          obtain ⟨l1, e1⟩ := List.getElem?_eq_some_iff.1 hm
          exact (List.getElem_inj hnd).1 (e2.trans e1.symm)
        subst this
        rw [getD_set_at (by omega)]
        exact ⟨fun _ => Nat.lt_succ_self _, fun _ => rfl⟩
      · rw [getD_set_ne' hji, h.ch m2 j hj]
        have : m2 ≠ m := by
          rintro rfl
          rw [hm] at hj; cases hj; exact hji rfl
        omega
    · have hkb : k ≤ b := by
        unfold aheadOf at hb
        rw [Bool.or_eq_true, beq_iff_eq] at hb
        rcases hb with rfl | hb
        · exact h.le
        · cases hj : C[b]? with
          | none => rw [hj] at hb; cases hb
          | some j =>
            rw [hj] at hb
            simp only at hb
            refine Nat.le_of_not_lt fun hlt => ?_
            have := reach_done h.cl 16 j i hb ((h.ch b j hj).2 hlt)
            rw [← getD_tf hL hil, hun] at this
            cases this
      refine next k (fun _ => x) h.le ?_ ?_ (hop k hkb a w x h.agc h.g hw)
      · intro v m2 j p t hm2 hj hp ht
        have hji : j ≠ i := by
          rintro rfl
          have := List.mem_of_getElem? hj
          rw [List.contains_eq_mem, decide_eq_false_iff_not] at hni
          exact hni this
        rw [Act.eval_put (fun d hd e2 => by cases e2; exact hok.apart i j o p t ho hp hji hd ht)]
        exact h.ho m2 j p t hm2 hj hp ht
      intro m2 j hj
      have hji : j ≠ i := by
        rintro rfl
        have := List.mem_of_getElem? hj
        rw [List.contains_eq_mem, decide_eq_false_iff_not] at hni
        exact hni this
      rw [getD_set_ne' hji, h.ch m2 j hj]

/-- The obligations one after the other. -/
def OweAllC (P : Program) (md : Region.Mode) (ops : Array Oper) (Q : Exit → Act → World → Prop) (V : Tmp → Value → Prop) (G : Nat → Value → World → Prop) (C : List Nat) (a0 : Act) : Nat → List Oper → Prop
  | _, [] => True
  | k, o :: r => OwesC P md ops Q V G C a0 k o ∧ OweAllC P md ops Q V G C a0 (k + 1) r
theorem OweAllC.get : ∀ {l : List Oper} {k : Nat}, OweAllC P md ops Q V G C a0 k l → ∀ (i : Nat) (o : Oper), l[i]? = some o → OwesC P md ops Q V G C a0 (k + i) o
  | _ :: _, k, h, 0, o, hi => by cases hi; exact h.1
  | _ :: r, k, h, i + 1, o, hi => by
    have := OweAllC.get h.2 i o (by simpa using hi)
    rwa [show k + 1 + i = k + (i + 1) by omega] at this
  | [], _, _, i, o, hi => by simp at hi
theorem OweAllC.cons {k : Nat} {o : Oper} {r : List Oper} (h : OwesC P md ops Q V G C a0 k o) (h2 : OweAllC P md ops Q V G C a0 (k + 1) r) : OweAllC P md ops Q V G C a0 k (o :: r) := ⟨h, h2⟩
theorem OweAllC.nil {k : Nat} : OweAllC P md ops Q V G C a0 k [] := trivial

theorem wp_region_chain {id : Nat} {w : World} (V : Tmp → Value → Prop) (G : Nat → Value → World → Prop) (C : List Nat) (N : Nat) (hm : P.follows .mixedOrders = true) (hok : drawOk ops N = true) (hN : a0.tmps.size = N)
    (hch : chainOk .any ops C = true) (hnd : decide C.Nodup = true) (hCl : C.all (· < ops.size) = true) (hG : G 0 undef w.drew)
    (step : OweAllC P .any ops Q V G C a0 0 ops.toList)
    (fin : ∀ f w x, G C.length x w → (∀ (m i : Nat) (o : Oper) (t : Tmp), C.length = m + 1 → C[m]? = some i → ops[i]? = some o → o.dst = some t → f t = x) → (∀ (i : Nat) (o : Oper) (t : Tmp), ops[i]? = some o → o.dst = some t → V t (f t)) → Q .normal (puts f (dsts ops) a0) w) : (Code.region id ops true).wp P Q a0 w := by
  subst hN
  have hok := drawOk_spec hok
  have hCl' : ∀ i ∈ C, i < ops.size := fun i hi => by simpa using List.all_eq_true.1 hCl i hi
  have hL0 : ∀ i, i < ops.size → (Array.replicate ops.size false).getD i true = false := fun i hi => by simp [hi]
  refine wp_region_any hm (wpAny_chain (V := V) (G := G) (C := C) hok hch (of_decide_eq_true hnd) hCl' (fun i o ho => ?_) (fun a w x ha hg hh hv => ?_) ops.size _ a0 _ 0 undef (unl_le _ _) (by simp) ⟨hG, (fun m i o t h => by omega), Nat.zero_le _, ?_, ?_, ⟨rfl, rfl, fun _ _ => rfl⟩, (fun _ _ _ _ _ _ => rfl), ?_⟩)
  · have := step.get i o (by simpa using ho)
    rwa [Nat.zero_add] at this
  · rw [ha.puts hok]
    exact fin _ w x hg hh hv
  · intro m i hi
    have := hCl' i (List.mem_of_getElem? hi)
    rw [hL0 i this]
    simp
  · intro i o ho hl
    rw [hL0 i (Array.getElem?_eq_some_iff.1 ho).1] at hl; cases hl
  · intro i o t ho hl _
    rw [hL0 i (Array.getElem?_eq_some_iff.1 ho).1] at hl; cases hl

/-- An operation beside the chain that yields a value and turns nothing. -/
theorem owesC_val {i : Nat} {o : Oper} {t : Tmp} (b : Nat) (hb : aheadOf md ops C i b = true) (hni : C.contains i = false) (hi : ops[i]? = some o) (ht : o.dst = some t)
    (h : ∀ k a w x, k ≤ b → AgreeC ops C k a0 a → G k x w → AllV (fun t v _ => V t v) a w (waits md ops o) → ∃ v, Region.wanted o (yielded ops a.tmps) = true ∧ (execOp a.eval o).run P w = .ok (.value v) w ∧ V t v) : OwesC P md ops Q V G C a0 i o := by
  refine .inr ⟨hni, b, hb, fun k hk a w x ha hG hV => ?_⟩
  obtain ⟨v, hw, hr, hv⟩ := h k a w x hk ha hG hV
  unfold wpOp
  rw [hi]
  simp only [hw, if_true, Oper.wp, hr, Oper.upon]
  exact .inl ⟨v, rfl, fun u hu => by rw [ht] at hu; cases hu; exact hv, hG⟩
/-- A call beside the chain. -/
theorem owesC_side {i : Nat} {o : Oper} {t : Tmp} (b : Nat) (hb : aheadOf md ops C i b = true) (hni : C.contains i = false) (hi : ops[i]? = some o) (ht : o.dst = some t) (f : FuncId)
    (h : ∀ k a w x, k ≤ b → AgreeC ops C k a0 a → G k x w → AllV (fun t v _ => V t v) a w (waits md ops o) → ∃ args, Region.wanted o (yielded ops a.tmps) = true ∧ (execOp a.eval o).run P w = .ok (.enter f args) w ∧
      Calls P f args w fun e w' => ∃ v, e = .returned v ∧ V t v ∧ G k x w') : OwesC P md ops Q V G C a0 i o := by
  refine .inr ⟨hni, b, hb, fun k hk a w x ha hG hV => ?_⟩
  obtain ⟨args, hw, hr, hc⟩ := h k a w x hk ha hG hV
  unfold wpOp
  rw [hi]
  simp only [hw, if_true, Oper.wp, hr, Oper.upon]
  refine .inl (hc.mono ?_)
  rintro e w' ⟨v, rfl, h1, h2⟩
  exact ⟨v, rfl, fun u hu => by rw [ht] at hu; cases hu; exact h1, h2⟩
/-- A call of the chain. -/
theorem owesC_call {i : Nat} {o : Oper} {t : Tmp} (m : Nat) (hm : C[m]? = some i) (hi : ops[i]? = some o) (ht : o.dst = some t) (f : FuncId)
    (h : ∀ a w x, AgreeC ops C m a0 a → G m x w → Holds' ops C a m x → AllV (fun t v _ => V t v) a w (waits md ops o) → ∃ args, Region.wanted o (yielded ops a.tmps) = true ∧ (execOp a.eval o).run P w = .ok (.enter f args) w ∧
      Calls P f args w fun e w' => ∃ v, e = .returned v ∧ V t v ∧ G (m + 1) v w') : OwesC P md ops Q V G C a0 i o := by
  refine .inl ⟨m, hm, fun a w x ha hG hh hV => ?_⟩
  obtain ⟨args, hw, hr, hc⟩ := h a w x ha hG hh hV
  unfold wpOp
  rw [hi]
  simp only [hw, if_true, Oper.wp, hr, Oper.upon]
  refine .inl (hc.mono ?_)
  rintro e w' ⟨v, rfl, h1, h2⟩
  exact ⟨v, rfl, fun u hu => by rw [ht] at hu; cases hu; exact h1, h2⟩
/-- An operation of the chain that yields a value and turns memory. -/
theorem owesC_mem {i : Nat} {o : Oper} {t : Tmp} (m : Nat) (hm : C[m]? = some i) (hi : ops[i]? = some o) (ht : o.dst = some t)
    (h : ∀ a w x, AgreeC ops C m a0 a → G m x w → Holds' ops C a m x → AllV (fun t v _ => V t v) a w (waits md ops o) → ∃ v w', Region.wanted o (yielded ops a.tmps) = true ∧ (execOp a.eval o).run P w = .ok (.value v) w' ∧ V t v ∧ G (m + 1) v w') : OwesC P md ops Q V G C a0 i o := by
  refine .inl ⟨m, hm, fun a w x ha hG hh hV => ?_⟩
  obtain ⟨v, w', hw, hr, h1, h2⟩ := h a w x ha hG hh hV
  unfold wpOp
  rw [hi]
  simp only [hw, if_true, Oper.wp, hr, Oper.upon]
  exact .inl ⟨v, rfl, fun u hu => by rw [ht] at hu; cases hu; exact h1, h2⟩
/-- A store of the chain. -/
theorem owesC_store {i : Nat} {o : Oper} (m : Nat) (hm : C[m]? = some i) (hi : ops[i]? = some o) (ht : o.dst = none)
    (h : ∀ a w x, AgreeC ops C m a0 a → G m x w → Holds' ops C a m x → AllV (fun t v _ => V t v) a w (waits md ops o) → ∃ w', Region.wanted o (yielded ops a.tmps) = true ∧ (execOp a.eval o).run P w = .ok .skip w' ∧ G (m + 1) undef w') : OwesC P md ops Q V G C a0 i o := by
  refine .inl ⟨m, hm, fun a w x ha hG hh hV => ?_⟩
  obtain ⟨w', hw, hr, h2⟩ := h a w x ha hG hh hV
  unfold wpOp
  rw [hi]
  simp only [hw, if_true, Oper.wp, hr, Oper.upon]
  exact .inl ⟨undef, rfl, fun u hu => (by rw [ht] at hu; cases hu), h2⟩
/-- An operation of the chain by its own law (an append). -/
theorem owesC_law {i : Nat} {o : Oper} (m : Nat) (hm : C[m]? = some i) (hi : ops[i]? = some o)
    (h : ∀ a w x, AgreeC ops C m a0 a → G m x w → Holds' ops C a m x → AllV (fun t v _ => V t v) a w (waits md ops o) → Region.wanted o (yielded ops a.tmps) = true ∧
      ∀ K : Act → World → Prop, (∀ v w', (∀ t, o.dst = some t → V t v) → G (m + 1) v w' → K (a.put o.dst v) w') → o.wp P a w K Q) : OwesC P md ops Q V G C a0 i o := by
  refine .inl ⟨m, hm, fun a w x ha hG hh hV => ?_⟩
  obtain ⟨hw, hl⟩ := h a w x ha hG hh hV
  unfold wpOp
  rw [hi]
  simp only [hw, if_true]
  exact .inl (hl _ (fun v w' h1 h2 => ⟨v, rfl, h1, h2⟩))
end
end Go.Proofs.Ytdiiechkhlbkcaa
namespace Go.Proofs.Ytdiiechkhlbkcaa
open Go
/-- A slot is written, by an operation of no region. -/
def mv (t : Tmp) (v : Value) : Oper := { dst := some t, op := .move (.const v), type := 0, pos := "", after := #[], guard := none }
theorem moves_back {P : Program} {ops : Array Oper} {Q : Exit → Act → World → Prop} (f : Tmp → Value) : ∀ (l : List Tmp) (a : Act) (w : World), wpList P ops Q (l.map fun t => mv t (f t)) a w → Q .normal (puts f l a) w
  | [], _, _, h => h
  | t :: r, a, w, h => by
    refine moves_back (P := P) (ops := ops) f r (a.put (some t) (f t)) w ?_
    rw [List.map_cons, wpList] at h
    have hw : Region.wanted (mv t (f t)) (yielded ops a.tmps) = true := rfl
    rw [if_pos hw] at h
    rcases h with h | h
    · unfold Oper.wp at h
      have he : (execOp a.eval (mv t (f t))).run P w = .ok (.value (f t)) w := rfl
      rw [he] at h
      exact h
    · exfalso
      have he : ((execOp a.eval (mv t (f t))).runT P w #[]).2 = #[] := rfl
      have h1 := h.1.1
      rw [he] at h1
      simp at h1
end Go.Proofs.Ytdiiechkhlbkcaa

namespace Go.Proofs.Ytdiiechkhlbkcaa.PS
open Go.RowKit Go.Proofs.Ytdiiechkhlbkcaa

theorem zeroW (w : World) : (zeroValue 62).run Try.prog w = .ok (.agg #[.int .i64 0, (.string ⟨#[]⟩)]) w := by kernel_rfl

theorem len_any (p b : Nat) (M : Int) (L : List It) (w : World) (h : PoolAt 60 w p b M L) :
    Calls Try.prog 27 #[.pointer (some ⟨p, 0, none⟩)] w fun r w' => r = .returned (.int .i64 (L.length : Nat)) ∧ w' = w := by
  have c1 := h.c1
  have hl := fun ty => h.2.len Try.underlying58 ty
  rw [List.length_map] at hl
  go_enter Try.func27, Try.ntmps27
  go_wp2_with fail
  go_ret
  exact ⟨rfl, rfl⟩
set_option maxRecDepth 20000 in
theorem rank_any (p b : Nat) (M : Int) (L : List It) (w : World) (h : PoolAt 60 w p b M L) (k : List UInt8) (hk : k.length ≤ maxLen) :
    Calls Try.prog 11 #[.pointer (some ⟨p, 0, none⟩), .string ⟨k.toArray⟩] w fun r w' => r = .returned (.int .i64 (rkL k L)) ∧ w' = w := by
  have c1 := h.c1
  have hl := h.2.look Try.underlying9 Try.underlying58 (zeroW w) k hk
  rw [get_ent] at hl
  generalize thL k L (.string ⟨#[]⟩) = V at hl
  generalize rkL k L = R at hl ⊢
  clear hk h
  have hf : (Instr.field 62 (.agg #[.int .i64 R, V]) 0).run Try.prog w = .ok (.int .i64 R) w := by kernel_rfl
  go_enter Try.func11, Try.ntmps11
  go_wp2_with fail
  go_ret
  exact ⟨rfl, rfl⟩
set_option maxRecDepth 20000 in
theorem get_any (p b : Nat) (M : Int) (L : List It) (w : World) (h : PoolAt 60 w p b M L) (k : List UInt8) (hk : k.length ≤ maxLen) (h1 : (thL k L (.string ⟨#[]⟩)).oneCell' = true) :
    Calls Try.prog 10 #[.pointer (some ⟨p, 0, none⟩), .string ⟨k.toArray⟩] w fun r w' => r = .returned (.tuple #[thL k L (.string ⟨#[]⟩), .bool (L.any fun x => x.1 == k)]) ∧ Below w.heap.size w w' := by
  have c1 := h.c1
  have hl := h.2.look_ok Try.underlying9 Try.underlying58 (zeroW w) k hk
  rw [get_ent, has_ent] at hl
  generalize thL k L (.string ⟨#[]⟩) = V at hl h1 ⊢
  generalize rkL k L = R at hl
  generalize (L.any fun x => x.1 == k) = B at hl ⊢
  clear hk h
  go_enter Try.func10, Try.ntmps10
  have hr1 : (w.alloc (.cells #[.int .i64 0, (.string ⟨#[]⟩)] 62)).heap[w.heap.size]? = some (.cells #[.int .i64 0, (.string ⟨#[]⟩)] 62 (0, 0)) := heap_alloc_new _ _
  have hg := setRow_heap (w.alloc (.cells #[.int .i64 0, (.string ⟨#[]⟩)] 62)) w.heap.size _ #[.int .i64 R, V] 62 (0, 0) hr1
  have hB : Below w.heap.size w ((w.alloc (.cells #[.int .i64 0, (.string ⟨#[]⟩)] 62)).setRow w.heap.size #[.int .i64 R, V]) := ((((Mod.refl (fun _ => False) w).alloc (.cells #[.int .i64 0, (.string ⟨#[]⟩)] 62)).setRow _).to_below (Nat.le_refl _) (by rintro k hk (h | h) <;> omega))
  have hi : (Try.prog.info? 62).map (·.size) = some 2 := by kernel_rfl
  have hV : ∀ v ∈ (#[.int .i64 R, V] : Array Value).toList, v.oneCell' = true := by intro v hv; simp at hv; rcases hv with rfl | rfl; exact rfl; exact h1
  go_upto_region 2 with (refine wpList_store_row rfl rfl 62 (.tmp 6) (.tmp 15) rfl w.heap.size rfl 62 _ #[.int .i64 R, V] rfl hr1 rfl hi hV ?_)
  generalize (w.alloc (.cells #[.int .i64 0, (.string ⟨#[]⟩)] 62)).setRow w.heap.size #[.int .i64 R, V] = W at hg hB ⊢
  have c2 : W.cell? ⟨w.heap.size, 1, none⟩ = some V := by unfold World.cell?; rw [hg]; rfl
  clear hr1
  generalize w.heap.size = n0 at c2 hg ⊢
  clear hi hV
  go_wp2_with fail
  go_ret2
  exact ⟨rfl, hB⟩
end Go.Proofs.Ytdiiechkhlbkcaa.PS

namespace Go.Proofs.Ytdiiechkhlbkcaa.PS
open Go.RowKit Go.Proofs.Ytdiiechkhlbkcaa

theorem exec_load_row {P : Program} {o : Oper} {a : Act} {w : World} (ty : TypeId) (x : Operand) (ho : o.op = .load ty x) (g : Nat) (hx : a.eval x = .pointer (some ⟨g, 0, none⟩)) (t : TypeId) (cs : Array Value) (fr : Nat × Nat) (d : TypeDesc) (hg : w.heap[g]? = some (.cells cs t fr))
    (hu : P.underlying ty = some d) (hd : (match d with | .struct _ | .array _ _ => true | _ => false) = true) (hi : (P.info? ty).map (·.size) = some cs.size) : (execOp a.eval o).run P w = .ok (.value (.agg cs)) w := by
  unfold execOp
  simp only [ho, hx, Instr.loadAt, Instr.sureAddr, Sem.run_bind, Sem.run_pure, Result.andThen_ok, run_loadVar_row w g t ty cs fr d hg hu hd hi]

theorem sclone_any (k : List UInt8) (w : World) (hk : k.length ≤ 1000000) :
    Calls Try.prog 28 #[.string ⟨k.toArray⟩] w fun r w' => r = .returned (.string ⟨k.toArray⟩) ∧ Below w.heap.size w w' := by
  have h := fun w => Try.stringslite_Clone ⟨k.toArray⟩ w (by simp [ByteArray.size]; omega)
  have H := Lib.hid h
  clear h
  go_enter Try.func28, Try.ntmps28
  go_wp2_with fail
  refine (H.out _).mono ?_
  rintro r w1 ⟨rfl, hb⟩
  have HB := Lib.hid hb
  clear hb
  go_wp2_with fail
  go_ret
  exact ⟨rfl, HB.out⟩
theorem new_any (m : Int) (w : World) (hm : 0 ≤ m) (hm2 : m ≤ 64) :
    Calls Try.prog 7 #[.int .i64 m] w fun r w' => ∃ p b, r = .returned (.pointer (some ⟨p, 0, none⟩)) ∧ PoolAt 60 w' p b m [] ∧ Below w.heap.size w w' ∧ w.heap.size ≤ p ∧ w.heap.size ≤ b := by
  have e1 : max m 0 = m := by omega
  have e2 : min m 64 = m := by omega
  have hP : PoolAt 60 ((w.alloc (.map #[] 0)).alloc (.cells #[.int .i64 m, .map (some w.heap.size)] 60)) (w.heap.size + 1) w.heap.size m [] := by
    refine ⟨?_, ?_⟩
    · have := heap_alloc_new (w.alloc (.map #[] 0)) (.cells #[.int .i64 m, .map (some w.heap.size)] 60)
      simpa using this
    · exact (MapAt.made _ _ w).same (Below.heap_alloc _ _ _ (by simp))
  have HP := Lib.hid hP
  clear hP
  have hmk : (Instr.makeMap 58 none).run Try.prog w = .ok (.map (some w.heap.size)) (w.alloc (.map #[] 0)) := run_makeMap _ _
  go_enter Try.func7, Try.ntmps7
  go_wp2_with fail
  go_ret
  exact ⟨_, _, rfl, HP.out, ((Below.refl _ w).alloc (Nat.le_refl _) _).alloc (by simp) _, by omega, Nat.le_refl _⟩

set_option maxRecDepth 20000 in
set_option maxHeartbeats 1000000 in
theorem set_any (p b : Nat) (M : Int) (L : List It) (w : World) (h : PoolAt 60 w p b M L) (hn : L.length ≤ 1000000) (k : List UInt8) (hk : k.length ≤ 1000000) (r : Int) (th : Value) (h1 : th.oneCell' = true) :
    Calls Try.prog 26 #[.pointer (some ⟨p, 0, none⟩), .string ⟨k.toArray⟩, .agg #[.int .i64 r, th]] w fun e w' => e = .returned (.tuple #[]) ∧ PoolAt 60 w' p b M ((k, r, th) :: (L.filter fun x => x.1 != k)) ∧ Mod (fun i => i = b) w w' := by
  have HC := Lib.hid (fun w => sclone_any k w hk)
  have hkm : k.length ≤ maxLen := by simp [maxLen]; omega
  have hnm : L.length < maxLen := by simp [maxLen]; omega
  have HS : Hid (∀ w', PoolAt 60 w' p b M L → ∃ w2, (Instr.mapUpdate 58 (.map (some b)) (.string ⟨k.toArray⟩) (.agg #[.int .i64 r, th])).run Try.prog w' = .ok () w2 ∧ PoolAt 60 w2 p b M ((k, r, th) :: (L.filter fun x => x.1 != k)) ∧ Mod (fun i => i = b) w' w2) := Lib.hid (by
    intro w' h
    obtain ⟨w2, hr, hM, hmd⟩ := h.2.store Try.underlying9 Try.underlying58 (by rw [List.length_map]; exact hnm) k hkm (.agg #[.int .i64 r, th])
    rw [without_ent] at hM
    exact ⟨w2, hr, ⟨(hmd.block p h.plt h.ne).trans h.1, hM⟩, hmd⟩)
  have hg := heap_alloc_new w (.cells #[.int .i64 r, th] 62)
  have hM0 : Mod (fun _ => False) w (w.alloc (.cells #[.int .i64 r, th] 62)) := (Mod.refl _ w).alloc _
  have HP := Lib.hid (h.kept hM0 (fun h => h) (fun h => h))
  have HM := Lib.hid hM0
  have HI : Hid ((Try.prog.info? 62).map (·.size) = some 2) := Lib.hid (by kernel_rfl)
  clear h hM0 hkm hnm hn hk
  go_enter Try.func26, Try.ntmps26
  go_wp2_with fail
  generalize w.alloc (.cells #[.int .i64 r, th] 62) = W0 at hg HP HM ⊢
  generalize w.heap.size = g at hg ⊢
  have HG := Lib.hid hg
  clear hg
  have HG0 : Hid ((fun (j : Nat) (_ : Value) (w' : World) => (j ≤ 1 → Below W0.heap.size W0 w') ∧ (j = 2 → PoolAt 60 w' p b M ((k, r, th) :: (L.filter fun x => x.1 != k)) ∧ Mod (fun i => i = b) W0 w')) 0 undef W0.drew) := Lib.hid ⟨(fun _ => (Below.refl _ _).drew), (fun h => absurd h (by omega))⟩
  refine wp_region_chain (fun t v => match t with
    | 6 => v = .pointer (some ⟨p, 0, none⟩)
    | 7 => v = .pointer (some ⟨p, 0, none⟩)
    | 8 => v = .pointer (some ⟨p, 1, none⟩)
    | 9 => v = .map (some b)
    | 10 => v = .string ⟨k.toArray⟩
    | 11 => v = .string ⟨k.toArray⟩
    | 12 => v = .agg #[.int .i64 r, th]
    | _ => True) (fun (j : Nat) (_ : Value) (w' : World) => (j ≤ 1 → Below W0.heap.size W0 w') ∧ (j = 2 → PoolAt 60 w' p b M ((k, r, th) :: (L.filter fun x => x.1 != k)) ∧ Mod (fun i => i = b) W0 w')) [5, 7] 13 (by kernel_rfl) (by decide +kernel) rfl (by decide +kernel) (by decide) (by decide) HG0.out (by
    refine OweAllC.cons (owesC_val 1 (by decide +kernel) (by decide) rfl rfl fun k' a w1 x hk ha hG hV => ?_) ?_
    · skip
      have h0 := ha.outer 0 (by decide +kernel)
      simp only [Act.eval] at h0
      exact ⟨.pointer (some ⟨p, 0, none⟩), wanted_free rfl, by simp [execOp, go_sem, h0], rfl⟩
    refine OweAllC.cons (owesC_val 1 (by decide +kernel) (by decide) rfl rfl fun k' a w1 x hk ha hG hV => ?_) ?_
    · skip
      have h6 : a.tmps.getD 6 undef = .pointer (some ⟨p, 0, none⟩) := hV.get 6 (by decide +kernel)
      exact ⟨.pointer (some ⟨p, 0, none⟩), wanted_free rfl, by simp [execOp, go_sem, h6], rfl⟩
    refine OweAllC.cons (owesC_val 1 (by decide +kernel) (by decide) rfl rfl fun k' a w1 x hk ha hG hV => ?_) ?_
    · skip
      have h7 : a.tmps.getD 7 undef = .pointer (some ⟨p, 0, none⟩) := hV.get 7 (by decide +kernel)
      exact ⟨.pointer (some ⟨p, 1, none⟩), wanted_free rfl, by simp [execOp, go_sem, h7], rfl⟩
    refine OweAllC.cons (owesC_val 1 (by decide +kernel) (by decide) rfl rfl fun k' a w1 x hk ha hG hV => ?_) ?_
    · skip
      have h8 : a.tmps.getD 8 undef = .pointer (some ⟨p, 1, none⟩) := hV.get 8 (by decide +kernel)
      have hb := hG.1 (by omega)
      have cc : w1.cell? ⟨p, 1, none⟩ = some (.map (some b)) := (HP.out.old hb).c1
      exact ⟨.map (some b), wanted_free rfl, by simp [execOp, go_sem, h8, cc], rfl⟩
    refine OweAllC.cons (owesC_val 0 (by decide +kernel) (by decide) rfl rfl fun k' a w1 x hk ha hG hV => ?_) ?_
    · skip
      have h1 := ha.outer 1 (by decide +kernel)
      simp only [Act.eval] at h1
      exact ⟨.string ⟨k.toArray⟩, wanted_free rfl, by simp [execOp, go_sem, h1], rfl⟩
    refine OweAllC.cons (owesC_call 0 rfl rfl rfl 28 fun a w1 x ha hG hx hV => ?_) ?_
    · skip
      have h10 : a.tmps.getD 10 undef = .string ⟨k.toArray⟩ := hV.get 10 (by decide +kernel)
      refine ⟨#[.string ⟨k.toArray⟩], wanted_free rfl, by simp [execOp, resolve, invoke, go_sem, h10], ?_⟩
      have hb := hG.1 (by omega)
      refine (HC.out w1).mono ?_
      rintro r' u2 ⟨rfl, hb2⟩
      exact ⟨_, rfl, rfl, (fun _ => hb.trans (hb2.mono hb.size)), (fun h => absurd h (by omega))⟩
    refine OweAllC.cons (owesC_val 1 (by decide +kernel) (by decide) rfl rfl fun k' a w1 x hk ha hG hV => ?_) ?_
    · skip
      have h5 := ha.outer 5 (by decide +kernel)
      simp only [Act.eval] at h5
      have hb := hG.1 (by omega)
      have hh : w1.heap[g]? = some (.cells #[.int .i64 r, th] 62 (0, 0)) := (hb.block g (Array.getElem?_eq_some_iff.1 HG.out).1).trans HG.out
      exact ⟨.agg #[.int .i64 r, th], wanted_free rfl, exec_load_row 62 (.tmp 5) rfl g h5 62 #[.int .i64 r, th] (0, 0) _ hh Try.underlying62 rfl HI.out, rfl⟩
    refine OweAllC.cons (owesC_store 1 rfl rfl rfl fun a w1 x ha hG hx hV => ?_) ?_
    · skip
      have h9 : a.tmps.getD 9 undef = .map (some b) := hV.get 9 (by decide +kernel)
      have h11 : a.tmps.getD 11 undef = .string ⟨k.toArray⟩ := hV.get 11 (by decide +kernel)
      have h12 : a.tmps.getD 12 undef = .agg #[.int .i64 r, th] := hV.get 12 (by decide +kernel)
      have hb := hG.1 (by omega)
      have hP1 := HP.out.old hb
      obtain ⟨w2, hr, hm, hmd⟩ := HS.out w1 hP1
      refine ⟨w2, wanted_free rfl, by simp [execOp, go_sem, h9, h11, h12, hr], (fun h => absurd h (by omega)), fun _ => ⟨hm, ?_⟩⟩
      exact (((Mod.of_below hb).mono (fun i hi h => by omega)).trans hmd (fun _ _ h => h))
    exact OweAllC.nil
    ) ?_
  intro f wz xz hG hx hv
  clear hv hx
  have hG2 := hG.2 rfl
  have HE := Lib.hid hG2
  clear hG hG2
  go_end0
  exact ⟨rfl, HE.out.1, (HM.out.mono (fun _ _ h => h.elim)).trans HE.out.2 (fun _ _ h => h)⟩

set_option maxRecDepth 20000 in
set_option maxHeartbeats 1000000 in
theorem drop_any (p b : Nat) (M : Int) (L : List It) (w : World) (h : PoolAt 60 w p b M L) (k : List UInt8) (hk : k.length ≤ 1000000) (h1 : (thL k L (.string ⟨#[]⟩)).oneCell' = true) :
    Calls Try.prog 12 #[.pointer (some ⟨p, 0, none⟩), .string ⟨k.toArray⟩] w fun e w' => e = .returned (.bool (L.any fun x => x.1 == k)) ∧ PoolAt 60 w' p b M (L.filter fun x => x.1 != k) ∧ Mod (fun i => i = b) w w' := by
  have hkm : k.length ≤ maxLen := by simp [maxLen]; omega
  have c1 := h.c1
  have hl := h.2.look_ok Try.underlying9 Try.underlying58 (zeroW w) k hkm
  rw [get_ent, has_ent] at hl
  have HS : Hid (∀ w', PoolAt 60 w' p b M L → ∃ w2, (∀ ty, (Builtin.delete_ #[58, 9] ty #[.map (some b), .string ⟨k.toArray⟩]).run Try.prog w' = .ok (.tuple #[]) w2) ∧ PoolAt 60 w2 p b M (L.filter fun x => x.1 != k) ∧ Mod (fun i => i = b) w' w2) := Lib.hid (by
    intro w' h
    obtain ⟨w2, hr, hM, hmd⟩ := h.2.drop Try.underlying9 Try.underlying58 k hkm 0
    rw [without_ent] at hM
    exact ⟨w2, fun _ => hr, ⟨(hmd.block p h.plt h.ne).trans h.1, hM⟩, hmd⟩)
  have HPf := Lib.hid (fun (w' : World) hm => h.kept (S := fun _ => False) (w' := w') hm (fun h => h) (fun h => h))
  generalize (L.filter fun x => x.1 != k) = LF at HS ⊢
  generalize thL k L (.string ⟨#[]⟩) = V at hl h1
  generalize rkL k L = R at hl
  generalize (L.any fun x => x.1 == k) = B at hl ⊢
  clear hk hkm h
  have hr1 : (w.alloc (.cells #[.int .i64 0, (.string ⟨#[]⟩)] 62)).heap[w.heap.size]? = some (.cells #[.int .i64 0, (.string ⟨#[]⟩)] 62 (0, 0)) := heap_alloc_new _ _
  have hg := setRow_heap (w.alloc (.cells #[.int .i64 0, (.string ⟨#[]⟩)] 62)) w.heap.size _ #[.int .i64 R, V] 62 (0, 0) hr1
  have hB : Mod (fun _ => False) w ((w.alloc (.cells #[.int .i64 0, (.string ⟨#[]⟩)] 62)).setRow w.heap.size #[.int .i64 R, V]) := ((((Mod.refl (fun _ => False) w).alloc (.cells #[.int .i64 0, (.string ⟨#[]⟩)] 62)).setRow _)).mono (by rintro i hi (h | h); exact h; omega)
  have hi : (Try.prog.info? 62).map (·.size) = some 2 := by kernel_rfl
  have hV : ∀ v ∈ (#[.int .i64 R, V] : Array Value).toList, v.oneCell' = true := by intro v hv; simp at hv; rcases hv with rfl | rfl; exact rfl; exact h1
  go_enter Try.func12, Try.ntmps12
  go_upto_region 2 with (refine wpList_store_row rfl rfl 62 (.tmp 5) (.tmp 14) rfl w.heap.size rfl 62 _ #[.int .i64 R, V] rfl hr1 rfl hi hV ?_)
  have hP := HPf.out _ hB
  have HB := Lib.hid hB
  clear hB
  generalize (w.alloc (.cells #[.int .i64 0, (.string ⟨#[]⟩)] 62)).setRow w.heap.size #[.int .i64 R, V] = W at hP HB ⊢
  obtain ⟨w2, hdel, hP2, hmd⟩ := HS.out W hP
  have c3 := hP.c1
  have HE := Lib.hid hP2
  have HD := Lib.hid hmd
  clear hr1 hg hi hV hP hP2 hmd
  go_wp2_with fail
  go_ret
  exact ⟨rfl, HE.out, (HB.out.mono (fun _ _ h => h.elim)).trans HD.out (fun _ _ h => h)⟩
end Go.Proofs.Ytdiiechkhlbkcaa.PS

namespace Go.Proofs.Ytdiiechkhlbkcaa.PS
open Go.RowKit Go.Sort Go.Proofs.Ytdiiechkhlbkcaa

set_option maxRecDepth 20000 in
set_option maxHeartbeats 1000000 in
theorem cmp_any (p b gb : Nat) (M : Int) (L : List It) (W : World) (h : PoolAt 60 W p b M L) (hbx : W.heap[gb]? = some (.cells #[.pointer (some ⟨p, 0, none⟩)] 24 (0, 0))) (s u : List UInt8) (hs : s.length ≤ 1000000) (hu : u.length ≤ 1000000) :
    Calls Try.prog 30 #[.string ⟨s.toArray⟩, .string ⟨u.toArray⟩, .pointer (some ⟨gb, 0, none⟩)] W fun e w' => e = .returned (.int .i64 (cfR (fun k => rkL k L) s u)) ∧ ∃ q os', w' = grow (W.drewN q) os' := by
  have HP := Lib.hid h
  have HB := Lib.hid hbx
  have HS : Hid (s.length ≤ maxLen) := Lib.hid (by simp [maxLen]; omega)
  have HU : Hid (u.length ≤ maxLen) := Lib.hid (by simp [maxLen]; omega)
  have HW : Hid (∀ w', (∃ q os, w' = grow (W.drewN q) os) → Below W.heap.size W w') := Lib.hid (by
    rintro w' ⟨q, os, rfl⟩
    refine ⟨rfl, rfl, rfl, by simp [grow, World.drewN], fun k hk => ?_⟩
    show (W.heap ++ os)[k]? = _
    rw [Array.getElem?_append_left hk])
  unfold cfR
  obtain ⟨c1, hc1⟩ : ∃ c, c = Lib.compareInt (rkL s L) (rkL u L) := ⟨_, rfl⟩
  obtain ⟨c2, hc2⟩ : ∃ c, c = Lib.compareBytes s u := ⟨_, rfl⟩
  simp only
  rw [← hc1, ← hc2]
  have HC1 := Lib.hid hc1
  have HC2 := Lib.hid hc2
  clear h hbx hs hu hc1 hc2
  go_enter Try.func30, Try.ntmps30
  go_wp2_with fail
  have HG0 : Hid ((fun (j : Nat) (z : Value) (w' : World) => (∃ q os, w' = grow (W.drewN q) os) ∧ (j = 1 → ∃ g, z = .slice (some ⟨g, 0, none⟩) 2 2 ∧ w'.heap[g]? = some (.cells #[.int .i64 c1, .int .i64 c2] 3 (0, 0)))) 0 undef W.drew) := Lib.hid ⟨⟨1, #[], by rw [grow_empty]; rfl⟩, (fun h => absurd h (by omega))⟩
  refine wp_region_chain (fun t v => match t with
    | 6 => v = .pointer (some ⟨p, 0, none⟩)
    | 7 => v = .string ⟨s.toArray⟩
    | 8 => v = .int .i64 (rkL s L)
    | 9 => v = .pointer (some ⟨p, 0, none⟩)
    | 10 => v = .string ⟨u.toArray⟩
    | 11 => v = .int .i64 (rkL u L)
    | 12 => v = .int .i64 c1
    | 13 => v = .string ⟨s.toArray⟩
    | 14 => v = .string ⟨u.toArray⟩
    | 15 => v = .int .i64 c2
    | 17 => v = .int .i64 (or2 c1 c2)
    | 5 => v = .int .i64 (or2 c1 c2)
    | _ => True) (fun (j : Nat) (z : Value) (w' : World) => (∃ q os, w' = grow (W.drewN q) os) ∧ (j = 1 → ∃ g, z = .slice (some ⟨g, 0, none⟩) 2 2 ∧ w'.heap[g]? = some (.cells #[.int .i64 c1, .int .i64 c2] 3 (0, 0)))) [10, 11] 18 (by kernel_rfl) (by decide +kernel) rfl (by decide +kernel) (by decide) (by decide) HG0.out (by
    refine OweAllC.cons (owesC_val 0 (by decide +kernel) (by decide) rfl rfl fun k' a w1 x hk ha hG hV => ?_) ?_
    · skip
      have h2 := ha.outer 2 (by decide +kernel)
      simp only [Act.eval] at h2
      have hb := HW.out w1 hG.1
      have cc : w1.cell? ⟨gb, 0, none⟩ = some (.pointer (some ⟨p, 0, none⟩)) := by unfold World.cell?; rw [(hb.block gb (Array.getElem?_eq_some_iff.1 HB.out).1).trans HB.out]; rfl
      exact ⟨.pointer (some ⟨p, 0, none⟩), wanted_free rfl, by simp [execOp, go_sem, h2, cc], rfl⟩
    refine OweAllC.cons (owesC_val 0 (by decide +kernel) (by decide) rfl rfl fun k' a w1 x hk ha hG hV => ?_) ?_
    · skip
      have h0 := ha.outer 0 (by decide +kernel)
      simp only [Act.eval] at h0
      exact ⟨.string ⟨s.toArray⟩, wanted_free rfl, by simp [execOp, go_sem, h0], rfl⟩
    refine OweAllC.cons (owesC_side 0 (by decide +kernel) (by decide) rfl rfl 11 fun k' a w1 x hk ha hG hV => ?_) ?_
    · skip
      have h6 : a.tmps.getD 6 undef = .pointer (some ⟨p, 0, none⟩) := hV.get 6 (by decide +kernel)
      have h7 : a.tmps.getD 7 undef = .string ⟨s.toArray⟩ := hV.get 7 (by decide +kernel)
      refine ⟨#[.pointer (some ⟨p, 0, none⟩), .string ⟨s.toArray⟩], wanted_free rfl, by simp [execOp, resolve, invoke, go_sem, h6, h7], ?_⟩
      refine (rank_any p b M L w1 (HP.out.old (HW.out w1 hG.1)) s HS.out).mono ?_
      rintro e u2 ⟨rfl, rfl⟩; exact ⟨_, rfl, rfl, hG⟩
    refine OweAllC.cons (owesC_val 0 (by decide +kernel) (by decide) rfl rfl fun k' a w1 x hk ha hG hV => ?_) ?_
    · skip
      have h2 := ha.outer 2 (by decide +kernel)
      simp only [Act.eval] at h2
      have hb := HW.out w1 hG.1
      have cc : w1.cell? ⟨gb, 0, none⟩ = some (.pointer (some ⟨p, 0, none⟩)) := by unfold World.cell?; rw [(hb.block gb (Array.getElem?_eq_some_iff.1 HB.out).1).trans HB.out]; rfl
      exact ⟨.pointer (some ⟨p, 0, none⟩), wanted_free rfl, by simp [execOp, go_sem, h2, cc], rfl⟩
    refine OweAllC.cons (owesC_val 0 (by decide +kernel) (by decide) rfl rfl fun k' a w1 x hk ha hG hV => ?_) ?_
    · skip
      have h1 := ha.outer 1 (by decide +kernel)
      simp only [Act.eval] at h1
      exact ⟨.string ⟨u.toArray⟩, wanted_free rfl, by simp [execOp, go_sem, h1], rfl⟩
    refine OweAllC.cons (owesC_side 0 (by decide +kernel) (by decide) rfl rfl 11 fun k' a w1 x hk ha hG hV => ?_) ?_
    · skip
      have h9 : a.tmps.getD 9 undef = .pointer (some ⟨p, 0, none⟩) := hV.get 9 (by decide +kernel)
      have h10 : a.tmps.getD 10 undef = .string ⟨u.toArray⟩ := hV.get 10 (by decide +kernel)
      refine ⟨#[.pointer (some ⟨p, 0, none⟩), .string ⟨u.toArray⟩], wanted_free rfl, by simp [execOp, resolve, invoke, go_sem, h9, h10], ?_⟩
      refine (rank_any p b M L w1 (HP.out.old (HW.out w1 hG.1)) u HU.out).mono ?_
      rintro e u2 ⟨rfl, rfl⟩; exact ⟨_, rfl, rfl, hG⟩
    refine OweAllC.cons (owesC_side 0 (by decide +kernel) (by decide) rfl rfl 32 fun k' a w1 x hk ha hG hV => ?_) ?_
    · skip
      have h8 : a.tmps.getD 8 undef = .int .i64 (rkL s L) := hV.get 8 (by decide +kernel)
      have h11 : a.tmps.getD 11 undef = .int .i64 (rkL u L) := hV.get 11 (by decide +kernel)
      refine ⟨#[.int .i64 (rkL s L), .int .i64 (rkL u L)], wanted_free rfl, by simp [execOp, resolve, invoke, go_sem, h8, h11], ?_⟩
      refine (Try.cmp_Compare_int (rkL s L) (rkL u L) w1).mono ?_
      rintro e u2 ⟨rfl, rfl⟩; exact ⟨.int .i64 c1, by rw [HC1.out], rfl, hG⟩
    refine OweAllC.cons (owesC_val 0 (by decide +kernel) (by decide) rfl rfl fun k' a w1 x hk ha hG hV => ?_) ?_
    · skip
      have h0 := ha.outer 0 (by decide +kernel)
      simp only [Act.eval] at h0
      exact ⟨.string ⟨s.toArray⟩, wanted_free rfl, by simp [execOp, go_sem, h0], rfl⟩
    refine OweAllC.cons (owesC_val 0 (by decide +kernel) (by decide) rfl rfl fun k' a w1 x hk ha hG hV => ?_) ?_
    · skip
      have h1 := ha.outer 1 (by decide +kernel)
      simp only [Act.eval] at h1
      exact ⟨.string ⟨u.toArray⟩, wanted_free rfl, by simp [execOp, go_sem, h1], rfl⟩
    refine OweAllC.cons (owesC_side 0 (by decide +kernel) (by decide) rfl rfl 33 fun k' a w1 x hk ha hG hV => ?_) ?_
    · skip
      have h13 : a.tmps.getD 13 undef = .string ⟨s.toArray⟩ := hV.get 13 (by decide +kernel)
      have h14 : a.tmps.getD 14 undef = .string ⟨u.toArray⟩ := hV.get 14 (by decide +kernel)
      refine ⟨#[.string ⟨s.toArray⟩, .string ⟨u.toArray⟩], wanted_free rfl, by simp [execOp, resolve, invoke, go_sem, h13, h14], ?_⟩
      refine (Try.strings_Compare ⟨s.toArray⟩ ⟨u.toArray⟩ w1).mono ?_
      rintro e u2 ⟨rfl, rfl⟩; exact ⟨.int .i64 c2, by rw [HC2.out], rfl, hG⟩
    refine OweAllC.cons (owesC_mem 0 rfl rfl rfl fun a w1 x ha hG hx hV => ?_) ?_
    · skip
      have h12 : a.tmps.getD 12 undef = .int .i64 c1 := hV.get 12 (by decide +kernel)
      have h15 : a.tmps.getD 15 undef = .int .i64 c2 := hV.get 15 (by decide +kernel)
      have g12 : a.tmps[12]?.getD undef = .int .i64 c1 := by simpa using h12
      have g15 : a.tmps[15]?.getD undef = .int .i64 c2 := by simpa using h15
      refine ⟨.slice (some ⟨w1.heap.size, 0, none⟩) 2 2, w1.alloc (.cells #[.int .i64 c1, .int .i64 c2] 3), wanted_free rfl, by simp [execOp, go_sem, h12, h15, g12, g15], trivial, ?_, fun _ => ⟨_, rfl, heap_alloc_new _ _⟩⟩
      obtain ⟨q, os, rfl⟩ := hG.1
      exact ⟨q, _, by rw [alloc_eq_grow, grow_grow]⟩
    refine OweAllC.cons (owesC_call 1 rfl rfl rfl 31 fun a w1 x ha hG hx hV => ?_) ?_
    · skip
      have h16 := hx 0 10 _ 16 rfl rfl rfl rfl
      simp only [Act.eval] at h16
      obtain ⟨g, rfl, hg⟩ := hG.2 rfl
      refine ⟨#[.slice (some ⟨g, 0, none⟩) 2 2], wanted_free rfl, by simp [execOp, resolve, invoke, go_sem, h16], ?_⟩
      refine (or2_any g c1 c2 w1 hg).mono ?_
      rintro e u2 ⟨rfl, rfl⟩
      exact ⟨_, rfl, rfl, hG.1, (fun h => absurd h (by omega))⟩
    refine OweAllC.cons (owesC_val 2 (by decide +kernel) (by decide) rfl rfl fun k' a w1 x hk ha hG hV => ?_) ?_
    · skip
      have h17 : a.tmps.getD 17 undef = .int .i64 (or2 c1 c2) := hV.get 17 (by decide +kernel)
      exact ⟨.int .i64 (or2 c1 c2), wanted_free rfl, by simp [execOp, go_sem, h17], rfl⟩
    exact OweAllC.nil
    ) ?_
  intro f wz xz hG hx hv
  have e5 : f 5 = .int .i64 (or2 c1 c2) := hv 12 _ 5 rfl rfl
  first | (rename_i hK; refine hK _ _ ?_; clear hK) | (rename_i hK _; refine hK _ _ ?_; clear hK) | (rename_i hK _ _; refine hK _ _ ?_; clear hK) | (rename_i hK _ _ _; refine hK _ _ ?_; clear hK)
  clear hv hx
  simp only [dsts, puts, List.filterMap_cons, List.filterMap_nil, List.foldl_cons, List.foldl_nil, Act.put, List.setIfInBounds_toArray, List.set_cons_succ, List.set_cons_zero, e5]
  clear e5
  have HE := Lib.hid hG.1
  clear hG
  go_wp2_with fail
  go_ret
  exact ⟨rfl, HE.out⟩
end Go.Proofs.Ytdiiechkhlbkcaa.PS

namespace Go.Proofs.Ytdiiechkhlbkcaa.PS
open Go.RowKit Go.Sort Go.Maps Go.Proofs.Ytdiiechkhlbkcaa

theorem psort_any (p b gb : Nat) (M : Int) (L : List It) (q : Option Addr) (c : Nat) (ks : List KS) (w : World) (h : PoolAt 60 w p b M L) (hbx : w.heap[gb]? = some (.cells #[.pointer (some ⟨p, 0, none⟩)] 24 (0, 0)))
    (hR : Rw encS 9 w q c (ks.map (·.1))) (hq : ∀ a, q = some a → a.block ≠ p ∧ a.block ≠ b ∧ a.block ≠ gb) (hn : ks.length ≤ 1000000) :
    Calls Try.prog 29 #[.slice q ks.length c, .func (.func 30) #[] #[.pointer (some ⟨gb, 0, none⟩)]] w fun r w' => r = .returned (.tuple #[]) ∧
      Rw encS 9 w' q c ((ks.mergeSort fun x y => !(ltOf (cfK fun k => rkL k L)) y x).map (·.1)) ∧ Mod (fun i => ∃ a, q = some a ∧ i = a.block) w w' := by
  by_cases h0 : ks = []
  · subst h0
    have h := AnyF.slices_SortFunc_none (P := Try.prog) (ρ := Try.sortS_ren) { Try.sortS with } q c (.func (.func 30) #[] #[.pointer (some ⟨gb, 0, none⟩)]) w
    refine Calls.mono (show Calls Try.prog 29 _ _ _ from h) ?_
    rintro r w' ⟨rfl, rfl⟩
    refine ⟨rfl, ?_, Mod.refl _ _⟩
    rw [show ([] : List KS).mergeSort _ = [] by simp]; exact hR
  · rcases hR.shape with ⟨_, e, _⟩ | ⟨g, rfl, hgl, _⟩
    · exact absurd (List.map_eq_nil_iff.1 e) h0
    · obtain ⟨n1, n2, n3⟩ := hq _ rfl
      have eg : ∀ args w, (callFunc 30 args).run Try.prog w = .ok (.enter 30 args) w := enters_of Try.func30 (by kernel_rfl) rfl
      have h := Any.slices_SortFunc_total Try.sortS encK (fun _ => rfl) (cfK fun k => rkL k L) (cfK_swo _) 30 #[.pointer (some ⟨gb, 0, none⟩)] g 0 c ks.toArray w eg
        (by
          intro m os dk hdk x y
          have hs := hR.sorted1 dk.toList (by rw [Array.length_toList, hdk, List.size_toArray]) m os
          rw [Array.toArray_toList] at hs
          have hP2 := h.kept hs.2 (fun e => n1 e.symm) (fun e => n2 e.symm)
          have hB2 := (hs.2.block gb (Array.getElem?_eq_some_iff.1 hbx).1 (fun e => n3 e.symm)).trans hbx
          exact cmp_any p b gb M L _ hP2 hB2 x.1 y.1 x.2 y.2)
        hR.holds1 hgl (by rw [List.size_toArray]; omega) (cfK_total _)
      rw [List.size_toArray] at h
      refine Calls.mono (show Calls Try.prog 29 _ _ _ from h) ?_
      rintro r w' ⟨rfl, m, os, rfl⟩
      have hs := hR.sorted1 (ks.mergeSort fun x y => !(ltOf (cfK fun k => rkL k L)) y x) (List.length_mergeSort _) m os
      exact ⟨rfl, hs.1, hs.2.mono (fun i _ e => ⟨_, rfl, e⟩)⟩
end Go.Proofs.Ytdiiechkhlbkcaa.PS
