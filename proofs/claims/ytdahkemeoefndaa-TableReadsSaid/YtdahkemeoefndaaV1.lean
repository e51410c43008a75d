/- Texts 1: what the laws lean on. -/
import Derived.WalkKit
import Derived.WalkSpells
import Derived.WalkLawsBesides
import Derived.Lib.Hide
import Derived.Laws.BytesArg
import Derived.Deep.RegionLaw
import Derived.Lib.BitFns
import Derived.Test.YtdahkemeoefndaaRows
import Derived.Test.YtdahkemeoefndaaShelf
import Derived.Deep.DeepCutAuto
import Derived.Deep.AppendLies
import Derived.Deep.AppendSrc
import Derived.Test.YtdahkemeoefndaaProg
import Derived.RangeFuncBox
import Derived.Deep.CutBlock
import Derived.Deep.LoopGhost
import Derived.OwnWalk
import Derived.Laws.Rows
import Derived.Orders
import Derived.Tactics
namespace Go.Proofs.Ytdahkemeoefndaa
open Go.RowKit

/-- Of the old blocks only those of S may have turned. -/
structure Mod (S : Nat → Prop) (w w' : World) : Prop where
  os : w'.os = w.os
  tape : w'.tape = w.tape
  output : w'.output = w.output
  size : w.heap.size ≤ w'.heap.size
  block : ∀ k, k < w.heap.size → ¬ S k → w'.heap[k]? = w.heap[k]?

theorem Mod.refl (S : Nat → Prop) (w : World) : Mod S w w := ⟨rfl, rfl, rfl, Nat.le_refl _, fun _ _ _ => rfl⟩
theorem Mod.trans {S T : Nat → Prop} {a b c : World} (h : Mod S a b) (k : Mod T b c) (hs : ∀ i, i < a.heap.size → T i → S i) : Mod S a c :=
  ⟨k.os.trans h.os, k.tape.trans h.tape, k.output.trans h.output, Nat.le_trans h.size k.size,
    fun i hi hn => (k.block i (Nat.lt_of_lt_of_le hi h.size) (fun ht => hn (hs i hi ht))).trans (h.block i hi hn)⟩
theorem Mod.mono {S T : Nat → Prop} {a b : World} (h : Mod S a b) (hs : ∀ i, i < a.heap.size → S i → T i) : Mod T a b :=
  ⟨h.os, h.tape, h.output, h.size, fun i hi hn => h.block i hi (fun hS => hn (hs i hi hS))⟩
theorem Mod.drew {S : Nat → Prop} {a w : World} (h : Mod S a w) : Mod S a w.drew := ⟨h.os, h.tape, h.output, h.size, h.block⟩
theorem Mod.drewN {S : Nat → Prop} {a w : World} (h : Mod S a w) (n : Nat) : Mod S a (w.drewN n) := ⟨h.os, h.tape, h.output, h.size, h.block⟩
theorem Mod.setRow {S : Nat → Prop} {a w : World} (h : Mod S a w) {g : Nat} (cs : Array Value) : Mod (fun k => S k ∨ k = g) a (w.setRow g cs) :=
  ⟨h.os, h.tape, h.output, by have := h.size; simp [World.setRow]; omega, fun i hi hn => (setRow_other w g i _ (fun e => hn (Or.inr e))).trans (h.block i hi (fun hS => hn (Or.inl hS)))⟩
/-- What was written anew alone. -/
theorem Mod.drop_new {S : Nat → Prop} {a b : World} {g : Nat} (h : Mod (fun k => S k ∨ k = g) a b) (hg : a.heap.size ≤ g) : Mod S a b :=
  h.mono (fun i hi h => h.elim id (fun e => by omega))
theorem Mod.alloc {S : Nat → Prop} {a w : World} (h : Mod S a w) (o : Obj) : Mod S a (w.alloc o) :=
  ⟨h.os, h.tape, h.output, by have := h.size; simp; omega, fun i hi hn => (Below.heap_alloc _ _ _ (Nat.lt_of_lt_of_le hi h.size)).trans (h.block i hi hn)⟩
theorem Mod.setCell {S : Nat → Prop} {a w : World} (h : Mod S a w) {p : Addr} (hp : p.block < a.heap.size → S p.block) (u : Value) : Mod S a (w.setCell p u) :=
  ⟨h.os, h.tape, h.output, by have := h.size; simp [World.setCell]; omega, fun i hi hn => (Below.heap_setCell _ _ _ _ (fun e => hn (by subst e; exact hp hi))).trans (h.block i hi hn)⟩
theorem Mod.grown {S : Nat → Prop} {a w w' : World} {row : Option Nat} (h : Mod S a w) (hg : w.grownBy w' row) (hr : ∀ k, row = some k → k < a.heap.size → S k) : Mod S a w' :=
  ⟨hg.os.trans h.os, hg.tape.trans h.tape, hg.output.trans h.output, Nat.le_trans h.size hg.size,
    fun i hi hn => (hg.block i (Nat.lt_of_lt_of_le hi h.size) (fun e => hn (hr i e.symm hi))).trans (h.block i hi hn)⟩
theorem Mod.of_below {B : Nat} {w w' : World} (h : Below B w w') : Mod (fun k => B ≤ k) w w' :=
  ⟨h.os, h.tape, h.output, h.size, fun k _ hn => h.block k (by omega)⟩
theorem Mod.to_below {S : Nat → Prop} {w w' : World} {B : Nat} (h : Mod S w w') (hB : B ≤ w.heap.size) (hS : ∀ k, k < B → ¬ S k) : Below B w w' :=
  ⟨h.os, h.tape, h.output, h.size, fun k hk => h.block k (by omega) (hS k hk)⟩

def vals (bs : List UInt8) : List Value := bs.map fun b => Value.int .u8 b.toNat
theorem vals_len (bs : List UInt8) : (vals bs).length = bs.length := by simp [vals]
theorem vals_app (a b : List UInt8) : vals (a ++ b) = vals a ++ vals b := by simp [vals]

/-- Block b is a struct of one field, a slice value v that owns the bytes bs in a row of its own. -/
structure OutAt (T E : TypeId) (w : World) (b : Nat) (v : Value) (bs : List UInt8) : Prop where
  blk : w.heap[b]? = some (.cells #[v] T (0, 0))
  own : w.ownsRow 0 E 1 v bs.length (vals bs)
  ne : v.ownBlock ≠ some b

theorem OutAt.cell {T E : TypeId} {w : World} {b : Nat} {v : Value} {bs : List UInt8} (h : OutAt T E w b v bs) : w.cell? ⟨b, 0, none⟩ = some v := by
  unfold World.cell?; rw [h.blk]; rfl
theorem OutAt.froz {T E : TypeId} {w : World} {b : Nat} {v : Value} {bs : List UInt8} (h : OutAt T E w b v bs) : w.frozen? ⟨b, 0, none⟩ = false := by
  unfold World.frozen?; rw [h.blk]; rfl
theorem OutAt.lt {T E : TypeId} {w : World} {b : Nat} {v : Value} {bs : List UInt8} (h : OutAt T E w b v bs) : b < w.heap.size := (Array.getElem?_eq_some_iff.1 h.blk).1
theorem OutAt.fresh {T E : TypeId} (w : World) : OutAt T E (w.alloc (.cells #[.slice none 0 0] T)) w.heap.size (.slice none 0 0) [] :=
  ⟨heap_alloc_new w _, World.ownsRow_nil _ _ _ _, by simp [Value.ownBlock]⟩
theorem OutAt.kept {T E : TypeId} {w w' : World} {b : Nat} {v : Value} {bs : List UInt8} {S : Nat → Prop} (h : OutAt T E w b v bs) (hm : Mod S w w') (hb : ¬ S b) (hv : ∀ k, v.ownBlock = some k → ¬ S k) : OutAt T E w' b v bs := by
  refine ⟨(hm.block b h.lt hb).trans h.blk, ⟨h.own.1, ?_⟩, h.ne⟩
  rcases h.own.2 with hn | ⟨g, cap, cur, rfl, hg, hh, r⟩
  · exact .inl hn
  · exact .inr ⟨g, cap, cur, rfl, hg, (hm.block g (Array.getElem?_eq_some_iff.1 hh).1 (hv g rfl)).trans hh, r⟩

theorem OutAt.alloc {T E : TypeId} {w : World} {b : Nat} {v : Value} {bs : List UInt8} (h : OutAt T E w b v bs) (o : Obj) : OutAt T E (w.alloc o) b v bs :=
  h.kept ((Mod.refl (fun _ => False) w).alloc o) (fun h => h) (fun _ _ h => h)

/-- The struct's field is stored anew: a slice value that owns more. -/
theorem OutAt.store {T E : TypeId} {w w1 : World} {b : Nat} {v v1 : Value} {bs bs1 : List UInt8} (h : OutAt T E w b v bs) (hg : w.grownBy w1 v.ownBlock) (hown : w1.ownsRow 0 E 1 v1 bs1.length (vals bs1)) (hne : v1.ownBlock ≠ some b) :
    OutAt T E (w1.setCell ⟨b, 0, none⟩ v1) b v1 bs1 := by
  have hb : w1.heap[b]? = some (.cells #[v] T (0, 0)) := (hg.block b h.lt (fun e => h.ne e.symm)).trans h.blk
  refine ⟨?_, ⟨hown.1, ?_⟩, hne⟩
  · have := heap_setCell_same w1 b 0 #[v] T v1 hb
    simpa using this
  · rcases hown.2 with hn | ⟨g, cap, cur, rfl, hg', hh, r⟩
    · exact .inl hn
    · refine .inr ⟨g, cap, cur, rfl, hg', ?_, r⟩
      rw [Below.heap_setCell _ _ _ _ (by intro e; exact hne (by simp [Value.ownBlock, e]))]
      exact hh

/-- A slice value that owns something shows its address. -/
theorem ownsRow_shape {w : World} {base e size n : Nat} {v : Value} {xs : List Value} (h : w.ownsRow base e size v n xs) (hn : 0 < n) : ∃ g cap, v = .slice (some ⟨g, 0, none⟩) n cap := by
  rcases h.2 with ⟨_, h0⟩ | ⟨g, cap, _, hv, _⟩
  · omega
  · exact ⟨g, cap, hv⟩

/-- An append to an owned row, as a step of a region that draws. -/
theorem step_append_own {P : Program} {ops : Array Oper} {o : Oper} {a : Act} {w : World} {K : Act → World → Prop} {Q : Exit → Act → World → Prop} {E : Prop}
    (hgd : o.guard = none) (s x : Operand) (t : TypeId)
    (ho : o.op = .call { callee := .builtin .append, args := #[s, x], argTypes := #[t, t] })
    (base : Nat) (e : TypeId) (i : TypeInfo) (z : Value) (size bytes : Nat) (ht : P.underlying t = some (.slice e)) (hi : P.info? e = some i) (hz : i.zero = some z)
    (hsize : i.size = size) (hby : i.bytes = bytes) (hzs : z.cells.size = size) (hsz : 0 < size)
    (v : Value) (n : Nat) (xs : List Value) (hs : a.eval s = v) (hown : w.ownsRow base e size v n xs)
    (ad : Addr) (m c : Nat) (news : List Value) (hx : a.eval x = .slice (some ad) m c) (hl : news.length = m * size) (hnews : ∀ j u, news[j]? = some u → w.cell? (ad.add j) = some u) (h1 : ∀ u ∈ news, u.oneCell' = true)
    (h63 : n + m ≤ maxLen) (hbytes : (n + m) * bytes ≤ 140737488355328) (hbase : base ≤ w.heap.size)
    (h : ∀ v' w', w'.ownsRow base e size v' (n + m) (xs ++ news) → w.grownBy w' v.ownBlock → (v' = .slice none 0 0 ↔ v = .slice none 0 0 ∧ m = 0) → K (a.put o.dst v') w') :
    if Region.wanted o (yielded ops a.tmps) = true then Oper.wp P o a w K Q else E := by
  have hw : Region.wanted o (yielded ops a.tmps) = true := by simp [Region.wanted, hgd]
  rw [if_pos hw]
  exact wp_append_own w s x t ho base e i z size bytes ht hi hz hsize hby hzs hsz v n xs hs hown ad m c news hx hl hnews h1 h63 hbytes hbase h

theorem bapp1 (a : UInt8) (l : List UInt8) : (ByteArray.mk #[a] ++ ByteArray.mk l.toArray) = ByteArray.mk (a :: l).toArray := ByteArray.mk_append_mk [a] l
theorem ret_str {a b : ByteArray} (h : a = b) : Ending.returned (.string a) = .returned (.string b) := by rw [h]
theorem val_str {a b : ByteArray} (h : a = b) : Value.string a = .string b := by rw [h]
theorem val_int {k : IntKind} {a b : Int} (h : a = b) : Value.int k a = .int k b := by rw [h]
theorem ret_int {k : IntKind} {a b : Int} (h : a = b) : Ending.returned (.int k a) = .returned (.int k b) := by rw [h]

theorem convLit1 {P : Program} (src dst e : TypeId) (hs : P.underlying src = some (.slice e)) (he : P.underlying e = some (.int .u8)) (hd : P.underlying dst = some .string) (w : World) (x : Int) :
    (convert src dst (.slice (some ⟨w.heap.size, 0, none⟩) 1 1)).run P (w.alloc (.cells #[.int .u8 x] e)) = .ok (.string ⟨#[UInt8.ofNat x.toNat]⟩) (w.alloc (.cells #[.int .u8 x] e)) := by
  have h := run_convert_bytes_arg (P := P) (w.alloc (.cells #[.int .u8 x] e)) src e hs he w.heap.size 0 1 1 [x] rfl (fun i hi => by
    obtain rfl : i = 0 := by omega
    unfold World.cell?
    rw [heap_alloc_new]
    rfl) dst hd
  simpa [strOfNums] using h

/-- The old world's name is kept. -/
theorem Lib.flip {P : Program} {f : FuncId} {args : Array Value} {w : World} {v : Ending} (h : Calls P f args w fun e w' => e = v ∧ w' = w) : Calls P f args w fun e w' => e = v ∧ w = w' :=
  h.mono fun _ _ ⟨a, b⟩ => ⟨a, b.symm⟩

/-- A shift to the right of a number from 0 on. -/
theorem shr_nat {P : Program} (k j : IntKind) (n s : Nat) (w : World) (hs : s ≤ k.bits) : (Op.shift .shr k (n : Int) j (s : Int)).run P w = .ok (.int k ((n / 2 ^ s : Nat) : Int)) w := by
  have h0 : ¬ ((s : Int) < 0) := by omega
  have hm : min ((s : Int)).toNat k.bits = s := by rw [Int.toNat_natCast]; exact Nat.min_eq_left hs
  unfold Op.shift
  rw [if_neg h0]
  simp only [hm]
  have : (n : Int).fdiv (2 ^ s) = ((n / 2 ^ s : Nat) : Int) := by
    rw [Int.fdiv_eq_ediv_of_nonneg _ (by exact_mod_cast Nat.zero_le (2 ^ s))]
    push_cast
    rfl
  rw [this]
  rfl

/-- A whole variable is stored: an array or a struct by value. -/
theorem wp_store_row {P : Program} {o : Oper} {a : Act} {w : World} {K : Act → World → Prop} {Q : Exit → Act → World → Prop} (ty : TypeId) (x y : Operand) (ho : o.op = .store ty x y)
    (g : Nat) (hx : a.eval x = .pointer (some ⟨g, 0, none⟩)) (t : TypeId) (old cs : Array Value) (hy : a.eval y = .agg cs) (hg : w.heap[g]? = some (.cells old t (0, 0))) (hsz : old.size = cs.size)
    (hi : (P.info? ty).map (·.size) = some cs.size) (h1 : ∀ v ∈ cs.toList, v.oneCell' = true)
    (h : K (a.put o.dst undef) (w.setRow g cs)) : o.wp P a w K Q := by
  have hst := run_storeCells_at P g 0 t cs.toList 0 old w hg (by simp; omega) h1
  have e : (old.toList.take (0 + 0) ++ cs.toList ++ old.toList.drop (0 + 0 + cs.toList.length)).toArray = cs := by
    have : old.toList.drop (0 + 0 + cs.toList.length) = [] := List.drop_eq_nil_of_le (by simp; omega)
    rw [this]; simp
  rw [e] at hst
  cases hq : P.info? ty with
  | none => simp [hq] at hi
  | some i =>
    have hs : i.size = cs.size := by simpa [hq] using hi
    have hv : (storeVar ty ⟨g, 0, none⟩ (.agg cs)).run P w = .ok () (w.setRow g cs) := by
      simp [storeVar, sizeOf, typeInfo, hq, hs, Value.cells, hst]
    unfold Oper.wp execOp
    simp only [ho, hx, hy, Instr.storeAt, Instr.sureAddr, Sem.run_bind, Sem.run_pure, Result.andThen_ok, hv]
    exact h

theorem wpList_store_row {P : Program} {ops : Array Oper} {rest : List Oper} {o : Oper} {a : Act} {w : World} {Q : Exit → Act → World → Prop} (hgd : o.guard = none) (hdst : o.dst = none) (ty : TypeId) (x y : Operand) (ho : o.op = .store ty x y)
    (g : Nat) (hx : a.eval x = .pointer (some ⟨g, 0, none⟩)) (t : TypeId) (old cs : Array Value) (hy : a.eval y = .agg cs) (hg : w.heap[g]? = some (.cells old t (0, 0))) (hsz : old.size = cs.size)
    (hi : (P.info? ty).map (·.size) = some cs.size) (h1 : ∀ v ∈ cs.toList, v.oneCell' = true)
    (h : wpList P ops Q rest a (w.setRow g cs)) : wpList P ops Q (o :: rest) a w :=
  wpList_plain hgd fun _ hK => wp_store_row ty x y ho g hx t old cs hy hg hsz hi h1 (hK _ _ (by rw [hdst]; exact h))

/-- Numbers as cells. -/
def nums (k : IntKind) (A : List Nat) : List Value := A.map fun (x : Nat) => Value.int k (x : Int)
theorem nums_len (k : IntKind) (A : List Nat) : (nums k A).length = A.length := by simp [nums]
theorem nums_one (k : IntKind) (A : List Nat) : ∀ v ∈ nums k A, v.oneCell' = true := by
  intro v hv; obtain ⟨x, _, rfl⟩ := List.mem_map.1 hv; rfl
theorem nums_get (k : IntKind) (A : List Nat) (i : Nat) (h : i < A.length) : (nums k A)[i]? = some (.int k (A[i]'h)) := by simp [nums, h]
theorem nums_set (k : IntKind) (A : List Nat) (i x : Nat) : (nums k A).set i (.int k x) = nums k (A.set i x) := by simp [nums, List.map_set]

/-- A block of numbers. -/
def RowAt (k : IntKind) (T : TypeId) (w : World) (g : Nat) (A : List Nat) : Prop := w.heap[g]? = some (.cells (nums k A).toArray T (0, 0))
theorem RowAt.cell {k : IntKind} {T : TypeId} {w : World} {g : Nat} {A : List Nat} (h : RowAt k T w g A) (i : Nat) (hi : i < A.length) : w.cell? ⟨g, i, none⟩ = some (.int k (A[i]'hi)) := by
  rw [cell_of_row w g i _ T (0, 0) h]; simpa using nums_get k A i hi
theorem RowAt.froz {k : IntKind} {T : TypeId} {w : World} {g : Nat} {A : List Nat} (h : RowAt k T w g A) (i : Nat) : w.frozen? ⟨g, i, none⟩ = false := frozen_of_row w g i _ T h
theorem RowAt.lt {k : IntKind} {T : TypeId} {w : World} {g : Nat} {A : List Nat} (h : RowAt k T w g A) : g < w.heap.size := (Array.getElem?_eq_some_iff.1 h).1
theorem RowAt.set {k : IntKind} {T : TypeId} {w : World} {g : Nat} {A : List Nat} (h : RowAt k T w g A) (i x : Nat) : RowAt k T (w.setCell ⟨g, i, none⟩ (.int k x)) g (A.set i x) := by
  have := heap_setCell_same w g i _ T (.int k x) h
  unfold RowAt
  rw [this, ← nums_set]
  simp
theorem RowAt.kept {k : IntKind} {T : TypeId} {w w' : World} {g : Nat} {A : List Nat} {S : Nat → Prop} (h : RowAt k T w g A) (hm : Mod S w w') (hg : ¬ S g) : RowAt k T w' g A := (hm.block g h.lt hg).trans h

/-- An array of numbers, by value, indexed. -/
theorem run_index_nums {P : Program} (T E : TypeId) (len : Nat) (k : IntKind) (A : List Nat) (i : Nat) (hi : i < A.length) (hT : P.underlying T = some (.array len E)) (hl : A.length = len)
    (hE : P.underlying E = some (.int k)) (hs : (P.info? E).map (·.size) = some 1) (w : World) :
    (Instr.index T (.agg (nums k A).toArray) (.int .i64 (i : Int))).run P w = .ok (.int k (A[i]'hi)) w := by
  have h1 : (0 : Int) ≤ i ∧ (i : Int) < len := by omega
  cases hq : P.info? E with
  | none => simp [hq] at hs
  | some j =>
    have hj : j.size = 1 := by simpa [hq] using hs
    have hg := nums_get k A i hi
    unfold Instr.index
    simp only [asIntOf, Sem.run_bind, Sem.run_pure, Result.andThen_ok, run_underlying hT]
    rw [if_pos h1]
    simp [sizeOf, typeInfo, hq, hj, part, isAgg, run_underlying hE, hg]
end Go.Proofs.Ytdahkemeoefndaa

namespace Go.Proofs.Ytdahkemeoefndaa

def beBytes (n : Nat) : List UInt8 := if n = 0 then [] else beBytes (n / 256) ++ [UInt8.ofNat (n % 256)]
termination_by n
decreasing_by omega

theorem beBytes_zero : beBytes 0 = [] := by rw [beBytes]; simp
theorem beBytes_pos (n : Nat) (h : 0 < n) : beBytes n = beBytes (n / 256) ++ [UInt8.ofNat (n % 256)] := by
  rw [beBytes]; simp [show n ≠ 0 by omega]
theorem beBytes_len (k : Nat) : ∀ n, n < 256 ^ k → (beBytes n).length ≤ k := by
  induction k with
  | zero => intro n h; simp at h; subst h; simp [beBytes_zero]
  | succ k ih =>
    intro n h
    by_cases h0 : 0 < n
    · rw [beBytes_pos n h0]
      have := ih (n / 256) (by rw [Nat.pow_succ] at h; omega)
      simp; omega
    · obtain rfl : n = 0 := by omega
      simp [beBytes_zero]

/-- The first k of the L bytes of n. -/
def digs (n L k : Nat) : List UInt8 := (List.range k).map fun i => UInt8.ofNat (n / 2 ^ (8 * (L - 1 - i)))
theorem digs_succ (n L k : Nat) : digs n L (k + 1) = digs n L k ++ [UInt8.ofNat (n / 2 ^ (8 * (L - 1 - k)))] := by
  simp [digs, List.range_succ]
theorem digs_len (n L k : Nat) : (digs n L k).length = k := by simp [digs]

theorem digs_up (n L : Nat) (k : Nat) (hk : k ≤ L) : digs (n / 256) L k = digs n (L + 1) k := by
  unfold digs
  apply List.map_congr_left
  intro i hi
  have hi' : i < k := List.mem_range.1 hi
  rw [Nat.div_div_eq_div_mul, show L + 1 - 1 - i = (L - 1 - i) + 1 by omega, Nat.mul_add, Nat.pow_add, Nat.mul_comm (2 ^ _)]

theorem ofNat_mod (n : Nat) : UInt8.ofNat (n % 256) = UInt8.ofNat n := by
  apply UInt8.toNat_inj.1; simp

theorem digs_be (L : Nat) : ∀ n, (beBytes n).length = L → digs n L L = beBytes n := by
  induction L with
  | zero => intro n h; rw [List.length_eq_zero_iff.1 h]; rfl
  | succ L ih =>
    intro n h
    by_cases h0 : 0 < n
    · rw [beBytes_pos n h0] at h ⊢
      simp at h
      rw [digs_succ, ← digs_up n L L (Nat.le_refl _), ih _ h]
      simp [ofNat_mod]
    · obtain rfl : n = 0 := by omega
      simp [beBytes_zero] at h

theorem beBytes_lo (n : Nat) : n < 256 ^ (beBytes n).length := by
  induction n using Nat.strongRecOn with
  | _ n ih =>
    by_cases h0 : 0 < n
    · rw [beBytes_pos n h0]
      have := ih (n / 256) (by omega)
      simp only [List.length_append, List.length_singleton, Nat.pow_succ]
      omega
    · obtain rfl : n = 0 := by omega
      simp [beBytes_zero]
theorem beBytes_hi (n : Nat) (h : 0 < n) : 256 ^ ((beBytes n).length - 1) ≤ n := by
  induction n using Nat.strongRecOn with
  | _ n ih =>
    rw [beBytes_pos n h]
    simp only [List.length_append, List.length_singleton, Nat.add_sub_cancel]
    by_cases h1 : 0 < n / 256
    · have := ih (n / 256) (by omega) h1
      have hl : 0 < (beBytes (n / 256)).length := by rw [beBytes_pos _ h1]; simp
      obtain ⟨l, hl'⟩ : ∃ l, (beBytes (n / 256)).length = l + 1 := ⟨_, (Nat.succ_pred_eq_of_pos hl).symm⟩
      rw [hl'] at this ⊢
      simp only [Nat.add_sub_cancel] at this
      rw [Nat.pow_succ]; omega
    · rw [show n / 256 = 0 by omega, beBytes_zero]; simp; omega

theorem bitLenAux_spec (f : Nat) : ∀ x, x < 2 ^ f → x < 2 ^ Lib.bitLenAux f x ∧ (0 < x → 0 < Lib.bitLenAux f x ∧ 2 ^ (Lib.bitLenAux f x - 1) ≤ x) ∧ Lib.bitLenAux f x ≤ f := by
  induction f with
  | zero => intro x h; simp at h; subst h; simp [Lib.bitLenAux]
  | succ f ih =>
    intro x h
    unfold Lib.bitLenAux
    by_cases h0 : x = 0
    · subst h0; simp
    · rw [if_neg h0]
      obtain ⟨a, b, c⟩ := ih (x / 2) (by rw [Nat.pow_succ] at h; omega)
      refine ⟨by rw [Nat.pow_add]; omega, fun _ => ⟨by omega, ?_⟩, by omega⟩
      rw [Nat.add_sub_cancel_left]
      by_cases h1 : 0 < x / 2
      · obtain ⟨p, q⟩ := b h1
        obtain ⟨l, hl⟩ : ∃ l, Lib.bitLenAux f (x / 2) = l + 1 := ⟨_, (Nat.succ_pred_eq_of_pos p).symm⟩
        rw [hl] at q ⊢
        simp only [Nat.add_sub_cancel] at q
        rw [Nat.pow_succ]; omega
      · have : x / 2 = 0 := by omega
        rw [this]
        cases f <;> simp [Lib.bitLenAux] <;> omega

theorem bitLen_bytes (n : Nat) (h : n < 2 ^ 64) : Lib.bitLen n ≤ 64 ∧ (Lib.bitLen n + 7) / 8 = (beBytes n).length := by
  obtain ⟨a, b, c⟩ := bitLenAux_spec 64 n h
  refine ⟨c, ?_⟩
  by_cases h00 : n = 0
  · subst h00; rw [beBytes_zero]; rfl
  show (Lib.bitLenAux 64 n + 7) / 8 = _
  generalize Lib.bitLenAux 64 n = q at a b c
  have h1 := beBytes_lo n
  have h0 : 0 < n := by omega
  have h2 := beBytes_hi n h0
  obtain ⟨b1, b2⟩ := b h0
  generalize (beBytes n).length = L at h1 h2
  rw [show (256 : Nat) = 2 ^ 8 from rfl, ← Nat.pow_mul] at h1 h2
  have e1 : q - 1 < 8 * L := (Nat.pow_lt_pow_iff_right (by decide)).1 (Nat.lt_of_le_of_lt b2 h1)
  have e2 : 8 * (L - 1) < q := (Nat.pow_lt_pow_iff_right (by decide)).1 (Nat.lt_of_le_of_lt h2 a)
  omega

/-- A number's bytes, as the chapter says (a number below 0 counts as 0). -/
def numL (x : Int) : List UInt8 := UInt8.ofNat (beBytes x.toNat).length :: beBytes x.toNat
theorem numL_eq (n : Nat) : numL n = UInt8.ofNat (beBytes n).length :: digs n (beBytes n).length (beBytes n).length := by
  unfold numL; rw [Int.toNat_natCast, digs_be _ n rfl]

/-- The number whose bytes they are. -/
def beVal (l : List UInt8) : Nat := l.foldl (fun a b => a * 256 + b.toNat) 0
theorem beVal_snoc (l : List UInt8) (b : UInt8) : beVal (l ++ [b]) = beVal l * 256 + b.toNat := by simp [beVal]
theorem beVal_take_lt (l : List UInt8) : ∀ k, k ≤ l.length → beVal (l.take k) < 256 ^ k
  | 0, _ => by simp [beVal]
  | k + 1, h => by
    have ih := beVal_take_lt l k (by omega)
    rw [List.take_succ_eq_append_getElem (show k < l.length by omega), beVal_snoc, Nat.pow_succ]
    have := (l[k]'(by omega)).toNat_lt
    omega
theorem take_snoc (l : List UInt8) (k : Nat) (h : k < l.length) : l.take (k + 1) = l.take k ++ [l[k]] := by
  rw [List.take_succ_eq_append_getElem h]

/-- What stands at the head of bytes: a number, how many bytes it takes, the error's number. -/
def headL : List UInt8 → Nat × Nat × Int
  | [] => (0, 0, 2)
  | c :: r =>
    if c.toNat = 0 then (0, 1, 0) else if 8 < c.toNat then (0, 0, 3) else
    match r with
    | [] => (0, 0, 2)
    | d :: _ => if d.toNat = 0 then (0, 0, 3) else if r.length < c.toNat then (0, 0, 2) else
      if 9223372036854775807 < beVal (r.take c.toNat) then (0, 0, 3) else (beVal (r.take c.toNat), c.toNat + 1, 0)

theorem beVal_be (n : Nat) : beVal (beBytes n) = n := by
  induction n using Nat.strongRecOn with
  | _ n ih =>
    by_cases h0 : 0 < n
    · rw [beBytes_pos n h0, beVal_snoc, ih _ (by omega)]
      simp; omega
    · obtain rfl : n = 0 := by omega
      rw [beBytes_zero]; rfl
theorem beBytes_first (n : Nat) (h : 0 < n) : ∃ d r, beBytes n = d :: r ∧ d.toNat ≠ 0 := by
  induction n using Nat.strongRecOn with
  | _ n ih =>
    rw [beBytes_pos n h]
    by_cases h1 : 0 < n / 256
    · obtain ⟨d, r, e, hd⟩ := ih _ (by omega) h1
      exact ⟨d, r ++ [UInt8.ofNat (n % 256)], by rw [e]; rfl, hd⟩
    · rw [show n / 256 = 0 by omega, beBytes_zero]
      exact ⟨_, [], rfl, by simp; omega⟩
theorem headL_num (n : Nat) (h : n ≤ 9223372036854775807) (r : List UInt8) : headL (numL n ++ r) = (n, (numL n).length, 0) := by
  have hl := beBytes_len 8 n (by simp; omega)
  unfold numL
  rw [Int.toNat_natCast]
  have hc : (UInt8.ofNat (beBytes n).length).toNat = (beBytes n).length := by simp; omega
  by_cases h0 : 0 < n
  · obtain ⟨d, t, e, hd⟩ := beBytes_first n h0
    have hv := beVal_be n
    rw [e] at hl hc hv ⊢
    simp only [List.cons_append, headL, hc]
    rw [if_neg (by simp), if_neg (by simp only [List.length_cons] at hl ⊢; omega), if_neg hd, if_neg (by simp)]
    have e2 : (d :: (t ++ r)).take (d :: t).length = d :: t := by simp
    rw [e2, hv, if_neg (by omega)]
    simp
  · obtain rfl : n = 0 := by omega
    rw [beBytes_zero]; rfl
theorem numL_toNat (x : Int) : numL x = numL (x.toNat : Int) := by unfold numL; rw [Int.toNat_natCast]
theorem numL_inj (n m : Nat) (hn : n ≤ 9223372036854775807) (hm : m ≤ 9223372036854775807) (r : List UInt8) (h : numL m = numL n ++ r) : n = m := by
  have a := headL_num n hn r
  have b := headL_num m hm []
  rw [List.append_nil, h, a] at b
  exact (Prod.mk.injEq _ _ _ _ ▸ b).1

end Go.Proofs.Ytdahkemeoefndaa

namespace Go.Proofs.Ytdahkemeoefndaa
open Go.RowKit

theorem Try.info5 : (Try.prog.info? 5).map (fun i => (i.zero, i.size, i.bytes)) = some (some (.int .u8 0), 1, 1) := by kernel_rfl

def NumPost (b : Nat) (v : Value) (out : List UInt8) (w : World) (r : Ending) (w' : World) : Prop :=
  r = .returned (.pointer (some ⟨b, 0, none⟩)) ∧ ∃ v', OutAt 53 5 w' b v' out ∧ Mod (fun k => k = b ∨ v.ownBlock = some k) w w' ∧ (v'.ownBlock = v.ownBlock ∨ ∀ k, v'.ownBlock = some k → w.heap.size ≤ k)

def LoopRel (b : Nat) (v : Value) (out : List UInt8) (w w' : World) : Prop :=
  ∃ v', OutAt 53 5 w' b v' out ∧ Mod (fun k => k = b ∨ v.ownBlock = some k) w w' ∧ (v'.ownBlock = v.ownBlock ∨ ∀ k, v'.ownBlock = some k → w.heap.size ≤ k)

theorem LoopRel.next {b : Nat} {v : Value} {out : List UInt8} {w w1 w2 : World} {v1 : Value} {x : UInt8} {g cap : Nat} (hb : b < w.heap.size)
    (hO : OutAt 53 5 w1 b v1 out) (hM : Mod (fun k => k = b ∨ v.ownBlock = some k) w w1) (hv : v1.ownBlock = v.ownBlock ∨ ∀ k, v1.ownBlock = some k → w.heap.size ≤ k)
    (W : World) (hMW : Mod (fun _ => False) w1 W)
    (hown : w2.ownsRow 0 5 1 (.slice (some ⟨g, 0, none⟩) (out.length + 1) cap) (out.length + 1) (vals out ++ [.int .u8 x.toNat])) (hgrow : W.grownBy w2 v1.ownBlock) (hg : v1.ownBlock = some g ∨ g = W.heap.size) :
    LoopRel b v (out ++ [x]) w (w2.setCell ⟨b, 0, none⟩ (.slice (some ⟨g, 0, none⟩) (out.length + 1) cap)) := by
  have hbW : b < W.heap.size := Nat.lt_of_lt_of_le hO.lt hMW.size
  have hOW : OutAt 53 5 W b v1 out := hO.kept hMW (by simp) (by simp)
  have hbg : g ≠ b := by
    rcases hg with h | h
    · intro e; subst e; exact hO.ne h
    · omega
  refine ⟨_, hOW.store hgrow (by simpa [vals] using hown) (by simp [Value.ownBlock, hbg]), ?_, ?_⟩
  · refine ((hM.trans hMW (by simp)).grown hgrow ?_).setCell (fun _ => Or.inl rfl) _
    intro k hk hlt
    rcases hv with h | h
    · exact Or.inr (h ▸ hk)
    · have := h k hk; omega
  · rcases hg with h | h
    · rcases hv with h' | h'
      · left; rw [← h', h]; rfl
      · right; intro k hk; simp [Value.ownBlock] at hk; subst hk; exact h' _ h
    · right; intro k hk; simp [Value.ownBlock] at hk; subst hk
      have h1 := hM.size; have h2 := hMW.size; omega

theorem LoopRel.step {b : Nat} {v : Value} {out : List UInt8} {w w1 w2 W : World} {v1 : Value} {x : UInt8} {y : Int} {g cap : Nat} (hb : b < w.heap.size)
    (hO : OutAt 53 5 w1 b v1 out) (hM : Mod (fun k => k = b ∨ v.ownBlock = some k) w w1) (hv : v1.ownBlock = v.ownBlock ∨ ∀ k, v1.ownBlock = some k → w.heap.size ≤ k)
    (hgrow : W.grownBy w2 v1.ownBlock)
    (hown : w2.ownsRow 0 5 1 (.slice (some ⟨g, 0, none⟩) (out.length + 1) cap) (out.length + 1) (vals out ++ [.int .u8 y])) (hy : y = (x.toNat : Int)) (hg : v1.ownBlock = some g ∨ g = W.heap.size)
    (hMW : Mod (fun _ => False) w1 W) :
    w2.cell? ⟨b, 0, none⟩ = some v1 ∧ w2.frozen? ⟨b, 0, none⟩ = false ∧
    LoopRel b v (out ++ [x]) w (w2.setCell ⟨b, 0, none⟩ (.slice (some ⟨g, 0, none⟩) (out.length + 1) cap)) := by
  have hO2 := hO.kept hMW (by simp) (by simp)
  exact ⟨(World.cell?_of_block (hgrow.block b hO2.lt (fun e => hO2.ne e.symm))).trans hO2.cell,
    (World.frozen?_of_block (hgrow.block b hO2.lt (fun e => hO2.ne e.symm))).trans hO2.froz,
    LoopRel.next hb hO hM hv W hMW (by rw [← hy]; exact hown) hgrow hg⟩

set_option maxHeartbeats 400000 in
theorem num_any (x : Int) (b : Nat) (v : Value) (bs : List UInt8) (w : World) (hx0 : -9223372036854775808 ≤ x) (hxm : x ≤ 9223372036854775807) (hO : OutAt 53 5 w b v bs) (hlen : bs.length ≤ 1099511627776) :
    Calls Try.prog 20 #[.pointer (some ⟨b, 0, none⟩), .int .i64 x] w (NumPost b v (bs ++ numL x) w) := by
  obtain ⟨i0, hi, hz0, hz1, hz2⟩ := info_parts Try.info5
  have hc := hO.cell
  have hf := hO.froz
  go_enter Try.func20, Try.ntmps20
  go_upto_region 1 with fail
  go_cut [1] (fun s1 wx => ∃ n : Nat, s1 = .int .i64 n ∧ x.toNat = n ∧ w = wx)
  case first =>
    by_cases hxx : 0 ≤ x
    · obtain ⟨n, rfl⟩ := Int.eq_ofNat_of_zero_le hxx
      go_wp2_with fail
      go_meet
      exact ⟨n, rfl, rfl, rfl⟩
    · go_wp2_with fail
      go_meet
      exact ⟨0, by go_num, by omega, rfl⟩
  case rest =>
  obtain ⟨n, rfl, hn, rfl⟩ := hcut
  have hhi : (n : Int) ≤ 9223372036854775807 := by omega
  have h0 : (0 : Int) ≤ n := by omega
  have Hn := Lib.hid hn
  clear hn hx0 hxm
  obtain ⟨hq0, hL0⟩ := bitLen_bytes n (by omega)
  obtain ⟨q, hqe⟩ : ∃ q, q = Lib.bitLen n := ⟨_, rfl⟩
  obtain ⟨L, hLe⟩ : ∃ L, L = (beBytes n).length := ⟨_, rfl⟩
  rw [← hqe, ← hLe] at hL0
  rw [← hqe] at hq0
  have hq := hq0
  have hL8 : L ≤ 8 := by omega
  have HL : Hid (((q : Int) + 7) / 8 = (L : Int)) := Lib.hid (by omega)
  have Hout0 : Hid (bs ++ numL x = bs ++ [UInt8.ofNat L] ++ digs n L L) := Lib.hid (by unfold numL; rw [Hn.out, hLe, digs_be _ _ rfl]; simp)
  have Hqe := Lib.hid hqe
  have HLe := Lib.hid hLe
  clear hqe hLe hL0 hq0
  go_wp2_with fail
  refine (Lib.flip (Try.bits_Len n _ (by omega) (by omega))).mono ?_
  rintro e w' ⟨rfl, rfl⟩
  rw [Int.toNat_natCast, ← Hqe.out]
  go_wp2_with (at_builtin; refine wpList_append_lies _ rfl _ _ 51 rfl 0 5 i0 (.int .u8 0) 1 1 Try.underlying51 hi hz0 hz1 hz2 rfl (by decide) _ _ _ rfl (hO.own.alloc _) ⟨w.heap.size, 0, none⟩ 1 1 [.int .u8 (((q : Int) + 7) / 8)] rfl rfl ?c1 ?c2 ?c6 ?c3 ?c4 ?c5 _ rfl ?_)
  case c1 => exact cell_one_new _ _ _
  case c2 => intro u hu; simp at hu; subst hu; rfl
  case c6 => omega
  case c3 => unfold maxLen; omega
  case c4 => omega
  case c5 => omega
  intro g cap w1 hown1 hgrow1 hg1 hlt1
  have hx : (((q : Int) + 7) / 8) = ((UInt8.ofNat L).toNat : Int) := by rw [HL.out]; simp; omega
  have hrel0 : LoopRel b v (bs ++ [UInt8.ofNat L]) w (w1.setCell ⟨b, 0, none⟩ (.slice (some ⟨g, 0, none⟩) (bs.length + 1) cap)) :=
    LoopRel.next hO.lt hO (Mod.refl _ _) (Or.inl rfl) (w.alloc (.cells #[.int .u8 (((q : Int) + 7) / 8)] 5)) ((Mod.refl _ _).alloc _) (by rw [← hx]; exact hown1) hgrow1 (by simpa using hg1)
  have hc1 : w1.cell? ⟨b, 0, none⟩ = some v := (World.cell?_of_block (hgrow1.block b (by have := hO.lt; simp; omega) (fun e => hO.ne e.symm))).trans ((World.cell?_of_block (heap_alloc_old w _ hO.lt)).trans hc)
  have hf1 : w1.frozen? ⟨b, 0, none⟩ = false := (World.frozen?_of_block (hgrow1.block b (by have := hO.lt; simp; omega) (fun e => hO.ne e.symm))).trans ((World.frozen?_of_block (heap_alloc_old w _ hO.lt)).trans hf)
  have Hrel := Lib.hid hrel0
  clear hrel0 hgrow1 hown1
  rw [HL.out]
  go_wp2
  go_loopw [26] (fun i wr => ∃ k : Nat, k ≤ L ∧ i = .int .i64 k ∧ LoopRel b v (bs ++ [UInt8.ofNat L] ++ digs n L k) w wr)
    (fun i _ => L - (intOf i).toNat)
  case atStart => exact ⟨0, by omega, rfl, by simpa [digs] using Hrel.out⟩
  case round =>
    obtain ⟨k, hk, rfl, hR⟩ := hrel
    obtain ⟨v1, hO1, hM1, hv1⟩ := hR
    obtain ⟨out, hout⟩ : ∃ out : List UInt8, out = bs ++ [UInt8.ofNat L] ++ digs n L k := ⟨_, rfl⟩
    rw [← hout] at hO1
    have hol : out.length ≤ 1099511627800 := by have := digs_len n L k; rw [hout]; simp; omega
    have Hout := Lib.hid hout
    clear hout
    have hcr := hO1.cell
    have hfr := hO1.froz
    have hblt := hO1.lt
    clear hc1 hf1 hc hf
    by_cases hlt : k < L
    · go_wp2
      obtain ⟨s, hs⟩ : ∃ s : Nat, s = L - 1 - k := ⟨_, rfl⟩
      have e1 : IntKind.i64.wrap ((L : Int) - 1) = (L : Int) - 1 := IntWalk.i64_in _ (by omega)
      have e2 : IntKind.i64.wrap ((L : Int) - 1 - k) = (s : Int) := by rw [IntWalk.i64_in _ (by omega)]; omega
      obtain ⟨c, hcs⟩ : ∃ c : Nat, c = 8 * s := ⟨_, rfl⟩
      have e3 : IntKind.i64.wrap (8 * (s : Int)) = (c : Int) := by rw [IntWalk.i64_in _ (by omega)]; omega
      have hc64 : c ≤ 64 := by omega
      have Hxm : Hid (IntKind.u8.wrap ((n : Int) / 2 ^ c) = ((UInt8.ofNat (n / 2 ^ c)).toNat : Int)) := Lib.hid (by rw [IntKind.wrap_u8]; simp)
      have Hs := Lib.hid hs
      have Hcs := Lib.hid hcs
      clear hs hcs
      go_region_law (
        refine step_append_lies _ rfl (.tmp 33) (.tmp 42) 51 rfl 0 5 i0 (.int .u8 0) 1 1 Try.underlying51 hi hz0 hz1 hz2 rfl (by decide) v1 out.length (vals out) rfl ?_ ⟨wr.heap.size, 0, none⟩ 1 1 [.int .u8 (IntKind.u8.wrap ((n : Int) / 2 ^ c))] rfl rfl ?_ ?_ ?_ ?_ ?_ ?_ _ rfl ?_
        · exact (hO1.own.alloc _)
        · exact cell_one_new _ _ _
        · intro u hu; simp at hu; subst hu; rfl
        · omega
        · unfold maxLen; omega
        · omega
        · omega
        intro g2 cap2 w2 hown2 hgrow2 hg2 hlt2
        obtain ⟨hc2, hf2, hr2⟩ := LoopRel.step (x := UInt8.ofNat (n / 2 ^ c)) hO.lt hO1 hM1 hv1 hgrow2 hown2 Hxm.out hg2 (by first | exact ((Mod.refl _ _).alloc _).drew | exact (Mod.refl _ _).drew.alloc _)
        have Hrel2 := Lib.hid hr2
        clear hr2 hown2 hgrow2 hg2 hlt2)
      all_goals
        go_wp2
        go_roundw
        case rel => exact ⟨k + 1, by omega, by go_num, by
          rw [digs_succ, ← List.append_assoc, ← Hout.out, ← Hs.out, ← Hcs.out]
          exact Hrel2.out⟩
        case measure => simp [intOf]; omega
    · obtain rfl : k = L := by omega
      go_wp2
      go_ret
      exact ⟨rfl, v1, by rw [Hout0.out, ← Hout.out]; exact hO1, hM1, hv1⟩
end Go.Proofs.Ytdahkemeoefndaa

namespace Go.Proofs.Ytdahkemeoefndaa
open Go.RowKit

theorem heap_setCells_at (g : Nat) (e : TypeId) : ∀ (vs : List Value) (o : Nat) (w : World) (cur : Array Value), w.heap[g]? = some (.cells cur e (0, 0)) → o + vs.length ≤ cur.size →
    (w.setCells g o vs).heap[g]? = some (.cells (cur.toList.take o ++ vs ++ cur.toList.drop (o + vs.length)).toArray e (0, 0))
  | [], o, w, cur, h, _ => by simp [World.setCells, h]
  | v :: vs, o, w, cur, h, hf => by
    simp only [List.length_cons] at hf
    have h1 := heap_setCell_same w g o cur e v h
    have ih := heap_setCells_at g e vs (o + 1) (w.setCell ⟨g, o, none⟩ v) (cur.setIfInBounds o v) h1 (by simp; omega)
    rw [World.setCells, ih]
    congr 3
    rw [Array.toList_setIfInBounds]
    have hl : o < cur.toList.length := by simp; omega
    rw [List.take_succ_eq_append_getElem (by simpa using hl)]
    simp only [List.getElem_set_self, List.take_set_of_le (Nat.le_refl o), List.drop_set_of_lt (show o < o + 1 + vs.length by omega), List.length_cons, List.append_assoc, List.cons_append, List.nil_append]
    rw [show o + (vs.length + 1) = o + 1 + vs.length by omega]

theorem grownBy_setCells (g : Nat) (vs : List Value) : ∀ (o : Nat) (w : World), w.grownBy (w.setCells g o vs) (some g) := by
  induction vs with
  | nil => intro o w; exact ⟨rfl, rfl, rfl, Nat.le_refl _, fun _ _ _ => rfl⟩
  | cons v vs ih =>
    intro o w
    have h := ih (o + 1) (w.setCell ⟨g, o, none⟩ v)
    refine ⟨h.os, h.tape, h.output, ?_, fun k hk hne => ?_⟩
    · exact Nat.le_trans (show w.heap.size ≤ (w.setCell ⟨g, o, none⟩ v).heap.size by simp [World.setCell]) h.size
    · refine (h.block k (by simpa [World.setCell] using hk) hne).trans ?_
      exact heap_setCell_other w ⟨g, o, none⟩ k v (fun e => hne (by simp [e]))

theorem run_append_src {P : Program} (w : World) (t tx ty e : TypeId) (i : TypeInfo) (z : Value) (size bytes : Nat) (ht : P.underlying t = some (.slice e)) (hi : P.info? e = some i) (hz : i.zero = some z)
    (hsize : i.size = size) (hby : i.bytes = bytes) (hzs : z.cells.size = size)
    (v : Value) (n : Nat) (xs : List Value) (hown : w.ownsRow 0 e size v n xs) (x : Value) (m : Nat) (news : List Value) (hs : Src P size tx x m news w)
    (h63 : n + m ≤ maxLen) (hbytes : (n + m) * bytes ≤ 140737488355328) :
    ∃ v' w', (Builtin.append_ #[t, tx] ty #[v, x]).run P w = .ok v' w' ∧ w'.ownsRow 0 e size v' (n + m) (xs ++ news) ∧ w.grownBy w' v.ownBlock ∧
      (v'.ownBlock = v.ownBlock ∨ v'.ownBlock = some w.heap.size) := by
  subst hsize
  subst hby
  have hlen : (xs ++ news).length = (n + m) * i.size := by rw [List.length_append, hown.1, hs.newsLen, Nat.add_mul]
  have h63i : ((n + m : Nat) : Int) ≤ 9223372036854775807 := by simp only [maxLen] at h63; omega
  have grown : ∀ (old : Nat), old < n + m → ∀ (row : Option Nat),
      (w.drew.alloc (.cells ((xs ++ news).toArray ++ Builtin.zeroCells z.cells (grownCap w (n + m) old e - (n + m))) e)).ownsRow 0 e i.size
        (.slice (some ⟨w.heap.size, 0, none⟩) (n + m) (grownCap w (n + m) old e)) (n + m) (xs ++ news) ∧
      w.grownBy (w.drew.alloc (.cells ((xs ++ news).toArray ++ Builtin.zeroCells z.cells (grownCap w (n + m) old e - (n + m))) e)) row := by
    intro old ho row
    have hge := grownCap_ge w (n + m) old e
    have hcm := grownCap_le_maxLen w (n + m) old e h63
    refine ⟨⟨hlen, .inr ⟨w.heap.size, _, _, rfl, Nat.zero_le _, heap_alloc_new w.drew _, hge, hcm, ?_, ?_⟩⟩, ⟨rfl, rfl, rfl, by simp, fun k hk _ => heap_alloc_old w.drew _ hk⟩⟩
    · rw [Array.size_append, List.size_toArray, hlen, size_zeroCells, hzs, ← Nat.add_mul]
      congr 1
      omega
    · rw [Array.toList_append, ← hlen]
      exact List.take_left
  rcases hown.2 with ⟨rfl, rfl⟩ | ⟨g, cap, cur, rfl, hbg, hg, hnc, hcm, hcs, htake⟩
  · have hx : xs = [] := List.eq_nil_of_length_eq_zero (by simpa using hown.1)
    subst hx
    by_cases hm : m = 0
    · subst hm
      have hn : news = [] := List.eq_nil_of_length_eq_zero (by simpa using hs.newsLen)
      subst hn
      refine ⟨.slice none 0 0, w, ?_, World.ownsRow_nil w 0 e i.size, ⟨rfl, rfl, rfl, Nat.le_refl _, fun _ _ _ => rfl⟩, .inl rfl⟩
      rcases hs.kind with ⟨e', hk⟩ | hk <;> simp [Builtin.append_, run_underlying ht, run_underlying hk, sizeOf, typeInfo, hi, hs.len, hs.cells]
    · have hr := run_append_grow_src (P := P) w t tx ty e i z ht hi hz none 0 0 [] (run_firstCells_none _ _ _ _ _) x m news hs (by omega) h63i (growslice_fits (by omega) hbytes)
      have hgr := grown 0 (by omega) (Value.ownBlock (.slice none 0 0))
      simp only [Nat.zero_add, List.nil_append] at hr hgr ⊢
      exact ⟨_, _, hr, hgr.1, hgr.2, .inr rfl⟩
  · have hcell : ∀ j, j < cap * i.size → w.cell? ⟨g, j, none⟩ = cur[j]? := fun j _ => cell_of_row w g j cur e (0, 0) hg
    by_cases hroom : n + m ≤ cap
    · have hfit : n * i.size + news.length ≤ cur.size := by rw [hs.newsLen, hcs, ← Nat.add_mul]; exact Nat.mul_le_mul_right _ hroom
      have hr := run_append_room_src (P := P) w t tx ty e i ht hi g 0 n cap x m news hs hroom
        (fun j hj => by rw [Nat.zero_add, cell_of_row w g _ cur e (0, 0) hg, Array.getElem?_eq_getElem (show n * i.size + j < cur.size by omega)]; rfl)
        (fun j _ => frozen_of_row w g _ cur e hg)
      rw [Nat.zero_add] at hr
      refine ⟨_, _, hr, ⟨hlen, .inr ⟨g, cap, _, rfl, hbg, heap_setCells_at g e news (n * i.size) w cur hg hfit, hroom, hcm, ?_, ?_⟩⟩, grownBy_setCells g news _ w, .inl rfl⟩
      · simp only [List.size_toArray, List.length_append, List.length_take, List.length_drop, Array.length_toList]
        omega
      · rw [htake, ← hlen]
        exact List.take_left
    · have hf := run_firstCells_some (P := P) w.drew i.size n ⟨g, 0, none⟩ n cap xs hown.1 (by simpa using hown.cells (g := g) rfl)
      have hr := run_append_grow_src (P := P) w t tx ty e i z ht hi hz (some ⟨g, 0, none⟩) n cap xs hf x m news hs (by omega) h63i (growslice_fits (by omega) hbytes)
      have hgr := grown cap (by omega) (Value.ownBlock (.slice (some ⟨g, 0, none⟩) n cap))
      exact ⟨_, _, hr, hgr.1, hgr.2, .inr rfl⟩

theorem wp_append_src {P : Program} {w : World} {o : Oper} {a : Act} {K : Act → World → Prop} {Q : Exit → Act → World → Prop} (s x : Operand) (t tx : TypeId)
    (ho : o.op = .call { callee := .builtin .append, args := #[s, x], argTypes := #[t, tx] })
    (e : TypeId) (i : TypeInfo) (z : Value) (size bytes : Nat) (ht : P.underlying t = some (.slice e)) (hi : P.info? e = some i) (hz : i.zero = some z)
    (hsize : i.size = size) (hby : i.bytes = bytes) (hzs : z.cells.size = size)
    (v : Value) (n : Nat) (xs : List Value) (hs : a.eval s = v) (hown : w.ownsRow 0 e size v n xs) (xv : Value) (m : Nat) (news : List Value) (hx : a.eval x = xv) (hsrc : Src P size tx xv m news w)
    (h63 : n + m ≤ maxLen) (hbytes : (n + m) * bytes ≤ 140737488355328)
    (h : ∀ v' w', w'.ownsRow 0 e size v' (n + m) (xs ++ news) → w.grownBy w' v.ownBlock → (v'.ownBlock = v.ownBlock ∨ v'.ownBlock = some w.heap.size) → K (a.put o.dst v') w') : o.wp P a w K Q := by
  obtain ⟨v', w', hr, h2, h3, h4⟩ := run_append_src (P := P) w t tx o.type e i z size bytes ht hi hz hsize hby hzs v n xs hown xv m news hsrc h63 hbytes
  unfold Oper.wp execOp
  simp only [ho, resolve, invoke, builtin, Sem.run_bind, Sem.run_pure, Result.andThen_ok, List.map_toArray, List.map_cons, List.map_nil, hs, hx, hr]
  exact h v' w' h2 h3 h4

theorem wpList_append_src {P : Program} {w : World} {ops : Array Oper} {rest : List Oper} {o : Oper} {a : Act} {Q : Exit → Act → World → Prop} (hgd : o.guard = none) (s x : Operand) (t tx : TypeId)
    (ho : o.op = .call { callee := .builtin .append, args := #[s, x], argTypes := #[t, tx] })
    (e : TypeId) (i : TypeInfo) (z : Value) (size bytes : Nat) (ht : P.underlying t = some (.slice e)) (hi : P.info? e = some i) (hz : i.zero = some z)
    (hsize : i.size = size) (hby : i.bytes = bytes) (hzs : z.cells.size = size)
    (v : Value) (n : Nat) (xs : List Value) (hs : a.eval s = v) (hown : w.ownsRow 0 e size v n xs) (xv : Value) (m : Nat) (news : List Value) (hx : a.eval x = xv) (hsrc : Src P size tx xv m news w)
    (h63 : n + m ≤ maxLen) (hbytes : (n + m) * bytes ≤ 140737488355328)
    (h : ∀ v' w', w'.ownsRow 0 e size v' (n + m) (xs ++ news) → w.grownBy w' v.ownBlock → (v'.ownBlock = v.ownBlock ∨ v'.ownBlock = some w.heap.size) → wpList P ops Q rest (a.put o.dst v') w') : wpList P ops Q (o :: rest) a w :=
  wpList_plain hgd fun _ hK => wp_append_src s x t tx ho e i z size bytes ht hi hz hsize hby hzs v n xs hs hown xv m news hx hsrc h63 hbytes fun v' w' h2 h3 h4 => hK _ _ (h v' w' h2 h3 h4)

end Go.Proofs.Ytdahkemeoefndaa

namespace Go.Proofs.Ytdahkemeoefndaa
open Go.RowKit

theorem OutAt.conv {P : Program} {T E : TypeId} {w : World} {b : Nat} {v : Value} {bs : List UInt8} (h : OutAt T E w b v bs) (src dst : TypeId) (hs : P.underlying src = some (.slice E)) (he : P.underlying E = some (.int .u8)) (hd : P.underlying dst = some .string) :
    (convert src dst v).run P w = .ok (.string ⟨bs.toArray⟩) w := by
  rcases h.own.2 with ⟨rfl, h0⟩ | ⟨g, cap, cur, rfl, _, hg, hnc, _, hcs, htake⟩
  · rw [List.length_eq_zero_iff.1 h0]
    exact run_convert_bytes_nil w src E hs he 0 0 dst hd
  · have hr := run_convert_bytes_arg (P := P) w src E hs he g 0 bs.length cap (bs.map fun x => (x.toNat : Int)) (by simp) (fun i hi => by
      have := h.own.cellAt i (by omega)
      rw [Nat.zero_add, this]
      simp [vals, List.getD, hi]) dst hd
    rw [hr]
    congr 2
    apply ByteArray.ext
    apply Array.toList_inj.1
    rw [strOfNums_data, List.map_map]
    simp only [Function.comp_def, Int.toNat_natCast, UInt8.ofNat_toNat, List.map_id']

set_option maxHeartbeats 400000 in
theorem bytes_any (b : Nat) (v : Value) (bs : List UInt8) (w : World) (hO : OutAt 53 5 w b v bs) :
    Calls Try.prog 21 #[.pointer (some ⟨b, 0, none⟩)] w fun r w' => r = .returned (.string ⟨bs.toArray⟩) ∧ w = w' := by
  have hc := hO.cell
  have hcv := hO.conv (P := Try.prog) 51 9 Try.underlying51 Try.underlying5 Try.underlying9
  clear hO
  go_enter Try.func21, Try.ntmps21
  go_wp2
  go_ret
  exact ⟨rfl, rfl⟩

theorem byteCells_vals (l : List UInt8) : byteCells ⟨l.toArray⟩ = vals l := by simp [byteCells, vals]

theorem NumPost.trans {b : Nat} {v v1 : Value} {out : List UInt8} {w w1 w2 : World} {r : Ending} (hM : Mod (fun k => k = b ∨ v.ownBlock = some k) w w1) (hv : v1.ownBlock = v.ownBlock ∨ ∀ k, v1.ownBlock = some k → w.heap.size ≤ k)
    (h : NumPost b v1 out w1 r w2) : NumPost b v out w r w2 := by
  obtain ⟨hr, v2, hO, hM2, hv2⟩ := h
  refine ⟨hr, v2, hO, hM.trans hM2 ?_, ?_⟩
  · intro i hi h
    rcases h with h | h
    · exact .inl h
    · rcases hv with h' | h'
      · exact .inr (h' ▸ h)
      · have := h' i h; omega
  · rcases hv2 with h2 | h2
    · rw [h2]; exact hv
    · right; intro k hk; have := h2 k hk; have := hM.size; omega

theorem numL_len (x : Int) (hx : x ≤ 18446744073709551615) : (numL x).length ≤ 9 := by
  have := beBytes_len 8 x.toNat (by simp; omega)
  simp [numL]; omega

end Go.Proofs.Ytdahkemeoefndaa

namespace Go.Proofs.Ytdahkemeoefndaa
open Go.RowKit

def Head3 (p : Nat × Nat × Int) (w : World) (r : Ending) (w' : World) : Prop := r = .returned (.tuple #[.int .i64 p.1, .int .i64 p.2.1, .int .i64 p.2.2]) ∧ w = w'

theorem ret3 {a b c a' b' c' : Int} (h1 : a = a') (h2 : b = b') (h3 : c = c') : Ending.returned (.tuple #[.int .i64 a, .int .i64 b, .int .i64 c]) = .returned (.tuple #[.int .i64 a', .int .i64 b', .int .i64 c']) := by rw [h1, h2, h3]

/-- A byte more at the foot of a number below 2^56. -/
theorem or_byte (V : Nat) (x : UInt8) (hV : V < 72057594037927936) : bits BinOp.or IntKind.u64 (((V : Nat) : Int) * 256) (IntKind.u64.wrap ((x.toNat : Nat) : Int)) = ((V * 256 + x.toNat : Nat) : Int) := by
  have hx := x.toNat_lt
  rw [IntWalk.u64_in _ (by omega), show ((V : Nat) : Int) * 256 = ((V * 256 : Nat) : Int) by omega, bits_or_u64_nat _ _ (by omega) (by omega)]
  rw [Nat.mul_comm V 256]
  exact congrArg Int.ofNat (Nat.two_pow_add_eq_or_of_lt (i := 8) (by omega) V).symm

theorem get_behind (c : UInt8) (l : List UInt8) (k : Nat) (h : k < l.length) (h' : 1 + k < (ByteArray.mk (c :: l).toArray).size) : (ByteArray.mk (c :: l).toArray)[1 + k] = l[k] := by
  have e : ∀ j, (hj : j < (ByteArray.mk (c :: l).toArray).size) → j = k + 1 → (ByteArray.mk (c :: l).toArray)[j] = l[k] := by
    intro j hj e; subst e; rfl
  exact e _ _ (by omega)

set_option maxHeartbeats 400000 in
theorem number_any (s : List UInt8) (w : World) (hl : s.length ≤ 1099511627776) : Calls Try.prog 26 #[.string ⟨s.toArray⟩] w (Head3 (headL s) w) := by
  rcases s with _ | ⟨c, r⟩
  · go_enter Try.func26, Try.ntmps26
    go_wp2
    go_ret3
    exact ⟨rfl, rfl⟩
  · have g0 : ({ data := (c :: r).toArray } : ByteArray)[0]'(by simp [ByteArray.size]) = c := rfl
    have hcb := c.toNat_lt
    have hll : r.length + 1 ≤ 1099511627776 := hl
    clear hl
    have z0 : ((r.length : Int) + 1 == 0) = false := by simp; omega
    by_cases h0 : c.toNat = 0
    · have hfin : headL (c :: r) = (0, 1, 0) := by simp [headL, h0]
      rw [hfin]
      have t0 : ((c.toNat : Int) == 0) = true := by simp [h0]
      clear h0 hfin
      go_enter Try.func26, Try.ntmps26
      go_wp2
      go_ret3
      exact ⟨rfl, rfl⟩
    have t0 : ((c.toNat : Int) == 0) = false := by simp [h0]
    by_cases h1 : 8 < c.toNat
    · have hfin : headL (c :: r) = (0, 0, 3) := by simp [headL, h0, h1]
      rw [hfin]
      clear h0 hfin
      go_enter Try.func26, Try.ntmps26
      go_wp2
      go_ret3
      exact ⟨rfl, rfl⟩
    rcases r with _ | ⟨d, r⟩
    · have hfin : headL [c] = (0, 0, 2) := by simp [headL, h0, h1]
      rw [hfin]
      clear h0 hfin
      go_enter Try.func26, Try.ntmps26
      go_wp2
      go_ret3
      exact ⟨rfl, rfl⟩
    have g1 : ({ data := (c :: d :: r).toArray } : ByteArray)[1]'(by simp [ByteArray.size]) = d := rfl
    have z1 : ((r.length : Int) + 1 + 1 == 1) = false := by simp; omega
    simp only [List.length_cons] at hll z0
    by_cases h2 : d.toNat = 0
    · have hfin : headL (c :: d :: r) = (0, 0, 3) := by simp [headL, h0, h1, h2]
      rw [hfin]
      have t1 : ((d.toNat : Int) == 0) = true := by simp [h2]
      clear h0 h2 hfin
      go_enter Try.func26, Try.ntmps26
      go_wp2
      go_ret3
      exact ⟨rfl, rfl⟩
    have t1 : ((d.toNat : Int) == 0) = false := by simp [h2]
    by_cases h3 : (d :: r).length < c.toNat
    · have hfin : headL (c :: d :: r) = (0, 0, 2) := by simp only [headL, if_neg h0, if_neg h1, if_neg h2, if_pos h3]
      rw [hfin]
      simp only [List.length_cons] at h3
      clear h0 h2 hfin
      go_enter Try.func26, Try.ntmps26
      go_wp2
      go_ret3
      exact ⟨rfl, rfl⟩
    have H0 := Lib.hid h0
    have H2 := Lib.hid h2
    have H3 := Lib.hid h3
    clear h0 h2
    simp only [List.length_cons] at h3
    have z2 : ((r.length : Int) + 1 + 1 == 0) = false := by simp; omega
    have z3 : decide ((r.length : Int) + 1 + 1 ≤ c.toNat) = false := by simp; omega
    have z4 : decide (8 < (c.toNat : Int)) = false := by simp; omega
    clear z0
    go_enter Try.func26, Try.ntmps26
    go_wp2
    go_loop [6, 34] (fun x i => ∃ k : Nat, k ≤ c.toNat ∧ i = .int .i64 k ∧ x = .int .u64 (beVal ((d :: r).take k))) (fun _ i => c.toNat - (intOf i).toNat)
    case atStart => exact ⟨0, by omega, rfl, rfl⟩
    case round =>
      obtain ⟨k, hk, rfl, rfl⟩ := hrel
      by_cases hlt : k < c.toNat
      · have hkl : k < (d :: r).length := by simp; omega
        have hkl' : k < r.length + 1 := by omega
        have hv := beVal_take_lt (d :: r) k (by omega)
        have hv7 : beVal ((d :: r).take k) < 256 ^ 7 := Nat.lt_of_lt_of_le hv (Nat.pow_le_pow_right (by decide) (by omega))
        obtain ⟨V, hV⟩ : ∃ V, V = beVal ((d :: r).take k) := ⟨_, rfl⟩
        rw [← hV] at hv7 ⊢
        have hv8 : V < 72057594037927936 := hv7
        have HV := Lib.hid hV
        clear hV hv hv7
        go_wp2
        go_round
        case rel => 
          refine ⟨k + 1, by omega, by go_num, ?_⟩
          rw [or_byte _ _ hv8, List.take_succ_eq_append_getElem hkl, beVal_snoc, HV.out, get_behind c (d :: r) k hkl]
        case measure => simp [intOf]; omega
      · obtain rfl : k = c.toNat := by omega
        by_cases h5 : 9223372036854775807 < beVal ((d :: r).take c.toNat)
        · have hfin : headL (c :: d :: r) = (0, 0, 3) := by simp only [headL, if_neg H0.out, if_neg h1, if_neg H2.out, if_neg H3.out, if_pos h5]
          have Hfin := Lib.hid hfin
          clear hfin
          go_wp2
          go_ret3
          exact ⟨by rw [Hfin.out]; exact ret3 rfl rfl rfl, rfl⟩
        · have hfin : headL (c :: d :: r) = (beVal ((d :: r).take c.toNat), c.toNat + 1, 0) := by simp only [headL, if_neg H0.out, if_neg h1, if_neg H2.out, if_neg H3.out, if_neg h5]
          have Hfin := Lib.hid hfin
          clear hfin
          go_wp2
          go_ret3
          exact ⟨by rw [Hfin.out]; exact ret3 rfl (show 1 + (c.toNat : Int) = ((c.toNat + 1 : Nat) : Int) by omega) rfl, rfl⟩
end Go.Proofs.Ytdahkemeoefndaa

namespace Go.Proofs.Ytdahkemeoefndaa
open Go.RowKit

/-- Block b is an In: what is left, the first error. -/
def InAt (T : TypeId) (w : World) (b : Nat) (s : List UInt8) (e : Int) : Prop := w.heap[b]? = some (.cells #[.string ⟨s.toArray⟩, .int .i64 e] T (0, 0))
theorem InAt.c0 {T : TypeId} {w : World} {b : Nat} {s : List UInt8} {e : Int} (h : InAt T w b s e) : w.cell? ⟨b, 0, none⟩ = some (.string ⟨s.toArray⟩) := by unfold World.cell?; rw [show w.heap[b]? = _ from h]; rfl
theorem InAt.c1 {T : TypeId} {w : World} {b : Nat} {s : List UInt8} {e : Int} (h : InAt T w b s e) : w.cell? ⟨b, 1, none⟩ = some (.int .i64 e) := by unfold World.cell?; rw [show w.heap[b]? = _ from h]; rfl
theorem InAt.f {T : TypeId} {w : World} {b : Nat} {s : List UInt8} {e : Int} (h : InAt T w b s e) (o : Nat) : w.frozen? ⟨b, o, none⟩ = false := frozen_of_row w b o _ _ h
theorem InAt.lt {T : TypeId} {w : World} {b : Nat} {s : List UInt8} {e : Int} (h : InAt T w b s e) : b < w.heap.size := (Array.getElem?_eq_some_iff.1 h).1
theorem InAt.set0 {T : TypeId} {w : World} {b : Nat} {s : List UInt8} {e : Int} (h : InAt T w b s e) (s' : List UInt8) : InAt T (w.setCell ⟨b, 0, none⟩ (.string ⟨s'.toArray⟩)) b s' e := by
  have := heap_setCell_same w b 0 _ T (.string ⟨s'.toArray⟩) h
  exact this
theorem InAt.set1 {T : TypeId} {w : World} {b : Nat} {s : List UInt8} {e : Int} (h : InAt T w b s e) (e' : Int) : InAt T (w.setCell ⟨b, 1, none⟩ (.int .i64 e')) b s e' := by
  have := heap_setCell_same w b 1 _ T (.int .i64 e') h
  exact this
theorem InAt.kept {T : TypeId} {w w' : World} {b : Nat} {s : List UInt8} {e : Int} {S : Nat → Prop} (h : InAt T w b s e) (hm : Mod S w w') (hb : ¬ S b) : InAt T w' b s e := (hm.block b h.lt hb).trans h

def failS (s : List UInt8) (err e : Int) : List UInt8 × Int := if e = 0 ∨ err ≠ 0 then (s, err) else ([], e)

def InPost (T : TypeId) (b : Nat) (v : Value) (p : List UInt8 × Int) (w : World) (r : Ending) (w' : World) : Prop := r = .returned v ∧ InAt T w' b p.1 p.2 ∧ Mod (· = b) w w'

set_option maxHeartbeats 400000 in
theorem fail_any (b : Nat) (s : List UInt8) (err e : Int) (w : World) (h : InAt 61 w b s err) :
    Calls Try.prog 27 #[.pointer (some ⟨b, 0, none⟩), .int .i64 e] w (InPost 61 b (.tuple #[]) (failS s err e) w) := by
  have h0 := h.c0
  have h1 := h.c1
  have f0 := h.f 0
  have f1 := h.f 1
  by_cases he : e = 0
  · have hfin : failS s err e = (s, err) := by simp [failS, he]
    have t : (e == 0) = true := by simp [he]
    have Hp : Hid (InPost 61 b (.tuple #[]) (failS s err e) w (.returned (.tuple #[])) w) := Lib.hid (by rw [hfin]; exact ⟨rfl, h, Mod.refl _ _⟩)
    clear he hfin h
    go_enter Try.func27, Try.ntmps27
    go_wp2
    go_end0
    exact Hp.out
  have t : (e == 0) = false := by simp [he]
  by_cases hr : err = 0
  · have hfin : failS s err e = ([], e) := by simp [failS, he, hr]
    have t2 : (err != 0) = false := by simp [hr]
    have Hp : Hid (InPost 61 b (.tuple #[]) (failS s err e) w (.returned (.tuple #[])) ((w.setCell ⟨b, 1, none⟩ (.int .i64 e)).setCell ⟨b, 0, none⟩ (.string ⟨#[]⟩))) :=
      Lib.hid (by rw [hfin]; exact ⟨rfl, (h.set1 e).set0 [], ((Mod.refl (· = b) _).setCell (p := ⟨b, 1, none⟩) (fun _ => rfl) _).setCell (p := ⟨b, 0, none⟩) (fun _ => rfl) _⟩)
    clear he hr hfin h
    go_enter Try.func27, Try.ntmps27
    go_wp2
    go_end0
    exact Hp.out
  · have hfin : failS s err e = (s, err) := by simp [failS, hr]
    have t2 : (err != 0) = true := by simp [hr]
    have Hp : Hid (InPost 61 b (.tuple #[]) (failS s err e) w (.returned (.tuple #[])) w) := Lib.hid (by rw [hfin]; exact ⟨rfl, h, Mod.refl _ _⟩)
    clear he hr hfin h
    go_enter Try.func27, Try.ntmps27
    go_wp2
    go_end0
    exact Hp.out

theorem extract_end (s : List UInt8) (k : Nat) : (ByteArray.mk s.toArray).extract k s.length = ⟨(s.drop k).toArray⟩ := by
  rw [ByteArray.extract_mk, List.take_of_length_le (by simp)]
theorem extract_head (s : List UInt8) (k : Nat) : (ByteArray.mk s.toArray).extract 0 k = ⟨(s.take k).toArray⟩ := by
  rw [ByteArray.extract_mk]; simp

/-- What In.Num answers, and leaves. -/
def numS (s : List UInt8) (err most : Int) : Int × List UInt8 × Int :=
  if (headL s).2.2 ≠ 0 then (0, failS s err (headL s).2.2)
  else if most < (headL s).1 then (0, failS s err 4) else ((headL s).1, s.drop (headL s).2.1, err)

theorem headL_ok (s : List UInt8) (h : (headL s).2.2 = 0) : (headL s).2.1 ≤ s.length := by
  unfold headL at h ⊢
  split
  · simp at h
  · rename_i c r
    simp only at h ⊢
    split
    · simp
    · rename_i h0
      rw [if_neg h0] at h
      split
      · rename_i h1; rw [if_pos h1] at h; simp at h
      · rename_i h1
        rw [if_neg h1] at h
        split
        · simp at h
        · rename_i d r
          simp only at h ⊢
          split
          · rename_i h2; rw [if_pos h2] at h; simp at h
          · rename_i h2
            rw [if_neg h2] at h
            split
            · rename_i h3; rw [if_pos h3] at h; simp at h
            · rename_i h3
              split
              · simp
              · simp at h3 ⊢; omega
theorem headL_err (s : List UInt8) : (headL s).2.2 = 0 ∨ (headL s).2.2 = 2 ∨ (headL s).2.2 = 3 := by
  unfold headL
  repeat' split
  all_goals simp
theorem headL_max (s : List UInt8) : (headL s).1 ≤ 9223372036854775807 := by
  unfold headL
  repeat' split
  all_goals first | (simp; done) | (simp only; omega)

set_option maxHeartbeats 400000 in
theorem innum_any (b : Nat) (s : List UInt8) (err most : Int) (w : World) (h : InAt 61 w b s err) (hl : s.length ≤ 1099511627776) :
    Calls Try.prog 14 #[.pointer (some ⟨b, 0, none⟩), .int .i64 most] w (InPost 61 b (.int .i64 (numS s err most).1) (numS s err most).2 w) := by
  have h0 := h.c0
  have h1 := h.c1
  have f0 := h.f 0
  obtain ⟨hx, hxe⟩ : ∃ x, x = headL s := ⟨_, rfl⟩
  obtain ⟨x, k, e⟩ := hx
  have hk := headL_ok s
  have hme := headL_max s
  have hee := headL_err s
  rw [← hxe] at hk hme hee
  simp only at hk hme hee
  have Hnum : Hid (∀ w : World, Calls Try.prog 26 #[.string ⟨s.toArray⟩] w fun r w' => r = .returned (.tuple #[.int .i64 x, .int .i64 k, .int .i64 e]) ∧ w = w') := Lib.hid (fun w => by
    have := number_any s w hl
    rw [← hxe] at this
    exact this)
  have hfin : numS s err most = if e ≠ 0 then (0, failS s err e) else if most < x then (0, failS s err 4) else ((x : Int), s.drop k, err) := by unfold numS; rw [← hxe]
  clear hxe hee
  have hx0 : (0 : Int) ≤ x := by omega
  by_cases he : e = 0
  · have hkl := hk he
    subst he
    clear hk
    by_cases hm : most < x
    · rw [if_neg (by simp), if_pos hm] at hfin
      have Hfin := Lib.hid hfin
      clear hfin
      go_enter Try.func14, Try.ntmps14
      go_wp2_with fail
      refine (Hnum.out _).mono ?_
      rintro r w' ⟨rfl, rfl⟩
      go_wp2_with fail
      refine (fail_any b s err 4 w h).mono ?_
      rintro r w1 ⟨rfl, hI, hM⟩
      go_wp2_with fail
      go_ret
      exact ⟨by rw [Hfin.out]; rfl, by rw [Hfin.out]; exact hI, hM⟩
    · rw [if_neg (by simp), if_neg hm] at hfin
      have Hp : Hid (InPost 61 b (.int .i64 (numS s err most).1) (numS s err most).2 w (.returned (.int .i64 x)) (w.setCell ⟨b, 0, none⟩ (.string ⟨(s.drop k).toArray⟩))) :=
        Lib.hid (by rw [hfin]; exact ⟨rfl, h.set0 _, (Mod.refl (· = b) _).setCell (p := ⟨b, 0, none⟩) (fun _ => rfl) _⟩)
      clear hfin
      go_enter Try.func14, Try.ntmps14
      go_wp2_with fail
      refine (Hnum.out _).mono ?_
      rintro r w' ⟨rfl, rfl⟩
      go_wp2_with fail
      rw [extract_end]
      go_ret
      exact Hp.out
  · rw [if_pos he] at hfin
    have Hfin := Lib.hid hfin
    have t1 : (e == 0) = false := by simp [he]
    have t2 : (e != 0) = true := by simp [he]
    clear hfin hk he
    go_enter Try.func14, Try.ntmps14
    go_wp2_with fail
    refine (Hnum.out _).mono ?_
    rintro r w' ⟨rfl, rfl⟩
    go_wp2_with fail
    refine (fail_any b s err e w h).mono ?_
    rintro r w1 ⟨rfl, hI, hM⟩
    go_wp2_with fail
    go_ret
    exact ⟨by rw [Hfin.out]; rfl, by rw [Hfin.out]; exact hI, hM⟩

set_option maxHeartbeats 400000 in
theorem clone_any (s : List UInt8) (w : World) (hl : s.length ≤ 281474976710656) :
    Calls Try.prog 25 #[.string ⟨s.toArray⟩] w fun r w' => r = .returned (.string ⟨s.toArray⟩) ∧ Below w.heap.size w w' := by
  go_enter Try.func25, Try.ntmps25
  go_wp2_with fail
  refine (Try.stringslite_Clone ⟨s.toArray⟩ _ (by simpa [ByteArray.size] using hl)).mono ?_
  rintro r w1 ⟨rfl, hb⟩
  go_wp2_with fail
  go_ret
  exact ⟨rfl, hb⟩

set_option maxHeartbeats 400000 in
theorem of_any (s : List UInt8) (w : World) (hl : s.length ≤ 281474976710656) :
    Calls Try.prog 13 #[.string ⟨s.toArray⟩] w fun r w' => ∃ b, r = .returned (.pointer (some ⟨b, 0, none⟩)) ∧ w.heap.size ≤ b ∧ InAt 61 w' b s 0 ∧ Below w.heap.size w w' := by
  go_enter Try.func13, Try.ntmps13
  go_wp2_with fail
  refine (clone_any s _ hl).mono ?_
  rintro r w1 ⟨rfl, hb⟩
  have hs := hb.size
  have Hp : Hid (w.heap.size ≤ w1.heap.size ∧ InAt 61 (w1.alloc (.cells #[.string ⟨s.toArray⟩, .int .i64 0] 61)) w1.heap.size s 0 ∧ Below w.heap.size w (w1.alloc (.cells #[.string ⟨s.toArray⟩, .int .i64 0] 61))) :=
    Lib.hid ⟨hs, heap_alloc_new _ _, hb.alloc hs _⟩
  clear hb hs
  go_wp2_with fail
  go_ret
  exact ⟨_, rfl, Hp.out⟩

/-- What In.Raw answers, and leaves. -/
def rawS (s : List UInt8) (err n : Int) : List UInt8 × List UInt8 × Int :=
  if (s.length : Int) < n then ([], failS s err 2) else (s.take n.toNat, s.drop n.toNat, err)

def InPostN (T : TypeId) (b : Nat) (v : Value) (p : List UInt8 × Int) (w : World) (r : Ending) (w' : World) : Prop := r = .returned v ∧ InAt T w' b p.1 p.2 ∧ Mod (· = b) w w'

end Go.Proofs.Ytdahkemeoefndaa

namespace Go.Proofs.Ytdahkemeoefndaa
open Go.RowKit

def textS (s : List UInt8) (err most : Int) : List UInt8 × List UInt8 × Int :=
  rawS (numS s err (max most 0)).2.1 (numS s err (max most 0)).2.2 (numS s err (max most 0)).1

theorem failS_len (s : List UInt8) (err e : Int) : (failS s err e).1.length ≤ s.length := by unfold failS; split <;> simp
theorem numS_len (s : List UInt8) (err most : Int) : (numS s err most).2.1.length ≤ s.length := by
  unfold numS; split
  · exact failS_len _ _ _
  · split
    · exact failS_len _ _ _
    · simp

set_option maxHeartbeats 400000 in
theorem end_any (b : Nat) (s : List UInt8) (e : Int) (w : World) (h : InAt 61 w b s e) :
    Calls Try.prog 15 #[.pointer (some ⟨b, 0, none⟩)] w fun r w' => r = .returned (.int .i64 (if s = [] then e else 3)) ∧ w = w' := by
  have h0 := h.c0
  have h1 := h.c1
  rcases s with _ | ⟨c, s⟩
  · go_enter Try.func15, Try.ntmps15
    go_wp2
    go_ret
    exact ⟨rfl, rfl⟩
  · go_enter Try.func15, Try.ntmps15
    go_wp2
    go_ret
    exact ⟨rfl, rfl⟩

set_option maxHeartbeats 400000 in
theorem cut_any (s : List UInt8) (n : Nat) (w : World) (_hl : (s.length : Int) ≤ 9223372036854775807) (_hn : (n : Int) ≤ 9223372036854775807) :
    Calls Try.prog 5 #[.string ⟨s.toArray⟩, .int .i64 n] w fun r w' => r = .returned (.string ⟨(s.take n).toArray⟩) ∧ w = w' := by
  have h0 : (0 : Int) ≤ n := by omega
  by_cases h : n < s.length
  · go_enter Try.func5, Try.ntmps5
    go_wp2_with fail
    rw [extract_head]
    go_ret
    exact ⟨rfl, rfl⟩
  · have e : s.take n = s := List.take_of_length_le (by omega)
    rw [e]
    clear e
    go_enter Try.func5, Try.ntmps5
    go_wp2_with fail
    go_ret
    exact ⟨rfl, rfl⟩

end Go.Proofs.Ytdahkemeoefndaa

namespace Go.Proofs.Ytdahkemeoefndaa
open Go.RowKit

theorem beVal_cons (d : UInt8) (l : List UInt8) : beVal (d :: l) = d.toNat * 256 ^ l.length + beVal l := by
  have key : ∀ (l : List UInt8) (a : Nat), l.foldl (fun a b => a * 256 + b.toNat) a = a * 256 ^ l.length + l.foldl (fun a b => a * 256 + b.toNat) 0 := by
    intro l
    induction l with
    | nil => intro a; simp
    | cons b l ih =>
      intro a
      simp only [List.foldl_cons, List.length_cons, Nat.zero_mul, Nat.zero_add]
      rw [ih (a * 256 + b.toNat), ih b.toNat, Nat.pow_succ, Nat.add_mul, Nat.mul_assoc, Nat.mul_comm 256 (256 ^ l.length), Nat.add_assoc]
  unfold beVal
  rw [List.foldl_cons, Nat.zero_mul, Nat.zero_add, key l d.toNat]
theorem beVal_lt (l : List UInt8) : beVal l < 256 ^ l.length := by
  have := beVal_take_lt l l.length (Nat.le_refl _)
  rwa [List.take_length] at this
theorem beVal_step (l : List UInt8) (k : Nat) (h : k < l.length) : beVal (l.take (k + 1)) = beVal (l.take k) * 256 + (l[k]).toNat := by
  rw [List.take_succ_eq_append_getElem h, beVal_snoc]
theorem beVal_mono (l : List UInt8) (k m : Nat) (hk : k ≤ m) (hm : m ≤ l.length) : beVal (l.take k) ≤ beVal (l.take m) := by
  obtain ⟨j, rfl⟩ : ∃ j, m = k + j := ⟨m - k, by omega⟩
  induction j with
  | zero => exact Nat.le_refl _
  | succ j ih =>
    refine Nat.le_trans (ih (by omega) (by omega)) ?_
    rw [← Nat.add_assoc, beVal_step l (k + j) (by omega)]; omega
theorem beVal_great (c d : UInt8) (r : List UInt8) (h8 : c.toNat ≤ 8) (h0 : c.toNat ≠ 0) (hl : c.toNat ≤ (d :: r).length) : 9223372036854775807 < beVal ((d :: r).take c.toNat) ↔ c.toNat = 8 ∧ 128 ≤ d.toNat := by
  obtain ⟨n, hn⟩ : ∃ n, n + 1 = c.toNat := ⟨c.toNat - 1, by omega⟩
  rw [← hn] at h8 hl ⊢
  rw [List.take_succ_cons, beVal_cons]
  have hln : (r.take n).length = n := by rw [List.length_take]; simp only [List.length_cons] at hl; omega
  have hb := beVal_lt (r.take n)
  rw [hln] at hb ⊢
  have hd := d.toNat_lt
  by_cases h7 : n = 7
  · subst h7
    have e : (256 : Nat) ^ 7 = 72057594037927936 := by decide
    rw [e] at hb ⊢
    omega
  · have e : (256 : Nat) ^ n ≤ 256 ^ 6 := Nat.pow_le_pow_right (by decide) (by omega)
    have e6 : (256 : Nat) ^ 6 = 281474976710656 := by decide
    rw [e6] at e
    have : d.toNat * 256 ^ n ≤ 256 * 281474976710656 := Nat.mul_le_mul (by omega) e
    omega

set_option maxRecDepth 20000 in
set_option maxHeartbeats 1000000 in
theorem rhead_any (s : List UInt8) (w : World) (hl : s.length ≤ 1099511627776) : Calls Try.prog 16 #[.string ⟨s.toArray⟩] w (Head3 (headL s) w) := by
  rcases s with _ | ⟨c, r⟩
  · go_enter Try.func16, Try.ntmps16
    go_wp2
    go_ret3
    exact ⟨rfl, rfl⟩
  have g0 : ({ data := (c :: r).toArray } : ByteArray)[0]'(by simp [ByteArray.size]) = c := rfl
  have hcb := c.toNat_lt
  have hll : r.length + 1 ≤ 1099511627776 := hl
  clear hl
  have z0 : ((r.length : Int) + 1 == 0) = false := by simp; omega
  by_cases h0 : c.toNat = 0
  · have hfin : headL (c :: r) = (0, 1, 0) := by simp [headL, h0]
    rw [hfin]
    have e0 : (c.toNat : Int) = 0 := by omega
    have z2 : ¬ ((r.length : Int) < 0) := by omega
    have z3 : ¬ ((r.length : Int) + 1 - 1 < 0) := by omega
    clear h0 hfin hcb
    go_enter Try.func16, Try.ntmps16
    go_wp2
    go_loop [6, 7] (fun x i => i = .int .i64 1 ∧ x = .int .i64 0) (fun _ _ => 0)
    case atStart => exact ⟨rfl, rfl⟩
    case round =>
      obtain ⟨rfl, rfl⟩ := hrel
      go_wp2
      go_ret3
      exact ⟨rfl, rfl⟩
  by_cases h1 : 8 < c.toNat
  · have hfin : headL (c :: r) = (0, 0, 3) := by simp [headL, h0, h1]
    rw [hfin]
    clear h0 hfin
    go_enter Try.func16, Try.ntmps16
    go_wp2
    go_ret3
    exact ⟨rfl, rfl⟩
  have p0 : (0 : Int) < c.toNat := by omega
  have p8 : ¬ (8 < (c.toNat : Int)) := by omega
  rcases r with _ | ⟨d, r⟩
  · have hfin : headL [c] = (0, 0, 2) := by simp [headL, h0, h1]
    rw [hfin]
    clear h0 hfin
    go_enter Try.func16, Try.ntmps16
    go_wp2
    go_ret3
    exact ⟨rfl, rfl⟩
  have g1 : ({ data := (c :: d :: r).toArray } : ByteArray)[1]'(by simp [ByteArray.size]) = d := rfl
  simp only [List.length_cons] at hll z0
  have z1 : (1 : Int) < (r.length : Int) + 1 + 1 := by omega
  by_cases h2 : d.toNat = 0
  · have hfin : headL (c :: d :: r) = (0, 0, 3) := by simp [headL, h0, h1, h2]
    rw [hfin]
    have t1 : ((d.toNat : Int) == 0) = true := by simp [h2]
    clear h0 h2 hfin
    go_enter Try.func16, Try.ntmps16
    go_wp2
    go_ret3
    exact ⟨rfl, rfl⟩
  have t1 : ((d.toNat : Int) == 0) = false := by simp [h2]
  by_cases h3 : (d :: r).length < c.toNat
  · have hfin : headL (c :: d :: r) = (0, 0, 2) := by simp only [headL, if_neg h0, if_neg h1, if_neg h2, if_pos h3]
    rw [hfin]
    simp only [List.length_cons] at h3
    have z2 : (r.length : Int) + 1 < c.toNat := by omega
    clear h0 h2 hfin h3
    go_enter Try.func16, Try.ntmps16
    go_wp2
    go_ret3
    exact ⟨rfl, rfl⟩
  have hgr := beVal_great c d r (by omega) h0 (by omega)
  have z2 : ¬ (r.length : Int) + 1 < c.toNat := by simp only [List.length_cons] at h3; omega
  have hdb := d.toNat_lt
  by_cases h5 : 9223372036854775807 < beVal ((d :: r).take c.toNat)
  · have hfin : headL (c :: d :: r) = (0, 0, 3) := by simp only [headL, if_neg h0, if_neg h1, if_neg h2, if_neg h3, if_pos h5]
    rw [hfin]
    obtain ⟨e8, e128⟩ := hgr.1 h5
    have t8 : ((c.toNat : Int) == 8) = true := by simp [e8]
    have t9 : (128 : Int) ≤ d.toNat := by omega
    clear h0 h2 h3 h5 hfin hgr e8 e128
    go_enter Try.func16, Try.ntmps16
    go_wp2
    go_ret3
    exact ⟨rfl, rfl⟩
  have hfin : headL (c :: d :: r) = (beVal ((d :: r).take c.toNat), c.toNat + 1, 0) := by simp only [headL, if_neg h0, if_neg h1, if_neg h2, if_neg h3, if_neg h5]
  have Hfin := Lib.hid hfin
  have H5 := Lib.hid h5
  have H3 := Lib.hid h3
  have H0 := Lib.hid h0
  have Hgr := Lib.hid hgr
  have hc8 : c.toNat ≤ 8 := by omega
  clear h0 h2 h3 h5 hfin hgr
  have body : ∀ (b : Bool), ((c.toNat : Int) == 8) = b → (b = true → ¬ (128 : Int) ≤ d.toNat) → Calls Try.prog 16 #[.string ⟨(c :: d :: r).toArray⟩] w (Head3 (headL (c :: d :: r)) w) := by
    intro b t8 t9
    cases b
    all_goals
      first | (have t10 := t9 rfl) | skip
      clear t9
      go_enter Try.func16, Try.ntmps16
      go_wp2
      go_loop [6, 7] (fun x i => ∃ k : Nat, k ≤ c.toNat ∧ i = .int .i64 ((k : Int) + 1) ∧ x = .int .i64 (beVal ((d :: r).take k))) (fun _ i => c.toNat + 1 - (intOf i).toNat)
      case atStart => exact ⟨0, by omega, rfl, rfl⟩
      case round =>
        obtain ⟨k, hk, rfl, rfl⟩ := hrel
        by_cases hlt : k < c.toNat
        · have hkl : k < (d :: r).length := by have := H3.out; omega
          have hkl' : k < r.length + 1 := by simpa using hkl
          have hst := beVal_step (d :: r) k hkl
          have hmo := beVal_mono (d :: r) (k + 1) c.toNat (by omega) (by have := H3.out; omega)
          have h5 := H5.out
          obtain ⟨V, hV⟩ : ∃ V, V = beVal ((d :: r).take k) := ⟨_, rfl⟩
          have hb : (d :: r)[k].toNat < 256 := UInt8.toNat_lt _
          rw [hst] at hmo
          rw [← hV] at hst hmo ⊢
          have hv8 : V ≤ 36028797018963967 := by omega
          have HV := Lib.hid hst
          have gk : ∀ h : k + 1 < (ByteArray.mk (c :: d :: r).toArray).size, (ByteArray.mk (c :: d :: r).toArray)[k + 1]'h = (d :: r)[k] := fun _ => rfl
          have e1 : ((k : Int) + 1).toNat = k + 1 := by omega
          obtain ⟨y, hy⟩ : ∃ y, y = (d :: r)[k] := ⟨_, rfl⟩
          rw [← hy] at hb HV gk
          clear hV hst hmo h5 hy
          go_wp2
          go_round
          case rel => exact ⟨k + 1, by omega, by go_num, by rw [HV.out]; exact val_int (by omega)⟩
          case measure => simp [intOf]; omega
        · obtain rfl : k = c.toNat := by omega
          go_wp2
          go_ret3
          exact ⟨by rw [Hfin.out]; exact ret3 rfl (show (c.toNat : Int) + 1 = ((c.toNat + 1 : Nat) : Int) by omega) rfl, rfl⟩
  by_cases e8 : c.toNat = 8
  · exact body true (by simp [e8]) (fun _ h => by have := Hgr.out.2 ⟨e8, by omega⟩; exact H5.out this)
  · exact body false (by rw [beq_eq_false_iff_ne]; omega) (fun h => by cases h)
end Go.Proofs.Ytdahkemeoefndaa

namespace Go.Proofs.Ytdahkemeoefndaa
open Go.RowKit

/-- The slice at p of A's length and of that capacity holds the numbers A, from its block's head on; nil holds none. -/
def Sl (k : IntKind) (T : TypeId) (w : World) (p : Option Addr) (cap : Nat) (A : List Nat) : Prop := w.ownsRow 0 T 1 (.slice p A.length cap) A.length (nums k A)

theorem Sl.shape {k : IntKind} {T : TypeId} {w : World} {p : Option Addr} {cap : Nat} {A : List Nat} (h : Sl k T w p cap A) :
    (p = none ∧ A = [] ∧ cap = 0) ∨ ∃ g, p = some ⟨g, 0, none⟩ ∧ g < w.heap.size ∧ A.length ≤ cap ∧ cap ≤ maxLen ∧ ∃ cur : Array Value, w.heap[g]? = some (.cells cur T (0, 0)) ∧ cur.size = cap ∧ cur.toList.take A.length = nums k A := by
  rcases h.2 with ⟨e, h0⟩ | ⟨g, cap', cur, e, _, hh, h1, h2, h3, h4⟩
  · simp only [Value.slice.injEq] at e
    exact .inl ⟨e.1, List.eq_nil_of_length_eq_zero h0, e.2.2⟩
  · simp only [Value.slice.injEq] at e
    obtain ⟨rfl, _, rfl⟩ := e
    exact .inr ⟨g, rfl, (Array.getElem?_eq_some_iff.1 hh).1, h1, h2, cur, hh, by simpa using h3, by simpa using h4⟩
theorem Sl.of_row {k : IntKind} {T : TypeId} {w : World} {g cap : Nat} {A : List Nat} {cur : Array Value} (hh : w.heap[g]? = some (.cells cur T (0, 0))) (h1 : A.length ≤ cap) (h2 : cap ≤ maxLen) (h3 : cur.size = cap) (h4 : cur.toList.take A.length = nums k A) :
    Sl k T w (some ⟨g, 0, none⟩) cap A := ⟨by simp [nums_len], .inr ⟨g, cap, cur, rfl, Nat.zero_le _, hh, h1, h2, by simpa using h3, by simpa using h4⟩⟩
theorem Sl.empty (k : IntKind) (T : TypeId) (w : World) : Sl k T w none 0 [] := World.ownsRow_nil _ _ _ _
theorem Sl.made {k : IntKind} {T : TypeId} (w : World) (A : List Nat) (hl : A.length ≤ maxLen) : Sl k T (w.alloc (.cells (nums k A).toArray T (0, 0))) (some ⟨w.heap.size, 0, none⟩) A.length A :=
  Sl.of_row (heap_alloc_new _ _) (Nat.le_refl _) hl (by simp [nums_len]) (by simp [nums, List.take_of_length_le])
theorem Sl.isPtr {k : IntKind} {T : TypeId} {w : World} {p : Option Addr} {cap : Nat} {A : List Nat} (h : Sl k T w p cap A) (hA : A ≠ []) : ∃ g, p = some ⟨g, 0, none⟩ := by
  rcases h.shape with ⟨_, e, _⟩ | ⟨g, e, _⟩
  · exact absurd e hA
  · exact ⟨g, e⟩
theorem Sl.lt {k : IntKind} {T : TypeId} {w : World} {a : Addr} {cap : Nat} {A : List Nat} (h : Sl k T w (some a) cap A) : a.block < w.heap.size := by
  rcases h.shape with ⟨e, _⟩ | ⟨g, e, hl, _⟩
  · cases e
  · cases e; exact hl
theorem Sl.cell {k : IntKind} {T : TypeId} {w : World} {g cap : Nat} {A : List Nat} (h : Sl k T w (some ⟨g, 0, none⟩) cap A) (i : Nat) (hi : i < A.length) : w.cell? ⟨g, i, none⟩ = some (.int k (A[i]'hi)) := by
  rcases h.shape with ⟨e, _⟩ | ⟨g', e, _, _, _, cur, hh, _, ht⟩
  · cases e
  · simp only [Option.some.injEq, Addr.mk.injEq] at e
    obtain ⟨rfl, _⟩ := e
    rw [cell_of_row w g i _ T (0, 0) hh]
    have := nums_get k A i hi
    rw [← ht, List.getElem?_take_of_lt hi] at this
    simpa using this
theorem Sl.froz {k : IntKind} {T : TypeId} {w : World} {g cap : Nat} {A : List Nat} (h : Sl k T w (some ⟨g, 0, none⟩) cap A) (i : Nat) : w.frozen? ⟨g, i, none⟩ = false := by
  rcases h.shape with ⟨e, _⟩ | ⟨g', e, _, _, _, cur, hh, _⟩
  · cases e
  · simp only [Option.some.injEq, Addr.mk.injEq] at e
    obtain ⟨rfl, _⟩ := e
    exact frozen_of_row w g i _ T hh
theorem Sl.cap_le {k : IntKind} {T : TypeId} {w : World} {p : Option Addr} {cap : Nat} {A : List Nat} (h : Sl k T w p cap A) : A.length ≤ cap := by
  rcases h.shape with ⟨_, e, _⟩ | ⟨g, _, _, h1, _⟩
  · subst e; simp
  · exact h1
theorem Sl.kept {k : IntKind} {T : TypeId} {w w' : World} {p : Option Addr} {cap : Nat} {A : List Nat} {S : Nat → Prop} (h : Sl k T w p cap A) (hm : Mod S w w') (hp : ∀ a, p = some a → ¬ S a.block) : Sl k T w' p cap A := by
  rcases h.shape with ⟨rfl, rfl, rfl⟩ | ⟨g, rfl, hl, h1, h2, cur, hh, h3, h4⟩
  · exact Sl.empty _ _ _
  · exact Sl.of_row ((hm.block g hl (hp _ rfl)).trans hh) h1 h2 h3 h4
theorem Sl.below {k : IntKind} {T : TypeId} {w w' : World} {p : Option Addr} {cap B : Nat} {A : List Nat} (h : Sl k T w p cap A) (hb : Below B w w') (hp : ∀ a, p = some a → a.block < B) : Sl k T w' p cap A :=
  h.kept (Mod.of_below hb) (fun a e hs => by have := hp a e; omega)
theorem Sl.old {k : IntKind} {T : TypeId} {w w' : World} {p : Option Addr} {cap : Nat} {A : List Nat} (h : Sl k T w p cap A) (hb : Below w.heap.size w w') : Sl k T w' p cap A :=
  h.below hb (fun a e => by subst e; exact h.lt)
theorem Sl.alloc {k : IntKind} {T : TypeId} {w : World} {p : Option Addr} {cap : Nat} {A : List Nat} (h : Sl k T w p cap A) (o : Obj) : Sl k T (w.alloc o) p cap A := h.old ((Below.refl _ _).alloc (Nat.le_refl _) o)
theorem Sl.drew {k : IntKind} {T : TypeId} {w : World} {p : Option Addr} {cap : Nat} {A : List Nat} (h : Sl k T w p cap A) : Sl k T w.drew p cap A := h.old (Below.refl _ _).drew
theorem Sl.other {k : IntKind} {T : TypeId} {w : World} {p : Option Addr} {cap : Nat} {A : List Nat} (h : Sl k T w p cap A) (a : Addr) (u : Value) (hp : ∀ q, p = some q → q.block ≠ a.block) : Sl k T (w.setCell a u) p cap A :=
  h.kept ((Mod.refl (· = a.block) w).setCell (fun _ => rfl) u) hp
theorem Sl.set {k : IntKind} {T : TypeId} {w : World} {g cap : Nat} {A : List Nat} (h : Sl k T w (some ⟨g, 0, none⟩) cap A) (i x : Nat) : Sl k T (w.setCell ⟨g, i, none⟩ (.int k x)) (some ⟨g, 0, none⟩) cap (A.set i x) := by
  rcases h.shape with ⟨e, _⟩ | ⟨g', e, _, h1, h2, cur, hh, h3, h4⟩
  · cases e
  · simp only [Option.some.injEq, Addr.mk.injEq] at e
    obtain ⟨rfl, _⟩ := e
    have hs := heap_setCell_same w g i cur T (.int k x) hh
    refine Sl.of_row hs (by simpa using h1) h2 (by simpa using h3) ?_
    rw [List.length_set, ← nums_set, ← h4]
    simp [List.take_set]
theorem Sl.take {k : IntKind} {T : TypeId} {w : World} {p : Option Addr} {cap : Nat} {A : List Nat} (h : Sl k T w p cap A) (m : Nat) (hm : m ≤ A.length) : Sl k T w p cap (A.take m) := by
  rcases h.shape with ⟨rfl, rfl, rfl⟩ | ⟨g, rfl, hl, h1, h2, cur, hh, h3, h4⟩
  · simpa using Sl.empty k T w
  · refine Sl.of_row hh (by simp; omega) h2 h3 ?_
    rw [List.length_take, Nat.min_eq_left hm]
    have := congrArg (List.take m) h4
    rw [List.take_take, Nat.min_eq_left hm] at this
    rw [this]; simp [nums, List.map_take]

/-- A box stays where nothing below has turned. -/
theorem Boxed.below' {w w' : World} {B g : Nat} {T : TypeId} {v : Value} (h : Boxed w g T v) (hb : Below B w w') (hg : g < B) : Boxed w' g T v := (hb.block g hg).trans h
theorem Boxed.mod' {w w' : World} {S : Nat → Prop} {g : Nat} {T : TypeId} {v : Value} (h : Boxed w g T v) (hm : Mod S w w') (hg : ¬ S g) : Boxed w' g T v := (hm.block g h.lt hg).trans h

end Go.Proofs.Ytdahkemeoefndaa

namespace Go.Proofs.Ytdahkemeoefndaa
open Go.RowKit

/-- A table's value. -/
def tval (P : List Nat) : Value := .agg (nums .i64 P).toArray
/-- All powers. -/
def tsum (P : List Nat) : Nat := P.foldl (· + ·) 0
/-- A table: 64 powers that may be. -/
structure IsTab (P : List Nat) : Prop where
  len : P.length = 64
  le : ∀ p ∈ P, p ≤ 1099511627776

theorem tsum_from (P : List Nat) (a : Nat) : P.foldl (· + ·) a = a + tsum P := by
  unfold tsum
  induction P generalizing a with
  | nil => rfl
  | cons p P ih => rw [List.foldl_cons, List.foldl_cons, ih, ih (0 + p)]; omega
theorem tsum_take (P : List Nat) (i : Nat) (hi : i < P.length) : tsum (P.take (i + 1)) = tsum (P.take i) + P[i] := by
  unfold tsum
  rw [← List.take_append_getElem hi, List.foldl_append]; rfl
theorem tsum_le (P : List Nat) (h : ∀ p ∈ P, p ≤ 1099511627776) : tsum P ≤ P.length * 1099511627776 := by
  induction P with
  | nil => exact Nat.le_refl _
  | cons p P ih =>
    have h1 := h p (by simp)
    have h2 := ih (fun q hq => h q (by simp [hq]))
    have e : tsum (p :: P) = p + tsum P := by show (p :: P).foldl (· + ·) 0 = _; rw [List.foldl_cons, tsum_from]; omega
    rw [e, List.length_cons, Nat.add_mul]; omega
theorem IsTab.sumle {P : List Nat} (h : IsTab P) : tsum P ≤ 70368744177664 := by
  have := tsum_le P h.le; rw [h.len] at this; exact this
theorem IsTab.row {P : List Nat} (h : IsTab P) {A : Array Value} (hA : A = (nums .i64 P).toArray) : A.size = 64 := by rw [hA]; simp [nums_len, h.len]
theorem tsum_mono (P : List Nat) (i : Nat) : tsum (P.take i) ≤ tsum P := by
  have h2 := tsum_from (P.drop i) (tsum (P.take i))
  have h : tsum P = (P.drop i).foldl (· + ·) (tsum (P.take i)) := by
    unfold tsum
    rw [← List.foldl_append, List.take_append_drop]
  rw [h, h2]; exact Nat.le_add_right _ _

set_option maxRecDepth 20000 in
set_option maxHeartbeats 1000000 in
theorem total_any (P : List Nat) (w : World) (hP : IsTab P) :
    Calls Try.prog 12 #[tval P] w fun r w' => r = .returned (.int .i64 (tsum P : Int)) ∧ Below w.heap.size w w' := by
  unfold tval
  have hle := hP.sumle
  have hm := Lib.hid (tsum_mono P)
  have hl := hP.len
  have hidx : ∀ (i : Nat) (hi : i < P.length) (w : World), (Instr.index 24 (.agg (nums .i64 P).toArray) (.int .i64 (i : Int))).run Try.prog w = .ok (.int .i64 (P[i]'hi)) w :=
    fun i hi w => run_index_nums 24 3 64 .i64 P i hi Try.underlying24 hl Try.underlying3 (by kernel_rfl) w
  obtain ⟨A, hA⟩ : ∃ A, A = (nums .i64 P).toArray := ⟨_, rfl⟩
  have hAs := hP.row hA
  rw [← hA] at hidx ⊢
  have Hidx := Lib.hid hidx
  have hB : Below w.heap.size w (w.alloc (.cells A 26)) := (Below.refl _ _).alloc (Nat.le_refl _) _
  have hrow : (w.alloc (.cells A 26)).heap[w.heap.size]? = some (.cells A 26 (0, 0)) := heap_alloc_new _ _
  clear hA hidx
  go_enter Try.func12, Try.ntmps12
  go_upto_region 2 with fail
  generalize w.alloc (.cells A 26) = W at hB hrow ⊢
  go_wp2_with (refine wpList_load_row rfl 24 (.tmp 6) rfl w.heap.size rfl 26 A (0, 0) _ hrow Try.underlying24 rfl ?s1 ?_)
  case s1 => rw [hAs]; kernel_rfl
  clear hAs hrow
  go_loopw [3, 8] (fun s3 s8 wr => ∃ (i t : Nat), i ≤ 64 ∧ s3 = .int .i64 (t : Int) ∧ s8 = .int .i64 (i : Int) ∧ Hid (t = tsum (P.take i)) ∧ wr = W) (fun _ i _ => 64 - (intOf i).toNat)
  case atStart => exact ⟨0, 0, by omega, rfl, rfl, Lib.hid rfl, rfl⟩
  case round =>
    obtain ⟨i, t, hi, rfl, rfl, ht, rfl⟩ := hrel
    by_cases hin : i < 64
    · have hil : i < P.length := by omega
      have e0 := Hidx.out i hil
      obtain ⟨x, hx⟩ : ∃ x, x = P[i] := ⟨_, rfl⟩
      rw [← hx] at e0
      have ht2 : Hid (t + x = tsum (P.take (i + 1))) := Lib.hid (by rw [tsum_take P i hil, ← ht.out, hx])
      have htb : t + x ≤ 70368744177664 := by rw [ht2.out]; exact Nat.le_trans (hm.out _) hle
      have i1 : (i : Int) < 64 := by omega
      have w1 : IntKind.i64.wrap ((t : Int) + x) = (t : Int) + x := by rw [IntKind.wrap_i64]; omega
      clear hx ht
      go_wp2_with fail
      go_roundw
      case rel => exact ⟨i + 1, t + x, by omega, by go_num, by go_num, ht2, trivial⟩
      case measure => simp [intOf]; omega
    · obtain rfl : i = 64 := by omega
      have e : t = tsum P := by rw [ht.out, List.take_of_length_le (by omega)]
      subst e
      clear ht
      go_wp2_with fail
      go_ret
      exact ⟨rfl, hB⟩

set_option maxRecDepth 20000 in
set_option maxHeartbeats 1000000 in
theorem power_any (P : List Nat) (m : Int) (w : World) (hP : IsTab P) :
    Calls Try.prog 24 #[tval P, .int .i64 m] w fun r w' => r = .returned (.int .i64 ((if 0 ≤ m ∧ m < 64 then P.getD m.toNat 0 else 0 : Nat) : Int)) ∧ Below w.heap.size w w' := by
  unfold tval
  have hl := hP.len
  have hR : RowAt .i64 26 (w.alloc (.cells (nums .i64 P).toArray 26)) w.heap.size P := heap_alloc_new _ _
  have hcell := Lib.hid (fun i hi => hR.cell i hi)
  have hB : Below w.heap.size w (w.alloc (.cells (nums .i64 P).toArray 26)) := (Below.refl _ _).alloc (Nat.le_refl _) _
  clear hR
  obtain ⟨A, hA⟩ : ∃ A, A = (nums .i64 P).toArray := ⟨_, rfl⟩
  rw [← hA] at hcell hB ⊢
  clear hA
  by_cases h0 : m < 0
  · rw [if_neg (by omega)]
    go_enter Try.func24, Try.ntmps24
    go_wp2_with fail
    go_ret
    exact ⟨rfl, hB⟩
  · by_cases h64 : m < 64
    · rw [if_pos ⟨by omega, h64⟩]
      obtain ⟨n, rfl⟩ : ∃ n : Nat, m = (n : Int) := ⟨m.toNat, by omega⟩
      have hn : n < P.length := by omega
      have hc := hcell.out n hn
      rw [Int.toNat_natCast, show P.getD n 0 = P[n] by rw [List.getD_eq_getElem?_getD, List.getElem?_eq_getElem hn]; rfl]
      have i0 : (0 : Int) ≤ n := by omega
      generalize P[n] = x at hc ⊢
      go_enter Try.func24, Try.ntmps24
      go_wp2_with fail
      go_ret
      exact ⟨rfl, hB⟩
    · rw [if_neg (by omega)]
      have h63 : ¬ m < 64 := h64
      have h65 : (64 : Int) ≤ m := by omega
      go_enter Try.func24, Try.ntmps24
      go_wp2_with fail
      go_ret
      exact ⟨rfl, hB⟩
end Go.Proofs.Ytdahkemeoefndaa

namespace Go.Proofs.Ytdahkemeoefndaa
open Go

/-- How many of the first n are not listed yet. -/
def unl (L : Array Bool) : Nat → Nat
  | 0 => 0
  | n + 1 => unl L n + (if L.getD n true then 0 else 1)
theorem unl_le (L : Array Bool) : ∀ n, unl L n ≤ n
  | 0 => Nat.le_refl _
  | n + 1 => by have := unl_le L n; simp only [unl]; split <;> omega
theorem set_self (L : Array Bool) (i : Nat) : (L.setIfInBounds i true).getD i true = true := by
  by_cases h : i < L.size
  · simp [h]
  · simp [Array.getElem?_eq_none (Nat.le_of_not_lt h), h]
theorem unl_set (L : Array Bool) (i : Nat) (hi : L.getD i true = false) : ∀ n, unl (L.setIfInBounds i true) n + (if i < n then 1 else 0) = unl L n
  | 0 => rfl
  | n + 1 => by
    have ih := unl_set L i hi n
    simp only [unl]
    by_cases h : n = i
    · subst h
      rw [set_self, hi]
      simp at ih ⊢
      exact ih
    · rw [getD_set_ne true (Ne.symm h)]
      generalize (if L.getD n true = true then 0 else 1) = z
      by_cases h2 : i < n
      · rw [if_pos h2] at ih; rw [if_pos (by omega)]; omega
      · rw [if_neg h2] at ih; rw [if_neg (by omega)]; omega
theorem unl_pos (L : Array Bool) : ∀ n i, i < n → L.getD i true = false → 0 < unl L n
  | n + 1, i, h, hi => by
    simp only [unl]
    by_cases e : i = n
    · subst e; rw [hi]; simp
    · have := unl_pos L n i (by omega) hi; omega

/-- What is in the slots that the operations know: those of the list. -/
def AllV (V : Tmp → Value → World → Prop) (a : Act) (w : World) : List Tmp → Prop
  | [] => True
  | t :: r => V t (a.eval (.tmp t)) w ∧ AllV V a w r
theorem AllV.of {V : Tmp → Value → World → Prop} {a : Act} {w : World} : ∀ {l : List Tmp}, (∀ t ∈ l, V t (a.eval (.tmp t)) w) → AllV V a w l
  | [], _ => trivial
  | t :: r, h => ⟨h t (by simp), AllV.of (fun u hu => h u (by simp [hu]))⟩

/-- The slots whose values an operation waits for. -/
def waits (md : Region.Mode) (ops : Array Oper) (o : Oper) : List Tmp :=
  (o.after.toList.filter (Region.binds md)).filterMap fun e => (ops[e.on]?).bind (·.dst)

structure Agree (ops : Array Oper) (a0 a : Act) : Prop where
  size : a.tmps.size = a0.tmps.size
  defers : a.defers = a0.defers
  same : ∀ t, (∀ (i : Nat) (o : Oper), ops[i]? = some o → o.dst ≠ some t) → a.eval (.tmp t) = a0.eval (.tmp t)

def drawOk (ops : Array Oper) (N : Nat) : Bool :=
  (List.range ops.size).all fun i => match ops[i]? with
    | none => true
    | some o => o.after.all (fun e => decide (e.on < i)) && (match o.dst with
      | none => true
      | some d => decide (d < N) && (List.range ops.size).all fun j => j == i || (match ops[j]? with | some p => p.dst != some d | none => true))

structure DrawOk (ops : Array Oper) (N : Nat) : Prop where
  before : ∀ (i : Nat) (o : Oper), ops[i]? = some o → ∀ e ∈ o.after, e.on < i
  room : ∀ (i : Nat) (o : Oper) (d : Tmp), ops[i]? = some o → o.dst = some d → d < N
  apart : ∀ (i j : Nat) (o p : Oper) (d : Tmp), ops[i]? = some o → ops[j]? = some p → j ≠ i → o.dst = some d → p.dst ≠ some d
theorem drawOk_spec {ops : Array Oper} {N : Nat} (h : drawOk ops N = true) : DrawOk ops N := by
  have key : ∀ (i : Nat) (o : Oper), ops[i]? = some o → o.after.all (fun e => decide (e.on < i)) = true ∧ (match o.dst with
      | none => true
      | some d => decide (d < N) && (List.range ops.size).all fun j => j == i || (match ops[j]? with | some p => p.dst != some d | none => true)) = true := by
    intro i o ho
    have hlt : i < ops.size := (Array.getElem?_eq_some_iff.1 ho).1
    have := List.all_eq_true.1 h i (List.mem_range.2 hlt)
    simp only [ho, Bool.and_eq_true] at this
    exact this
  refine ⟨fun i o ho e he => ?_, fun i o d ho hd => ?_, fun i j o p d ho hp hj hd hpd => ?_⟩
  · have := Array.all_eq_true_iff_forall_mem.1 (key i o ho).1 e he
    exact of_decide_eq_true this
  · have := (key i o ho).2
    rw [hd] at this
    simp only [Bool.and_eq_true] at this
    exact of_decide_eq_true this.1
  · have := (key i o ho).2
    rw [hd] at this
    simp only [Bool.and_eq_true] at this
    have h2 := List.all_eq_true.1 this.2 j (List.mem_range.2 (Array.getElem?_eq_some_iff.1 hp).1)
    simp only [hp, Bool.or_eq_true, beq_iff_eq, hj, false_or, bne_iff_ne, ne_eq] at h2
    exact h2 hpd

/-- What one operation owes. -/
def Owes (P : Program) (md : Region.Mode) (ops : Array Oper) (Q : Exit → Act → World → Prop) (V : Tmp → Value → World → Prop) (G : World → Prop) (a0 : Act) (i : Nat) (o : Oper) : Prop :=
  ∀ a w, Agree ops a0 a → G w → AllV V a w (waits md ops o) →
    wpOp P ops Q i (fun a' w' => ∃ v, a' = a.put o.dst v ∧ (∀ t, o.dst = some t → V t v w') ∧ G w' ∧ ∀ t x, V t x w → V t x w') a w

theorem eval_put_same {a : Act} {d : Tmp} (h : d < a.tmps.size) (v : Value) : (a.put (some d) v).eval (.tmp d) = v := by
  simp [Act.put, Act.eval, h]
theorem size_put (a : Act) (d : Option Tmp) (v : Value) : (a.put d v).tmps.size = a.tmps.size := by
  cases d <;> simp [Act.put]
theorem defers_put (a : Act) (d : Option Tmp) (v : Value) : (a.put d v).defers = a.defers := by
  cases d <;> rfl

section
variable {P : Program} {ops : Array Oper} {Q : Exit → Act → World → Prop} {md : Region.Mode} {V : Tmp → Value → World → Prop} {G : World → Prop} {a0 : Act}

theorem ready_some (hok : DrawOk ops a0.tmps.size) {L : Array Bool} (hL : L.size = ops.size) : ∀ i, i < ops.size → L.getD i true = false → ∃ j, j ∈ Region.ready md ops L := by
  intro i
  induction i using Nat.strongRecOn with
  | ind i ih =>
    intro hi hun
    have ho : ops[i]? = some ops[i] := Array.getElem?_eq_getElem hi
    by_cases h : ∀ e ∈ ops[i].after, Region.binds md e = true → L.getD e.on false = true
    · exact ⟨i, mem_ready.2 ⟨hun, _, ho, h⟩⟩
    · have ⟨e, he⟩ := Classical.not_forall.1 h
      have ⟨he1, he2⟩ := Classical.not_imp.1 he
      have ⟨hb, hf⟩ := Classical.not_imp.1 he2
      have hlt := hok.before i _ ho e he1
      have hel : e.on < L.size := by omega
      refine ih e.on hlt (by omega) ?_
      simp [hel] at hf ⊢
      exact hf

theorem wpAny_vals (hok : DrawOk ops a0.tmps.size) (step : ∀ (i : Nat) (o : Oper), ops[i]? = some o → Owes P md ops Q V G a0 i o)
    (fin : ∀ a w, Agree ops a0 a → G w → (∀ (i : Nat) (o : Oper) (t : Tmp), ops[i]? = some o → o.dst = some t → V t (a.eval (.tmp t)) w) → Q .normal a w) :
    ∀ (fuel : Nat) (L : Array Bool) (a : Act) (w : World), unl L ops.size ≤ fuel → L.size = ops.size → Agree ops a0 a → G w →
      (∀ (i : Nat) (o : Oper) (t : Tmp), ops[i]? = some o → L.getD i true = true → o.dst = some t → V t (a.eval (.tmp t)) w) → wpAny P md ops Q fuel L a w := by
  have allL : ∀ L : Array Bool, L.size = ops.size → Region.ready md ops L = [] → ∀ (i : Nat) (o : Oper), ops[i]? = some o → L.getD i true = true := by
    intro L hL hr i o ho
    cases hc : L.getD i true with
    | true => rfl
    | false =>
      obtain ⟨j, hj⟩ := ready_some (md := md) hok hL i (Array.getElem?_eq_some_iff.1 ho).1 hc
      rw [hr] at hj; cases hj
  intro fuel
  induction fuel with
  | zero =>
    intro L a w hu hL ha hG hv
    have hr : Region.ready md ops L = [] := by
      apply List.eq_nil_iff_forall_not_mem.2
      intro j hj
      obtain ⟨hun, o, ho, _⟩ := mem_ready.1 hj
      have := unl_pos L ops.size j (Array.getElem?_eq_some_iff.1 ho).1 hun
      omega
    exact ⟨hr, fin a w ha hG (fun i o t ho ht => hv i o t ho (allL L hL hr i o ho) ht)⟩
  | succ fuel ih =>
    intro L a w hu hL ha hG hv
    refine ⟨fun hr => fin a w ha hG (fun i o t ho ht => hv i o t ho (allL L hL hr i o ho) ht), fun i hi => ?_⟩
    obtain ⟨hun, o, ho, hall⟩ := mem_ready.1 hi
    have hil : i < ops.size := (Array.getElem?_eq_some_iff.1 ho).1
    have hw : AllV V a w (waits md ops o) := AllV.of (by
      intro t ht
      unfold waits at ht
      obtain ⟨e, he, hd⟩ := List.mem_filterMap.1 ht
      obtain ⟨he1, he2⟩ := List.mem_filter.1 he
      cases hj : ops[e.on]? with
      | none => rw [hj] at hd; cases hd
      | some p =>
        rw [hj] at hd
        have hl := hall e (by simpa using he1) he2
        have hel : e.on < L.size := by rw [hL]; exact (Array.getElem?_eq_some_iff.1 hj).1
        exact hv e.on p t hj (by simp [hel] at hl ⊢; exact hl) hd)
    refine wpOp_mono (fun a' w' h => ?_) (step i o ho a w ha hG hw)
    obtain ⟨v, rfl, hvi, hG', hst⟩ := h
    refine ih _ _ _ ?_ (by simpa using hL) ?_ hG' ?_
    · have := unl_set L i hun ops.size
      rw [if_pos hil] at this; omega
    · refine ⟨by rw [size_put]; exact ha.size, by rw [defers_put]; exact ha.defers, fun t ht => ?_⟩
      rw [Act.eval_put (fun d hd e => ht i o ho (by cases e; exact hd))]
      exact ha.same t ht
    · intro j p t hp hl ht
      by_cases e : j = i
      · subst e
        rw [ho] at hp; cases hp
        rw [ht, eval_put_same (by rw [ha.size]; exact hok.room j o t ho ht)]
        exact hvi t ht
      · rw [Act.eval_put (fun d hd e2 => by cases e2; exact hok.apart i j o p t ho hp e hd ht)]
        rw [getD_set_ne true (Ne.symm e)] at hl
        exact hst _ _ (hv j p t hp hl ht)

/-- The obligations one after the other. -/
def OweAll (P : Program) (md : Region.Mode) (ops : Array Oper) (Q : Exit → Act → World → Prop) (V : Tmp → Value → World → Prop) (G : World → Prop) (a0 : Act) : Nat → List Oper → Prop
  | _, [] => True
  | k, o :: r => Owes P md ops Q V G a0 k o ∧ OweAll P md ops Q V G a0 (k + 1) r
theorem OweAll.get : ∀ {l : List Oper} {k : Nat}, OweAll P md ops Q V G a0 k l → ∀ (i : Nat) (o : Oper), l[i]? = some o → Owes P md ops Q V G a0 (k + i) o
  | _ :: _, k, h, 0, o, hi => by cases hi; exact h.1
  | _ :: r, k, h, i + 1, o, hi => by
    have := OweAll.get h.2 i o (by simpa using hi)
    rwa [show k + 1 + i = k + (i + 1) by omega] at this
  | [], _, _, i, o, hi => by simp at hi
theorem OweAll.cons {k : Nat} {o : Oper} {r : List Oper} (h : Owes P md ops Q V G a0 k o) (h2 : OweAll P md ops Q V G a0 (k + 1) r) : OweAll P md ops Q V G a0 k (o :: r) := ⟨h, h2⟩
theorem OweAll.nil {k : Nat} : OweAll P md ops Q V G a0 k [] := trivial

/-- A region that draws its order. -/
theorem wp_region_vals {id : Nat} {w : World} (V : Tmp → Value → World → Prop) (G : World → Prop) (N : Nat) (hm : P.follows .mixedOrders = true) (hok : drawOk ops N = true) (hN : a0.tmps.size = N) (hG : G w.drew)
    (step : OweAll P .any ops Q V G a0 0 ops.toList)
    (fin : ∀ a w, Agree ops a0 a → G w → (∀ (i : Nat) (o : Oper) (t : Tmp), ops[i]? = some o → o.dst = some t → V t (a.eval (.tmp t)) w) → Q .normal a w) : (Code.region id ops true).wp P Q a0 w := by
  subst hN
  have hok := drawOk_spec hok
  refine wp_region_any hm (wpAny_vals hok (V := V) (G := G) (fun i o ho => ?_) fin ops.size _ a0 _ (unl_le _ _) (by simp) ⟨rfl, rfl, fun _ _ => rfl⟩ hG ?_)
  · have := step.get i o (by simpa using ho)
    rwa [Nat.zero_add] at this
  · intro i o t ho hl _
    have hlt := (Array.getElem?_eq_some_iff.1 ho).1
    simp [hlt] at hl

/-- The slots of the operations. -/
def dsts (ops : Array Oper) : List Tmp := ops.toList.filterMap (·.dst)
def puts (f : Tmp → Value) (l : List Tmp) (b : Act) : Act := l.foldl (fun b t => b.put (some t) (f t)) b
theorem puts_spec (f : Tmp → Value) : ∀ (l : List Tmp) (b : Act), (∀ t ∈ l, t < b.tmps.size) →
    (puts f l b).tmps.size = b.tmps.size ∧ (puts f l b).defers = b.defers ∧ ∀ t, (puts f l b).eval (.tmp t) = if t ∈ l then f t else b.eval (.tmp t)
  | [], b, _ => ⟨rfl, rfl, fun t => by simp [puts]⟩
  | u :: r, b, h => by
    have ih := puts_spec f r (b.put (some u) (f u)) (fun t ht => by rw [size_put]; exact h t (by simp [ht]))
    refine ⟨ih.1.trans (size_put _ _ _), ih.2.1.trans (defers_put _ _ _), fun t => ?_⟩
    have e : puts f (u :: r) b = puts f r (b.put (some u) (f u)) := rfl
    rw [e, ih.2.2 t]
    by_cases h1 : t ∈ r
    · rw [if_pos h1, if_pos (by simp [h1])]
    · rw [if_neg h1]
      by_cases h2 : t = u
      · subst h2; rw [eval_put_same (h t (by simp)), if_pos (by simp)]
      · rw [Act.eval_put (fun d hd e2 => by cases hd; cases e2; exact h2 rfl), if_neg (by simp [h1, h2])]
theorem act_ext {a b : Act} (hs : a.tmps.size = b.tmps.size) (hd : a.defers = b.defers) (h : ∀ t, a.eval (.tmp t) = b.eval (.tmp t)) : a = b := by
  obtain ⟨ta, da⟩ := a
  obtain ⟨tb, db⟩ := b
  have : ta = tb := by
    apply Array.ext hs
    intro i h1 h2
    have := h i
    simpa [Act.eval, h1, h2] using this
  subst this
  cases hd
  rfl
theorem Agree.puts {a : Act} (ha : Agree ops a0 a) (hok : DrawOk ops a0.tmps.size) : a = puts (fun t => a.eval (.tmp t)) (dsts ops) a0 := by
  have hm : ∀ t ∈ dsts ops, ∃ (i : Nat) (o : Oper), ops[i]? = some o ∧ o.dst = some t := by
    intro t ht
    obtain ⟨o, ho, hd⟩ := List.mem_filterMap.1 ht
    obtain ⟨i, hi, e⟩ := List.getElem_of_mem ho
    refine ⟨i, o, ?_, hd⟩
    rw [← e]
    simp at hi
    simp [hi]
  have hp := puts_spec (fun t => a.eval (.tmp t)) (dsts ops) a0 (fun t ht => by obtain ⟨i, o, hi, hd⟩ := hm t ht; exact hok.room i o t hi hd)
  refine act_ext (ha.size.trans hp.1.symm) (ha.defers.trans hp.2.1.symm) (fun t => ?_)
  rw [hp.2.2 t]
  by_cases h : t ∈ dsts ops
  · rw [if_pos h]
  · rw [if_neg h]
    refine ha.same t (fun i o hi hd => h ?_)
    exact List.mem_filterMap.2 ⟨o, by simpa using Array.mem_of_getElem? hi, hd⟩

/-- A region that draws its order, what follows it at a known frame. -/
theorem wp_region_puts {id : Nat} {w : World} (V : Tmp → Value → World → Prop) (G : World → Prop) (N : Nat) (hm : P.follows .mixedOrders = true) (hok : drawOk ops N = true) (hN : a0.tmps.size = N) (hG : G w.drew)
    (step : OweAll P .any ops Q V G a0 0 ops.toList)
    (fin : ∀ f w, G w → (∀ (i : Nat) (o : Oper) (t : Tmp), ops[i]? = some o → o.dst = some t → V t (f t) w) → Q .normal (puts f (dsts ops) a0) w) : (Code.region id ops true).wp P Q a0 w :=
  wp_region_vals V G N hm hok hN hG step (fun a w ha hG hv => by
    subst hN
    rw [ha.puts (drawOk_spec hok)]
    exact fin _ w hG hv)

theorem AllV.get {a : Act} {w : World} : ∀ {l : List Tmp}, AllV V a w l → ∀ t, l.contains t = true → V t (a.eval (.tmp t)) w
  | [], _, t, h => by simp at h
  | u :: r, hh, t, h => by
    by_cases e : t = u
    · subst e; exact hh.1
    · exact AllV.get hh.2 t (by simpa [e] using h)
theorem Agree.outer {a : Act} (h : Agree ops a0 a) (t : Tmp) (ht : ops.all (fun o => o.dst != some t) = true) : a.eval (.tmp t) = a0.eval (.tmp t) := by
  refine h.same t (fun i o ho e => ?_)
  have := Array.all_eq_true_iff_forall_mem.1 ht o (Array.mem_of_getElem? ho)
  rw [e] at this; simp at this
theorem getD_bool {a : Act} {t : Tmp} {b : Bool} (h : a.eval (.tmp t) = .bool b) : a.tmps[t]? = some (.bool b) := by
  unfold Act.eval at h
  cases hc : a.tmps[t]? with
  | none => simp [hc, undef] at h
  | some x => simp [hc] at h; rw [h]
theorem wanted_of {o : Oper} {a : Act} {g : Nat} {want : Bool} {t : Tmp} (hg : o.guard = some (g, want)) (hd : (ops[g]?).bind (·.dst) = some t) (h : a.eval (.tmp t) = .bool want) : Region.wanted o (yielded ops a.tmps) = true := by
  unfold Region.wanted yielded
  rw [hg]
  simp only [hd, Option.bind_some, getD_bool h]
  simp
theorem wanted_free {o : Oper} {a : Act} (hg : o.guard = none) : Region.wanted o (yielded ops a.tmps) = true := by
  unfold Region.wanted; rw [hg]

/-- An operation that yields a value and turns nothing. -/
theorem owes_val {i : Nat} {o : Oper} {t : Tmp} (hi : ops[i]? = some o) (ht : o.dst = some t) (h : ∀ a w, Agree ops a0 a → G w → AllV V a w (waits md ops o) →
    ∃ v, Region.wanted o (yielded ops a.tmps) = true ∧ (execOp a.eval o).run P w = .ok (.value v) w ∧ V t v w) : Owes P md ops Q V G a0 i o := by
  intro a w ha hG hV
  obtain ⟨v, hw, hr, hv⟩ := h a w ha hG hV
  unfold wpOp
  rw [hi]
  simp only [hw, if_true, Oper.wp, hr, Oper.upon]
  exact .inl ⟨v, rfl, fun u hu => by rw [ht] at hu; cases hu; exact hv, hG, fun _ _ h => h⟩
/-- A call. -/
theorem owes_call {i : Nat} {o : Oper} {t : Tmp} (hi : ops[i]? = some o) (ht : o.dst = some t) (f : FuncId) (h : ∀ a w, Agree ops a0 a → G w → AllV V a w (waits md ops o) →
    ∃ args, Region.wanted o (yielded ops a.tmps) = true ∧ (execOp a.eval o).run P w = .ok (.enter f args) w ∧
      Calls P f args w fun e w' => ∃ v, e = .returned v ∧ V t v w' ∧ G w' ∧ ∀ t x, V t x w → V t x w') : Owes P md ops Q V G a0 i o := by
  intro a w ha hG hV
  obtain ⟨args, hw, hr, hc⟩ := h a w ha hG hV
  unfold wpOp
  rw [hi]
  simp only [hw, if_true, Oper.wp, hr, Oper.upon]
  refine .inl (hc.mono ?_)
  rintro e w' ⟨v, rfl, h1, h2, h3⟩
  exact ⟨v, rfl, fun u hu => by rw [ht] at hu; cases hu; exact h1, h2, h3⟩
end
end Go.Proofs.Ytdahkemeoefndaa

namespace Go.Proofs.Ytdahkemeoefndaa
open Go.RowKit

/-- The slice holds the numbers. -/
def IntsAt (w : World) (ao : Option Addr) (S : List Int) : Prop :=
  ∀ j (h : j < S.length), ∃ bs off, ao = some ⟨bs, off, none⟩ ∧ bs < w.heap.size ∧ w.cell? ⟨bs, off + j, none⟩ = some (.int .i64 S[j])
theorem IntsAt.old {w w' : World} {ao : Option Addr} {S : List Int} (h : IntsAt w ao S) (hb : Below w.heap.size w w') : IntsAt w' ao S := by
  intro j hj
  obtain ⟨bs, off, e, hlt, c1⟩ := h j hj
  exact ⟨bs, off, e, Nat.lt_of_lt_of_le hlt hb.size, (hb.cell (p := ⟨bs, off + j, none⟩) hlt).trans c1⟩
/-- A miner's power. -/
def pw (P : List Nat) (m : Int) : Nat := if 0 ≤ m ∧ m < 64 then P.getD m.toNat 0 else 0
/-- One signer more. -/
def sg (P Q : List Nat) (m : Int) : List Nat := if 0 < pw P m then Q.set m.toNat (pw P m) else Q
/-- What was signed. -/
def sig (P : List Nat) (S : List Int) : List Nat := S.foldl (sg P) (List.replicate 64 0)
theorem pw_le {P : List Nat} (h : IsTab P) (m : Int) : pw P m ≤ 1099511627776 := by
  unfold pw
  by_cases hm : 0 ≤ m ∧ m < 64
  · rw [if_pos hm]
    have hn : m.toNat < P.length := by rw [h.len]; omega
    rw [List.getD_eq_getElem?_getD, List.getElem?_eq_getElem hn]
    exact h.le _ (List.getElem_mem hn)
  · rw [if_neg hm]; exact Nat.zero_le _
theorem set_le {P : List Nat} {b : Nat} (h : ∀ p ∈ P, p ≤ b) {i x : Nat} (hx : x ≤ b) : ∀ p ∈ P.set i x, p ≤ b := by
  intro p hp
  rcases List.mem_or_eq_of_mem_set hp with h1 | h1
  · exact h p h1
  · rw [h1]; exact hx
theorem IsTab.sg {P Q : List Nat} (h : IsTab P) (hQ : IsTab Q) (m : Int) : IsTab (sg P Q m) := by
  unfold Go.Proofs.Ytdahkemeoefndaa.sg
  by_cases hp : 0 < pw P m
  · rw [if_pos hp]; exact ⟨by rw [List.length_set]; exact hQ.len, set_le hQ.le (pw_le h m)⟩
  · rw [if_neg hp]; exact hQ
theorem isTab_zero : IsTab (List.replicate 64 0) := ⟨by simp, fun p hp => by rw [List.eq_of_mem_replicate hp]; exact Nat.zero_le _⟩
theorem sig_take (P : List Nat) (S : List Int) (i : Nat) (hi : i < S.length) : sig P (S.take (i + 1)) = sg P (sig P (S.take i)) S[i] := by
  unfold sig
  rw [← List.take_append_getElem hi, List.foldl_append]; rfl

theorem exec_load_row {P : Program} {o : Oper} {a : Act} {w : World} (ty : TypeId) (x : Operand) (ho : o.op = .load ty x) (g : Nat) (hx : a.eval x = .pointer (some ⟨g, 0, none⟩)) (t : TypeId) (cs : Array Value) (fr : Nat × Nat) (d : TypeDesc) (hg : w.heap[g]? = some (.cells cs t fr))
    (hu : P.underlying ty = some d) (hd : (match d with | .struct _ | .array _ _ => true | _ => false) = true) (hi : (P.info? ty).map (·.size) = some cs.size) : (execOp a.eval o).run P w = .ok (.value (.agg cs)) w := by
  unfold execOp
  simp only [ho, hx, Instr.loadAt, Instr.sureAddr, Sem.run_bind, Sem.run_pure, Result.andThen_ok, run_loadVar_row w g t ty cs fr d hg hu hd hi]

/-- While the signers are gone through: i are. -/
structure QuoR (w : World) (P : List Nat) (A : Array Value) (S : List Int) (i : Nat) (Q : List Nat) (wr : World) : Prop where
  val : Q = sig P (S.take i)
  tab : IsTab Q
  row : RowAt .i64 26 wr (w.heap.size + 1) Q
  own : wr.heap[w.heap.size]? = some (.cells A 26 (0, 0))
  m : Below w.heap.size w wr
theorem QuoR.below {w : World} {P : List Nat} {A : Array Value} {S : List Int} {i : Nat} {Q : List Nat} {wr w' : World} (h : QuoR w P A S i Q wr) (hb : Below wr.heap.size wr w') : QuoR w P A S i Q w' :=
  ⟨h.val, h.tab, (hb.block _ h.row.lt).trans h.row, (hb.block _ (Array.getElem?_eq_some_iff.1 h.own).1).trans h.own, h.m.trans (hb.mono h.m.size)⟩

set_option maxRecDepth 20000 in
set_option maxHeartbeats 8000000 in
theorem quorum_any (P : List Nat) (ao : Option Addr) (cap : Nat) (S : List Int) (w : World) (hP : IsTab P) (hS : IntsAt w ao S) (hl : S.length ≤ 1000000) :
    Calls Try.prog 11 #[tval P, .slice ao S.length cap] w fun r w' => r = .returned (.bool (decide (2 * tsum P < 3 * tsum (sig P S)))) ∧ Below w.heap.size w w' := by
  have hpow : ∀ (m : Int) (w : World), Calls Try.prog 24 #[tval P, .int .i64 m] w fun r w' => r = .returned (.int .i64 (pw P m : Int)) ∧ Below w.heap.size w w' := fun m w => power_any P m w hP
  have htot : ∀ (Q : List Nat) (w : World), IsTab Q → Calls Try.prog 12 #[tval Q] w fun r w' => r = .returned (.int .i64 (tsum Q : Int)) ∧ Below w.heap.size w w' := fun Q w h => total_any Q w h
  have htP := htot P
  obtain ⟨n, hn⟩ : ∃ n, S.length = n := ⟨_, rfl⟩
  rw [hn] at hl ⊢
  have Hn := Lib.hid hn
  have HS := Lib.hid hS
  unfold tval at hpow htP ⊢
  obtain ⟨A, hA⟩ : ∃ A, A = (nums .i64 P).toArray := ⟨_, rfl⟩
  have hAs := hP.row hA
  rw [← hA] at hpow htP ⊢
  have Hpow := Lib.hid hpow
  have HtP := Lib.hid (fun w => htP w hP)
  have Htot := Lib.hid htot
  have HP := Lib.hid hP
  obtain ⟨Z, hZ⟩ : ∃ Z, Z = (nums .i64 (List.replicate 64 0)).toArray := ⟨_, rfl⟩
  have hz : ∀ w : World, (zeroValue 26).run Try.prog w = .ok (.agg Z) w := by rw [hZ]; exact fun _ => by kernel_rfl
  have HZ := Lib.hid hZ
  have hi28 : ∀ w : World, w.heap[w.heap.size]? = none := fun w => Array.getElem?_eq_none (Nat.le_refl _)
  clear hpow htP htot hA hn hS hP hZ hi28
  go_enter Try.func11, Try.ntmps11
  go_upto_region 2 with fail
  obtain ⟨W, hW⟩ : ∃ W, W = (w.alloc (.cells A 26)).alloc (.cells Z 26) := ⟨_, rfl⟩
  have hR0 : QuoR w P A S 0 (List.replicate 64 0) W := by
    rw [hW]
    refine ⟨rfl, isTab_zero, ?_, ?_, ((Below.refl _ _).alloc (Nat.le_refl _) _).alloc (by simp) _⟩
    · have := heap_alloc_new (w.alloc (.cells A 26)) (.cells Z 26)
      rw [World.size_alloc] at this
      rw [HZ.out] at this; rw [HZ.out]; exact this
    · exact (Below.heap_alloc _ _ _ (by simp)).trans (heap_alloc_new w _)
  rw [← hW]
  clear hW hz HZ
  go_wp2_with fail
  go_loopw [11] (fun s11 wr => ∃ (i : Nat) (Q : List Nat), i ≤ n ∧ s11 = .int .i64 (i : Int) ∧ QuoR w P A S i Q wr) (fun i _ => n - (intOf i).toNat)
  case atStart => exact ⟨0, _, by omega, rfl, hR0⟩
  case round =>
    clear hR0
    obtain ⟨i, Q, hi, rfl, hR⟩ := hrel
    by_cases hin : i < n
    · have hil : i < S.length := by rw [Hn.out]; exact hin
      obtain ⟨bs, off, rfl, hbs, c1⟩ := (HS.out.old hR.m) i hil
      obtain ⟨m, hm⟩ : ∃ m, m = S[i] := ⟨_, rfl⟩
      rw [← hm] at c1
      have hsg := sig_take P S i hil
      rw [← hm, ← hR.val] at hsg
      have Hsg := Lib.hid hsg
      have i1 : (i : Int) < n := by omega
      have i0 : (0 : Int) ≤ i := by omega
      have own := hR.own
      have HR := Lib.hid hR
      obtain ⟨x, hx⟩ : ∃ x, x = pw P m := ⟨_, rfl⟩
      have hpm := Hpow.out m wr
      rw [← hx] at hpm
      have Hx := Lib.hid hx
      clear hm hsg hR hx
      go_wp2_with (refine wpList_load_row rfl 26 (.tmp 2) rfl w.heap.size rfl 26 A (0, 0) _ own Try.underlying26 rfl ?s1 ?_)
      case s1 => rw [hAs]; kernel_rfl
      refine hpm.mono ?_
      clear hpm own
      rintro r w3 ⟨rfl, hb⟩
      have hR3 := HR.out.below hb
      clear hb c1 HR
      by_cases hx0 : 0 < x
      · have hm64 : 0 ≤ m ∧ m < 64 := by
          apply Classical.byContradiction; intro h
          have := Hx.out; unfold pw at this; rw [if_neg h] at this; omega
        obtain ⟨k, rfl⟩ : ∃ k : Nat, m = (k : Int) := ⟨m.toNat, by omega⟩
        have hkl : k < Q.length := by rw [hR3.tab.len]; omega
        have cS := hR3.row.cell k hkl
        have fS := hR3.row.froz k
        generalize Q[k] = old at cS
        have hrow := hR3.row.set k x
        have hQ2 : Hid (QuoR w P A S (i + 1) (Q.set k x) (w3.setCell ⟨w.heap.size + 1, k, none⟩ (.int .i64 (x : Int)))) := Lib.hid (by
          have e : sg P Q (k : Int) = Q.set k x := by unfold sg; rw [← Hx.out, if_pos hx0, Int.toNat_natCast]
          refine ⟨by rw [Hsg.out, e], by rw [← e]; exact HP.out.sg hR3.tab _, hrow, ?_, hR3.m.setCell (p := ⟨w.heap.size + 1, k, none⟩) (by show w.heap.size ≤ w.heap.size + 1; omega) _⟩
          exact (Below.heap_setCell _ _ _ _ (by show w.heap.size ≠ w.heap.size + 1; omega)).trans hR3.own)
        have b0 : (0 : Int) < x := by omega
        have k0 : (0 : Int) ≤ k := by omega
        have k1 : (k : Int) < 64 := by omega
        clear hR3 hrow hkl hm64
        go_wp2_with fail
        go_roundw
        case rel => exact ⟨i + 1, _, by omega, by go_num, hQ2.out⟩
        case measure => simp [intOf]; omega
      · have hQ2 : Hid (QuoR w P A S (i + 1) Q w3) := Lib.hid (by
          have e : sg P Q m = Q := by unfold sg; rw [← Hx.out, if_neg hx0]
          exact ⟨by rw [Hsg.out, e], hR3.tab, hR3.row, hR3.own, hR3.m⟩)
        have b0 : ¬ (0 : Int) < x := by omega
        clear hR3
        go_wp2_with fail
        go_roundw
        case rel => exact ⟨i + 1, Q, by omega, by go_num, hQ2.out⟩
        case measure => simp [intOf]; omega
    · obtain rfl : i = n := by omega
      have hv := hR.val
      rw [List.take_of_length_le (by rw [Hn.out]; exact Nat.le_refl _)] at hv
      obtain ⟨AQ, hAQ⟩ : ∃ AQ, AQ = (nums .i64 Q).toArray := ⟨_, rfl⟩
      have hQs := hR.tab.row hAQ
      have hrow : wr.heap[w.heap.size + 1]? = some (.cells AQ 26 (0, 0)) := by rw [hAQ]; exact hR.row
      have htQ := fun w => Htot.out Q w hR.tab
      have hq1 := hR.tab.sumle
      have hp1 := HP.out.sumle
      unfold tval at htQ
      rw [← hAQ] at htQ
      obtain ⟨tq, htq⟩ : ∃ t, t = tsum Q := ⟨_, rfl⟩
      have htP2 := HtP.out
      obtain ⟨tp, htp⟩ : ∃ t, t = tsum P := ⟨_, rfl⟩
      rw [← htq] at htQ hq1
      rw [← htp] at htP2 hp1
      clear HtP
      have HtQ := Lib.hid htQ
      have HtP := Lib.hid htP2
      have wq : IntKind.i64.wrap (3 * (tq : Int)) = 3 * (tq : Int) := by rw [IntKind.wrap_i64]; omega
      have wp' : IntKind.i64.wrap (2 * (tp : Int)) = 2 * (tp : Int) := by rw [IntKind.wrap_i64]; omega
      obtain ⟨b, hb1, hb2⟩ : ∃ b : Bool, decide (2 * (tp : Int) < 3 * (tq : Int)) = b ∧ decide (2 * tp < 3 * tq) = b := by
        by_cases h : 2 * tp < 3 * tq
        · exact ⟨true, by simp; omega, by simp; omega⟩
        · exact ⟨false, by simp; omega, by simp; omega⟩
      have Hb2 : Hid (decide (2 * tsum P < 3 * tsum (sig P S)) = b) := Lib.hid (by rw [← hv, ← htp, ← htq]; exact hb2)
      have hB := hR.m
      clear hv hAQ htQ htP2 htq htp hb2 hin hi
      go_upto_region 9 with fail
      refine wp_region_vals (fun t v _ => match t with
        | 25 => v = .agg AQ
        | 26 => v = .int .i64 (tq : Int)
        | 27 => v = .int .i64 (3 * (tq : Int))
        | 28 => v = .agg A
        | 29 => v = .int .i64 (tp : Int)
        | 30 => v = .int .i64 (2 * (tp : Int))
        | 31 => v = .bool b
        | 4 => v = .bool b
        | _ => True) (fun w' => Below wr.heap.size wr w') 32 (by kernel_rfl) (by decide +kernel) rfl (Below.refl _ _).drew ?_ ?_
      · skip
        refine OweAll.cons (owes_val rfl rfl fun a u1 ha hG hV => ?_) ?_
        · skip
          have h5 : a.eval (.tmp 5) = .pointer (some ⟨w.heap.size + 1, 0, none⟩) := (ha.outer 5 (by decide +kernel)).trans rfl
          exact ⟨.agg AQ, wanted_free rfl, exec_load_row 26 (.tmp 5) rfl _ h5 26 AQ (0, 0) _ ((hG.block _ hR.row.lt).trans hrow) Try.underlying26 rfl (by rw [hQs]; kernel_rfl), rfl⟩
        refine OweAll.cons (owes_call rfl rfl 12 fun a u1 ha hG hV => ?_) ?_
        · skip
          have h25 : a.tmps.getD 25 undef = .agg AQ := hV.get 25 (by decide +kernel)
          refine ⟨#[.agg AQ], wanted_free rfl, by simp [execOp, resolve, invoke, go_sem, h25], ?_⟩
          refine (HtQ.out u1).mono ?_
          rintro r u2 ⟨rfl, hb⟩; exact ⟨_, rfl, rfl, hG.trans (hb.mono hG.size), fun _ _ h => h⟩
        refine OweAll.cons (owes_val rfl rfl fun a u1 ha hG hV => ?_) ?_
        · skip
          have h26 : a.tmps.getD 26 undef = .int .i64 (tq : Int) := hV.get 26 (by decide +kernel)
          exact ⟨.int .i64 (3 * (tq : Int)), wanted_free rfl, by simp [execOp, go_sem, h26, wq], rfl⟩
        refine OweAll.cons (owes_val rfl rfl fun a u1 ha hG hV => ?_) ?_
        · skip
          have h2 : a.eval (.tmp 2) = .pointer (some ⟨w.heap.size, 0, none⟩) := (ha.outer 2 (by decide +kernel)).trans rfl
          exact ⟨.agg A, wanted_free rfl, exec_load_row 26 (.tmp 2) rfl _ h2 26 A (0, 0) _ ((hG.block _ (Array.getElem?_eq_some_iff.1 hR.own).1).trans hR.own) Try.underlying26 rfl (by rw [hAs]; kernel_rfl), rfl⟩
        refine OweAll.cons (owes_call rfl rfl 12 fun a u1 ha hG hV => ?_) ?_
        · skip
          have h28 : a.tmps.getD 28 undef = .agg A := hV.get 28 (by decide +kernel)
          refine ⟨#[.agg A], wanted_free rfl, by simp [execOp, resolve, invoke, go_sem, h28], ?_⟩
          refine (HtP.out u1).mono ?_
          rintro r u2 ⟨rfl, hb⟩; exact ⟨_, rfl, rfl, hG.trans (hb.mono hG.size), fun _ _ h => h⟩
        refine OweAll.cons (owes_val rfl rfl fun a u1 ha hG hV => ?_) ?_
        · skip
          have h29 : a.tmps.getD 29 undef = .int .i64 (tp : Int) := hV.get 29 (by decide +kernel)
          exact ⟨.int .i64 (2 * (tp : Int)), wanted_free rfl, by simp [execOp, go_sem, h29, wp'], rfl⟩
        refine OweAll.cons (owes_val rfl rfl fun a u1 ha hG hV => ?_) ?_
        · skip
          have h27 : a.tmps.getD 27 undef = .int .i64 (3 * (tq : Int)) := hV.get 27 (by decide +kernel)
          have h30 : a.tmps.getD 30 undef = .int .i64 (2 * (tp : Int)) := hV.get 30 (by decide +kernel)
          exact ⟨.bool b, wanted_free rfl, by simp [execOp, go_sem, h27, h30, hb1], rfl⟩
        refine OweAll.cons (owes_val rfl rfl fun a u1 ha hG hV => ?_) ?_
        · skip
          have h31 : a.tmps.getD 31 undef = .bool b := hV.get 31 (by decide +kernel)
          exact ⟨.bool b, wanted_free rfl, by simp [execOp, go_sem, h31], rfl⟩
        exact OweAll.nil
      · intro a u1 ha hG hv
        rename_i hK
        have h4 : a.tmps.getD 4 undef = .bool b := hv 7 _ 4 rfl rfl
        refine hK _ _ (wp_ret ?_)
        show bodyPost Try.prog Try.f11 _ .ret a u1
        refine bodyPost_ret (results_tmp (t := 4) rfl _ _ _) ha.defers ?_
        rw [h4]
        exact ⟨by rw [Hb2.out], hB.trans (hG.mono hB.size)⟩
end Go.Proofs.Ytdahkemeoefndaa

namespace Go.Proofs.Ytdahkemeoefndaa
open Go.RowKit

/-- The slice holds the entries. -/
def EntsAt (w : World) (ao : Option Addr) (E : List (Nat × Nat)) : Prop :=
  ∀ j (h : j < E.length), ∃ bs off, ao = some ⟨bs, off, none⟩ ∧ bs < w.heap.size ∧ w.cell? ⟨bs, off + j * 2, none⟩ = some (.int .i64 ((E[j].1 : Nat) : Int)) ∧ w.cell? ⟨bs, off + j * 2 + 1, none⟩ = some (.int .i64 ((E[j].2 : Nat) : Int))
theorem EntsAt.old {w w' : World} {ao : Option Addr} {E : List (Nat × Nat)} (h : EntsAt w ao E) (hb : Below w.heap.size w w') : EntsAt w' ao E := by
  intro j hj
  obtain ⟨bs, off, e, hlt, c1, c2⟩ := h j hj
  exact ⟨bs, off, e, Nat.lt_of_lt_of_le hlt hb.size, (hb.cell (p := ⟨bs, off + j * 2, none⟩) hlt).trans c1, (hb.cell (p := ⟨bs, off + j * 2 + 1, none⟩) hlt).trans c2⟩
/-- Entries that may be: rising miners, powers from a least one on. -/
structure EntsOk (E : List (Nat × Nat)) (least : Nat) : Prop where
  m : ∀ e ∈ E, e.1 < 64
  p : ∀ e ∈ E, least ≤ e.2 ∧ e.2 ≤ 1099511627776
  up : ∀ j (h : j + 1 < E.length), E[j].1 < E[j + 1].1

set_option maxRecDepth 20000 in
set_option maxHeartbeats 4000000 in
theorem may_yes (ao : Option Addr) (cap least : Nat) (E : List (Nat × Nat)) (w : World) (hS : EntsAt w ao E) (hok : EntsOk E least) (hl : E.length ≤ 64) :
    Calls Try.prog 22 #[.slice ao E.length cap, .int .i64 (least : Int)] w fun r w' => r = .returned (.bool true) ∧ Below w.heap.size w w' := by
  obtain ⟨n, hn⟩ : ∃ n, E.length = n := ⟨_, rfl⟩
  rw [hn] at hl ⊢
  have Hn := Lib.hid hn
  have HS := Lib.hid hS
  have Hok := Lib.hid hok
  clear hn hS hok
  go_enter Try.func22, Try.ntmps22
  go_wp2_with fail
  go_loopw [5, 10] (fun s5 s10 wr => ∃ (i : Nat) (z : Int), i ≤ n ∧ s5 = .int .i64 z ∧ s10 = .int .i64 (i : Int) ∧ Hid (∀ h : i < E.length, z < (E[i].1 : Int)) ∧ Below w.heap.size w wr) (fun _ i _ => n - (intOf i).toNat)
  case atStart => exact ⟨0, -1, by omega, rfl, rfl, Lib.hid (fun h => by omega), Below.refl _ _⟩
  case round =>
    obtain ⟨i, z, hi, rfl, rfl, hz, hB⟩ := hrel
    by_cases hin : i < n
    · have hil : i < E.length := by rw [Hn.out]; exact hin
      obtain ⟨bs, off, rfl, hbs, c1, c2⟩ := (HS.out.old hB) i hil
      have hm := Hok.out.m E[i] (List.getElem_mem hil)
      have hp := Hok.out.p E[i] (List.getElem_mem hil)
      have hzl := hz.out hil
      have hz2 : Hid (∀ h : i + 1 < E.length, ((E[i].1 : Nat) : Int) < (E[i + 1].1 : Int)) := Lib.hid (fun h => by have := Hok.out.up i h; omega)
      obtain ⟨m, hm0⟩ : ∃ m, m = E[i].1 := ⟨_, rfl⟩
      obtain ⟨p, hp0⟩ : ∃ m, m = E[i].2 := ⟨_, rfl⟩
      rw [← hm0] at hm hzl c1
      rw [← hp0] at hp c2
      have hz3 : Hid (∀ h : i + 1 < E.length, (m : Int) < (E[i + 1].1 : Int)) := Lib.hid (fun h => by have := hz2.out h; rw [← hm0] at this; exact this)
      have i1 : (i : Int) < n := by omega
      have i0 : (0 : Int) ≤ i := by omega
      have b1 : ¬ (m : Int) ≤ z := by omega
      have b2 : ¬ (64 : Int) ≤ m := by omega
      have b2' : (m : Int) < 64 := by omega
      have b3 : ¬ (p : Int) < least := by omega
      have b4 : ¬ (1099511627776 : Int) < p := by omega
      have hB2 : Below w.heap.size w (wr.alloc (.cells #[.int .i64 (m : Int), .int .i64 (p : Int)] 38)) := hB.alloc hB.size _
      clear hz hz2 hm0 hp0 hm hp hzl
      go_wp2_with fail
      go_roundw
      case rel => exact ⟨i + 1, (m : Int), by omega, rfl, by go_num, hz3, hB2⟩
      case measure => simp [intOf]; omega
    · obtain rfl : i = n := by omega
      clear hz
      go_wp2_with fail
      go_ret
      exact ⟨rfl, hB⟩

/-- The table in which each miner of E has that power. -/
def wth (P : List Nat) (E : List (Nat × Nat)) : List Nat := E.foldl (fun Q e => Q.set e.1 e.2) P
theorem wth_take (P : List Nat) (E : List (Nat × Nat)) (i : Nat) (hi : i < E.length) : wth P (E.take (i + 1)) = (wth P (E.take i)).set E[i].1 E[i].2 := by
  unfold wth
  rw [← List.take_append_getElem hi, List.foldl_append]; rfl
theorem wth_len (P : List Nat) (E : List (Nat × Nat)) : (wth P E).length = P.length := by
  unfold wth
  induction E generalizing P with
  | nil => rfl
  | cons e E ih => rw [List.foldl_cons, ih]; simp
theorem wth_le {P : List Nat} {E : List (Nat × Nat)} {b : Nat} (hP : ∀ p ∈ P, p ≤ b) (hE : ∀ e ∈ E, e.2 ≤ b) : ∀ p ∈ wth P E, p ≤ b := by
  unfold wth
  induction E generalizing P with
  | nil => exact hP
  | cons e E ih => rw [List.foldl_cons]; exact ih (set_le hP (hE e (by simp))) (fun f hf => hE f (by simp [hf]))
theorem IsTab.wth {P : List Nat} {E : List (Nat × Nat)} {least : Nat} (h : IsTab P) (hok : EntsOk E least) : IsTab (wth P E) := ⟨by rw [wth_len]; exact h.len, wth_le h.le (fun e he => (hok.p e he).2)⟩

structure WthR (w : World) (P : List Nat) (Z : Array Value) (E : List (Nat × Nat)) (i : Nat) (Q : List Nat) (wr : World) : Prop where
  val : Q = wth P (E.take i)
  len : Q.length = 64
  row : RowAt .i64 26 wr w.heap.size Q
  res : wr.heap[w.heap.size + 1]? = some (.cells Z 26 (0, 0))
  m : Below w.heap.size w wr

set_option maxRecDepth 20000 in
set_option maxHeartbeats 8000000 in
theorem with_any (P : List Nat) (ao : Option Addr) (cap least : Nat) (E : List (Nat × Nat)) (w : World) (hP : IsTab P) (hS : EntsAt w ao E) (hok : EntsOk E least) (hl : E.length ≤ 64) :
    Calls Try.prog 23 #[tval P, .slice ao E.length cap] w fun r w' => r = .returned (tval (wth P E)) ∧ Below w.heap.size w w' := by
  obtain ⟨n, hn⟩ : ∃ n, E.length = n := ⟨_, rfl⟩
  rw [hn] at hl ⊢
  have Hn := Lib.hid hn
  have HS := Lib.hid hS
  have Hok := Lib.hid hok
  unfold tval
  obtain ⟨A, hA⟩ : ∃ A, A = (nums .i64 P).toArray := ⟨_, rfl⟩
  rw [← hA]
  have HA := Lib.hid hA
  obtain ⟨Z, hZ⟩ : ∃ Z, Z = (nums .i64 (List.replicate 64 0)).toArray := ⟨_, rfl⟩
  have hz : ∀ w : World, (zeroValue 26).run Try.prog w = .ok (.agg Z) w := by rw [hZ]; exact fun _ => by kernel_rfl
  have hPl := hP.len
  have HZ := Lib.hid hZ
  clear hn hS hok hA hZ
  go_enter Try.func23, Try.ntmps23
  go_upto_region 1 with fail
  obtain ⟨W, hW⟩ : ∃ W, W = (w.alloc (.cells A 26)).alloc (.cells Z 26) := ⟨_, rfl⟩
  have hR0 : WthR w P Z E 0 P W := by
    rw [hW]
    refine ⟨rfl, hPl, ?_, ?_, ((Below.refl _ _).alloc (Nat.le_refl _) _).alloc (by simp) _⟩
    · rw [HA.out]; exact (Below.heap_alloc _ _ _ (by simp)).trans (heap_alloc_new w _)
    · have := heap_alloc_new (w.alloc (.cells A 26)) (.cells Z 26)
      rw [World.size_alloc] at this; exact this
  rw [← hW]
  clear hW hz hP hPl
  go_wp2_with fail
  go_loopw [9] (fun s9 wr => ∃ (i : Nat) (Q : List Nat), i ≤ n ∧ s9 = .int .i64 (i : Int) ∧ WthR w P Z E i Q wr) (fun i _ => n - (intOf i).toNat)
  case atStart => exact ⟨0, _, by omega, rfl, hR0⟩
  case round =>
    clear hR0
    obtain ⟨i, Q, hi, rfl, hR⟩ := hrel
    by_cases hin : i < n
    · have hil : i < E.length := by rw [Hn.out]; exact hin
      obtain ⟨bs, off, rfl, hbs, c1, c2⟩ := (HS.out.old hR.m) i hil
      have hm := Hok.out.m E[i] (List.getElem_mem hil)
      have hv := wth_take P E i hil
      rw [← hR.val] at hv
      obtain ⟨m, hm0⟩ : ∃ m, m = E[i].1 := ⟨_, rfl⟩
      obtain ⟨p, hp0⟩ : ∃ m, m = E[i].2 := ⟨_, rfl⟩
      rw [← hm0] at hm c1 hv
      rw [← hp0] at c2 hv
      have i1 : (i : Int) < n := by omega
      have i0 : (0 : Int) ≤ i := by omega
      have m0 : (0 : Int) ≤ m := by omega
      have m1 : (m : Int) < 64 := by omega
      have hml : m < Q.length := by rw [hR.len]; exact hm
      obtain ⟨W3, hW3⟩ : ∃ W, W = wr.alloc (.cells #[.int .i64 (m : Int), .int .i64 (p : Int)] 38) := ⟨_, rfl⟩
      have hb3 : Below wr.heap.size wr W3 := by rw [hW3]; exact (Below.refl _ _).alloc (Nat.le_refl _) _
      have hrow : RowAt .i64 26 W3 w.heap.size Q := (hb3.block _ hR.row.lt).trans hR.row
      have hres : W3.heap[w.heap.size + 1]? = some (.cells Z 26 (0, 0)) := (hb3.block _ (Array.getElem?_eq_some_iff.1 hR.res).1).trans hR.res
      have hB3 := hR.m.trans (hb3.mono hR.m.size)
      have hrw : wr.heap.size < W3.heap.size := by rw [hW3]; simp
      have hst : W3.heap[wr.heap.size]? = some (.cells #[.int .i64 (m : Int), .int .i64 (p : Int)] 38 (0, 0)) := by rw [hW3]; exact heap_alloc_new _ _
      have s0 : W3.cell? ⟨wr.heap.size, 0, none⟩ = some (.int .i64 (m : Int)) := by rw [cell_of_row W3 wr.heap.size 0 _ 38 (0, 0) hst]; rfl
      have s1 : W3.cell? ⟨wr.heap.size, 1, none⟩ = some (.int .i64 (p : Int)) := by rw [cell_of_row W3 wr.heap.size 1 _ 38 (0, 0) hst]; rfl
      have cS := hrow.cell m hml
      have fS := hrow.froz m
      generalize Q[m] = old at cS
      have hN : Hid (WthR w P Z E (i + 1) (Q.set m p) (W3.setCell ⟨w.heap.size, m, none⟩ (.int .i64 (p : Int)))) := Lib.hid
        ⟨hv.symm, by rw [List.length_set]; exact hR.len, hrow.set m p, (Below.heap_setCell _ _ _ _ (by show w.heap.size + 1 ≠ w.heap.size; omega)).trans hres, hB3.setCell (p := ⟨w.heap.size, m, none⟩) (Nat.le_refl _) _⟩
      clear hm0 hp0 hv hm hR hrow hres hB3 hb3 hml hrw hst
      go_upto_region 4 with fail
      rw [← hW3]
      clear hW3
      go_wp2_with fail
      go_roundw
      case rel => exact ⟨i + 1, _, by omega, by go_num, hN.out⟩
      case measure => simp [intOf]; omega
    · obtain rfl : i = n := by omega
      have hv := hR.val
      rw [List.take_of_length_le (by rw [Hn.out]; exact Nat.le_refl _)] at hv
      subst hv
      obtain ⟨AQ, hAQ⟩ : ∃ AQ, AQ = (nums .i64 (wth P E)).toArray := ⟨_, rfl⟩
      have hQs : AQ.size = 64 := by rw [hAQ]; simp [nums_len, hR.len]
      have hrow : wr.heap[w.heap.size]? = some (.cells AQ 26 (0, 0)) := by rw [hAQ]; exact hR.row
      have hres := hR.res
      have hB := hR.m
      have hZs : Z.size = 64 := by rw [HZ.out]; simp [nums_len]
      have HAQ := Lib.hid hAQ
      clear hR hAQ
      go_wp2_with (first | (refine wpList_load_row rfl 26 (.tmp 2) rfl w.heap.size rfl 26 AQ (0, 0) _ hrow Try.underlying26 rfl ?s1 ?_) | (refine wpList_store_row rfl rfl 26 (.tmp 4) (.tmp 20) rfl (w.heap.size + 1) rfl 26 Z AQ rfl hres ?s2 ?s3 ?s4 ?_))
      case s1 => rw [hQs]; kernel_rfl
      case s2 => rw [hZs, hQs]
      case s3 => rw [hQs]; kernel_rfl
      case s4 => rw [HAQ.out]; intro v hv; exact nums_one .i64 _ v (by simpa using hv)
      have hg := setRow_heap wr (w.heap.size + 1) Z AQ 26 (0, 0) hres
      refine bodyPost_ret (v := .agg AQ) (results_cell_row Try.results23 _ _ (w.heap.size + 1) 26 AQ (0, 0) _ rfl hg Try.underlying26 rfl ?_) rfl ⟨by rw [HAQ.out], ?_⟩
      · rw [hQs]; kernel_rfl
      · exact ((Mod.of_below hB).setRow AQ).to_below (Nat.le_refl _) (by rintro k hk (h | h) <;> omega)
end Go.Proofs.Ytdahkemeoefndaa

namespace Go.Proofs.Ytdahkemeoefndaa
open Go.RowKit

set_option maxRecDepth 20000 in
set_option maxHeartbeats 8000000 in
theorem new_any (ao : Option Addr) (cap : Nat) (E : List (Nat × Nat)) (w : World) (hS : EntsAt w ao E) (hok : EntsOk E 1) (hl : E.length ≤ 64) (h0 : E ≠ []) :
    Calls Try.prog 10 #[.slice ao E.length cap] w fun r w' => r = .returned (.tuple #[tval (wth (List.replicate 64 0) E), .int .i64 0]) ∧ Below w.heap.size w w' := by
  have h0' : 0 < E.length := List.length_pos_iff.2 h0
  have hmay := fun w h => may_yes ao cap 1 E w h hok hl
  have hwith := fun w h => with_any (List.replicate 64 0) ao cap 1 E w isTab_zero h hok hl
  have htab := isTab_zero.wth hok
  obtain ⟨n, hn⟩ : ∃ n, E.length = n := ⟨_, rfl⟩
  rw [hn] at hl h0' hmay hwith ⊢
  have HS := Lib.hid hS
  unfold tval at hwith ⊢
  obtain ⟨Z, hZ⟩ : ∃ Z, Z = (nums .i64 (List.replicate 64 0)).toArray := ⟨_, rfl⟩
  have hz : ∀ w : World, (zeroValue 26).run Try.prog w = .ok (.agg Z) w := by rw [hZ]; exact fun _ => by kernel_rfl
  obtain ⟨AQ, hAQ⟩ : ∃ AQ, AQ = (nums .i64 (wth (List.replicate 64 0) E)).toArray := ⟨_, rfl⟩
  have hZs : Z.size = 64 := by rw [hZ]; simp [nums_len]
  have hQs : AQ.size = 64 := htab.row hAQ
  have h1 : Hid (∀ v ∈ AQ.toList, v.oneCell' = true) := Lib.hid (by rw [hAQ]; intro v hv; exact nums_one .i64 _ v (by simpa using hv))
  rw [← hZ, ← hAQ] at hwith
  rw [← hAQ]
  have Hmay := Lib.hid hmay
  have Hwith := Lib.hid hwith
  have b1 : ¬ (64 : Int) < n := by omega
  have b2 : ((n : Int) == 0) = false := by rw [beq_eq_false_iff_ne]; omega
  have hrow : (w.alloc (.cells Z 26)).heap[w.heap.size]? = some (.cells Z 26 (0, 0)) := heap_alloc_new _ _
  have hB : Below w.heap.size w (w.alloc (.cells Z 26)) := (Below.refl _ _).alloc (Nat.le_refl _) _
  clear hS hok hmay hwith htab hn hZ hAQ h0 h0'
  go_enter Try.func10, Try.ntmps10
  go_upto_region 1 with fail
  generalize w.alloc (.cells Z 26) = W at hrow hB ⊢
  go_wp2_with fail
  refine (Hmay.out W (HS.out.old hB)).mono ?_
  rintro r w2 ⟨rfl, hb⟩
  have hrow2 := (hb.block _ (Array.getElem?_eq_some_iff.1 hrow).1).trans hrow
  replace hB := hB.trans (hb.mono hB.size)
  clear hb hrow
  go_wp2_with fail
  refine (Hwith.out w2 (HS.out.old hB)).mono ?_
  rintro r w3 ⟨rfl, hb⟩
  have hrow3 := (hb.block _ (Array.getElem?_eq_some_iff.1 hrow2).1).trans hrow2
  replace hB := hB.trans (hb.mono hB.size)
  clear hb hrow2
  go_wp2_with (refine wpList_store_row rfl rfl 26 (.tmp 2) (.tmp 21) rfl w.heap.size rfl 26 Z AQ rfl hrow3 ?s2 ?s3 ?s4 ?_)
  case s2 => rw [hZs, hQs]
  case s3 => rw [hQs]; kernel_rfl
  case s4 => exact h1.out
  have hg := setRow_heap w3 w.heap.size Z AQ 26 (0, 0) hrow3
  have hl2 := run_loadVar_row (P := Try.prog) (w3.setRow w.heap.size AQ) w.heap.size 26 26 AQ (0, 0) _ hg Try.underlying26 rfl (by rw [hQs]; kernel_rfl)
  refine bodyPost_ret (v := .tuple #[.agg AQ, .int .i64 0]) (by simp [results, Try.results10, asAddr, hl2]) rfl ⟨rfl, ?_⟩
  exact ((Mod.of_below hB).setRow AQ).to_below (Nat.le_refl _) (by rintro k hk (h | h) <;> omega)
end Go.Proofs.Ytdahkemeoefndaa

namespace Go.Proofs.Ytdahkemeoefndaa
open Go.RowKit

/-- Entries as cells. -/
def flat (E : List (Nat × Nat)) : List Value := E.flatMap fun e => [.int .i64 (e.1 : Int), .int .i64 (e.2 : Int)]
theorem flat_len (E : List (Nat × Nat)) : (flat E).length = E.length * 2 := by
  induction E with
  | nil => rfl
  | cons e E ih => simp [flat] at ih ⊢; omega
theorem flat_app (a b : List (Nat × Nat)) : flat (a ++ b) = flat a ++ flat b := by simp [flat]
theorem flat_get (E : List (Nat × Nat)) (j : Nat) (h : j < E.length) : (flat E)[j * 2]? = some (.int .i64 (E[j].1 : Int)) ∧ (flat E)[j * 2 + 1]? = some (.int .i64 (E[j].2 : Int)) := by
  induction E generalizing j with
  | nil => simp at h
  | cons e E ih =>
    have e0 : flat (e :: E) = .int .i64 (e.1 : Int) :: .int .i64 (e.2 : Int) :: flat E := rfl
    cases j with
    | zero => rw [e0]; exact ⟨rfl, rfl⟩
    | succ j =>
      have := ih j (by simpa using h)
      rw [e0, show (j + 1) * 2 = j * 2 + 2 by omega]
      exact this
theorem flat_one (E : List (Nat × Nat)) : ∀ v ∈ flat E, v.oneCell' = true := by
  intro v hv
  simp only [flat, List.mem_flatMap, List.mem_cons, List.not_mem_nil, or_false] at hv
  obtain ⟨e, _, rfl | rfl⟩ := hv <;> rfl
/-- The slice at p holds the entries E, from its block's head on; nil holds none. -/
def Pr (T : TypeId) (w : World) (p : Option Addr) (cap : Nat) (E : List (Nat × Nat)) : Prop := w.ownsRow 0 T 2 (.slice p E.length cap) E.length (flat E)
theorem Pr.shape {T : TypeId} {w : World} {p : Option Addr} {cap : Nat} {E : List (Nat × Nat)} (h : Pr T w p cap E) :
    (p = none ∧ E = [] ∧ cap = 0) ∨ ∃ g, p = some ⟨g, 0, none⟩ ∧ g < w.heap.size ∧ E.length ≤ cap ∧ cap ≤ maxLen ∧ ∃ cur : Array Value, w.heap[g]? = some (.cells cur T (0, 0)) ∧ cur.size = cap * 2 ∧ cur.toList.take (E.length * 2) = flat E := by
  rcases h.2 with ⟨e, h0⟩ | ⟨g, cap', cur, e, _, hh, h1, h2, h3, h4⟩
  · simp only [Value.slice.injEq] at e
    exact .inl ⟨e.1, List.eq_nil_of_length_eq_zero h0, e.2.2⟩
  · simp only [Value.slice.injEq] at e
    obtain ⟨rfl, _, rfl⟩ := e
    exact .inr ⟨g, rfl, (Array.getElem?_eq_some_iff.1 hh).1, h1, h2, cur, hh, h3, h4⟩
theorem Pr.of_row {T : TypeId} {w : World} {g cap : Nat} {E : List (Nat × Nat)} {cur : Array Value} (hh : w.heap[g]? = some (.cells cur T (0, 0))) (h1 : E.length ≤ cap) (h2 : cap ≤ maxLen) (h3 : cur.size = cap * 2) (h4 : cur.toList.take (E.length * 2) = flat E) :
    Pr T w (some ⟨g, 0, none⟩) cap E := ⟨flat_len E, .inr ⟨g, cap, cur, rfl, Nat.zero_le _, hh, h1, h2, h3, h4⟩⟩
theorem Pr.empty (T : TypeId) (w : World) : Pr T w none 0 [] := World.ownsRow_nil _ _ _ _
theorem Pr.kept {T : TypeId} {w w' : World} {p : Option Addr} {cap : Nat} {E : List (Nat × Nat)} {S : Nat → Prop} (h : Pr T w p cap E) (hm : Mod S w w') (hp : ∀ a, p = some a → ¬ S a.block) : Pr T w' p cap E := by
  rcases h.shape with ⟨rfl, rfl, rfl⟩ | ⟨g, rfl, hl, h1, h2, cur, hh, h3, h4⟩
  · exact Pr.empty _ _
  · exact Pr.of_row ((hm.block g hl (hp _ rfl)).trans hh) h1 h2 h3 h4
theorem Pr.old {T : TypeId} {w w' : World} {p : Option Addr} {cap : Nat} {E : List (Nat × Nat)} (h : Pr T w p cap E) (hb : Below w.heap.size w w') : Pr T w' p cap E :=
  h.kept (Mod.of_below hb) (fun a e hs => by
    subst e
    rcases h.shape with ⟨e, _⟩ | ⟨g, e, hl, _⟩
    · cases e
    · cases e; exact Nat.lt_irrefl _ (Nat.lt_of_lt_of_le hl hs))
theorem Pr.ents {T : TypeId} {w : World} {p : Option Addr} {cap : Nat} {E : List (Nat × Nat)} (h : Pr T w p cap E) : EntsAt w p E := by
  intro j hj
  rcases h.shape with ⟨rfl, rfl, rfl⟩ | ⟨g, rfl, hl, h1, h2, cur, hh, h3, h4⟩
  · simp at hj
  · obtain ⟨e1, e2⟩ := flat_get E j hj
    refine ⟨g, 0, rfl, hl, ?_, ?_⟩
    · rw [cell_of_row w g (0 + j * 2) _ T (0, 0) hh, Nat.zero_add]
      rw [← h4, List.getElem?_take_of_lt (by omega)] at e1
      simpa using e1
    · rw [cell_of_row w g (0 + j * 2 + 1) _ T (0, 0) hh, Nat.zero_add]
      rw [← h4, List.getElem?_take_of_lt (by omega)] at e2
      simpa using e2
/-- Behind an append: the slice holds one entry more, in its own block or in a new one. -/
def PushedP (T : TypeId) (w : World) (p : Option Addr) (B : List (Nat × Nat)) (q : Option Addr) (cap : Nat) (w' : World) : Prop :=
  Pr T w' q cap B ∧ Mod (fun i => ∃ a, p = some a ∧ i = a.block) w w' ∧ ∃ g, q = some ⟨g, 0, none⟩ ∧ (p = some ⟨g, 0, none⟩ ∨ w.heap.size ≤ g)
theorem wpList_pushP {P : Program} {ops : Array Oper} {rest : List Oper} {o : Oper} {a : Act} {Q : Exit → Act → World → Prop} {w : World} (hgd : o.guard = none) (s x : Operand) (Ts T : TypeId) (z : Value)
    (ho : o.op = .call { callee := .builtin .append, args := #[s, x], argTypes := #[Ts, Ts] }) (hT : P.underlying Ts = some (.slice T)) (hi : (P.info? T).map (fun i => (i.zero, i.size, i.bytes)) = some (some z, 2, 16)) (hzs : z.cells.size = 2)
    (p : Option Addr) (cap n : Nat) (E : List (Nat × Nat)) (e : Nat × Nat) (hn : E.length = n) (hs : a.eval s = .slice p n cap) (hS : Pr T w p cap E) {B : Nat} (hx : a.eval x = .slice (some ⟨B, 0, none⟩) 1 1) (hB : w.heap.size = B) (hl : n + 1 ≤ 1000000000000)
    (h : ∀ q c w', PushedP T w p (E ++ [e]) q c w' → wpList P ops Q rest (a.put o.dst (.slice q (n + 1) c)) w') :
    wpList P ops Q (o :: rest) a (w.alloc (.cells #[.int .i64 (e.1 : Int), .int .i64 (e.2 : Int)] T)) := by
  cases hq : P.info? T with
  | none => rw [hq] at hi; cases hi
  | some i =>
    rw [hq] at hi
    simp only [Option.map_some, Option.some.injEq, Prod.mk.injEq] at hi
    obtain ⟨hz, h1, h2⟩ := hi
    subst hn
    subst hB
    have hSo : (w.alloc (.cells #[.int .i64 (e.1 : Int), .int .i64 (e.2 : Int)] T)).ownsRow 0 T 2 (.slice p E.length cap) E.length (flat E) := hS.old ((Below.refl _ _).alloc (Nat.le_refl _) _)
    refine wpList_append_lies _ hgd s x Ts ho 0 T i z 2 16 hT hq hz h1 h2 hzs (by decide) _ E.length (flat E) hs hSo ⟨w.heap.size, 0, none⟩ 1 1 (flat [e]) hx rfl ?_ (flat_one _) (by decide) (by unfold maxLen; omega) ?_ (Nat.zero_le _) _ rfl ?_
    · intro j u hj
      have hadd : (⟨w.heap.size, 0, none⟩ : Addr).add j = ⟨w.heap.size, j, none⟩ := by unfold Addr.add; split <;> simp_all
      rw [hadd, cell_of_row _ w.heap.size j _ T (0, 0) (heap_alloc_new _ _)]
      simpa [flat] using hj
    · omega
    · intro g c w' hown hgrow hat _
      refine h (some ⟨g, 0, none⟩) c w' ⟨?_, ?_, g, rfl, ?_⟩
      · unfold Pr; rw [List.length_append, flat_app]; exact hown
      · refine ((Mod.refl _ w).alloc _).grown hgrow ?_
        intro j hj _
        cases p with
        | none => simp [Value.ownBlock] at hj
        | some a => simp [Value.ownBlock] at hj; exact ⟨a, rfl, hj.symm⟩
      · rcases hat with hat | hat
        · left
          rcases hS.shape with ⟨rfl, _⟩ | ⟨g', rfl, _⟩
          · simp [Value.ownBlock] at hat
          · simp [Value.ownBlock] at hat; subst hat; rfl
        · right; rw [hat]; simp
end Go.Proofs.Ytdahkemeoefndaa
