/- Texts 1: what the laws lean on. -/
import Derived.WalkKit
import Derived.WalkSpells
import Derived.WalkLawsBesides
import Derived.Lib.Hide
import Derived.Laws.BytesArg
import Derived.Deep.RegionLaw
import Derived.Lib.BitFns
import Derived.Test.YtambljnmaibdmaaRows
import Derived.Test.YtambljnmaibdmaaShelf
import Derived.Deep.DeepCutAuto
import Derived.Deep.AppendLies
import Derived.Deep.AppendSrc
import Derived.Stop.BytesEq
import Derived.Orders
import Derived.Tactics
import Derived.Lib.Bytealg
import Derived.Deep.MidRow
namespace Go.Proofs.Ytambljnmaibdmaa
open Go.RowKit

/-- Of the old blocks only those of S may have turned. -/
structure Mod (S : Nat → Prop) (w w' : World) : Prop where
  os : w'.os = w.os
  tape : w'.tape = w.tape
  output : w'.output = w.output
  size : w.heap.size ≤ w'.heap.size
  block : ∀ k, k < w.heap.size → ¬ S k → w'.heap[k]? = w.heap[k]?

theorem Mod.refl (S : Nat → Prop) (w : World) : Mod S w w := ⟨rfl, rfl, rfl, Nat.le_refl _, fun _ _ _ => rfl⟩
theorem Mod.trans {S T : Nat → Prop} {a b c : World} (h : Mod S a b) (k : Mod T b c) (hs : ∀ i, i < a.heap.size → T i → S i) : Mod S a c :=
  ⟨k.os.trans h.os, k.tape.trans h.tape, k.output.trans h.output, Nat.le_trans h.size k.size,
    fun i hi hn => (k.block i (Nat.lt_of_lt_of_le hi h.size) (fun ht => hn (hs i hi ht))).trans (h.block i hi hn)⟩
theorem Mod.mono {S T : Nat → Prop} {a b : World} (h : Mod S a b) (hs : ∀ i, i < a.heap.size → S i → T i) : Mod T a b :=
  ⟨h.os, h.tape, h.output, h.size, fun i hi hn => h.block i hi (fun hS => hn (hs i hi hS))⟩
theorem Mod.drew {S : Nat → Prop} {a w : World} (h : Mod S a w) : Mod S a w.drew := ⟨h.os, h.tape, h.output, h.size, h.block⟩
theorem Mod.drewN {S : Nat → Prop} {a w : World} (h : Mod S a w) (n : Nat) : Mod S a (w.drewN n) := ⟨h.os, h.tape, h.output, h.size, h.block⟩
theorem Mod.setRow {S : Nat → Prop} {a w : World} (h : Mod S a w) {g : Nat} (cs : Array Value) : Mod (fun k => S k ∨ k = g) a (w.setRow g cs) :=
  ⟨h.os, h.tape, h.output, by have := h.size; simp [World.setRow]; omega, fun i hi hn => (setRow_other w g i _ (fun e => hn (Or.inr e))).trans (h.block i hi (fun hS => hn (Or.inl hS)))⟩
/-- What was written anew alone. -/
theorem Mod.drop_new {S : Nat → Prop} {a b : World} {g : Nat} (h : Mod (fun k => S k ∨ k = g) a b) (hg : a.heap.size ≤ g) : Mod S a b :=
  h.mono (fun i hi h => h.elim id (fun e => by omega))
theorem Mod.alloc {S : Nat → Prop} {a w : World} (h : Mod S a w) (o : Obj) : Mod S a (w.alloc o) :=
  ⟨h.os, h.tape, h.output, by have := h.size; simp; omega, fun i hi hn => (Below.heap_alloc _ _ _ (Nat.lt_of_lt_of_le hi h.size)).trans (h.block i hi hn)⟩
theorem Mod.setCell {S : Nat → Prop} {a w : World} (h : Mod S a w) {p : Addr} (hp : p.block < a.heap.size → S p.block) (u : Value) : Mod S a (w.setCell p u) :=
  ⟨h.os, h.tape, h.output, by have := h.size; simp [World.setCell]; omega, fun i hi hn => (Below.heap_setCell _ _ _ _ (fun e => hn (by subst e; exact hp hi))).trans (h.block i hi hn)⟩
theorem Mod.grown {S : Nat → Prop} {a w w' : World} {row : Option Nat} (h : Mod S a w) (hg : w.grownBy w' row) (hr : ∀ k, row = some k → k < a.heap.size → S k) : Mod S a w' :=
  ⟨hg.os.trans h.os, hg.tape.trans h.tape, hg.output.trans h.output, Nat.le_trans h.size hg.size,
    fun i hi hn => (hg.block i (Nat.lt_of_lt_of_le hi h.size) (fun e => hn (hr i e.symm hi))).trans (h.block i hi hn)⟩
theorem Mod.of_below {B : Nat} {w w' : World} (h : Below B w w') : Mod (fun k => B ≤ k) w w' :=
  ⟨h.os, h.tape, h.output, h.size, fun k _ hn => h.block k (by omega)⟩
theorem Mod.to_below {S : Nat → Prop} {w w' : World} {B : Nat} (h : Mod S w w') (hB : B ≤ w.heap.size) (hS : ∀ k, k < B → ¬ S k) : Below B w w' :=
  ⟨h.os, h.tape, h.output, h.size, fun k hk => h.block k (by omega) (hS k hk)⟩

def vals (bs : List UInt8) : List Value := bs.map fun b => Value.int .u8 b.toNat
theorem vals_len (bs : List UInt8) : (vals bs).length = bs.length := by simp [vals]
theorem vals_app (a b : List UInt8) : vals (a ++ b) = vals a ++ vals b := by simp [vals]

/-- Block b is a struct of one field, a slice value v that owns the bytes bs in a row of its own. -/
structure OutAt (T E : TypeId) (w : World) (b : Nat) (v : Value) (bs : List UInt8) : Prop where
  blk : w.heap[b]? = some (.cells #[v] T (0, 0))
  own : w.ownsRow 0 E 1 v bs.length (vals bs)
  ne : v.ownBlock ≠ some b

theorem OutAt.cell {T E : TypeId} {w : World} {b : Nat} {v : Value} {bs : List UInt8} (h : OutAt T E w b v bs) : w.cell? ⟨b, 0, none⟩ = some v := by
  unfold World.cell?; rw [h.blk]; rfl
theorem OutAt.froz {T E : TypeId} {w : World} {b : Nat} {v : Value} {bs : List UInt8} (h : OutAt T E w b v bs) : w.frozen? ⟨b, 0, none⟩ = false := by
  unfold World.frozen?; rw [h.blk]; rfl
theorem OutAt.lt {T E : TypeId} {w : World} {b : Nat} {v : Value} {bs : List UInt8} (h : OutAt T E w b v bs) : b < w.heap.size := (Array.getElem?_eq_some_iff.1 h.blk).1
theorem OutAt.fresh {T E : TypeId} (w : World) : OutAt T E (w.alloc (.cells #[.slice none 0 0] T)) w.heap.size (.slice none 0 0) [] :=
  ⟨heap_alloc_new w _, World.ownsRow_nil _ _ _ _, by simp [Value.ownBlock]⟩
theorem OutAt.kept {T E : TypeId} {w w' : World} {b : Nat} {v : Value} {bs : List UInt8} {S : Nat → Prop} (h : OutAt T E w b v bs) (hm : Mod S w w') (hb : ¬ S b) (hv : ∀ k, v.ownBlock = some k → ¬ S k) : OutAt T E w' b v bs := by
  refine ⟨(hm.block b h.lt hb).trans h.blk, ⟨h.own.1, ?_⟩, h.ne⟩
  rcases h.own.2 with hn | ⟨g, cap, cur, rfl, hg, hh, r⟩
  · exact .inl hn
  · exact .inr ⟨g, cap, cur, rfl, hg, (hm.block g (Array.getElem?_eq_some_iff.1 hh).1 (hv g rfl)).trans hh, r⟩

theorem OutAt.alloc {T E : TypeId} {w : World} {b : Nat} {v : Value} {bs : List UInt8} (h : OutAt T E w b v bs) (o : Obj) : OutAt T E (w.alloc o) b v bs :=
  h.kept ((Mod.refl (fun _ => False) w).alloc o) (fun h => h) (fun _ _ h => h)

/-- The struct's field is stored anew: a slice value that owns more. -/
theorem OutAt.store {T E : TypeId} {w w1 : World} {b : Nat} {v v1 : Value} {bs bs1 : List UInt8} (h : OutAt T E w b v bs) (hg : w.grownBy w1 v.ownBlock) (hown : w1.ownsRow 0 E 1 v1 bs1.length (vals bs1)) (hne : v1.ownBlock ≠ some b) :
    OutAt T E (w1.setCell ⟨b, 0, none⟩ v1) b v1 bs1 := by
  have hb : w1.heap[b]? = some (.cells #[v] T (0, 0)) := (hg.block b h.lt (fun e => h.ne e.symm)).trans h.blk
  refine ⟨?_, ⟨hown.1, ?_⟩, hne⟩
  · have := heap_setCell_same w1 b 0 #[v] T v1 hb
    simpa using this
  · rcases hown.2 with hn | ⟨g, cap, cur, rfl, hg', hh, r⟩
    · exact .inl hn
    · refine .inr ⟨g, cap, cur, rfl, hg', ?_, r⟩
      rw [Below.heap_setCell _ _ _ _ (by intro e; exact hne (by simp [Value.ownBlock, e]))]
      exact hh

/-- A slice value that owns something shows its address. -/
theorem ownsRow_shape {w : World} {base e size n : Nat} {v : Value} {xs : List Value} (h : w.ownsRow base e size v n xs) (hn : 0 < n) : ∃ g cap, v = .slice (some ⟨g, 0, none⟩) n cap := by
  rcases h.2 with ⟨_, h0⟩ | ⟨g, cap, _, hv, _⟩
  · omega
  · exact ⟨g, cap, hv⟩

/-- An append to an owned row, as a step of a region that draws. -/
theorem step_append_own {P : Program} {ops : Array Oper} {o : Oper} {a : Act} {w : World} {K : Act → World → Prop} {Q : Exit → Act → World → Prop} {E : Prop}
    (hgd : o.guard = none) (s x : Operand) (t : TypeId)
    (ho : o.op = .call { callee := .builtin .append, args := #[s, x], argTypes := #[t, t] })
    (base : Nat) (e : TypeId) (i : TypeInfo) (z : Value) (size bytes : Nat) (ht : P.underlying t = some (.slice e)) (hi : P.info? e = some i) (hz : i.zero = some z)
    (hsize : i.size = size) (hby : i.bytes = bytes) (hzs : z.cells.size = size) (hsz : 0 < size)
    (v : Value) (n : Nat) (xs : List Value) (hs : a.eval s = v) (hown : w.ownsRow base e size v n xs)
    (ad : Addr) (m c : Nat) (news : List Value) (hx : a.eval x = .slice (some ad) m c) (hl : news.length = m * size) (hnews : ∀ j u, news[j]? = some u → w.cell? (ad.add j) = some u) (h1 : ∀ u ∈ news, u.oneCell' = true)
    (h63 : n + m ≤ maxLen) (hbytes : (n + m) * bytes ≤ 140737488355328) (hbase : base ≤ w.heap.size)
    (h : ∀ v' w', w'.ownsRow base e size v' (n + m) (xs ++ news) → w.grownBy w' v.ownBlock → (v' = .slice none 0 0 ↔ v = .slice none 0 0 ∧ m = 0) → K (a.put o.dst v') w') :
    if Region.wanted o (yielded ops a.tmps) = true then Oper.wp P o a w K Q else E := by
  have hw : Region.wanted o (yielded ops a.tmps) = true := by simp [Region.wanted, hgd]
  rw [if_pos hw]
  exact wp_append_own w s x t ho base e i z size bytes ht hi hz hsize hby hzs hsz v n xs hs hown ad m c news hx hl hnews h1 h63 hbytes hbase h

theorem bapp1 (a : UInt8) (l : List UInt8) : (ByteArray.mk #[a] ++ ByteArray.mk l.toArray) = ByteArray.mk (a :: l).toArray := ByteArray.mk_append_mk [a] l
theorem ret_str {a b : ByteArray} (h : a = b) : Ending.returned (.string a) = .returned (.string b) := by rw [h]
theorem val_str {a b : ByteArray} (h : a = b) : Value.string a = .string b := by rw [h]
theorem val_int {k : IntKind} {a b : Int} (h : a = b) : Value.int k a = .int k b := by rw [h]
theorem ret_int {k : IntKind} {a b : Int} (h : a = b) : Ending.returned (.int k a) = .returned (.int k b) := by rw [h]

theorem convLit1 {P : Program} (src dst e : TypeId) (hs : P.underlying src = some (.slice e)) (he : P.underlying e = some (.int .u8)) (hd : P.underlying dst = some .string) (w : World) (x : Int) :
    (convert src dst (.slice (some ⟨w.heap.size, 0, none⟩) 1 1)).run P (w.alloc (.cells #[.int .u8 x] e)) = .ok (.string ⟨#[UInt8.ofNat x.toNat]⟩) (w.alloc (.cells #[.int .u8 x] e)) := by
  have h := run_convert_bytes_arg (P := P) (w.alloc (.cells #[.int .u8 x] e)) src e hs he w.heap.size 0 1 1 [x] rfl (fun i hi => by
    obtain rfl : i = 0 := by omega
    unfold World.cell?
    rw [heap_alloc_new]
    rfl) dst hd
  simpa [strOfNums] using h

/-- The old world's name is kept. -/
theorem Lib.flip {P : Program} {f : FuncId} {args : Array Value} {w : World} {v : Ending} (h : Calls P f args w fun e w' => e = v ∧ w' = w) : Calls P f args w fun e w' => e = v ∧ w = w' :=
  h.mono fun _ _ ⟨a, b⟩ => ⟨a, b.symm⟩

/-- A shift to the right of a number from 0 on. -/
theorem shr_nat {P : Program} (k j : IntKind) (n s : Nat) (w : World) (hs : s ≤ k.bits) : (Op.shift .shr k (n : Int) j (s : Int)).run P w = .ok (.int k ((n / 2 ^ s : Nat) : Int)) w := by
  have h0 : ¬ ((s : Int) < 0) := by omega
  have hm : min ((s : Int)).toNat k.bits = s := by rw [Int.toNat_natCast]; exact Nat.min_eq_left hs
  unfold Op.shift
  rw [if_neg h0]
  simp only [hm]
  have : (n : Int).fdiv (2 ^ s) = ((n / 2 ^ s : Nat) : Int) := by
    rw [Int.fdiv_eq_ediv_of_nonneg _ (by exact_mod_cast Nat.zero_le (2 ^ s))]
    push_cast
    rfl
  rw [this]
  rfl

/-- A whole variable is stored: an array or a struct by value. -/
theorem wp_store_row {P : Program} {o : Oper} {a : Act} {w : World} {K : Act → World → Prop} {Q : Exit → Act → World → Prop} (ty : TypeId) (x y : Operand) (ho : o.op = .store ty x y)
    (g : Nat) (hx : a.eval x = .pointer (some ⟨g, 0, none⟩)) (t : TypeId) (old cs : Array Value) (hy : a.eval y = .agg cs) (hg : w.heap[g]? = some (.cells old t (0, 0))) (hsz : old.size = cs.size)
    (hi : (P.info? ty).map (·.size) = some cs.size) (h1 : ∀ v ∈ cs.toList, v.oneCell' = true)
    (h : K (a.put o.dst undef) (w.setRow g cs)) : o.wp P a w K Q := by
  have hst := run_storeCells_at P g 0 t cs.toList 0 old w hg (by simp; omega) h1
  have e : (old.toList.take (0 + 0) ++ cs.toList ++ old.toList.drop (0 + 0 + cs.toList.length)).toArray = cs := by
    have : old.toList.drop (0 + 0 + cs.toList.length) = [] := List.drop_eq_nil_of_le (by simp; omega)
    rw [this]; simp
  rw [e] at hst
  cases hq : P.info? ty with
  | none => simp [hq] at hi
  | some i =>
    have hs : i.size = cs.size := by simpa [hq] using hi
    have hv : (storeVar ty ⟨g, 0, none⟩ (.agg cs)).run P w = .ok () (w.setRow g cs) := by
      simp [storeVar, sizeOf, typeInfo, hq, hs, Value.cells, hst]
    unfold Oper.wp execOp
    simp only [ho, hx, hy, Instr.storeAt, Instr.sureAddr, Sem.run_bind, Sem.run_pure, Result.andThen_ok, hv]
    exact h

theorem wpList_store_row {P : Program} {ops : Array Oper} {rest : List Oper} {o : Oper} {a : Act} {w : World} {Q : Exit → Act → World → Prop} (hgd : o.guard = none) (hdst : o.dst = none) (ty : TypeId) (x y : Operand) (ho : o.op = .store ty x y)
    (g : Nat) (hx : a.eval x = .pointer (some ⟨g, 0, none⟩)) (t : TypeId) (old cs : Array Value) (hy : a.eval y = .agg cs) (hg : w.heap[g]? = some (.cells old t (0, 0))) (hsz : old.size = cs.size)
    (hi : (P.info? ty).map (·.size) = some cs.size) (h1 : ∀ v ∈ cs.toList, v.oneCell' = true)
    (h : wpList P ops Q rest a (w.setRow g cs)) : wpList P ops Q (o :: rest) a w :=
  wpList_plain hgd fun _ hK => wp_store_row ty x y ho g hx t old cs hy hg hsz hi h1 (hK _ _ (by rw [hdst]; exact h))

/-- Numbers as cells. -/
def nums (k : IntKind) (A : List Nat) : List Value := A.map fun (x : Nat) => Value.int k (x : Int)
theorem nums_len (k : IntKind) (A : List Nat) : (nums k A).length = A.length := by simp [nums]
theorem nums_one (k : IntKind) (A : List Nat) : ∀ v ∈ nums k A, v.oneCell' = true := by
  intro v hv; obtain ⟨x, _, rfl⟩ := List.mem_map.1 hv; rfl
theorem nums_get (k : IntKind) (A : List Nat) (i : Nat) (h : i < A.length) : (nums k A)[i]? = some (.int k (A[i]'h)) := by simp [nums, h]
theorem nums_set (k : IntKind) (A : List Nat) (i x : Nat) : (nums k A).set i (.int k x) = nums k (A.set i x) := by simp [nums, List.map_set]

/-- A block of numbers. -/
def RowAt (k : IntKind) (T : TypeId) (w : World) (g : Nat) (A : List Nat) : Prop := w.heap[g]? = some (.cells (nums k A).toArray T (0, 0))
theorem RowAt.cell {k : IntKind} {T : TypeId} {w : World} {g : Nat} {A : List Nat} (h : RowAt k T w g A) (i : Nat) (hi : i < A.length) : w.cell? ⟨g, i, none⟩ = some (.int k (A[i]'hi)) := by
  rw [cell_of_row w g i _ T (0, 0) h]; simpa using nums_get k A i hi
theorem RowAt.froz {k : IntKind} {T : TypeId} {w : World} {g : Nat} {A : List Nat} (h : RowAt k T w g A) (i : Nat) : w.frozen? ⟨g, i, none⟩ = false := frozen_of_row w g i _ T h
theorem RowAt.lt {k : IntKind} {T : TypeId} {w : World} {g : Nat} {A : List Nat} (h : RowAt k T w g A) : g < w.heap.size := (Array.getElem?_eq_some_iff.1 h).1
theorem RowAt.set {k : IntKind} {T : TypeId} {w : World} {g : Nat} {A : List Nat} (h : RowAt k T w g A) (i x : Nat) : RowAt k T (w.setCell ⟨g, i, none⟩ (.int k x)) g (A.set i x) := by
  have := heap_setCell_same w g i _ T (.int k x) h
  unfold RowAt
  rw [this, ← nums_set]
  simp
theorem RowAt.kept {k : IntKind} {T : TypeId} {w w' : World} {g : Nat} {A : List Nat} {S : Nat → Prop} (h : RowAt k T w g A) (hm : Mod S w w') (hg : ¬ S g) : RowAt k T w' g A := (hm.block g h.lt hg).trans h

/-- An array of numbers, by value, indexed. -/
theorem run_index_nums {P : Program} (T E : TypeId) (len : Nat) (k : IntKind) (A : List Nat) (i : Nat) (hi : i < A.length) (hT : P.underlying T = some (.array len E)) (hl : A.length = len)
    (hE : P.underlying E = some (.int k)) (hs : (P.info? E).map (·.size) = some 1) (w : World) :
    (Instr.index T (.agg (nums k A).toArray) (.int .i64 (i : Int))).run P w = .ok (.int k (A[i]'hi)) w := by
  have h1 : (0 : Int) ≤ i ∧ (i : Int) < len := by omega
  cases hq : P.info? E with
  | none => simp [hq] at hs
  | some j =>
    have hj : j.size = 1 := by simpa [hq] using hs
    have hg := nums_get k A i hi
    unfold Instr.index
    simp only [asIntOf, Sem.run_bind, Sem.run_pure, Result.andThen_ok, run_underlying hT]
    rw [if_pos h1]
    simp [sizeOf, typeInfo, hq, hj, part, isAgg, run_underlying hE, hg]
end Go.Proofs.Ytambljnmaibdmaa

namespace Go.Proofs.Ytambljnmaibdmaa

def beBytes (n : Nat) : List UInt8 := if n = 0 then [] else beBytes (n / 256) ++ [UInt8.ofNat (n % 256)]
termination_by n
decreasing_by omega

theorem beBytes_zero : beBytes 0 = [] := by rw [beBytes]; simp
theorem beBytes_pos (n : Nat) (h : 0 < n) : beBytes n = beBytes (n / 256) ++ [UInt8.ofNat (n % 256)] := by
  rw [beBytes]; simp [show n ≠ 0 by omega]
theorem beBytes_len (k : Nat) : ∀ n, n < 256 ^ k → (beBytes n).length ≤ k := by
  induction k with
  | zero => intro n h; simp at h; subst h; simp [beBytes_zero]
  | succ k ih =>
    intro n h
    by_cases h0 : 0 < n
    · rw [beBytes_pos n h0]
      have := ih (n / 256) (by rw [Nat.pow_succ] at h; omega)
      simp; omega
    · obtain rfl : n = 0 := by omega
      simp [beBytes_zero]

/-- The first k of the L bytes of n. -/
def digs (n L k : Nat) : List UInt8 := (List.range k).map fun i => UInt8.ofNat (n / 2 ^ (8 * (L - 1 - i)))
theorem digs_succ (n L k : Nat) : digs n L (k + 1) = digs n L k ++ [UInt8.ofNat (n / 2 ^ (8 * (L - 1 - k)))] := by
  simp [digs, List.range_succ]
theorem digs_len (n L k : Nat) : (digs n L k).length = k := by simp [digs]

theorem digs_up (n L : Nat) (k : Nat) (hk : k ≤ L) : digs (n / 256) L k = digs n (L + 1) k := by
  unfold digs
  apply List.map_congr_left
  intro i hi
  have hi' : i < k := List.mem_range.1 hi
  rw [Nat.div_div_eq_div_mul, show L + 1 - 1 - i = (L - 1 - i) + 1 by omega, Nat.mul_add, Nat.pow_add, Nat.mul_comm (2 ^ _)]

theorem ofNat_mod (n : Nat) : UInt8.ofNat (n % 256) = UInt8.ofNat n := by
  apply UInt8.toNat_inj.1; simp

theorem digs_be (L : Nat) : ∀ n, (beBytes n).length = L → digs n L L = beBytes n := by
  induction L with
  | zero => intro n h; rw [List.length_eq_zero_iff.1 h]; rfl
  | succ L ih =>
    intro n h
    by_cases h0 : 0 < n
    · rw [beBytes_pos n h0] at h ⊢
      simp at h
      rw [digs_succ, ← digs_up n L L (Nat.le_refl _), ih _ h]
      simp [ofNat_mod]
    · obtain rfl : n = 0 := by omega
      simp [beBytes_zero] at h

theorem beBytes_lo (n : Nat) : n < 256 ^ (beBytes n).length := by
  induction n using Nat.strongRecOn with
  | _ n ih =>
    by_cases h0 : 0 < n
    · rw [beBytes_pos n h0]
      have := ih (n / 256) (by omega)
      simp only [List.length_append, List.length_singleton, Nat.pow_succ]
      omega
    · obtain rfl : n = 0 := by omega
      simp [beBytes_zero]
theorem beBytes_hi (n : Nat) (h : 0 < n) : 256 ^ ((beBytes n).length - 1) ≤ n := by
  induction n using Nat.strongRecOn with
  | _ n ih =>
    rw [beBytes_pos n h]
    simp only [List.length_append, List.length_singleton, Nat.add_sub_cancel]
    by_cases h1 : 0 < n / 256
    · have := ih (n / 256) (by omega) h1
      have hl : 0 < (beBytes (n / 256)).length := by rw [beBytes_pos _ h1]; simp
      obtain ⟨l, hl'⟩ : ∃ l, (beBytes (n / 256)).length = l + 1 := ⟨_, (Nat.succ_pred_eq_of_pos hl).symm⟩
      rw [hl'] at this ⊢
      simp only [Nat.add_sub_cancel] at this
      rw [Nat.pow_succ]; omega
    · rw [show n / 256 = 0 by omega, beBytes_zero]; simp; omega

theorem bitLenAux_spec (f : Nat) : ∀ x, x < 2 ^ f → x < 2 ^ Lib.bitLenAux f x ∧ (0 < x → 0 < Lib.bitLenAux f x ∧ 2 ^ (Lib.bitLenAux f x - 1) ≤ x) ∧ Lib.bitLenAux f x ≤ f := by
  induction f with
  | zero => intro x h; simp at h; subst h; simp [Lib.bitLenAux]
  | succ f ih =>
    intro x h
    unfold Lib.bitLenAux
    by_cases h0 : x = 0
    · subst h0; simp
    · rw [if_neg h0]
      obtain ⟨a, b, c⟩ := ih (x / 2) (by rw [Nat.pow_succ] at h; omega)
      refine ⟨by rw [Nat.pow_add]; omega, fun _ => ⟨by omega, ?_⟩, by omega⟩
      rw [Nat.add_sub_cancel_left]
      by_cases h1 : 0 < x / 2
      · obtain ⟨p, q⟩ := b h1
        obtain ⟨l, hl⟩ : ∃ l, Lib.bitLenAux f (x / 2) = l + 1 := ⟨_, (Nat.succ_pred_eq_of_pos p).symm⟩
        rw [hl] at q ⊢
        simp only [Nat.add_sub_cancel] at q
        rw [Nat.pow_succ]; omega
      · have : x / 2 = 0 := by omega
        rw [this]
        cases f <;> simp [Lib.bitLenAux] <;> omega

theorem bitLen_bytes (n : Nat) (h : n < 2 ^ 64) : Lib.bitLen n ≤ 64 ∧ (Lib.bitLen n + 7) / 8 = (beBytes n).length := by
  obtain ⟨a, b, c⟩ := bitLenAux_spec 64 n h
  refine ⟨c, ?_⟩
  by_cases h00 : n = 0
  · subst h00; rw [beBytes_zero]; rfl
  show (Lib.bitLenAux 64 n + 7) / 8 = _
  generalize Lib.bitLenAux 64 n = q at a b c
  have h1 := beBytes_lo n
  have h0 : 0 < n := by omega
  have h2 := beBytes_hi n h0
  obtain ⟨b1, b2⟩ := b h0
  generalize (beBytes n).length = L at h1 h2
  rw [show (256 : Nat) = 2 ^ 8 from rfl, ← Nat.pow_mul] at h1 h2
  have e1 : q - 1 < 8 * L := (Nat.pow_lt_pow_iff_right (by decide)).1 (Nat.lt_of_le_of_lt b2 h1)
  have e2 : 8 * (L - 1) < q := (Nat.pow_lt_pow_iff_right (by decide)).1 (Nat.lt_of_le_of_lt h2 a)
  omega

/-- A number's bytes, as the chapter says (a number below 0 counts as 0). -/
def numL (x : Int) : List UInt8 := UInt8.ofNat (beBytes x.toNat).length :: beBytes x.toNat
theorem numL_eq (n : Nat) : numL n = UInt8.ofNat (beBytes n).length :: digs n (beBytes n).length (beBytes n).length := by
  unfold numL; rw [Int.toNat_natCast, digs_be _ n rfl]

/-- The number whose bytes they are. -/
def beVal (l : List UInt8) : Nat := l.foldl (fun a b => a * 256 + b.toNat) 0
theorem beVal_snoc (l : List UInt8) (b : UInt8) : beVal (l ++ [b]) = beVal l * 256 + b.toNat := by simp [beVal]
theorem beVal_take_lt (l : List UInt8) : ∀ k, k ≤ l.length → beVal (l.take k) < 256 ^ k
  | 0, _ => by simp [beVal]
  | k + 1, h => by
    have ih := beVal_take_lt l k (by omega)
    rw [List.take_succ_eq_append_getElem (show k < l.length by omega), beVal_snoc, Nat.pow_succ]
    have := (l[k]'(by omega)).toNat_lt
    omega
theorem take_snoc (l : List UInt8) (k : Nat) (h : k < l.length) : l.take (k + 1) = l.take k ++ [l[k]] := by
  rw [List.take_succ_eq_append_getElem h]

/-- What stands at the head of bytes: a number, how many bytes it takes, the error's number. -/
def headL : List UInt8 → Nat × Nat × Int
  | [] => (0, 0, 2)
  | c :: r =>
    if c.toNat = 0 then (0, 1, 0) else if 8 < c.toNat then (0, 0, 3) else
    match r with
    | [] => (0, 0, 2)
    | d :: _ => if d.toNat = 0 then (0, 0, 3) else if r.length < c.toNat then (0, 0, 2) else
      if 9223372036854775807 < beVal (r.take c.toNat) then (0, 0, 3) else (beVal (r.take c.toNat), c.toNat + 1, 0)

theorem beVal_be (n : Nat) : beVal (beBytes n) = n := by
  induction n using Nat.strongRecOn with
  | _ n ih =>
    by_cases h0 : 0 < n
    · rw [beBytes_pos n h0, beVal_snoc, ih _ (by omega)]
      simp; omega
    · obtain rfl : n = 0 := by omega
      rw [beBytes_zero]; rfl
theorem beBytes_first (n : Nat) (h : 0 < n) : ∃ d r, beBytes n = d :: r ∧ d.toNat ≠ 0 := by
  induction n using Nat.strongRecOn with
  | _ n ih =>
    rw [beBytes_pos n h]
    by_cases h1 : 0 < n / 256
    · obtain ⟨d, r, e, hd⟩ := ih _ (by omega) h1
      exact ⟨d, r ++ [UInt8.ofNat (n % 256)], by rw [e]; rfl, hd⟩
    · rw [show n / 256 = 0 by omega, beBytes_zero]
      exact ⟨_, [], rfl, by simp; omega⟩
theorem headL_num (n : Nat) (h : n ≤ 9223372036854775807) (r : List UInt8) : headL (numL n ++ r) = (n, (numL n).length, 0) := by
  have hl := beBytes_len 8 n (by simp; omega)
  unfold numL
  rw [Int.toNat_natCast]
  have hc : (UInt8.ofNat (beBytes n).length).toNat = (beBytes n).length := by simp; omega
  by_cases h0 : 0 < n
  · obtain ⟨d, t, e, hd⟩ := beBytes_first n h0
    have hv := beVal_be n
    rw [e] at hl hc hv ⊢
    simp only [List.cons_append, headL, hc]
    rw [if_neg (by simp), if_neg (by simp only [List.length_cons] at hl ⊢; omega), if_neg hd, if_neg (by simp)]
    have e2 : (d :: (t ++ r)).take (d :: t).length = d :: t := by simp
    rw [e2, hv, if_neg (by omega)]
    simp
  · obtain rfl : n = 0 := by omega
    rw [beBytes_zero]; rfl
theorem numL_toNat (x : Int) : numL x = numL (x.toNat : Int) := by unfold numL; rw [Int.toNat_natCast]
theorem numL_inj (n m : Nat) (hn : n ≤ 9223372036854775807) (hm : m ≤ 9223372036854775807) (r : List UInt8) (h : numL m = numL n ++ r) : n = m := by
  have a := headL_num n hn r
  have b := headL_num m hm []
  rw [List.append_nil, h, a] at b
  exact (Prod.mk.injEq _ _ _ _ ▸ b).1

end Go.Proofs.Ytambljnmaibdmaa

namespace Go.Proofs.Ytambljnmaibdmaa
open Go.RowKit

theorem Try.info5 : (Try.prog.info? 5).map (fun i => (i.zero, i.size, i.bytes)) = some (some (.int .u8 0), 1, 1) := by kernel_rfl

def NumPost (b : Nat) (v : Value) (out : List UInt8) (w : World) (r : Ending) (w' : World) : Prop :=
  r = .returned (.pointer (some ⟨b, 0, none⟩)) ∧ ∃ v', OutAt 75 5 w' b v' out ∧ Mod (fun k => k = b ∨ v.ownBlock = some k) w w' ∧ (v'.ownBlock = v.ownBlock ∨ ∀ k, v'.ownBlock = some k → w.heap.size ≤ k)

def LoopRel (b : Nat) (v : Value) (out : List UInt8) (w w' : World) : Prop :=
  ∃ v', OutAt 75 5 w' b v' out ∧ Mod (fun k => k = b ∨ v.ownBlock = some k) w w' ∧ (v'.ownBlock = v.ownBlock ∨ ∀ k, v'.ownBlock = some k → w.heap.size ≤ k)

theorem LoopRel.next {b : Nat} {v : Value} {out : List UInt8} {w w1 w2 : World} {v1 : Value} {x : UInt8} {g cap : Nat} (hb : b < w.heap.size)
    (hO : OutAt 75 5 w1 b v1 out) (hM : Mod (fun k => k = b ∨ v.ownBlock = some k) w w1) (hv : v1.ownBlock = v.ownBlock ∨ ∀ k, v1.ownBlock = some k → w.heap.size ≤ k)
    (W : World) (hMW : Mod (fun _ => False) w1 W)
    (hown : w2.ownsRow 0 5 1 (.slice (some ⟨g, 0, none⟩) (out.length + 1) cap) (out.length + 1) (vals out ++ [.int .u8 x.toNat])) (hgrow : W.grownBy w2 v1.ownBlock) (hg : v1.ownBlock = some g ∨ g = W.heap.size) :
    LoopRel b v (out ++ [x]) w (w2.setCell ⟨b, 0, none⟩ (.slice (some ⟨g, 0, none⟩) (out.length + 1) cap)) := by
  have hbW : b < W.heap.size := Nat.lt_of_lt_of_le hO.lt hMW.size
  have hOW : OutAt 75 5 W b v1 out := hO.kept hMW (by simp) (by simp)
  have hbg : g ≠ b := by
    rcases hg with h | h
    · intro e; subst e; exact hO.ne h
    · omega
  refine ⟨_, hOW.store hgrow (by simpa [vals] using hown) (by simp [Value.ownBlock, hbg]), ?_, ?_⟩
  · refine ((hM.trans hMW (by simp)).grown hgrow ?_).setCell (fun _ => Or.inl rfl) _
    intro k hk hlt
    rcases hv with h | h
    · exact Or.inr (h ▸ hk)
    · have := h k hk; omega
  · rcases hg with h | h
    · rcases hv with h' | h'
      · left; rw [← h', h]; rfl
      · right; intro k hk; simp [Value.ownBlock] at hk; subst hk; exact h' _ h
    · right; intro k hk; simp [Value.ownBlock] at hk; subst hk
      have h1 := hM.size; have h2 := hMW.size; omega

theorem LoopRel.step {b : Nat} {v : Value} {out : List UInt8} {w w1 w2 W : World} {v1 : Value} {x : UInt8} {y : Int} {g cap : Nat} (hb : b < w.heap.size)
    (hO : OutAt 75 5 w1 b v1 out) (hM : Mod (fun k => k = b ∨ v.ownBlock = some k) w w1) (hv : v1.ownBlock = v.ownBlock ∨ ∀ k, v1.ownBlock = some k → w.heap.size ≤ k)
    (hgrow : W.grownBy w2 v1.ownBlock)
    (hown : w2.ownsRow 0 5 1 (.slice (some ⟨g, 0, none⟩) (out.length + 1) cap) (out.length + 1) (vals out ++ [.int .u8 y])) (hy : y = (x.toNat : Int)) (hg : v1.ownBlock = some g ∨ g = W.heap.size)
    (hMW : Mod (fun _ => False) w1 W) :
    w2.cell? ⟨b, 0, none⟩ = some v1 ∧ w2.frozen? ⟨b, 0, none⟩ = false ∧
    LoopRel b v (out ++ [x]) w (w2.setCell ⟨b, 0, none⟩ (.slice (some ⟨g, 0, none⟩) (out.length + 1) cap)) := by
  have hO2 := hO.kept hMW (by simp) (by simp)
  exact ⟨(World.cell?_of_block (hgrow.block b hO2.lt (fun e => hO2.ne e.symm))).trans hO2.cell,
    (World.frozen?_of_block (hgrow.block b hO2.lt (fun e => hO2.ne e.symm))).trans hO2.froz,
    LoopRel.next hb hO hM hv W hMW (by rw [← hy]; exact hown) hgrow hg⟩

set_option maxHeartbeats 400000 in
theorem num_any (x : Int) (b : Nat) (v : Value) (bs : List UInt8) (w : World) (hx0 : -9223372036854775808 ≤ x) (hxm : x ≤ 9223372036854775807) (hO : OutAt 75 5 w b v bs) (hlen : bs.length ≤ 1099511627776) :
    Calls Try.prog 35 #[.pointer (some ⟨b, 0, none⟩), .int .i64 x] w (NumPost b v (bs ++ numL x) w) := by
  obtain ⟨i0, hi, hz0, hz1, hz2⟩ := info_parts Try.info5
  have hc := hO.cell
  have hf := hO.froz
  go_enter Try.func35, Try.ntmps35
  go_upto_region 1 with fail
  go_cut [1] (fun s1 wx => ∃ n : Nat, s1 = .int .i64 n ∧ x.toNat = n ∧ w = wx)
  case first =>
    by_cases hxx : 0 ≤ x
    · obtain ⟨n, rfl⟩ := Int.eq_ofNat_of_zero_le hxx
      go_wp2_with fail
      go_meet
      exact ⟨n, rfl, rfl, rfl⟩
    · go_wp2_with fail
      go_meet
      exact ⟨0, by go_num, by omega, rfl⟩
  case rest =>
  obtain ⟨n, rfl, hn, rfl⟩ := hcut
  have hhi : (n : Int) ≤ 9223372036854775807 := by omega
  have h0 : (0 : Int) ≤ n := by omega
  have Hn := Lib.hid hn
  clear hn hx0 hxm
  obtain ⟨hq0, hL0⟩ := bitLen_bytes n (by omega)
  obtain ⟨q, hqe⟩ : ∃ q, q = Lib.bitLen n := ⟨_, rfl⟩
  obtain ⟨L, hLe⟩ : ∃ L, L = (beBytes n).length := ⟨_, rfl⟩
  rw [← hqe, ← hLe] at hL0
  rw [← hqe] at hq0
  have hq := hq0
  have hL8 : L ≤ 8 := by omega
  have HL : Hid (((q : Int) + 7) / 8 = (L : Int)) := Lib.hid (by omega)
  have Hout0 : Hid (bs ++ numL x = bs ++ [UInt8.ofNat L] ++ digs n L L) := Lib.hid (by unfold numL; rw [Hn.out, hLe, digs_be _ _ rfl]; simp)
  have Hqe := Lib.hid hqe
  have HLe := Lib.hid hLe
  clear hqe hLe hL0 hq0
  go_wp2_with fail
  refine (Lib.flip (Try.bits_Len n _ (by omega) (by omega))).mono ?_
  rintro e w' ⟨rfl, rfl⟩
  rw [Int.toNat_natCast, ← Hqe.out]
  go_wp2_with (at_builtin; refine wpList_append_lies _ rfl _ _ 73 rfl 0 5 i0 (.int .u8 0) 1 1 Try.underlying73 hi hz0 hz1 hz2 rfl (by decide) _ _ _ rfl (hO.own.alloc _) ⟨w.heap.size, 0, none⟩ 1 1 [.int .u8 (((q : Int) + 7) / 8)] rfl rfl ?c1 ?c2 ?c6 ?c3 ?c4 ?c5 _ rfl ?_)
  case c1 => exact cell_one_new _ _ _
  case c2 => intro u hu; simp at hu; subst hu; rfl
  case c6 => omega
  case c3 => unfold maxLen; omega
  case c4 => omega
  case c5 => omega
  intro g cap w1 hown1 hgrow1 hg1 hlt1
  have hx : (((q : Int) + 7) / 8) = ((UInt8.ofNat L).toNat : Int) := by rw [HL.out]; simp; omega
  have hrel0 : LoopRel b v (bs ++ [UInt8.ofNat L]) w (w1.setCell ⟨b, 0, none⟩ (.slice (some ⟨g, 0, none⟩) (bs.length + 1) cap)) :=
    LoopRel.next hO.lt hO (Mod.refl _ _) (Or.inl rfl) (w.alloc (.cells #[.int .u8 (((q : Int) + 7) / 8)] 5)) ((Mod.refl _ _).alloc _) (by rw [← hx]; exact hown1) hgrow1 (by simpa using hg1)
  have hc1 : w1.cell? ⟨b, 0, none⟩ = some v := (World.cell?_of_block (hgrow1.block b (by have := hO.lt; simp; omega) (fun e => hO.ne e.symm))).trans ((World.cell?_of_block (heap_alloc_old w _ hO.lt)).trans hc)
  have hf1 : w1.frozen? ⟨b, 0, none⟩ = false := (World.frozen?_of_block (hgrow1.block b (by have := hO.lt; simp; omega) (fun e => hO.ne e.symm))).trans ((World.frozen?_of_block (heap_alloc_old w _ hO.lt)).trans hf)
  have Hrel := Lib.hid hrel0
  clear hrel0 hgrow1 hown1
  rw [HL.out]
  go_wp2
  go_loopw [26] (fun i wr => ∃ k : Nat, k ≤ L ∧ i = .int .i64 k ∧ LoopRel b v (bs ++ [UInt8.ofNat L] ++ digs n L k) w wr)
    (fun i _ => L - (intOf i).toNat)
  case atStart => exact ⟨0, by omega, rfl, by simpa [digs] using Hrel.out⟩
  case round =>
    obtain ⟨k, hk, rfl, hR⟩ := hrel
    obtain ⟨v1, hO1, hM1, hv1⟩ := hR
    obtain ⟨out, hout⟩ : ∃ out : List UInt8, out = bs ++ [UInt8.ofNat L] ++ digs n L k := ⟨_, rfl⟩
    rw [← hout] at hO1
    have hol : out.length ≤ 1099511627800 := by have := digs_len n L k; rw [hout]; simp; omega
    have Hout := Lib.hid hout
    clear hout
    have hcr := hO1.cell
    have hfr := hO1.froz
    have hblt := hO1.lt
    clear hc1 hf1 hc hf
    by_cases hlt : k < L
    · go_wp2
      obtain ⟨s, hs⟩ : ∃ s : Nat, s = L - 1 - k := ⟨_, rfl⟩
      have e1 : IntKind.i64.wrap ((L : Int) - 1) = (L : Int) - 1 := IntWalk.i64_in _ (by omega)
      have e2 : IntKind.i64.wrap ((L : Int) - 1 - k) = (s : Int) := by rw [IntWalk.i64_in _ (by omega)]; omega
      obtain ⟨c, hcs⟩ : ∃ c : Nat, c = 8 * s := ⟨_, rfl⟩
      have e3 : IntKind.i64.wrap (8 * (s : Int)) = (c : Int) := by rw [IntWalk.i64_in _ (by omega)]; omega
      have hc64 : c ≤ 64 := by omega
      have Hxm : Hid (IntKind.u8.wrap ((n : Int) / 2 ^ c) = ((UInt8.ofNat (n / 2 ^ c)).toNat : Int)) := Lib.hid (by rw [IntKind.wrap_u8]; simp)
      have Hs := Lib.hid hs
      have Hcs := Lib.hid hcs
      clear hs hcs
      go_region_law (
        refine step_append_lies _ rfl (.tmp 33) (.tmp 42) 73 rfl 0 5 i0 (.int .u8 0) 1 1 Try.underlying73 hi hz0 hz1 hz2 rfl (by decide) v1 out.length (vals out) rfl ?_ ⟨wr.heap.size, 0, none⟩ 1 1 [.int .u8 (IntKind.u8.wrap ((n : Int) / 2 ^ c))] rfl rfl ?_ ?_ ?_ ?_ ?_ ?_ _ rfl ?_
        · exact (hO1.own.alloc _)
        · exact cell_one_new _ _ _
        · intro u hu; simp at hu; subst hu; rfl
        · omega
        · unfold maxLen; omega
        · omega
        · omega
        intro g2 cap2 w2 hown2 hgrow2 hg2 hlt2
        obtain ⟨hc2, hf2, hr2⟩ := LoopRel.step (x := UInt8.ofNat (n / 2 ^ c)) hO.lt hO1 hM1 hv1 hgrow2 hown2 Hxm.out hg2 (by first | exact ((Mod.refl _ _).alloc _).drew | exact (Mod.refl _ _).drew.alloc _)
        have Hrel2 := Lib.hid hr2
        clear hr2 hown2 hgrow2 hg2 hlt2)
      all_goals
        go_wp2
        go_roundw
        case rel => exact ⟨k + 1, by omega, by go_num, by
          rw [digs_succ, ← List.append_assoc, ← Hout.out, ← Hs.out, ← Hcs.out]
          exact Hrel2.out⟩
        case measure => simp [intOf]; omega
    · obtain rfl : k = L := by omega
      go_wp2
      go_ret
      exact ⟨rfl, v1, by rw [Hout0.out, ← Hout.out]; exact hO1, hM1, hv1⟩
end Go.Proofs.Ytambljnmaibdmaa

namespace Go.Proofs.Ytambljnmaibdmaa
open Go.RowKit

theorem heap_setCells_at (g : Nat) (e : TypeId) : ∀ (vs : List Value) (o : Nat) (w : World) (cur : Array Value), w.heap[g]? = some (.cells cur e (0, 0)) → o + vs.length ≤ cur.size →
    (w.setCells g o vs).heap[g]? = some (.cells (cur.toList.take o ++ vs ++ cur.toList.drop (o + vs.length)).toArray e (0, 0))
  | [], o, w, cur, h, _ => by simp [World.setCells, h]
  | v :: vs, o, w, cur, h, hf => by
    simp only [List.length_cons] at hf
    have h1 := heap_setCell_same w g o cur e v h
    have ih := heap_setCells_at g e vs (o + 1) (w.setCell ⟨g, o, none⟩ v) (cur.setIfInBounds o v) h1 (by simp; omega)
    rw [World.setCells, ih]
    congr 3
    rw [Array.toList_setIfInBounds]
    have hl : o < cur.toList.length := by simp; omega
    rw [List.take_succ_eq_append_getElem (by simpa using hl)]
    simp only [List.getElem_set_self, List.take_set_of_le (Nat.le_refl o), List.drop_set_of_lt (show o < o + 1 + vs.length by omega), List.length_cons, List.append_assoc, List.cons_append, List.nil_append]
    rw [show o + (vs.length + 1) = o + 1 + vs.length by omega]

theorem grownBy_setCells (g : Nat) (vs : List Value) : ∀ (o : Nat) (w : World), w.grownBy (w.setCells g o vs) (some g) := by
  induction vs with
  | nil => intro o w; exact ⟨rfl, rfl, rfl, Nat.le_refl _, fun _ _ _ => rfl⟩
  | cons v vs ih =>
    intro o w
    have h := ih (o + 1) (w.setCell ⟨g, o, none⟩ v)
    refine ⟨h.os, h.tape, h.output, ?_, fun k hk hne => ?_⟩
    · exact Nat.le_trans (show w.heap.size ≤ (w.setCell ⟨g, o, none⟩ v).heap.size by simp [World.setCell]) h.size
    · refine (h.block k (by simpa [World.setCell] using hk) hne).trans ?_
      exact heap_setCell_other w ⟨g, o, none⟩ k v (fun e => hne (by simp [e]))

theorem run_append_src {P : Program} (w : World) (t tx ty e : TypeId) (i : TypeInfo) (z : Value) (size bytes : Nat) (ht : P.underlying t = some (.slice e)) (hi : P.info? e = some i) (hz : i.zero = some z)
    (hsize : i.size = size) (hby : i.bytes = bytes) (hzs : z.cells.size = size)
    (v : Value) (n : Nat) (xs : List Value) (hown : w.ownsRow 0 e size v n xs) (x : Value) (m : Nat) (news : List Value) (hs : Src P size tx x m news w)
    (h63 : n + m ≤ maxLen) (hbytes : (n + m) * bytes ≤ 140737488355328) :
    ∃ v' w', (Builtin.append_ #[t, tx] ty #[v, x]).run P w = .ok v' w' ∧ w'.ownsRow 0 e size v' (n + m) (xs ++ news) ∧ w.grownBy w' v.ownBlock ∧
      (v'.ownBlock = v.ownBlock ∨ v'.ownBlock = some w.heap.size) := by
  subst hsize
  subst hby
  have hlen : (xs ++ news).length = (n + m) * i.size := by rw [List.length_append, hown.1, hs.newsLen, Nat.add_mul]
  have h63i : ((n + m : Nat) : Int) ≤ 9223372036854775807 := by simp only [maxLen] at h63; omega
  have grown : ∀ (old : Nat), old < n + m → ∀ (row : Option Nat),
      (w.drew.alloc (.cells ((xs ++ news).toArray ++ Builtin.zeroCells z.cells (grownCap w (n + m) old e - (n + m))) e)).ownsRow 0 e i.size
        (.slice (some ⟨w.heap.size, 0, none⟩) (n + m) (grownCap w (n + m) old e)) (n + m) (xs ++ news) ∧
      w.grownBy (w.drew.alloc (.cells ((xs ++ news).toArray ++ Builtin.zeroCells z.cells (grownCap w (n + m) old e - (n + m))) e)) row := by
    intro old ho row
    have hge := grownCap_ge w (n + m) old e
    have hcm := grownCap_le_maxLen w (n + m) old e h63
    refine ⟨⟨hlen, .inr ⟨w.heap.size, _, _, rfl, Nat.zero_le _, heap_alloc_new w.drew _, hge, hcm, ?_, ?_⟩⟩, ⟨rfl, rfl, rfl, by simp, fun k hk _ => heap_alloc_old w.drew _ hk⟩⟩
    · rw [Array.size_append, List.size_toArray, hlen, size_zeroCells, hzs, ← Nat.add_mul]
      congr 1
      omega
    · rw [Array.toList_append, ← hlen]
      exact List.take_left
  rcases hown.2 with ⟨rfl, rfl⟩ | ⟨g, cap, cur, rfl, hbg, hg, hnc, hcm, hcs, htake⟩
  · have hx : xs = [] := List.eq_nil_of_length_eq_zero (by simpa using hown.1)
    subst hx
    by_cases hm : m = 0
    · subst hm
      have hn : news = [] := List.eq_nil_of_length_eq_zero (by simpa using hs.newsLen)
      subst hn
      refine ⟨.slice none 0 0, w, ?_, World.ownsRow_nil w 0 e i.size, ⟨rfl, rfl, rfl, Nat.le_refl _, fun _ _ _ => rfl⟩, .inl rfl⟩
      rcases hs.kind with ⟨e', hk⟩ | hk <;> simp [Builtin.append_, run_underlying ht, run_underlying hk, sizeOf, typeInfo, hi, hs.len, hs.cells]
    · have hr := run_append_grow_src (P := P) w t tx ty e i z ht hi hz none 0 0 [] (run_firstCells_none _ _ _ _ _) x m news hs (by omega) h63i (growslice_fits (by omega) hbytes)
      have hgr := grown 0 (by omega) (Value.ownBlock (.slice none 0 0))
      simp only [Nat.zero_add, List.nil_append] at hr hgr ⊢
      exact ⟨_, _, hr, hgr.1, hgr.2, .inr rfl⟩
  · have hcell : ∀ j, j < cap * i.size → w.cell? ⟨g, j, none⟩ = cur[j]? := fun j _ => cell_of_row w g j cur e (0, 0) hg
    by_cases hroom : n + m ≤ cap
    · have hfit : n * i.size + news.length ≤ cur.size := by rw [hs.newsLen, hcs, ← Nat.add_mul]; exact Nat.mul_le_mul_right _ hroom
      have hr := run_append_room_src (P := P) w t tx ty e i ht hi g 0 n cap x m news hs hroom
        (fun j hj => by rw [Nat.zero_add, cell_of_row w g _ cur e (0, 0) hg, Array.getElem?_eq_getElem (show n * i.size + j < cur.size by omega)]; rfl)
        (fun j _ => frozen_of_row w g _ cur e hg)
      rw [Nat.zero_add] at hr
      refine ⟨_, _, hr, ⟨hlen, .inr ⟨g, cap, _, rfl, hbg, heap_setCells_at g e news (n * i.size) w cur hg hfit, hroom, hcm, ?_, ?_⟩⟩, grownBy_setCells g news _ w, .inl rfl⟩
      · simp only [List.size_toArray, List.length_append, List.length_take, List.length_drop, Array.length_toList]
        omega
      · rw [htake, ← hlen]
        exact List.take_left
    · have hf := run_firstCells_some (P := P) w.drew i.size n ⟨g, 0, none⟩ n cap xs hown.1 (by simpa using hown.cells (g := g) rfl)
      have hr := run_append_grow_src (P := P) w t tx ty e i z ht hi hz (some ⟨g, 0, none⟩) n cap xs hf x m news hs (by omega) h63i (growslice_fits (by omega) hbytes)
      have hgr := grown cap (by omega) (Value.ownBlock (.slice (some ⟨g, 0, none⟩) n cap))
      exact ⟨_, _, hr, hgr.1, hgr.2, .inr rfl⟩

theorem wp_append_src {P : Program} {w : World} {o : Oper} {a : Act} {K : Act → World → Prop} {Q : Exit → Act → World → Prop} (s x : Operand) (t tx : TypeId)
    (ho : o.op = .call { callee := .builtin .append, args := #[s, x], argTypes := #[t, tx] })
    (e : TypeId) (i : TypeInfo) (z : Value) (size bytes : Nat) (ht : P.underlying t = some (.slice e)) (hi : P.info? e = some i) (hz : i.zero = some z)
    (hsize : i.size = size) (hby : i.bytes = bytes) (hzs : z.cells.size = size)
    (v : Value) (n : Nat) (xs : List Value) (hs : a.eval s = v) (hown : w.ownsRow 0 e size v n xs) (xv : Value) (m : Nat) (news : List Value) (hx : a.eval x = xv) (hsrc : Src P size tx xv m news w)
    (h63 : n + m ≤ maxLen) (hbytes : (n + m) * bytes ≤ 140737488355328)
    (h : ∀ v' w', w'.ownsRow 0 e size v' (n + m) (xs ++ news) → w.grownBy w' v.ownBlock → (v'.ownBlock = v.ownBlock ∨ v'.ownBlock = some w.heap.size) → K (a.put o.dst v') w') : o.wp P a w K Q := by
  obtain ⟨v', w', hr, h2, h3, h4⟩ := run_append_src (P := P) w t tx o.type e i z size bytes ht hi hz hsize hby hzs v n xs hown xv m news hsrc h63 hbytes
  unfold Oper.wp execOp
  simp only [ho, resolve, invoke, builtin, Sem.run_bind, Sem.run_pure, Result.andThen_ok, List.map_toArray, List.map_cons, List.map_nil, hs, hx, hr]
  exact h v' w' h2 h3 h4

theorem wpList_append_src {P : Program} {w : World} {ops : Array Oper} {rest : List Oper} {o : Oper} {a : Act} {Q : Exit → Act → World → Prop} (hgd : o.guard = none) (s x : Operand) (t tx : TypeId)
    (ho : o.op = .call { callee := .builtin .append, args := #[s, x], argTypes := #[t, tx] })
    (e : TypeId) (i : TypeInfo) (z : Value) (size bytes : Nat) (ht : P.underlying t = some (.slice e)) (hi : P.info? e = some i) (hz : i.zero = some z)
    (hsize : i.size = size) (hby : i.bytes = bytes) (hzs : z.cells.size = size)
    (v : Value) (n : Nat) (xs : List Value) (hs : a.eval s = v) (hown : w.ownsRow 0 e size v n xs) (xv : Value) (m : Nat) (news : List Value) (hx : a.eval x = xv) (hsrc : Src P size tx xv m news w)
    (h63 : n + m ≤ maxLen) (hbytes : (n + m) * bytes ≤ 140737488355328)
    (h : ∀ v' w', w'.ownsRow 0 e size v' (n + m) (xs ++ news) → w.grownBy w' v.ownBlock → (v'.ownBlock = v.ownBlock ∨ v'.ownBlock = some w.heap.size) → wpList P ops Q rest (a.put o.dst v') w') : wpList P ops Q (o :: rest) a w :=
  wpList_plain hgd fun _ hK => wp_append_src s x t tx ho e i z size bytes ht hi hz hsize hby hzs v n xs hs hown xv m news hx hsrc h63 hbytes fun v' w' h2 h3 h4 => hK _ _ (h v' w' h2 h3 h4)

end Go.Proofs.Ytambljnmaibdmaa

namespace Go.Proofs.Ytambljnmaibdmaa
open Go.RowKit

theorem OutAt.conv {P : Program} {T E : TypeId} {w : World} {b : Nat} {v : Value} {bs : List UInt8} (h : OutAt T E w b v bs) (src dst : TypeId) (hs : P.underlying src = some (.slice E)) (he : P.underlying E = some (.int .u8)) (hd : P.underlying dst = some .string) :
    (convert src dst v).run P w = .ok (.string ⟨bs.toArray⟩) w := by
  rcases h.own.2 with ⟨rfl, h0⟩ | ⟨g, cap, cur, rfl, _, hg, hnc, _, hcs, htake⟩
  · rw [List.length_eq_zero_iff.1 h0]
    exact run_convert_bytes_nil w src E hs he 0 0 dst hd
  · have hr := run_convert_bytes_arg (P := P) w src E hs he g 0 bs.length cap (bs.map fun x => (x.toNat : Int)) (by simp) (fun i hi => by
      have := h.own.cellAt i (by omega)
      rw [Nat.zero_add, this]
      simp [vals, List.getD, hi]) dst hd
    rw [hr]
    congr 2
    apply ByteArray.ext
    apply Array.toList_inj.1
    rw [strOfNums_data, List.map_map]
    simp only [Function.comp_def, Int.toNat_natCast, UInt8.ofNat_toNat, List.map_id']

set_option maxHeartbeats 400000 in
theorem bytes_any (b : Nat) (v : Value) (bs : List UInt8) (w : World) (hO : OutAt 75 5 w b v bs) :
    Calls Try.prog 38 #[.pointer (some ⟨b, 0, none⟩)] w fun r w' => r = .returned (.string ⟨bs.toArray⟩) ∧ w = w' := by
  have hc := hO.cell
  have hcv := hO.conv (P := Try.prog) 73 9 Try.underlying73 Try.underlying5 Try.underlying9
  clear hO
  go_enter Try.func38, Try.ntmps38
  go_wp2
  go_ret
  exact ⟨rfl, rfl⟩

theorem byteCells_vals (l : List UInt8) : byteCells ⟨l.toArray⟩ = vals l := by simp [byteCells, vals]

set_option maxHeartbeats 400000 in
theorem raw_any (b : Nat) (v : Value) (bs s : List UInt8) (w : World) (hO : OutAt 75 5 w b v bs) (hlen : bs.length + s.length ≤ 2199023255552) :
    Calls Try.prog 47 #[.pointer (some ⟨b, 0, none⟩), .string ⟨s.toArray⟩] w (NumPost b v (bs ++ s) w) := by
  obtain ⟨i0, hi, hz0, hz1, hz2⟩ := info_parts Try.info5
  have hc := hO.cell
  have hf := hO.froz
  go_enter Try.func47, Try.ntmps47
  go_wp2_with (at_builtin; refine wpList_append_src rfl (.tmp 9) (.tmp 10) 73 9 rfl 5 i0 (.int .u8 0) 1 1 Try.underlying73 hi hz0 hz1 hz2 rfl v bs.length (vals bs) rfl hO.own (.string ⟨s.toArray⟩) s.length (vals s) rfl ?c1 ?c2 ?c3 ?_)
  case c1 => have h := Src.ofString (P := Try.prog) w Try.underlying9 ⟨s.toArray⟩; rwa [byteCells_vals] at h
  case c2 => unfold maxLen; omega
  case c3 => omega
  intro v1 w1 hown1 hgrow1 hat1
  rw [← vals_app, ← List.length_append] at hown1
  have hne : v1.ownBlock ≠ some b := by
    rcases hat1 with h | h
    · rw [h]; exact hO.ne
    · rw [h]; have := hO.lt; intro e; injection e with e; omega
  have hO1 := hO.store hgrow1 hown1 hne
  have hc1 : w1.cell? ⟨b, 0, none⟩ = some v := (World.cell?_of_block (hgrow1.block b hO.lt (fun e => hO.ne e.symm))).trans hc
  have hf1 : w1.frozen? ⟨b, 0, none⟩ = false := (World.frozen?_of_block (hgrow1.block b hO.lt (fun e => hO.ne e.symm))).trans hf
  have hpost : NumPost b v (bs ++ s) w (.returned (.pointer (some ⟨b, 0, none⟩))) (w1.setCell ⟨b, 0, none⟩ v1) := by
    refine ⟨rfl, v1, hO1, ((Mod.refl (fun k => k = b ∨ v.ownBlock = some k) _).grown hgrow1 (fun k hk _ => Or.inr hk)).setCell (p := ⟨b, 0, none⟩) (fun _ => Or.inl rfl) _, ?_⟩
    rcases hat1 with h | h
    · exact .inl h
    · right; intro k hk; rw [h] at hk; injection hk with hk; omega
  have Hp := Lib.hid hpost
  clear hpost hO1 hgrow1 hat1 hc hf
  rcases hown1.2 with ⟨rfl, _⟩ | ⟨g, cap, cur, rfl, _⟩
  · clear hown1 hne
    go_wp2
    go_ret
    exact Hp.out
  · clear hown1 hne
    rw [List.length_append] at Hp ⊢
    go_wp2
    go_ret
    exact Hp.out

theorem NumPost.trans {b : Nat} {v v1 : Value} {out : List UInt8} {w w1 w2 : World} {r : Ending} (hM : Mod (fun k => k = b ∨ v.ownBlock = some k) w w1) (hv : v1.ownBlock = v.ownBlock ∨ ∀ k, v1.ownBlock = some k → w.heap.size ≤ k)
    (h : NumPost b v1 out w1 r w2) : NumPost b v out w r w2 := by
  obtain ⟨hr, v2, hO, hM2, hv2⟩ := h
  refine ⟨hr, v2, hO, hM.trans hM2 ?_, ?_⟩
  · intro i hi h
    rcases h with h | h
    · exact .inl h
    · rcases hv with h' | h'
      · exact .inr (h' ▸ h)
      · have := h' i h; omega
  · rcases hv2 with h2 | h2
    · rw [h2]; exact hv
    · right; intro k hk; have := h2 k hk; have := hM.size; omega

theorem numL_len (x : Int) (hx : x ≤ 18446744073709551615) : (numL x).length ≤ 9 := by
  have := beBytes_len 8 x.toNat (by simp; omega)
  simp [numL]; omega

set_option maxHeartbeats 400000 in
theorem text_any (b : Nat) (v : Value) (bs s : List UInt8) (w : World) (hO : OutAt 75 5 w b v bs) (hlen : bs.length ≤ 1099511627776) (hs : s.length ≤ 549755813888) :
    Calls Try.prog 37 #[.pointer (some ⟨b, 0, none⟩), .string ⟨s.toArray⟩] w (NumPost b v (bs ++ (numL s.length ++ s)) w) := by
  go_enter Try.func37, Try.ntmps37
  go_wp2_with fail
  refine (num_any s.length b v bs w (by omega) (by omega) hO hlen).mono ?_
  rintro e w1 ⟨rfl, v1, hO1, hM1, hv1⟩
  have hl := numL_len s.length (by omega)
  go_wp2_with fail
  refine (raw_any b v1 (bs ++ numL s.length) s w1 hO1 (by simp; omega)).mono ?_
  intro e w2 h2
  have h3 := NumPost.trans hM1 hv1 h2
  rw [List.append_assoc] at h3
  have he := h3.1
  have Hp := Lib.hid h3
  clear h2 h3 hO1 hM1 hv1 hO
  subst he
  go_wp2
  go_ret
  exact Hp.out

end Go.Proofs.Ytambljnmaibdmaa

namespace Go.Proofs.Ytambljnmaibdmaa
open Go.RowKit

def Head3 (p : Nat × Nat × Int) (w : World) (r : Ending) (w' : World) : Prop := r = .returned (.tuple #[.int .i64 p.1, .int .i64 p.2.1, .int .i64 p.2.2]) ∧ w = w'

theorem ret3 {a b c a' b' c' : Int} (h1 : a = a') (h2 : b = b') (h3 : c = c') : Ending.returned (.tuple #[.int .i64 a, .int .i64 b, .int .i64 c]) = .returned (.tuple #[.int .i64 a', .int .i64 b', .int .i64 c']) := by rw [h1, h2, h3]

/-- A byte more at the foot of a number below 2^56. -/
theorem or_byte (V : Nat) (x : UInt8) (hV : V < 72057594037927936) : bits BinOp.or IntKind.u64 (((V : Nat) : Int) * 256) (IntKind.u64.wrap ((x.toNat : Nat) : Int)) = ((V * 256 + x.toNat : Nat) : Int) := by
  have hx := x.toNat_lt
  rw [IntWalk.u64_in _ (by omega), show ((V : Nat) : Int) * 256 = ((V * 256 : Nat) : Int) by omega, bits_or_u64_nat _ _ (by omega) (by omega)]
  rw [Nat.mul_comm V 256]
  exact congrArg Int.ofNat (Nat.two_pow_add_eq_or_of_lt (i := 8) (by omega) V).symm

theorem get_behind (c : UInt8) (l : List UInt8) (k : Nat) (h : k < l.length) (h' : 1 + k < (ByteArray.mk (c :: l).toArray).size) : (ByteArray.mk (c :: l).toArray)[1 + k] = l[k] := by
  have e : ∀ j, (hj : j < (ByteArray.mk (c :: l).toArray).size) → j = k + 1 → (ByteArray.mk (c :: l).toArray)[j] = l[k] := by
    intro j hj e; subst e; rfl
  exact e _ _ (by omega)

set_option maxHeartbeats 400000 in
theorem number_any (s : List UInt8) (w : World) (hl : s.length ≤ 1099511627776) : Calls Try.prog 44 #[.string ⟨s.toArray⟩] w (Head3 (headL s) w) := by
  rcases s with _ | ⟨c, r⟩
  · go_enter Try.func44, Try.ntmps44
    go_wp2
    go_ret3
    exact ⟨rfl, rfl⟩
  · have g0 : ({ data := (c :: r).toArray } : ByteArray)[0]'(by simp [ByteArray.size]) = c := rfl
    have hcb := c.toNat_lt
    have hll : r.length + 1 ≤ 1099511627776 := hl
    clear hl
    have z0 : ((r.length : Int) + 1 == 0) = false := by simp; omega
    by_cases h0 : c.toNat = 0
    · have hfin : headL (c :: r) = (0, 1, 0) := by simp [headL, h0]
      rw [hfin]
      have t0 : ((c.toNat : Int) == 0) = true := by simp [h0]
      clear h0 hfin
      go_enter Try.func44, Try.ntmps44
      go_wp2
      go_ret3
      exact ⟨rfl, rfl⟩
    have t0 : ((c.toNat : Int) == 0) = false := by simp [h0]
    by_cases h1 : 8 < c.toNat
    · have hfin : headL (c :: r) = (0, 0, 3) := by simp [headL, h0, h1]
      rw [hfin]
      clear h0 hfin
      go_enter Try.func44, Try.ntmps44
      go_wp2
      go_ret3
      exact ⟨rfl, rfl⟩
    rcases r with _ | ⟨d, r⟩
    · have hfin : headL [c] = (0, 0, 2) := by simp [headL, h0, h1]
      rw [hfin]
      clear h0 hfin
      go_enter Try.func44, Try.ntmps44
      go_wp2
      go_ret3
      exact ⟨rfl, rfl⟩
    have g1 : ({ data := (c :: d :: r).toArray } : ByteArray)[1]'(by simp [ByteArray.size]) = d := rfl
    have z1 : ((r.length : Int) + 1 + 1 == 1) = false := by simp; omega
    simp only [List.length_cons] at hll z0
    by_cases h2 : d.toNat = 0
    · have hfin : headL (c :: d :: r) = (0, 0, 3) := by simp [headL, h0, h1, h2]
      rw [hfin]
      have t1 : ((d.toNat : Int) == 0) = true := by simp [h2]
      clear h0 h2 hfin
      go_enter Try.func44, Try.ntmps44
      go_wp2
      go_ret3
      exact ⟨rfl, rfl⟩
    have t1 : ((d.toNat : Int) == 0) = false := by simp [h2]
    by_cases h3 : (d :: r).length < c.toNat
    · have hfin : headL (c :: d :: r) = (0, 0, 2) := by simp only [headL, if_neg h0, if_neg h1, if_neg h2, if_pos h3]
      rw [hfin]
      simp only [List.length_cons] at h3
      clear h0 h2 hfin
      go_enter Try.func44, Try.ntmps44
      go_wp2
      go_ret3
      exact ⟨rfl, rfl⟩
    have H0 := Lib.hid h0
    have H2 := Lib.hid h2
    have H3 := Lib.hid h3
    clear h0 h2
    simp only [List.length_cons] at h3
    have z2 : ((r.length : Int) + 1 + 1 == 0) = false := by simp; omega
    have z3 : decide ((r.length : Int) + 1 + 1 ≤ c.toNat) = false := by simp; omega
    have z4 : decide (8 < (c.toNat : Int)) = false := by simp; omega
    clear z0
    go_enter Try.func44, Try.ntmps44
    go_wp2
    go_loop [6, 34] (fun x i => ∃ k : Nat, k ≤ c.toNat ∧ i = .int .i64 k ∧ x = .int .u64 (beVal ((d :: r).take k))) (fun _ i => c.toNat - (intOf i).toNat)
    case atStart => exact ⟨0, by omega, rfl, rfl⟩
    case round =>
      obtain ⟨k, hk, rfl, rfl⟩ := hrel
      by_cases hlt : k < c.toNat
      · have hkl : k < (d :: r).length := by simp; omega
        have hkl' : k < r.length + 1 := by omega
        have hv := beVal_take_lt (d :: r) k (by omega)
        have hv7 : beVal ((d :: r).take k) < 256 ^ 7 := Nat.lt_of_lt_of_le hv (Nat.pow_le_pow_right (by decide) (by omega))
        obtain ⟨V, hV⟩ : ∃ V, V = beVal ((d :: r).take k) := ⟨_, rfl⟩
        rw [← hV] at hv7 ⊢
        have hv8 : V < 72057594037927936 := hv7
        have HV := Lib.hid hV
        clear hV hv hv7
        go_wp2
        go_round
        case rel => 
          refine ⟨k + 1, by omega, by go_num, ?_⟩
          rw [or_byte _ _ hv8, List.take_succ_eq_append_getElem hkl, beVal_snoc, HV.out, get_behind c (d :: r) k hkl]
        case measure => simp [intOf]; omega
      · obtain rfl : k = c.toNat := by omega
        by_cases h5 : 9223372036854775807 < beVal ((d :: r).take c.toNat)
        · have hfin : headL (c :: d :: r) = (0, 0, 3) := by simp only [headL, if_neg H0.out, if_neg h1, if_neg H2.out, if_neg H3.out, if_pos h5]
          have Hfin := Lib.hid hfin
          clear hfin
          go_wp2
          go_ret3
          exact ⟨by rw [Hfin.out]; exact ret3 rfl rfl rfl, rfl⟩
        · have hfin : headL (c :: d :: r) = (beVal ((d :: r).take c.toNat), c.toNat + 1, 0) := by simp only [headL, if_neg H0.out, if_neg h1, if_neg H2.out, if_neg H3.out, if_neg h5]
          have Hfin := Lib.hid hfin
          clear hfin
          go_wp2
          go_ret3
          exact ⟨by rw [Hfin.out]; exact ret3 rfl (show 1 + (c.toNat : Int) = ((c.toNat + 1 : Nat) : Int) by omega) rfl, rfl⟩
end Go.Proofs.Ytambljnmaibdmaa

namespace Go.Proofs.Ytambljnmaibdmaa
open Go.RowKit

/-- Block b is an In: what is left, the first error. -/
def InAt (T : TypeId) (w : World) (b : Nat) (s : List UInt8) (e : Int) : Prop := w.heap[b]? = some (.cells #[.string ⟨s.toArray⟩, .int .i64 e] T (0, 0))
theorem InAt.c0 {T : TypeId} {w : World} {b : Nat} {s : List UInt8} {e : Int} (h : InAt T w b s e) : w.cell? ⟨b, 0, none⟩ = some (.string ⟨s.toArray⟩) := by unfold World.cell?; rw [show w.heap[b]? = _ from h]; rfl
theorem InAt.c1 {T : TypeId} {w : World} {b : Nat} {s : List UInt8} {e : Int} (h : InAt T w b s e) : w.cell? ⟨b, 1, none⟩ = some (.int .i64 e) := by unfold World.cell?; rw [show w.heap[b]? = _ from h]; rfl
theorem InAt.f {T : TypeId} {w : World} {b : Nat} {s : List UInt8} {e : Int} (h : InAt T w b s e) (o : Nat) : w.frozen? ⟨b, o, none⟩ = false := frozen_of_row w b o _ _ h
theorem InAt.lt {T : TypeId} {w : World} {b : Nat} {s : List UInt8} {e : Int} (h : InAt T w b s e) : b < w.heap.size := (Array.getElem?_eq_some_iff.1 h).1
theorem InAt.set0 {T : TypeId} {w : World} {b : Nat} {s : List UInt8} {e : Int} (h : InAt T w b s e) (s' : List UInt8) : InAt T (w.setCell ⟨b, 0, none⟩ (.string ⟨s'.toArray⟩)) b s' e := by
  have := heap_setCell_same w b 0 _ T (.string ⟨s'.toArray⟩) h
  exact this
theorem InAt.set1 {T : TypeId} {w : World} {b : Nat} {s : List UInt8} {e : Int} (h : InAt T w b s e) (e' : Int) : InAt T (w.setCell ⟨b, 1, none⟩ (.int .i64 e')) b s e' := by
  have := heap_setCell_same w b 1 _ T (.int .i64 e') h
  exact this
theorem InAt.kept {T : TypeId} {w w' : World} {b : Nat} {s : List UInt8} {e : Int} {S : Nat → Prop} (h : InAt T w b s e) (hm : Mod S w w') (hb : ¬ S b) : InAt T w' b s e := (hm.block b h.lt hb).trans h

def failS (s : List UInt8) (err e : Int) : List UInt8 × Int := if e = 0 ∨ err ≠ 0 then (s, err) else ([], e)

def InPost (T : TypeId) (b : Nat) (v : Value) (p : List UInt8 × Int) (w : World) (r : Ending) (w' : World) : Prop := r = .returned v ∧ InAt T w' b p.1 p.2 ∧ Mod (· = b) w w'

set_option maxHeartbeats 400000 in
theorem fail_any (b : Nat) (s : List UInt8) (err e : Int) (w : World) (h : InAt 65 w b s err) :
    Calls Try.prog 33 #[.pointer (some ⟨b, 0, none⟩), .int .i64 e] w (InPost 65 b (.tuple #[]) (failS s err e) w) := by
  have h0 := h.c0
  have h1 := h.c1
  have f0 := h.f 0
  have f1 := h.f 1
  by_cases he : e = 0
  · have hfin : failS s err e = (s, err) := by simp [failS, he]
    have t : (e == 0) = true := by simp [he]
    have Hp : Hid (InPost 65 b (.tuple #[]) (failS s err e) w (.returned (.tuple #[])) w) := Lib.hid (by rw [hfin]; exact ⟨rfl, h, Mod.refl _ _⟩)
    clear he hfin h
    go_enter Try.func33, Try.ntmps33
    go_wp2
    go_end0
    exact Hp.out
  have t : (e == 0) = false := by simp [he]
  by_cases hr : err = 0
  · have hfin : failS s err e = ([], e) := by simp [failS, he, hr]
    have t2 : (err != 0) = false := by simp [hr]
    have Hp : Hid (InPost 65 b (.tuple #[]) (failS s err e) w (.returned (.tuple #[])) ((w.setCell ⟨b, 1, none⟩ (.int .i64 e)).setCell ⟨b, 0, none⟩ (.string ⟨#[]⟩))) :=
      Lib.hid (by rw [hfin]; exact ⟨rfl, (h.set1 e).set0 [], ((Mod.refl (· = b) _).setCell (p := ⟨b, 1, none⟩) (fun _ => rfl) _).setCell (p := ⟨b, 0, none⟩) (fun _ => rfl) _⟩)
    clear he hr hfin h
    go_enter Try.func33, Try.ntmps33
    go_wp2
    go_end0
    exact Hp.out
  · have hfin : failS s err e = (s, err) := by simp [failS, hr]
    have t2 : (err != 0) = true := by simp [hr]
    have Hp : Hid (InPost 65 b (.tuple #[]) (failS s err e) w (.returned (.tuple #[])) w) := Lib.hid (by rw [hfin]; exact ⟨rfl, h, Mod.refl _ _⟩)
    clear he hr hfin h
    go_enter Try.func33, Try.ntmps33
    go_wp2
    go_end0
    exact Hp.out

theorem extract_end (s : List UInt8) (k : Nat) : (ByteArray.mk s.toArray).extract k s.length = ⟨(s.drop k).toArray⟩ := by
  rw [ByteArray.extract_mk, List.take_of_length_le (by simp)]
theorem extract_head (s : List UInt8) (k : Nat) : (ByteArray.mk s.toArray).extract 0 k = ⟨(s.take k).toArray⟩ := by
  rw [ByteArray.extract_mk]; simp

/-- What In.Num answers, and leaves. -/
def numS (s : List UInt8) (err most : Int) : Int × List UInt8 × Int :=
  if (headL s).2.2 ≠ 0 then (0, failS s err (headL s).2.2)
  else if most < (headL s).1 then (0, failS s err 4) else ((headL s).1, s.drop (headL s).2.1, err)

theorem headL_ok (s : List UInt8) (h : (headL s).2.2 = 0) : (headL s).2.1 ≤ s.length := by
  unfold headL at h ⊢
  split
  · simp at h
  · rename_i c r
    simp only at h ⊢
    split
    · simp
    · rename_i h0
      rw [if_neg h0] at h
      split
      · rename_i h1; rw [if_pos h1] at h; simp at h
      · rename_i h1
        rw [if_neg h1] at h
        split
        · simp at h
        · rename_i d r
          simp only at h ⊢
          split
          · rename_i h2; rw [if_pos h2] at h; simp at h
          · rename_i h2
            rw [if_neg h2] at h
            split
            · rename_i h3; rw [if_pos h3] at h; simp at h
            · rename_i h3
              split
              · simp
              · simp at h3 ⊢; omega
theorem headL_err (s : List UInt8) : (headL s).2.2 = 0 ∨ (headL s).2.2 = 2 ∨ (headL s).2.2 = 3 := by
  unfold headL
  repeat' split
  all_goals simp
theorem headL_max (s : List UInt8) : (headL s).1 ≤ 9223372036854775807 := by
  unfold headL
  repeat' split
  all_goals first | (simp; done) | (simp only; omega)

set_option maxHeartbeats 400000 in
theorem innum_any (b : Nat) (s : List UInt8) (err most : Int) (w : World) (h : InAt 65 w b s err) (hl : s.length ≤ 1099511627776) :
    Calls Try.prog 30 #[.pointer (some ⟨b, 0, none⟩), .int .i64 most] w (InPost 65 b (.int .i64 (numS s err most).1) (numS s err most).2 w) := by
  have h0 := h.c0
  have h1 := h.c1
  have f0 := h.f 0
  obtain ⟨hx, hxe⟩ : ∃ x, x = headL s := ⟨_, rfl⟩
  obtain ⟨x, k, e⟩ := hx
  have hk := headL_ok s
  have hme := headL_max s
  have hee := headL_err s
  rw [← hxe] at hk hme hee
  simp only at hk hme hee
  have Hnum : Hid (∀ w : World, Calls Try.prog 44 #[.string ⟨s.toArray⟩] w fun r w' => r = .returned (.tuple #[.int .i64 x, .int .i64 k, .int .i64 e]) ∧ w = w') := Lib.hid (fun w => by
    have := number_any s w hl
    rw [← hxe] at this
    exact this)
  have hfin : numS s err most = if e ≠ 0 then (0, failS s err e) else if most < x then (0, failS s err 4) else ((x : Int), s.drop k, err) := by unfold numS; rw [← hxe]
  clear hxe hee
  have hx0 : (0 : Int) ≤ x := by omega
  by_cases he : e = 0
  · have hkl := hk he
    subst he
    clear hk
    by_cases hm : most < x
    · rw [if_neg (by simp), if_pos hm] at hfin
      have Hfin := Lib.hid hfin
      clear hfin
      go_enter Try.func30, Try.ntmps30
      go_wp2_with fail
      refine (Hnum.out _).mono ?_
      rintro r w' ⟨rfl, rfl⟩
      go_wp2_with fail
      refine (fail_any b s err 4 w h).mono ?_
      rintro r w1 ⟨rfl, hI, hM⟩
      go_wp2_with fail
      go_ret
      exact ⟨by rw [Hfin.out]; rfl, by rw [Hfin.out]; exact hI, hM⟩
    · rw [if_neg (by simp), if_neg hm] at hfin
      have Hp : Hid (InPost 65 b (.int .i64 (numS s err most).1) (numS s err most).2 w (.returned (.int .i64 x)) (w.setCell ⟨b, 0, none⟩ (.string ⟨(s.drop k).toArray⟩))) :=
        Lib.hid (by rw [hfin]; exact ⟨rfl, h.set0 _, (Mod.refl (· = b) _).setCell (p := ⟨b, 0, none⟩) (fun _ => rfl) _⟩)
      clear hfin
      go_enter Try.func30, Try.ntmps30
      go_wp2_with fail
      refine (Hnum.out _).mono ?_
      rintro r w' ⟨rfl, rfl⟩
      go_wp2_with fail
      rw [extract_end]
      go_ret
      exact Hp.out
  · rw [if_pos he] at hfin
    have Hfin := Lib.hid hfin
    have t1 : (e == 0) = false := by simp [he]
    have t2 : (e != 0) = true := by simp [he]
    clear hfin hk he
    go_enter Try.func30, Try.ntmps30
    go_wp2_with fail
    refine (Hnum.out _).mono ?_
    rintro r w' ⟨rfl, rfl⟩
    go_wp2_with fail
    refine (fail_any b s err e w h).mono ?_
    rintro r w1 ⟨rfl, hI, hM⟩
    go_wp2_with fail
    go_ret
    exact ⟨by rw [Hfin.out]; rfl, by rw [Hfin.out]; exact hI, hM⟩

set_option maxHeartbeats 400000 in
theorem clone_any (s : List UInt8) (w : World) (hl : s.length ≤ 281474976710656) :
    Calls Try.prog 29 #[.string ⟨s.toArray⟩] w fun r w' => r = .returned (.string ⟨s.toArray⟩) ∧ Below w.heap.size w w' := by
  go_enter Try.func29, Try.ntmps29
  go_wp2_with fail
  refine (Try.stringslite_Clone ⟨s.toArray⟩ _ (by simpa [ByteArray.size] using hl)).mono ?_
  rintro r w1 ⟨rfl, hb⟩
  go_wp2_with fail
  go_ret
  exact ⟨rfl, hb⟩

set_option maxHeartbeats 400000 in
theorem of_any (s : List UInt8) (w : World) (hl : s.length ≤ 281474976710656) :
    Calls Try.prog 19 #[.string ⟨s.toArray⟩] w fun r w' => ∃ b, r = .returned (.pointer (some ⟨b, 0, none⟩)) ∧ w.heap.size ≤ b ∧ InAt 65 w' b s 0 ∧ Below w.heap.size w w' := by
  go_enter Try.func19, Try.ntmps19
  go_wp2_with fail
  refine (clone_any s _ hl).mono ?_
  rintro r w1 ⟨rfl, hb⟩
  have hs := hb.size
  have Hp : Hid (w.heap.size ≤ w1.heap.size ∧ InAt 65 (w1.alloc (.cells #[.string ⟨s.toArray⟩, .int .i64 0] 65)) w1.heap.size s 0 ∧ Below w.heap.size w (w1.alloc (.cells #[.string ⟨s.toArray⟩, .int .i64 0] 65))) :=
    Lib.hid ⟨hs, heap_alloc_new _ _, hb.alloc hs _⟩
  clear hb hs
  go_wp2_with fail
  go_ret
  exact ⟨_, rfl, Hp.out⟩

/-- What In.Raw answers, and leaves. -/
def rawS (s : List UInt8) (err n : Int) : List UInt8 × List UInt8 × Int :=
  if (s.length : Int) < n then ([], failS s err 2) else (s.take n.toNat, s.drop n.toNat, err)

def InPostN (T : TypeId) (b : Nat) (v : Value) (p : List UInt8 × Int) (w : World) (r : Ending) (w' : World) : Prop := r = .returned v ∧ InAt T w' b p.1 p.2 ∧ Mod (· = b) w w'

set_option maxHeartbeats 400000 in
theorem inraw_any (b : Nat) (s : List UInt8) (err n : Int) (w : World) (h : InAt 65 w b s err) (hl : s.length ≤ 1099511627776) :
    Calls Try.prog 45 #[.pointer (some ⟨b, 0, none⟩), .int .i64 n] w (InPost 65 b (.string ⟨(rawS s err n).1.toArray⟩) (rawS s err n).2 w) := by
  have h0 := h.c0
  have f0 := h.f 0
  by_cases hn : (s.length : Int) < n
  · have hfin : rawS s err n = ([], failS s err 2) := by unfold rawS; rw [if_pos hn]
    have Hfin := Lib.hid hfin
    have hn0 : 0 ≤ n := by omega
    clear hfin
    go_enter Try.func45, Try.ntmps45
    go_wp2_with fail
    refine (fail_any b s err 2 w h).mono ?_
    rintro r w1 ⟨rfl, hI, hM⟩
    go_wp2_with fail
    go_ret
    exact ⟨by rw [Hfin.out]; rfl, by rw [Hfin.out]; exact hI, hM⟩
  · have hfin : rawS s err n = (s.take n.toNat, s.drop n.toNat, err) := by unfold rawS; rw [if_neg hn]
    rw [hfin]
    clear hfin
    go_enter Try.func45, Try.ntmps45
    go_upto_region 1 with fail
    go_cut [1] (fun s1 wx => ∃ m : Nat, s1 = .int .i64 m ∧ n.toNat = m ∧ m ≤ s.length ∧ w = wx)
    case first =>
      by_cases hxx : 0 ≤ n
      · obtain ⟨m, rfl⟩ := Int.eq_ofNat_of_zero_le hxx
        go_wp2_with fail
        go_meet
        exact ⟨m, rfl, rfl, by omega, rfl⟩
      · go_wp2_with fail
        go_meet
        exact ⟨0, by go_num, by omega, by omega, rfl⟩
    case rest =>
      obtain ⟨m, rfl, hm, hml, rfl⟩ := hcut
      have Hm := Lib.hid hm
      clear hn hm
      go_wp2_with fail
      rw [extract_head]
      refine (clone_any (s.take m) _ (by simp; omega)).mono ?_
      rintro r w1 ⟨rfl, hb⟩
      have hI := h.kept (Mod.of_below hb) (by have := h.lt; omega)
      have hM : Mod (· = b) w w1 := (Mod.of_below hb).mono (fun i hi hh => by omega)
      have Hp : Hid (InPost 65 b (.string ⟨(s.take n.toNat).toArray⟩) (s.drop n.toNat, err) w (.returned (.string ⟨(s.take m).toArray⟩)) (w1.setCell ⟨b, 0, none⟩ (.string ⟨(s.drop m).toArray⟩))) :=
        Lib.hid (by rw [Hm.out]; exact ⟨rfl, hI.set0 _, hM.setCell (p := ⟨b, 0, none⟩) (fun _ => rfl) _⟩)
      have g0 := hI.c0
      have gf := hI.f 0
      clear hb hI hM
      go_wp2_with fail
      rw [extract_end]
      go_ret
      exact Hp.out

end Go.Proofs.Ytambljnmaibdmaa

namespace Go.Proofs.Ytambljnmaibdmaa
open Go.RowKit

def textS (s : List UInt8) (err most : Int) : List UInt8 × List UInt8 × Int :=
  rawS (numS s err (max most 0)).2.1 (numS s err (max most 0)).2.2 (numS s err (max most 0)).1

theorem failS_len (s : List UInt8) (err e : Int) : (failS s err e).1.length ≤ s.length := by unfold failS; split <;> simp
theorem numS_len (s : List UInt8) (err most : Int) : (numS s err most).2.1.length ≤ s.length := by
  unfold numS; split
  · exact failS_len _ _ _
  · split
    · exact failS_len _ _ _
    · simp

set_option maxHeartbeats 400000 in
theorem intext_any (b : Nat) (s : List UInt8) (err most : Int) (w : World) (h : InAt 65 w b s err) (hl : s.length ≤ 1099511627776) :
    Calls Try.prog 32 #[.pointer (some ⟨b, 0, none⟩), .int .i64 most] w (InPost 65 b (.string ⟨(textS s err most).1.toArray⟩) (textS s err most).2 w) := by
  have hlen := numS_len s err (max most 0)
  have Hn : Hid (∀ w, InAt 65 w b s err → Calls Try.prog 30 #[.pointer (some ⟨b, 0, none⟩), .int .i64 (max most 0)] w (InPost 65 b (.int .i64 (numS s err (max most 0)).1) (numS s err (max most 0)).2 w)) := Lib.hid (fun w h => innum_any b s err (max most 0) w h hl)
  unfold textS
  generalize numS s err (max most 0) = p at Hn hlen ⊢
  obtain ⟨x, s1, e1⟩ := p
  simp only at hlen
  go_enter Try.func32, Try.ntmps32
  go_wp2_with fail
  refine (Hn.out _ h).mono ?_
  rintro r w1 ⟨rfl, hI, hMd⟩
  go_wp2_with fail
  refine (inraw_any b s1 e1 x w1 hI (by omega)).mono ?_
  rintro r w2 ⟨rfl, hI2, hM2⟩
  go_wp2_with fail
  go_ret
  exact ⟨rfl, hI2, hMd.trans hM2 (fun _ _ h => h)⟩

set_option maxHeartbeats 400000 in
theorem end_any (b : Nat) (s : List UInt8) (e : Int) (w : World) (h : InAt 65 w b s e) :
    Calls Try.prog 21 #[.pointer (some ⟨b, 0, none⟩)] w fun r w' => r = .returned (.int .i64 (if s = [] then e else 3)) ∧ w = w' := by
  have h0 := h.c0
  have h1 := h.c1
  rcases s with _ | ⟨c, s⟩
  · go_enter Try.func21, Try.ntmps21
    go_wp2
    go_ret
    exact ⟨rfl, rfl⟩
  · go_enter Try.func21, Try.ntmps21
    go_wp2
    go_ret
    exact ⟨rfl, rfl⟩

set_option maxHeartbeats 400000 in
theorem cut_any (s : List UInt8) (n : Nat) (w : World) (_hl : (s.length : Int) ≤ 9223372036854775807) (_hn : (n : Int) ≤ 9223372036854775807) :
    Calls Try.prog 8 #[.string ⟨s.toArray⟩, .int .i64 n] w fun r w' => r = .returned (.string ⟨(s.take n).toArray⟩) ∧ w = w' := by
  have h0 : (0 : Int) ≤ n := by omega
  by_cases h : n < s.length
  · go_enter Try.func8, Try.ntmps8
    go_wp2_with fail
    rw [extract_head]
    go_ret
    exact ⟨rfl, rfl⟩
  · have e : s.take n = s := List.take_of_length_le (by omega)
    rw [e]
    clear e
    go_enter Try.func8, Try.ntmps8
    go_wp2_with fail
    go_ret
    exact ⟨rfl, rfl⟩

end Go.Proofs.Ytambljnmaibdmaa

namespace Go.Proofs.Ytambljnmaibdmaa
open Go.RowKit

/-- How an element lies in memory: k cells. -/
structure Enc (α : Type) where
  f : α → List Value
  k : Nat
  len : ∀ x, (f x).length = k
  one : ∀ x, ∀ v ∈ f x, v.oneCell' = true
  pos : 0 < k

section
variable {α : Type} (E : Enc α)
def Enc.all (L : List α) : List Value := L.flatMap E.f
theorem Enc.all_nil : E.all [] = [] := rfl
theorem Enc.all_app (A B : List α) : E.all (A ++ B) = E.all A ++ E.all B := by simp [Enc.all]
theorem Enc.all_len (L : List α) : (E.all L).length = L.length * E.k := by
  induction L with
  | nil => simp [Enc.all]
  | cons x l ih => rw [show x :: l = [x] ++ l from rfl, E.all_app, List.length_append, ih]; simp [Enc.all, E.len, Nat.add_mul]; omega
theorem Enc.all_one (L : List α) : ∀ v ∈ E.all L, v.oneCell' = true := by
  intro v hv
  obtain ⟨x, _, h⟩ := List.mem_flatMap.1 hv
  exact E.one x v h
theorem Enc.all_get (L : List α) (j i : Nat) (hj : j < L.length) (hi : i < E.k) : (E.all L)[j * E.k + i]? = (E.f L[j])[i]? := by
  induction L generalizing j with
  | nil => simp at hj
  | cons x l ih =>
    rw [show E.all (x :: l) = E.f x ++ E.all l by simp [Enc.all]]
    cases j with
    | zero => rw [Nat.zero_mul, Nat.zero_add, List.getElem?_append_left (by rw [E.len]; exact hi)]; rfl
    | succ j =>
      rw [List.getElem?_append_right (by rw [E.len, Nat.add_mul]; omega), E.len, show (j + 1) * E.k + i - E.k = j * E.k + i by rw [Nat.add_mul]; omega, ih j (by simpa using hj)]
      rfl

/-- The slice at p holds L from its block's head on; nil holds none. -/
def Rw (T : TypeId) (w : World) (p : Option Addr) (cap : Nat) (L : List α) : Prop := w.ownsRow 0 T E.k (.slice p L.length cap) L.length (E.all L)
/-- L is read at ao. -/
def Rd (w : World) (ao : Option Addr) (L : List α) : Prop :=
  ∀ j (h : j < L.length), ∃ bs off, ao = some ⟨bs, off, none⟩ ∧ bs < w.heap.size ∧ ∀ i u, (E.f L[j])[i]? = some u → w.cell? ⟨bs, off + j * E.k + i, none⟩ = some u

variable {E}
theorem Rd.old {w w' : World} {ao : Option Addr} {L : List α} (h : Rd E w ao L) (hb : Below w.heap.size w w') : Rd E w' ao L := by
  intro j hj
  obtain ⟨bs, off, e, hlt, hc⟩ := h j hj
  exact ⟨bs, off, e, Nat.lt_of_lt_of_le hlt hb.size, fun i u hu => (World.cell?_of_block (hb.block bs hlt)).trans (hc i u hu)⟩
theorem Rd.nil (w : World) (ao : Option Addr) : Rd E w ao [] := fun j hj => by simp at hj
theorem Rd.take {w : World} {ao : Option Addr} {L : List α} (h : Rd E w ao L) (n : Nat) : Rd E w ao (L.take n) := by
  intro j hj
  have hj2 : j < L.length := by rw [List.length_take] at hj; omega
  obtain ⟨bs, off, e, hlt, c1⟩ := h j hj2
  refine ⟨bs, off, e, hlt, ?_⟩
  rw [List.getElem_take]; exact c1
theorem Rw.shape {T : TypeId} {w : World} {p : Option Addr} {cap : Nat} {L : List α} (h : Rw E T w p cap L) :
    (p = none ∧ L = [] ∧ cap = 0) ∨ ∃ g, p = some ⟨g, 0, none⟩ ∧ g < w.heap.size ∧ L.length ≤ cap ∧ cap ≤ maxLen ∧ ∃ cur : Array Value, w.heap[g]? = some (.cells cur T (0, 0)) ∧ cur.size = cap * E.k ∧ cur.toList.take (L.length * E.k) = E.all L := by
  rcases h.2 with ⟨e, h0⟩ | ⟨g, cap', cur, e, _, hh, h1, h2, h3, h4⟩
  · simp only [Value.slice.injEq] at e
    exact .inl ⟨e.1, List.eq_nil_of_length_eq_zero h0, e.2.2⟩
  · simp only [Value.slice.injEq] at e
    obtain ⟨rfl, _, rfl⟩ := e
    exact .inr ⟨g, rfl, (Array.getElem?_eq_some_iff.1 hh).1, h1, h2, cur, hh, h3, h4⟩
theorem Rw.of_row {T : TypeId} {w : World} {g cap : Nat} {L : List α} {cur : Array Value} (hh : w.heap[g]? = some (.cells cur T (0, 0))) (h1 : L.length ≤ cap) (h2 : cap ≤ maxLen) (h3 : cur.size = cap * E.k) (h4 : cur.toList.take (L.length * E.k) = E.all L) :
    Rw E T w (some ⟨g, 0, none⟩) cap L := ⟨by rw [E.all_len], .inr ⟨g, cap, cur, rfl, Nat.zero_le _, hh, h1, h2, h3, h4⟩⟩
theorem Rw.empty (T : TypeId) (w : World) : Rw E T w none 0 ([] : List α) := World.ownsRow_nil _ _ _ _
theorem Rw.cap_le {T : TypeId} {w : World} {p : Option Addr} {cap : Nat} {L : List α} (h : Rw E T w p cap L) : L.length ≤ cap := by
  rcases h.shape with ⟨_, rfl, _⟩ | ⟨g, _, _, hc, _⟩
  · exact Nat.zero_le _
  · exact hc
theorem Rw.made (T : TypeId) (w : World) (L : List α) (hl : L.length ≤ maxLen) : Rw E T (w.alloc (.cells (E.all L).toArray T)) (some ⟨w.heap.size, 0, none⟩) L.length L :=
  Rw.of_row (heap_alloc_new _ _) (Nat.le_refl _) hl (by rw [List.size_toArray, E.all_len]) (by rw [List.take_of_length_le (by simp [E.all_len])])
theorem Rw.lt {T : TypeId} {w : World} {a : Addr} {cap : Nat} {L : List α} (h : Rw E T w (some a) cap L) : a.block < w.heap.size := by
  rcases h.shape with ⟨e, _⟩ | ⟨g, e, hl, _⟩
  · cases e
  · cases e; exact hl
theorem Rw.kept {T : TypeId} {w w' : World} {p : Option Addr} {cap : Nat} {L : List α} {S : Nat → Prop} (h : Rw E T w p cap L) (hm : Mod S w w') (hp : ∀ a, p = some a → ¬ S a.block) : Rw E T w' p cap L := by
  rcases h.shape with ⟨rfl, rfl, rfl⟩ | ⟨g, rfl, hl, h1, h2, cur, hh, h3, h4⟩
  · exact Rw.empty _ _
  · exact Rw.of_row ((hm.block g hl (hp _ rfl)).trans hh) h1 h2 h3 h4
theorem Rw.old {T : TypeId} {w w' : World} {p : Option Addr} {cap : Nat} {L : List α} (h : Rw E T w p cap L) (hb : Below w.heap.size w w') : Rw E T w' p cap L :=
  h.kept (Mod.of_below hb) (fun a e hs => by subst e; exact Nat.lt_irrefl _ (Nat.lt_of_lt_of_le h.lt hs))
theorem Rw.rd {T : TypeId} {w : World} {p : Option Addr} {cap : Nat} {L : List α} (h : Rw E T w p cap L) : Rd E w p L := by
  intro j hj
  rcases h.shape with ⟨rfl, rfl, rfl⟩ | ⟨g, rfl, hl, h1, h2, cur, hh, h3, h4⟩
  · simp at hj
  · refine ⟨g, 0, rfl, hl, fun i u hu => ?_⟩
    have hi : i < E.k := by have := (List.getElem?_eq_some_iff.1 hu).1; rwa [E.len] at this
    rw [← E.all_get L j i hj hi, ← h4] at hu
    have hlt : j * E.k + i < L.length * E.k := by
      have := Nat.mul_le_mul_right E.k (show j + 1 ≤ L.length by omega); rw [Nat.add_mul] at this; omega
    rw [List.getElem?_take_of_lt hlt] at hu
    rw [cell_of_row w g _ _ T (0, 0) hh, Nat.zero_add]
    simpa using hu
/-- Behind an append: the slice holds more, in its own block or in a new one. -/
def PushR (E : Enc α) (T : TypeId) (w : World) (p : Option Addr) (B : List α) (q : Option Addr) (cap : Nat) (w' : World) : Prop :=
  Rw E T w' q cap B ∧ Mod (fun i => ∃ a, p = some a ∧ i = a.block) w w' ∧ ∀ a, q = some a → p = some a ∨ w.heap.size ≤ a.block
theorem run_append_no {P : Program} {w : World} (t ty e : TypeId) (i : TypeInfo) (ht : P.underlying t = some (.slice e)) (hi : P.info? e = some i)
    (p : Option Addr) (n cap : Nat) (hle : n ≤ cap) (hn : p = none → n = 0 ∧ cap = 0) (q : Option Addr) (c : Nat) :
    (Builtin.append_ #[t, t] ty #[.slice p n cap, .slice q 0 c]).run P w = .ok (.slice p n cap) w := by
  cases p with
  | some a => cases q <;> simp [Builtin.append_, run_underlying ht, sizeOf, typeInfo, hi, Builtin.lenOf, Builtin.firstCells, hle, storeCells, loadCells, loadCellsFrom]
  | none =>
    obtain ⟨rfl, rfl⟩ := hn rfl
    cases q <;> simp [Builtin.append_, run_underlying ht, sizeOf, typeInfo, hi, Builtin.lenOf, Builtin.firstCells, loadCells, loadCellsFrom]
theorem wpList_pushR {P : Program} {ops : Array Oper} {rest : List Oper} {o : Oper} {a : Act} {Q : Exit → Act → World → Prop} {w : World} (E : Enc α) (hgd : o.guard = none) (s x : Operand) (Ts T : TypeId) (z : Value) (by_ : Nat)
    (ho : o.op = .call { callee := .builtin .append, args := #[s, x], argTypes := #[Ts, Ts] }) (hT : P.underlying Ts = some (.slice T)) (hi : (P.info? T).map (fun i => (i.zero, i.size, i.bytes)) = some (some z, E.k, by_)) (hzs : z.cells.size = E.k) (hby : by_ ≤ 1024)
    (p : Option Addr) (cap n : Nat) (L : List α) (hn : L.length = n) (hs : a.eval s = .slice p n cap) (hS : Rw E T w p cap L) (ao : Option Addr) (m cx : Nat) (Y : List α) (hm : Y.length = m) (hx : a.eval x = .slice ao m cx) (hY : Rd E w ao Y) (hl : n + m ≤ 100000000000)
    (h : ∀ q c w', PushR E T w p (L ++ Y) q c w' → wpList P ops Q rest (a.put o.dst (.slice q (n + m) c)) w') :
    wpList P ops Q (o :: rest) a w := by
  cases hq : P.info? T with
  | none => rw [hq] at hi; cases hi
  | some i =>
    rw [hq] at hi
    simp only [Option.map_some, Option.some.injEq, Prod.mk.injEq] at hi
    obtain ⟨hz, h1, h2⟩ := hi
    subst hn
    subst hm
    have hmul : (L.length + Y.length) * by_ ≤ 140737488355328 := Nat.le_trans (Nat.mul_le_mul hl hby) (by decide)
    by_cases h0 : 0 < Y.length
    · obtain ⟨bs, off, rfl, hbs, _⟩ := hY 0 h0
      refine wpList_append_lies _ hgd s x Ts ho 0 T i z E.k by_ hT hq hz h1 h2 hzs E.pos _ L.length (E.all L) hs hS ⟨bs, off, none⟩ Y.length cx (E.all Y) hx (E.all_len Y) ?_ (E.all_one _) h0 (by unfold maxLen; omega) hmul (Nat.zero_le _) _ rfl ?_
      · intro j u hj
        have hjl : j < Y.length * E.k := by
          have := (List.getElem?_eq_some_iff.1 hj).1
          rwa [E.all_len] at this
        have hd : j / E.k < Y.length := by rw [Nat.div_lt_iff_lt_mul E.pos]; exact hjl
        have hr : j % E.k < E.k := Nat.mod_lt _ E.pos
        have he : j / E.k * E.k + j % E.k = j := by rw [Nat.mul_comm]; exact Nat.div_add_mod j E.k
        obtain ⟨bs', off', e, _, c1⟩ := hY (j / E.k) hd
        cases e
        have hadd : (⟨bs, off, none⟩ : Addr).add j = ⟨bs, off + j, none⟩ := by unfold Addr.add; split <;> simp_all
        rw [← he, E.all_get Y _ _ hd hr] at hj
        have := c1 _ _ hj
        rw [Nat.add_assoc, he] at this
        rw [hadd, this]
      · intro g c w' hown hgrow hat _
        refine h (some ⟨g, 0, none⟩) c w' ⟨?_, ?_, ?_⟩
        · unfold Rw; rw [List.length_append, E.all_app]; exact hown
        · refine (Mod.refl _ w).grown hgrow ?_
          intro j hj _
          cases p with
          | none => simp [Value.ownBlock] at hj
          | some a => simp [Value.ownBlock] at hj; exact ⟨a, rfl, hj.symm⟩
        · rintro a' e; cases e
          rcases hat with hat | hat
          · left
            rcases hS.shape with ⟨rfl, _⟩ | ⟨g', rfl, _⟩
            · simp [Value.ownBlock] at hat
            · simp [Value.ownBlock] at hat; subst hat; rfl
          · right; rw [hat]; exact Nat.le_refl _
    · obtain rfl : Y = [] := List.eq_nil_of_length_eq_zero (by omega)
      refine wpList_plain hgd fun K hK => ?_
      have hfin := h p cap w ⟨by rw [List.append_nil]; exact hS, Mod.refl _ w, fun a e => .inl e⟩
      have hle : L.length ≤ cap := hS.cap_le
      have hno : p = none → L.length = 0 ∧ cap = 0 := by
        intro e
        rcases hS.shape with ⟨_, rfl, hc⟩ | ⟨g', e', _⟩
        · exact ⟨rfl, hc⟩
        · rw [e] at e'; cases e'
      have hrun := run_append_no (P := P) (w := w) Ts o.type T i hT hq p L.length cap hle hno ao cx
      unfold Oper.wp
      simp only [List.length_nil] at hx
      simp [execOp, ho, resolve, invoke, builtin, hs, hx, hrun, Result.andThen]
      simp at hfin
      exact hK _ _ hfin
/-- Elements are gathered in a row of its own. -/
structure AccR (E : Enc α) (T : TypeId) (w : World) (i : Nat) (D : List α) (q : Option Addr) (c : Nat) (wr : World) : Prop where
  s : Rw E T wr q c D
  len : D.length = i
  new : ∀ a, q = some a → w.heap.size ≤ a.block
  m : Below w.heap.size w wr
theorem AccR.zero (E : Enc α) (T : TypeId) (w : World) : AccR E T w 0 [] none 0 w := ⟨Rw.empty _ _, rfl, (fun a e => by cases e), Below.refl _ _⟩
theorem AccR.push {T : TypeId} {w : World} {i : Nat} {D : List α} {q : Option Addr} {c : Nat} {wr w' : World} (h : AccR E T w i D q c wr) {Y : List α} {q' : Option Addr} {c' : Nat} (hP : PushR E T wr q (D ++ Y) q' c' w') : AccR E T w (i + Y.length) (D ++ Y) q' c' w' := by
  obtain ⟨hS, hm, hor⟩ := hP
  refine ⟨hS, by rw [List.length_append, h.len], ?_, h.m.trans (hm.to_below h.m.size (by rintro j hj ⟨a, e, rfl⟩; have := h.new a e; omega))⟩
  intro a e
  rcases hor a e with h1 | h1
  · exact h.new _ h1
  · exact Nat.le_trans h.m.size h1
theorem AccR.below {T : TypeId} {w : World} {i : Nat} {D : List α} {q : Option Addr} {c : Nat} {wr w' : World} (h : AccR E T w i D q c wr) (hb : Below wr.heap.size wr w') : AccR E T w i D q c w' :=
  ⟨h.s.old hb, h.len, h.new, h.m.trans (hb.mono h.m.size)⟩
theorem AccR.take {T : TypeId} {w : World} {i : Nat} {D : List α} {q : Option Addr} {c : Nat} {wr : World} (h : AccR E T w i D q c wr) : Rd E wr q D := h.s.rd
end
/-- Elements that were just laid. -/
theorem Rd.made {α : Type} (E : Enc α) (w : World) (T : TypeId) (L : List α) (hl : L.length ≤ maxLen) : Rd E (w.alloc (.cells (E.all L).toArray T)) (some ⟨w.heap.size, 0, none⟩) L := (Rw.made (E := E) T w L hl).rd

/-- Texts. -/
def encS : Enc (List UInt8) := ⟨fun s => [.string ⟨s.toArray⟩], 1, fun _ => rfl, fun _ v hv => by rw [List.mem_singleton.1 hv]; rfl, Nat.one_pos⟩
/-- Ints. -/
def encI : Enc Int := ⟨fun x => [.int .i64 x], 1, fun _ => rfl, fun _ v hv => by rw [List.mem_singleton.1 hv]; rfl, Nat.one_pos⟩
theorem encS_all (ss : List (List UInt8)) : encS.all ss = ss.map fun s => Value.string ⟨s.toArray⟩ := by
  induction ss with
  | nil => rfl
  | cons a l ih => rw [show encS.all (a :: l) = encS.f a ++ encS.all l from rfl, ih]; rfl
theorem Rd.str {w : World} {ao : Option Addr} {L : List (List UInt8)} (h : Rd encS w ao L) (j : Nat) (hj : j < L.length) : ∃ bs off, ao = some ⟨bs, off, none⟩ ∧ bs < w.heap.size ∧ w.cell? ⟨bs, off + j, none⟩ = some (.string ⟨(L[j]).toArray⟩) := by
  obtain ⟨bs, off, e, hlt, hc⟩ := h j hj
  exact ⟨bs, off, e, hlt, by have := hc 0 _ rfl; simpa [encS] using this⟩
end Go.Proofs.Ytambljnmaibdmaa

namespace Go.Proofs.Ytambljnmaibdmaa
open Go.RowKit

/-- Out at b, made at world W0's end, holds bs; nothing below it has turned since. -/
def OutSt (W0 : World) (b : Nat) (bs : List UInt8) (w : World) : Prop :=
  ∃ v, OutAt 75 5 w b v bs ∧ (∀ j, v.ownBlock = some j → b < j) ∧ Below b W0 w
theorem OutSt.made (W0 : World) : OutSt W0 W0.heap.size [] (W0.alloc (.cells #[.slice none 0 0] 75)) :=
  ⟨.slice none 0 0, OutAt.fresh W0, (fun j h => by simp [Value.ownBlock] at h), (Below.refl _ _).alloc (Nat.le_refl _) _⟩
theorem OutSt.lt {W0 w : World} {b : Nat} {bs : List UInt8} (h : OutSt W0 b bs w) : b < w.heap.size := by obtain ⟨v, h1, _, _⟩ := h; exact h1.lt
theorem OutSt.below {W0 w : World} {b : Nat} {bs : List UInt8} (h : OutSt W0 b bs w) : Below b W0 w := by obtain ⟨v, _, _, h3⟩ := h; exact h3
theorem OutAt.ownlt {T E : TypeId} {w : World} {b : Nat} {v : Value} {bs : List UInt8} (h : OutAt T E w b v bs) (k : Nat) (hk : v.ownBlock = some k) : k < w.heap.size := by
  rcases h.own.2 with ⟨rfl, _⟩ | ⟨g, cap, cur, rfl, _, hh, _⟩
  · simp [Value.ownBlock] at hk
  · simp [Value.ownBlock] at hk; subst hk; exact (Array.getElem?_eq_some_iff.1 hh).1
theorem OutSt.old {W0 w w' : World} {b : Nat} {bs : List UInt8} (h : OutSt W0 b bs w) (hb : Below w.heap.size w w') : OutSt W0 b bs w' := by
  obtain ⟨v, h1, h2, h3⟩ := h
  exact ⟨v, h1.kept (Mod.of_below hb) (by have := h1.lt; omega) (fun k hk => by have := h1.ownlt k hk; omega), h2, h3.trans (hb.mono (Nat.le_of_lt h1.lt))⟩
theorem OutSt.of_post {W0 w w' : World} {b : Nat} {v : Value} {bs bs' : List UInt8} {r : Ending} (hO : OutAt 75 5 w b v bs) (hv : ∀ j, v.ownBlock = some j → b < j) (hB : Below b W0 w) (h : NumPost b v bs' w r w') :
    r = .returned (.pointer (some ⟨b, 0, none⟩)) ∧ OutSt W0 b bs' w' := by
  obtain ⟨hr, v', hO', hM, hown⟩ := h
  refine ⟨hr, v', hO', ?_, hB.trans (hM.to_below (Nat.le_of_lt hO.lt) ?_)⟩
  · intro j hj
    rcases hown with h | h
    · exact hv j (h ▸ hj)
    · exact Nat.lt_of_lt_of_le hO.lt (h j hj)
  · rintro k hk (h | h)
    · omega
    · have := hv k h; omega
theorem out_num (W0 : World) (b : Nat) (bs : List UInt8) (x : Int) (w : World) (h : OutSt W0 b bs w) (hl : bs.length ≤ 1099511627776) (h0 : -9223372036854775808 ≤ x) (h1 : x ≤ 9223372036854775807) :
    Calls Try.prog 35 #[.pointer (some ⟨b, 0, none⟩), .int .i64 x] w fun r w' => r = .returned (.pointer (some ⟨b, 0, none⟩)) ∧ OutSt W0 b (bs ++ numL x) w' := by
  obtain ⟨v, hO, hv, hB⟩ := h
  exact (num_any x b v bs w h0 h1 hO hl).mono fun _ _ hp => OutSt.of_post hO hv hB hp
theorem out_raw (W0 : World) (b : Nat) (bs s : List UInt8) (w : World) (h : OutSt W0 b bs w) (hl : bs.length + s.length ≤ 1099511627776) :
    Calls Try.prog 47 #[.pointer (some ⟨b, 0, none⟩), .string ⟨s.toArray⟩] w fun r w' => r = .returned (.pointer (some ⟨b, 0, none⟩)) ∧ OutSt W0 b (bs ++ s) w' := by
  obtain ⟨v, hO, hv, hB⟩ := h
  exact (raw_any b v bs s w hO (by omega)).mono fun _ _ hp => OutSt.of_post hO hv hB hp
theorem out_text (W0 : World) (b : Nat) (bs s : List UInt8) (w : World) (h : OutSt W0 b bs w) (hl : bs.length ≤ 549755813888) (hs : s.length ≤ 549755813888) :
    Calls Try.prog 37 #[.pointer (some ⟨b, 0, none⟩), .string ⟨s.toArray⟩] w fun r w' => r = .returned (.pointer (some ⟨b, 0, none⟩)) ∧ OutSt W0 b (bs ++ (numL s.length ++ s)) w' := by
  obtain ⟨v, hO, hv, hB⟩ := h
  exact (text_any b v bs s w hO (by omega) hs).mono fun _ _ hp => OutSt.of_post hO hv hB hp
theorem out_bytes (W0 : World) (b : Nat) (bs : List UInt8) (w : World) (h : OutSt W0 b bs w) :
    Calls Try.prog 38 #[.pointer (some ⟨b, 0, none⟩)] w fun r w' => r = .returned (.string ⟨bs.toArray⟩) ∧ w = w' := by
  obtain ⟨v, hO, hv, hB⟩ := h
  exact bytes_any b v bs w hO
/-- In at b; nothing below n has turned since world W0. -/
def InSt (W0 : World) (n b : Nat) (s : List UInt8) (e : Int) (w : World) : Prop := n ≤ b ∧ InAt 65 w b s e ∧ Below n W0 w
theorem InSt.size {W0 w : World} {n b : Nat} {s : List UInt8} {e : Int} (h : InSt W0 n b s e w) (hn : n ≤ W0.heap.size) : n ≤ w.heap.size := Nat.le_trans hn h.2.2.size
end Go.Proofs.Ytambljnmaibdmaa

namespace Go.Proofs.Ytambljnmaibdmaa
open Go.RowKit

/-- Block g is a name. -/
def IdAt (w : World) (g : Nat) (s : List UInt8) : Prop := s.length = 32 ∧ w.heap[g]? = some (.cells (vals s).toArray 97 (0, 0))
theorem IdAt.lt {w : World} {g : Nat} {s : List UInt8} (h : IdAt w g s) : g < w.heap.size := (Array.getElem?_eq_some_iff.1 h.2).1
theorem IdAt.old {w w' : World} {g : Nat} {s : List UInt8} (h : IdAt w g s) (hb : Below w.heap.size w w') : IdAt w' g s := ⟨h.1, (hb.block g h.lt).trans h.2⟩
theorem vals_one (s : List UInt8) : ∀ v ∈ vals s, v.oneCell' = true := by
  intro v hv; obtain ⟨x, _, rfl⟩ := List.mem_map.1 hv; rfl
theorem vals_get (s : List UInt8) (i : Nat) (h : i < s.length) : (vals s)[i]? = some (.int .u8 (s[i].toNat : Int)) := by simp [vals, h]
theorem IdAt.cell {w : World} {g : Nat} {s : List UInt8} (h : IdAt w g s) (i : Nat) (hi : i < s.length) : w.cell? ⟨g, i, none⟩ = some (.int .u8 (s[i].toNat : Int)) := by
  rw [cell_of_row w g i _ 97 (0, 0) h.2]; simpa using vals_get s i hi
/-- A name's bytes as a text. -/
theorem IdAt.text {w : World} {g : Nat} {s : List UInt8} (h : IdAt w g s) : (convert 73 9 (.slice (some ⟨g, 0, none⟩) 32 32)).run Try.prog w = .ok (.string ⟨s.toArray⟩) w := by
  have hl := h.1
  rw [run_convert_bytes_arg w 73 5 Try.underlying73 Try.underlying5 g 0 32 32 (s.map fun x => (x.toNat : Int)) (by simpa using hl) (fun i hi => by
    rw [Nat.zero_add, h.cell i (by omega)]
    simp [List.getD, hl, hi]) 9 Try.underlying9]
  simp [strOfNums, Function.comp_def]
/-- Nought's name. -/
def zid : List UInt8 := List.replicate 32 0
theorem zid_run (w : World) : (zeroValue 97).run Try.prog w = .ok (.agg (vals zid).toArray) w := by kernel_rfl
theorem zid_len : (vals zid).toArray.size = 32 := rfl
theorem id_size {s : List UInt8} (h : s.length = 32) : (vals s).toArray.size = 32 := by simp [vals_len, h]
theorem id_info {s : List UInt8} (h : s.length = 32) : (Try.prog.info? 97).map (·.size) = some (vals s).toArray.size := by rw [id_size h]; kernel_rfl
theorem id_one (s : List UInt8) : ∀ v ∈ (vals s).toArray.toList, v.oneCell' = true := by simpa using vals_one s
/-- A new variable that a name is stored into. -/
theorem IdAt.stored {w : World} {s : List UInt8} {A : Array Value} (h : s.length = 32) : IdAt ((w.alloc (.cells A 97 (0, 0))).setRow w.heap.size (vals s).toArray) w.heap.size s :=
  ⟨h, setRow_heap _ _ _ _ _ _ (heap_alloc_new _ _)⟩
theorem stored_below {w : World} {A C : Array Value} {T : TypeId} : Below w.heap.size w ((w.alloc (.cells A T (0, 0))).setRow w.heap.size C) :=
  ((((Mod.refl (fun _ => False) w).alloc (.cells A T (0, 0))).setRow (g := w.heap.size) C).drop_new (Nat.le_refl _)).to_below (Nat.le_refl _) (fun _ _ h => h)
/-- Two names are held against each other. -/
theorem id_eql (x y : List UInt8) (hx : x.length = 32) (hy : y.length = 32) (w : World) : (binOp .eql 97 (.agg (vals x).toArray) (.agg (vals y).toArray)).run Try.prog w = .ok (.bool (x == y)) w :=
  run_eql_bytes w 97 5 32 Try.underlying97 Try.underlying5 Try.sizeOf5 x y hx hy

end Go.Proofs.Ytambljnmaibdmaa

namespace Go.Proofs.Ytambljnmaibdmaa
open Go.RowKit

/-- The name that begins with s. -/
def idL (s : List UInt8) : List UInt8 := (s ++ zid).take 32
theorem idL_len (s : List UInt8) : (idL s).length = 32 := by simp [idL, zid]
theorem idL_self (s : List UInt8) (h : s.length = 32) : idL s = s := by unfold idL; rw [← h, List.take_left]
theorem idL_cut (s : List UInt8) : s.take 32 ++ zid.drop (min s.length 32) = idL s := by
  unfold idL zid
  rw [List.take_append, List.take_replicate, List.drop_replicate]
  congr 1
  congr 1
  omega
theorem wpList_copyS {P : Program} {w : World} {ops : Array Oper} {rest : List Oper} {o : Oper} {a : Act} {Q : Exit → Act → World → Prop} (hgd : o.guard = none) (d s : Operand) (t t' : TypeId)
    (ho : o.op = .call { callee := .builtin .copy, args := #[d, s], argTypes := #[t, t'] }) (v u : Value) (hd : a.eval d = v) (hs : a.eval s = u) {v' : Value} {w' : World}
    (hr : (Builtin.copy_ #[t, t'] o.type #[v, u]).run P w = .ok v' w') (h : wpList P ops Q rest (a.put o.dst v') w') : wpList P ops Q (o :: rest) a w := by
  refine wpList_plain hgd fun K hK => ?_
  unfold Oper.wp
  simp [execOp, ho, resolve, invoke, builtin, hd, hs, hr, Result.andThen]
  exact hK _ _ h
set_option maxRecDepth 20000 in
/-- A text is copied into a name. -/
theorem run_copy_text (s : List UInt8) (g : Nat) (ty : TypeId) (w : World) (h : IdAt w g zid) :
    (Builtin.copy_ #[73, 9] ty #[.slice (some ⟨g, 0, none⟩) 32 32, .string ⟨s.toArray⟩]).run Try.prog w = .ok (goInt ((min s.length 32 : Nat) : Int)) (w.setRow g (vals (idL s)).toArray) := by
  have hst := run_storeCells_at Try.prog g 0 97 (vals (s.take 32)) 0 (vals zid).toArray w h.2 (by simp [vals_len, zid]; omega) (vals_one _)
  have hsz : (sizeOf 5).run Try.prog w = .ok 1 w := Try.sizeOf5 w
  have hl : (ByteArray.mk s.toArray).size = s.length := rfl
  have hf : (Builtin.firstCells 1 (min s.length 32) (.string ⟨s.toArray⟩)).run Try.prog w = .ok (vals (s.take 32)).toArray w := by
    unfold Builtin.firstCells
    rw [Sem.run_pure, ByteArray.extract_mk]
    congr 1
    apply Array.ext'
    simp [vals, List.take_take]
    omega
  have he : ((vals zid).toArray.toList.take (0 + 0) ++ vals (s.take 32) ++ (vals zid).toArray.toList.drop (0 + 0 + (vals (s.take 32)).length)).toArray = (vals (idL s)).toArray := by
    rw [← idL_cut s, vals_app]
    congr 1
    simp [vals_len, vals, List.map_drop]
    omega
  rw [he] at hst
  unfold Builtin.copy_
  obtain ⟨n, hn⟩ : ∃ n, n = min s.length 32 := ⟨_, rfl⟩
  have hmin : Nat.min s.length 32 = n := hn.symm
  rw [← hn] at hf ⊢
  clear hn he
  simp [run_underlying Try.underlying73, Builtin.lenOf, hl, hsz, hmin, hf, hst]

set_option maxRecDepth 20000 in
set_option maxHeartbeats 1000000 in
theorem name_any (s : List UInt8) (w : World) :
    Calls Try.prog 51 #[.string ⟨s.toArray⟩] w fun r w' => r = .returned (.agg (vals (idL s)).toArray) ∧ Below w.heap.size w w' := by
  have hz := zid_run
  have hzs := zid_len
  have hidl := idL_len s
  have q2 : (vals zid).toArray.size = (vals (idL s)).toArray.size := hzs.trans (id_size hidl).symm
  have q3 := id_info hidl
  have q4 := id_one (idL s)
  have hA : IdAt ((w.alloc (.cells (vals zid).toArray 97)).alloc (.cells (vals zid).toArray 97)) (w.heap.size + 1) zid := ⟨rfl, by have := heap_alloc_new (w.alloc (.cells (vals zid).toArray 97)) (.cells (vals zid).toArray 97); simpa using this⟩
  have hcp := fun ty => run_copy_text s (w.heap.size + 1) ty _ hA
  obtain ⟨Y, hY⟩ : ∃ Y, Y = (vals (idL s)).toArray := ⟨_, rfl⟩
  rw [← hY] at q2 q3 q4 hcp ⊢
  have hYs : Y.size = 32 := by rw [hY]; exact id_size hidl
  clear hY hidl
  generalize (vals zid).toArray = Z at hz hzs q2 hA hcp
  have hb0 : Below w.heap.size w ((w.alloc (.cells Z 97)).alloc (.cells Z 97)) := ((Below.refl _ w).alloc (Nat.le_refl _) _).alloc (by simp) _
  have h0 : ((w.alloc (.cells Z 97)).alloc (.cells Z 97)).heap[w.heap.size]? = some (.cells Z 97 (0, 0)) := by
    rw [Below.heap_alloc _ _ _ (by simp)]; exact heap_alloc_new w _
  have h1 : ((w.alloc (.cells Z 97)).alloc (.cells Z 97)).heap[w.heap.size + 1]? = some (.cells Z 97 (0, 0)) := by
    have := heap_alloc_new (w.alloc (.cells Z 97)) (.cells Z 97); simpa using this
  obtain ⟨W, hW⟩ : ∃ W, W = (w.alloc (.cells Z 97)).alloc (.cells Z 97) := ⟨_, rfl⟩
  rw [← hW] at hb0 h0 h1 hcp
  have k0 : (W.setRow (w.heap.size + 1) Y).heap[w.heap.size]? = some (.cells Z 97 (0, 0)) := (setRow_other W _ _ Y (by omega)).trans h0
  have k1 : (W.setRow (w.heap.size + 1) Y).heap[w.heap.size + 1]? = some (.cells Y 97 (0, 0)) := setRow_heap W _ _ Y _ _ h1
  have kb : Below w.heap.size w (W.setRow (w.heap.size + 1) Y) := hb0.trans (((Mod.refl (fun _ => False) W).setRow Y).to_below (by have := hb0.size; exact this) (by rintro k hk (h | h) <;> first | exact h | omega))
  obtain ⟨W2, hW2⟩ : ∃ W2, W2 = W.setRow (w.heap.size + 1) Y := ⟨_, rfl⟩
  rw [← hW2] at k0 k1 kb hcp
  have l0 : (W2.setRow w.heap.size Y).heap[w.heap.size]? = some (.cells Y 97 (0, 0)) := setRow_heap W2 _ _ Y _ _ k0
  have lb : Below w.heap.size w (W2.setRow w.heap.size Y) := kb.trans (((Mod.refl (fun _ => False) W2).setRow Y).to_below (by have := kb.size; exact this) (by rintro k hk (h | h) <;> first | exact h | omega))
  have L0 := Lib.hid l0
  have LB := Lib.hid lb
  have HS := Lib.hid hYs
  clear hW2 l0 lb kb hb0 h0 h1 hA hzs hYs
  go_enter Try.func51, Try.ntmps51
  go_wp2_with (first | (refine wpList_copyS rfl (.tmp 4) (.tmp 5) 73 9 rfl _ _ rfl rfl (by rw [← hW]; exact hcp _) ?_; clear hcp hW) | (refine wpList_load_row rfl 97 (.tmp 3) rfl (w.heap.size + 1) rfl 97 Y (0, 0) _ k1 Try.underlying97 rfl q3 ?_) | (refine wpList_store_row rfl rfl 97 (.tmp 2) (.tmp 7) rfl w.heap.size rfl 97 Z Y rfl k0 q2 q3 q4 ?_))
  exact bodyPost_ret (v := .agg Y) (results_cell_row Try.results51 _ _ w.heap.size 97 Y (0, 0) _ rfl L0.out Try.underlying97 rfl q3) rfl ⟨rfl, LB.out⟩

end Go.Proofs.Ytambljnmaibdmaa

namespace Go.Proofs.Ytambljnmaibdmaa
open Go

/-- How many of the first n are not listed yet. -/
def unl (L : Array Bool) : Nat → Nat
  | 0 => 0
  | n + 1 => unl L n + (if L.getD n true then 0 else 1)
theorem unl_le (L : Array Bool) : ∀ n, unl L n ≤ n
  | 0 => Nat.le_refl _
  | n + 1 => by have := unl_le L n; simp only [unl]; split <;> omega
theorem set_self (L : Array Bool) (i : Nat) : (L.setIfInBounds i true).getD i true = true := by
  by_cases h : i < L.size
  · simp [h]
  · simp [h]
theorem unl_set (L : Array Bool) (i : Nat) (hi : L.getD i true = false) : ∀ n, unl (L.setIfInBounds i true) n + (if i < n then 1 else 0) = unl L n
  | 0 => rfl
  | n + 1 => by
    have ih := unl_set L i hi n
    simp only [unl]
    by_cases h : n = i
    · subst h
      rw [set_self, hi]
      simp at ih ⊢
      exact ih
    · rw [getD_set_ne true (Ne.symm h)]
      generalize (if L.getD n true = true then 0 else 1) = z
      by_cases h2 : i < n
      · rw [if_pos h2] at ih; rw [if_pos (by omega)]; omega
      · rw [if_neg h2] at ih; rw [if_neg (by omega)]; omega
theorem unl_pos (L : Array Bool) : ∀ n i, i < n → L.getD i true = false → 0 < unl L n
  | n + 1, i, h, hi => by
    simp only [unl]
    by_cases e : i = n
    · subst e; rw [hi]; simp
    · have := unl_pos L n i (by omega) hi; omega

/-- What is in the slots that the operations know: those of the list. -/
def AllV (V : Tmp → Value → World → Prop) (a : Act) (w : World) : List Tmp → Prop
  | [] => True
  | t :: r => V t (a.eval (.tmp t)) w ∧ AllV V a w r
theorem AllV.of {V : Tmp → Value → World → Prop} {a : Act} {w : World} : ∀ {l : List Tmp}, (∀ t ∈ l, V t (a.eval (.tmp t)) w) → AllV V a w l
  | [], _ => trivial
  | t :: r, h => ⟨h t (by simp), AllV.of (fun u hu => h u (by simp [hu]))⟩

/-- The slots whose values an operation waits for. -/
def waits (md : Region.Mode) (ops : Array Oper) (o : Oper) : List Tmp :=
  (o.after.toList.filter (Region.binds md)).filterMap fun e => (ops[e.on]?).bind (·.dst)

structure Agree (ops : Array Oper) (a0 a : Act) : Prop where
  size : a.tmps.size = a0.tmps.size
  defers : a.defers = a0.defers
  same : ∀ t, (∀ (i : Nat) (o : Oper), ops[i]? = some o → o.dst ≠ some t) → a.eval (.tmp t) = a0.eval (.tmp t)

def drawOk (ops : Array Oper) (N : Nat) : Bool :=
  (List.range ops.size).all fun i => match ops[i]? with
    | none => true
    | some o => o.after.all (fun e => decide (e.on < i)) && (match o.dst with
      | none => true
      | some d => decide (d < N) && (List.range ops.size).all fun j => j == i || (match ops[j]? with | some p => p.dst != some d | none => true))

structure DrawOk (ops : Array Oper) (N : Nat) : Prop where
  before : ∀ (i : Nat) (o : Oper), ops[i]? = some o → ∀ e ∈ o.after, e.on < i
  room : ∀ (i : Nat) (o : Oper) (d : Tmp), ops[i]? = some o → o.dst = some d → d < N
  apart : ∀ (i j : Nat) (o p : Oper) (d : Tmp), ops[i]? = some o → ops[j]? = some p → j ≠ i → o.dst = some d → p.dst ≠ some d
theorem drawOk_spec {ops : Array Oper} {N : Nat} (h : drawOk ops N = true) : DrawOk ops N := by
  have key : ∀ (i : Nat) (o : Oper), ops[i]? = some o → o.after.all (fun e => decide (e.on < i)) = true ∧ (match o.dst with
      | none => true
      | some d => decide (d < N) && (List.range ops.size).all fun j => j == i || (match ops[j]? with | some p => p.dst != some d | none => true)) = true := by
    intro i o ho
    have hlt : i < ops.size := (Array.getElem?_eq_some_iff.1 ho).1
    have := List.all_eq_true.1 h i (List.mem_range.2 hlt)
    simp only [ho, Bool.and_eq_true] at this
    exact this
  refine ⟨fun i o ho e he => ?_, fun i o d ho hd => ?_, fun i j o p d ho hp hj hd hpd => ?_⟩
  · have := Array.all_eq_true_iff_forall_mem.1 (key i o ho).1 e he
    exact of_decide_eq_true this
  · have := (key i o ho).2
    rw [hd] at this
    simp only [Bool.and_eq_true] at this
    exact of_decide_eq_true this.1
  · have := (key i o ho).2
    rw [hd] at this
    simp only [Bool.and_eq_true] at this
    have h2 := List.all_eq_true.1 this.2 j (List.mem_range.2 (Array.getElem?_eq_some_iff.1 hp).1)
    simp only [hp, Bool.or_eq_true, beq_iff_eq, hj, false_or, bne_iff_ne, ne_eq] at h2
    exact h2 hpd

/-- What one operation owes. -/
def Owes (P : Program) (md : Region.Mode) (ops : Array Oper) (Q : Exit → Act → World → Prop) (V : Tmp → Value → World → Prop) (G : World → Prop) (a0 : Act) (i : Nat) (o : Oper) : Prop :=
  ∀ a w, Agree ops a0 a → G w → AllV V a w (waits md ops o) →
    wpOp P ops Q i (fun a' w' => ∃ v, a' = a.put o.dst v ∧ (∀ t, o.dst = some t → V t v w') ∧ G w' ∧ ∀ t x, V t x w → V t x w') a w

theorem eval_put_same {a : Act} {d : Tmp} (h : d < a.tmps.size) (v : Value) : (a.put (some d) v).eval (.tmp d) = v := by
  simp [Act.put, Act.eval, h]
theorem size_put (a : Act) (d : Option Tmp) (v : Value) : (a.put d v).tmps.size = a.tmps.size := by
  cases d <;> simp [Act.put]
theorem defers_put (a : Act) (d : Option Tmp) (v : Value) : (a.put d v).defers = a.defers := by
  cases d <;> rfl

section
variable {P : Program} {ops : Array Oper} {Q : Exit → Act → World → Prop} {md : Region.Mode} {V : Tmp → Value → World → Prop} {G : World → Prop} {a0 : Act}

theorem ready_some (hok : DrawOk ops a0.tmps.size) {L : Array Bool} (hL : L.size = ops.size) : ∀ i, i < ops.size → L.getD i true = false → ∃ j, j ∈ Region.ready md ops L := by
  intro i
  induction i using Nat.strongRecOn with
  | ind i ih =>
    intro hi hun
    have ho : ops[i]? = some ops[i] := Array.getElem?_eq_getElem hi
    by_cases h : ∀ e ∈ ops[i].after, Region.binds md e = true → L.getD e.on false = true
    · exact ⟨i, mem_ready.2 ⟨hun, _, ho, h⟩⟩
    · have ⟨e, he⟩ := Classical.not_forall.1 h
      have ⟨he1, he2⟩ := Classical.not_imp.1 he
      have ⟨hb, hf⟩ := Classical.not_imp.1 he2
      have hlt := hok.before i _ ho e he1
      have hel : e.on < L.size := by omega
      refine ih e.on hlt (by omega) ?_
      simp [hel] at hf ⊢
      exact hf

theorem wpAny_vals (hok : DrawOk ops a0.tmps.size) (step : ∀ (i : Nat) (o : Oper), ops[i]? = some o → Owes P md ops Q V G a0 i o)
    (fin : ∀ a w, Agree ops a0 a → G w → (∀ (i : Nat) (o : Oper) (t : Tmp), ops[i]? = some o → o.dst = some t → V t (a.eval (.tmp t)) w) → Q .normal a w) :
    ∀ (fuel : Nat) (L : Array Bool) (a : Act) (w : World), unl L ops.size ≤ fuel → L.size = ops.size → Agree ops a0 a → G w →
      (∀ (i : Nat) (o : Oper) (t : Tmp), ops[i]? = some o → L.getD i true = true → o.dst = some t → V t (a.eval (.tmp t)) w) → wpAny P md ops Q fuel L a w := by
  have allL : ∀ L : Array Bool, L.size = ops.size → Region.ready md ops L = [] → ∀ (i : Nat) (o : Oper), ops[i]? = some o → L.getD i true = true := by
    intro L hL hr i o ho
    cases hc : L.getD i true with
    | true => rfl
    | false =>
      obtain ⟨j, hj⟩ := ready_some (md := md) hok hL i (Array.getElem?_eq_some_iff.1 ho).1 hc
      rw [hr] at hj; cases hj
  intro fuel
  induction fuel with
  | zero =>
    intro L a w hu hL ha hG hv
    have hr : Region.ready md ops L = [] := by
      apply List.eq_nil_iff_forall_not_mem.2
      intro j hj
      obtain ⟨hun, o, ho, _⟩ := mem_ready.1 hj
      have := unl_pos L ops.size j (Array.getElem?_eq_some_iff.1 ho).1 hun
      omega
    exact ⟨hr, fin a w ha hG (fun i o t ho ht => hv i o t ho (allL L hL hr i o ho) ht)⟩
  | succ fuel ih =>
    intro L a w hu hL ha hG hv
    refine ⟨fun hr => fin a w ha hG (fun i o t ho ht => hv i o t ho (allL L hL hr i o ho) ht), fun i hi => ?_⟩
    obtain ⟨hun, o, ho, hall⟩ := mem_ready.1 hi
    have hil : i < ops.size := (Array.getElem?_eq_some_iff.1 ho).1
    have hw : AllV V a w (waits md ops o) := AllV.of (by
      intro t ht
      unfold waits at ht
      obtain ⟨e, he, hd⟩ := List.mem_filterMap.1 ht
      obtain ⟨he1, he2⟩ := List.mem_filter.1 he
      cases hj : ops[e.on]? with
      | none => rw [hj] at hd; cases hd
      | some p =>
        rw [hj] at hd
        have hl := hall e (by simpa using he1) he2
        have hel : e.on < L.size := by rw [hL]; exact (Array.getElem?_eq_some_iff.1 hj).1
        exact hv e.on p t hj (by simp [hel] at hl ⊢; exact hl) hd)
    refine wpOp_mono (fun a' w' h => ?_) (step i o ho a w ha hG hw)
    obtain ⟨v, rfl, hvi, hG', hst⟩ := h
    refine ih _ _ _ ?_ (by simpa using hL) ?_ hG' ?_
    · have := unl_set L i hun ops.size
      rw [if_pos hil] at this; omega
    · refine ⟨by rw [size_put]; exact ha.size, by rw [defers_put]; exact ha.defers, fun t ht => ?_⟩
      rw [Act.eval_put (fun d hd e => ht i o ho (by cases e; exact hd))]
      exact ha.same t ht
    · intro j p t hp hl ht
      by_cases e : j = i
      · subst e
        rw [ho] at hp; cases hp
        rw [ht, eval_put_same (by rw [ha.size]; exact hok.room j o t ho ht)]
        exact hvi t ht
      · rw [Act.eval_put (fun d hd e2 => by cases e2; exact hok.apart i j o p t ho hp e hd ht)]
        rw [getD_set_ne true (Ne.symm e)] at hl
        exact hst _ _ (hv j p t hp hl ht)

/-- The obligations one after the other. -/
def OweAll (P : Program) (md : Region.Mode) (ops : Array Oper) (Q : Exit → Act → World → Prop) (V : Tmp → Value → World → Prop) (G : World → Prop) (a0 : Act) : Nat → List Oper → Prop
  | _, [] => True
  | k, o :: r => Owes P md ops Q V G a0 k o ∧ OweAll P md ops Q V G a0 (k + 1) r
theorem OweAll.get : ∀ {l : List Oper} {k : Nat}, OweAll P md ops Q V G a0 k l → ∀ (i : Nat) (o : Oper), l[i]? = some o → Owes P md ops Q V G a0 (k + i) o
  | _ :: _, k, h, 0, o, hi => by cases hi; exact h.1
  | _ :: r, k, h, i + 1, o, hi => by
    have := OweAll.get h.2 i o (by simpa using hi)
    rwa [show k + 1 + i = k + (i + 1) by omega] at this
  | [], _, _, i, o, hi => by simp at hi
theorem OweAll.cons {k : Nat} {o : Oper} {r : List Oper} (h : Owes P md ops Q V G a0 k o) (h2 : OweAll P md ops Q V G a0 (k + 1) r) : OweAll P md ops Q V G a0 k (o :: r) := ⟨h, h2⟩
theorem OweAll.nil {k : Nat} : OweAll P md ops Q V G a0 k [] := trivial

/-- A region that draws its order. -/
theorem wp_region_vals {id : Nat} {w : World} (V : Tmp → Value → World → Prop) (G : World → Prop) (N : Nat) (hm : P.follows .mixedOrders = true) (hok : drawOk ops N = true) (hN : a0.tmps.size = N) (hG : G w.drew)
    (step : OweAll P .any ops Q V G a0 0 ops.toList)
    (fin : ∀ a w, Agree ops a0 a → G w → (∀ (i : Nat) (o : Oper) (t : Tmp), ops[i]? = some o → o.dst = some t → V t (a.eval (.tmp t)) w) → Q .normal a w) : (Code.region id ops true).wp P Q a0 w := by
  subst hN
  have hok := drawOk_spec hok
  refine wp_region_any hm (wpAny_vals hok (V := V) (G := G) (fun i o ho => ?_) fin ops.size _ a0 _ (unl_le _ _) (by simp) ⟨rfl, rfl, fun _ _ => rfl⟩ hG ?_)
  · have := step.get i o (by simpa using ho)
    rwa [Nat.zero_add] at this
  · intro i o t ho hl _
    have hlt := (Array.getElem?_eq_some_iff.1 ho).1
    simp [hlt] at hl

/-- The slots of the operations. -/
def dsts (ops : Array Oper) : List Tmp := ops.toList.filterMap (·.dst)
def puts (f : Tmp → Value) (l : List Tmp) (b : Act) : Act := l.foldl (fun b t => b.put (some t) (f t)) b
theorem puts_spec (f : Tmp → Value) : ∀ (l : List Tmp) (b : Act), (∀ t ∈ l, t < b.tmps.size) →
    (puts f l b).tmps.size = b.tmps.size ∧ (puts f l b).defers = b.defers ∧ ∀ t, (puts f l b).eval (.tmp t) = if t ∈ l then f t else b.eval (.tmp t)
  | [], b, _ => ⟨rfl, rfl, fun t => by simp [puts]⟩
  | u :: r, b, h => by
    have ih := puts_spec f r (b.put (some u) (f u)) (fun t ht => by rw [size_put]; exact h t (by simp [ht]))
    refine ⟨ih.1.trans (size_put _ _ _), ih.2.1.trans (defers_put _ _ _), fun t => ?_⟩
    have e : puts f (u :: r) b = puts f r (b.put (some u) (f u)) := rfl
    rw [e, ih.2.2 t]
    by_cases h1 : t ∈ r
    · rw [if_pos h1, if_pos (by simp [h1])]
    · rw [if_neg h1]
      by_cases h2 : t = u
      · subst h2; rw [eval_put_same (h t (by simp)), if_pos (by simp)]
      · rw [Act.eval_put (fun d hd e2 => by cases hd; cases e2; exact h2 rfl), if_neg (by simp [h1, h2])]
theorem act_ext {a b : Act} (hs : a.tmps.size = b.tmps.size) (hd : a.defers = b.defers) (h : ∀ t, a.eval (.tmp t) = b.eval (.tmp t)) : a = b := by
  obtain ⟨ta, da⟩ := a
  obtain ⟨tb, db⟩ := b
  have : ta = tb := by
    apply Array.ext hs
    intro i h1 h2
    have := h i
    simpa [Act.eval, h1, h2] using this
  subst this
  cases hd
  rfl
theorem Agree.puts {a : Act} (ha : Agree ops a0 a) (hok : DrawOk ops a0.tmps.size) : a = puts (fun t => a.eval (.tmp t)) (dsts ops) a0 := by
  have hm : ∀ t ∈ dsts ops, ∃ (i : Nat) (o : Oper), ops[i]? = some o ∧ o.dst = some t := by
    intro t ht
    obtain ⟨o, ho, hd⟩ := List.mem_filterMap.1 ht
    obtain ⟨i, hi, e⟩ := List.getElem_of_mem ho
    refine ⟨i, o, ?_, hd⟩
    rw [← e]
    simp at hi
    simp [hi]
  have hp := puts_spec (fun t => a.eval (.tmp t)) (dsts ops) a0 (fun t ht => by obtain ⟨i, o, hi, hd⟩ := hm t ht; exact hok.room i o t hi hd)
  refine act_ext (ha.size.trans hp.1.symm) (ha.defers.trans hp.2.1.symm) (fun t => ?_)
  rw [hp.2.2 t]
  by_cases h : t ∈ dsts ops
  · rw [if_pos h]
  · rw [if_neg h]
    refine ha.same t (fun i o hi hd => h ?_)
    exact List.mem_filterMap.2 ⟨o, by simpa using Array.mem_of_getElem? hi, hd⟩

/-- A region that draws its order, what follows it at a known frame. -/
theorem wp_region_puts {id : Nat} {w : World} (V : Tmp → Value → World → Prop) (G : World → Prop) (N : Nat) (hm : P.follows .mixedOrders = true) (hok : drawOk ops N = true) (hN : a0.tmps.size = N) (hG : G w.drew)
    (step : OweAll P .any ops Q V G a0 0 ops.toList)
    (fin : ∀ f w, G w → (∀ (i : Nat) (o : Oper) (t : Tmp), ops[i]? = some o → o.dst = some t → V t (f t) w) → Q .normal (puts f (dsts ops) a0) w) : (Code.region id ops true).wp P Q a0 w :=
  wp_region_vals V G N hm hok hN hG step (fun a w ha hG hv => by
    subst hN
    rw [ha.puts (drawOk_spec hok)]
    exact fin _ w hG hv)

theorem AllV.get {a : Act} {w : World} : ∀ {l : List Tmp}, AllV V a w l → ∀ t, l.contains t = true → V t (a.eval (.tmp t)) w
  | [], _, t, h => by simp at h
  | u :: r, hh, t, h => by
    by_cases e : t = u
    · subst e; exact hh.1
    · exact AllV.get hh.2 t (by simpa [e] using h)
theorem Agree.outer {a : Act} (h : Agree ops a0 a) (t : Tmp) (ht : ops.all (fun o => o.dst != some t) = true) : a.eval (.tmp t) = a0.eval (.tmp t) := by
  refine h.same t (fun i o ho e => ?_)
  have := Array.all_eq_true_iff_forall_mem.1 ht o (Array.mem_of_getElem? ho)
  rw [e] at this; simp at this
theorem getD_bool {a : Act} {t : Tmp} {b : Bool} (h : a.eval (.tmp t) = .bool b) : a.tmps[t]? = some (.bool b) := by
  unfold Act.eval at h
  cases hc : a.tmps[t]? with
  | none => simp [hc, undef] at h
  | some x => simp [hc] at h; rw [h]
theorem wanted_of {o : Oper} {a : Act} {g : Nat} {want : Bool} {t : Tmp} (hg : o.guard = some (g, want)) (hd : (ops[g]?).bind (·.dst) = some t) (h : a.eval (.tmp t) = .bool want) : Region.wanted o (yielded ops a.tmps) = true := by
  unfold Region.wanted yielded
  rw [hg]
  simp only [hd, Option.bind_some, getD_bool h]
  simp
theorem wanted_free {o : Oper} {a : Act} (hg : o.guard = none) : Region.wanted o (yielded ops a.tmps) = true := by
  unfold Region.wanted; rw [hg]

/-- An operation that yields a value and turns nothing. -/
theorem owes_val {i : Nat} {o : Oper} {t : Tmp} (hi : ops[i]? = some o) (ht : o.dst = some t) (h : ∀ a w, Agree ops a0 a → G w → AllV V a w (waits md ops o) →
    ∃ v, Region.wanted o (yielded ops a.tmps) = true ∧ (execOp a.eval o).run P w = .ok (.value v) w ∧ V t v w) : Owes P md ops Q V G a0 i o := by
  intro a w ha hG hV
  obtain ⟨v, hw, hr, hv⟩ := h a w ha hG hV
  unfold wpOp
  rw [hi]
  simp only [hw, if_true, Oper.wp, hr, Oper.upon]
  exact .inl ⟨v, rfl, fun u hu => by rw [ht] at hu; cases hu; exact hv, hG, fun _ _ h => h⟩
/-- A call. -/
theorem owes_call {i : Nat} {o : Oper} {t : Tmp} (hi : ops[i]? = some o) (ht : o.dst = some t) (f : FuncId) (h : ∀ a w, Agree ops a0 a → G w → AllV V a w (waits md ops o) →
    ∃ args, Region.wanted o (yielded ops a.tmps) = true ∧ (execOp a.eval o).run P w = .ok (.enter f args) w ∧
      Calls P f args w fun e w' => ∃ v, e = .returned v ∧ V t v w' ∧ G w' ∧ ∀ t x, V t x w → V t x w') : Owes P md ops Q V G a0 i o := by
  intro a w ha hG hV
  obtain ⟨args, hw, hr, hc⟩ := h a w ha hG hV
  unfold wpOp
  rw [hi]
  simp only [hw, if_true, Oper.wp, hr, Oper.upon]
  refine .inl (hc.mono ?_)
  rintro e w' ⟨v, rfl, h1, h2, h3⟩
  exact ⟨v, rfl, fun u hu => by rw [ht] at hu; cases hu; exact h1, h2, h3⟩
end
end Go.Proofs.Ytambljnmaibdmaa

namespace Go.Proofs.Ytambljnmaibdmaa
open Go.RowKit

/-- What stays where nothing below turns. -/
structure Stays where
  p : Value → World → Prop
  old : ∀ {v : Value} {w w' : World}, p v w → Below w.heap.size w w' → p v w'
inductive Kd where
  | any
  | eq (v : Value)
  | st (s : Stays)
def VK : Kd → Value → World → Prop
  | .any, _, _ => True
  | .eq x, v, _ => v = x
  | .st s, v, w => s.p v w
theorem VK.old {k : Kd} {v : Value} {w w' : World} (h : VK k v w) (hb : Below w.heap.size w w') : VK k v w' := by
  cases k with
  | any => trivial
  | eq x => exact h
  | st s => exact s.old h hb
theorem not_wanted {ops : Array Oper} {o : Oper} {a : Act} {g : Nat} {want : Bool} {t : Tmp} {v : Value} (hg : o.guard = some (g, want)) (hd : (ops[g]?).bind (·.dst) = some t) (h : a.eval (.tmp t) = v) (hv : v ≠ .bool want) : Region.wanted o (yielded ops a.tmps) = false := by
  unfold Region.wanted yielded
  rw [hg]
  simp only [hd, Option.bind_some]
  unfold Act.eval at h
  cases hc : a.tmps[t]? with
  | none => rfl
  | some x =>
    simp [hc] at h
    subst h
    cases x with
    | bool b =>
      simp only [beq_eq_false_iff_ne, ne_eq, Option.some.injEq]
      intro e; exact hv (by rw [e])
    | _ => rfl
section
variable {P : Program} {ops : Array Oper} {Q : Exit → Act → World → Prop} {md : Region.Mode} {K : Tmp → Kd} {W : World} {a0 : Act}
/-- An operation that is not wanted. -/
theorem owesK_not {i : Nat} {o : Oper} {t : Tmp} (hi : ops[i]? = some o) (ht : o.dst = some t)
    (h : ∀ a w, Agree ops a0 a → Below W.heap.size W w → AllV (fun t v w => VK (K t) v w) a w (waits md ops o) → Region.wanted o (yielded ops a.tmps) = false ∧ VK (K t) undef w) : Owes P md ops Q (fun t v w => VK (K t) v w) (fun w => Below W.heap.size W w) a0 i o := by
  intro a w ha hG hV
  obtain ⟨hw, hv⟩ := h a w ha hG hV
  unfold wpOp
  rw [hi]
  simp only [hw]
  exact ⟨undef, rfl, fun u hu => by rw [ht] at hu; cases hu; exact hv, hG, fun _ _ h => h⟩
/-- An operation that yields a value, and may make memory. -/
theorem owesK {i : Nat} {o : Oper} {t : Tmp} (hi : ops[i]? = some o) (ht : o.dst = some t) (h : ∀ a w, Agree ops a0 a → Below W.heap.size W w → AllV (fun t v w => VK (K t) v w) a w (waits md ops o) →
    ∃ v w', Region.wanted o (yielded ops a.tmps) = true ∧ (execOp a.eval o).run P w = .ok (.value v) w' ∧ Below w.heap.size w w' ∧ VK (K t) v w') : Owes P md ops Q (fun t v w => VK (K t) v w) (fun w => Below W.heap.size W w) a0 i o := by
  intro a w ha hG hV
  obtain ⟨v, w', hw, hr, hb, hv⟩ := h a w ha hG hV
  unfold wpOp
  rw [hi]
  simp only [hw, if_true, Oper.wp, hr, Oper.upon]
  exact .inl ⟨v, rfl, fun u hu => by rw [ht] at hu; cases hu; exact hv, hG.trans (hb.mono hG.size), fun _ _ h => VK.old h hb⟩
/-- A call. -/
theorem owesK_call {i : Nat} {o : Oper} {t : Tmp} (hi : ops[i]? = some o) (ht : o.dst = some t) (f : FuncId) (h : ∀ a w, Agree ops a0 a → Below W.heap.size W w → AllV (fun t v w => VK (K t) v w) a w (waits md ops o) →
    ∃ args, Region.wanted o (yielded ops a.tmps) = true ∧ (execOp a.eval o).run P w = .ok (.enter f args) w ∧
      Calls P f args w fun e w' => ∃ v, e = .returned v ∧ VK (K t) v w' ∧ Below w.heap.size w w') : Owes P md ops Q (fun t v w => VK (K t) v w) (fun w => Below W.heap.size W w) a0 i o := by
  intro a w ha hG hV
  obtain ⟨args, hw, hr, hc⟩ := h a w ha hG hV
  unfold wpOp
  rw [hi]
  simp only [hw, if_true, Oper.wp, hr, Oper.upon]
  refine .inl (hc.mono ?_)
  rintro e w' ⟨v, rfl, h1, hb⟩
  exact ⟨v, rfl, fun u hu => by rw [ht] at hu; cases hu; exact h1, hG.trans (hb.mono hG.size), fun _ _ h => VK.old h hb⟩
end
end Go.Proofs.Ytambljnmaibdmaa

namespace Go.Proofs.Ytambljnmaibdmaa
open Go.RowKit

theorem run_loadBytes (w : World) (g : Nat) : ∀ (s : List UInt8) (off : Nat) (acc : ByteArray), (∀ i (hi : i < s.length), w.cell? ⟨g, off + i, none⟩ = some (.int .u8 (s[i].toNat : Int))) →
    (Extern.Bytes.loadBytes ⟨g, off, none⟩ s.length acc).run Try.prog w = .ok (acc ++ ⟨s.toArray⟩) w
  | [], off, acc, _ => by
    simp only [List.length_nil, Extern.Bytes.loadBytes, Sem.run_pure]
    congr 1
    apply ByteArray.ext; simp
  | b :: s, off, acc, h => by
    have h0 := h 0 (by simp)
    simp only [Nat.add_zero, List.getElem_cons_zero] at h0
    have hl : (load ⟨g, off, none⟩).run Try.prog w = .ok (.int .u8 (b.toNat : Int)) w := by simp [go_sem, h0]
    have hadd : (⟨g, off, none⟩ : Addr).add 1 = ⟨g, off + 1, none⟩ := rfl
    have ih := run_loadBytes w g s (off + 1) (acc.push b) (fun i hi => by
      have := h (i + 1) (by simpa using hi)
      rw [show off + 1 + i = off + (i + 1) by omega]
      simpa using this)
    simp only [List.length_cons, Extern.Bytes.loadBytes, Sem.run_bind, hl, Result.andThen_ok, hadd]
    have hb : (b.toNat : Int).toNat.toUInt8 = b := by simp
    rw [hb, ih]
    congr 1
    apply ByteArray.ext; simp
theorem IdAt.compare {w : World} {g h : Nat} {s t : List UInt8} (hs : IdAt w g s) (ht : IdAt w h t) :
    (Extern.BytealgCompare.compare #[.slice (some ⟨g, 0, none⟩) 32 32, .slice (some ⟨h, 0, none⟩) 32 32]).run Try.prog w = .ok (.int .i64 (Lib.compareBytes s t)) w := by
  have h1 := run_loadBytes w g s 0 .empty (fun i hi => by rw [Nat.zero_add]; exact hs.cell i hi)
  have h2 := run_loadBytes w h t 0 .empty (fun i hi => by rw [Nat.zero_add]; exact ht.cell i hi)
  rw [hs.1] at h1
  rw [ht.1] at h2
  have e : Extern.BytealgCompare.compare #[.slice (some ⟨g, 0, none⟩) 32 32, .slice (some ⟨h, 0, none⟩) 32 32] = (do pure (goInt (Extern.BytealgCompare.cmp (← Extern.Bytes.loadBytes ⟨g, 0, none⟩ 32 .empty) (← Extern.Bytes.loadBytes ⟨h, 0, none⟩ 32 .empty)))) := rfl
  rw [e]
  simp only [Sem.run_bind, h1, h2, Result.andThen_ok, Sem.run_pure, Lib.cmp_eq, goInt]
  simp
set_option maxHeartbeats 1000000 in
set_option maxRecDepth 20000 in
theorem bcompare_any (g h : Nat) (s t : List UInt8) (w : World) (hs : IdAt w g s) (ht : IdAt w h t) :
    Calls Try.prog 54 #[.slice (some ⟨g, 0, none⟩) 32 32, .slice (some ⟨h, 0, none⟩) 32 32] w fun r w' => r = .returned (.int .i64 (Lib.compareBytes s t)) ∧ w = w' := by
  have hc := hs.compare ht
  obtain ⟨x, hx⟩ : ∃ x, x = Lib.compareBytes s t := ⟨_, rfl⟩
  rw [← hx] at hc ⊢
  clear hx hs ht
  go_enter Try.func54, Try.ntmps54
  go_wp2
  rw [run_callFunc_extern Try.func55 (by kernel_rfl) (by kernel_rfl) (by kernel_rfl) (e := Extern.BytealgCompare.compare) (by kernel_rfl), hc]
  simp only [Result.andThen]
  rw [Oper.upon_value]
  go_wp2
  go_ret
  exact ⟨rfl, rfl⟩

set_option maxHeartbeats 1000000 in
set_option maxRecDepth 20000 in
theorem hcompare_any (n1 n2 : List UInt8) (w : World) (hs : n1.length = 32) (ht : n2.length = 32) :
    Calls Try.prog 53 #[.agg (vals n1).toArray, .agg (vals n2).toArray] w fun r w' => r = .returned (.int .i64 (Lib.compareBytes n1 n2)) ∧ Below w.heap.size w w' := by
  have hA : IdAt ((w.alloc (.cells (vals n1).toArray 97)).alloc (.cells (vals n2).toArray 97)) w.heap.size n1 := ⟨hs, by rw [Below.heap_alloc _ _ _ (by simp)]; exact heap_alloc_new w _⟩
  have hB : IdAt ((w.alloc (.cells (vals n1).toArray 97)).alloc (.cells (vals n2).toArray 97)) (w.heap.size + 1) n2 := ⟨ht, by have := heap_alloc_new (w.alloc (.cells (vals n1).toArray 97)) (.cells (vals n2).toArray 97); simpa using this⟩
  have hb : Below w.heap.size w ((w.alloc (.cells (vals n1).toArray 97)).alloc (.cells (vals n2).toArray 97)) := ((Below.refl _ w).alloc (Nat.le_refl _) _).alloc (by simp) _
  have s1 := id_size hs
  have s2 := id_size ht
  have HA := Lib.hid hA
  have HB := Lib.hid hB
  have Hb := Lib.hid hb
  clear hA hB hb
  generalize (vals n1).toArray = S at s1 HA HB Hb ⊢
  generalize (vals n2).toArray = T at s2 HA HB Hb ⊢
  go_enter Try.func53, Try.ntmps53
  go_wp2_with fail
  generalize (w.alloc (.cells S 97)).alloc (.cells T 97) = W at HA HB Hb ⊢
  generalize w.heap.size = n0 at HA HB ⊢
  refine wp_region_puts (fun t v w => VK (match t with
    | 5 => .eq (.slice (some ⟨n0, 0, none⟩) 32 32)
    | 6 => .eq (.slice (some ⟨n0 + 1, 0, none⟩) 32 32)
    | 7 => .eq (.int .i64 (Lib.compareBytes n1 n2))
    | 4 => .eq (.int .i64 (Lib.compareBytes n1 n2))
    | _ => .any) v w) (fun w' => Below W.heap.size W w') 8 (by kernel_rfl) (by decide +kernel) rfl (Below.refl _ _).drew (by
    refine OweAll.cons (owesK rfl rfl fun a w1 ha hG hV => ?_) ?_
    · skip
      have h2 := ha.outer 2 (by decide +kernel)
      simp only [Act.eval] at h2
      exact ⟨.slice (some ⟨n0, 0, none⟩) 32 32, w1, wanted_free rfl, by simp [execOp, go_sem, h2], Below.refl _ _, rfl⟩
    refine OweAll.cons (owesK rfl rfl fun a w1 ha hG hV => ?_) ?_
    · skip
      have h3 := ha.outer 3 (by decide +kernel)
      simp only [Act.eval] at h3
      exact ⟨.slice (some ⟨n0 + 1, 0, none⟩) 32 32, w1, wanted_free rfl, by simp [execOp, go_sem, h3], Below.refl _ _, rfl⟩
    refine OweAll.cons (owesK_call rfl rfl 54 fun a w1 ha hG hV => ?_) ?_
    · skip
      have h5 : a.tmps.getD 5 undef = .slice (some ⟨n0, 0, none⟩) 32 32 := hV.get 5 (by decide +kernel)
      have h6 : a.tmps.getD 6 undef = .slice (some ⟨n0 + 1, 0, none⟩) 32 32 := hV.get 6 (by decide +kernel)
      refine ⟨#[.slice (some ⟨n0, 0, none⟩) 32 32, .slice (some ⟨n0 + 1, 0, none⟩) 32 32], wanted_free rfl, by simp [execOp, resolve, invoke, go_sem, h5, h6], ?_⟩
      refine (bcompare_any _ _ n1 n2 w1 (HA.out.old hG) (HB.out.old hG)).mono ?_
      rintro r u2 ⟨rfl, rfl⟩; exact ⟨_, rfl, rfl, Below.refl _ _⟩
    refine OweAll.cons (owesK rfl rfl fun a w1 ha hG hV => ?_) ?_
    · skip
      have h7 : a.tmps.getD 7 undef = .int .i64 (Lib.compareBytes n1 n2) := hV.get 7 (by decide +kernel)
      exact ⟨.int .i64 (Lib.compareBytes n1 n2), w1, wanted_free rfl, by simp [execOp, go_sem, h7], Below.refl _ _, rfl⟩
    exact OweAll.nil
    ) ?_
  intro f wz hG hv
  have e4 : f 4 = .int .i64 (Lib.compareBytes n1 n2) := hv 3 _ 4 rfl rfl
  rename_i hK
  refine hK _ _ ?_
  clear hK hv
  simp only [dsts, puts, List.filterMap_cons, List.filterMap_nil, List.foldl_cons, List.foldl_nil, Act.put, List.setIfInBounds_toArray, List.set_cons_succ, List.set_cons_zero, e4]
  clear e4
  have HG := Lib.hid (Hb.out.trans (hG.mono Hb.out.size))
  clear hG
  go_wp2_with fail
  go_ret
  exact ⟨rfl, HG.out⟩
end Go.Proofs.Ytambljnmaibdmaa

namespace Go.Proofs.Ytambljnmaibdmaa
open Go.RowKit

/-- Names. -/
abbrev Nm := { s : List UInt8 // s.length = 32 }
def encN : Enc Nm := ⟨fun s => vals s.1, 32, fun s => by rw [vals_len]; exact s.2, fun s => vals_one s.1, by decide⟩
theorem exec_load_mid {o : Oper} {a : Act} {w : World} (x : Operand) (ho : o.op = .load 97 x) (b off : Nat) (hx : a.eval x = .pointer (some ⟨b, off, none⟩)) (s : Nm)
    (hc : ∀ i u, (encN.f s)[i]? = some u → w.cell? ⟨b, off + i, none⟩ = some u) : (execOp a.eval o).run Try.prog w = .ok (.value (.agg (vals s.1).toArray)) w := by
  have hl := run_loadVar_mid (P := Try.prog) w b off 97 (vals s.1) _ (fun j v hv => hc j v hv) Try.underlying97 rfl (by rw [vals_len, s.2]; kernel_rfl)
  unfold execOp
  simp only [ho, hx, Instr.loadAt, Instr.sureAddr, Sem.run_bind, Sem.run_pure, Result.andThen_ok, hl]
/-- The first k + 1 rise. -/
def rs (L : List (List UInt8)) (k : Nat) : Bool := (List.range k).all fun i => decide (Lib.compareBytes (L.getD i []) (L.getD (i + 1) []) < 0)
theorem rs_succ (L : List (List UInt8)) (k : Nat) : rs L (k + 1) = (rs L k && decide (Lib.compareBytes (L.getD k []) (L.getD (k + 1) []) < 0)) := by
  unfold rs; rw [List.range_succ, List.all_append]; simp
theorem rs_stop {L : List (List UInt8)} {k n : Nat} (h : rs L (k + 1) = false) (hn : k < n) : rs L n = false := by
  obtain ⟨m, rfl⟩ : ∃ m, n = k + 1 + m := ⟨n - (k + 1), by omega⟩
  induction m with
  | zero => exact h
  | succ m ih => rw [← Nat.add_assoc, rs_succ, ih (by omega)]; rfl

set_option maxRecDepth 20000 in
set_option maxHeartbeats 4000000 in
theorem rising_any (ao : Option Addr) (cap : Nat) (L : List Nm) (w : World) (hL : Rd encN w ao L) (hn : L.length ≤ 1000000) :
    Calls Try.prog 52 #[.slice ao L.length cap] w fun r w' => r = .returned (.bool (rs (L.map (·.1)) (L.length - 1))) ∧ Below w.heap.size w w' := by
  obtain ⟨n, hnL⟩ : ∃ n, n = L.length := ⟨_, rfl⟩
  rw [← hnL] at hn ⊢
  obtain ⟨R, hR⟩ : ∃ R, R = rs (L.map (·.1)) (n - 1) := ⟨_, rfl⟩
  rw [← hR]
  have HR := Lib.hid hR
  clear hR
  have Hn := Lib.hid hnL
  have HL := Lib.hid hL
  have hB0 := Below.refl w.heap.size w
  clear hnL hL
  go_enter Try.func52, Try.ntmps52
  go_wp2_with fail
  go_loopw [3] (fun s3 wr => ∃ k : Nat, k ≤ n ∧ s3 = .int .i64 ((k : Int) + 1) ∧ Hid (rs (L.map (·.1)) k = true) ∧ Hid (k ≤ n - 1) ∧ Below w.heap.size w wr) (fun i _ => n + 1 - (intOf i).toNat)
  case atStart => exact ⟨0, by omega, by go_num, Lib.hid rfl, Lib.hid (Nat.zero_le _), hB0⟩
  case round =>
    clear hB0
    obtain ⟨i, hi, rfl, hrs, hin, hB⟩ := hrel
    by_cases hlt : i + 1 < n
    · have h1 : i < L.length := by rw [← Hn.out]; omega
      have h2 : i + 1 < L.length := by rw [← Hn.out]; omega
      obtain ⟨bs, off, rfl, hbs, c1⟩ := (HL.out.old hB) i h1
      obtain ⟨bs', off', e, _, c2⟩ := (HL.out.old hB) (i + 1) h2
      cases e
      have C1 : Hid (∀ w', Below wr.heap.size wr w' → ∀ k u, (encN.f L[i])[k]? = some u → w'.cell? ⟨bs, off + i * 32 + k, none⟩ = some u) := Lib.hid (fun w' hb k u hu => (World.cell?_of_block (hb.block bs hbs)).trans (c1 k u hu))
      have C2 : Hid (∀ w', Below wr.heap.size wr w' → ∀ k u, (encN.f L[i + 1])[k]? = some u → w'.cell? ⟨bs, off + (i + 1) * 32 + k, none⟩ = some u) := Lib.hid (fun w' hb k u hu => (World.cell?_of_block (hb.block bs hbs)).trans (c2 k u hu))
      obtain ⟨x, hx⟩ : ∃ x, x = L[i] := ⟨_, rfl⟩
      obtain ⟨y, hy⟩ : ∃ y, y = L[i + 1] := ⟨_, rfl⟩
      have hgx : (L.map (·.1)).getD i [] = x.1 := by simp [List.getD, h1, hx]
      have hgy : (L.map (·.1)).getD (i + 1) [] = y.1 := by simp [List.getD, h2, hy]
      have hsu := rs_succ (L.map (·.1)) i
      rw [hgx, hgy, hrs.out, Bool.true_and] at hsu
      rw [← hx] at C1
      rw [← hy] at C2
      obtain ⟨c, hc⟩ : ∃ c, c = Lib.compareBytes x.1 y.1 := ⟨_, rfl⟩
      have hcmp : Hid (∀ w, Calls Try.prog 53 #[.agg (vals x.1).toArray, .agg (vals y.1).toArray] w fun r w' => r = .returned (.int .i64 c) ∧ Below w.heap.size w w') := Lib.hid (fun w => by rw [hc]; exact hcompare_any x.1 y.1 w x.2 y.2)
      rw [← hc] at hsu
      have Hsu := Lib.hid hsu
      have i0 : (0 : Int) ≤ i := by omega
      have i1 : (i : Int) < n := by omega
      have i2 : (i : Int) + 1 < n := by omega
      have e1 : IntKind.i64.wrap ((i : Int) + 1 - 1) = (i : Int) := by rw [IntWalk.i64_in _ (by omega)]; omega
      have e0 : IntKind.i64.wrap (i : Int) = (i : Int) := IntWalk.i64_in _ (by omega)
      have e2 : ((i : Int) + 1).toNat = i + 1 := by omega
      have e3 : (0 : Int) ≤ (i : Int) + 1 := by omega
      have HB := Lib.hid hB
      clear hx hy hgx hgy hsu hc c1 c2 hB hrs
      go_wp2_with fail
      refine wp_region_puts (fun t v w => VK (match t with
        | 10 => .eq (.slice (some ⟨bs, off, none⟩) n cap)
        | 11 => .eq (.int .i64 ((i : Int) + 1))
        | 12 => .eq (.int .i64 (i : Int))
        | 13 => .eq (.pointer (some ⟨bs, off + i * 32, none⟩))
        | 14 => .eq (.agg (vals x.1).toArray)
        | 15 => .eq (.slice (some ⟨bs, off, none⟩) n cap)
        | 16 => .eq (.int .i64 ((i : Int) + 1))
        | 17 => .eq (.pointer (some ⟨bs, off + (i + 1) * 32, none⟩))
        | 18 => .eq (.agg (vals y.1).toArray)
        | 19 => .eq (.int .i64 c)
        | 20 => .eq (.bool (decide (0 ≤ c)))
        | _ => .any) v w) (fun w' => Below wr.heap.size wr w') 21 (by kernel_rfl) (by decide +kernel) rfl (Below.refl _ _).drew (by
        refine OweAll.cons (owesK rfl rfl fun a w1 ha hG hV => ?_) ?_
        · skip
          have h0 := ha.outer 0 (by decide +kernel)
          simp only [Act.eval] at h0
          exact ⟨.slice (some ⟨bs, off, none⟩) n cap, w1, wanted_free rfl, by simp [execOp, go_sem, h0], Below.refl _ _, rfl⟩
        refine OweAll.cons (owesK rfl rfl fun a w1 ha hG hV => ?_) ?_
        · skip
          have h3 := ha.outer 3 (by decide +kernel)
          simp only [Act.eval] at h3
          exact ⟨.int .i64 ((i : Int) + 1), w1, wanted_free rfl, by simp [execOp, go_sem, h3], Below.refl _ _, rfl⟩
        refine OweAll.cons (owesK rfl rfl fun a w1 ha hG hV => ?_) ?_
        · skip
          have h11 : a.tmps.getD 11 undef = .int .i64 ((i : Int) + 1) := hV.get 11 (by decide +kernel)
          exact ⟨.int .i64 (i : Int), w1, wanted_free rfl, by simp [execOp, go_sem, h11, e0, e1], Below.refl _ _, rfl⟩
        refine OweAll.cons (owesK rfl rfl fun a w1 ha hG hV => ?_) ?_
        · skip
          have h10 : a.tmps.getD 10 undef = .slice (some ⟨bs, off, none⟩) n cap := hV.get 10 (by decide +kernel)
          have h12 : a.tmps.getD 12 undef = .int .i64 (i : Int) := hV.get 12 (by decide +kernel)
          exact ⟨.pointer (some ⟨bs, off + i * 32, none⟩), w1, wanted_free rfl, by simp [execOp, go_sem, h10, h12, i0, i1], Below.refl _ _, rfl⟩
        refine OweAll.cons (owesK rfl rfl fun a w1 ha hG hV => ?_) ?_
        · skip
          have h13 : a.tmps.getD 13 undef = .pointer (some ⟨bs, off + i * 32, none⟩) := hV.get 13 (by decide +kernel)
          exact ⟨.agg (vals x.1).toArray, w1, wanted_free rfl, exec_load_mid (.tmp 13) rfl bs (off + i * 32) h13 x (C1.out w1 hG), Below.refl _ _, rfl⟩
        refine OweAll.cons (owesK rfl rfl fun a w1 ha hG hV => ?_) ?_
        · skip
          have h0 := ha.outer 0 (by decide +kernel)
          simp only [Act.eval] at h0
          exact ⟨.slice (some ⟨bs, off, none⟩) n cap, w1, wanted_free rfl, by simp [execOp, go_sem, h0], Below.refl _ _, rfl⟩
        refine OweAll.cons (owesK rfl rfl fun a w1 ha hG hV => ?_) ?_
        · skip
          have h3 := ha.outer 3 (by decide +kernel)
          simp only [Act.eval] at h3
          exact ⟨.int .i64 ((i : Int) + 1), w1, wanted_free rfl, by simp [execOp, go_sem, h3], Below.refl _ _, rfl⟩
        refine OweAll.cons (owesK rfl rfl fun a w1 ha hG hV => ?_) ?_
        · skip
          have h15 : a.tmps.getD 15 undef = .slice (some ⟨bs, off, none⟩) n cap := hV.get 15 (by decide +kernel)
          have h16 : a.tmps.getD 16 undef = .int .i64 ((i : Int) + 1) := hV.get 16 (by decide +kernel)
          exact ⟨.pointer (some ⟨bs, off + (i + 1) * 32, none⟩), w1, wanted_free rfl, by simp [execOp, go_sem, h15, h16, e2, e3, i2], Below.refl _ _, rfl⟩
        refine OweAll.cons (owesK rfl rfl fun a w1 ha hG hV => ?_) ?_
        · skip
          have h17 : a.tmps.getD 17 undef = .pointer (some ⟨bs, off + (i + 1) * 32, none⟩) := hV.get 17 (by decide +kernel)
          exact ⟨.agg (vals y.1).toArray, w1, wanted_free rfl, exec_load_mid (.tmp 17) rfl bs (off + (i + 1) * 32) h17 y (C2.out w1 hG), Below.refl _ _, rfl⟩
        refine OweAll.cons (owesK_call rfl rfl 53 fun a w1 ha hG hV => ?_) ?_
        · skip
          have h14 : a.tmps.getD 14 undef = .agg (vals x.1).toArray := hV.get 14 (by decide +kernel)
          have h18 : a.tmps.getD 18 undef = .agg (vals y.1).toArray := hV.get 18 (by decide +kernel)
          refine ⟨#[.agg (vals x.1).toArray, .agg (vals y.1).toArray], wanted_free rfl, by simp [execOp, resolve, invoke, go_sem, h14, h18], ?_⟩
          refine (hcmp.out w1).mono ?_
          rintro r u2 ⟨rfl, hb⟩; exact ⟨_, rfl, rfl, hb⟩
        refine OweAll.cons (owesK rfl rfl fun a w1 ha hG hV => ?_) ?_
        · skip
          have h19 : a.tmps.getD 19 undef = .int .i64 c := hV.get 19 (by decide +kernel)
          exact ⟨.bool (decide (0 ≤ c)), w1, wanted_free rfl, by simp [execOp, go_sem, h19], Below.refl _ _, rfl⟩
        exact OweAll.nil
        ) ?_
      intro f wz hG hv
      have e20 : f 20 = .bool (decide (0 ≤ c)) := hv 10 _ 20 rfl rfl
      rename_i hK
      refine hK _ _ ?_
      clear hK hv
      simp only [dsts, puts, List.filterMap_cons, List.filterMap_nil, List.foldl_cons, List.foldl_nil, Act.put, List.setIfInBounds_toArray, List.set_cons_succ, List.set_cons_zero, e20]
      clear e20
      have HG := Lib.hid (HB.out.trans (hG.mono HB.out.size))
      clear hG
      by_cases hc : 0 ≤ c
      · have t1 : decide (0 ≤ c) = true := decide_eq_true hc
        have hfin : R = false := HR.out.trans <| rs_stop (k := i) (by rw [Hsu.out, decide_eq_false_iff_not]; omega) (by omega)
        have Hfin := Lib.hid hfin
        clear hfin
        go_wp2_with fail
        go_ret
        exact ⟨by rw [Hfin.out]; rfl, HG.out⟩
      · have t1 : decide (0 ≤ c) = false := decide_eq_false hc
        have hnx : Hid (rs (L.map (·.1)) (i + 1) = true) := Lib.hid (by rw [Hsu.out, decide_eq_true_eq]; omega)
        go_wp2_with fail
        go_roundw
        case rel => exact ⟨i + 1, by omega, by go_num, hnx, Lib.hid (by omega), HG.out⟩
        case measure => simp [intOf]; omega
    · have hfin : R = true := by rw [HR.out]; have h := hin.out; have e : i = n - 1 := (by omega); rw [← e]; exact hrs.out
      have Hfin := Lib.hid hfin
      clear hfin
      have i2 : ¬ (i : Int) + 1 < n := by omega
      go_wp2_with fail
      go_ret
      exact ⟨by rw [Hfin.out]; rfl, hB⟩
end Go.Proofs.Ytambljnmaibdmaa
