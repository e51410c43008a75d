/- Texts 1: what the laws lean on. -/
import Derived.WalkKit
import Derived.WalkSpells
import Derived.WalkLawsBesides
import Derived.Lib.Hide
import Derived.Laws.BytesArg
import Derived.Deep.RegionLaw
import Derived.Laws.BitsAllLaws
import Derived.Test.YtdahkemeoefndaaDoorProg
import Derived.Deep.AppendLies
import Derived.RangeFuncBox
import Derived.Test.YtdahkemeoefndaaDoorShelf
import Derived.BigQuiet
import Derived.Deep.QuietTactic
import Derived.Deep.DeepCutAuto
import Derived.Outline
import Derived.OwnWalk
import Derived.Deep.CutBlock
import Derived.StillTailTactics
import Derived.BigRegion
import Derived.RangeFuncNested
import Derived.RangeFuncLeaves
import Derived.OwnWalkIn
import Derived.RangeFuncBound
import Derived.RangeFuncCalls
import Derived.Shelf.Abstract
import Derived.Shelf.RegionOpen
import Derived.TacticsInMore
import Derived.LoopNIn
import Derived.LoopIn
namespace Go.Proofs.YtdahkemeoefndaaDoor
open Go.RowKit

/-- Of the old blocks only those of S may have turned. -/
structure Mod (S : Nat → Prop) (w w' : World) : Prop where
  os : w'.os = w.os
  tape : w'.tape = w.tape
  output : w'.output = w.output
  size : w.heap.size ≤ w'.heap.size
  block : ∀ k, k < w.heap.size → ¬ S k → w'.heap[k]? = w.heap[k]?

theorem Mod.refl (S : Nat → Prop) (w : World) : Mod S w w := ⟨rfl, rfl, rfl, Nat.le_refl _, fun _ _ _ => rfl⟩
theorem Mod.trans {S T : Nat → Prop} {a b c : World} (h : Mod S a b) (k : Mod T b c) (hs : ∀ i, i < a.heap.size → T i → S i) : Mod S a c :=
  ⟨k.os.trans h.os, k.tape.trans h.tape, k.output.trans h.output, Nat.le_trans h.size k.size,
    fun i hi hn => (k.block i (Nat.lt_of_lt_of_le hi h.size) (fun ht => hn (hs i hi ht))).trans (h.block i hi hn)⟩
theorem Mod.mono {S T : Nat → Prop} {a b : World} (h : Mod S a b) (hs : ∀ i, i < a.heap.size → S i → T i) : Mod T a b :=
  ⟨h.os, h.tape, h.output, h.size, fun i hi hn => h.block i hi (fun hS => hn (hs i hi hS))⟩
theorem Mod.drew {S : Nat → Prop} {a w : World} (h : Mod S a w) : Mod S a w.drew := ⟨h.os, h.tape, h.output, h.size, h.block⟩
theorem Mod.drewN {S : Nat → Prop} {a w : World} (h : Mod S a w) (n : Nat) : Mod S a (w.drewN n) := ⟨h.os, h.tape, h.output, h.size, h.block⟩
theorem Mod.setRow {S : Nat → Prop} {a w : World} (h : Mod S a w) {g : Nat} (cs : Array Value) : Mod (fun k => S k ∨ k = g) a (w.setRow g cs) :=
  ⟨h.os, h.tape, h.output, by have := h.size; simp [World.setRow]; omega, fun i hi hn => (setRow_other w g i _ (fun e => hn (Or.inr e))).trans (h.block i hi (fun hS => hn (Or.inl hS)))⟩
/-- What was written anew alone. -/
theorem Mod.drop_new {S : Nat → Prop} {a b : World} {g : Nat} (h : Mod (fun k => S k ∨ k = g) a b) (hg : a.heap.size ≤ g) : Mod S a b :=
  h.mono (fun i hi h => h.elim id (fun e => by omega))
theorem Mod.alloc {S : Nat → Prop} {a w : World} (h : Mod S a w) (o : Obj) : Mod S a (w.alloc o) :=
  ⟨h.os, h.tape, h.output, by have := h.size; simp; omega, fun i hi hn => (Below.heap_alloc _ _ _ (Nat.lt_of_lt_of_le hi h.size)).trans (h.block i hi hn)⟩
theorem Mod.setCell {S : Nat → Prop} {a w : World} (h : Mod S a w) {p : Addr} (hp : p.block < a.heap.size → S p.block) (u : Value) : Mod S a (w.setCell p u) :=
  ⟨h.os, h.tape, h.output, by have := h.size; simp [World.setCell]; omega, fun i hi hn => (Below.heap_setCell _ _ _ _ (fun e => hn (by subst e; exact hp hi))).trans (h.block i hi hn)⟩
theorem Mod.grown {S : Nat → Prop} {a w w' : World} {row : Option Nat} (h : Mod S a w) (hg : w.grownBy w' row) (hr : ∀ k, row = some k → k < a.heap.size → S k) : Mod S a w' :=
  ⟨hg.os.trans h.os, hg.tape.trans h.tape, hg.output.trans h.output, Nat.le_trans h.size hg.size,
    fun i hi hn => (hg.block i (Nat.lt_of_lt_of_le hi h.size) (fun e => hn (hr i e.symm hi))).trans (h.block i hi hn)⟩
theorem Mod.of_below {B : Nat} {w w' : World} (h : Below B w w') : Mod (fun k => B ≤ k) w w' :=
  ⟨h.os, h.tape, h.output, h.size, fun k _ hn => h.block k (by omega)⟩
theorem Mod.to_below {S : Nat → Prop} {w w' : World} {B : Nat} (h : Mod S w w') (hB : B ≤ w.heap.size) (hS : ∀ k, k < B → ¬ S k) : Below B w w' :=
  ⟨h.os, h.tape, h.output, h.size, fun k hk => h.block k (by omega) (hS k hk)⟩

def vals (bs : List UInt8) : List Value := bs.map fun b => Value.int .u8 b.toNat
theorem vals_len (bs : List UInt8) : (vals bs).length = bs.length := by simp [vals]
theorem vals_app (a b : List UInt8) : vals (a ++ b) = vals a ++ vals b := by simp [vals]

/-- Block b is a struct of one field, a slice value v that owns the bytes bs in a row of its own. -/
structure OutAt (T E : TypeId) (w : World) (b : Nat) (v : Value) (bs : List UInt8) : Prop where
  blk : w.heap[b]? = some (.cells #[v] T (0, 0))
  own : w.ownsRow 0 E 1 v bs.length (vals bs)
  ne : v.ownBlock ≠ some b

theorem OutAt.cell {T E : TypeId} {w : World} {b : Nat} {v : Value} {bs : List UInt8} (h : OutAt T E w b v bs) : w.cell? ⟨b, 0, none⟩ = some v := by
  unfold World.cell?; rw [h.blk]; rfl
theorem OutAt.froz {T E : TypeId} {w : World} {b : Nat} {v : Value} {bs : List UInt8} (h : OutAt T E w b v bs) : w.frozen? ⟨b, 0, none⟩ = false := by
  unfold World.frozen?; rw [h.blk]; rfl
theorem OutAt.lt {T E : TypeId} {w : World} {b : Nat} {v : Value} {bs : List UInt8} (h : OutAt T E w b v bs) : b < w.heap.size := (Array.getElem?_eq_some_iff.1 h.blk).1
theorem OutAt.fresh {T E : TypeId} (w : World) : OutAt T E (w.alloc (.cells #[.slice none 0 0] T)) w.heap.size (.slice none 0 0) [] :=
  ⟨heap_alloc_new w _, World.ownsRow_nil _ _ _ _, by simp [Value.ownBlock]⟩
theorem OutAt.kept {T E : TypeId} {w w' : World} {b : Nat} {v : Value} {bs : List UInt8} {S : Nat → Prop} (h : OutAt T E w b v bs) (hm : Mod S w w') (hb : ¬ S b) (hv : ∀ k, v.ownBlock = some k → ¬ S k) : OutAt T E w' b v bs := by
  refine ⟨(hm.block b h.lt hb).trans h.blk, ⟨h.own.1, ?_⟩, h.ne⟩
  rcases h.own.2 with hn | ⟨g, cap, cur, rfl, hg, hh, r⟩
  · exact .inl hn
  · exact .inr ⟨g, cap, cur, rfl, hg, (hm.block g (Array.getElem?_eq_some_iff.1 hh).1 (hv g rfl)).trans hh, r⟩

theorem OutAt.alloc {T E : TypeId} {w : World} {b : Nat} {v : Value} {bs : List UInt8} (h : OutAt T E w b v bs) (o : Obj) : OutAt T E (w.alloc o) b v bs :=
  h.kept ((Mod.refl (fun _ => False) w).alloc o) (fun h => h) (fun _ _ h => h)

/-- The struct's field is stored anew: a slice value that owns more. -/
theorem OutAt.store {T E : TypeId} {w w1 : World} {b : Nat} {v v1 : Value} {bs bs1 : List UInt8} (h : OutAt T E w b v bs) (hg : w.grownBy w1 v.ownBlock) (hown : w1.ownsRow 0 E 1 v1 bs1.length (vals bs1)) (hne : v1.ownBlock ≠ some b) :
    OutAt T E (w1.setCell ⟨b, 0, none⟩ v1) b v1 bs1 := by
  have hb : w1.heap[b]? = some (.cells #[v] T (0, 0)) := (hg.block b h.lt (fun e => h.ne e.symm)).trans h.blk
  refine ⟨?_, ⟨hown.1, ?_⟩, hne⟩
  · have := heap_setCell_same w1 b 0 #[v] T v1 hb
    simpa using this
  · rcases hown.2 with hn | ⟨g, cap, cur, rfl, hg', hh, r⟩
    · exact .inl hn
    · refine .inr ⟨g, cap, cur, rfl, hg', ?_, r⟩
      rw [Below.heap_setCell _ _ _ _ (by intro e; exact hne (by simp [Value.ownBlock, e]))]
      exact hh

/-- A slice value that owns something shows its address. -/
theorem ownsRow_shape {w : World} {base e size n : Nat} {v : Value} {xs : List Value} (h : w.ownsRow base e size v n xs) (hn : 0 < n) : ∃ g cap, v = .slice (some ⟨g, 0, none⟩) n cap := by
  rcases h.2 with ⟨_, h0⟩ | ⟨g, cap, _, hv, _⟩
  · omega
  · exact ⟨g, cap, hv⟩

/-- An append to an owned row, as a step of a region that draws. -/
theorem step_append_own {P : Program} {ops : Array Oper} {o : Oper} {a : Act} {w : World} {K : Act → World → Prop} {Q : Exit → Act → World → Prop} {E : Prop}
    (hgd : o.guard = none) (s x : Operand) (t : TypeId)
    (ho : o.op = .call { callee := .builtin .append, args := #[s, x], argTypes := #[t, t] })
    (base : Nat) (e : TypeId) (i : TypeInfo) (z : Value) (size bytes : Nat) (ht : P.underlying t = some (.slice e)) (hi : P.info? e = some i) (hz : i.zero = some z)
    (hsize : i.size = size) (hby : i.bytes = bytes) (hzs : z.cells.size = size) (hsz : 0 < size)
    (v : Value) (n : Nat) (xs : List Value) (hs : a.eval s = v) (hown : w.ownsRow base e size v n xs)
    (ad : Addr) (m c : Nat) (news : List Value) (hx : a.eval x = .slice (some ad) m c) (hl : news.length = m * size) (hnews : ∀ j u, news[j]? = some u → w.cell? (ad.add j) = some u) (h1 : ∀ u ∈ news, u.oneCell' = true)
    (h63 : n + m ≤ maxLen) (hbytes : (n + m) * bytes ≤ 140737488355328) (hbase : base ≤ w.heap.size)
    (h : ∀ v' w', w'.ownsRow base e size v' (n + m) (xs ++ news) → w.grownBy w' v.ownBlock → (v' = .slice none 0 0 ↔ v = .slice none 0 0 ∧ m = 0) → K (a.put o.dst v') w') :
    if Region.wanted o (yielded ops a.tmps) = true then Oper.wp P o a w K Q else E := by
  have hw : Region.wanted o (yielded ops a.tmps) = true := by simp [Region.wanted, hgd]
  rw [if_pos hw]
  exact wp_append_own w s x t ho base e i z size bytes ht hi hz hsize hby hzs hsz v n xs hs hown ad m c news hx hl hnews h1 h63 hbytes hbase h

theorem bapp1 (a : UInt8) (l : List UInt8) : (ByteArray.mk #[a] ++ ByteArray.mk l.toArray) = ByteArray.mk (a :: l).toArray := ByteArray.mk_append_mk [a] l
theorem ret_str {a b : ByteArray} (h : a = b) : Ending.returned (.string a) = .returned (.string b) := by rw [h]
theorem val_str {a b : ByteArray} (h : a = b) : Value.string a = .string b := by rw [h]
theorem val_int {k : IntKind} {a b : Int} (h : a = b) : Value.int k a = .int k b := by rw [h]
theorem ret_int {k : IntKind} {a b : Int} (h : a = b) : Ending.returned (.int k a) = .returned (.int k b) := by rw [h]

theorem convLit1 {P : Program} (src dst e : TypeId) (hs : P.underlying src = some (.slice e)) (he : P.underlying e = some (.int .u8)) (hd : P.underlying dst = some .string) (w : World) (x : Int) :
    (convert src dst (.slice (some ⟨w.heap.size, 0, none⟩) 1 1)).run P (w.alloc (.cells #[.int .u8 x] e)) = .ok (.string ⟨#[UInt8.ofNat x.toNat]⟩) (w.alloc (.cells #[.int .u8 x] e)) := by
  have h := run_convert_bytes_arg (P := P) (w.alloc (.cells #[.int .u8 x] e)) src e hs he w.heap.size 0 1 1 [x] rfl (fun i hi => by
    obtain rfl : i = 0 := by omega
    unfold World.cell?
    rw [heap_alloc_new]
    rfl) dst hd
  simpa [strOfNums] using h

/-- The old world's name is kept. -/
theorem Lib.flip {P : Program} {f : FuncId} {args : Array Value} {w : World} {v : Ending} (h : Calls P f args w fun e w' => e = v ∧ w' = w) : Calls P f args w fun e w' => e = v ∧ w = w' :=
  h.mono fun _ _ ⟨a, b⟩ => ⟨a, b.symm⟩

/-- A shift to the right of a number from 0 on. -/
theorem shr_nat {P : Program} (k j : IntKind) (n s : Nat) (w : World) (hs : s ≤ k.bits) : (Op.shift .shr k (n : Int) j (s : Int)).run P w = .ok (.int k ((n / 2 ^ s : Nat) : Int)) w := by
  have h0 : ¬ ((s : Int) < 0) := by omega
  have hm : min ((s : Int)).toNat k.bits = s := by rw [Int.toNat_natCast]; exact Nat.min_eq_left hs
  unfold Op.shift
  rw [if_neg h0]
  simp only [hm]
  have : (n : Int).fdiv (2 ^ s) = ((n / 2 ^ s : Nat) : Int) := by
    rw [Int.fdiv_eq_ediv_of_nonneg _ (by exact_mod_cast Nat.zero_le (2 ^ s))]
    push_cast
    rfl
  rw [this]
  rfl

/-- A whole variable is stored: an array or a struct by value. -/
theorem wp_store_row {P : Program} {o : Oper} {a : Act} {w : World} {K : Act → World → Prop} {Q : Exit → Act → World → Prop} (ty : TypeId) (x y : Operand) (ho : o.op = .store ty x y)
    (g : Nat) (hx : a.eval x = .pointer (some ⟨g, 0, none⟩)) (t : TypeId) (old cs : Array Value) (hy : a.eval y = .agg cs) (hg : w.heap[g]? = some (.cells old t (0, 0))) (hsz : old.size = cs.size)
    (hi : (P.info? ty).map (·.size) = some cs.size) (h1 : ∀ v ∈ cs.toList, v.oneCell' = true)
    (h : K (a.put o.dst undef) (w.setRow g cs)) : o.wp P a w K Q := by
  have hst := run_storeCells_at P g 0 t cs.toList 0 old w hg (by simp; omega) h1
  have e : (old.toList.take (0 + 0) ++ cs.toList ++ old.toList.drop (0 + 0 + cs.toList.length)).toArray = cs := by
    have : old.toList.drop (0 + 0 + cs.toList.length) = [] := List.drop_eq_nil_of_le (by simp; omega)
    rw [this]; simp
  rw [e] at hst
  cases hq : P.info? ty with
  | none => simp [hq] at hi
  | some i =>
    have hs : i.size = cs.size := by simpa [hq] using hi
    have hv : (storeVar ty ⟨g, 0, none⟩ (.agg cs)).run P w = .ok () (w.setRow g cs) := by
      simp [storeVar, sizeOf, typeInfo, hq, hs, Value.cells, hst]
    unfold Oper.wp execOp
    simp only [ho, hx, hy, Instr.storeAt, Instr.sureAddr, Sem.run_bind, Sem.run_pure, Result.andThen_ok, hv]
    exact h

theorem wpList_store_row {P : Program} {ops : Array Oper} {rest : List Oper} {o : Oper} {a : Act} {w : World} {Q : Exit → Act → World → Prop} (hgd : o.guard = none) (hdst : o.dst = none) (ty : TypeId) (x y : Operand) (ho : o.op = .store ty x y)
    (g : Nat) (hx : a.eval x = .pointer (some ⟨g, 0, none⟩)) (t : TypeId) (old cs : Array Value) (hy : a.eval y = .agg cs) (hg : w.heap[g]? = some (.cells old t (0, 0))) (hsz : old.size = cs.size)
    (hi : (P.info? ty).map (·.size) = some cs.size) (h1 : ∀ v ∈ cs.toList, v.oneCell' = true)
    (h : wpList P ops Q rest a (w.setRow g cs)) : wpList P ops Q (o :: rest) a w :=
  wpList_plain hgd fun _ hK => wp_store_row ty x y ho g hx t old cs hy hg hsz hi h1 (hK _ _ (by rw [hdst]; exact h))

/-- Numbers as cells. -/
def nums (k : IntKind) (A : List Nat) : List Value := A.map fun (x : Nat) => Value.int k (x : Int)
theorem nums_len (k : IntKind) (A : List Nat) : (nums k A).length = A.length := by simp [nums]
theorem nums_one (k : IntKind) (A : List Nat) : ∀ v ∈ nums k A, v.oneCell' = true := by
  intro v hv; obtain ⟨x, _, rfl⟩ := List.mem_map.1 hv; rfl
theorem nums_get (k : IntKind) (A : List Nat) (i : Nat) (h : i < A.length) : (nums k A)[i]? = some (.int k (A[i]'h)) := by simp [nums, h]
theorem nums_set (k : IntKind) (A : List Nat) (i x : Nat) : (nums k A).set i (.int k x) = nums k (A.set i x) := by simp [nums, List.map_set]

/-- A block of numbers. -/
def RowAt (k : IntKind) (T : TypeId) (w : World) (g : Nat) (A : List Nat) : Prop := w.heap[g]? = some (.cells (nums k A).toArray T (0, 0))
theorem RowAt.cell {k : IntKind} {T : TypeId} {w : World} {g : Nat} {A : List Nat} (h : RowAt k T w g A) (i : Nat) (hi : i < A.length) : w.cell? ⟨g, i, none⟩ = some (.int k (A[i]'hi)) := by
  rw [cell_of_row w g i _ T (0, 0) h]; simpa using nums_get k A i hi
theorem RowAt.froz {k : IntKind} {T : TypeId} {w : World} {g : Nat} {A : List Nat} (h : RowAt k T w g A) (i : Nat) : w.frozen? ⟨g, i, none⟩ = false := frozen_of_row w g i _ T h
theorem RowAt.lt {k : IntKind} {T : TypeId} {w : World} {g : Nat} {A : List Nat} (h : RowAt k T w g A) : g < w.heap.size := (Array.getElem?_eq_some_iff.1 h).1
theorem RowAt.set {k : IntKind} {T : TypeId} {w : World} {g : Nat} {A : List Nat} (h : RowAt k T w g A) (i x : Nat) : RowAt k T (w.setCell ⟨g, i, none⟩ (.int k x)) g (A.set i x) := by
  have := heap_setCell_same w g i _ T (.int k x) h
  unfold RowAt
  rw [this, ← nums_set]
  simp
theorem RowAt.kept {k : IntKind} {T : TypeId} {w w' : World} {g : Nat} {A : List Nat} {S : Nat → Prop} (h : RowAt k T w g A) (hm : Mod S w w') (hg : ¬ S g) : RowAt k T w' g A := (hm.block g h.lt hg).trans h

/-- An array of numbers, by value, indexed. -/
theorem run_index_nums {P : Program} (T E : TypeId) (len : Nat) (k : IntKind) (A : List Nat) (i : Nat) (hi : i < A.length) (hT : P.underlying T = some (.array len E)) (hl : A.length = len)
    (hE : P.underlying E = some (.int k)) (hs : (P.info? E).map (·.size) = some 1) (w : World) :
    (Instr.index T (.agg (nums k A).toArray) (.int .i64 (i : Int))).run P w = .ok (.int k (A[i]'hi)) w := by
  have h1 : (0 : Int) ≤ i ∧ (i : Int) < len := by omega
  cases hq : P.info? E with
  | none => simp [hq] at hs
  | some j =>
    have hj : j.size = 1 := by simpa [hq] using hs
    have hg := nums_get k A i hi
    unfold Instr.index
    simp only [asIntOf, Sem.run_bind, Sem.run_pure, Result.andThen_ok, run_underlying hT]
    rw [if_pos h1]
    simp [sizeOf, typeInfo, hq, hj, part, isAgg, run_underlying hE, hg]
end Go.Proofs.YtdahkemeoefndaaDoor

namespace Go.Proofs.YtdahkemeoefndaaDoor.NN

/-- The value of digits, the lowest first. -/
def vl (b : Nat) : List Nat → Nat
  | [] => 0
  | x :: l => x + b * vl b l
/-- The digits of a number, the lowest first, without noughts behind. -/
def dg (b n : Nat) : List Nat := if _h : n = 0 ∨ b < 2 then [] else n % b :: dg b (n / b)
termination_by n
decreasing_by exact Nat.div_lt_self (by omega) (by omega)

theorem dg_zero (b : Nat) : dg b 0 = [] := by rw [dg]; simp
theorem dg_pos (b n : Nat) (hb : 2 ≤ b) (hn : n ≠ 0) : dg b n = n % b :: dg b (n / b) := by rw [dg]; simp [hn, show ¬ b < 2 by omega]

theorem vl_dg (b : Nat) (hb : 2 ≤ b) (n : Nat) : vl b (dg b n) = n := by
  induction n using Nat.strongRecOn with
  | ind n ih =>
    by_cases hn : n = 0
    · subst hn; rw [dg_zero]; rfl
    · rw [dg_pos b n hb hn, vl, ih _ (Nat.div_lt_self (by omega) (by omega))]
      exact Nat.mod_add_div n b
theorem dg_lt (b : Nat) (hb : 2 ≤ b) (n : Nat) : ∀ x ∈ dg b n, x < b := by
  induction n using Nat.strongRecOn with
  | ind n ih =>
    by_cases hn : n = 0
    · subst hn; rw [dg_zero]; intro x hx; cases hx
    · rw [dg_pos b n hb hn]
      intro x hx
      rcases List.mem_cons.1 hx with rfl | h
      · exact Nat.mod_lt _ (by omega)
      · exact ih _ (Nat.div_lt_self (by omega) (by omega)) x h
/-- No nought behind. -/
def Top (l : List Nat) : Prop := ∀ x, l.getLast? = some x → x ≠ 0
theorem dg_nil (b : Nat) (hb : 2 ≤ b) {n : Nat} (h : dg b n = []) : n = 0 := by
  have := vl_dg b hb n; rw [h] at this; exact this.symm
theorem dg_top (b : Nat) (hb : 2 ≤ b) (n : Nat) : Top (dg b n) := by
  induction n using Nat.strongRecOn with
  | ind n ih =>
    by_cases hn : n = 0
    · subst hn; rw [dg_zero]; intro x hx; cases hx
    · rw [dg_pos b n hb hn]
      intro x hx
      by_cases hq : n / b = 0
      · rw [hq, dg_zero] at hx
        simp at hx
        have := Nat.mod_add_div n b
        rw [hq] at this
        omega
      · have h2 := ih (n / b) (Nat.div_lt_self (by omega) (by omega))
        have hne : dg b (n / b) ≠ [] := fun e => hq (dg_nil b hb e)
        obtain ⟨y, t, e⟩ := List.exists_cons_of_ne_nil hne
        apply h2
        rw [e] at hx ⊢
        rw [List.getLast?_cons_cons] at hx
        exact hx
theorem vl_app (b : Nat) (l k : List Nat) : vl b (l ++ k) = vl b l + b ^ l.length * vl b k := by
  induction l with
  | nil => simp [vl]
  | cons x l ih =>
    simp only [List.cons_append, vl, ih, List.length_cons, Nat.pow_succ, Nat.mul_add]
    rw [Nat.mul_comm (b ^ l.length) b, Nat.mul_assoc, Nat.add_assoc]
theorem vl_lt (b : Nat) (l : List Nat) (h : ∀ x ∈ l, x < b) : vl b l < b ^ l.length := by
  induction l with
  | nil => simp [vl]
  | cons x l ih =>
    have h1 := h x (by simp)
    have h2 := ih (fun y hy => h y (by simp [hy]))
    have h3 : b * (vl b l + 1) ≤ b * b ^ l.length := Nat.mul_le_mul_left _ h2
    rw [Nat.mul_add] at h3
    simp only [vl, List.length_cons, Nat.pow_succ, Nat.mul_comm (b ^ l.length)]
    omega
theorem vl_zeros (b k : Nat) : vl b (List.replicate k 0) = 0 := by
  induction k with
  | zero => rfl
  | succ k ih => simp [List.replicate_succ, vl, ih]
theorem vl_snoc_zero (b : Nat) (l : List Nat) : vl b (l ++ [0]) = vl b l := by rw [vl_app]; simp [vl]
theorem Top.tail {x y : Nat} {l : List Nat} (h : Top (x :: y :: l)) : Top (y :: l) := by
  intro z hz; apply h; rw [List.getLast?_cons_cons]; exact hz
theorem vl_top_ne (b : Nat) (hb : 2 ≤ b) (l : List Nat) (ht : Top l) (hne : l ≠ []) : vl b l ≠ 0 := by
  induction l with
  | nil => exact absurd rfl hne
  | cons x l ih =>
    cases l with
    | nil => have := ht x rfl; simp [vl]; omega
    | cons y l =>
      have := ih ht.tail (by simp)
      have h2 : b * 1 ≤ b * vl b (y :: l) := Nat.mul_le_mul_left _ (by omega)
      show x + b * vl b (y :: l) ≠ 0
      omega
/-- Digits without noughts behind are those of their value. -/
theorem dg_vl (b : Nat) (hb : 2 ≤ b) (l : List Nat) (h : ∀ x ∈ l, x < b) (ht : Top l) : dg b (vl b l) = l := by
  induction l with
  | nil => simp [vl, dg_zero]
  | cons x l ih =>
    have hx := h x (by simp)
    have hne := vl_top_ne b hb (x :: l) ht (by simp)
    rw [dg_pos b _ hb hne]
    have e1 : vl b (x :: l) % b = x := by show (x + b * vl b l) % b = x; rw [Nat.add_mul_mod_self_left, Nat.mod_eq_of_lt hx]
    have e2 : vl b (x :: l) / b = vl b l := by show (x + b * vl b l) / b = _; rw [Nat.add_mul_div_left _ _ (by omega), Nat.div_eq_of_lt hx, Nat.zero_add]
    rw [e1, e2]
    congr 1
    apply ih (fun y hy => h y (by simp [hy]))
    cases l with
    | nil => intro z hz; cases hz
    | cons y l => exact ht.tail

/-- Without noughts behind. -/
theorem dg_take (b : Nat) (hb : 2 ≤ b) (l : List Nat) (h : ∀ x ∈ l, x < b) (k : Nat) (hk : k ≤ l.length) (hz : ∀ i (hi : i < l.length), k ≤ i → l[i] = 0) (ht : ∀ hk0 : 0 < k, l[k - 1]'(by omega) ≠ 0) :
    dg b (vl b l) = l.take k := by
  have e : l = l.take k ++ List.replicate (l.length - k) 0 := by
    apply List.ext_getElem
    · simp; omega
    · intro i h1 h2
      by_cases hi : i < k
      · rw [List.getElem_append_left (by simp; omega)]; simp
      · rw [List.getElem_append_right (by simp; omega)]; simp; exact hz i h1 (by omega)
  have ev : vl b l = vl b (l.take k) := by
    have e2 := vl_app b (l.take k) (List.replicate (l.length - k) 0)
    rw [← e, vl_zeros] at e2
    simpa using e2
  rw [ev]
  apply dg_vl b hb
  · intro x hx; exact h x (List.mem_of_mem_take hx)
  · intro x hx
    by_cases hk0 : 0 < k
    · rw [List.getLast?_eq_getElem?, List.length_take, Nat.min_eq_left hk, List.getElem?_take_of_lt (by omega), List.getElem?_eq_getElem (by omega)] at hx
      cases hx
      exact ht hk0
    · obtain rfl : k = 0 := by omega
      simp at hx

theorem dg_len_le (b : Nat) (hb : 2 ≤ b) (n k : Nat) (h : n < b ^ k) : (dg b n).length ≤ k := by
  induction k generalizing n with
  | zero => have : n = 0 := by simpa using h
            subst this; simp [dg_zero]
  | succ k ih =>
    by_cases hn : n = 0
    · subst hn; simp [dg_zero]
    · rw [dg_pos b n hb hn, List.length_cons]
      have := ih (n / b) (by rw [Nat.div_lt_iff_lt_mul (by omega)]; rw [Nat.pow_succ] at h; exact h)
      omega
theorem lt_pow_dg (b : Nat) (hb : 2 ≤ b) (n : Nat) : n < b ^ (dg b n).length := by
  have := vl_lt b (dg b n) (dg_lt b hb n); rwa [vl_dg b hb] at this
theorem pow_le_dg (b : Nat) (hb : 2 ≤ b) (n : Nat) (h : 0 < (dg b n).length) : b ^ ((dg b n).length - 1) ≤ n := by
  apply Nat.le_of_not_lt
  intro hlt
  have := dg_len_le b hb n _ hlt
  omega
theorem dg_len_mono (b : Nat) (hb : 2 ≤ b) {m n : Nat} (h : m ≤ n) : (dg b m).length ≤ (dg b n).length :=
  dg_len_le b hb m _ (Nat.lt_of_le_of_lt h (lt_pow_dg b hb n))
theorem dg_len_mul (b : Nat) (hb : 2 ≤ b) (m n : Nat) : (dg b (m * n)).length ≤ (dg b m).length + (dg b n).length := by
  apply dg_len_le b hb
  rw [Nat.pow_add]
  exact Nat.mul_lt_mul'' (lt_pow_dg b hb m) (lt_pow_dg b hb n)
theorem dg_len_add (b : Nat) (hb : 2 ≤ b) (m n : Nat) : (dg b (m + n)).length ≤ max (dg b m).length (dg b n).length + 1 := by
  apply dg_len_le b hb
  have h1 := lt_pow_dg b hb m
  have h2 := lt_pow_dg b hb n
  have p1 : b ^ (dg b m).length ≤ b ^ max (dg b m).length (dg b n).length := Nat.pow_le_pow_right (by omega) (by omega)
  have p2 : b ^ (dg b n).length ≤ b ^ max (dg b m).length (dg b n).length := Nat.pow_le_pow_right (by omega) (by omega)
  rw [Nat.pow_succ]
  generalize b ^ max (dg b m).length (dg b n).length = p at *
  have : p * 2 ≤ p * b := Nat.mul_le_mul_left _ hb
  omega
/-- The digit at a place. -/
theorem dg_at (b : Nat) (hb : 2 ≤ b) (n i : Nat) (hi : i < (dg b n).length) : (dg b n)[i] = n / b ^ i % b := by
  induction i generalizing n with
  | zero =>
    have hn : n ≠ 0 := by intro e; subst e; simp [dg_zero] at hi
    simp only [dg_pos b n hb hn, List.getElem_cons_zero, Nat.pow_zero, Nat.div_one]
  | succ i ih =>
    have hn : n ≠ 0 := by intro e; subst e; simp [dg_zero] at hi
    have e := dg_pos b n hb hn
    have hi' : i < (dg b (n / b)).length := by rw [e] at hi; simpa using hi
    have : (dg b n)[i + 1] = (dg b (n / b))[i] := by simp only [e, List.getElem_cons_succ]
    rw [this, ih _ hi', Nat.div_div_eq_div_mul, Nat.pow_succ, Nat.mul_comm b]
/-- The digit at a place, 0 behind the last one. -/
theorem dg_getD (b : Nat) (hb : 2 ≤ b) (n i : Nat) : (dg b n).getD i 0 = n / b ^ i % b := by
  by_cases hi : i < (dg b n).length
  · rw [List.getD_eq_getElem?_getD, List.getElem?_eq_getElem hi]; exact dg_at b hb n i hi
  · rw [List.getD_eq_getElem?_getD, List.getElem?_eq_none (by omega)]
    have h1 := lt_pow_dg b hb n
    have h2 : b ^ (dg b n).length ≤ b ^ i := Nat.pow_le_pow_right (by omega) (by omega)
    rw [Nat.div_eq_of_lt (by omega)]
    simp
/-- The value of the first places. -/
theorem vl_take_dg (b : Nat) (hb : 2 ≤ b) (n i : Nat) : vl b ((dg b n).take i) = n % b ^ i := by
  by_cases hi : i ≤ (dg b n).length
  · have h := vl_dg b hb n
    have e := vl_app b ((dg b n).take i) ((dg b n).drop i)
    rw [List.take_append_drop, h, List.length_take, Nat.min_eq_left hi] at e
    have hl := vl_lt b ((dg b n).take i) (fun x hx => dg_lt b hb n x (List.mem_of_mem_take hx))
    rw [List.length_take, Nat.min_eq_left hi] at hl
    generalize vl b (List.take i (dg b n)) = t at *
    rw [e, Nat.add_mul_mod_self_left, Nat.mod_eq_of_lt hl]
  · rw [List.take_of_length_le (by omega), vl_dg b hb]
    have h1 := lt_pow_dg b hb n
    have h2 : b ^ (dg b n).length ≤ b ^ i := Nat.pow_le_pow_right (by omega) (by omega)
    rw [Nat.mod_eq_of_lt (by omega)]
end Go.Proofs.YtdahkemeoefndaaDoor.NN

namespace Go.Proofs.YtdahkemeoefndaaDoor.NN
open Go.RowKit

/-- The slice at p of A's length and of that capacity holds the numbers A, from its block's head on; nil holds none. -/
def Sl (k : IntKind) (T : TypeId) (w : World) (p : Option Addr) (cap : Nat) (A : List Nat) : Prop := w.ownsRow 0 T 1 (.slice p A.length cap) A.length (nums k A)

theorem Sl.shape {k : IntKind} {T : TypeId} {w : World} {p : Option Addr} {cap : Nat} {A : List Nat} (h : Sl k T w p cap A) :
    (p = none ∧ A = [] ∧ cap = 0) ∨ ∃ g, p = some ⟨g, 0, none⟩ ∧ g < w.heap.size ∧ A.length ≤ cap ∧ cap ≤ maxLen ∧ ∃ cur : Array Value, w.heap[g]? = some (.cells cur T (0, 0)) ∧ cur.size = cap ∧ cur.toList.take A.length = nums k A := by
  rcases h.2 with ⟨e, h0⟩ | ⟨g, cap', cur, e, _, hh, h1, h2, h3, h4⟩
  · simp only [Value.slice.injEq] at e
    exact .inl ⟨e.1, List.eq_nil_of_length_eq_zero h0, e.2.2⟩
  · simp only [Value.slice.injEq] at e
    obtain ⟨rfl, _, rfl⟩ := e
    exact .inr ⟨g, rfl, (Array.getElem?_eq_some_iff.1 hh).1, h1, h2, cur, hh, by simpa using h3, by simpa using h4⟩
theorem Sl.of_row {k : IntKind} {T : TypeId} {w : World} {g cap : Nat} {A : List Nat} {cur : Array Value} (hh : w.heap[g]? = some (.cells cur T (0, 0))) (h1 : A.length ≤ cap) (h2 : cap ≤ maxLen) (h3 : cur.size = cap) (h4 : cur.toList.take A.length = nums k A) :
    Sl k T w (some ⟨g, 0, none⟩) cap A := ⟨by simp [nums_len], .inr ⟨g, cap, cur, rfl, Nat.zero_le _, hh, h1, h2, by simpa using h3, by simpa using h4⟩⟩
theorem Sl.empty (k : IntKind) (T : TypeId) (w : World) : Sl k T w none 0 [] := World.ownsRow_nil _ _ _ _
theorem Sl.made {k : IntKind} {T : TypeId} (w : World) (A : List Nat) (hl : A.length ≤ maxLen) : Sl k T (w.alloc (.cells (nums k A).toArray T (0, 0))) (some ⟨w.heap.size, 0, none⟩) A.length A :=
  Sl.of_row (heap_alloc_new _ _) (Nat.le_refl _) hl (by simp [nums_len]) (by simp [nums, List.take_of_length_le])
theorem Sl.isPtr {k : IntKind} {T : TypeId} {w : World} {p : Option Addr} {cap : Nat} {A : List Nat} (h : Sl k T w p cap A) (hA : A ≠ []) : ∃ g, p = some ⟨g, 0, none⟩ := by
  rcases h.shape with ⟨_, e, _⟩ | ⟨g, e, _⟩
  · exact absurd e hA
  · exact ⟨g, e⟩
theorem Sl.lt {k : IntKind} {T : TypeId} {w : World} {a : Addr} {cap : Nat} {A : List Nat} (h : Sl k T w (some a) cap A) : a.block < w.heap.size := by
  rcases h.shape with ⟨e, _⟩ | ⟨g, e, hl, _⟩
  · cases e
  · cases e; exact hl
theorem Sl.cell {k : IntKind} {T : TypeId} {w : World} {g cap : Nat} {A : List Nat} (h : Sl k T w (some ⟨g, 0, none⟩) cap A) (i : Nat) (hi : i < A.length) : w.cell? ⟨g, i, none⟩ = some (.int k (A[i]'hi)) := by
  rcases h.shape with ⟨e, _⟩ | ⟨g', e, _, _, _, cur, hh, _, ht⟩
  · cases e
  · simp only [Option.some.injEq, Addr.mk.injEq] at e
    obtain ⟨rfl, _⟩ := e
    rw [cell_of_row w g i _ T (0, 0) hh]
    have := nums_get k A i hi
    rw [← ht, List.getElem?_take_of_lt hi] at this
    simpa using this
theorem Sl.froz {k : IntKind} {T : TypeId} {w : World} {g cap : Nat} {A : List Nat} (h : Sl k T w (some ⟨g, 0, none⟩) cap A) (i : Nat) : w.frozen? ⟨g, i, none⟩ = false := by
  rcases h.shape with ⟨e, _⟩ | ⟨g', e, _, _, _, cur, hh, _⟩
  · cases e
  · simp only [Option.some.injEq, Addr.mk.injEq] at e
    obtain ⟨rfl, _⟩ := e
    exact frozen_of_row w g i _ T hh
theorem Sl.cap_le {k : IntKind} {T : TypeId} {w : World} {p : Option Addr} {cap : Nat} {A : List Nat} (h : Sl k T w p cap A) : A.length ≤ cap := by
  rcases h.shape with ⟨_, e, _⟩ | ⟨g, _, _, h1, _⟩
  · subst e; simp
  · exact h1
theorem Sl.kept {k : IntKind} {T : TypeId} {w w' : World} {p : Option Addr} {cap : Nat} {A : List Nat} {S : Nat → Prop} (h : Sl k T w p cap A) (hm : Mod S w w') (hp : ∀ a, p = some a → ¬ S a.block) : Sl k T w' p cap A := by
  rcases h.shape with ⟨rfl, rfl, rfl⟩ | ⟨g, rfl, hl, h1, h2, cur, hh, h3, h4⟩
  · exact Sl.empty _ _ _
  · exact Sl.of_row ((hm.block g hl (hp _ rfl)).trans hh) h1 h2 h3 h4
theorem Sl.below {k : IntKind} {T : TypeId} {w w' : World} {p : Option Addr} {cap B : Nat} {A : List Nat} (h : Sl k T w p cap A) (hb : Below B w w') (hp : ∀ a, p = some a → a.block < B) : Sl k T w' p cap A :=
  h.kept (Mod.of_below hb) (fun a e hs => by have := hp a e; omega)
theorem Sl.old {k : IntKind} {T : TypeId} {w w' : World} {p : Option Addr} {cap : Nat} {A : List Nat} (h : Sl k T w p cap A) (hb : Below w.heap.size w w') : Sl k T w' p cap A :=
  h.below hb (fun a e => by subst e; exact h.lt)
theorem Sl.alloc {k : IntKind} {T : TypeId} {w : World} {p : Option Addr} {cap : Nat} {A : List Nat} (h : Sl k T w p cap A) (o : Obj) : Sl k T (w.alloc o) p cap A := h.old ((Below.refl _ _).alloc (Nat.le_refl _) o)
theorem Sl.drew {k : IntKind} {T : TypeId} {w : World} {p : Option Addr} {cap : Nat} {A : List Nat} (h : Sl k T w p cap A) : Sl k T w.drew p cap A := h.old (Below.refl _ _).drew
theorem Sl.other {k : IntKind} {T : TypeId} {w : World} {p : Option Addr} {cap : Nat} {A : List Nat} (h : Sl k T w p cap A) (a : Addr) (u : Value) (hp : ∀ q, p = some q → q.block ≠ a.block) : Sl k T (w.setCell a u) p cap A :=
  h.kept ((Mod.refl (· = a.block) w).setCell (fun _ => rfl) u) hp
theorem Sl.set {k : IntKind} {T : TypeId} {w : World} {g cap : Nat} {A : List Nat} (h : Sl k T w (some ⟨g, 0, none⟩) cap A) (i x : Nat) : Sl k T (w.setCell ⟨g, i, none⟩ (.int k x)) (some ⟨g, 0, none⟩) cap (A.set i x) := by
  rcases h.shape with ⟨e, _⟩ | ⟨g', e, _, h1, h2, cur, hh, h3, h4⟩
  · cases e
  · simp only [Option.some.injEq, Addr.mk.injEq] at e
    obtain ⟨rfl, _⟩ := e
    have hs := heap_setCell_same w g i cur T (.int k x) hh
    refine Sl.of_row hs (by simpa using h1) h2 (by simpa using h3) ?_
    rw [List.length_set, ← nums_set, ← h4]
    simp [List.take_set]
theorem Sl.take {k : IntKind} {T : TypeId} {w : World} {p : Option Addr} {cap : Nat} {A : List Nat} (h : Sl k T w p cap A) (m : Nat) (hm : m ≤ A.length) : Sl k T w p cap (A.take m) := by
  rcases h.shape with ⟨rfl, rfl, rfl⟩ | ⟨g, rfl, hl, h1, h2, cur, hh, h3, h4⟩
  · simpa using Sl.empty k T w
  · refine Sl.of_row hh (by simp; omega) h2 h3 ?_
    rw [List.length_take, Nat.min_eq_left hm]
    have := congrArg (List.take m) h4
    rw [List.take_take, Nat.min_eq_left hm] at this
    rw [this]; simp [nums, List.map_take]

/-- A number's limbs. -/
def lb (n : Nat) : List Nat := dg 4294967296 n
theorem lb_zero : lb 0 = [] := dg_zero _
theorem lb_lt (n : Nat) : ∀ x ∈ lb n, x < 4294967296 := dg_lt _ (by decide) n
theorem lb_vl (n : Nat) : vl 4294967296 (lb n) = n := vl_dg _ (by decide) n
theorem lb_nil {n : Nat} : lb n = [] ↔ n = 0 := ⟨dg_nil _ (by decide), fun e => by subst e; exact lb_zero⟩
/-- The slice holds n's limbs. -/
abbrev NatIn (w : World) (p : Option Addr) (cap n : Nat) : Prop := Sl .u32 59 w p cap (lb n)

/-- A box stays where nothing below has turned. -/
theorem Boxed.below' {w w' : World} {B g : Nat} {T : TypeId} {v : Value} (h : Boxed w g T v) (hb : Below B w w') (hg : g < B) : Boxed w' g T v := (hb.block g hg).trans h
theorem Boxed.mod' {w w' : World} {S : Nat → Prop} {g : Nat} {T : TypeId} {v : Value} (h : Boxed w g T v) (hm : Mod S w w') (hg : ¬ S g) : Boxed w' g T v := (hm.block g h.lt hg).trans h

/-- A call answers the number n, in new memory. -/
def NatOut (w : World) (n : Nat) (r : Ending) (w' : World) : Prop :=
  ∃ q c, r = .returned (.agg #[.slice q (lb n).length c]) ∧ NatIn w' q c n ∧ Below w.heap.size w w' ∧ (∀ a, q = some a → w.heap.size ≤ a.block)
end Go.Proofs.YtdahkemeoefndaaDoor.NN

namespace Go.Proofs.YtdahkemeoefndaaDoor.NN
open Go.RowKit

/-- Noughts behind are left out. -/
theorem trim_any (p : Option Addr) (cap : Nat) (A : List Nat) (w : World) (hS : Sl .u32 59 w p cap A) (hA : ∀ x ∈ A, x < 4294967296) (hl : A.length ≤ 1000000) :
    Calls Tryd.prog 24 #[.slice p A.length cap] w fun r w' => ∃ q c, r = .returned (.agg #[.slice q (lb (vl 4294967296 A)).length c]) ∧ NatIn w' q c (vl 4294967296 A) ∧ Below w.heap.size w w' ∧ (q = none ∨ q = p) := by
  obtain ⟨n, hn⟩ : ∃ n, n = A.length := ⟨_, rfl⟩
  rw [← hn] at hl ⊢
  have Hn := Lib.hid hn
  clear hn
  have hcap := hS.cap_le
  rw [← Hn.out] at hcap
  go_enter Tryd.func24, Tryd.ntmps24
  go_wp2_with fail
  go_loopw [3] (fun s3 wr => ∃ k : Nat, k ≤ n ∧ s3 = .int .i64 (k : Int) ∧ Hid (∀ i (hi : i < A.length), k ≤ i → A[i] = 0) ∧ wr = w.alloc (.cells #[.slice none 0 0] 26)) (fun i _ => (intOf i).toNat)
  case atStart => exact ⟨n, by omega, rfl, fun i hi h => by have := Hn.out; omega, rfl⟩
  case round =>
    obtain ⟨k, hk, rfl, hz, rfl⟩ := hrel
    by_cases hk0 : 0 < k
    · have hne : A ≠ [] := by intro e; have := Hn.out; subst e; simp at this; omega
      obtain ⟨g, rfl⟩ := hS.isPtr hne
      have hlt : k - 1 < A.length := by have := Hn.out; omega
      obtain ⟨x, hx⟩ : ∃ x, x = A[k - 1] := ⟨_, rfl⟩
      have hc := (hS.alloc (.cells #[.slice none 0 0] 26)).cell (k - 1) hlt
      rw [← hx] at hc
      have i0 : (0 : Int) ≤ (k : Int) - 1 := by omega
      have i1 : (k : Int) - 1 < n := by omega
      have i2 : ((k : Int) - 1).toNat = k - 1 := by omega
      have b0 : decide ((0 : Int) < (k : Int)) = true := by simp; omega
      have Hx := Lib.hid hx
      clear hx
      by_cases hx0 : x = 0
      · subst hx0
        have hz2 : Hid (∀ i (hi : i < A.length), k - 1 ≤ i → A[i] = 0) := by
          intro i hi h
          by_cases e : i = k - 1
          · subst e; exact Hx.out.symm
          · exact hz.out i hi (by omega)
        clear Hx hz
        go_wp2_with fail
        go_roundw
        case rel => exact ⟨k - 1, by omega, by go_num, hz2, trivial⟩
        case measure => simp [intOf]; omega
      · have hxb : ((x : Int) == 0) = false := by rw [beq_eq_false_iff_ne]; omega
        have hkb : ((k : Int) == 0) = false := by rw [beq_eq_false_iff_ne]; omega
        have hd : Hid (lb (vl 4294967296 A) = A.take k) := dg_take _ (by decide) A hA k (by have := Hn.out; omega) (fun i hi h => hz.out i hi h) (fun _ => by rw [← Hx.out]; exact hx0)
        have hln : Hid ((A.take k).length = k) := Lib.hid (by rw [List.length_take]; have := Hn.out; omega)
        clear Hx hz
        go_wp2_with fail
        refine bodyPost_ret (v := .agg #[.slice (some ⟨g, 0, none⟩) k cap]) (by simp [results, Tryd.results24, go_sem]) rfl ⟨some ⟨g, 0, none⟩, cap, ?_, ?_, ?_, .inr rfl⟩
        · rw [hd.out, hln.out]
        · show Sl _ _ _ _ _ (lb _); rw [hd.out]; exact (hS.take k (by have := Hn.out; omega)).alloc _
        · exact (Below.refl _ _).alloc (Nat.le_refl _) _
    · obtain rfl : k = 0 := by omega
      have hd : Hid (lb (vl 4294967296 A) = []) := dg_take _ (by decide) A hA 0 (by omega) (fun i hi h => hz.out i hi h) (fun h => by omega)
      clear hz
      go_wp2_with fail
      refine bodyPost_ret (v := .agg #[.slice none 0 0]) (by simp [results, Tryd.results24, go_sem]) rfl ⟨none, 0, ?_, ?_, ?_, .inl rfl⟩
      · rw [hd.out]; rfl
      · show Sl _ _ _ _ _ (lb _); rw [hd.out]; exact Sl.empty _ _ _
      · exact (Below.refl _ _).alloc (Nat.le_refl _) _

theorem vl_two (x : Nat) : vl 4294967296 [x % 4294967296, x / 4294967296] = x := by
  simp only [vl]; omega

theorem nofn_any (x : Nat) (w : World) (hx : Hid (x < 18446744073709551616)) :
    Calls Tryd.prog 6 #[.int .u64 x] w (NatOut w x) := by
  obtain ⟨a, ha⟩ : ∃ a, a = x % 4294967296 := ⟨_, rfl⟩
  obtain ⟨b, hb⟩ : ∃ b, b = x / 4294967296 % 4294967296 := ⟨_, rfl⟩
  have e1 : (x : Int) % 4294967296 = a := by omega
  have e2 : (x : Int) / 4294967296 % 4294967296 = b := by omega
  have ev : Hid (vl 4294967296 [a, b] = x) := Lib.hid (by have := hx.out; simp only [vl]; omega)
  have hA : ∀ y ∈ [a, b], y < 4294967296 := by intro y hy; simp at hy; omega
  clear ha hb
  go_enter Tryd.func6, Tryd.ntmps6
  go_wp2_with fail
  have hS := Sl.made (k := .u32) (T := 59) (w.alloc (.cells #[.slice none 0 0] 26)) [a, b] (by simp [maxLen])
  rw [World.size_alloc] at hS
  have hB : Below w.heap.size w ((w.alloc (.cells #[.slice none 0 0] 26)).alloc (.cells (nums .u32 [a, b]).toArray 59)) := ((Below.refl _ _).alloc (Nat.le_refl _) _).alloc (by simp) _
  refine (trim_any (some ⟨w.heap.size + 1, 0, none⟩) 2 [a, b] _ hS hA (by simp)).mono ?_
  rintro r w' ⟨q, c, rfl, hN, hb, hq⟩
  rw [ev.out] at hN ⊢
  have hq2 : ∀ a, q = some a → w.heap.size + 1 ≤ a.block := by rintro a rfl; rcases hq with h | h <;> cases h; simp
  have hB2 := hB.trans (hb.mono (by simp; omega))
  have hbx : Boxed w' w.heap.size 26 (.slice none 0 0) := (hb.block w.heap.size (by simp; omega)).trans (by rw [Below.heap_alloc _ _ _ (by simp)]; exact heap_alloc_new _ _)
  have hc := hbx.cell
  have hf := hbx.frozen
  clear hB hS hq hb
  go_wp2_with fail
  have hbs := hbx.set (.slice q (lb x).length c)
  have hc2 := hbs.cell
  refine bodyPost_ret (v := .agg #[.slice q (lb x).length c]) (by simp [results, Tryd.results6, go_sem, hc2]) rfl ⟨q, c, rfl, ?_, ?_, fun a e => Nat.le_of_succ_le (hq2 a e)⟩
  · exact hN.other ⟨w.heap.size, 0, none⟩ _ (fun a e => by have := hq2 a e; simp; omega)
  · exact hB2.setCell (p := ⟨w.heap.size, 0, none⟩) (Nat.le_refl _) _

theorem zero_any (p : Option Addr) (cap n : Nat) (w : World) :
    Calls Tryd.prog 30 #[.agg #[.slice p (lb n).length cap]] w fun r w' => r = .returned (.bool (n == 0)) ∧ Below w.heap.size w w' := by
  have h : ((lb n).length == 0) = (n == 0) := by
    rw [Bool.eq_iff_iff]; simp only [beq_iff_eq]
    rw [List.length_eq_zero_iff]; exact lb_nil
  have h2 : (((lb n).length : Int) == 0) = (n == 0) := by rw [← h, Bool.eq_iff_iff]; simp
  clear h
  go_enter Tryd.func30, Tryd.ntmps30
  go_wp2_with fail
  go_ret
  exact ⟨rfl, (Below.refl _ _).alloc (Nat.le_refl _) _⟩
end Go.Proofs.YtdahkemeoefndaaDoor.NN

namespace Go.Proofs.YtdahkemeoefndaaDoor.NN

theorem vl_set (b : Nat) (l : List Nat) (p v : Nat) (hp : p < l.length) : vl b (l.set p v) + b ^ p * l[p] = vl b l + b ^ p * v := by
  induction l generalizing p with
  | nil => simp at hp
  | cons x l ih =>
    cases p with
    | zero => simp [vl]; omega
    | succ p =>
      have hp' : p < l.length := by simpa using hp
      have h := ih p hp'
      simp only [List.set_cons_succ, vl, List.getElem_cons_succ, Nat.pow_succ]
      have e : ∀ t, b ^ p * b * t = b * (b ^ p * t) := by intro t; rw [Nat.mul_comm (b ^ p) b, Nat.mul_assoc]
      rw [e, e]
      generalize b ^ p * l[p] = s at *
      generalize b ^ p * v = t at *
      have := congrArg (b * ·) h
      simp only [Nat.mul_add] at this
      omega

/-- One place more of a number. -/
theorem mod_succ (x b i : Nat) : x % b ^ (i + 1) = x % b ^ i + b ^ i * (x / b ^ i % b) := Nat.mod_pow_succ

/-- A place of a sum. -/
theorem add_step (b x y i v c s : Nat) (hs : s = c + x / b ^ i % b + y / b ^ i % b) (h : v + b ^ i * c = x % b ^ i + y % b ^ i) :
    v + b ^ i * (s % b) + b ^ (i + 1) * (s / b) = x % b ^ (i + 1) + y % b ^ (i + 1) := by
  rw [mod_succ, mod_succ, Nat.pow_succ]
  have e : b ^ i * (s % b) + b ^ i * b * (s / b) = b ^ i * s := by rw [Nat.mul_assoc, ← Nat.mul_add, Nat.mod_add_div]
  rw [Nat.add_assoc, e, hs, Nat.mul_add, Nat.mul_add]
  generalize b ^ i * c = p at *
  omega

/-- A place of a product with one limb. -/
theorem mul_step (b y j v r u P c s w m : Nat) (hs : s = c + m * (y / b ^ j % b) + r) (h : v + P * b ^ j * c = u + P * m * (y % b ^ j)) (hv : w + P * b ^ j * r = v + P * b ^ j * (s % b)) :
    w + P * b ^ (j + 1) * (s / b) = u + P * m * (y % b ^ (j + 1)) := by
  rw [mod_succ, Nat.pow_succ, Nat.mul_add]
  generalize y / b ^ j % b = d at *
  generalize y % b ^ j = t at *
  generalize b ^ j = q at *
  have e1 : P * (q * b) * (s / b) = P * q * (b * (s / b)) := by rw [← Nat.mul_assoc, Nat.mul_assoc (P * q)]
  have e2 : P * m * (q * d) = P * q * (m * d) := by rw [Nat.mul_assoc, Nat.mul_assoc, Nat.mul_left_comm m]
  have e3 : P * q * (s % b) + P * q * (b * (s / b)) = P * q * s := by rw [← Nat.mul_add, Nat.mod_add_div]
  rw [e1, e2]
  have e4 : P * q * s = P * q * c + P * q * (m * d) + P * q * r := by rw [hs, Nat.mul_add, Nat.mul_add]
  generalize P * q * (s % b) = a1 at *
  generalize P * q * (b * (s / b)) = a2 at *
  generalize P * q * s = a3 at *
  generalize P * q * c = a4 at *
  generalize P * q * (m * d) = a5 at *
  generalize P * q * r = a6 at *
  generalize P * m * t = a7 at *
  omega

/-- A place of a difference. -/
theorem sub_step (b x y i v c dx dy : Nat) (hb : 0 < b) (hdx : dx = x / b ^ i % b) (hdy : dy = y / b ^ i % b) (hc : c ≤ 1) (h : v + y % b ^ i = x % b ^ i + b ^ i * c) :
    v + b ^ i * ((b + dx - dy - c) % b) + y % b ^ (i + 1) = x % b ^ (i + 1) + b ^ (i + 1) * (if dx < dy + c then 1 else 0) := by
  have hx : dx < b := by rw [hdx]; exact Nat.mod_lt _ hb
  have hy : dy < b := by rw [hdy]; exact Nat.mod_lt _ hb
  rw [mod_succ, mod_succ, ← hdx, ← hdy, Nat.pow_succ]
  generalize b ^ i = q at *
  generalize y % q = yt at *
  generalize x % q = xt at *
  split
  · rename_i hlt
    have e : (b + dx - dy - c) % b = b + dx - dy - c := Nat.mod_eq_of_lt (by omega)
    rw [e]
    have e2 : q * (b + dx - dy - c) + q * dy + q * c = q * b + q * dx := by
      rw [← Nat.mul_add, ← Nat.mul_add, ← Nat.mul_add]; congr 1; omega
    rw [Nat.mul_one]
    generalize q * (b + dx - dy - c) = a1 at *
    generalize q * dy = a2 at *
    generalize q * c = a3 at *
    generalize q * dx = a4 at *
    generalize q * b = a5 at *
    omega
  · rename_i hlt
    have e : (b + dx - dy - c) % b = dx - dy - c := by
      rw [show b + dx - dy - c = b + (dx - dy - c) by omega, Nat.add_mod_left]; exact Nat.mod_eq_of_lt (by omega)
    rw [e]
    have e2 : q * (dx - dy - c) + q * dy + q * c = q * dx := by
      rw [← Nat.mul_add, ← Nat.mul_add]; congr 1; omega
    rw [Nat.mul_zero]
    generalize q * (dx - dy - c) = a1 at *
    generalize q * dy = a2 at *
    generalize q * c = a3 at *
    generalize q * dx = a4 at *
    omega

/-- The quotient by a small number, from the highest place on. -/
theorem div_step (b x i d : Nat) : x / b ^ i / d = x / b ^ (i + 1) / d * b + ((x / b ^ (i + 1) % d) * b + x / b ^ i % b) / d ∧
    x / b ^ i % d = ((x / b ^ (i + 1) % d) * b + x / b ^ i % b) % d := by
  have e : x / b ^ i = b * (x / b ^ (i + 1)) + x / b ^ i % b := by
    rw [Nat.pow_succ, ← Nat.div_div_eq_div_mul]; exact (Nat.div_add_mod _ b).symm
  generalize x / b ^ (i + 1) = h at *
  generalize x / b ^ i % b = l at *
  rw [e]
  have e2 : b * h + l = d * (h / d * b) + (h % d * b + l) := by
    have := congrArg (b * ·) (Nat.div_add_mod h d)
    simp only [Nat.mul_add] at this
    rw [Nat.mul_comm (h % d) b, ← Nat.add_assoc, ← this]
    congr 2
    rw [Nat.mul_left_comm, Nat.mul_comm (h / d) b]
  rcases Nat.eq_zero_or_pos d with hd | hd
  · subst hd; simp [Nat.mul_comm]
  · constructor
    · conv => lhs; rw [e2]
      rw [Nat.add_comm, Nat.add_mul_div_left _ _ hd, Nat.add_comm]
    · conv => lhs; rw [e2]
      rw [Nat.mul_add_mod]
end Go.Proofs.YtdahkemeoefndaaDoor.NN

namespace Go.Proofs.YtdahkemeoefndaaDoor.NN
open Go.RowKit

theorem info_u32 : (Tryd.prog.info? 59).map (fun i => (i.zero, i.size, i.bytes)) = some (some (.int .u32 0), 1, 4) := by kernel_rfl
theorem nums_zeros (k : IntKind) (n : Nat) : nums k (List.replicate n 0) = List.replicate n (.int k 0) := by simp [nums]

/-- 'make([]uint32, n)'. -/
theorem wpList_make32 {ops : Array Oper} {rest : List Oper} {o : Oper} {a : Act} {Q : Exit → Act → World → Prop} {w : World} (hgd : o.guard = none) (l c : Operand) (hop : o.op = Op.makeSlice 24 l c)
    (n : Nat) (L C : Int) (hl : a.eval l = .int .i64 L) (hc : a.eval c = .int .i64 C) (hL : L = (n : Int)) (hC : C = (n : Int)) (hn : n ≤ 1000000)
    (hK : ∀ w', Sl .u32 59 w' (some ⟨w.heap.size, 0, none⟩) n (List.replicate n 0) → Below w.heap.size w w' → w.heap.size < w'.heap.size → wpList Tryd.prog ops Q rest (a.put o.dst (.slice (some ⟨w.heap.size, 0, none⟩) n n)) w') :
    wpList Tryd.prog ops Q (o :: rest) a w := by
  obtain ⟨i, hi, hz, h1, h2⟩ := info_parts info_u32
  refine wpList_make_full w hgd l c 24 hop 0 59 i (.int .u32 0) 1 Tryd.underlying24 hi hz h1 .i64 .i64 L C n hl hc hL hC (by rw [h2]; omega) (by unfold maxLen; omega) (Nat.zero_le _) ?_
  intro w' hown hgrow
  have e : (madeCells (Value.int .u32 0).cells (n * 1)).toList = nums .u32 (List.replicate n 0) := by
    rw [nums_zeros, Nat.mul_one]; exact toList_madeCells_one _ _
  rw [e] at hown
  refine hK w' ?_ ((Below.refl _ _).grown hgrow (Nat.le_refl _) (by intro k h; cases h)) ?_
  · unfold Sl; rw [List.length_replicate]; exact hown
  · rcases hown.2 with ⟨h, _⟩ | ⟨g, cap, cur, h, _, hh, _⟩
    · cases h
    · simp only [Value.slice.injEq, Option.some.injEq, Addr.mk.injEq] at h
      obtain ⟨⟨rfl, _⟩, _⟩ := h
      exact (Array.getElem?_eq_some_iff.1 hh).1
end Go.Proofs.YtdahkemeoefndaaDoor.NN

namespace Go.Proofs.YtdahkemeoefndaaDoor.NN
open Go.RowKit

/-- While it is added. -/
structure AddR (W : World) (g n x y i : Nat) (S : List Nat) (c : Nat) (wr : World) : Prop where
  s : Sl .u32 59 wr (some ⟨g, 0, none⟩) (n + 1) S
  len : S.length = n + 1
  lt : ∀ z ∈ S, z < 4294967296
  zero : ∀ t (h : t < S.length), i ≤ t → S[t] = 0
  val : vl 4294967296 S + 4294967296 ^ i * c = x % 4294967296 ^ i + y % 4294967296 ^ i
  c1 : c ≤ 1
  m : Mod (· = g) W wr
theorem set_lt {l : List Nat} {b i v : Nat} (h : ∀ z ∈ l, z < b) (hv : v < b) : ∀ z ∈ l.set i v, z < b := by
  intro z hz
  rcases List.mem_or_eq_of_mem_set hz with h1 | h1
  · exact h z h1
  · omega
theorem set_zero {l : List Nat} {i v : Nat} (h : ∀ t (h : t < l.length), i ≤ t → l[t] = 0) : ∀ t (h : t < (l.set i v).length), i + 1 ≤ t → (l.set i v)[t] = 0 := by
  intro t ht hi
  rw [List.getElem_set_ne (by omega)]
  exact h t (by simpa using ht) (by omega)
theorem AddR.next {W : World} {g n x y i : Nat} {S : List Nat} {c : Nat} {wr : World} (h : AddR W g n x y i S c wr) (hi : i ≤ n) (s : Nat) (hs : s = c + x / 4294967296 ^ i % 4294967296 + y / 4294967296 ^ i % 4294967296) :
    AddR W g n x y (i + 1) (S.set i (s % 4294967296)) (s / 4294967296) (wr.setCell ⟨g, i, none⟩ (.int .u32 ((s % 4294967296 : Nat) : Int))) := by
  have hl : i < S.length := by rw [h.len]; omega
  have hz := h.zero i hl (Nat.le_refl _)
  have hv := vl_set 4294967296 S i (s % 4294967296) hl
  rw [hz, Nat.mul_zero, Nat.add_zero] at hv
  refine ⟨h.s.set _ _, by simpa using h.len, set_lt h.lt (Nat.mod_lt _ (by decide)), set_zero h.zero, ?_, ?_, h.m.setCell (fun _ => rfl) _⟩
  · rw [hv]; exact add_step _ x y i _ c s hs h.val
  · have h1 := h.c1
    have h2 : x / 4294967296 ^ i % 4294967296 < 4294967296 := Nat.mod_lt _ (by decide)
    have h3 : y / 4294967296 ^ i % 4294967296 < 4294967296 := Nat.mod_lt _ (by decide)
    generalize x / 4294967296 ^ i % 4294967296 = dx at *
    generalize y / 4294967296 ^ i % 4294967296 = dy at *
    omega

set_option maxHeartbeats 1000000 in
theorem add_any (p q : Option Addr) (cp cq x y : Nat) (w : World) (hx : NatIn w p cp x) (hy : NatIn w q cq y) (lx : (lb x).length ≤ 100000) (ly : (lb y).length ≤ 100000) :
    Calls Tryd.prog 8 #[.agg #[.slice p (lb x).length cp], .agg #[.slice q (lb y).length cq]] w (NatOut w (x + y)) := by
  obtain ⟨z, hz⟩ : ∃ z, z = x + y := ⟨_, rfl⟩
  rw [← hz]
  have Hz := Lib.hid hz
  clear hz
  go_enter Tryd.func8, Tryd.ntmps8
  go_upto_region 3 with fail
  obtain ⟨P, rfl⟩ : ∃ P, P = q := ⟨_, rfl⟩
  obtain ⟨C, rfl⟩ : ∃ C, C = cq := ⟨_, rfl⟩
  obtain ⟨X, rfl⟩ : ∃ X, X = y := ⟨_, rfl⟩
  obtain ⟨Q, rfl⟩ : ∃ Q, Q = p := ⟨_, rfl⟩
  obtain ⟨D, rfl⟩ : ∃ D, D = cp := ⟨_, rfl⟩
  obtain ⟨Y, rfl⟩ : ∃ Y, Y = x := ⟨_, rfl⟩
  have hX := hy
  have hY := hx
  have lX := ly
  have lY := lx
  have hle0 : (lb Y).length ≤ (lb X).length := by omega
  have HZ : Hid (z = X + Y) := Lib.hid (by rw [Hz.out, Nat.add_comm])
  clear hx hy lx ly Hz
  revert HZ hle0 lX lY hX hY
  rotate_left
  obtain ⟨P, rfl⟩ : ∃ P, P = p := ⟨_, rfl⟩
  obtain ⟨C, rfl⟩ : ∃ C, C = cp := ⟨_, rfl⟩
  obtain ⟨X, rfl⟩ : ∃ X, X = x := ⟨_, rfl⟩
  obtain ⟨Q, rfl⟩ : ∃ Q, Q = q := ⟨_, rfl⟩
  obtain ⟨D, rfl⟩ : ∃ D, D = cq := ⟨_, rfl⟩
  obtain ⟨Y, rfl⟩ : ∃ Y, Y = y := ⟨_, rfl⟩
  have hX := hx
  have hY := hy
  have lX := lx
  have lY := ly
  have hle0 : (lb Y).length ≤ (lb X).length := by omega
  have HZ : Hid (z = X + Y) := Hz
  clear hx hy lx ly Hz
  revert HZ hle0 lX lY hX hY
  all_goals
    intro hX hY lX lY hle0 HZ
    have h2 : Boxed (((w.alloc (.cells #[.slice P (lb X).length C] 26)).alloc (.cells #[.slice Q (lb Y).length D] 26)).alloc (.cells #[.slice none 0 0] 26)) w.heap.size 26 (.slice P (lb X).length C) := ((Boxed.new w _ _).alloc _).alloc _
    have h3 : Boxed (((w.alloc (.cells #[.slice P (lb X).length C] 26)).alloc (.cells #[.slice Q (lb Y).length D] 26)).alloc (.cells #[.slice none 0 0] 26)) (w.heap.size + 1) 26 (.slice Q (lb Y).length D) := by
      have := (Boxed.new (w.alloc (.cells #[.slice P (lb X).length C] 26)) 26 (.slice Q (lb Y).length D)).alloc (.cells #[.slice none 0 0] 26)
      rwa [World.size_alloc] at this
    have h4 : Boxed (((w.alloc (.cells #[.slice P (lb X).length C] 26)).alloc (.cells #[.slice Q (lb Y).length D] 26)).alloc (.cells #[.slice none 0 0] 26)) (w.heap.size + 1 + 1) 26 (.slice none 0 0) := by
      have := Boxed.new ((w.alloc (.cells #[.slice P (lb X).length C] 26)).alloc (.cells #[.slice Q (lb Y).length D] 26)) 26 (.slice none 0 0)
      rwa [World.size_alloc, World.size_alloc] at this
    have hB : Below w.heap.size w (((w.alloc (.cells #[.slice P (lb X).length C] 26)).alloc (.cells #[.slice Q (lb Y).length D] 26)).alloc (.cells #[.slice none 0 0] 26)) := (((Below.refl _ _).alloc (Nat.le_refl _) _).alloc (by simp) _).alloc (by simp; omega) _
    have hsz : (((w.alloc (.cells #[.slice P (lb X).length C] 26)).alloc (.cells #[.slice Q (lb Y).length D] 26)).alloc (.cells #[.slice none 0 0] 26)).heap.size = w.heap.size + 3 := by simp
    generalize (((w.alloc (.cells #[.slice P (lb X).length C] 26)).alloc (.cells #[.slice Q (lb Y).length D] 26)).alloc (.cells #[.slice none 0 0] 26)) = W at h2 h3 h4 hB hsz ⊢
    obtain ⟨nX, hnX⟩ : ∃ n, n = (lb X).length := ⟨_, rfl⟩
    obtain ⟨nY, hnY⟩ : ∃ n, n = (lb Y).length := ⟨_, rfl⟩
    rw [← hnX] at h2 lX ⊢
    rw [← hnY] at h3 lY ⊢
    replace hle0 := Lib.hid hle0
    have HnX := Lib.hid hnX
    have HnY := Lib.hid hnY
    clear hnX hnY
    have c2 := h2.cell
    have c3 := h3.cell
    have c4 := h4.cell
    have Hsz := Lib.hid hsz
    clear hsz
    go_upto_block 0 with (first | (at_make; refine wpList_make32 rfl _ _ rfl (nX + 1) _ _ rfl rfl (by go_num) (by go_num) (by omega) ?_; intro W1 hS1 hb1 hl1; have k2 := Boxed.below' h2 hb1 h2.lt; have k3 := Boxed.below' h3 hb1 h3.lt; have k4 := Boxed.below' h4 hb1 h4.lt; have d2 := k2.cell; have d3 := k3.cell; have f4 := k4.frozen; have d4 := k4.cell) | fail)
    clear c2 c3 c4 h2 h3 h4
    have hXP : NatIn W1 P C X := hX.below (hB.trans (hb1.mono (by rw [Hsz.out]; omega))) (fun a e => by subst e; exact hX.lt)
    have hYQ : NatIn W1 Q D Y := hY.below (hB.trans (hb1.mono (by rw [Hsz.out]; omega))) (fun a e => by subst e; exact hY.lt)
    have hW1 : Below w.heap.size w W1 := hB.trans (hb1.mono (by rw [Hsz.out]; omega))
    have bX : ∀ a, P = some a → a.block < W.heap.size := by rintro a rfl; have := hX.lt; rw [Hsz.out]; omega
    have bY : ∀ a, Q = some a → a.block < W.heap.size := by rintro a rfl; have := hY.lt; rw [Hsz.out]; omega
    have n2 : w.heap.size < W.heap.size := by rw [Hsz.out]; omega
    have n3 : w.heap.size + 1 < W.heap.size := by rw [Hsz.out]; omega
    have n4 : w.heap.size + 1 + 1 < W.heap.size := by rw [Hsz.out]; omega
    have hle : nY ≤ nX := by rw [HnX.out, HnY.out]; exact hle0.out
    generalize W.heap.size = g at hS1 bX bY n2 n3 n4 ⊢
    have hA0 : AddR W1 g nX X Y 0 (List.replicate (nX + 1) 0) 0 W1 := ⟨hS1, by simp, by intro z hz; rw [List.eq_of_mem_replicate hz]; decide, by intro t ht _; simp, by rw [vl_zeros]; simp [Nat.mod_one], by omega, Mod.refl _ _⟩
    clear hX hY hb1 hl1 hB d2 d3 d4 f4 hS1
    go_cut [6] (fun s6 wx => ∃ (S : List Nat) (c : Nat), s6 = .int .u64 (c : Int) ∧ AddR W1 g nX X Y nX S c wx)
    case first =>
      go_wp2_with fail
      go_loopw [6, 26] (fun s6 s26 wr => ∃ (i : Nat) (S : List Nat) (c : Nat), i ≤ nX ∧ s26 = .int .i64 (i : Int) ∧ s6 = .int .u64 (c : Int) ∧ AddR W1 g nX X Y i S c wr) (fun _ i _ => nX - (intOf i).toNat)
      case atStart => exact ⟨0, _, 0, by omega, rfl, rfl, hA0⟩
      case round =>
        clear hA0
        obtain ⟨i, S, c, hi, rfl, rfl, hA⟩ := hrel
        by_cases hin : i < nX
        · skip
          have hne : lb X ≠ [] := by intro e; have := HnX.out; rw [e] at this; simp at this; omega
          obtain ⟨gP, rfl⟩ := hXP.isPtr hne
          have hgP : gP < g := bX _ rfl
          have hXr := hXP.kept hA.m (by rintro a e; cases e; show ¬ gP = g; omega)
          have hil : i < (lb X).length := by rw [← HnX.out]; exact hin
          obtain ⟨dx, hdx⟩ : ∃ d, d = X / 4294967296 ^ i % 4294967296 := ⟨_, rfl⟩
          obtain ⟨dy, hdy⟩ : ∃ d, d = Y / 4294967296 ^ i % 4294967296 := ⟨_, rfl⟩
          have ldx : dx < 4294967296 := by rw [hdx]; exact Nat.mod_lt _ (by decide)
          have ldy : dy < 4294967296 := by rw [hdy]; exact Nat.mod_lt _ (by decide)
          have cx : wr.cell? ⟨gP, i, none⟩ = some (.int .u32 (dx : Int)) := by rw [hdx, ← dg_at 4294967296 (by decide) X i hil]; exact hXr.cell i hil
          have r3 := (Boxed.mod' k3 hA.m (by omega)).cell
          have hSl : i < S.length := by rw [hA.len]; omega
          have cS := hA.s.cell i hSl
          have fS := hA.s.froz i
          have c1 := hA.c1
          have i0 : (0 : Int) ≤ i := by omega
          have i1 : (i : Int) < nX := by omega
          have i2 : (i : Int) < nX + 1 := by omega
          generalize S[i] = old at cS
          obtain ⟨s, hs⟩ : ∃ s, s = c + dx + dy := ⟨_, rfl⟩
          have Hn := Lib.hid (hA.next (by omega) s (by rw [hs, hdx, hdy]))
          obtain ⟨v, hv⟩ : ∃ v, v = s % 4294967296 := ⟨_, rfl⟩
          obtain ⟨c2, hc2⟩ : ∃ c2, c2 = s / 4294967296 := ⟨_, rfl⟩
          rw [← hv, ← hc2] at Hn
          by_cases hiy : i < nY
          · have hne2 : lb Y ≠ [] := by intro e; have := HnY.out; rw [e] at this; simp at this; omega
            obtain ⟨gQ, rfl⟩ := hYQ.isPtr hne2
            have hgQ : gQ < g := bY _ rfl
            have hYr := hYQ.kept hA.m (by rintro a e; cases e; show ¬ gQ = g; omega)
            have hil2 : i < (lb Y).length := by rw [← HnY.out]; exact hiy
            have cy : wr.cell? ⟨gQ, i, none⟩ = some (.int .u32 (dy : Int)) := by rw [hdy, ← dg_at 4294967296 (by decide) Y i hil2]; exact hYr.cell i hil2
            have e1 : ((c : Int) + dx + dy) % 4294967296 = v := by omega
            have e2 : ((c : Int) + dx + dy) / 4294967296 = c2 := by omega
            have i3 : (i : Int) < nY := by omega
            clear hdx hdy hs hv hc2
            go_wp2_with fail
            go_roundw
            case rel => exact ⟨i + 1, _, c2, by omega, by go_num, rfl, Hn.out⟩
            case measure => simp [intOf]; omega
          · have hy0 : dy = 0 := by
              have h := dg_getD 4294967296 (by decide) Y i
              rw [List.getD_eq_getElem?_getD, List.getElem?_eq_none (by show (lb Y).length ≤ i; rw [← HnY.out]; omega)] at h
              rw [hdy, ← h]; rfl
            have e1 : ((c : Int) + dx) % 4294967296 = v := by omega
            have e2 : ((c : Int) + dx) / 4294967296 = c2 := by omega
            clear hdx hdy hs hv hc2 hy0
            go_wp2_with fail
            go_roundw
            case rel => exact ⟨i + 1, _, c2, by omega, by go_num, rfl, Hn.out⟩
            case measure => simp [intOf]; omega
        · obtain rfl : i = nX := by omega
          go_wp2_with fail
          go_meet
          exact ⟨S, c, rfl, hA⟩
    case rest =>
    obtain ⟨S, c, rfl, hA⟩ := hcut
    clear hA0
    rename World => wz
    have r2 := (Boxed.mod' k2 hA.m (by omega)).cell
    have hSl : nX < S.length := by rw [hA.len]; omega
    have cS := hA.s.cell nX hSl
    have fS := hA.s.froz nX
    have c1 := hA.c1
    have i0 : (0 : Int) ≤ nX := by omega
    have i1 : (nX : Int) < nX + 1 := by omega
    generalize S[nX] = old at cS
    have e1 : (c : Int) % 4294967296 = c := by omega
    have hval : Hid (vl 4294967296 (S.set nX c) = z) := Lib.hid (by
      have hv := vl_set 4294967296 S nX c hSl
      rw [hA.zero nX hSl (Nat.le_refl _), Nat.mul_zero, Nat.add_zero, hA.val] at hv
      have hx := lt_pow_dg 4294967296 (by decide) X
      have hy := lt_pow_dg 4294967296 (by decide) Y
      have hxn : X < 4294967296 ^ nX := by rw [HnX.out]; exact hx
      have hyn : Y < 4294967296 ^ nX := Nat.lt_of_lt_of_le hy (Nat.pow_le_pow_right (by decide) (by show (lb Y).length ≤ nX; rw [← HnY.out]; exact hle))
      rw [HZ.out, hv, Nat.mod_eq_of_lt hxn, Nat.mod_eq_of_lt hyn])
    have hTS := hA.s.set nX c
    have hTl : (S.set nX c).length = nX + 1 := by rw [List.length_set]; exact hA.len
    have hTb := set_lt (i := nX) hA.lt (show c < 4294967296 by omega)
    have hM2 : Mod (· = g) W1 (wz.setCell ⟨g, nX, none⟩ (.int .u32 (c : Int))) := hA.m.setCell (fun _ => rfl) _
    generalize S.set nX c = T at hval hTS hTl hTb
    clear hA hSl hle
    go_wp2_with fail
    generalize wz.setCell ⟨g, nX, none⟩ (.int .u32 (c : Int)) = wy at hTS hM2 ⊢
    clear cS fS r2 e1
    have htr := trim_any (some ⟨g, 0, none⟩) (nX + 1) T wy hTS hTb (by omega)
    rw [hTl, hval.out] at htr
    refine htr.mono ?_
    clear htr
    rintro r w' ⟨q, c', rfl, hN, hb, hq⟩
    have hm3 : Mod (· = g) W1 w' := hM2.trans (Mod.of_below hb) (by have := hTS.lt; intro i hi h; have := hM2.size; omega)
    have b4 := Boxed.mod' k4 hm3 (by omega)
    have hq2 : ∀ a, q = some a → w.heap.size + 1 + 1 < a.block := by rintro a rfl; rcases hq with h | h <;> cases h; exact n4
    have hB2 : Below w.heap.size w w' := hW1.trans (hm3.to_below (by have := hW1.size; omega) (by intro k hk h; omega))
    have c4 := b4.cell
    have f4 := b4.frozen
    clear hb hq hm3 hM2 hTS hTb k2 k3 k4 hW1 hXP hYQ bX bY
    go_wp2_with fail
    have c5 := (b4.set (.slice q (lb z).length c')).cell
    refine bodyPost_ret (v := .agg #[.slice q (lb z).length c']) (by simp [results, Tryd.results8, go_sem, c5]) rfl ⟨q, c', rfl, ?_, ?_, fun a e => by have := hq2 a e; omega⟩
    · exact hN.other ⟨w.heap.size + 1 + 1, 0, none⟩ _ (fun a e => by have := hq2 a e; show a.block ≠ w.heap.size + 1 + 1; omega)
    · exact hB2.setCell (p := ⟨w.heap.size + 1 + 1, 0, none⟩) (by show w.heap.size ≤ w.heap.size + 1 + 1; omega) _
end Go.Proofs.YtdahkemeoefndaaDoor.NN

namespace Go.Proofs.YtdahkemeoefndaaDoor.NN
open Go.RowKit

/-- While it is multiplied: i limbs of x are. -/
structure MulR (W : World) (g n nY x y i : Nat) (S : List Nat) (wr : World) : Prop where
  s : Sl .u32 59 wr (some ⟨g, 0, none⟩) n S
  len : S.length = n
  lt : ∀ z ∈ S, z < 4294967296
  zero : ∀ t (h : t < S.length), i + nY ≤ t → S[t] = 0
  val : vl 4294967296 S = x % 4294967296 ^ i * y
  m : Mod (· = g) W wr
/-- .. and j limbs of y with the next one. -/
structure MulI (W : World) (g n nY x y i j : Nat) (S : List Nat) (c : Nat) (wr : World) : Prop where
  s : Sl .u32 59 wr (some ⟨g, 0, none⟩) n S
  len : S.length = n
  lt : ∀ z ∈ S, z < 4294967296
  zero : ∀ t (h : t < S.length), i + nY ≤ t → S[t] = 0
  val : vl 4294967296 S + 4294967296 ^ i * 4294967296 ^ j * c = x % 4294967296 ^ i * y + 4294967296 ^ i * (x / 4294967296 ^ i % 4294967296) * (y % 4294967296 ^ j)
  c1 : c < 4294967296
  m : Mod (· = g) W wr
theorem MulR.begin {W : World} {g n nY x y i : Nat} {S : List Nat} {wr : World} (h : MulR W g n nY x y i S wr) : MulI W g n nY x y i 0 S 0 wr :=
  ⟨h.s, h.len, h.lt, h.zero, by rw [h.val]; simp [Nat.mod_one], by decide, h.m⟩
theorem MulI.next {W : World} {g n nY x y i j : Nat} {S : List Nat} {c : Nat} {wr : World} (h : MulI W g n nY x y i j S c wr) (hl : i + j < S.length) (hj : j < nY) (s : Nat)
    (hs : s = c + (x / 4294967296 ^ i % 4294967296) * (y / 4294967296 ^ j % 4294967296) + S[i + j]) :
    MulI W g n nY x y i (j + 1) (S.set (i + j) (s % 4294967296)) (s / 4294967296) (wr.setCell ⟨g, i + j, none⟩ (.int .u32 ((s % 4294967296 : Nat) : Int))) := by
  have hv := vl_set 4294967296 S (i + j) (s % 4294967296) hl
  rw [Nat.pow_add] at hv
  refine ⟨h.s.set _ _, by simpa using h.len, set_lt h.lt (Nat.mod_lt _ (by decide)), ?_, mul_step _ y j _ _ _ _ c s _ _ hs h.val hv, ?_, h.m.setCell (fun _ => rfl) _⟩
  · intro t ht hit
    rw [List.getElem_set_ne (by omega)]
    exact h.zero t (by simpa using ht) hit
  · have h1 := h.c1
    have h2 : x / 4294967296 ^ i % 4294967296 ≤ 4294967295 := Nat.le_of_lt_succ (Nat.mod_lt _ (by decide))
    have h3 : y / 4294967296 ^ j % 4294967296 ≤ 4294967295 := Nat.le_of_lt_succ (Nat.mod_lt _ (by decide))
    have h4 := h.lt S[i + j] (List.getElem_mem _)
    have h5 := Nat.mul_le_mul h2 h3
    generalize (x / 4294967296 ^ i % 4294967296) * (y / 4294967296 ^ j % 4294967296) = p at *
    generalize S[i + j] = r at *
    omega
theorem MulI.fin {W : World} {g n nY x y i : Nat} {S : List Nat} {c : Nat} {wr : World} (h : MulI W g n nY x y i nY S c wr) (hl : i + nY < S.length) (hy : y < 4294967296 ^ nY) :
    MulR W g n nY x y (i + 1) (S.set (i + nY) c) (wr.setCell ⟨g, i + nY, none⟩ (.int .u32 (c : Int))) := by
  have hv := vl_set 4294967296 S (i + nY) c hl
  rw [h.zero (i + nY) hl (Nat.le_refl _), Nat.mul_zero, Nat.add_zero, Nat.pow_add, h.val, Nat.mod_eq_of_lt hy] at hv
  refine ⟨h.s.set _ _, by simpa using h.len, set_lt h.lt h.c1, ?_, ?_, h.m.setCell (fun _ => rfl) _⟩
  · intro t ht hit
    rw [List.getElem_set_ne (by omega)]
    exact h.zero t (by simpa using ht) (by omega)
  · rw [hv, mod_succ, Nat.add_mul]

set_option maxHeartbeats 2000000 in
theorem mul_any (p q : Option Addr) (cp cq x y : Nat) (w : World) (hx : NatIn w p cp x) (hy : NatIn w q cq y) (lx : (lb x).length ≤ 100000) (ly : (lb y).length ≤ 100000) :
    Calls Tryd.prog 25 #[.agg #[.slice p (lb x).length cp], .agg #[.slice q (lb y).length cq]] w (NatOut w (x * y)) := by
  obtain ⟨z, hz⟩ : ∃ z, z = x * y := ⟨_, rfl⟩
  rw [← hz]
  have HZ := Lib.hid hz
  clear hz
  go_enter Tryd.func25, Tryd.ntmps25
  go_upto_region 1 with fail
  have h2 : Boxed (((w.alloc (.cells #[.slice p (lb x).length cp] 26)).alloc (.cells #[.slice q (lb y).length cq] 26)).alloc (.cells #[.slice none 0 0] 26)) w.heap.size 26 (.slice p (lb x).length cp) := ((Boxed.new w _ _).alloc _).alloc _
  have h3 : Boxed (((w.alloc (.cells #[.slice p (lb x).length cp] 26)).alloc (.cells #[.slice q (lb y).length cq] 26)).alloc (.cells #[.slice none 0 0] 26)) (w.heap.size + 1) 26 (.slice q (lb y).length cq) := by
    have := (Boxed.new (w.alloc (.cells #[.slice p (lb x).length cp] 26)) 26 (.slice q (lb y).length cq)).alloc (.cells #[.slice none 0 0] 26)
    rwa [World.size_alloc] at this
  have h4 : Boxed (((w.alloc (.cells #[.slice p (lb x).length cp] 26)).alloc (.cells #[.slice q (lb y).length cq] 26)).alloc (.cells #[.slice none 0 0] 26)) (w.heap.size + 1 + 1) 26 (.slice none 0 0) := by
    have := Boxed.new ((w.alloc (.cells #[.slice p (lb x).length cp] 26)).alloc (.cells #[.slice q (lb y).length cq] 26)) 26 (.slice none 0 0)
    rwa [World.size_alloc, World.size_alloc] at this
  have hB : Below w.heap.size w (((w.alloc (.cells #[.slice p (lb x).length cp] 26)).alloc (.cells #[.slice q (lb y).length cq] 26)).alloc (.cells #[.slice none 0 0] 26)) := (((Below.refl _ _).alloc (Nat.le_refl _) _).alloc (by simp) _).alloc (by simp; omega) _
  have hsz : (((w.alloc (.cells #[.slice p (lb x).length cp] 26)).alloc (.cells #[.slice q (lb y).length cq] 26)).alloc (.cells #[.slice none 0 0] 26)).heap.size = w.heap.size + 3 := by simp
  generalize (((w.alloc (.cells #[.slice p (lb x).length cp] 26)).alloc (.cells #[.slice q (lb y).length cq] 26)).alloc (.cells #[.slice none 0 0] 26)) = W at h2 h3 h4 hB hsz ⊢
  obtain ⟨nX, hnX⟩ : ∃ n, n = (lb x).length := ⟨_, rfl⟩
  obtain ⟨nY, hnY⟩ : ∃ n, n = (lb y).length := ⟨_, rfl⟩
  rw [← hnX] at h2 lx ⊢
  rw [← hnY] at h3 ly ⊢
  have HnX := Lib.hid hnX
  have HnY := Lib.hid hnY
  clear hnX hnY
  have c2 := h2.cell
  have c3 := h3.cell
  have Hsz := Lib.hid hsz
  clear hsz
  go_upto_block 0 with (first | (at_make; refine wpList_make32 rfl _ _ rfl (nX + nY) _ _ rfl rfl (by go_num) (by go_num) (by omega) ?_; intro W1 hS1 hb1 hl1; have k2 := Boxed.below' h2 hb1 h2.lt; have k3 := Boxed.below' h3 hb1 h3.lt; have k4 := Boxed.below' h4 hb1 h4.lt; have d2 := k2.cell; have d3 := k3.cell) | fail)
  clear c2 c3 h2 h3 h4
  have hXP : NatIn W1 p cp x := hx.below (hB.trans (hb1.mono (by rw [Hsz.out]; omega))) (fun a e => by subst e; exact hx.lt)
  have hYQ : NatIn W1 q cq y := hy.below (hB.trans (hb1.mono (by rw [Hsz.out]; omega))) (fun a e => by subst e; exact hy.lt)
  have hW1 : Below w.heap.size w W1 := hB.trans (hb1.mono (by rw [Hsz.out]; omega))
  have bX : ∀ a, p = some a → a.block < W.heap.size := by rintro a rfl; have := hx.lt; rw [Hsz.out]; omega
  have bY : ∀ a, q = some a → a.block < W.heap.size := by rintro a rfl; have := hy.lt; rw [Hsz.out]; omega
  have n2 : w.heap.size < W.heap.size := by rw [Hsz.out]; omega
  have n3 : w.heap.size + 1 < W.heap.size := by rw [Hsz.out]; omega
  have n4 : w.heap.size + 1 + 1 < W.heap.size := by rw [Hsz.out]; omega
  generalize W.heap.size = g at hS1 bX bY n2 n3 n4 ⊢
  have hA0 : MulR W1 g (nX + nY) nY x y 0 (List.replicate (nX + nY) 0) W1 := ⟨hS1, by simp, by intro z hz; rw [List.eq_of_mem_replicate hz]; decide, by intro t ht _; simp, by rw [vl_zeros]; simp [Nat.mod_one], Mod.refl _ _⟩
  have hyn : Hid (y < 4294967296 ^ nY) := Lib.hid (by rw [HnY.out]; exact lt_pow_dg 4294967296 (by decide) y)
  clear hx hy hb1 hl1 hB d2 d3 hS1
  go_cut [] (fun wx => ∃ (S : List Nat), MulR W1 g (nX + nY) nY x y nX S wx)
  case first =>
    go_wp2_with fail
    go_loopw [22] (fun s22 wr => ∃ (i : Nat) (S : List Nat), i ≤ nX ∧ s22 = .int .i64 (i : Int) ∧ MulR W1 g (nX + nY) nY x y i S wr) (fun i _ => nX - (intOf i).toNat)
    case atStart => exact ⟨0, _, by omega, rfl, hA0⟩
    case round =>
      clear hA0
      obtain ⟨i, S, hi, rfl, hA⟩ := hrel
      by_cases hin : i < nX
      · have hne : lb x ≠ [] := by intro e; have := HnX.out; rw [e] at this; simp at this; omega
        obtain ⟨gP, rfl⟩ := hXP.isPtr hne
        have hgP : gP < g := bX _ rfl
        have hXr := hXP.kept hA.m (by rintro a e; cases e; show ¬ gP = g; omega)
        have hil : i < (lb x).length := by rw [← HnX.out]; exact hin
        obtain ⟨dx, hdx⟩ : ∃ d, d = x / 4294967296 ^ i % 4294967296 := ⟨_, rfl⟩
        have ldx : dx < 4294967296 := by rw [hdx]; exact Nat.mod_lt _ (by decide)
        have cx : wr.cell? ⟨gP, i, none⟩ = some (.int .u32 (dx : Int)) := by rw [hdx, ← dg_at 4294967296 (by decide) x i hil]; exact hXr.cell i hil
        have r3 := (Boxed.mod' k3 hA.m (by omega)).cell
        have i0 : (0 : Int) ≤ i := by omega
        have i1 : (i : Int) < nX := by omega
        have Hdx := Lib.hid hdx
        clear hdx
        go_upto_block 2 with fail
        have hI0 := hA.begin
        clear hA cx r3 hXr
        go_cut [8] (fun s8 wx => ∃ (S : List Nat) (c : Nat), s8 = .int .u64 (c : Int) ∧ MulI W1 g (nX + nY) nY x y i nY S c wx)
        case first =>
          go_wp2_with fail
          obtain ⟨wo, rfl⟩ : ∃ wo : World, wo = wr := ⟨_, rfl⟩
          go_loopw [8, 30] (fun s8 s30 wr => ∃ (j : Nat) (S : List Nat) (c : Nat), j ≤ nY ∧ s30 = .int .i64 (j : Int) ∧ s8 = .int .u64 (c : Int) ∧ MulI W1 g (nX + nY) nY x y i j S c wr) (fun _ j _ => nY - (intOf j).toNat)
          case atStart => exact ⟨0, _, 0, by omega, rfl, rfl, hI0⟩
          case round =>
            clear hI0
            obtain ⟨j, S, c, hj, rfl, rfl, hI⟩ := hrel
            by_cases hjn : j < nY
            · have hne2 : lb y ≠ [] := by intro e; have := HnY.out; rw [e] at this; simp at this; omega
              obtain ⟨gQ, rfl⟩ := hYQ.isPtr hne2
              have hgQ : gQ < g := bY _ rfl
              have hYr := hYQ.kept hI.m (by rintro a e; cases e; show ¬ gQ = g; omega)
              have hjl : j < (lb y).length := by rw [← HnY.out]; exact hjn
              obtain ⟨dy, hdy⟩ : ∃ d, d = y / 4294967296 ^ j % 4294967296 := ⟨_, rfl⟩
              have ldy : dy < 4294967296 := by rw [hdy]; exact Nat.mod_lt _ (by decide)
              have cy : wr.cell? ⟨gQ, j, none⟩ = some (.int .u32 (dy : Int)) := by rw [hdy, ← dg_at 4294967296 (by decide) y j hjl]; exact hYr.cell j hjl
              have hSl : i + j < S.length := by rw [hI.len]; omega
              have cS := hI.s.cell (i + j) hSl
              have fS := hI.s.froz (i + j)
              have lr := hI.lt S[i + j] (List.getElem_mem _)
              have c1 := hI.c1
              obtain ⟨r, hr⟩ : ∃ r, r = S[i + j] := ⟨_, rfl⟩
              rw [← hr] at cS lr
              obtain ⟨m, hm⟩ : ∃ m, m = dx * dy := ⟨_, rfl⟩
              obtain ⟨s, hs⟩ : ∃ s, s = c + m + r := ⟨_, rfl⟩
              have Hn := Lib.hid (hI.next hSl hjn s (by rw [hs, hm, Hdx.out, hdy, hr]))
              obtain ⟨v, hv⟩ : ∃ v, v = s % 4294967296 := ⟨_, rfl⟩
              obtain ⟨c2, hc2⟩ : ∃ c2, c2 = s / 4294967296 := ⟨_, rfl⟩
              rw [← hv, ← hc2] at Hn
              have hmb : m ≤ 4294967295 * 4294967295 := by rw [hm]; exact Nat.mul_le_mul (by omega) (by omega)
              have e0 : (dx : Int) * (dy : Int) = (m : Int) := by rw [hm]; exact (Int.natCast_mul _ _).symm
              have w1 : IntKind.u64.wrap (m : Int) = (m : Int) := by rw [IntKind.wrap_u64]; omega
              have w2 : IntKind.u64.wrap ((m : Int) + r) = (m : Int) + r := by rw [IntKind.wrap_u64]; omega
              have w3 : IntKind.u64.wrap ((c : Int) + ((m : Int) + r)) = (c : Int) + ((m : Int) + r) := by rw [IntKind.wrap_u64]; omega
              have e1 : ((c : Int) + ((m : Int) + r)) % 4294967296 = v := by omega
              have e2 : ((c : Int) + ((m : Int) + r)) / 4294967296 = c2 := by omega
              have j0 : (0 : Int) ≤ j := by omega
              have j1 : (j : Int) < nY := by omega
              have i2 : (i : Int) + j < nX + nY := by omega
              have i3 : (0 : Int) ≤ (i : Int) + j := by omega
              have i4 : ((i : Int) + j).toNat = i + j := by omega
              have w4 : IntKind.i64.wrap ((i : Int) + j) = (i : Int) + j := by rw [IntKind.wrap_i64]; omega
              clear hdy hs hv hc2 hm hr hmb
              go_wp2_with fail
              go_roundw
              case rel => exact ⟨j + 1, _, c2, by omega, by go_num, rfl, Hn.out⟩
              case measure => simp [intOf]; omega
            · obtain rfl : j = nY := by omega
              go_wp2_with fail
              go_meet
              exact ⟨S, c, rfl, hI⟩
        case rest =>
        obtain ⟨S, c, rfl, hI⟩ := hcut
        clear hI0
        have hSl : i + nY < S.length := by rw [hI.len]; omega
        have cS := hI.s.cell (i + nY) hSl
        have fS := hI.s.froz (i + nY)
        have r3 := (Boxed.mod' k3 hI.m (by omega)).cell
        have c1 := hI.c1
        have e1 : (c : Int) % 4294967296 = c := by omega
        have i2 : (i : Int) + nY < nX + nY := by omega
        have i3 : (0 : Int) ≤ (i : Int) + nY := by omega
        have i4 : ((i : Int) + nY).toNat = i + nY := by omega
        have w4 : IntKind.i64.wrap ((i : Int) + nY) = (i : Int) + nY := by rw [IntKind.wrap_i64]; omega
        generalize S[i + nY] = old at cS
        have Hn := Lib.hid (hI.fin hSl hyn.out)
        clear hI
        go_wp2_with fail
        go_roundw
        case rel => exact ⟨i + 1, _, by omega, by go_num, Hn.out⟩
        case measure => simp [intOf]; omega
      · obtain rfl : i = nX := by omega
        go_wp2_with fail
        go_meet
        exact ⟨S, hA⟩
  case rest =>
  obtain ⟨S, hA⟩ := hcut
  clear hA0
  rename World => wz
  have hval : Hid (vl 4294967296 S = z) := Lib.hid (by
    have hxn : x < 4294967296 ^ nX := by rw [HnX.out]; exact lt_pow_dg 4294967296 (by decide) x
    rw [hA.val, Nat.mod_eq_of_lt hxn, HZ.out])
  have hTS := hA.s
  have hTl := hA.len
  have hTb := hA.lt
  have hM2 := hA.m
  clear hA
  go_wp2_with fail
  have htr := trim_any (some ⟨g, 0, none⟩) (nX + nY) S wz hTS hTb (by omega)
  rw [hTl, hval.out] at htr
  refine htr.mono ?_
  clear htr
  rintro r w' ⟨q, c', rfl, hN, hb, hq⟩
  have hm3 : Mod (· = g) W1 w' := hM2.trans (Mod.of_below hb) (by have := hTS.lt; intro i hi h; have := hM2.size; omega)
  have b4 := Boxed.mod' k4 hm3 (by omega)
  have hq2 : ∀ a, q = some a → w.heap.size + 1 + 1 < a.block := by rintro a rfl; rcases hq with h | h <;> cases h; exact n4
  have hB2 : Below w.heap.size w w' := hW1.trans (hm3.to_below (by have := hW1.size; omega) (by intro k hk h; omega))
  have c4 := b4.cell
  have f4 := b4.frozen
  clear hb hq hm3 hM2 hTS hTb k2 k3 k4 hW1 hXP hYQ bX bY
  go_wp2_with fail
  have c5 := (b4.set (.slice q (lb z).length c')).cell
  refine bodyPost_ret (v := .agg #[.slice q (lb z).length c']) (by simp [results, Tryd.results25, go_sem, c5]) rfl ⟨q, c', rfl, ?_, ?_, fun a e => by have := hq2 a e; omega⟩
  · exact hN.other ⟨w.heap.size + 1 + 1, 0, none⟩ _ (fun a e => by have := hq2 a e; show a.block ≠ w.heap.size + 1 + 1; omega)
  · exact hB2.setCell (p := ⟨w.heap.size + 1 + 1, 0, none⟩) (by show w.heap.size ≤ w.heap.size + 1 + 1; omega) _
end Go.Proofs.YtdahkemeoefndaaDoor.NN

namespace Go.Proofs.YtdahkemeoefndaaDoor.NN
open Go.RowKit

theorem top_not (x : Nat) (h : x < 4294967296) : (4294967295 - x) / 2147483648 = 1 - x / 2147483648 := by omega
theorem top_and (a b : Nat) : (a &&& b) / 2147483648 = (a / 2147483648 &&& b / 2147483648) := by
  have := Nat.shiftRight_and_distrib (a := a) (b := b) (i := 31); simpa [Nat.shiftRight_eq_div_pow] using this
theorem top_or (a b : Nat) : (a ||| b) / 2147483648 = (a / 2147483648 ||| b / 2147483648) := by
  have := Nat.shiftRight_or_distrib (a := a) (b := b) (i := 31); simpa [Nat.shiftRight_eq_div_pow] using this
theorem top_xor (a b : Nat) : (a ^^^ b) / 2147483648 = (a / 2147483648 ^^^ b / 2147483648) := by
  have := Nat.shiftRight_xor_distrib (a := a) (b := b) (i := 31); simpa [Nat.shiftRight_eq_div_pow] using this
theorem xor_lt32 (a b : Nat) (ha : a < 4294967296) (hb : b < 4294967296) : a ^^^ b < 4294967296 := Nat.xor_lt_two_pow (n := 32) ha hb
theorem and_lt32 (a b : Nat) (hb : b < 4294967296) : a &&& b < 4294967296 := Nat.and_lt_two_pow (n := 32) a hb
/-- The borrow, by the bits. -/
theorem borrow_bits (x y c : Nat) (hx : x < 4294967296) (hy : y < 4294967296) (hc : c ≤ 1) :
    (((4294967295 - x) &&& y) ||| ((4294967295 - (x ^^^ y)) &&& ((4294967296 + x - y - c) % 4294967296))) / 2147483648 = if x < y + c then 1 else 0 := by
  rw [top_or, top_and, top_and, top_not x hx, top_not _ (xor_lt32 _ _ hx hy), top_xor]
  obtain ⟨d, hd⟩ : ∃ d, d = (4294967296 + x - y - c) % 4294967296 := ⟨_, rfl⟩
  rw [← hd]
  have dx : x / 2147483648 = 0 ∨ x / 2147483648 = 1 := by omega
  have dy : y / 2147483648 = 0 ∨ y / 2147483648 = 1 := by omega
  have dd : d / 2147483648 = 0 ∨ d / 2147483648 = 1 := by omega
  rcases dx with ex | ex <;> rcases dy with ey | ey <;> rcases dd with ed | ed <;> rw [ex, ey, ed] <;> simp <;> omega

theorem not32 (e : Nat) (be : e < 4294967296) : bits BinOp.xor IntKind.u32 (if IntKind.u32.signed = true then -1 else IntKind.u32.max) (e : Int) = ((4294967295 - e : Nat) : Int) := by
  rw [if_neg (by decide), show IntKind.u32.max = ((4294967295 : Nat) : Int) from rfl, u32_xor_nat _ _ (by decide) be]
  have h := BitVec.toNat_not (x := BitVec.ofNat 32 e)
  have h2 : (~~~ BitVec.ofNat 32 e) = BitVec.allOnes 32 ^^^ BitVec.ofNat 32 e := by rw [BitVec.allOnes_xor]
  rw [h2, BitVec.toNat_xor, BitVec.toNat_allOnes, BitVec.toNat_ofNat, Nat.mod_eq_of_lt (by omega)] at h
  exact congrArg Int.ofNat h

set_option maxHeartbeats 400000 in
theorem sub32_any (x y c : Nat) (w : World) (hx : x < 4294967296) (hy : y < 4294967296) (hc : c ≤ 1) :
    Calls Tryd.prog 28 #[.int .u32 x, .int .u32 y, .int .u32 c] w fun r w' => r = .returned (.tuple #[.int .u32 (((4294967296 + x - y - c) % 4294967296 : Nat) : Int), .int .u32 ((if x < y + c then 1 else 0 : Nat) : Int)]) ∧ w = w' := by
  have hb := borrow_bits x y c hx hy hc
  obtain ⟨d, hd⟩ : ∃ d, d = (4294967296 + x - y - c) % 4294967296 := ⟨_, rfl⟩
  obtain ⟨d1, hd1⟩ : ∃ d, d = (4294967296 + x - y) % 4294967296 := ⟨_, rfl⟩
  obtain ⟨o, ho⟩ : ∃ o, o = (((4294967295 - x) &&& y) ||| ((4294967295 - (x ^^^ y)) &&& d)) := ⟨_, rfl⟩
  obtain ⟨q1, hq1⟩ : ∃ q, q = (4294967295 - x) &&& y := ⟨_, rfl⟩
  obtain ⟨z, hz⟩ : ∃ q, q = x ^^^ y := ⟨_, rfl⟩
  obtain ⟨q2, hq2⟩ : ∃ q, q = (4294967295 - z) &&& d := ⟨_, rfl⟩
  obtain ⟨nx, hnx⟩ : ∃ q, q = 4294967295 - x := ⟨_, rfl⟩
  obtain ⟨nz, hnz⟩ : ∃ q, q = 4294967295 - z := ⟨_, rfl⟩
  have ld : d < 4294967296 := by rw [hd]; exact Nat.mod_lt _ (by decide)
  have lz : z < 4294967296 := by rw [hz]; exact xor_lt32 _ _ hx hy
  have l1 : q1 < 4294967296 := by rw [hq1]; exact and_lt32 _ _ hy
  have l2 : q2 < 4294967296 := by rw [hq2]; exact and_lt32 _ _ ld
  rw [← hd] at hb ⊢
  rw [← ho] at hb
  rw [← hb]
  obtain ⟨bo, hbo⟩ : ∃ q, q = o / 2147483648 := ⟨_, rfl⟩
  rw [← hbo]
  have e1 : ((x : Int) - y) % 4294967296 = d1 := by omega
  have e2 : ((d1 : Int) - c) % 4294967296 = d := by omega
  have e3 : bits BinOp.xor IntKind.u32 (if IntKind.u32.signed = true then -1 else IntKind.u32.max) (x : Int) = (nx : Int) := by rw [hnx]; exact not32 x hx
  have e4 : bits BinOp.and IntKind.u32 (nx : Int) (y : Int) = (q1 : Int) := by rw [hq1, ← hnx]; exact u32_and_nat _ _ (by omega) hy
  have e5 : bits BinOp.xor IntKind.u32 (x : Int) (y : Int) = (z : Int) := by rw [hz]; exact u32_xor_nat _ _ hx hy
  have e6 : bits BinOp.xor IntKind.u32 (if IntKind.u32.signed = true then -1 else IntKind.u32.max) (z : Int) = (nz : Int) := by rw [hnz]; exact not32 z lz
  have e7 : bits BinOp.and IntKind.u32 (nz : Int) (d : Int) = (q2 : Int) := by rw [hq2, ← hnz]; exact u32_and_nat _ _ (by omega) ld
  have e8 : bits BinOp.or IntKind.u32 (q1 : Int) (q2 : Int) = (o : Int) := by rw [ho, ← hz, ← hnz, ← hnx]; rw [hq1, hq2, ← hnx, ← hnz]; exact u32_or_nat _ _ (and_lt32 _ _ hy) (and_lt32 _ _ ld)
  have e9 : (o : Int) / 2147483648 = bo := by omega
  clear hd hd1 ho hq1 hz hq2 hnx hnz hb hbo
  go_enter Tryd.func28, Tryd.ntmps28
  go_wp2_with fail
  go_ret2
  exact ⟨by show Ending.returned (.tuple #[.int .u32 (((d1 : Int) - c) % 4294967296), .int .u32 bo]) = _; rw [e2], rfl⟩

set_option maxHeartbeats 400000 in
theorem div32_any (hi lo d : Nat) (w : World) (hd : hi < d) (hlo : lo < 4294967296) (hdd : d < 4294967296) :
    Calls Tryd.prog 44 #[.int .u32 hi, .int .u32 lo, .int .u32 d] w fun r w' => r = .returned (.tuple #[.int .u32 (((hi * 4294967296 + lo) / d : Nat) : Int), .int .u32 (((hi * 4294967296 + lo) % d : Nat) : Int)]) ∧ ∃ n, w' = w.drewN n := by
  obtain ⟨z, hz⟩ : ∃ z, z = hi * 4294967296 + lo := ⟨_, rfl⟩
  rw [← hz]
  obtain ⟨q, hq⟩ : ∃ q, q = z / d := ⟨_, rfl⟩
  obtain ⟨r, hr⟩ : ∃ r, r = z % d := ⟨_, rfl⟩
  rw [← hq, ← hr]
  have e1 : bits BinOp.or IntKind.u64 ((hi : Int) * 4294967296) (lo : Int) = (z : Int) := by
    rw [show (hi : Int) * 4294967296 = ((hi * 4294967296 : Nat) : Int) by omega, u64_or_nat _ _ (by omega) (by omega), hz]
    congr 1
    rw [Nat.mul_comm]; exact (Nat.two_pow_add_eq_or_of_lt (i := 32) hlo hi).symm
  have d0 : 0 < d := by omega
  have e2 : (z : Int) / d = q := by rw [hq]; exact (Int.natCast_ediv _ _).symm
  have e3 : (z : Int) % d = r := by rw [hr]; exact (Int.natCast_emod _ _).symm
  have e4 : (z : Int).tdiv d = q := by rw [Int.tdiv_eq_ediv_of_nonneg (by omega)]; exact e2
  have e5 : (z : Int).tmod d = r := by rw [Int.tmod_eq_emod_of_nonneg (by omega)]; exact e3
  have lq : q < 4294967296 := by
    rw [hq, Nat.div_lt_iff_lt_mul d0, hz]
    have := Nat.mul_le_mul_right 4294967296 (show hi + 1 ≤ d by omega)
    rw [Nat.mul_comm 4294967296 d]; omega
  have lr : r < 4294967296 := by rw [hr]; have := Nat.mod_lt z d0; omega
  have e6 : (q : Int) % 4294967296 = q := by omega
  have e7 : (r : Int) % 4294967296 = r := by omega
  have b1 : ((d : Int) != 0) = true := by rw [bne_iff_ne]; omega
  have b2 : ¬ d ≤ hi := by omega
  have b3 : ¬ (d : Int) = 0 := by omega
  have b4 : ((d : Int) == 0) = false := by rw [beq_eq_false_iff_ne]; omega
  have d1 : (0 : Int) < d := by omega
  have z0 : (0 : Int) ≤ z := by omega
  clear hz hq hr
  go_enter Tryd.func44, Tryd.ntmps44
  go_wp2_with fail
  go_quiet (fail)
  go_wp2_with fail
  go_ret2
  exact ⟨rfl, _, rfl⟩
end Go.Proofs.YtdahkemeoefndaaDoor.NN

namespace Go.Proofs.YtdahkemeoefndaaDoor.NN
open Go.RowKit

/-- An iterator of N rounds: round k hands over 'args k'; what it reads ahead of round k is R k of the world. -/
def Rounds (F : Fence) (n : Nat) (P : Program) (g : Nat) (lb : Array Value) (args : Nat → Array Value) (R : Nat → World → Prop) (N : Nat) (w : World) : Prop :=
  ∀ (l : Nat) (J Jx : Nat → World → Prop) (W : World), Below w.heap.size w W → AbidesFrom W.heap.size J → AbidesFrom W.heap.size Jx → (∀ k W1, J k W1 → R k W1) →
    (∀ k W1, J k W1 → k < N → YieldAt F (n - 1) P l (args k) W1 fun e W' => (e = .returned (.bool true) ∧ J (k + 1) W') ∨ (e = .returned (.bool false) ∧ Jx k W')) →
    J 0 W → CallsIn F n P g (#[.func (.yield l) #[] #[]] ++ lb) W fun e W' => (∃ v, e = .returned v) ∧ (J N W' ∨ ∃ k, k < N ∧ Jx k W')

/-- How a round may be left. -/
def roundEnd (B : Nat) (I : Nat → World → Prop) (Ix : Code → Nat → World → Prop) (k : Nat) (W : World) : Exit → Act → World → Prop
  | .normal, _, W' => KeepsFrom B W W' ∧ I (k + 1) W'
  | .ret, _, W' => KeepsFrom B W W' ∧ Ix .ret k W'
  | .exit id, _, W' => KeepsFrom B W W' ∧ Ix (.exit id) k W'
  | _, _, _ => False

variable {F : Fence} {n : Nat} {P : Program}

theorem wpIn_rounds {g : Operand} {ps : Array Tmp} {assign body : Code} {Q : Exit → Act → World → Prop} {a : Act} {w : World}
    (hro : F.round = none) (h1 : 1 ≤ n) {gf : Nat} {lb : Array Value} (hg : a.eval g = .func (.func gf) #[] lb) (hFg : F.fn gf) (eg : ∀ args w, (callFunc gf args).run P w = .ok (.enter gf args) w)
    {args : Nat → Array Value} {R : Nat → World → Prop} {N : Nat} (hseq : Rounds F (n - 1) P gf lb args R N w) (hps : ∀ k, (args k).size = ps.size)
    (I : Nat → World → Prop) (Ix : Code → Nat → World → Prop) (hR : ∀ k W, I k W → R k W) (hI : OwnFrom w.heap.size I) (hIx : ∀ c, OwnFrom w.heap.size (Ix c)) (h0 : I 0 w) (a₁ : Nat → Act)
    (hassign : ∀ (l k : Nat) (W : World) (K : Act → World → Prop), K (a₁ k) W →
      assign.wpIn (F.inRound l) (n - 1 - 1) P (Exit.then K (fun _ _ _ => False)) { tmps := (ps.zip (args k)).foldl (fun t (p, v) => t.setIfInBounds p v) a.tmps, defers := [] } W)
    (hbody : ∀ (l k : Nat) (W : World), I k W → k < N → body.wpIn (F.inRound l) (n - 1 - 1) P (roundEnd w.heap.size I Ix k W) (a₁ k) W)
    (hdone : ∀ (D : Nat) (W : World), w.heap.size ≤ D → I N W → W.heap[D]? = some (.deferred (some [])) → Q .normal { a with defers := { target := .collected D, args := #[] } :: a.defers } W)
    (hstop : ∀ (D : Nat) (c : Code) (k : Nat) (W : World), w.heap.size ≤ D → k < N → Ix c k W → W.heap[D]? = some (.deferred (some [])) → c.wpIn F n P Q { a with defers := { target := .collected D, args := #[] } :: a.defers } W) :
    (Code.rangeFunc g ps assign body).wpIn F n P Q a w := by
  refine wpIn_rangeFunc fun fn hfn => ?_
  rw [hro]
  obtain ⟨rec, hrec⟩ : ∃ rec : LoopState → Option Code → Loop, rec = fun st pe => { state := st, pending := pe, fn, tmps := a.tmps, params := ps, assign, body, defers := w.heap.size } := ⟨_, rfl⟩
  obtain ⟨V, hV⟩ : ∃ V, V = (w.alloc (.deferred (some []))).alloc (.loop (rec .ready none)) := ⟨_, rfl⟩
  have rL : V.heap[w.heap.size + 1]? = some (.loop (rec .ready none)) := by
    have := World.alloc_heap_new (w.alloc (.deferred (some []))) (.loop (rec .ready none)); rw [World.size_alloc] at this; rw [hV]; exact this
  have rD : V.heap[w.heap.size]? = some (.deferred (some [])) := by rw [hV]; exact (Below.heap_alloc _ _ _ (by simp)).trans (World.alloc_heap_new w _)
  have vI : I 0 V := by rw [hV]; exact hI.alloc _ (hI.alloc _ h0)
  have vB : Below w.heap.size w V := by rw [hV]; exact ((Below.refl _ w).alloc (Nat.le_refl _) _).alloc (by simp) _
  have vS : w.heap.size + 2 ≤ V.heap.size := by rw [hV]; simp
  refine ⟨w.heap.size + 1, [{ target := .collected w.heap.size, args := #[] }], V, { target := .fn (.func gf) lb, args := #[.func (.yield (w.heap.size + 1)) #[] #[]] }, V, gf,
    #[.func (.yield (w.heap.size + 1)) #[] #[]] ++ lb, V, ?_, ?_, ?_, ?_, fun _ => h1, ?_⟩
  · rw [hV, hrec]; exact run_enterLoop_outer _ _ _ _ _
  · simp only [resolve, hg]; simp [go_sem]
  · intro f' hf'; simp [Target.leads] at hf'; subst hf'; exact hFg
  · simp [invoke, go_sem, eg]
  clear hV
  -- the two blocks of the loop's own lie on where no walk's object turns
  have keep : ∀ {A C : World} {row : Option Nat} {j : Nat} {o : Obj}, A.grownBy C row → (∀ r, row = some r → V.heap.size ≤ r ∧ ∃ o : Obj, A.heap[r]? = some o ∧ o.isWalk = true) → A.heap[j]? = some o → o.isWalk = false → C.heap[j]? = some o :=
    fun hg' hr hj ho => (grownBy_keeps hg' (fun r e => (hr r e).2) hj ho).trans hj
  have own : ∀ {A : World} {row : Option Nat}, (∀ r, row = some r → V.heap.size ≤ r ∧ ∃ o : Obj, A.heap[r]? = some o ∧ o.isWalk = true) → ∀ r, row = some r → w.heap.size ≤ r ∧ ∃ o : Obj, A.heap[r]? = some o ∧ o.isCells = false :=
    fun hr r e => by obtain ⟨hB, o, ho, hw⟩ := hr r e; exact ⟨by omega, o, ho, Obj.not_cells_of_walk hw⟩
  refine (hseq (w.heap.size + 1)
    (fun k W => I k W ∧ W.heap[w.heap.size + 1]? = some (.loop (rec .ready none)) ∧ W.heap[w.heap.size]? = some (.deferred (some [])))
    (fun k W => ∃ c, Ix c k W ∧ W.heap[w.heap.size + 1]? = some (.loop (rec .done (some c))) ∧ W.heap[w.heap.size]? = some (.deferred (some [])))
    V vB (fun s A C row hs hg' hr => ⟨hI s A C row hs.1 hg' (own hr), keep hg' hr hs.2.1 rfl, keep hg' hr hs.2.2 rfl⟩)
    (fun s A C row ⟨c, hc, hl, hd⟩ hg' hr => ⟨c, hIx c s A C row hc hg' (own hr), keep hg' hr hl rfl, keep hg' hr hd rfl⟩)
    (fun k W h => hR k W h.1) ?_ ⟨vI, rL, rD⟩).mono ?_
  · rintro k W ⟨hi, hl, hd⟩ hk
    have hy := run_yield (P := P) (args := args k) hl (by rw [hrec]; exact hps k)
    rw [hrec] at hy
    refine ⟨fn, _, assign, body, hy, roundIn_of_wpIn hfn (hassign _ k W _ ⟨_, run_beginRound hl (by rw [hrec]), ?_⟩)⟩
    obtain ⟨X, hX⟩ : ∃ X, X = W.putObj (w.heap.size + 1) (.loop { rec .ready none with state := .busy }) := ⟨_, rfl⟩
    have xl : X.heap[w.heap.size + 1]? = some (.loop { rec .ready none with state := .busy }) := by rw [hX]; exact World.putObj_heap_same (Array.getElem?_eq_some_iff.1 hl).1
    have xd : X.heap[w.heap.size]? = some (.deferred (some [])) := by rw [hX]; exact (World.putObj_heap_other (by omega)).trans hd
    have xi : I k X := by rw [hX]; exact hI.putObj _ hi (by omega) hl rfl
    rw [← hX]
    clear hX
    refine wpIn_mono (hbody _ k X xi hk) ?_
    have fin : ∀ (jump : Option Code) (Y : World), KeepsFrom w.heap.size X Y → ∃ Z, (Instr.endRound (w.heap.size + 1) jump).run P Y = .ok (.bool jump.isNone) Z ∧
        Z.heap[w.heap.size + 1]? = some (.loop (rec (if jump.isNone then .ready else .done) jump)) ∧ Z.heap[w.heap.size]? = some (.deferred (some [])) ∧ (∀ J : Nat → World → Prop, OwnFrom w.heap.size J → ∀ s, J s Y → J s Z) := fun jump Y hY => by
      have yl := hY.same _ _ (by omega) xl rfl
      have := run_endRound (P := P) jump yl
      rw [hrec] at this
      refine ⟨_, this, World.putObj_heap_same (Array.getElem?_eq_some_iff.1 yl).1 |>.trans (by rw [hrec]), (World.putObj_heap_other (by omega)).trans (hY.same _ _ (Nat.le_refl _) xd rfl), fun J hJ s hs => hJ.putObj _ hs (by omega) yl rfl⟩
    rintro e b Y hp
    cases e with
    | normal => obtain ⟨Z, hr, hl', hd', hj⟩ := fin none Y hp.1; exact ⟨_, _, hr, .inl ⟨rfl, hj I hI _ hp.2, hl', hd'⟩⟩
    | ret => obtain ⟨Z, hr, hl', hd', hj⟩ := fin (some .ret) Y hp.1; exact ⟨_, _, hr, .inr ⟨rfl, .ret, hj _ (hIx _) _ hp.2, hl', hd'⟩⟩
    | exit id => obtain ⟨Z, hr, hl', hd', hj⟩ := fin (some (.exit id)) Y hp.1; exact ⟨_, _, hr, .inr ⟨rfl, .exit id, hj _ (hIx _) _ hp.2, hl', hd'⟩⟩
    | goto t => exact hp.elim
    | panic ch => exact hp.elim
    | outgrown => exact hp.elim
  · rintro e X ⟨⟨v, rfl⟩, ⟨hi, hl, hd⟩ | ⟨k, hk, c, hi, hl, hd⟩⟩
    · exact ⟨none, _, by have := run_endLoop (P := P) hl (by rw [hrec]; simp); rw [hrec] at this; exact this, hdone _ _ (Nat.le_refl _) (hI.putObj _ hi (by omega) hl rfl) ((World.putObj_heap_other (by omega)).trans hd)⟩
    · exact ⟨some c, _, by have := run_endLoop (P := P) hl (by rw [hrec]; simp); rw [hrec] at this; exact this, hstop _ c k _ (Nat.le_refl _) hk ((hIx c).putObj _ hi (by omega) hl rfl) ((World.putObj_heap_other (by omega)).trans hd)⟩
end Go.Proofs.YtdahkemeoefndaaDoor.NN

namespace Go.Proofs.YtdahkemeoefndaaDoor.NN
open Go.RowKit Go.Shelf
attribute [local go_sem] Oper.semAt_some

/-- What is read ahead of round k: the slice's box, and the next number from behind. -/
def BackR (Bs : Nat) (p : Option Addr) (cap : Nat) (A : List Nat) (k : Nat) (W : World) : Prop :=
  W.cell? ⟨Bs, 0, none⟩ = some (.slice p A.length cap) ∧ ∀ i (h : i < A.length), i + k + 1 = A.length → ∃ g, p = some ⟨g, 0, none⟩ ∧ W.cell? ⟨g, i, none⟩ = some (.int .u32 (A[i] : Int))
def backArgs (A : List Nat) (k : Nat) : Array Value := #[.int .i64 ((A.length - 1 - k : Nat) : Int), .int .u32 ((A.getD (A.length - 1 - k) 0 : Nat) : Int)]

set_option maxRecDepth 100000 in
set_option maxHeartbeats 2000000 in
theorem back_rounds (F : Fence) (n : Nat) (hF : F.fn 43) (hro : F.round = none) (hn : 1 ≤ n) (Bs : Nat) (p : Option Addr) (cap : Nat) (A : List Nat) (hl : A.length ≤ 1000000) (w : World) :
    Rounds F n Tryd.prog 43 #[.pointer (some ⟨Bs, 0, none⟩)] (backArgs A) (BackR Bs p cap A) A.length w := by
  intro l J Jx W hW hJ hJx hR hY h0
  have hb0 := (hR 0 W h0).1
  obtain ⟨len, hlen⟩ : ∃ len, len = A.length := ⟨_, rfl⟩
  rw [← hlen] at hb0 hl
  have Hlen := Lib.hid hlen
  refine callsIn_of_wp Tryd.func43 rfl hF ?_ hro
  simp only [Tryd.ntmps43, List.size_toArray, List.length_cons, List.length_nil, Nat.reduceAdd, Nat.reduceSub, Array.replicate_succ, Array.replicate_zero, List.push_toArray, List.append_toArray, List.nil_append, List.cons_append]
  clear hlen
  gi_wp2
  gi_loopw [3] (fun s3 wr => ∃ (k : Nat) (z : Int), k ≤ len ∧ s3 = .int .i64 z ∧ Hid (z = (len : Int) - 1 - k) ∧ J k wr) (fun i _ => (intOf i + 1).toNat)
  case atStart => exact ⟨0, (len : Int) - 1, by omega, by simp, Lib.hid (by omega), h0⟩
  case round =>
    clear hb0
    obtain ⟨k, z, hk, rfl, hz, hJs⟩ := hrel
    by_cases hlt : k < len
    · obtain ⟨i, rfl⟩ : ∃ i : Nat, z = (i : Int) := ⟨len - 1 - k, by have := hz.out; omega⟩
      have hik : i + k + 1 = len := by have := hz.out; omega
      have hi : i < A.length := by rw [← Hlen.out]; omega
      obtain ⟨hbx, hrd⟩ := hR k wr hJs
      obtain ⟨g, rfl, hc⟩ := hrd i hi (by rw [← Hlen.out]; exact hik)
      obtain ⟨fn, tmps, assign, body, hy, hR'⟩ := hY k wr hJs (by rw [← Hlen.out]; exact hlt)
      rw [← Hlen.out] at hbx
      unfold backArgs at hy
      rw [← Hlen.out, show len - 1 - k = i by omega, show A.getD i 0 = A[i] by rw [List.getD_eq_getElem?_getD, List.getElem?_eq_getElem hi]; rfl] at hy
      generalize A[i] = x at hc hy
      have i0 : (0 : Int) ≤ i := by omega
      have i1 : (i : Int) < len := by omega
      have i2 : i < len := by omega
      clear hrd hR
      gi_wp2
      refine hR'.mono ?_
      rintro e W3 (⟨rfl, hJ3⟩ | ⟨rfl, hJx3⟩)
      · gi_wp2
        go_roundw
        case rel => exact ⟨k + 1, (i : Int) - 1, by omega, by simp, Lib.hid (by omega), hJ3⟩
        case measure => simp [intOf]
      · gi_wp2
        refine bodyPost_ret (results_none rfl _ _ _) rfl ?_
        exact ⟨⟨_, rfl⟩, .inr ⟨k, by rw [← Hlen.out]; exact hlt, hJx3⟩⟩
    · obtain rfl : k = len := by omega
      obtain rfl : z = -1 := by have := hz.out; omega
      clear hz
      gi_wp2
      go_end0
      exact ⟨⟨_, rfl⟩, .inl (by rw [← Hlen.out]; exact hJs)⟩

set_option maxHeartbeats 1000000 in
/-- slices.Backward(s): the slice value is boxed; the function value captures the box. -/
theorem backward_in (F : Fence) (n : Nat) (hF : F.fn 29) (hro : F.round = none) (p : Option Addr) (len cap : Nat) (w : World) :
    CallsIn F n Tryd.prog 29 #[.slice p len cap] w fun e w' => e = .returned (.func (.func 43) #[] #[.pointer (some ⟨w.heap.size, 0, none⟩)]) ∧ w' = w.alloc (.cells #[.slice p len cap] 24) := by
  refine callsIn_of_wp Tryd.func29 rfl hF ?_ hro
  simp only [Tryd.ntmps29, List.size_toArray, List.length_cons, List.length_nil, Nat.reduceAdd, Nat.reduceSub, Array.replicate_succ, Array.replicate_zero, List.push_toArray, List.append_toArray, List.nil_append, List.cons_append]
  gi_wp2
  go_ret
  exact ⟨rfl, rfl⟩
end Go.Proofs.YtdahkemeoefndaaDoor.NN

namespace Go.Proofs.YtdahkemeoefndaaDoor.NN
open Go.RowKit Go.Shelf
attribute [local go_sem] Oper.semAt_some

/-- A region without a defer statement goes in a round as outside of one. -/
theorem wpAnyIn_inRound {F : Fence} {n : Nat} {P : Program} {md : Region.Mode} {ops : Array Oper} {Q : Exit → Act → World → Prop} {l : Nat} (hnd : ∀ (i : Nat) (o : Oper), ops[i]? = some o → ∀ c : Call, o.op ≠ Op.defer c) :
    ∀ (fuel : Nat) (listed : Array Bool) (a : Act) (w : World), wpAnyIn F n P md ops Q fuel listed a w → wpAnyIn (F.inRound l) n P md ops Q fuel listed a w := by
  intro fuel
  induction fuel with
  | zero => intro listed a w h; exact h
  | succ fuel ih =>
    intro listed a w h
    refine ⟨h.1, fun i hi => ?_⟩
    have h2 := wpOpIn_mono (fun a w => ih (listed.setIfInBounds i true) a w) (h.2 i hi)
    unfold wpOpIn at h2 ⊢
    split
    · rename_i ho; rw [ho] at h2; exact h2
    · rename_i o ho
      rw [ho] at h2
      simp only at h2
      split
      · rename_i hw
        rw [if_pos hw] at h2
        refine ⟨h2.1, ?_⟩
        have h3 := h2.2
        rw [Oper.semAt_eq _ _ _ (hnd i o ho)] at h3 ⊢
        exact h3
      · rename_i hw
        rw [if_neg hw] at h2
        exact h2
def noDefer (ops : Array Oper) : Bool := ops.all fun o => match o.op with | .defer _ => false | _ => true
theorem noDefer_spec {ops : Array Oper} (h : noDefer ops = true) : ∀ (i : Nat) (o : Oper), ops[i]? = some o → ∀ c : Call, o.op ≠ Op.defer c := by
  intro i o ho c e
  obtain ⟨hi, rfl⟩ := Array.getElem?_eq_some_iff.1 ho
  have := (Array.all_eq_true.1 h) i hi
  rw [e] at this
  cases this
theorem region_inRound {F : Fence} {n : Nat} {P : Program} {ops : Array Oper} {Q : Exit → Act → World → Prop} {l id : Nat} {a : Act} {w : World} (hm : P.follows .mixedOrders = true) (hnd : noDefer ops = true)
    (h : wpAnyIn F n P .any ops Q ops.size (Array.replicate ops.size false) a w.drew) : (Code.region id ops true).wpIn (F.inRound l) n P Q a w :=
  wpIn_region_any hm (wpAnyIn_inRound (noDefer_spec hnd) _ _ _ _ h)

/-- While it is divided: k limbs from behind are. -/
structure DivI (n x d k : Nat) (S : List Nat) (r : Nat) : Prop where
  len : S.length = n
  lt : ∀ z ∈ S, z < 4294967296
  low : ∀ t (h : t < S.length), t + k < n → S[t] = x / 4294967296 ^ t % 4294967296
  val : vl 4294967296 (S.drop (n - k)) = x / 4294967296 ^ (n - k) / d
  r : r = x / 4294967296 ^ (n - k) % d
theorem DivI.next {n x d k : Nat} {S : List Nat} {r : Nat} (h : DivI n x d k S r) (i : Nat) (hi : i + k + 1 = n) (hd : 0 < d) (v : Nat) (hv : v = x / 4294967296 ^ i % 4294967296) :
    DivI n x d (k + 1) (S.set i ((r * 4294967296 + v) / d)) ((r * 4294967296 + v) % d) := by
  have hl : i < S.length := by rw [h.len]; omega
  have hs := div_step 4294967296 x i d
  have hr := h.r
  rw [show n - k = i + 1 by omega] at hr
  rw [← hr, ← hv] at hs
  have hrd : r < d := by rw [hr]; exact Nat.mod_lt _ hd
  have hv4 : v < 4294967296 := by rw [hv]; exact Nat.mod_lt _ (by decide)
  have hq : (r * 4294967296 + v) / d < 4294967296 := by
    rw [Nat.div_lt_iff_lt_mul hd]
    have := Nat.mul_le_mul_right 4294967296 (show r + 1 ≤ d by omega)
    rw [Nat.mul_comm 4294967296 d]; omega
  refine ⟨by simpa using h.len, set_lt h.lt hq, ?_, ?_, ?_⟩
  · intro t ht htk
    rw [List.getElem_set_ne (by omega)]
    exact h.low t (by simpa using ht) (by omega)
  · have hval := h.val
    rw [show n - k = i + 1 by omega] at hval
    rw [show n - (k + 1) = i by omega, List.drop_eq_getElem_cons (by simpa using hl), List.getElem_set_self, List.drop_set_of_lt (by omega), vl, hval, hs.1]
    omega
  · rw [show n - (k + 1) = i by omega]; exact hs.2.symm

/-- The memory of a division. -/
def DivW (w : World) (B N n cap x d : Nat) (p : Option Addr) (k : Nat) (W : World) : Prop :=
  ∃ S r, DivI n x d k S r ∧ Sl .u32 59 W p cap S ∧ Boxed W N 24 (.slice p n cap) ∧ Boxed W (N + 1) 59 (.int .u32 (d : Int)) ∧ Boxed W (N + 1 + 1) 59 (.int .u32 (r : Int)) ∧ Boxed W (N + 1 + 1 + 1) 24 (.slice p n cap) ∧
    Mod (fun i => ∃ a, p = some a ∧ i = a.block) w W ∧ B ≤ W.heap.size
theorem DivW.own {w : World} {B N n cap x d : Nat} {p : Option Addr} (hN : N + 3 < B) (hp : ∀ a, p = some a → a.block < B) (hw : w.heap.size ≤ B) : OwnFrom B (DivW w B N n cap x d p) := by
  rintro k W W' row ⟨S, r, h1, h2, h3, h4, h5, h6, h7, h8⟩ hg hr
  have hm : Mod (fun i => B ≤ i) W W' := (Mod.refl _ _).grown hg (fun k e _ => (hr k e).1)
  exact ⟨S, r, h1, h2.kept hm (fun a e => by have := hp a e; omega), Boxed.mod' h3 hm (by omega), Boxed.mod' h4 hm (by omega), Boxed.mod' h5 hm (by omega), Boxed.mod' h6 hm (by omega),
    h7.trans hm (by intro i hi h; omega), Nat.le_trans h8 hm.size⟩

/-- One round more. -/
theorem DivW.next {w : World} {B N n cap x d k g i v : Nat} {S : List Nat} {r : Nat} {W W' : World} (hI : DivI n x d k S r) (hSl : Sl .u32 59 W (some ⟨g, 0, none⟩) cap S) (b1 : Boxed W N 24 (.slice (some ⟨g, 0, none⟩) n cap)) (b2 : Boxed W (N + 1) 59 (.int .u32 (d : Int)))
    (b3 : Boxed W (N + 1 + 1) 59 (.int .u32 (r : Int))) (b4 : Boxed W (N + 1 + 1 + 1) 24 (.slice (some ⟨g, 0, none⟩) n cap)) (hm : Mod (fun i => ∃ a, some (⟨g, 0, none⟩ : Addr) = some a ∧ i = a.block) w W) (hB : B ≤ W.heap.size)
    (hN : N = w.heap.size) (hNB : N + 4 ≤ B) (hg : g < N) (hik : i + k + 1 = n) (hd : 0 < d) (hv : v = x / 4294967296 ^ i % 4294967296)
    (e1 : W'.heap = ((W.setCell ⟨g, i, none⟩ (.int .u32 (((r * 4294967296 + v) / d : Nat) : Int))).setCell ⟨N + 1 + 1, 0, none⟩ (.int .u32 (((r * 4294967296 + v) % d : Nat) : Int))).heap) (e2 : W'.os = W.os) (e3 : W'.tape = W.tape) (e4 : W'.output = W.output) :
    KeepsFrom B W W' ∧ DivW w B N n cap x d (some ⟨g, 0, none⟩) (k + 1) W' := by
  obtain ⟨V, hV⟩ : ∃ V, V = (W.setCell ⟨g, i, none⟩ (.int .u32 (((r * 4294967296 + v) / d : Nat) : Int))).setCell ⟨N + 1 + 1, 0, none⟩ (.int .u32 (((r * 4294967296 + v) % d : Nat) : Int)) := ⟨_, rfl⟩
  rw [← hV] at e1
  have hW : Mod (fun _ => False) V W' := ⟨by rw [e2, hV]; rfl, by rw [e3, hV]; rfl, by rw [e4, hV]; rfl, by rw [e1]; exact Nat.le_refl _, fun k _ _ => by rw [e1]⟩
  have hM1 : Mod (fun j => j = g ∨ j = N + 1 + 1) W V := by rw [hV]; exact ((Mod.refl _ W).setCell (p := ⟨g, i, none⟩) (fun _ => Or.inl rfl) _).setCell (p := ⟨N + 1 + 1, 0, none⟩) (fun _ => Or.inr rfl) _
  have hM := hM1.trans hW (fun _ _ h => h.elim)
  have s1 := (hSl.set i ((r * 4294967296 + v) / d)).other ⟨N + 1 + 1, 0, none⟩ (.int .u32 (((r * 4294967296 + v) % d : Nat) : Int)) (by rintro a e; cases e; show g ≠ N + 1 + 1; omega)
  rw [← hV] at s1
  have s3 : Boxed V (N + 1 + 1) 59 (.int .u32 (((r * 4294967296 + v) % d : Nat) : Int)) := by
    rw [hV]; exact (Boxed.mod' b3 ((Mod.refl (· = g) W).setCell (p := ⟨g, i, none⟩) (fun _ => rfl) _) (by omega)).set _
  refine ⟨⟨hM.size, fun j o hj hk _ => (hM.block j (Array.getElem?_eq_some_iff.1 hk).1 (by omega)).trans hk⟩, _, _, hI.next i hik hd v hv, s1.kept hW (fun _ _ h => h), Boxed.mod' b1 hM (by omega), Boxed.mod' b2 hM (by omega), Boxed.mod' s3 hW (fun h => h), Boxed.mod' b4 hM (by omega), ?_, Nat.le_trans hB hM.size⟩
  refine hm.trans hM ?_
  rintro j hj (rfl | rfl)
  · exact ⟨_, rfl, rfl⟩
  · omega

set_option maxRecDepth 100000 in
set_option maxHeartbeats 20000000 in
theorem divide_any (p : Option Addr) (cap x d : Nat) (A : List Nat) (w : World) (hS : Sl .u32 59 w p cap A) (hA : Hid (A = lb x)) (hl : A.length ≤ 1000000) (hd : 0 < d) (hdd : d < 4294967296) :
    Calls Tryd.prog 31 #[.slice p A.length cap, .int .u32 d] w fun e w' => e = .returned (.int .u32 ((x % d : Nat) : Int)) ∧ ∃ S : List Nat, S.length = A.length ∧ (∀ z ∈ S, z < 4294967296) ∧ vl 4294967296 S = x / d ∧ Sl .u32 59 w' p cap S ∧ Mod (fun i => ∃ a, p = some a ∧ i = a.block) w w' := by
  obtain ⟨n, hn⟩ : ∃ n, n = A.length := ⟨_, rfl⟩
  rw [← hn] at hl ⊢
  have Hn := Lib.hid hn
  clear hn
  refine (callsIn_wide (n := 3)).1 ?_
  refine callsIn_of_wp_marks Tryd.func31 rfl trivial ?_ rfl
  simp only [Tryd.ntmps31, List.size_toArray, List.length_cons, List.length_nil, Nat.reduceAdd, Nat.reduceSub, Array.replicate_succ, Array.replicate_zero, List.push_toArray, List.append_toArray, List.nil_append, List.cons_append]
  gi_wp2_with (refine ⟨trivial, ?_⟩; gi_at_call 29; refine (backward_in Fence.wide (3 - 1) trivial rfl _ _ _ _).mono ?_; rintro e w' ⟨rfl, rfl⟩)
  obtain ⟨W0, hW0⟩ : ∃ W0, W0 = (((w.alloc (.cells #[.slice p n cap] 24)).alloc (.cells #[.int .u32 (d : Int)] 59)).alloc (.cells #[.int .u32 0] 59)).alloc (.cells #[.slice p n cap] 24) := ⟨_, rfl⟩
  have hB0 : Below w.heap.size w W0 := by rw [hW0]; exact ((((Below.refl _ _).alloc (Nat.le_refl _) _).alloc (by simp) _).alloc (by simp; omega) _).alloc (by simp; omega) _
  have hs0 : W0.heap.size = w.heap.size + 4 := by rw [hW0]; simp
  have hpl : ∀ a, p = some a → a.block < w.heap.size := by rintro a rfl; exact hS.lt
  have k1 : Boxed W0 w.heap.size 24 (.slice p n cap) := by rw [hW0]; exact (((Boxed.new w _ _).alloc _).alloc _).alloc _
  have k2 : Boxed W0 (w.heap.size + 1) 59 (.int .u32 (d : Int)) := by
    have := ((Boxed.new (w.alloc (.cells #[.slice p n cap] 24)) 59 (.int .u32 (d : Int))).alloc (.cells #[.int .u32 0] 59)).alloc (.cells #[.slice p n cap] 24)
    rw [hW0]; rwa [World.size_alloc] at this
  have k3 : Boxed W0 (w.heap.size + 1 + 1) 59 (.int .u32 0) := by
    have := (Boxed.new ((w.alloc (.cells #[.slice p n cap] 24)).alloc (.cells #[.int .u32 (d : Int)] 59)) 59 (.int .u32 0)).alloc (.cells #[.slice p n cap] 24)
    rw [hW0]; rwa [World.size_alloc, World.size_alloc] at this
  have k4 : Boxed W0 (w.heap.size + 1 + 1 + 1) 24 (.slice p n cap) := by
    have := Boxed.new (((w.alloc (.cells #[.slice p n cap] 24)).alloc (.cells #[.int .u32 (d : Int)] 59)).alloc (.cells #[.int .u32 0] 59)) 24 (.slice p n cap)
    rw [hW0]; rwa [World.size_alloc, World.size_alloc, World.size_alloc] at this
  rw [← hW0]
  clear hW0
  have hAb : ∀ z ∈ A, z < 4294967296 := by rw [hA.out]; exact lb_lt x
  have hAt : ∀ t (h : t < A.length), A[t] = x / 4294967296 ^ t % 4294967296 := by
    intro t ht
    have h2 : t < (lb x).length := by rw [← hA.out]; exact ht
    have := dg_at 4294967296 (by decide) x t h2
    rw [← this]; simp only [hA.out]; rfl
  have hI0 : DivI n x d 0 A 0 := by
    have hx : x < 4294967296 ^ n := by rw [Hn.out, hA.out]; exact lt_pow_dg 4294967296 (by decide) x
    refine ⟨Hn.out.symm, hAb, fun t h _ => hAt t h, ?_, ?_⟩
    · rw [Nat.sub_zero, List.drop_of_length_le (by rw [← Hn.out]; exact Nat.le_refl _), Nat.div_eq_of_lt hx]; simp [vl]
    · rw [Nat.sub_zero, Nat.div_eq_of_lt hx, Nat.zero_mod]
  have h0 : DivW w W0.heap.size w.heap.size n cap x d p 0 W0 :=
    ⟨A, 0, hI0, hS.old hB0, k1, k2, k3, k4, (Mod.of_below hB0).mono (by intro i hi h; omega), Nat.le_refl _⟩
  clear k1 k2 k3 k4 hI0 hB0
  refine wpIn_rounds (F := Fence.wide) rfl (by decide) (gf := 43) (lb := #[.pointer (some ⟨w.heap.size + 1 + 1 + 1, 0, none⟩)]) rfl trivial (enters_of Tryd.func43 (by kernel_rfl) rfl)
    (back_rounds Fence.wide (3 - 1) trivial rfl (by decide) (w.heap.size + 1 + 1 + 1) p cap A (by rw [← Hn.out]; exact hl) _) (fun _ => rfl)
    (DivW w W0.heap.size w.heap.size n cap x d p) (fun _ _ _ => False) ?hR (DivW.own (by omega) (fun a e => by have := hpl a e; omega) (by omega)) (fun _ _ _ _ _ hs _ _ => hs) h0
    (fun k => { tmps := #[.slice p n cap, .int .u32 d, .pointer (some ⟨w.heap.size, 0, none⟩), .pointer (some ⟨w.heap.size + 1, 0, none⟩), .int .u32 0, .pointer (some ⟨w.heap.size + 1 + 1, 0, none⟩), .int .i64 ((A.length - 1 - k : Nat) : Int), .int .u32 ((A.getD (A.length - 1 - k) 0 : Nat) : Int), .slice p n cap, .func (.func 43) #[] #[.pointer (some ⟨w.heap.size + 1 + 1 + 1, 0, none⟩)], .int .i64 ((A.length - 1 - k : Nat) : Int), .int .u32 ((A.getD (A.length - 1 - k) 0 : Nat) : Int), undef, undef, undef, undef, undef, undef, undef, undef, undef, undef, undef], defers := [] }) ?assign ?body ?done ?stop
  case hR =>
    rintro k W ⟨S, r, hI, hSl, b1, b2, b3, b4, hm, hB⟩
    refine ⟨by rw [← Hn.out]; exact b4.cell, fun i hi hik => ?_⟩
    have hiS : i < S.length := by rw [hI.len, Hn.out]; exact hi
    obtain ⟨g, rfl⟩ := hSl.isPtr (by intro e; subst e; simp at hiS)
    refine ⟨g, rfl, ?_⟩
    rw [hSl.cell i hiS, hI.low i hiS (by rw [Hn.out]; omega), hAt i hi]
  case assign =>
    intro l k W K hK
    unfold backArgs
    generalize A.getD (A.length - 1 - k) 0 = v at hK ⊢
    generalize A.length - 1 - k = i at hK ⊢
    gi_wp2
    exact hK
  case body =>
    rintro l k W ⟨S, r, hI, hSl, b1, b2, b3, b4, hm, hB⟩ hk
    obtain ⟨i, hi⟩ : ∃ i, i = A.length - 1 - k := ⟨_, rfl⟩
    have hik : i + k + 1 = n := by rw [Hn.out]; omega
    have hiA : i < A.length := by rw [← Hn.out]; omega
    have hiS : i < S.length := by rw [hI.len]; omega
    obtain ⟨v, hv⟩ : ∃ v, v = A.getD i 0 := ⟨_, rfl⟩
    have hv2 : v = x / 4294967296 ^ i % 4294967296 := by rw [hv, List.getD_eq_getElem?_getD, List.getElem?_eq_getElem hiA]; exact hAt i hiA
    have hv4 : v < 4294967296 := by rw [hv2]; exact Nat.mod_lt _ (by decide)
    have hrd : r < d := by rw [hI.r]; exact Nat.mod_lt _ hd
    obtain ⟨g, rfl⟩ := hSl.isPtr (by intro e; subst e; simp at hiS)
    have hg : g < w.heap.size := hpl _ rfl
    rw [← hi, ← hv]
    have c1 := b1.cell
    have c2 := b2.cell
    have c3 := b3.cell
    have f3 := b3.frozen
    have cS := hSl.cell i hiS
    have fS := hSl.froz i
    generalize S[i] = old at cS
    have i0 : (0 : Int) ≤ i := by omega
    have i1 : (i : Int) < n := by omega
    have n1 : ¬ w.heap.size + 1 + 1 = g := by omega
    have n2 : ¬ g = w.heap.size + 1 + 1 := by omega
    have Hend := Lib.hid (fun W' => DivW.next (B := W0.heap.size) (W' := W') hI hSl b1 b2 b3 b4 hm hB rfl (by omega) hg hik hd hv2)
    have hmix : Tryd.prog.follows .mixedOrders = true := by kernel_rfl
    have Hg := Lib.hid hg
    clear hi hv hv2 hAt hAb h0 hI hSl b1 b2 b3 b4 hm hB hpl hS hk hik hiA hiS hs0 hA Hn hl hd hg
    gi_wp2
    refine region_inRound hmix (by decide +kernel) ?_
    generalize hq : (r * 4294967296 + v) / d = q at Hend
    generalize hr2 : (r * 4294967296 + v) % d = r2 at Hend
    have hdv : ∀ w, Calls Tryd.prog 44 #[.int .u32 r, .int .u32 v, .int .u32 d] w fun r' w' => r' = .returned (.tuple #[.int .u32 (q : Int), .int .u32 (r2 : Int)]) ∧ ∃ n, w' = w.drewN n := by
      intro w; have := div32_any r v d w hrd hv4 hdd; rw [hq, hr2] at this; exact this
    have Hdv := Lib.hid hdv
    clear hq hr2 hdv hrd hv4 hdd Hg
    repeat' first
      | exact AllReadyIn.nil
      | refine AllReadyIn.cons rfl (fun K hK => ?_) ?_
      | (refine wpAnyIn_done (by decide +kernel) ?_ _; exact Hend.out _ rfl rfl rfl rfl)
      | refine wpAnyIn_take (i := 1) (v := .int .i64 (i : Int)) rfl rfl (by decide +kernel) (by decide +kernel) (by decide +kernel) (fun _ _ _ h => h) ⟨Or.inl ⟨by rfl, by (intro w; go_simp)⟩, fun _ => rfl⟩ ?_
      | refine wpAnyIn_take (i := 3) (v := .int .u32 (v : Int)) rfl rfl (by decide +kernel) (by decide +kernel) (by decide +kernel) (fun _ _ _ h => h) ⟨Or.inl ⟨by rfl, by (intro w; go_simp)⟩, fun _ => rfl⟩ ?_
      | refine wpAnyIn_take (i := 6) (v := .tuple #[.int .u32 (q : Int), .int .u32 (r2 : Int)]) rfl rfl (by decide +kernel) (by decide +kernel) (by decide +kernel) (fun _ _ _ h => h) ⟨Or.inl ⟨by rfl, by (intro w; go_simp)⟩, fun _ => rfl⟩ ?_
      | refine wpAnyIn_take (i := 7) (v := .int .u32 (q : Int)) rfl rfl (by decide +kernel) (by decide +kernel) (by decide +kernel) (fun _ _ _ h => h) ⟨Or.inl ⟨by rfl, by (intro w; go_simp)⟩, fun _ => rfl⟩ ?_
      | refine wpAnyIn_take (i := 8) (v := .int .u32 (r2 : Int)) rfl rfl (by decide +kernel) (by decide +kernel) (by decide +kernel) (fun _ _ _ h => h) ⟨Or.inl ⟨by rfl, by (intro w; go_simp)⟩, fun _ => rfl⟩ ?_
      | refine wpAnyIn_take (i := 9) (v := .pointer (some ⟨g, i, none⟩)) rfl rfl (by decide +kernel) (by decide +kernel) (by decide +kernel) (fun _ _ _ h => h) ⟨Or.inl ⟨by rfl, by (intro w; go_simp)⟩, fun _ => rfl⟩ ?_
      | refine wpAnyIn_ready (rs := [0, 2, 4]) (by decide +kernel) (by simp) ?_
      | refine wpAnyIn_ready (rs := [2, 4]) (by decide +kernel) (by simp) ?_
      | refine wpAnyIn_ready (rs := [0, 4]) (by decide +kernel) (by simp) ?_
      | refine wpAnyIn_ready (rs := [0, 2]) (by decide +kernel) (by simp) ?_
      | refine wpAnyIn_ready (rs := [0]) (by decide +kernel) (by simp) ?_
      | refine wpAnyIn_ready (rs := [2]) (by decide +kernel) (by simp) ?_
      | refine wpAnyIn_ready (rs := [4]) (by decide +kernel) (by simp) ?_
      | refine wpAnyIn_ready (rs := [0, 5]) (by decide +kernel) (by simp) ?_
      | refine wpAnyIn_ready (rs := [5]) (by decide +kernel) (by simp) ?_
      | refine wpAnyIn_ready (rs := [10]) (by decide +kernel) (by simp) ?_
      | refine wpAnyIn_ready (rs := [11]) (by decide +kernel) (by simp) ?_
      | (go_simp; refine hK _ _ ?_; clear hK K)
      | (go_simp; refine ⟨trivial, ?_⟩; refine (callsIn_wide.2 (Hdv.out _)).mono ?_; rintro e w' ⟨rfl, nq, rfl⟩; refine hK _ _ ?_; clear hK K)
  case done =>
    rintro D W hD ⟨S, r, hI, hSl, b1, b2, b3, b4, hm, hB⟩ hK
    have c3 := b3.cell
    gi_wp2
    refine ⟨by simp, .inl ⟨_, _, rfl, run_takeDeferred hK, ?_⟩⟩
    rw [← Hn.out] at hI
    have hv := hI.val
    have hr := hI.r
    rw [Nat.sub_self, List.drop_zero, Nat.pow_zero, Nat.div_one] at hv
    rw [Nat.sub_self, Nat.pow_zero, Nat.div_one] at hr
    have hmD : Mod (fun i => W0.heap.size ≤ i) W (W.putObj D (.deferred none)) := (Mod.refl _ _).grown (grownBy_putObj' _ D _) (fun k e _ => by cases e; exact hD)
    exact ⟨_, results_tmp rfl _ _ _, by rw [← hr]; rfl, S, hI.len, hI.lt, hv, hSl.kept hmD (fun a e => by have := hpl a e; omega), hm.trans hmD (by intro i hi h; omega)⟩
  case stop =>
    rintro D c k W _ _ h _
    exact h.elim
end Go.Proofs.YtdahkemeoefndaaDoor.NN

namespace Go.Proofs.YtdahkemeoefndaaDoor.NN
open Go.RowKit

theorem clone_any (p : Option Addr) (cap : Nat) (A : List Nat) (w : World) (hS : Sl .u32 59 w p cap A) (hl : A.length ≤ 1000000) :
    Calls Tryd.prog 27 #[.slice p A.length cap] w fun e w' => ∃ q c, e = .returned (.slice q A.length c) ∧ Sl .u32 59 w' q c A ∧ Below w.heap.size w w' ∧ (∀ a, q = some a → w.heap.size ≤ a.block) := by
  rcases hS.shape with ⟨rfl, rfl, rfl⟩ | ⟨g, rfl, hlt, _⟩
  · refine (Tryd.slices_Clone_nil 0 0 w).mono ?_
    rintro e w' ⟨rfl, rfl⟩
    exact ⟨none, 0, rfl, Sl.empty _ _ _, Below.refl _ _, by rintro a h; cases h⟩
  · obtain ⟨i, hi, hz, h1, h2⟩ := info_parts info_u32
    refine (Tryd.slices_Clone i (.int .u32 0) 1 4 hi hz h1 h2 rfl (by decide) Tryd.sizeOf59 g 0 A.length cap (nums .u32 A) w (by simp [nums_len]) (by unfold maxLen; omega) (by omega) ?_ (nums_one _ _)).mono ?_
    · intro j u hj
      have hjl : j < A.length := by
        obtain ⟨hlt, _⟩ := List.getElem?_eq_some_iff.1 hj
        rwa [nums_len] at hlt
      rw [nums_get .u32 A j hjl] at hj
      cases hj
      rw [Nat.zero_add]; exact hS.cell j hjl
    · rintro e w' ⟨v', rfl, hown, hne, hb⟩
      rcases hown.2 with ⟨h, _⟩ | ⟨g', cap', cur, rfl, hbase, hh, ha, hb', hc, hd⟩
      · exact absurd h hne
      · exact ⟨some ⟨g', 0, none⟩, cap', rfl, Sl.of_row hh ha hb' (by simpa using hc) (by simpa using hd), hb, by rintro a h; cases h; exact hbase⟩

set_option maxHeartbeats 1000000 in
theorem div_zero (p : Option Addr) (cp x : Nat) (w : World) :
    Calls Tryd.prog 26 #[.agg #[.slice p (lb x).length cp], .int .u32 0] w fun r w' => r = .returned (.tuple #[.agg #[.slice none 0 0], .int .u32 0, .bool false]) ∧ Below w.heap.size w w' := by
  go_enter Tryd.func26, Tryd.ntmps26
  go_wp2_with fail
  refine bodyPost_ret (v := .tuple #[.agg #[.slice none 0 0], .int .u32 0, .bool false]) (by simp [results, Tryd.results26, go_sem]) rfl ⟨rfl, ?_⟩
  exact ((Below.refl _ _).alloc (Nat.le_refl _) _).alloc (by simp) _

set_option maxHeartbeats 1000000 in
theorem div_any (p : Option Addr) (cp x d : Nat) (w : World) (hx : NatIn w p cp x) (lx : (lb x).length ≤ 100000) (hd : 0 < d) (hdd : d < 4294967296) :
    Calls Tryd.prog 26 #[.agg #[.slice p (lb x).length cp], .int .u32 d] w fun r w' => ∃ q c, r = .returned (.tuple #[.agg #[.slice q (lb (x / d)).length c], .int .u32 ((x % d : Nat) : Int), .bool true]) ∧ NatIn w' q c (x / d) ∧ Below w.heap.size w w' ∧ (∀ a, q = some a → w.heap.size ≤ a.block) := by
  obtain ⟨A, hA⟩ : ∃ A, A = lb x := ⟨_, rfl⟩
  obtain ⟨y, hy⟩ : ∃ y, y = x / d := ⟨_, rfl⟩
  obtain ⟨r0, hr0⟩ : ∃ y, y = x % d := ⟨_, rfl⟩
  have hx' : Sl .u32 59 w p cp A := by rw [hA]; exact hx
  rw [← hA] at lx ⊢
  rw [← hy, ← hr0]
  have HA := Lib.hid hA
  have Hy := Lib.hid hy
  have Hr := Lib.hid hr0
  clear hA hy hr0 hx
  have b1 : ((d : Int) == 0) = false := by rw [beq_eq_false_iff_ne]; omega
  go_enter Tryd.func26, Tryd.ntmps26
  go_wp2_with fail
  have hB0 : Below w.heap.size w ((w.alloc (.cells #[.slice p A.length cp] 26)).alloc (.cells #[.slice none 0 0] 26)) := ((Below.refl _ _).alloc (Nat.le_refl _) _).alloc (by simp) _
  refine (clone_any p cp A _ (hx'.old hB0) (by omega)).mono ?_
  rintro e W1 ⟨q, c, rfl, hS1, hb1, hf1⟩
  have k4 : Boxed W1 (w.heap.size + 1) 26 (.slice none 0 0) := by
    refine Boxed.below' ?_ hb1 (by simp)
    have := Boxed.new (w.alloc (.cells #[.slice p A.length cp] 26)) 26 (.slice none 0 0)
    rwa [World.size_alloc] at this
  have hB1 := hB0.trans (hb1.mono (by simp; omega))
  have hf2 : ∀ a, q = some a → w.heap.size + 2 ≤ a.block := by intro a e; have := hf1 a e; simpa using this
  clear hB0 hb1 hf1 hx'
  go_wp2_with fail
  refine (divide_any q c x d A W1 hS1 HA (by omega) hd hdd).mono ?_
  rintro e W2 ⟨rfl, S, hSl, hSb, hSv, hS2, hm2⟩
  have k42 := Boxed.mod' k4 hm2 (by rintro ⟨a, e, h⟩; have := hf2 a e; omega)
  have hB2 := hB1.trans (hm2.to_below (B := w.heap.size) (by have := hB1.size; omega) (by rintro k hk ⟨a, e, h⟩; have := hf2 a e; omega))
  rw [← Hr.out]
  rw [← Hy.out] at hSv
  have Hv := Lib.hid hSv
  clear k4 hB1 hS1 hm2 hSv
  go_wp2_with fail
  have htr := trim_any q c S W2 hS2 hSb (by omega)
  rw [hSl, Hv.out] at htr
  refine htr.mono ?_
  clear htr
  rintro e W3 ⟨q3, c3, rfl, hN, hb3, hq3⟩
  have k43 := Boxed.below' k42 hb3 k42.lt
  have hB3 := hB2.trans (hb3.mono hB2.size)
  have hf3 : ∀ a, q3 = some a → w.heap.size + 2 ≤ a.block := by rintro a rfl; rcases hq3 with h | h
                                                                · cases h
                                                                · exact hf2 a h.symm
  have c4 := k43.cell
  have f4 := k43.frozen
  clear k42 hB2 hb3 hq3 hS2 hSl hSb
  go_wp2_with fail
  have c5 := (k43.set (.slice q3 (lb y).length c3)).cell
  refine bodyPost_ret (v := .tuple #[.agg #[.slice q3 (lb y).length c3], .int .u32 (r0 : Int), .bool true]) (by simp [results, Tryd.results26, go_sem, c5]) rfl ⟨q3, c3, rfl, ?_, ?_, fun a e => by have := hf3 a e; omega⟩
  · exact hN.other ⟨w.heap.size + 1, 0, none⟩ _ (fun a e => by have := hf3 a e; show a.block ≠ w.heap.size + 1; omega)
  · exact hB3.setCell (p := ⟨w.heap.size + 1, 0, none⟩) (by show w.heap.size ≤ w.heap.size + 1; omega) _
end Go.Proofs.YtdahkemeoefndaaDoor.NN

namespace Go.Proofs.YtdahkemeoefndaaDoor.NN
open Go.RowKit Go.Shelf
attribute [local go_sem] Oper.semAt_some

/-- -1, 0, 1. -/
def cmpI (x y : Nat) : Int := if x < y then -1 else if y < x then 1 else 0
theorem len_lt {x y : Nat} (h : (lb x).length < (lb y).length) : x < y := by
  apply Nat.lt_of_not_le; intro hle
  have := dg_len_mono 4294967296 (by decide) hle
  change (lb y).length ≤ (lb x).length at this
  omega
/-- One limb more from above. -/
theorem high_step {x y i : Nat} (h : x / 4294967296 ^ (i + 1) = y / 4294967296 ^ (i + 1)) :
    (x / 4294967296 ^ i % 4294967296 < y / 4294967296 ^ i % 4294967296 → x < y) ∧ (y / 4294967296 ^ i % 4294967296 < x / 4294967296 ^ i % 4294967296 → y < x) ∧ (x / 4294967296 ^ i % 4294967296 = y / 4294967296 ^ i % 4294967296 → x / 4294967296 ^ i = y / 4294967296 ^ i) := by
  have hx : 4294967296 * (x / 4294967296 ^ (i + 1)) + x / 4294967296 ^ i % 4294967296 = x / 4294967296 ^ i := by rw [Nat.pow_succ, ← Nat.div_div_eq_div_mul]; exact Nat.div_add_mod _ _
  have hy : 4294967296 * (y / 4294967296 ^ (i + 1)) + y / 4294967296 ^ i % 4294967296 = y / 4294967296 ^ i := by rw [Nat.pow_succ, ← Nat.div_div_eq_div_mul]; exact Nat.div_add_mod _ _
  have mono : ∀ a b : Nat, a / 4294967296 ^ i < b / 4294967296 ^ i → a < b := by
    intro a b hab; apply Nat.lt_of_not_le; intro hle; have := Nat.div_le_div_right (c := 4294967296 ^ i) hle; omega
  have m1 := mono x y
  have m2 := mono y x
  rw [h] at hx
  generalize y / 4294967296 ^ (i + 1) = c at *
  generalize x / 4294967296 ^ i % 4294967296 = dx at *
  generalize y / 4294967296 ^ i % 4294967296 = dy at *
  generalize x / 4294967296 ^ i = a at *
  generalize y / 4294967296 ^ i = b at *
  exact ⟨fun hl => m1 (by omega), fun hl => m2 (by omega), fun he => by omega⟩

/-- The memory of a comparison. -/
def CmpW (w : World) (B N n cp cq x y : Nat) (p q : Option Addr) (res : Int) (W : World) : Prop :=
  NatIn W p cp x ∧ NatIn W q cq y ∧ Boxed W N 26 (.slice p n cp) ∧ Boxed W (N + 1) 26 (.slice q n cq) ∧ Boxed W (N + 1 + 1) 3 (.int .i64 res) ∧ Boxed W (N + 1 + 1 + 1) 24 (.slice p n cp) ∧ Below w.heap.size w W ∧ B ≤ W.heap.size
theorem CmpW.step {w : World} {B N n cp cq x y : Nat} {p q : Option Addr} {res : Int} {W W' : World} (h : CmpW w B N n cp cq x y p q res W) (hm : Mod (fun i => B ≤ i) W W') (hN : N = w.heap.size) (hB : N + 4 ≤ B) (hp : ∀ a, p = some a → a.block < B) (hq : ∀ a, q = some a → a.block < B) : CmpW w B N n cp cq x y p q res W' := by
  obtain ⟨h1, h2, h3, h4, h5, h6, h7, h8⟩ := h
  exact ⟨h1.kept hm (fun a e => by have := hp a e; omega), h2.kept hm (fun a e => by have := hq a e; omega), Boxed.mod' h3 hm (by omega), Boxed.mod' h4 hm (by omega), Boxed.mod' h5 hm (by omega), Boxed.mod' h6 hm (by omega),
    h7.trans (hm.to_below (by have := h7.size; omega) (by intro k hk h; omega)), Nat.le_trans h8 hm.size⟩
theorem CmpW.put {w : World} {B N n cp cq x y : Nat} {p q : Option Addr} {res : Int} {W : World} (h : CmpW w B N n cp cq x y p q res W) (hN : N = w.heap.size) (hB : N + 4 ≤ B) (hp : ∀ a, p = some a → a.block < N) (hq : ∀ a, q = some a → a.block < N) (r2 : Int) :
    KeepsFrom B W (W.setCell ⟨N + 1 + 1, 0, none⟩ (.int .i64 r2)) ∧ CmpW w B N n cp cq x y p q r2 (W.setCell ⟨N + 1 + 1, 0, none⟩ (.int .i64 r2)) := by
  obtain ⟨h1, h2, h3, h4, h5, h6, h7, h8⟩ := h
  have hm : Mod (fun i => i = N + 1 + 1) W (W.setCell ⟨N + 1 + 1, 0, none⟩ (.int .i64 r2)) := (Mod.refl (fun i => i = N + 1 + 1) W).setCell (p := ⟨N + 1 + 1, 0, none⟩) (fun _ => rfl) _
  exact ⟨⟨hm.size, fun j o hj hk _ => (hm.block j (Array.getElem?_eq_some_iff.1 hk).1 (by omega)).trans hk⟩,
    h1.kept hm (fun a e => by have := hp a e; omega), h2.kept hm (fun a e => by have := hq a e; omega), Boxed.mod' h3 hm (by omega), Boxed.mod' h4 hm (by omega), h5.set _, Boxed.mod' h6 hm (by omega),
    h7.setCell (p := ⟨N + 1 + 1, 0, none⟩) (by show w.heap.size ≤ N + 1 + 1; omega) _, Nat.le_trans h8 hm.size⟩
def CmpI (w : World) (B N n cp cq x y : Nat) (p q : Option Addr) (k : Nat) (W : World) : Prop :=
  x / 4294967296 ^ (n - k) = y / 4294967296 ^ (n - k) ∧ CmpW w B N n cp cq x y p q 0 W
def CmpX (w : World) (B N n cp cq x y : Nat) (p q : Option Addr) (c : Code) (_ : Nat) (W : World) : Prop :=
  c = .ret ∧ CmpW w B N n cp cq x y p q (cmpI x y) W

set_option maxHeartbeats 1000000 in
theorem cmp_len (p q : Option Addr) (cp cq x y : Nat) (w : World) (hne : (lb x).length ≠ (lb y).length) :
    Calls Tryd.prog 10 #[.agg #[.slice p (lb x).length cp], .agg #[.slice q (lb y).length cq]] w fun r w' => r = .returned (.int .i64 (cmpI x y)) ∧ Below w.heap.size w w' := by
  rcases Nat.lt_or_gt_of_ne hne with hlt | hlt
  · have e : cmpI x y = -1 := by have := len_lt hlt; unfold cmpI; rw [if_pos this]
    rw [e]
    go_enter Tryd.func10, Tryd.ntmps10
    go_wp2_with fail
    refine bodyPost_ret (v := .int .i64 (-1)) (by simp [results, Tryd.results10, go_sem]) rfl ⟨rfl, ?_⟩
    exact (((Below.refl _ _).alloc (Nat.le_refl _) _).alloc (by simp) _).alloc (by simp; omega) _
  · have e : cmpI x y = 1 := by have := len_lt hlt; unfold cmpI; rw [if_neg (by omega), if_pos this]
    rw [e]
    go_enter Tryd.func10, Tryd.ntmps10
    go_wp2_with fail
    refine bodyPost_ret (v := .int .i64 1) (by simp [results, Tryd.results10, go_sem]) rfl ⟨rfl, ?_⟩
    exact (((Below.refl _ _).alloc (Nat.le_refl _) _).alloc (by simp) _).alloc (by simp; omega) _

set_option maxRecDepth 100000 in
set_option maxHeartbeats 2000000 in
theorem cmp_same (p q : Option Addr) (cp cq x y : Nat) (w : World) (hx : NatIn w p cp x) (hy : NatIn w q cq y) (hl : (lb x).length ≤ 1000000) (he : Hid ((lb x).length = (lb y).length)) :
    Calls Tryd.prog 10 #[.agg #[.slice p (lb x).length cp], .agg #[.slice q (lb y).length cq]] w fun r w' => r = .returned (.int .i64 (cmpI x y)) ∧ Below w.heap.size w w' := by
  obtain ⟨n, hn⟩ : ∃ n, n = (lb x).length := ⟨_, rfl⟩
  rw [← he.out, ← hn]
  rw [← hn] at hl
  have Hn := Lib.hid hn
  clear hn
  obtain ⟨A, hA⟩ : ∃ A, A = lb x := ⟨_, rfl⟩
  have HA := Lib.hid hA
  clear hA
  refine (callsIn_wide (n := 3)).1 ?_
  refine callsIn_of_wp_marks Tryd.func10 rfl trivial ?_ rfl
  simp only [Tryd.ntmps10, List.size_toArray, List.length_cons, List.length_nil, Nat.reduceAdd, Nat.reduceSub, Array.replicate_succ, Array.replicate_zero, List.push_toArray, List.append_toArray, List.nil_append, List.cons_append]
  gi_wp2_with (refine ⟨trivial, ?_⟩; gi_at_call 29; refine (backward_in Fence.wide (3 - 1) trivial rfl _ _ _ _).mono ?_; rintro e w' ⟨rfl, rfl⟩)
  obtain ⟨W0, hW0⟩ : ∃ W0, W0 = (((w.alloc (.cells #[.slice p n cp] 26)).alloc (.cells #[.slice q n cq] 26)).alloc (.cells #[.int .i64 0] 3)).alloc (.cells #[.slice p n cp] 24) := ⟨_, rfl⟩
  have hB0 : Below w.heap.size w W0 := by rw [hW0]; exact ((((Below.refl _ _).alloc (Nat.le_refl _) _).alloc (by simp) _).alloc (by simp; omega) _).alloc (by simp; omega) _
  have hs0 : W0.heap.size = w.heap.size + 4 := by rw [hW0]; simp
  have hpl : ∀ a, p = some a → a.block < w.heap.size := by rintro a rfl; exact hx.lt
  have hql : ∀ a, q = some a → a.block < w.heap.size := by rintro a rfl; exact hy.lt
  have k1 : Boxed W0 w.heap.size 26 (.slice p n cp) := by rw [hW0]; exact (((Boxed.new w _ _).alloc _).alloc _).alloc _
  have k2 : Boxed W0 (w.heap.size + 1) 26 (.slice q n cq) := by
    have := ((Boxed.new (w.alloc (.cells #[.slice p n cp] 26)) 26 (.slice q n cq)).alloc (.cells #[.int .i64 0] 3)).alloc (.cells #[.slice p n cp] 24)
    rw [hW0]; rwa [World.size_alloc] at this
  have k3 : Boxed W0 (w.heap.size + 1 + 1) 3 (.int .i64 0) := by
    have := (Boxed.new ((w.alloc (.cells #[.slice p n cp] 26)).alloc (.cells #[.slice q n cq] 26)) 3 (.int .i64 0)).alloc (.cells #[.slice p n cp] 24)
    rw [hW0]; rwa [World.size_alloc, World.size_alloc] at this
  have k4 : Boxed W0 (w.heap.size + 1 + 1 + 1) 24 (.slice p n cp) := by
    have := Boxed.new (((w.alloc (.cells #[.slice p n cp] 26)).alloc (.cells #[.slice q n cq] 26)).alloc (.cells #[.int .i64 0] 3)) 24 (.slice p n cp)
    rw [hW0]; rwa [World.size_alloc, World.size_alloc, World.size_alloc] at this
  rw [← hW0]
  clear hW0
  have hAl : A.length = n := by rw [HA.out, Hn.out]
  have hxn : x < 4294967296 ^ n := by rw [Hn.out]; exact lt_pow_dg 4294967296 (by decide) x
  have hyn : y < 4294967296 ^ n := by rw [Hn.out, he.out]; exact lt_pow_dg 4294967296 (by decide) y
  have h0 : CmpI w W0.heap.size w.heap.size n cp cq x y p q 0 W0 := by
    have e1 : Sl .u32 59 W0 p cp (lb x) := hx.old hB0
    refine ⟨?_, e1, hy.old hB0, k1, k2, k3, k4, hB0, Nat.le_refl _⟩
    rw [Nat.sub_zero, Nat.div_eq_of_lt hxn, Nat.div_eq_of_lt hyn]
  have HAl := Lib.hid hAl
  clear k1 k2 k3 k4 hB0 hx hy hAl hxn hyn
  refine wpIn_rounds (F := Fence.wide) rfl (by decide) (gf := 43) (lb := #[.pointer (some ⟨w.heap.size + 1 + 1 + 1, 0, none⟩)]) rfl trivial (enters_of Tryd.func43 (by kernel_rfl) rfl)
    (back_rounds Fence.wide (3 - 1) trivial rfl (by decide) (w.heap.size + 1 + 1 + 1) p cp A (by rw [HAl.out]; exact hl) _) (fun _ => rfl)
    (CmpI w W0.heap.size w.heap.size n cp cq x y p q) (CmpX w W0.heap.size w.heap.size n cp cq x y p q) ?hR ?hI ?hX h0
    (fun k => { tmps := #[.agg #[.slice p n cp], .agg #[.slice q n cq], .pointer (some ⟨w.heap.size, 0, none⟩), .pointer (some ⟨w.heap.size + 1, 0, none⟩), .pointer (some ⟨w.heap.size + 1 + 1, 0, none⟩), .int .i64 ((A.length - 1 - k : Nat) : Int), .int .u32 ((A.getD (A.length - 1 - k) 0 : Nat) : Int), .bool false, .pointer (some ⟨w.heap.size, 0, none⟩), .slice p n cp, .int .i64 n, .pointer (some ⟨w.heap.size + 1, 0, none⟩), .slice q n cq, .int .i64 n, .bool false, .bool false, .pointer (some ⟨w.heap.size, 0, none⟩), .slice p n cp, .int .i64 n, .pointer (some ⟨w.heap.size + 1, 0, none⟩), .slice q n cq, .int .i64 n, .bool false, .pointer (some ⟨w.heap.size, 0, none⟩), .slice p n cp, .func (.func 43) #[] #[.pointer (some ⟨w.heap.size + 1 + 1 + 1, 0, none⟩)], .int .i64 ((A.length - 1 - k : Nat) : Int), .int .u32 ((A.getD (A.length - 1 - k) 0 : Nat) : Int), undef, undef, undef, undef, undef, undef, undef, undef, undef, undef, undef, undef, undef, undef, undef, undef], defers := [] }) ?assign ?body ?done ?stop
  case hI =>
    rintro k W W' row ⟨h1, h2⟩ hg hr
    exact ⟨h1, h2.step ((Mod.refl _ _).grown hg (fun k e _ => (hr k e).1)) rfl (by omega) (fun a e => by have := hpl a e; omega) (fun a e => by have := hql a e; omega)⟩
  case hX =>
    rintro c k W W' row ⟨h1, h2⟩ hg hr
    exact ⟨h1, h2.step ((Mod.refl _ _).grown hg (fun k e _ => (hr k e).1)) rfl (by omega) (fun a e => by have := hpl a e; omega) (fun a e => by have := hql a e; omega)⟩
  case hR =>
    rintro k W ⟨_, h1, h2, b1, b2, b3, b4, hm, hB⟩
    refine ⟨by rw [HAl.out]; exact b4.cell, fun i hi hik => ?_⟩
    have h1' : Sl .u32 59 W p cp A := by rw [HA.out]; exact h1
    obtain ⟨g, rfl⟩ := h1'.isPtr (by intro e; rw [e] at hi; simp at hi)
    exact ⟨g, rfl, h1'.cell i hi⟩
  case assign =>
    intro l k W K hK
    unfold backArgs
    generalize A.getD (A.length - 1 - k) 0 = v at hK ⊢
    generalize A.length - 1 - k = i at hK ⊢
    gi_wp2
    exact hK
  case body =>
    rintro l k W ⟨hv, hC⟩ hk
    rw [HAl.out] at hk
    obtain ⟨i, hi⟩ : ∃ i, i = A.length - 1 - k := ⟨_, rfl⟩
    have hik : i + k + 1 = n := by have := HAl.out; omega
    have hst := high_step (x := x) (y := y) (i := i) (by rw [show i + 1 = n - k by omega]; exact hv)
    obtain ⟨dx, hdx⟩ : ∃ d, d = x / 4294967296 ^ i % 4294967296 := ⟨_, rfl⟩
    obtain ⟨dy, hdy⟩ : ∃ d, d = y / 4294967296 ^ i % 4294967296 := ⟨_, rfl⟩
    rw [← hdx, ← hdy] at hst
    have hgd : A.getD i 0 = dx := by rw [hdx, HA.out]; exact dg_getD 4294967296 (by decide) x i
    rw [← hi, hgd]
    obtain ⟨h1, h2, b1, b2, b3, b4, hm, hB⟩ := hC
    have hiy : i < (lb y).length := by rw [← he.out, ← Hn.out]; omega
    obtain ⟨g, rfl⟩ := h2.isPtr (by intro e; rw [e] at hiy; simp at hiy)
    have cy : W.cell? ⟨g, i, none⟩ = some (.int .u32 (dy : Int)) := by rw [hdy, ← dg_at 4294967296 (by decide) y i hiy]; exact h2.cell i hiy
    have c2 := b2.cell
    have c3 := b3.cell
    have f3 := b3.frozen
    have hput := CmpW.put (r2 := cmpI x y) ⟨h1, h2, b1, b2, b3, b4, hm, hB⟩ rfl (by omega) hpl hql
    have hC : CmpW w W0.heap.size w.heap.size n cp cq x y p (some ⟨g, 0, none⟩) 0 W := ⟨h1, h2, b1, b2, b3, b4, hm, hB⟩
    have i0 : (0 : Int) ≤ i := by omega
    have i1 : (i : Int) < n := by omega
    have Hst := Lib.hid hst
    have Hput := Lib.hid hput
    have HC := Lib.hid hC
    have Hik := Lib.hid hik
    clear hst hput hC h1 h2 b1 b2 b3 b4 hm hB hv hi hdx hdy hgd hik h0 hpl hql hs0 hk
    rcases Nat.lt_trichotomy dx dy with hlt | heq | hgt
    · have e : cmpI x y = -1 := by unfold cmpI; rw [if_pos (Hst.out.1 hlt)]
      have He := Lib.hid e
      clear e
      gi_wp2
      have := Hput.out
      rw [He.out] at this
      exact ⟨this.1, rfl, by rw [He.out]; exact this.2⟩
    · have hnx : x / 4294967296 ^ (n - (k + 1)) = y / 4294967296 ^ (n - (k + 1)) := by have := Hst.out.2.2 heq; have hk := Hik.out; rw [show n - (k + 1) = i by omega]; exact this
      have Hnx := Lib.hid hnx
      have n1 : ¬ dx < dy := by omega
      have n2 : ¬ dy < dx := by omega
      clear hnx heq
      gi_wp2
      exact ⟨KeepsFrom.refl _ _, Hnx.out, HC.out⟩
    · have e : cmpI x y = 1 := by unfold cmpI; have := Hst.out.2.1 hgt; rw [if_neg (by omega), if_pos this]
      have n1 : ¬ dx < dy := by omega
      have He := Lib.hid e
      clear e
      gi_wp2
      have := Hput.out
      rw [He.out] at this
      exact ⟨this.1, rfl, by rw [He.out]; exact this.2⟩
  case done =>
    rintro D W hD ⟨hv, hC⟩ hK
    rw [HAl.out, Nat.sub_self, Nat.pow_zero, Nat.div_one, Nat.div_one] at hv
    have e : cmpI x y = 0 := by unfold cmpI; rw [if_neg (by omega), if_neg (by omega)]
    have He := Lib.hid e
    have hput := CmpW.put (r2 := 0) hC rfl (by omega) hpl hql
    obtain ⟨_, _, _, _, b3, _, _, hB⟩ := hC
    have c3 := b3.cell
    have f3 := b3.frozen
    have hKs : (W.setCell ⟨w.heap.size + 1 + 1, 0, none⟩ (.int .i64 0)).heap[D]? = some (.deferred (some [])) := (Below.heap_setCell _ _ _ _ (by show D ≠ w.heap.size + 1 + 1; omega)).trans hK
    clear e hv
    gi_wp2
    refine ⟨by simp, .inl ⟨_, _, rfl, run_takeDeferred hKs, ?_⟩⟩
    have hfin := hput.2.step ((Mod.refl _ _).grown (grownBy_putObj' (W.setCell ⟨w.heap.size + 1 + 1, 0, none⟩ (.int .i64 0)) D (.deferred none)) (fun k e _ => by cases e; exact hD)) rfl (by omega) (fun a e => by have := hpl a e; omega) (fun a e => by have := hql a e; omega)
    obtain ⟨_, _, _, _, r3, _, rB, _⟩ := hfin
    have rc := r3.cell
    exact ⟨.int .i64 0, by simp [results, Tryd.results10, go_sem, rc], by rw [He.out], rB⟩
  case stop =>
    rintro D c k W hD hk ⟨rfl, hC⟩ hK
    gi_wp2
    refine ⟨by simp, .inl ⟨_, _, rfl, run_takeDeferred hK, ?_⟩⟩
    have hfin := hC.step ((Mod.refl _ _).grown (grownBy_putObj' W D (.deferred none)) (fun k e _ => by cases e; exact hD)) rfl (by omega) (fun a e => by have := hpl a e; omega) (fun a e => by have := hql a e; omega)
    obtain ⟨_, _, _, _, r3, _, rB, _⟩ := hfin
    have rc := r3.cell
    exact ⟨.int .i64 (cmpI x y), by simp [results, Tryd.results10, go_sem, rc], rfl, rB⟩

theorem cmp_any (p q : Option Addr) (cp cq x y : Nat) (w : World) (hx : NatIn w p cp x) (hy : NatIn w q cq y) (hl : (lb x).length ≤ 1000000) :
    Calls Tryd.prog 10 #[.agg #[.slice p (lb x).length cp], .agg #[.slice q (lb y).length cq]] w fun r w' => r = .returned (.int .i64 (cmpI x y)) ∧ Below w.heap.size w w' := by
  by_cases he : (lb x).length = (lb y).length
  · exact cmp_same p q cp cq x y w hx hy hl he
  · exact cmp_len p q cp cq x y w he
end Go.Proofs.YtdahkemeoefndaaDoor.NN
