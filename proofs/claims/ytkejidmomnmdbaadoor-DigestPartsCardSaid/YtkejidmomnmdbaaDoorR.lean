import Derived.Test.YtkejidmomnmdbaaDoorD9
import Derived.Test.YtkejidmomnmdbaaDoorP
import Derived.Deep.AppendLies
import Derived.Deep.RegionLaw
namespace Go.Proofs.YtkejidmomnmdbaaDoor
open Go.RowKit

/-- A row of words, owned, from B on. -/
def W64 (B : Nat) (w : World) (g cap : Nat) (A : List Nat) : Prop := w.ownsRow B 37 1 (.slice (some ⟨g, 0, none⟩) A.length cap) A.length (nums .u64 A)

theorem W64.row {B : Nat} {w : World} {g cap : Nat} {A : List Nat} (h : W64 B w g cap A) :
    B ≤ g ∧ ∃ cur, w.heap[g]? = some (.cells cur 37 (0, 0)) ∧ A.length ≤ cap ∧ cap ≤ maxLen ∧ cur.size = cap ∧ cur.toList.take A.length = nums .u64 A := by
  rcases h.2 with ⟨h, _⟩ | ⟨g', cap', cur, e, hb, hh, h1, h2, h3, h4⟩
  · cases h
  · simp only [Value.slice.injEq, Option.some.injEq, Addr.mk.injEq] at e
    obtain ⟨⟨rfl, _, _⟩, _, rfl⟩ := e
    exact ⟨hb, cur, hh, h1, h2, by simpa using h3, by simpa using h4⟩
theorem W64.lo {B : Nat} {w : World} {g cap : Nat} {A : List Nat} (h : W64 B w g cap A) : B ≤ g := h.row.1
theorem W64.lt {B : Nat} {w : World} {g cap : Nat} {A : List Nat} (h : W64 B w g cap A) : g < w.heap.size := by
  obtain ⟨_, cur, hh, _⟩ := h.row; exact (Array.getElem?_eq_some_iff.1 hh).1
theorem W64.cell {B : Nat} {w : World} {g cap : Nat} {A : List Nat} (h : W64 B w g cap A) (i : Nat) (hi : i < A.length) : w.cell? ⟨g, i, none⟩ = some (.int .u64 (A[i]'hi)) := by
  obtain ⟨_, cur, hh, _, _, _, ht⟩ := h.row
  rw [cell_of_row w g i _ 37 (0, 0) hh]
  have := nums_get .u64 A i hi
  rw [← ht, List.getElem?_take_of_lt hi] at this
  simpa using this
theorem W64.kept {B : Nat} {w w' : World} {g cap : Nat} {A : List Nat} {S : Nat → Prop} (h : W64 B w g cap A) (hm : Mod S w w') (hg : ¬ S g) : W64 B w' g cap A := by
  obtain ⟨hb, cur, hh, h1, h2, h3, h4⟩ := h.row
  exact ⟨h.1, .inr ⟨g, cap, cur, rfl, hb, (hm.block g h.lt hg).trans hh, h1, h2, by simpa using h3, by simpa using h4⟩⟩
theorem W64.fresh {B : Nat} (w : World) (A : List Nat) (hB : B ≤ w.heap.size) (hl : A.length ≤ maxLen) : W64 B (w.alloc (.cells (nums .u64 A).toArray 37 (0, 0))) w.heap.size A.length A :=
  ⟨by simp [nums_len], .inr ⟨_, _, _, rfl, hB, heap_alloc_new _ _, Nat.le_refl _, hl, by simp [nums_len], by simp [nums, List.take_of_length_le]⟩⟩

/-- What the document's own answer has laid by: its words, and the rounds' words. -/
structure RefAt (w : World) (gh gk B : Nat) (H : List Nat) (wr : World) : Prop where
  m : Mod (fun _ => False) w wr
  h : RowAt .u64 37 wr gh H
  k : RowAt .u64 37 wr gk kTab
  lo : w.heap.size ≤ gh
  hb : gh < B
  kb : gk < B
  ne : gh ≠ gk
  b : B ≤ wr.heap.size
theorem RefAt.step {w : World} {gh gk B : Nat} {H : List Nat} {wr w' : World} (r : RefAt w gh gk B H wr) (hm : Mod (fun i => B ≤ i) wr w') : RefAt w gh gk B H w' :=
  ⟨r.m.trans hm (by intro i hi h; have := r.lo; have := r.hb; omega), r.h.kept hm (by have := r.hb; omega), r.k.kept hm (by have := r.kb; omega), r.lo, r.hb, r.kb, r.ne, Nat.le_trans r.b hm.size⟩
theorem RefAt.set {w : World} {gh gk B : Nat} {H : List Nat} {wr : World} (r : RefAt w gh gk B H wr) (i x : Nat) : RefAt w gh gk B (H.set i x) (wr.setCell ⟨gh, i, none⟩ (.int .u64 x)) := by
  have hm : Mod (· = gh) wr (wr.setCell ⟨gh, i, none⟩ (.int .u64 x)) := (Mod.refl (· = gh) _).setCell (p := ⟨gh, i, none⟩) (fun _ => rfl) _
  have := r.lo; have := r.ne
  exact ⟨r.m.trans hm (by intro i hi h; omega), r.h.set i x, r.k.kept hm (by omega), r.lo, r.hb, r.kb, r.ne, Nat.le_trans r.b hm.size⟩
/-- A word more behind an owned row. -/
theorem W64.push {B : Nat} {w w' : World} {g g' cap cap' : Nat} {A : List Nat} {x : Nat} (_ : W64 B w g cap A)
    (ho : w'.ownsRow B 37 1 (.slice (some ⟨g', 0, none⟩) (A.length + 1) cap') (A.length + 1) (nums .u64 A ++ [.int .u64 x])) : W64 B w' g' cap' (A ++ [x]) := by
  unfold W64
  rw [List.length_append, List.length_singleton, show nums .u64 (A ++ [x]) = nums .u64 A ++ [.int .u64 x] by simp [nums]]
  exact ho
/-- A word while it is read. -/
def wpart (L : List Nat) (i : Nat) : Nat → Nat
  | 0 => 0
  | t + 1 => wpart L i t * 256 + L.getD (4 * i + t) 0
theorem wpart_four (L : List Nat) (i : Nat) : wpart L i 4 = w16 L i := by
  simp only [wpart, Nat.add_zero, Nat.zero_mul, Nat.zero_add]; unfold w16; omega
theorem wpart_lt (L : List Nat) (hL : ∀ x ∈ L, x < 256) (i t : Nat) (ht : t ≤ 4) : wpart L i t < 256 ^ t := by
  induction t with
  | zero => exact Nat.one_pos
  | succ t ih =>
    have h := ih (by omega)
    have hd : L.getD (4 * i + t) 0 < 256 := by
      by_cases hj : 4 * i + t < L.length
      · rw [getD_at _ _ hj]; exact hL _ (List.getElem_mem _)
      · simp [List.getD, List.getElem?_eq_none (Nat.le_of_not_lt hj)]
    show wpart L i t * 256 + _ < _
    rw [Nat.pow_succ]; omega

theorem str_index (A : List Nat) (hA : ∀ x ∈ A, x < 256) (n : Nat) (hn : n < A.length) (z : Int) (hz : z = (n : Int)) (w : World) :
    (Instr.index 9 (.string (bytesOf A)) (.int .i64 z)).run Tryd.prog w = .ok (.int .u8 ((A.getD n 0 : Nat) : Int)) w := by
  subst hz
  have h1 : (0 : Int) ≤ n ∧ (n : Int) < ((bytesOf A).size : Nat) := by rw [bytesOf_size]; omega
  have e : (bytesOf A).data[n]? = some (UInt8.ofNat A[n]) := by simp [bytesOf, hn]
  have hb : A[n] < 256 := hA _ (List.getElem_mem _)
  unfold Instr.index
  simp only [asIntOf, Sem.run_bind, Sem.run_pure, Result.andThen_ok]
  rw [getD_at _ _ hn]
  have h0 : (0 : Int) ≤ n := by omega
  have e' : (bytesOf A)[n]? = some (UInt8.ofNat A[n]) := e
  rw [run_underlying Tryd.underlying9]
  simp only [Result.andThen_ok, if_pos h0, Int.toNat_natCast]
  rw [e']
  simp only [Sem.run_pure]
  rw [UInt8.toNat_ofNat_of_lt' hb]

set_option maxRecDepth 100000 in
theorem info39 : ∃ i z, Tryd.prog.info? 37 = some i ∧ i.zero = some z ∧ i.size = 1 ∧ i.bytes = 8 ∧ z.cells.size = 1 := by
  refine ⟨_, _, rfl, rfl, ?_, ?_, ?_⟩ <;> kernel_rfl

/-- An append of one word. -/
theorem wpList_push64 {ops : Array Oper} {rest : List Oper} {o : Oper} {a : Act} {Q : Exit → Act → World → Prop} {w : World} (hgd : o.guard = none) (s x : Operand)
    (ho : o.op = .call { callee := .builtin .append, args := #[s, x], argTypes := #[103, 103] }) (B g cap n y : Nat) (A : List Nat) (hn : A.length = n)
    (hs : a.eval s = .slice (some ⟨g, 0, none⟩) n cap) (hV : W64 B w g cap A) (hx : a.eval x = .slice (some ⟨w.heap.size, 0, none⟩) 1 1) (hl : n ≤ 1000) (hB : B ≤ w.heap.size)
    (h : ∀ g' cap' w', W64 B w' g' cap' (A ++ [y]) → Mod (fun i => B ≤ i) w w' → wpList Tryd.prog ops Q rest (a.put o.dst (.slice (some ⟨g', 0, none⟩) (n + 1) cap')) w') :
    wpList Tryd.prog ops Q (o :: rest) a (w.alloc (.cells #[.int .u64 (y : Int)] 37)) := by
  obtain ⟨i, z, hi, hz, h1, h2, h3⟩ := info39
  subst hn
  have hVo := (hV.kept ((Mod.refl (fun _ => False) w).alloc (.cells #[.int .u64 (y : Int)] 37)) (fun h => h))
  refine wpList_append_lies _ hgd s x 103 ho B 37 i z 1 8 Tryd.underlying103 hi hz h1 h2 h3 (by decide) _ A.length (nums .u64 A) hs hVo ⟨w.heap.size, 0, none⟩ 1 1 [.int .u64 (y : Int)] hx rfl (cell_one_new _ _ _) (by intro u hu; simp at hu; subst hu; rfl) (by omega) (by unfold maxLen; omega) (by omega) (by simp; omega) _ rfl ?_
  intro g' cap' w' hown hgrow hg' hlt
  have hlo := hV.lo
  refine h g' cap' w' (hV.push hown) (((Mod.refl (fun i => B ≤ i) w).alloc _).grown hgrow ?_)
  intro k hk _
  simp [Value.ownBlock] at hk
  omega

theorem turn_q (x n : Nat) (w : World) (hx : x < 4294967296) (h2 : n ≤ 32) :
    Calls Tryd.prog 90 #[.int .u64 x, .int .i64 (n : Int)] w fun r w' => r = .returned (.int .u64 (rotr x n : Int)) ∧ w' = w :=
  (turn_any x n w hx h2).mono fun _ _ ⟨a, b⟩ => ⟨a, b.symm⟩
theorem down3_q (x : Nat) (w : World) (hx : x < 4294967296) :
    Calls Tryd.prog 91 #[.int .u64 x, .int .i64 3] w fun r w' => r = .returned (.int .u64 ((x / 8 : Nat) : Int)) ∧ w' = w :=
  (down_any x 3 w hx (by omega)).mono fun _ _ ⟨a, b⟩ => ⟨a, b.symm⟩
theorem down10_q (x : Nat) (w : World) (hx : x < 4294967296) :
    Calls Tryd.prog 91 #[.int .u64 x, .int .i64 10] w fun r w' => r = .returned (.int .u64 ((x / 1024 : Nat) : Int)) ∧ w' = w :=
  (down_any x 10 w hx (by omega)).mono fun _ _ ⟨a, b⟩ => ⟨a, b.symm⟩

theorem x64 (a b : Nat) (ha : a < 4294967296) (hb : b < 4294967296) : bits BinOp.xor IntKind.u64 (a : Int) (b : Int) = ((a ^^^ b : Nat) : Int) := u64_xor_nat _ _ (by omega) (by omega)
theorem n64 (a b : Nat) (ha : a < 4294967296) (hb : b < 4294967296) : bits BinOp.and IntKind.u64 (a : Int) (b : Int) = ((a &&& b : Nat) : Int) := u64_and_nat _ _ (by omega) (by omega)
theorem s0_facts (x : Nat) (hx : x < 4294967296) : ∃ r z : Nat, Hid (z = s0 x) ∧ z < 4294967296 ∧ bits BinOp.xor IntKind.u64 (rotr x 7 : Int) (rotr x 18 : Int) = (r : Int) ∧ bits BinOp.xor IntKind.u64 (r : Int) ((x : Int) / 8) = (z : Int) :=
  ⟨rotr x 7 ^^^ rotr x 18, _, rfl, s0_lt x hx, x64 _ _ (rotr_lt x 7 hx (by decide)) (rotr_lt x 18 hx (by decide)), by rw [show (x : Int) / 8 = ((x / 8 : Nat) : Int) by omega]; exact x64 _ _ (xor_lt _ _ (rotr_lt x 7 hx (by decide)) (rotr_lt x 18 hx (by decide))) (by omega)⟩
theorem s1_facts (x : Nat) (hx : x < 4294967296) : ∃ r z : Nat, Hid (z = s1 x) ∧ z < 4294967296 ∧ bits BinOp.xor IntKind.u64 (rotr x 17 : Int) (rotr x 19 : Int) = (r : Int) ∧ bits BinOp.xor IntKind.u64 (r : Int) ((x : Int) / 1024) = (z : Int) :=
  ⟨rotr x 17 ^^^ rotr x 19, _, rfl, s1_lt x hx, x64 _ _ (rotr_lt x 17 hx (by decide)) (rotr_lt x 19 hx (by decide)), by rw [show (x : Int) / 1024 = ((x / 1024 : Nat) : Int) by omega]; exact x64 _ _ (xor_lt _ _ (rotr_lt x 17 hx (by decide)) (rotr_lt x 19 hx (by decide))) (by omega)⟩

theorem step_push64 {ops : Array Oper} {o : Oper} {a : Act} {K : Act → World → Prop} {Q : Exit → Act → World → Prop} {E : Prop} {w : World} (hgd : o.guard = none) (s x : Operand)
    (ho : o.op = .call { callee := .builtin .append, args := #[s, x], argTypes := #[103, 103] }) (B g cap n y : Nat) (A : List Nat) (hn : A.length = n)
    (hs : a.eval s = .slice (some ⟨g, 0, none⟩) n cap) (hV : W64 B w g cap A) (hx : a.eval x = .slice (some ⟨w.heap.size, 0, none⟩) 1 1) (hl : n ≤ 1000) (hB : B ≤ w.heap.size)
    (h : ∀ g' cap' w', W64 B w' g' cap' (A ++ [y]) → Mod (fun i => B ≤ i) w w' → K (a.put o.dst (.slice (some ⟨g', 0, none⟩) (n + 1) cap')) w') :
    if Region.wanted o (yielded ops a.tmps) = true then Oper.wp Tryd.prog o a (w.alloc (.cells #[.int .u64 (y : Int)] 37)) K Q else E := by
  obtain ⟨i, z, hi, hz, h1, h2, h3⟩ := info39
  subst hn
  have hVo := (hV.kept ((Mod.refl (fun _ => False) w).alloc (.cells #[.int .u64 (y : Int)] 37)) (fun h => h))
  refine step_append_lies _ hgd s x 103 ho B 37 i z 1 8 Tryd.underlying103 hi hz h1 h2 h3 (by decide) _ A.length (nums .u64 A) hs hVo ⟨w.heap.size, 0, none⟩ 1 1 [.int .u64 (y : Int)] hx rfl (cell_one_new _ _ _) (by intro u hu; simp at hu; subst hu; rfl) (by omega) (by unfold maxLen; omega) (by omega) (by simp; omega) _ rfl ?_
  intro g' cap' w' hown hgrow hg' hlt
  have hlo := hV.lo
  refine h g' cap' w' (hV.push hown) (((Mod.refl (fun i => B ≤ i) w).alloc _).grown hgrow ?_)
  intro k hk _
  simp [Value.ownBlock] at hk
  omega

end Go.Proofs.YtkejidmomnmdbaaDoor
