/- Slices of numbers that own their cells, boxes: for any seat. -/
import Derived.Test.YthmgigojgagpeaaLib
import Derived.Test.YthmgigojgagpeaaProg
import Derived.Deep.AppendLies
import Derived.RangeFuncBox
namespace Go.Proofs.Ythmgigojgagpeaa
open Go.RowKit

/-- The slice at p of A's length and of that capacity holds the numbers A, from its block's head on; nil holds none. -/
def Sl (k : IntKind) (T : TypeId) (w : World) (p : Option Addr) (cap : Nat) (A : List Nat) : Prop := w.ownsRow 0 T 1 (.slice p A.length cap) A.length (nums k A)

theorem Sl.shape {k : IntKind} {T : TypeId} {w : World} {p : Option Addr} {cap : Nat} {A : List Nat} (h : Sl k T w p cap A) :
    (p = none ∧ A = [] ∧ cap = 0) ∨ ∃ g, p = some ⟨g, 0, none⟩ ∧ g < w.heap.size ∧ A.length ≤ cap ∧ cap ≤ maxLen ∧ ∃ cur : Array Value, w.heap[g]? = some (.cells cur T (0, 0)) ∧ cur.size = cap ∧ cur.toList.take A.length = nums k A := by
  rcases h.2 with ⟨e, h0⟩ | ⟨g, cap', cur, e, _, hh, h1, h2, h3, h4⟩
  · simp only [Value.slice.injEq] at e
    exact .inl ⟨e.1, List.eq_nil_of_length_eq_zero h0, e.2.2⟩
  · simp only [Value.slice.injEq] at e
    obtain ⟨rfl, _, rfl⟩ := e
    exact .inr ⟨g, rfl, (Array.getElem?_eq_some_iff.1 hh).1, h1, h2, cur, hh, by simpa using h3, by simpa using h4⟩
theorem Sl.of_row {k : IntKind} {T : TypeId} {w : World} {g cap : Nat} {A : List Nat} {cur : Array Value} (hh : w.heap[g]? = some (.cells cur T (0, 0))) (h1 : A.length ≤ cap) (h2 : cap ≤ maxLen) (h3 : cur.size = cap) (h4 : cur.toList.take A.length = nums k A) :
    Sl k T w (some ⟨g, 0, none⟩) cap A := ⟨by simp [nums_len], .inr ⟨g, cap, cur, rfl, Nat.zero_le _, hh, h1, h2, by simpa using h3, by simpa using h4⟩⟩
theorem Sl.empty (k : IntKind) (T : TypeId) (w : World) : Sl k T w none 0 [] := World.ownsRow_nil _ _ _ _
theorem Sl.made {k : IntKind} {T : TypeId} (w : World) (A : List Nat) (hl : A.length ≤ maxLen) : Sl k T (w.alloc (.cells (nums k A).toArray T (0, 0))) (some ⟨w.heap.size, 0, none⟩) A.length A :=
  Sl.of_row (heap_alloc_new _ _) (Nat.le_refl _) hl (by simp [nums_len]) (by simp [nums, List.take_of_length_le])
theorem Sl.isPtr {k : IntKind} {T : TypeId} {w : World} {p : Option Addr} {cap : Nat} {A : List Nat} (h : Sl k T w p cap A) (hA : A ≠ []) : ∃ g, p = some ⟨g, 0, none⟩ := by
  rcases h.shape with ⟨_, e, _⟩ | ⟨g, e, _⟩
  · exact absurd e hA
  · exact ⟨g, e⟩
theorem Sl.lt {k : IntKind} {T : TypeId} {w : World} {a : Addr} {cap : Nat} {A : List Nat} (h : Sl k T w (some a) cap A) : a.block < w.heap.size := by
  rcases h.shape with ⟨e, _⟩ | ⟨g, e, hl, _⟩
  · cases e
  · cases e; exact hl
theorem Sl.cell {k : IntKind} {T : TypeId} {w : World} {g cap : Nat} {A : List Nat} (h : Sl k T w (some ⟨g, 0, none⟩) cap A) (i : Nat) (hi : i < A.length) : w.cell? ⟨g, i, none⟩ = some (.int k (A[i]'hi)) := by
  rcases h.shape with ⟨e, _⟩ | ⟨g', e, _, _, _, cur, hh, _, ht⟩
  · cases e
  · simp only [Option.some.injEq, Addr.mk.injEq] at e
    obtain ⟨rfl, _⟩ := e
    rw [cell_of_row w g i _ T (0, 0) hh]
    have := nums_get k A i hi
    rw [← ht, List.getElem?_take_of_lt hi] at this
    simpa using this
theorem Sl.froz {k : IntKind} {T : TypeId} {w : World} {g cap : Nat} {A : List Nat} (h : Sl k T w (some ⟨g, 0, none⟩) cap A) (i : Nat) : w.frozen? ⟨g, i, none⟩ = false := by
  rcases h.shape with ⟨e, _⟩ | ⟨g', e, _, _, _, cur, hh, _⟩
  · cases e
  · simp only [Option.some.injEq, Addr.mk.injEq] at e
    obtain ⟨rfl, _⟩ := e
    exact frozen_of_row w g i _ T hh
theorem Sl.cap_le {k : IntKind} {T : TypeId} {w : World} {p : Option Addr} {cap : Nat} {A : List Nat} (h : Sl k T w p cap A) : A.length ≤ cap := by
  rcases h.shape with ⟨_, e, _⟩ | ⟨g, _, _, h1, _⟩
  · subst e; simp
  · exact h1
theorem Sl.kept {k : IntKind} {T : TypeId} {w w' : World} {p : Option Addr} {cap : Nat} {A : List Nat} {S : Nat → Prop} (h : Sl k T w p cap A) (hm : Mod S w w') (hp : ∀ a, p = some a → ¬ S a.block) : Sl k T w' p cap A := by
  rcases h.shape with ⟨rfl, rfl, rfl⟩ | ⟨g, rfl, hl, h1, h2, cur, hh, h3, h4⟩
  · exact Sl.empty _ _ _
  · exact Sl.of_row ((hm.block g hl (hp _ rfl)).trans hh) h1 h2 h3 h4
theorem Sl.below {k : IntKind} {T : TypeId} {w w' : World} {p : Option Addr} {cap B : Nat} {A : List Nat} (h : Sl k T w p cap A) (hb : Below B w w') (hp : ∀ a, p = some a → a.block < B) : Sl k T w' p cap A :=
  h.kept (Mod.of_below hb) (fun a e hs => by have := hp a e; omega)
theorem Sl.old {k : IntKind} {T : TypeId} {w w' : World} {p : Option Addr} {cap : Nat} {A : List Nat} (h : Sl k T w p cap A) (hb : Below w.heap.size w w') : Sl k T w' p cap A :=
  h.below hb (fun a e => by subst e; exact h.lt)
theorem Sl.alloc {k : IntKind} {T : TypeId} {w : World} {p : Option Addr} {cap : Nat} {A : List Nat} (h : Sl k T w p cap A) (o : Obj) : Sl k T (w.alloc o) p cap A := h.old ((Below.refl _ _).alloc (Nat.le_refl _) o)
theorem Sl.drew {k : IntKind} {T : TypeId} {w : World} {p : Option Addr} {cap : Nat} {A : List Nat} (h : Sl k T w p cap A) : Sl k T w.drew p cap A := h.old (Below.refl _ _).drew
theorem Sl.other {k : IntKind} {T : TypeId} {w : World} {p : Option Addr} {cap : Nat} {A : List Nat} (h : Sl k T w p cap A) (a : Addr) (u : Value) (hp : ∀ q, p = some q → q.block ≠ a.block) : Sl k T (w.setCell a u) p cap A :=
  h.kept ((Mod.refl (· = a.block) w).setCell (fun _ => rfl) u) hp
theorem Sl.set {k : IntKind} {T : TypeId} {w : World} {g cap : Nat} {A : List Nat} (h : Sl k T w (some ⟨g, 0, none⟩) cap A) (i x : Nat) : Sl k T (w.setCell ⟨g, i, none⟩ (.int k x)) (some ⟨g, 0, none⟩) cap (A.set i x) := by
  rcases h.shape with ⟨e, _⟩ | ⟨g', e, _, h1, h2, cur, hh, h3, h4⟩
  · cases e
  · simp only [Option.some.injEq, Addr.mk.injEq] at e
    obtain ⟨rfl, _⟩ := e
    have hs := heap_setCell_same w g i cur T (.int k x) hh
    refine Sl.of_row hs (by simpa using h1) h2 (by simpa using h3) ?_
    rw [List.length_set, ← nums_set, ← h4]
    simp [List.take_set]
theorem Sl.take {k : IntKind} {T : TypeId} {w : World} {p : Option Addr} {cap : Nat} {A : List Nat} (h : Sl k T w p cap A) (m : Nat) (hm : m ≤ A.length) : Sl k T w p cap (A.take m) := by
  rcases h.shape with ⟨rfl, rfl, rfl⟩ | ⟨g, rfl, hl, h1, h2, cur, hh, h3, h4⟩
  · simpa using Sl.empty k T w
  · refine Sl.of_row hh (by simp; omega) h2 h3 ?_
    rw [List.length_take, Nat.min_eq_left hm]
    have := congrArg (List.take m) h4
    rw [List.take_take, Nat.min_eq_left hm] at this
    rw [this]; simp [nums, List.map_take]

/-- A box stays where nothing below has turned. -/
theorem Boxed.below' {w w' : World} {B g : Nat} {T : TypeId} {v : Value} (h : Boxed w g T v) (hb : Below B w w') (hg : g < B) : Boxed w' g T v := (hb.block g hg).trans h
theorem Boxed.mod' {w w' : World} {S : Nat → Prop} {g : Nat} {T : TypeId} {v : Value} (h : Boxed w g T v) (hm : Mod S w w') (hg : ¬ S g) : Boxed w' g T v := (hm.block g h.lt hg).trans h

end Go.Proofs.Ythmgigojgagpeaa
