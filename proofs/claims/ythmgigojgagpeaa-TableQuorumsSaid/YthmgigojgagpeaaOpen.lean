/- Entries and ints as arguments. -/
import Derived.Test.YthmgigojgagpeaaT8
import Derived.Deep.SlicePairs
import Derived.ChangeArms
import Derived.WalkKit
import Derived.ProofKit
import Derived.OpenShut
namespace Go.Proofs.Ythmgigojgagpeaa
open Go.ChangeShapes Go.WideShapes Go.ChangeAt Go.RowKit Go.Deep

theorem cell_lt {w : World} {a : Addr} {v : Value} (h : w.cell? a = some v) : a.block < w.heap.size := by
  unfold World.cell? at h
  apply Nat.lt_of_not_le; intro hle
  rw [Array.getElem?_eq_none hle] at h
  simp at h

set_option maxRecDepth 20000 in
theorem open_rentries {H : Type} {enc : TypeId × Value → H} {W : World} {base : Nat} {v : Value} {d : DataW H} {ps : List MemPlace} (hval : Value.okWide Try.prog W .any base 22 v) (h : DataW.Trod enc Try.prog W 0 (fun _ => true) true 22 v d ps) :
    ∃ ao cap L, v = .slice ao L.length cap ∧ EntsI W ao L ∧ L.length ≤ cap := by
  obtain ⟨a, len, cap, rfl⟩ := okWide_slice Try.underlying22 hval
  obtain ⟨fuel, hf⟩ := h
  rcases open_slice_pairs Try.underlying22 Try.underlying46 (by kernel_rfl) rfl rfl (by kernel_rfl) (by kernel_rfl) hf with ⟨hc, _⟩ | ⟨a', len', cap', m, k, V0, V1, D0, D1, P0, P1, hc, _, hl, _, hmm, _, hall⟩
  · have hc2 : [Value.slice a len cap] = [Value.slice none 0 0] := hc
    simp only [List.cons.injEq, Value.slice.injEq, and_true] at hc2
    obtain ⟨rfl, rfl, rfl⟩ := hc2
    exact ⟨none, 0, [], rfl, (fun j h => by simp at h), Nat.le_refl _⟩
  · have hc2 : [Value.slice a len cap] = [Value.slice (some a') len' cap'] := hc
    simp only [List.cons.injEq, Value.slice.injEq, and_true] at hc2
    obtain ⟨rfl, rfl, rfl⟩ := hc2
    simp only [if_true] at hmm
    subst hmm
    have hj : ∀ i, i < len → ∃ s : Int × Int, V0 i = .int .i64 s.1 ∧ V1 i = .int .i64 s.2 := by
      intro i hi
      obtain ⟨N, h1, _, _⟩ := DataW.trod_int Try.underlying3 (hall i (by omega)).2.2.1
      obtain ⟨M, h2, _, _⟩ := DataW.trod_int Try.underlying3 (hall i (by omega)).2.2.2
      simp only [List.cons.injEq, and_true] at h1 h2
      exact ⟨(N, M), h1, h2⟩
    obtain ⟨f, hf2⟩ := choose_lt hj
    refine ⟨some a', m, (List.range len).map f, by simp, ?_, by simpa using hl⟩
    intro j hjl
    have hjn : j < len := by simpa using hjl
    obtain ⟨bs, off, spot⟩ := a'
    have hspot : spot = none := by simpa [Addr.add] using World.cell?_spot (hall 0 (by omega)).1
    subst hspot
    obtain ⟨e0, e1⟩ := hf2 j hjn
    obtain ⟨c0, c1, _⟩ := hall j (by omega)
    rw [e0] at c0
    rw [e1] at c1
    have c0' : W.cell? ⟨bs, off + j * 2, none⟩ = some (.int .i64 (f j).1) := by simpa [Addr.add_lit] using c0
    have c1' : W.cell? ⟨bs, off + j * 2 + 1, none⟩ = some (.int .i64 (f j).2) := by simpa [Addr.add_lit, Nat.add_assoc] using c1
    exact ⟨bs, off, rfl, cell_lt c0', by simpa using c0', by simpa using c1'⟩

set_option maxRecDepth 20000 in
theorem open_ints {H : Type} {enc : TypeId × Value → H} {W : World} {base : Nat} {v : Value} {d : DataW H} {ps : List MemPlace} (hval : Value.okWide Try.prog W .any base 23 v) (h : DataW.Trod enc Try.prog W 0 (fun _ => true) true 23 v d ps) :
    ∃ ao cap S, v = .slice ao S.length cap ∧ IntsAt W ao S ∧ S.length ≤ cap := by
  obtain ⟨a, len, cap, rfl⟩ := okWide_slice Try.underlying23 hval
  obtain ⟨fuel, hf⟩ := h
  rcases open_slice1 Try.underlying23 (by kernel_rfl) hf with ⟨hc, _⟩ | ⟨a', len', cap', m, k, V, D, Pl, hc, _, hl, _, hmm, _, hall⟩
  · have hc2 : [Value.slice a len cap] = [Value.slice none 0 0] := hc
    simp only [List.cons.injEq, Value.slice.injEq, and_true] at hc2
    obtain ⟨rfl, rfl, rfl⟩ := hc2
    exact ⟨none, 0, [], rfl, (fun j h => by simp at h), Nat.le_refl _⟩
  · have hc2 : [Value.slice a len cap] = [Value.slice (some a') len' cap'] := hc
    simp only [List.cons.injEq, Value.slice.injEq, and_true] at hc2
    obtain ⟨rfl, rfl, rfl⟩ := hc2
    simp only [if_true] at hmm
    subst hmm
    have hj : ∀ i, i < len → ∃ s : Int, V i = .int .i64 s := by
      intro i hi
      obtain ⟨N, h1, _, _⟩ := DataW.trod_int Try.underlying3 (hall i (by omega)).2
      simp only [List.cons.injEq, and_true] at h1
      exact ⟨N, h1⟩
    obtain ⟨f, hf2⟩ := choose_lt hj
    refine ⟨some a', m, (List.range len).map f, by simp, ?_, by simpa using hl⟩
    intro j hjl
    have hjn : j < len := by simpa using hjl
    obtain ⟨bs, off, spot⟩ := a'
    have hspot : spot = none := by simpa [Addr.add] using World.cell?_spot (hall 0 (by omega)).1
    subst hspot
    have e0 := hf2 j hjn
    obtain ⟨c0, _⟩ := hall j (by omega)
    rw [e0] at c0
    have c0' : W.cell? ⟨bs, off + j, none⟩ = some (.int .i64 (f j)) := by simpa [Addr.add_lit] using c0
    exact ⟨bs, off, rfl, cell_lt c0', by simpa using c0'⟩
end Go.Proofs.Ythmgigojgagpeaa
