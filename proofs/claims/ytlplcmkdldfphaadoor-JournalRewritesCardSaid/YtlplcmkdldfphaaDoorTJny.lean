/- Texts of texts as an argument. -/
import Derived.Test.YtlplcmkdldfphaaDoorTJnx
import Derived.Test.YtlplcmkdldfphaaDoorZ1
import Derived.Deep.Slices
import Derived.SliceStrings
namespace Go.Proofs.YtlplcmkdldfphaaDoor
open Go.ChangeShapes Go.WideShapes Go.ChangeAt Go.RowKit Go.Deep

set_option maxRecDepth 20000 in
theorem open_strs1 {H : Type} {enc : TypeId × Value → H} {W : World} {v : Value} {fuel : Nat} {x : DataW H × List MemPlace} (hf : DataW.trod enc Tryd.prog W 0 (fun _ => true) true fuel 27 [v] = some x) :
    ∃ ao cap L, v = .slice ao L.length cap ∧ Rd encS W ao L ∧ (∀ s ∈ L, (s.length : Int) ≤ 9223372036854775807) ∧ L.length ≤ 9223372036854775807 ∧ L.length ≤ cap := by
  rcases open_strings Tryd.underlying27 Tryd.underlying9 (by kernel_rfl) hf with ⟨hc, _⟩ | ⟨a', len, cap, ss, hc, _, hl, hm, hss, _, hcell, hsz⟩
  · have hc2 : [v] = [Value.slice none 0 0] := hc
    simp only [List.cons.injEq, and_true] at hc2
    subst hc2
    exact ⟨none, 0, [], rfl, Rd.nil _ _, fun s hs => by simp at hs, Nat.zero_le _, Nat.le_refl _⟩
  · have hc2 : [v] = [Value.slice (some a') len cap] := hc
    simp only [List.cons.injEq, and_true] at hc2
    subst hc2
    simp only [if_true] at hss
    have hlen : (ss.take len).length = len := by rw [List.length_take]; omega
    refine ⟨some a', cap, (ss.take len).map (fun (b : ByteArray) => b.data.toList), by rw [List.length_map, hlen], ?_, ?_, ?_, ?_⟩
    · intro j hj
      have hjl : j < len := by rw [List.length_map, hlen] at hj; exact hj
      have hc0 := hcell 0 (by omega)
      obtain ⟨bs, off, spot⟩ := a'
      have hspot : spot = none := by simpa [Addr.add] using World.cell?_spot hc0
      subst hspot
      have hcj := hcell j (by omega)
      refine ⟨bs, off, rfl, cell_block (by simpa [Addr.add_lit] using hcj), fun i u hu => ?_⟩
      have hi0 : i = 0 := by
        have := (List.getElem?_eq_some_iff.1 hu).1
        simp [encS] at this; exact this
      subst hi0
      simp only [encS, List.getElem?_cons_zero, Option.some.injEq] at hu
      subst hu
      have e : (ss.getD j ByteArray.empty) = ⟨(((ss.take len).map (fun (b : ByteArray) => b.data.toList))[j]'hj).toArray⟩ := by
        rw [List.getElem_map, List.getElem_take]
        simp [List.getD, List.getElem?_eq_getElem (show j < ss.length by omega)]
      rw [← e]
      simpa [Addr.add_lit, encS] using hcj
    · intro s hs
      obtain ⟨b, hb, rfl⟩ := List.mem_map.1 hs
      have := hsz b (List.mem_of_mem_take hb)
      unfold maxLen at this
      have e : b.data.toList.length = b.size := rfl
      omega
    · unfold maxLen at hm; rw [List.length_map, hlen]; omega
    · rw [List.length_map, hlen]; exact hl
theorem choose_ltT {n : Nat} {α : Type} [Inhabited α] {p : Nat → α → Prop} (h : ∀ i, i < n → ∃ x, p i x) : ∃ f : Nat → α, ∀ i, i < n → p i (f i) :=
  ⟨fun i => if h' : i < n then (h i h').choose else default, fun i hi => by dsimp only; rw [dif_pos hi]; exact (h i hi).choose_spec⟩
set_option maxRecDepth 20000 in
theorem open_textss {H : Type} {enc : TypeId × Value → H} {W : World} {base : Nat} {v : Value} {d : DataW H} {ps : List MemPlace} (hval : Value.okWide Tryd.prog W .any base 53 v) (h : DataW.Trod enc Tryd.prog W 0 (fun _ => true) true 53 v d ps) :
    ∃ ao cap L, v = .slice ao L.length cap ∧ Rd encT W ao L ∧ (∀ x ∈ L, okT W x) ∧ L.length ≤ 9223372036854775807 ∧ L.length ≤ cap := by
  obtain ⟨a, len, cap, rfl⟩ := okWide_slice Tryd.underlying53 hval
  obtain ⟨fuel, hf⟩ := h
  rcases open_slice1 Tryd.underlying53 (by kernel_rfl) hf with ⟨hc, _⟩ | ⟨a', len', cap', m, k, V, D, Pl, hc, _, hl, hm, hmm, _, hall⟩
  · have hc2 : [Value.slice a len cap] = [Value.slice none 0 0] := hc
    simp only [List.cons.injEq, Value.slice.injEq, and_true] at hc2
    obtain ⟨rfl, rfl, rfl⟩ := hc2
    exact ⟨none, 0, [], rfl, Rd.nil _ _, (fun x hx => by simp at hx), Nat.zero_le _, Nat.le_refl _⟩
  · have hc2 : [Value.slice a len cap] = [Value.slice (some a') len' cap'] := hc
    simp only [List.cons.injEq, Value.slice.injEq, and_true] at hc2
    obtain ⟨rfl, rfl, rfl⟩ := hc2
    simp only [if_true] at hmm
    subst hmm
    have hj : ∀ i, i < len → ∃ x : TXs, V i = .slice x.o x.l.length x.c ∧ okT W x := by
      intro i hi
      obtain ⟨ao, cp, l, e, h1, h2, h3, _⟩ := open_strs1 (hall i (by omega)).2
      exact ⟨⟨ao, cp, l⟩, e, h1, h2, h3⟩
    obtain ⟨f, hf2⟩ := choose_ltT hj
    obtain ⟨bs, off, spot⟩ := a'
    by_cases h0 : 0 < m
    · have hspot : spot = none := by simpa [Addr.add] using World.cell?_spot (hall 0 (by omega)).1
      subst hspot
      refine ⟨some ⟨bs, off, none⟩, m, (List.range len).map f, by simp, ?_, ?_, by unfold maxLen at hm; rw [List.length_map, List.length_range]; omega, by rw [List.length_map, List.length_range]; exact hl⟩
      · intro j hjl
        have hjn : j < len := by simpa using hjl
        have e0 := (hf2 j hjn).1
        obtain ⟨c0, _⟩ := hall j (by omega)
        rw [e0] at c0
        have c0' : W.cell? ⟨bs, off + j, none⟩ = some (.slice (f j).o (f j).l.length (f j).c) := by simpa [Addr.add_lit] using c0
        refine ⟨bs, off, rfl, cell_block c0', fun i u hu => ?_⟩
        have hi0 : i = 0 := by
          have := (List.getElem?_eq_some_iff.1 hu).1
          simp [encT] at this; exact this
        subst hi0
        simp only [encT, List.getElem?_cons_zero, Option.some.injEq] at hu
        subst hu
        simpa [encT] using c0'
      · intro x hx
        obtain ⟨i, hi, rfl⟩ := List.mem_map.1 hx
        exact (hf2 i (List.mem_range.1 hi)).2
    · have hl0 : len = 0 := by omega
      subst hl0
      exact ⟨some ⟨bs, off, spot⟩, m, [], rfl, (fun j hj => by simp at hj), (fun x hx => by simp at hx), Nat.zero_le _, Nat.zero_le _⟩
end Go.Proofs.YtlplcmkdldfphaaDoor
