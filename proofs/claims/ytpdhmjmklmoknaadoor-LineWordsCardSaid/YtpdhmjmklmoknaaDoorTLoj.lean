/- LineWords' argument: a row of texts (out of E6). -/
import Derived.Test.YtpdhmjmklmoknaaDoorRows
import Derived.Test.YtpdhmjmklmoknaaDoorTLoi
import Derived.WalkKit
import Derived.ProofKit
import Derived.OpenShut
import Derived.SliceStrings
import Derived.Deep.SlicePairs
set_option linter.unusedVariables false
set_option linter.unusedSimpArgs false
namespace Go.Proofs.YtpdhmjmklmoknaaDoor
open Go.ChangeShapes Go.WideShapes Go.ChangeAt Go.RowKit Go.Deep

theorem cell_block {w : World} {a : Addr} {v : Value} (h : w.cell? a = some v) : a.block < w.heap.size := by
  unfold World.cell? at h
  apply Nat.lt_of_not_le; intro hle
  rw [Array.getElem?_eq_none hle] at h
  simp at h

set_option maxRecDepth 20000 in
theorem open_texts {H : Type} {enc : TypeId × Value → H} {W : World} {base : Nat} {v : Value} {d : DataW H} {ps : List MemPlace} (hval : Value.okWide Tryd.prog W .any base 30 v) (h : DataW.Trod enc Tryd.prog W 0 (fun _ => true) true 30 v d ps) :
    ∃ ao cap L, v = .slice ao L.length cap ∧ Rd encS W ao L ∧ (∀ s ∈ L, (s.length : Int) ≤ 9223372036854775807) ∧ L.length ≤ 9223372036854775807 ∧ L.length ≤ cap := by
  obtain ⟨a, len, cap, rfl⟩ := okWide_slice Tryd.underlying30 hval
  obtain ⟨fuel, hf⟩ := h
  rcases open_strings Tryd.underlying30 Tryd.underlying9 (by kernel_rfl) hf with ⟨hc, _⟩ | ⟨a', len', cap', ss, hc, _, hl, hm, hss, _, hcell, hsz⟩
  · have hc2 : [Value.slice a len cap] = [Value.slice none 0 0] := hc
    simp only [List.cons.injEq, Value.slice.injEq, and_true] at hc2
    obtain ⟨rfl, rfl, rfl⟩ := hc2
    exact ⟨none, 0, [], rfl, Rd.nil _ _, fun s hs => by simp at hs, Nat.zero_le _, Nat.le_refl _⟩
  · have hc2 : [Value.slice a len cap] = [Value.slice (some a') len' cap'] := hc
    simp only [List.cons.injEq, Value.slice.injEq, and_true] at hc2
    obtain ⟨rfl, rfl, rfl⟩ := hc2
    simp only [if_true] at hss
    have hlen : (ss.take len).length = len := by rw [List.length_take]; omega
    refine ⟨some a', cap, (ss.take len).map (fun (b : ByteArray) => b.data.toList), by rw [List.length_map, hlen], ?_, ?_, ?_, ?_⟩
    · intro j hj
      have hjl : j < len := by rw [List.length_map, hlen] at hj; exact hj
      have hc0 := hcell 0 (by omega)
      obtain ⟨bs, off, spot⟩ := a'
      have hspot : spot = none := by simpa [Addr.add] using World.cell?_spot hc0
      subst hspot
      have hcj := hcell j (by omega)
      refine ⟨bs, off, rfl, cell_block (by simpa [Addr.add_lit] using hcj), fun i u hu => ?_⟩
      have hi0 : i = 0 := by
        have := (List.getElem?_eq_some_iff.1 hu).1
        simp [encS] at this; exact this
      subst hi0
      simp only [encS, List.getElem?_cons_zero, Option.some.injEq] at hu
      subst hu
      have e : (ss.getD j ByteArray.empty) = ⟨(((ss.take len).map (fun (b : ByteArray) => b.data.toList))[j]'hj).toArray⟩ := by
        rw [List.getElem_map, List.getElem_take]
        simp [List.getD, List.getElem?_eq_getElem (show j < ss.length by omega)]
      rw [← e]
      simpa [Addr.add_lit, encS] using hcj
    · intro s hs
      obtain ⟨b, hb, rfl⟩ := List.mem_map.1 hs
      have := hsz b (List.mem_of_mem_take hb)
      unfold maxLen at this
      have e : b.data.toList.length = b.size := rfl
      omega
    · unfold maxLen at hm; rw [List.length_map, hlen]; omega
    · rw [List.length_map, hlen]; exact hl
end Go.Proofs.YtpdhmjmklmoknaaDoor
