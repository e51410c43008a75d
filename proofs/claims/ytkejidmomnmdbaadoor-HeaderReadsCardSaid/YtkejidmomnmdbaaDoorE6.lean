/- Arguments as the statements have them: texts, arrays of bytes; the listed table. -/
import Derived.Test.YtkejidmomnmdbaaDoorRows
import Derived.Test.YtkejidmomnmdbaaDoorRw
import Derived.Test.YtkejidmomnmdbaaDoorD3
import Derived.WalkKit
import Derived.ProofKit
import Derived.OpenShut
import Derived.SliceStrings
import Derived.Lib.LaidTab
import Derived.LaidSub
import Derived.Deep.SlicePairs
namespace Go.Proofs.YtkejidmomnmdbaaDoor
open Go.ChangeShapes Go.WideShapes Go.ChangeAt Go.RowKit Go.Deep

theorem cell_block {w : World} {a : Addr} {v : Value} (h : w.cell? a = some v) : a.block < w.heap.size := by
  unfold World.cell? at h
  apply Nat.lt_of_not_le; intro hle
  rw [Array.getElem?_eq_none hle] at h
  simp at h

theorem okWide_array {P : Program} {w : World} {r : Reach} {base : Nat} {t : TypeId} {v : Value} {n : Nat} {e : TypeId} (ht : P.underlying t = some (.array n e)) (h : Value.okWide P w r base t v) : ∃ cs, v = .agg cs ∧ cs.size = P.cellsOf t := by
  unfold Value.okWide at h
  simp only [ht] at h
  cases v <;> simp at h
  exact ⟨_, rfl, h.1⟩

set_option maxRecDepth 20000 in
theorem open_a32 {H : Type} {enc : TypeId × Value → H} {W : World} {base : Nat} {v : Value} {d : DataW H} {ps : List MemPlace} (hval : Value.okWide Tryd.prog W .any base 24 v) (h : DataW.Trod enc Tryd.prog W 0 (fun _ => true) true 24 v d ps) :
    ∃ A : List Nat, v = .agg (nums .u8 A).toArray ∧ A.length = 32 ∧ ∀ x ∈ A, x < 256 := by
  obtain ⟨cs, rfl, _⟩ := okWide_array Tryd.underlying24 hval
  obtain ⟨fuel, hf⟩ := h
  obtain ⟨xs, m, _, _, hl, hx, hi⟩ := DataW.trod_array Tryd.underlying24 hf
  have hc : Tryd.prog.cellsOf 5 = 1 := by kernel_rfl
  have hct : Tryd.prog.cellsOf 24 = 32 := by kernel_rfl
  simp only [Value.cells, hct] at hl
  simp only [Value.cells, hc, Nat.mul_one] at hi
  have hcl : cs.size = 32 := by simpa using hl
  have hj : ∀ i, i < 32 → ∃ s : Nat, cs.toList[i]? = some (.int .u8 (s : Int)) ∧ s < 256 := by
    intro i h32
    have h1 := hi i h32
    rw [List.getElem?_eq_getElem (by omega)] at h1
    obtain ⟨N, hN, _, hw⟩ := DataW.trod_int Tryd.underlying5 h1
    have hb := bounds_u8 hw
    refine ⟨N.toNat, ?_, by omega⟩
    have h2 : cs.toList[i]? = some (.int .u8 N) := by
      have := congrArg (·[0]?) hN
      simpa [List.getElem?_take, List.getElem?_drop] using this
    rw [h2, Int.toNat_of_nonneg hb.1]
  obtain ⟨f, hf2⟩ := choose_lt hj
  refine ⟨(List.range 32).map f, ?_, by simp, ?_⟩
  · congr 1
    apply Array.ext'
    apply List.ext_getElem?
    intro i
    by_cases h32 : i < 32
    · rw [(hf2 i h32).1]; simp [nums, h32]
    · rw [List.getElem?_eq_none (by simp; omega), List.getElem?_eq_none (by simp [nums]; omega)]
  · intro x hx
    obtain ⟨i, hi', rfl⟩ := List.mem_map.1 hx
    exact (hf2 i (List.mem_range.1 hi')).2

set_option maxRecDepth 20000 in
theorem open_texts {H : Type} {enc : TypeId × Value → H} {W : World} {base : Nat} {v : Value} {d : DataW H} {ps : List MemPlace} (hval : Value.okWide Tryd.prog W .any base 35 v) (h : DataW.Trod enc Tryd.prog W 0 (fun _ => true) true 35 v d ps) :
    ∃ ao cap L, v = .slice ao L.length cap ∧ Rd encS W ao L ∧ (∀ s ∈ L, (s.length : Int) ≤ 9223372036854775807) ∧ L.length ≤ 9223372036854775807 ∧ L.length ≤ cap := by
  obtain ⟨a, len, cap, rfl⟩ := okWide_slice Tryd.underlying35 hval
  obtain ⟨fuel, hf⟩ := h
  rcases open_strings Tryd.underlying35 Tryd.underlying9 (by kernel_rfl) hf with ⟨hc, _⟩ | ⟨a', len', cap', ss, hc, _, hl, hm, hss, _, hcell, hsz⟩
  · have hc2 : [Value.slice a len cap] = [Value.slice none 0 0] := hc
    simp only [List.cons.injEq, Value.slice.injEq, and_true] at hc2
    obtain ⟨rfl, rfl, rfl⟩ := hc2
    exact ⟨none, 0, [], rfl, Rd.nil _ _, fun s hs => by simp at hs, Nat.zero_le _, Nat.le_refl _⟩
  · have hc2 : [Value.slice a len cap] = [Value.slice (some a') len' cap'] := hc
    simp only [List.cons.injEq, Value.slice.injEq, and_true] at hc2
    obtain ⟨rfl, rfl, rfl⟩ := hc2
    simp only [if_true] at hss
    have hlen : (ss.take len).length = len := by rw [List.length_take]; omega
    refine ⟨some a', cap, (ss.take len).map (fun (b : ByteArray) => b.data.toList), by rw [List.length_map, hlen], ?_, ?_, ?_, ?_⟩
    · intro j hj
      have hjl : j < len := by rw [List.length_map, hlen] at hj; exact hj
      have hc0 := hcell 0 (by omega)
      obtain ⟨bs, off, spot⟩ := a'
      have hspot : spot = none := by simpa [Addr.add] using World.cell?_spot hc0
      subst hspot
      have hcj := hcell j (by omega)
      refine ⟨bs, off, rfl, cell_block (by simpa [Addr.add_lit] using hcj), fun i u hu => ?_⟩
      have hi0 : i = 0 := by
        have := (List.getElem?_eq_some_iff.1 hu).1
        simp [encS] at this; exact this
      subst hi0
      simp only [encS, List.getElem?_cons_zero, Option.some.injEq] at hu
      subst hu
      have e : (ss.getD j ByteArray.empty) = ⟨(((ss.take len).map (fun (b : ByteArray) => b.data.toList))[j]'hj).toArray⟩ := by
        rw [List.getElem_map, List.getElem_take]
        simp [List.getD, List.getElem?_eq_getElem (show j < ss.length by omega)]
      rw [← e]
      simpa [Addr.add_lit, encS] using hcj
    · intro s hs
      obtain ⟨b, hb, rfl⟩ := List.mem_map.1 hs
      have := hsz b (List.mem_of_mem_take hb)
      unfold maxLen at this
      have e : b.data.toList.length = b.size := rfl
      omega
    · unfold maxLen at hm; rw [List.length_map, hlen]; omega
    · rw [List.length_map, hlen]; exact hl

set_option maxRecDepth 20000 in
theorem tab_of_laid {W : World} (h : laidMetH Tryd.prog [("coxswain/digest.roundWords", Rows.laid_coxswain_digest_roundWords)] W) : TabAt W := by
  have h2 : laidMet Tryd.prog (("coxswain/digest.roundWords", Lib.tabData .u32 (kTab.map fun (x : Nat) => (x : Int))) :: []) W := (laidMetH_iff.1 h).1
  have h3 := Lib.tabIs_of_head (g := 1) (t := 221) (e := 30) (n := 64) (by kernel_rfl) (by kernel_rfl) Tryd.underlying221 Tryd.underlying30 (by kernel_rfl) (by kernel_rfl) h2
  intro i hi
  have hi2 : i < kTab.length := by rw [kTab_len]; exact hi
  have := h3.cell (g := 1) (by kernel_rfl) i (by simpa using hi2)
  rw [this]
  simp [List.getD, hi2]
end Go.Proofs.YtkejidmomnmdbaaDoor
