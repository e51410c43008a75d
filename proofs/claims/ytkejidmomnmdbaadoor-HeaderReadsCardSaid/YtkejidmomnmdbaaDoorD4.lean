import Derived.Test.YtkejidmomnmdbaaDoorD3
namespace Go.Proofs.YtkejidmomnmdbaaDoor
open Go.RowKit

/-- Block b is a sum that holds the bytes m. -/
structure Holds (w : World) (b : Nat) (m : List Nat) : Prop where
  ex : ∃ L, SumAt w b (absorb m).1 L m.length ∧ L.take (m.length % 64) = (absorb m).2 ∧ ∀ x ∈ L, x < 256
theorem Holds.lt {w : World} {b : Nat} {m : List Nat} (h : Holds w b m) : b < w.heap.size := by obtain ⟨L, hS, _⟩ := h.ex; exact hS.lt
theorem Holds.kept {w w' : World} {b : Nat} {m : List Nat} {S : Nat → Prop} (h : Holds w b m) (hm : Mod S w w') (hb : ¬ S b) : Holds w' b m := by
  obtain ⟨L, hS, h2, h3⟩ := h.ex; exact ⟨L, hS.kept hm hb, h2, h3⟩

set_option maxHeartbeats 1000000 in
set_option maxRecDepth 100000 in
theorem dadd_any (b : Nat) (m : List Nat) (x : Nat) (w : World) (hS : Holds w b m) (hx : x < 256) (hm : m.length < 1099511627776) (hT : TabAt w) (hb : b ≠ 1) :
    Calls Tryd.prog 138 #[.pointer (some ⟨b, 0, none⟩), .int .u8 x] w fun r w' => r = .returned (.tuple #[]) ∧ Holds w' b (m ++ [x]) ∧ Mod (· = b) w w' := by
  obtain ⟨L, hS, hLt, hLb⟩ := hS.ex
  have hbuf := absorb_buf m
  obtain ⟨r, hr⟩ : ∃ r, r = m.length % 64 := ⟨_, rfl⟩
  rw [← hr] at hLt hbuf
  obtain ⟨n, hn⟩ : ∃ n, n = m.length := ⟨_, rfl⟩
  rw [← hn] at hS hm hr
  have e1 : (n : Int) % 64 = (r : Int) := by omega
  have hr64 : r < 64 := by omega
  have e64 := hS.ll
  have cc := hS.cnt
  have cb := hS.byte r hr64
  have f1 := hS.froz (8 + r)
  have f2 := hS.froz 72
  have hS1 : SumAt ((w.setCell ⟨b, 8 + r, none⟩ (.int .u8 (x : Int))).setCell ⟨b, 72, none⟩ (.int .u64 ((n : Int) + 1))).drew b (absorb m).1 (L.set r x) (n + 1) := ((hS.setByte r x hr64).setCnt (n + 1)).kept (Mod.drew (Mod.refl (fun _ => False) _)) (fun h => h)
  have hM1 : Mod (· = b) w ((w.setCell ⟨b, 8 + r, none⟩ (.int .u8 (x : Int))).setCell ⟨b, 72, none⟩ (.int .u64 ((n : Int) + 1))).drew := (((Mod.refl (· = b) _).setCell (p := ⟨b, 8 + r, none⟩) (fun _ => rfl) _).setCell (p := ⟨b, 72, none⟩) (fun _ => rfl) _).drew
  have hT1 := hT.kept hM1 (by omega)
  have hLb1 : ∀ y ∈ L.set r x, y < 256 := by
    intro y hy
    rcases List.mem_or_eq_of_mem_set hy with h | h
    · exact hLb y h
    · rw [h]; exact hx
  have hLt1 : (L.set r x).take (r + 1) = (absorb m).2 ++ [x] := by rw [take_set_succ _ _ _ (by omega), hLt]
  obtain ⟨y, hy⟩ : ∃ y, y = L[r]'(by omega) := ⟨_, rfl⟩
  rw [← hy] at cb
  have Hr := Lib.hid hr
  have Hn := Lib.hid hn
  have i0 : (0 : Int) ≤ r := by omega
  have i1 : (r : Int) < 64 := by omega
  have H1 := absorb_words m
  have Hlt := absorb_lt m
  have hsn := absorb_snoc m x
  have HS1 := Lib.hid hS1
  have HM1 := Lib.hid hM1
  have HL1 := Lib.hid hLt1
  have Hsn := Lib.hid hsn
  have Hbuf := Lib.hid hbuf
  clear hr hn hy hS1 hM1 hLt1 hsn hLt hS hbuf
  have n0 : (0 : Int) ≤ n := by omega
  have e1t : (n : Int).tmod 64 = (r : Int) := by rw [Int.tmod_eq_emod_of_nonneg n0]; exact e1
  have ne72 : ¬ 8 + r = 72 := by omega
  by_cases h63 : r = 63
  · have z : (((n : Int) + 1) % 64 == 0) = true := by rw [beq_iff_eq]; omega
    have H63 := Lib.hid h63
    clear h63 e1 hT
    go_enter Tryd.func138, Tryd.ntmps138
    go_wp2_with fail
    go_still_tail 10, (by kernel_rfl)
    change wpList _ _ _ _ _ w.drew
    go_wp2_with fail
    refine (mix_any b _ _ (n + 1) _ HS1.out hLb1 Hlt hT1).mono ?_
    rintro e w1 ⟨rfl, hS2, hM2⟩
    have hfin : Holds w1 b (m ++ [x]) ∧ Mod (· = b) w w1 := by
      refine ⟨⟨L.set r x, ?_, ?_, hLb1⟩, HM1.out.trans hM2 (fun _ _ h => h)⟩
      · rw [Hsn.out, absorb1, if_pos (by rw [Hbuf.out, H63.out]), List.length_append, List.length_singleton, ← Hn.out]
        have e : L.set r x = (absorb m).2 ++ [x] := by rw [← HL1.out, List.take_of_length_le (by simp; have := H63.out; omega)]
        rw [← e]; exact hS2
      · rw [Hsn.out, absorb1, if_pos (by rw [Hbuf.out, H63.out])]
        have : (m ++ [x]).length % 64 = 0 := by have h1 := H63.out; have h2 := Hr.out; have h3 := Hn.out; simp; omega
        rw [this]; rfl
    have Hf := Lib.hid hfin
    clear hfin hS2 hM2
    go_wp2_with fail
    go_end0
    exact ⟨rfl, Hf.out⟩
  · have z : (((n : Int) + 1) % 64 == 0) = false := by rw [beq_eq_false_iff_ne]; omega
    have H63 := Lib.hid h63
    clear h63 e1 hT
    have hfin : Holds ((w.setCell ⟨b, 8 + r, none⟩ (.int .u8 (x : Int))).setCell ⟨b, 72, none⟩ (.int .u64 ((n : Int) + 1))).drew b (m ++ [x]) := by
      refine ⟨L.set r x, ?_, ?_, hLb1⟩
      · rw [Hsn.out, absorb1, if_neg (by rw [Hbuf.out]; have := H63.out; omega), List.length_append, List.length_singleton, ← Hn.out]
        exact HS1.out
      · rw [Hsn.out, absorb1, if_neg (by rw [Hbuf.out]; have := H63.out; omega)]
        have : (m ++ [x]).length % 64 = r + 1 := by have h1 := H63.out; have h2 := Hr.out; have h3 := Hn.out; simp; omega
        rw [this]; exact HL1.out
    have Hf := Lib.hid hfin
    clear hfin
    go_enter Tryd.func138, Tryd.ntmps138
    go_wp2_with fail
    go_still_tail 10, (by kernel_rfl)
    change wpList _ _ _ _ _ w.drew
    go_wp2_with fail
    go_end0
    exact ⟨rfl, Hf.out, HM1.out⟩
end Go.Proofs.YtkejidmomnmdbaaDoor
