import Derived.Test.YtepibfpdkjkdjaaDoorN5
namespace Go.Proofs.YtepibfpdkjkdjaaDoor
open Go.RowKit

theorem clone_any (p : Option Addr) (cap : Nat) (A : List Nat) (w : World) (hS : Sl .u32 38 w p cap A) (hl : A.length ≤ 1000000) :
    Calls Tryd.prog 51 #[.slice p A.length cap] w fun e w' => ∃ q c, e = .returned (.slice q A.length c) ∧ Sl .u32 38 w' q c A ∧ Below w.heap.size w w' ∧ (∀ a, q = some a → w.heap.size ≤ a.block) := by
  rcases hS.shape with ⟨rfl, rfl, rfl⟩ | ⟨g, rfl, hlt, _⟩
  · refine (Tryd.slices_Clone_nil 0 0 w).mono ?_
    rintro e w' ⟨rfl, rfl⟩
    exact ⟨none, 0, rfl, Sl.empty _ _ _, Below.refl _ _, by rintro a h; cases h⟩
  · obtain ⟨i, hi, hz, h1, h2⟩ := info_parts info_u32
    refine (Tryd.slices_Clone i (.int .u32 0) 1 4 hi hz h1 h2 rfl (by decide) Tryd.sizeOf38 g 0 A.length cap (nums .u32 A) w (by simp [nums_len]) (by unfold maxLen; omega) (by omega) ?_ (nums_one _ _)).mono ?_
    · intro j u hj
      have hjl : j < A.length := by
        obtain ⟨hlt, _⟩ := List.getElem?_eq_some_iff.1 hj
        rwa [nums_len] at hlt
      rw [nums_get .u32 A j hjl] at hj
      cases hj
      rw [Nat.zero_add]; exact hS.cell j hjl
    · rintro e w' ⟨v', rfl, hown, hne, hb⟩
      rcases hown.2 with ⟨h, _⟩ | ⟨g', cap', cur, rfl, hbase, hh, ha, hb', hc, hd⟩
      · exact absurd h hne
      · exact ⟨some ⟨g', 0, none⟩, cap', rfl, Sl.of_row hh ha hb' (by simpa using hc) (by simpa using hd), hb, by rintro a h; cases h; exact hbase⟩

set_option maxHeartbeats 1000000 in
theorem div_zero (p : Option Addr) (cp x : Nat) (w : World) :
    Calls Tryd.prog 29 #[.agg #[.slice p (lb x).length cp], .int .u32 0] w fun r w' => r = .returned (.tuple #[.agg #[.slice none 0 0], .int .u32 0, .bool false]) ∧ Below w.heap.size w w' := by
  go_enter Tryd.func29, Tryd.ntmps29
  go_wp2_with fail
  refine bodyPost_ret (v := .tuple #[.agg #[.slice none 0 0], .int .u32 0, .bool false]) (by simp [results, Tryd.results29, go_sem]) rfl ⟨rfl, ?_⟩
  exact ((Below.refl _ _).alloc (Nat.le_refl _) _).alloc (by simp) _

set_option maxHeartbeats 1000000 in
theorem div_any (p : Option Addr) (cp x d : Nat) (w : World) (hx : NatIn w p cp x) (lx : (lb x).length ≤ 100000) (hd : 0 < d) (hdd : d < 4294967296) :
    Calls Tryd.prog 29 #[.agg #[.slice p (lb x).length cp], .int .u32 d] w fun r w' => ∃ q c, r = .returned (.tuple #[.agg #[.slice q (lb (x / d)).length c], .int .u32 ((x % d : Nat) : Int), .bool true]) ∧ NatIn w' q c (x / d) ∧ Below w.heap.size w w' ∧ (∀ a, q = some a → w.heap.size ≤ a.block) := by
  obtain ⟨A, hA⟩ : ∃ A, A = lb x := ⟨_, rfl⟩
  obtain ⟨y, hy⟩ : ∃ y, y = x / d := ⟨_, rfl⟩
  obtain ⟨r0, hr0⟩ : ∃ y, y = x % d := ⟨_, rfl⟩
  have hx' : Sl .u32 38 w p cp A := by rw [hA]; exact hx
  rw [← hA] at lx ⊢
  rw [← hy, ← hr0]
  have HA := Lib.hid hA
  have Hy := Lib.hid hy
  have Hr := Lib.hid hr0
  clear hA hy hr0 hx
  have b1 : ((d : Int) == 0) = false := by rw [beq_eq_false_iff_ne]; omega
  go_enter Tryd.func29, Tryd.ntmps29
  go_wp2_with fail
  have hB0 : Below w.heap.size w ((w.alloc (.cells #[.slice p A.length cp] 25)).alloc (.cells #[.slice none 0 0] 25)) := ((Below.refl _ _).alloc (Nat.le_refl _) _).alloc (by simp) _
  refine (clone_any p cp A _ (hx'.old hB0) (by omega)).mono ?_
  rintro e W1 ⟨q, c, rfl, hS1, hb1, hf1⟩
  have k4 : Boxed W1 (w.heap.size + 1) 25 (.slice none 0 0) := by
    refine Boxed.below' ?_ hb1 (by simp)
    have := Boxed.new (w.alloc (.cells #[.slice p A.length cp] 25)) 25 (.slice none 0 0)
    rwa [World.size_alloc] at this
  have hB1 := hB0.trans (hb1.mono (by simp; omega))
  have hf2 : ∀ a, q = some a → w.heap.size + 2 ≤ a.block := by intro a e; have := hf1 a e; simpa using this
  clear hB0 hb1 hf1 hx'
  go_wp2_with fail
  refine (divide_any q c x d A W1 hS1 HA (by omega) hd hdd).mono ?_
  rintro e W2 ⟨rfl, S, hSl, hSb, hSv, hS2, hm2⟩
  have k42 := Boxed.mod' k4 hm2 (by rintro ⟨a, e, h⟩; have := hf2 a e; omega)
  have hB2 := hB1.trans (hm2.to_below (B := w.heap.size) (by have := hB1.size; omega) (by rintro k hk ⟨a, e, h⟩; have := hf2 a e; omega))
  rw [← Hr.out]
  rw [← Hy.out] at hSv
  have Hv := Lib.hid hSv
  clear k4 hB1 hS1 hm2 hSv
  go_wp2_with fail
  have htr := trim_any q c S W2 hS2 hSb (by omega)
  rw [hSl, Hv.out] at htr
  refine htr.mono ?_
  clear htr
  rintro e W3 ⟨q3, c3, rfl, hN, hb3, hq3⟩
  have k43 := Boxed.below' k42 hb3 k42.lt
  have hB3 := hB2.trans (hb3.mono hB2.size)
  have hf3 : ∀ a, q3 = some a → w.heap.size + 2 ≤ a.block := by rintro a rfl; rcases hq3 with h | h
                                                                · cases h
                                                                · exact hf2 a h.symm
  have c4 := k43.cell
  have f4 := k43.frozen
  clear k42 hB2 hb3 hq3 hS2 hSl hSb
  go_wp2_with fail
  have c5 := (k43.set (.slice q3 (lb y).length c3)).cell
  refine bodyPost_ret (v := .tuple #[.agg #[.slice q3 (lb y).length c3], .int .u32 (r0 : Int), .bool true]) (by simp [results, Tryd.results29, go_sem, c5]) rfl ⟨q3, c3, rfl, ?_, ?_, fun a e => by have := hf3 a e; omega⟩
  · exact hN.other ⟨w.heap.size + 1, 0, none⟩ _ (fun a e => by have := hf3 a e; show a.block ≠ w.heap.size + 1; omega)
  · exact hB3.setCell (p := ⟨w.heap.size + 1, 0, none⟩) (by show w.heap.size ≤ w.heap.size + 1; omega) _
end Go.Proofs.YtepibfpdkjkdjaaDoor
