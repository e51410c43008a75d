/- Table: New. -/
import Derived.Test.YthmgigojgagpeaaT3
namespace Go.Proofs.Ythmgigojgagpeaa
open Go.RowKit

set_option maxRecDepth 20000 in
set_option maxHeartbeats 8000000 in
theorem new_any (ao : Option Addr) (cap : Nat) (E : List (Nat × Nat)) (w : World) (hS : EntsAt w ao E) (hok : EntsOk E 1) (hl : E.length ≤ 64) (h0 : E ≠ []) :
    Calls Try.prog 8 #[.slice ao E.length cap] w fun r w' => r = .returned (.tuple #[tval (wth (List.replicate 64 0) E), .int .i64 0]) ∧ Below w.heap.size w w' := by
  have h0' : 0 < E.length := List.length_pos_iff.2 h0
  have hmay := fun w h => may_yes ao cap 1 E w h hok hl
  have hwith := fun w h => with_any (List.replicate 64 0) ao cap 1 E w isTab_zero h hok hl
  have htab := isTab_zero.wth hok
  obtain ⟨n, hn⟩ : ∃ n, E.length = n := ⟨_, rfl⟩
  rw [hn] at hl h0' hmay hwith ⊢
  have HS := Lib.hid hS
  unfold tval at hwith ⊢
  obtain ⟨Z, hZ⟩ : ∃ Z, Z = (nums .i64 (List.replicate 64 0)).toArray := ⟨_, rfl⟩
  have hz : ∀ w : World, (zeroValue 28).run Try.prog w = .ok (.agg Z) w := by rw [hZ]; exact fun _ => by kernel_rfl
  obtain ⟨AQ, hAQ⟩ : ∃ AQ, AQ = (nums .i64 (wth (List.replicate 64 0) E)).toArray := ⟨_, rfl⟩
  have hZs : Z.size = 64 := by rw [hZ]; simp [nums_len]
  have hQs : AQ.size = 64 := htab.row hAQ
  have h1 : Hid (∀ v ∈ AQ.toList, v.oneCell' = true) := Lib.hid (by rw [hAQ]; intro v hv; exact nums_one .i64 _ v (by simpa using hv))
  rw [← hZ, ← hAQ] at hwith
  rw [← hAQ]
  have Hmay := Lib.hid hmay
  have Hwith := Lib.hid hwith
  have b1 : ¬ (64 : Int) < n := by omega
  have b2 : ((n : Int) == 0) = false := by rw [beq_eq_false_iff_ne]; omega
  have hrow : (w.alloc (.cells Z 28)).heap[w.heap.size]? = some (.cells Z 28 (0, 0)) := heap_alloc_new _ _
  have hB : Below w.heap.size w (w.alloc (.cells Z 28)) := (Below.refl _ _).alloc (Nat.le_refl _) _
  clear hS hok hmay hwith htab hn hZ hAQ h0 h0'
  go_enter Try.func8, Try.ntmps8
  go_upto_region 1 with fail
  generalize w.alloc (.cells Z 28) = W at hrow hB ⊢
  go_wp2_with fail
  refine (Hmay.out W (HS.out.old hB)).mono ?_
  rintro r w2 ⟨rfl, hb⟩
  have hrow2 := (hb.block _ (Array.getElem?_eq_some_iff.1 hrow).1).trans hrow
  replace hB := hB.trans (hb.mono hB.size)
  clear hb hrow
  go_wp2_with fail
  refine (Hwith.out w2 (HS.out.old hB)).mono ?_
  rintro r w3 ⟨rfl, hb⟩
  have hrow3 := (hb.block _ (Array.getElem?_eq_some_iff.1 hrow2).1).trans hrow2
  replace hB := hB.trans (hb.mono hB.size)
  clear hb hrow2
  go_wp2_with (refine wpList_store_row rfl rfl 28 (.tmp 2) (.tmp 21) rfl w.heap.size rfl 28 Z AQ rfl hrow3 ?s2 ?s3 ?s4 ?_)
  case s2 => rw [hZs, hQs]
  case s3 => rw [hQs]; kernel_rfl
  case s4 => exact h1.out
  have hg := setRow_heap w3 w.heap.size Z AQ 28 (0, 0) hrow3
  have hl2 := run_loadVar_row (P := Try.prog) (w3.setRow w.heap.size AQ) w.heap.size 28 28 AQ (0, 0) _ hg Try.underlying28 rfl (by rw [hQs]; kernel_rfl)
  refine bodyPost_ret (v := .tuple #[.agg AQ, .int .i64 0]) (by simp [results, Try.results8, asAddr, hl2]) rfl ⟨rfl, ?_⟩
  exact ((Mod.of_below hB).setRow AQ).to_below (Nat.le_refl _) (by rintro k hk (h | h) <;> omega)
end Go.Proofs.Ythmgigojgagpeaa
