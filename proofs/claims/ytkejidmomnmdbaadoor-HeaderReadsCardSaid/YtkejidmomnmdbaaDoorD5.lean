import Derived.Test.YtkejidmomnmdbaaDoorD4
import Derived.Deep.LoopGhost
namespace Go.Proofs.YtkejidmomnmdbaaDoor
open Go.RowKit

set_option maxHeartbeats 1000000 in
theorem dtext_any (b : Nat) (m : List Nat) (s : List UInt8) (w : World) (hS : Holds w b m) (hm : m.length + s.length ≤ 549755813888) (hT : TabAt w) (hb : b ≠ 1) :
    Calls Tryd.prog 87 #[.pointer (some ⟨b, 0, none⟩), .string ⟨s.toArray⟩] w fun r w' => r = .returned (.tuple #[]) ∧ Holds w' b (m ++ nats s) ∧ Mod (· = b) w w' := by
  go_enter Tryd.func87, Tryd.ntmps87
  go_wp2_with fail
  go_loopw [7] (fun i wr => ∃ k : Nat, k ≤ s.length ∧ i = .int .i64 k ∧ Holds wr b (m ++ nats (s.take k)) ∧ Mod (· = b) w wr) (fun i _ => s.length - (intOf i).toNat)
  case atStart => exact ⟨0, by omega, rfl, by simpa [nats] using hS, Mod.refl _ _⟩
  case round =>
    obtain ⟨k, hk, rfl, hR, hM⟩ := hrel
    by_cases hlt : k < s.length
    · obtain ⟨x, hxe⟩ : ∃ x, x = s[k] := ⟨_, rfl⟩
      have hg : ∀ h' : k < (ByteArray.mk s.toArray).size, (ByteArray.mk s.toArray)[k] = x := fun _ => by rw [hxe]; rfl
      have hx := (s[k]).toNat_lt
      have hn := nats_take_succ s k hlt
      rw [← hxe] at hx hn
      have Hn := Lib.hid hn
      have hl : (m ++ nats (s.take k)).length < 1099511627776 := by rw [List.length_append, nats_len, List.length_take]; omega
      have hTr := hT.kept hM (by omega)
      clear hn hxe
      go_wp2_with fail
      refine (dadd_any b _ x.toNat wr hR hx hl hTr hb).mono ?_
      rintro e w1 ⟨rfl, hR1, hM1⟩
      rw [List.append_assoc, ← Hn.out] at hR1
      go_wp2_with fail
      go_roundw
      case rel => exact ⟨k + 1, by omega, by go_num, hR1, hM.trans hM1 (fun _ _ h => h)⟩
      case measure => simp [intOf]; omega
    · obtain rfl : k = s.length := by omega
      go_wp2_with fail
      go_end0
      rw [List.take_length] at hR
      exact ⟨rfl, hR, hM⟩

set_option maxHeartbeats 1000000 in
theorem pad_any (b : Nat) (m : List Nat) (w : World) (hS : Holds w b m) (hm : m.length ≤ 549755813888) (hT : TabAt w) (hb : b ≠ 1) :
    Calls Tryd.prog 88 #[.pointer (some ⟨b, 0, none⟩)] w fun r w' => r = .returned (.tuple #[]) ∧ Holds w' b (padded m) ∧ Mod (· = b) w w' := by
  obtain ⟨L0, hS0, _⟩ := hS.ex
  have cc := hS0.cnt
  obtain ⟨n, hn⟩ : ∃ n, n = m.length := ⟨_, rfl⟩
  rw [← hn] at cc hm
  have n0 : (0 : Int) ≤ n := by omega
  have Hn := Lib.hid hn
  clear hS0 hn
  go_enter Tryd.func88, Tryd.ntmps88
  go_wp2_with fail
  refine (dadd_any b m 128 w hS (by decide) (by rw [← Hn.out]; omega) hT hb).mono ?_
  rintro e w1 ⟨rfl, hR1, hM1⟩
  clear hS cc
  go_wp2_with fail
  go_loopg [] (zeros n) (fun g wr => ∃ j, j + g = zeros n ∧ Holds wr b (m ++ [128] ++ List.replicate j 0) ∧ Mod (· = b) w wr)
  case atStart => exact ⟨0, by omega, by simpa using hR1, hM1⟩
  case round =>
    clear hR1 hM1
    obtain ⟨j, hj, hR, hM⟩ := hrel
    obtain ⟨L, hSr, _⟩ := hR.ex
    have cc := hSr.cnt
    have hlen : (m ++ [128] ++ List.replicate j 0).length = n + 1 + j := by simp [← Hn.out]; omega
    rw [hlen] at cc
    have hz : zeros n = (119 - n % 64) % 64 := rfl
    have hTr := hT.kept hM (by omega)
    obtain ⟨c, hc⟩ : ∃ c, c = n + 1 + j := ⟨_, rfl⟩
    rw [← hc] at cc
    have c0 : (0 : Int) ≤ c := by omega
    by_cases hlt : 0 < gk
    · have t : ((c : Int) % 64 != 56) = true := by rw [bne_iff_ne]; omega
      have Hj := Lib.hid hj
      have Hc := Lib.hid hc
      have Hz := Lib.hid hz
      have Hl := Lib.hid hlen
      have hjn : j < 64 := by omega
      clear hj hc hz hlen hSr
      go_wp2_with fail
      refine (dadd_any b _ 0 wr hR (by decide) (by rw [Hl.out]; omega) hTr hb).mono ?_
      rintro e w2 ⟨rfl, hR2, hM2⟩
      rw [List.append_assoc, ← List.replicate_succ'] at hR2
      go_wp2_with fail
      go_roundg (gk - 1)
      case measure => omega
      case rel => exact ⟨j + 1, by have := Hj.out; omega, hR2, hM.trans hM2 (fun _ _ h => h)⟩
    · have t : ((c : Int) % 64 != 56) = false := by rw [bne_eq_false_iff_eq]; omega
      have hjz : j = zeros n := by omega
      rw [hjz] at hR
      clear hj hc hz hlen hSr hjz
      go_wp2_with fail
      obtain ⟨wo, rfl⟩ : ∃ wo : World, wo = wr := ⟨_, rfl⟩
      go_loopw [19] (fun i wr => ∃ k : Nat, k ≤ 8 ∧ i = .int .i64 k ∧ Holds wr b (m ++ [128] ++ List.replicate (zeros n) 0 ++ lenBytes n k) ∧ Mod (· = b) w wr) (fun i _ => 8 - (intOf i).toNat)
      case atStart => exact ⟨0, by omega, rfl, by simpa [lenBytes] using hR, hM⟩
      case round =>
        clear hR hM hTr cc
        obtain ⟨k, hk, rfl, hR, hM⟩ := hrel
        have hTr := hT.kept hM (by omega)
        by_cases hlt : k < 8
        · have hl : (m ++ [128] ++ List.replicate (zeros n) 0 ++ lenBytes n k).length < 1099511627776 := by
            have : zeros n < 64 := Nat.mod_lt _ (by decide)
            simp [← Hn.out, lenBytes_len]; omega
          obtain ⟨s, hs⟩ : ∃ s : Nat, s = 7 - k := ⟨_, rfl⟩
          have e2 : (7 : Int) - k = (s : Int) := by omega
          obtain ⟨c, hcs⟩ : ∃ c : Nat, c = 8 * s := ⟨_, rfl⟩
          have e3 : 8 * (s : Int) = (c : Int) := by omega
          have hc64 : c ≤ 64 := by omega
          have e4 : IntKind.u8.wrap ((n : Int) * 8 / 2 ^ c) = ((n * 8 / 2 ^ c % 256 : Nat) : Int) := by
            rw [IntKind.wrap_u8, Int.natCast_emod, Int.natCast_ediv, Int.natCast_pow]; rfl
          have Hcs : Hid (c = 8 * (7 - k)) := Lib.hid (by omega)
          clear hs hcs
          go_wp2_with fail
          refine (dadd_any b _ (n * 8 / 2 ^ c % 256) wr hR (Nat.mod_lt _ (by decide)) hl hTr hb).mono ?_
          rintro e w2 ⟨rfl, hR2, hM2⟩
          rw [List.append_assoc _ _ [_], Hcs.out, ← lenBytes_succ] at hR2
          go_wp2_with fail
          go_roundw
          case rel => exact ⟨k + 1, by omega, by go_num, hR2, hM.trans hM2 (fun _ _ h => h)⟩
          case measure => simp [intOf]; omega
        · obtain rfl : k = 8 := by omega
          go_wp2_with fail
          go_end0
          exact ⟨rfl, by unfold padded; rw [← Hn.out]; exact hR, hM⟩

set_option maxHeartbeats 1000000 in
set_option maxRecDepth 100000 in
theorem begin_any (w : World) :
    Calls Tryd.prog 86 #[] w fun r w' => r = .returned (.agg (sumCells hTab (List.replicate 64 0) 0)) ∧ Mod (fun _ => False) w w' := by
  have hz : ∀ w : World, (zeroValue 124).run Tryd.prog w = .ok (.agg (sumCells (List.replicate 8 0) (List.replicate 64 0) 0)) w := fun _ => by kernel_rfl
  go_enter Tryd.func86, Tryd.ntmps86
  go_wp2_with (refine wpList_store_row rfl rfl 124 (.tmp 0) (.tmp 2) rfl w.heap.size rfl 124 (sumCells (List.replicate 8 0) (List.replicate 64 0) 0) (sumCells hTab (List.replicate 64 0) 0) rfl (heap_alloc_new _ _) rfl (by kernel_rfl) ?s4 ?_)
  case s4 =>
    intro v hv
    simp only [sumCells, List.mem_append, List.mem_singleton] at hv
    rcases hv with (h | h) | h
    · exact nums_one _ _ v h
    · exact nums_one _ _ v h
    · rw [h]; rfl
  generalize hW1 : (w.alloc _).setRow w.heap.size _ = W1
  have hM : Mod (fun _ => False) w W1 := by rw [← hW1]; exact (((Mod.refl (fun _ => False) _).alloc _).setRow (g := w.heap.size) _).drop_new (Nat.le_refl _)
  have hg : W1.heap[w.heap.size]? = some (.cells (sumCells hTab (List.replicate 64 0) 0) 124 (0, 0)) := by rw [← hW1]; exact setRow_heap _ _ _ _ _ _ (heap_alloc_new _ _)
  clear hW1
  go_wp2_with fail
  exact bodyPost_ret (v := .agg (sumCells hTab (List.replicate 64 0) 0)) (results_cell_row Tryd.results86 _ _ w.heap.size 124 _ (0, 0) _ rfl hg Tryd.underlying124 rfl (by kernel_rfl)) rfl ⟨rfl, hM⟩
end Go.Proofs.YtkejidmomnmdbaaDoor
