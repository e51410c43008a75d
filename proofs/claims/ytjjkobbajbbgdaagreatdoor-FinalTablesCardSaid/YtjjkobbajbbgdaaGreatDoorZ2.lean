/- Texts 2: what the laws lean on. -/
import Derived.Test.YtjjkobbajbbgdaaGreatDoorZ1
import Derived.Deep.LoopGhost
import Derived.BigRegion
import Derived.Stop.BytesEq
import Derived.Orders
import Derived.Tactics
import Derived.Lib.Bytealg
import Derived.Deep.MidRow
import Derived.Great.BuildSlice
import Derived.Laws.ResultCell
namespace Go.Proofs.YtjjkobbajbbgdaaGreatDoor
open Go.RowKit

/-- Block b is a sum that holds the bytes m. -/
structure Holds (w : World) (b : Nat) (m : List Nat) : Prop where
  ex : ∃ L, SumAt w b (absorb m).1 L m.length ∧ L.take (m.length % 64) = (absorb m).2 ∧ ∀ x ∈ L, x < 256
theorem Holds.lt {w : World} {b : Nat} {m : List Nat} (h : Holds w b m) : b < w.heap.size := by obtain ⟨L, hS, _⟩ := h.ex; exact hS.lt
theorem Holds.kept {w w' : World} {b : Nat} {m : List Nat} {S : Nat → Prop} (h : Holds w b m) (hm : Mod S w w') (hb : ¬ S b) : Holds w' b m := by
  obtain ⟨L, hS, h2, h3⟩ := h.ex; exact ⟨L, hS.kept hm hb, h2, h3⟩

set_option maxHeartbeats 1000000 in
set_option maxRecDepth 100000 in
theorem dadd_any (b : Nat) (m : List Nat) (x : Nat) (w : World) (hS : Holds w b m) (hx : x < 256) (hm : m.length < 1099511627776) (hT : TabAt w) (hb : b ≠ 1) :
    Calls Tryz.prog 89 #[.pointer (some ⟨b, 0, none⟩), .int .u8 x] w fun r w' => r = .returned (.tuple #[]) ∧ Holds w' b (m ++ [x]) ∧ Mod (· = b) w w' := by
  obtain ⟨L, hS, hLt, hLb⟩ := hS.ex
  have hbuf := absorb_buf m
  obtain ⟨r, hr⟩ : ∃ r, r = m.length % 64 := ⟨_, rfl⟩
  rw [← hr] at hLt hbuf
  obtain ⟨n, hn⟩ : ∃ n, n = m.length := ⟨_, rfl⟩
  rw [← hn] at hS hm hr
  have e1 : (n : Int) % 64 = (r : Int) := by omega
  have hr64 : r < 64 := by omega
  have e64 := hS.ll
  have cc := hS.cnt
  have cb := hS.byte r hr64
  have f1 := hS.froz (8 + r)
  have f2 := hS.froz 72
  have hS1 : SumAt ((w.setCell ⟨b, 8 + r, none⟩ (.int .u8 (x : Int))).setCell ⟨b, 72, none⟩ (.int .u64 ((n : Int) + 1))).drew b (absorb m).1 (L.set r x) (n + 1) := ((hS.setByte r x hr64).setCnt (n + 1)).kept (Mod.drew (Mod.refl (fun _ => False) _)) (fun h => h)
  have hM1 : Mod (· = b) w ((w.setCell ⟨b, 8 + r, none⟩ (.int .u8 (x : Int))).setCell ⟨b, 72, none⟩ (.int .u64 ((n : Int) + 1))).drew := (((Mod.refl (· = b) _).setCell (p := ⟨b, 8 + r, none⟩) (fun _ => rfl) _).setCell (p := ⟨b, 72, none⟩) (fun _ => rfl) _).drew
  have hT1 := hT.kept hM1 (by omega)
  have hLb1 : ∀ y ∈ L.set r x, y < 256 := by
    intro y hy
    rcases List.mem_or_eq_of_mem_set hy with h | h
    · exact hLb y h
    · rw [h]; exact hx
  have hLt1 : (L.set r x).take (r + 1) = (absorb m).2 ++ [x] := by rw [take_set_succ _ _ _ (by omega), hLt]
  obtain ⟨y, hy⟩ : ∃ y, y = L[r]'(by omega) := ⟨_, rfl⟩
  rw [← hy] at cb
  have Hr := Lib.hid hr
  have Hn := Lib.hid hn
  have i0 : (0 : Int) ≤ r := by omega
  have i1 : (r : Int) < 64 := by omega
  have H1 := absorb_words m
  have Hlt := absorb_lt m
  have hsn := absorb_snoc m x
  have HS1 := Lib.hid hS1
  have HM1 := Lib.hid hM1
  have HL1 := Lib.hid hLt1
  have Hsn := Lib.hid hsn
  have Hbuf := Lib.hid hbuf
  clear hr hn hy hS1 hM1 hLt1 hsn hLt hS hbuf
  have n0 : (0 : Int) ≤ n := by omega
  have e1t : (n : Int).tmod 64 = (r : Int) := by rw [Int.tmod_eq_emod_of_nonneg n0]; exact e1
  have ne72 : ¬ 8 + r = 72 := by omega
  by_cases h63 : r = 63
  · have z : (((n : Int) + 1) % 64 == 0) = true := by rw [beq_iff_eq]; omega
    have H63 := Lib.hid h63
    clear h63 e1 hT
    go_enter Tryz.func89, Tryz.ntmps89
    go_wp2_with fail
    go_still_tail 10, (by kernel_rfl)
    change wpList _ _ _ _ _ w.drew
    go_wp2_with fail
    refine (mix_any b _ _ (n + 1) _ HS1.out hLb1 Hlt hT1).mono ?_
    rintro e w1 ⟨rfl, hS2, hM2⟩
    have hfin : Holds w1 b (m ++ [x]) ∧ Mod (· = b) w w1 := by
      refine ⟨⟨L.set r x, ?_, ?_, hLb1⟩, HM1.out.trans hM2 (fun _ _ h => h)⟩
      · rw [Hsn.out, absorb1, if_pos (by rw [Hbuf.out, H63.out]), List.length_append, List.length_singleton, ← Hn.out]
        have e : L.set r x = (absorb m).2 ++ [x] := by rw [← HL1.out, List.take_of_length_le (by simp; have := H63.out; omega)]
        rw [← e]; exact hS2
      · rw [Hsn.out, absorb1, if_pos (by rw [Hbuf.out, H63.out])]
        have : (m ++ [x]).length % 64 = 0 := by have h1 := H63.out; have h2 := Hr.out; have h3 := Hn.out; simp; omega
        rw [this]; rfl
    have Hf := Lib.hid hfin
    clear hfin hS2 hM2
    go_wp2_with fail
    go_end0
    exact ⟨rfl, Hf.out⟩
  · have z : (((n : Int) + 1) % 64 == 0) = false := by rw [beq_eq_false_iff_ne]; omega
    have H63 := Lib.hid h63
    clear h63 e1 hT
    have hfin : Holds ((w.setCell ⟨b, 8 + r, none⟩ (.int .u8 (x : Int))).setCell ⟨b, 72, none⟩ (.int .u64 ((n : Int) + 1))).drew b (m ++ [x]) := by
      refine ⟨L.set r x, ?_, ?_, hLb1⟩
      · rw [Hsn.out, absorb1, if_neg (by rw [Hbuf.out]; have := H63.out; omega), List.length_append, List.length_singleton, ← Hn.out]
        exact HS1.out
      · rw [Hsn.out, absorb1, if_neg (by rw [Hbuf.out]; have := H63.out; omega)]
        have : (m ++ [x]).length % 64 = r + 1 := by have h1 := H63.out; have h2 := Hr.out; have h3 := Hn.out; simp; omega
        rw [this]; exact HL1.out
    have Hf := Lib.hid hfin
    clear hfin
    go_enter Tryz.func89, Tryz.ntmps89
    go_wp2_with fail
    go_still_tail 10, (by kernel_rfl)
    change wpList _ _ _ _ _ w.drew
    go_wp2_with fail
    go_end0
    exact ⟨rfl, Hf.out, HM1.out⟩
end Go.Proofs.YtjjkobbajbbgdaaGreatDoor

namespace Go.Proofs.YtjjkobbajbbgdaaGreatDoor
open Go.RowKit

set_option maxHeartbeats 1000000 in
theorem dtext_any (b : Nat) (m : List Nat) (s : List UInt8) (w : World) (hS : Holds w b m) (hm : m.length + s.length ≤ 549755813888) (hT : TabAt w) (hb : b ≠ 1) :
    Calls Tryz.prog 66 #[.pointer (some ⟨b, 0, none⟩), .string ⟨s.toArray⟩] w fun r w' => r = .returned (.tuple #[]) ∧ Holds w' b (m ++ nats s) ∧ Mod (· = b) w w' := by
  go_enter Tryz.func66, Tryz.ntmps66
  go_wp2_with fail
  go_loopw [7] (fun i wr => ∃ k : Nat, k ≤ s.length ∧ i = .int .i64 k ∧ Holds wr b (m ++ nats (s.take k)) ∧ Mod (· = b) w wr) (fun i _ => s.length - (intOf i).toNat)
  case atStart => exact ⟨0, by omega, rfl, by simpa [nats] using hS, Mod.refl _ _⟩
  case round =>
    obtain ⟨k, hk, rfl, hR, hM⟩ := hrel
    by_cases hlt : k < s.length
    · obtain ⟨x, hxe⟩ : ∃ x, x = s[k] := ⟨_, rfl⟩
      have hg : ∀ h' : k < (ByteArray.mk s.toArray).size, (ByteArray.mk s.toArray)[k] = x := fun _ => by rw [hxe]; rfl
      have hx := (s[k]).toNat_lt
      have hn := nats_take_succ s k hlt
      rw [← hxe] at hx hn
      have Hn := Lib.hid hn
      have hl : (m ++ nats (s.take k)).length < 1099511627776 := by rw [List.length_append, nats_len, List.length_take]; omega
      have hTr := hT.kept hM (by omega)
      clear hn hxe
      go_wp2_with fail
      refine (dadd_any b _ x.toNat wr hR hx hl hTr hb).mono ?_
      rintro e w1 ⟨rfl, hR1, hM1⟩
      rw [List.append_assoc, ← Hn.out] at hR1
      go_wp2_with fail
      go_roundw
      case rel => exact ⟨k + 1, by omega, by go_num, hR1, hM.trans hM1 (fun _ _ h => h)⟩
      case measure => simp [intOf]; omega
    · obtain rfl : k = s.length := by omega
      go_wp2_with fail
      go_end0
      rw [List.take_length] at hR
      exact ⟨rfl, hR, hM⟩

set_option maxHeartbeats 1000000 in
theorem pad_any (b : Nat) (m : List Nat) (w : World) (hS : Holds w b m) (hm : m.length ≤ 549755813888) (hT : TabAt w) (hb : b ≠ 1) :
    Calls Tryz.prog 67 #[.pointer (some ⟨b, 0, none⟩)] w fun r w' => r = .returned (.tuple #[]) ∧ Holds w' b (padded m) ∧ Mod (· = b) w w' := by
  obtain ⟨L0, hS0, _⟩ := hS.ex
  have cc := hS0.cnt
  obtain ⟨n, hn⟩ : ∃ n, n = m.length := ⟨_, rfl⟩
  rw [← hn] at cc hm
  have n0 : (0 : Int) ≤ n := by omega
  have Hn := Lib.hid hn
  clear hS0 hn
  go_enter Tryz.func67, Tryz.ntmps67
  go_wp2_with fail
  refine (dadd_any b m 128 w hS (by decide) (by rw [← Hn.out]; omega) hT hb).mono ?_
  rintro e w1 ⟨rfl, hR1, hM1⟩
  clear hS cc
  go_wp2_with fail
  go_loopg [] (zeros n) (fun g wr => ∃ j, j + g = zeros n ∧ Holds wr b (m ++ [128] ++ List.replicate j 0) ∧ Mod (· = b) w wr)
  case atStart => exact ⟨0, by omega, by simpa using hR1, hM1⟩
  case round =>
    clear hR1 hM1
    obtain ⟨j, hj, hR, hM⟩ := hrel
    obtain ⟨L, hSr, _⟩ := hR.ex
    have cc := hSr.cnt
    have hlen : (m ++ [128] ++ List.replicate j 0).length = n + 1 + j := by simp [← Hn.out]; omega
    rw [hlen] at cc
    have hz : zeros n = (119 - n % 64) % 64 := rfl
    have hTr := hT.kept hM (by omega)
    obtain ⟨c, hc⟩ : ∃ c, c = n + 1 + j := ⟨_, rfl⟩
    rw [← hc] at cc
    have c0 : (0 : Int) ≤ c := by omega
    by_cases hlt : 0 < gk
    · have t : ((c : Int) % 64 != 56) = true := by rw [bne_iff_ne]; omega
      have Hj := Lib.hid hj
      have Hc := Lib.hid hc
      have Hz := Lib.hid hz
      have Hl := Lib.hid hlen
      have hjn : j < 64 := by omega
      clear hj hc hz hlen hSr
      go_wp2_with fail
      refine (dadd_any b _ 0 wr hR (by decide) (by rw [Hl.out]; omega) hTr hb).mono ?_
      rintro e w2 ⟨rfl, hR2, hM2⟩
      rw [List.append_assoc, ← List.replicate_succ'] at hR2
      go_wp2_with fail
      go_roundg (gk - 1)
      case measure => omega
      case rel => exact ⟨j + 1, by have := Hj.out; omega, hR2, hM.trans hM2 (fun _ _ h => h)⟩
    · have t : ((c : Int) % 64 != 56) = false := by rw [bne_eq_false_iff_eq]; omega
      have hjz : j = zeros n := by omega
      rw [hjz] at hR
      clear hj hc hz hlen hSr hjz
      go_wp2_with fail
      obtain ⟨wo, rfl⟩ : ∃ wo : World, wo = wr := ⟨_, rfl⟩
      go_loopw [19] (fun i wr => ∃ k : Nat, k ≤ 8 ∧ i = .int .i64 k ∧ Holds wr b (m ++ [128] ++ List.replicate (zeros n) 0 ++ lenBytes n k) ∧ Mod (· = b) w wr) (fun i _ => 8 - (intOf i).toNat)
      case atStart => exact ⟨0, by omega, rfl, by simpa [lenBytes] using hR, hM⟩
      case round =>
        clear hR hM hTr cc
        obtain ⟨k, hk, rfl, hR, hM⟩ := hrel
        have hTr := hT.kept hM (by omega)
        by_cases hlt : k < 8
        · have hl : (m ++ [128] ++ List.replicate (zeros n) 0 ++ lenBytes n k).length < 1099511627776 := by
            have : zeros n < 64 := Nat.mod_lt _ (by decide)
            simp [← Hn.out, lenBytes_len]; omega
          obtain ⟨s, hs⟩ : ∃ s : Nat, s = 7 - k := ⟨_, rfl⟩
          have e2 : (7 : Int) - k = (s : Int) := by omega
          obtain ⟨c, hcs⟩ : ∃ c : Nat, c = 8 * s := ⟨_, rfl⟩
          have e3 : 8 * (s : Int) = (c : Int) := by omega
          have hc64 : c ≤ 64 := by omega
          have e4 : IntKind.u8.wrap ((n : Int) * 8 / 2 ^ c) = ((n * 8 / 2 ^ c % 256 : Nat) : Int) := by
            rw [IntKind.wrap_u8, Int.natCast_emod, Int.natCast_ediv, Int.natCast_pow]; rfl
          have Hcs : Hid (c = 8 * (7 - k)) := Lib.hid (by omega)
          clear hs hcs
          go_wp2_with fail
          refine (dadd_any b _ (n * 8 / 2 ^ c % 256) wr hR (Nat.mod_lt _ (by decide)) hl hTr hb).mono ?_
          rintro e w2 ⟨rfl, hR2, hM2⟩
          rw [List.append_assoc _ _ [_], Hcs.out, ← lenBytes_succ] at hR2
          go_wp2_with fail
          go_roundw
          case rel => exact ⟨k + 1, by omega, by go_num, hR2, hM.trans hM2 (fun _ _ h => h)⟩
          case measure => simp [intOf]; omega
        · obtain rfl : k = 8 := by omega
          go_wp2_with fail
          go_end0
          exact ⟨rfl, by unfold padded; rw [← Hn.out]; exact hR, hM⟩

set_option maxHeartbeats 1000000 in
set_option maxRecDepth 100000 in
theorem begin_any (w : World) :
    Calls Tryz.prog 65 #[] w fun r w' => r = .returned (.agg (sumCells hTab (List.replicate 64 0) 0)) ∧ Mod (fun _ => False) w w' := by
  have hz : ∀ w : World, (zeroValue 118).run Tryz.prog w = .ok (.agg (sumCells (List.replicate 8 0) (List.replicate 64 0) 0)) w := fun _ => by kernel_rfl
  go_enter Tryz.func65, Tryz.ntmps65
  go_wp2_with (refine wpList_store_row rfl rfl 118 (.tmp 0) (.tmp 2) rfl w.heap.size rfl 118 (sumCells (List.replicate 8 0) (List.replicate 64 0) 0) (sumCells hTab (List.replicate 64 0) 0) rfl (heap_alloc_new _ _) rfl (by kernel_rfl) ?s4 ?_)
  case s4 =>
    intro v hv
    simp only [sumCells, List.mem_append, List.mem_singleton] at hv
    rcases hv with (h | h) | h
    · exact nums_one _ _ v h
    · exact nums_one _ _ v h
    · rw [h]; rfl
  generalize hW1 : (w.alloc _).setRow w.heap.size _ = W1
  have hM : Mod (fun _ => False) w W1 := by rw [← hW1]; exact (((Mod.refl (fun _ => False) _).alloc _).setRow (g := w.heap.size) _).drop_new (Nat.le_refl _)
  have hg : W1.heap[w.heap.size]? = some (.cells (sumCells hTab (List.replicate 64 0) 0) 118 (0, 0)) := by rw [← hW1]; exact setRow_heap _ _ _ _ _ _ (heap_alloc_new _ _)
  clear hW1
  go_wp2_with fail
  exact bodyPost_ret (v := .agg (sumCells hTab (List.replicate 64 0) 0)) (results_cell_row Tryz.results65 _ _ w.heap.size 118 _ (0, 0) _ rfl hg Tryz.underlying118 rfl (by kernel_rfl)) rfl ⟨rfl, hM⟩
end Go.Proofs.YtjjkobbajbbgdaaGreatDoor

namespace Go.Proofs.YtjjkobbajbbgdaaGreatDoor
open Go.RowKit

/-- v is a slice of the texts ss. -/
def StrsAt (w : World) (v : Value) (ss : List (List UInt8)) : Prop :=
  ∃ ao cap, v = .slice ao ss.length cap ∧ ∀ j (h : j < ss.length), ∃ bs off, ao = some ⟨bs, off, none⟩ ∧ bs < w.heap.size ∧ w.cell? ⟨bs, off + j, none⟩ = some (.string ⟨(ss[j]).toArray⟩)

def OutRel (w : World) (M : Nat) (H : List Nat) (k : Nat) : Prop := ∃ A, RowAt .u8 36 w M A ∧ A.length = 32 ∧ A.take k = outTo H k

theorem holds_nil {w : World} {b : Nat} (h : w.heap[b]? = some (.cells (sumCells hTab (List.replicate 64 0) 0) 118 (0, 0))) : Holds w b [] :=
  ⟨List.replicate 64 0, ⟨h, rfl, by simp⟩, rfl, fun x hx => by rw [List.eq_of_mem_replicate hx]; decide⟩

theorem flat_take_succ (ss : List (List UInt8)) (k : Nat) (h : k < ss.length) : (ss.take (k + 1)).flatten = (ss.take k).flatten ++ ss[k] := by
  rw [List.take_succ_eq_append_getElem h, List.flatten_append, List.flatten_cons, List.flatten_nil, List.append_nil]
theorem flat_take_len (ss : List (List UInt8)) (k : Nat) : (ss.take k).flatten.length ≤ ss.flatten.length := by
  have h : ss.flatten = (ss.take k).flatten ++ (ss.drop k).flatten := by rw [← List.flatten_append, List.take_append_drop]
  rw [h]; simp

set_option maxHeartbeats 1000000 in
set_option maxRecDepth 100000 in
theorem dof_any (v : Value) (ss : List (List UInt8)) (w : World) (hv : StrsAt w v ss) (hl : ss.flatten.length ≤ 274877906944) (hn : (ss.length : Int) ≤ 1099511627776) (hT : TabAt w) :
    Calls Tryz.prog 37 #[v] w fun r w' => r = .returned (.agg (nums .u8 (sha (nats ss.flatten))).toArray) ∧ Mod (fun _ => False) w w' := by
  obtain ⟨ao, cap, rfl, hcell⟩ := hv
  have Hcell := Lib.hid hcell
  clear hcell
  have hz : ∀ w : World, (zeroValue 118).run Tryz.prog w = .ok (.agg (sumCells (List.replicate 8 0) (List.replicate 64 0) 0)) w := fun _ => by kernel_rfl
  have hz2 : ∀ w : World, (zeroValue 36).run Tryz.prog w = .ok (.agg (nums .u8 (List.replicate 32 0)).toArray) w := fun _ => by kernel_rfl
  have hw0 := hT.lt
  go_enter Tryz.func37, Tryz.ntmps37
  go_wp2_with fail
  generalize hW1 : w.alloc _ = W1
  have hR1 : RowAt .u8 36 W1 w.heap.size (List.replicate 32 0) := by rw [← hW1]; exact heap_alloc_new _ _
  have hM1 : Mod (fun _ => False) w W1 := by rw [← hW1]; exact (Mod.refl _ _).alloc _
  have hs1 : w.heap.size < W1.heap.size := hR1.lt
  clear hW1
  refine (begin_any W1).mono ?_
  rintro r w2 ⟨rfl, hM2⟩
  have hR2 := hR1.kept hM2 (fun h => h)
  have hs2 := hM2.size
  have hM2' := hM1.trans hM2 (fun _ _ h => h)
  clear hR1 hM1 hM2
  go_wp2_with (refine wpList_store_row rfl rfl 118 (.tmp 3) (.tmp 8) rfl w2.heap.size rfl 118 (sumCells (List.replicate 8 0) (List.replicate 64 0) 0) (sumCells hTab (List.replicate 64 0) 0) rfl (heap_alloc_new _ _) rfl (by kernel_rfl) ?s4 ?_)
  case s4 =>
    intro v hv
    simp only [sumCells, List.mem_append, List.mem_singleton] at hv
    rcases hv with (h | h) | h
    · exact nums_one _ _ v h
    · exact nums_one _ _ v h
    · rw [h]; rfl
  generalize hW3 : (w2.alloc _).setRow w2.heap.size _ = W3
  have hM3 : Mod (fun _ => False) w2 W3 := by rw [← hW3]; exact (((Mod.refl (fun _ => False) _).alloc _).setRow (g := w2.heap.size) _).drop_new (Nat.le_refl _)
  have hH3 : Holds W3 w2.heap.size [] := holds_nil (by rw [← hW3]; exact setRow_heap _ _ _ _ _ _ (heap_alloc_new _ _))
  have hR3 := hR2.kept hM3 (fun h => h)
  have hM3' := hM2'.trans hM3 (fun _ _ h => h)
  clear hW3 hM3 hR2 hM2'
  obtain ⟨B, hB⟩ : ∃ B, B = w2.heap.size := ⟨_, rfl⟩
  rw [← hB] at hH3 hs2 ⊢
  have hBw : w.heap.size < B := by omega
  clear hB hs2 hs1
  go_loopw [11] (fun i wr => ∃ k : Nat, k ≤ ss.length ∧ i = .int .i64 k ∧ Holds wr B (nats (ss.take k).flatten) ∧ RowAt .u8 36 wr w.heap.size (List.replicate 32 0) ∧ Mod (fun _ => False) w wr) (fun i _ => ss.length - (intOf i).toNat)
  case atStart => exact ⟨0, by omega, rfl, hH3, hR3, hM3'⟩
  case round =>
    clear hH3 hR3 hM3'
    obtain ⟨k, hk, rfl, hH, hR, hM⟩ := hrel
    by_cases hlt : k < ss.length
    · obtain ⟨bs, off, rfl, hbs, hc⟩ := Hcell.out k hlt
      have hcr : wr.cell? ⟨bs, off + k, none⟩ = _ := (World.cell?_of_block (hM.block bs hbs (fun h => h))).trans hc
      have hfl := flat_take_succ ss k hlt
      have hle := flat_take_len ss (k + 1)
      obtain ⟨s, hs⟩ : ∃ s, s = ss[k] := ⟨_, rfl⟩
      rw [← hs] at hfl hcr
      rw [hfl] at hle
      have hTr := hT.kept hM (fun h => h)
      have Hfl := Lib.hid hfl
      have hlen : (nats (ss.take k).flatten).length + s.length ≤ 549755813888 := by rw [nats_len]; simp only [List.length_append] at hle; omega
      clear hc hfl hle hs
      go_wp2_with fail
      refine (dtext_any B _ s wr hH hlen hTr (by omega)).mono ?_
      rintro e w4 ⟨rfl, hH4, hM4⟩
      rw [← nats_app, ← Hfl.out] at hH4
      have hR4 := hR.kept hM4 (by omega)
      have hM5 := hM.trans hM4 (T := (· = B)) (by intro i hi h; omega)
      go_wp2_with fail
      go_roundw
      case rel => exact ⟨k + 1, by omega, by go_num, hH4, hR4, hM5⟩
      case measure => simp [intOf]; omega
    · obtain rfl : k = ss.length := by omega
      rw [List.take_length] at hH
      have hlen : (nats ss.flatten).length ≤ 549755813888 := by rw [nats_len]; omega
      have hTr := hT.kept hM (fun h => h)
      go_wp2_with fail
      refine (pad_any B _ wr hH hlen hTr (by omega)).mono ?_
      rintro e w4 ⟨rfl, hH4, hM4⟩
      have hR4 := hR.kept hM4 (by omega)
      have hM5 := hM.trans hM4 (T := (· = B)) (by intro i hi h; omega)
      clear hH hR hM hTr hlen hM4
      obtain ⟨L, hS4, _⟩ := hH4.ex
      have hsz4 := hM5.size
      obtain ⟨HH, hHH⟩ : ∃ HH, HH = (absorb (padded (nats ss.flatten))).1 := ⟨_, rfl⟩
      rw [← hHH] at hS4
      have hsha : sha (nats ss.flatten) = outTo HH 32 := by rw [hHH]; rfl
      have Hsha := Lib.hid hsha
      clear hH4 hHH hsha Hcell
      go_wp2_with fail
      generalize hW5 : w4.alloc _ = W5
      have hM6 : Mod (fun _ => False) w4 W5 := by rw [← hW5]; exact (Mod.refl _ _).alloc _
      have hR6 : RowAt .u8 36 W5 w4.heap.size (List.replicate 32 0) := by rw [← hW5]; exact heap_alloc_new _ _
      have hS6 := hS4.kept hM6 (fun h => h)
      have hR7 := hR4.kept hM6 (fun h => h)
      have hM7 := hM5.trans hM6 (fun _ _ h => h)
      have hBlt := hS4.lt
      have hNlt := hR4.lt
      obtain ⟨M, hM⟩ : ∃ M, M = w4.heap.size := ⟨_, rfl⟩
      rw [← hM] at hR6 hBlt hNlt ⊢
      have hMw : w.heap.size ≤ M := by omega
      clear hW5 hM6 hS4 hR4 hM5 hM hsz4
      obtain ⟨wo, rfl⟩ : ∃ wo : World, wo = wr := ⟨_, rfl⟩
      go_loopw [19] (fun i wr => ∃ k : Nat, k ≤ 32 ∧ i = .int .i64 k ∧ SumAt wr B HH L (padded (nats ss.flatten)).length ∧ RowAt .u8 36 wr w.heap.size (List.replicate 32 0) ∧ Mod (fun _ => False) w wr ∧ OutRel wr M HH k) (fun i _ => 32 - (intOf i).toNat)
      case atStart => exact ⟨0, by omega, rfl, hS6, hR7, hM7, _, hR6, by simp, by rw [List.take_zero]; rfl⟩
      case round =>
        clear hS6 hR7 hM7 hR6
        obtain ⟨k, hk, rfl, hS, hR, hM, A, hRA, hA, hAt⟩ := hrel
        by_cases hlt : k < 32
        · have hhl := hS.hl
          obtain ⟨h, hh⟩ : ∃ h, h = HH[k / 4]'(by omega) := ⟨_, rfl⟩
          have ch := hS.word (k / 4) (by omega)
          rw [← hh] at ch
          obtain ⟨c, hc⟩ : ∃ c : Nat, c = 8 * (3 - k % 4) := ⟨_, rfl⟩
          have a1 : (0 : Int) ≤ (k : Int) / 4 := by omega
          have a2 : (k : Int) / 4 < 8 := by omega
          have a3 : ((k : Int) / 4).toNat = k / 4 := by omega
          have a4 : 8 * (3 - (k : Int) % 4) = (c : Int) := by omega
          have hc64 : c ≤ 64 := by omega
          have a5 : IntKind.u8.wrap ((h : Int) / 2 ^ c) = ((h / 2 ^ c % 256 : Nat) : Int) := by
            rw [IntKind.wrap_u8, Int.natCast_emod, Int.natCast_ediv, Int.natCast_pow]; rfl
          have ck := hRA.cell k (by omega)
          have fk := hRA.froz k
          obtain ⟨y, hy⟩ : ∃ y, y = A[k]'(by omega) := ⟨_, rfl⟩
          rw [← hy] at ck
          have i0 : (0 : Int) ≤ k := by omega
          have i1 : (k : Int) < 32 := by omega
          have Hr : Hid (SumAt (wr.setCell ⟨M, k, none⟩ (.int .u8 ((h / 2 ^ c % 256 : Nat) : Int))) B HH L (padded (nats ss.flatten)).length ∧ RowAt .u8 36 (wr.setCell ⟨M, k, none⟩ (.int .u8 ((h / 2 ^ c % 256 : Nat) : Int))) w.heap.size (List.replicate 32 0) ∧
              Mod (fun _ => False) w (wr.setCell ⟨M, k, none⟩ (.int .u8 ((h / 2 ^ c % 256 : Nat) : Int))) ∧ OutRel (wr.setCell ⟨M, k, none⟩ (.int .u8 ((h / 2 ^ c % 256 : Nat) : Int))) M HH (k + 1)) := Lib.hid (by
            have hm : Mod (· = M) wr (wr.setCell ⟨M, k, none⟩ (.int .u8 ((h / 2 ^ c % 256 : Nat) : Int))) := (Mod.refl (· = M) _).setCell (p := ⟨M, k, none⟩) (fun _ => rfl) _
            refine ⟨hS.kept hm (by omega), hR.kept hm (by omega), hM.trans hm (by intro i hi h; omega), _, hRA.set k _, by simpa using hA, ?_⟩
            rw [take_set_succ _ _ _ (by omega), hAt, outTo_succ, getD_at _ _ (by omega), ← hh, ← hc])
          clear hh hc hy hS hR hM hRA hAt
          go_wp2_with fail
          go_roundw
          case rel => exact ⟨k + 1, by omega, by go_num, Hr.out.1, Hr.out.2.1, Hr.out.2.2.1, Hr.out.2.2.2⟩
          case measure => simp [intOf]; omega
        · obtain rfl : k = 32 := by omega
          have hAe : A = sha (nats ss.flatten) := by rw [Hsha.out, ← hAt, List.take_of_length_le (by omega)]
          obtain ⟨Z, hZ⟩ : ∃ Z, Z = sha (nats ss.flatten) := ⟨_, rfl⟩
          rw [hAe, ← hZ] at hRA hA
          have h1 := nums_one .u8 Z
          have hM2 : Mod (fun _ => False) w (wr.setRow w.heap.size (nums .u8 Z).toArray) := (hM.setRow (g := w.heap.size) _).drop_new (Nat.le_refl _)
          have hg2 := setRow_heap wr w.heap.size _ (nums .u8 Z).toArray _ _ hR
          have HZ := Lib.hid hZ
          have HM2 := Lib.hid hM2
          have Hg2 := Lib.hid hg2
          clear hZ hM2 hg2 hAt hAe hS hM
          go_wp2_with (first | (refine wpList_load_row rfl 36 (.tmp 6) rfl M rfl 36 (nums .u8 Z).toArray (0, 0) _ hRA Tryz.underlying36 rfl ?s1 ?_) | (refine wpList_store_row rfl rfl 36 (.tmp 2) (.tmp 36) rfl w.heap.size rfl 36 (nums .u8 (List.replicate 32 0)).toArray (nums .u8 Z).toArray rfl hR ?s2 ?s3 ?s4 ?_))
          case s1 => rw [List.size_toArray, nums_len, hA]; kernel_rfl
          case s2 => simp [nums_len, hA]
          case s3 => rw [List.size_toArray, nums_len, hA]; kernel_rfl
          case s4 => simpa using h1
          refine bodyPost_ret (v := .agg (nums .u8 Z).toArray) (results_cell_row Tryz.results37 _ _ w.heap.size 36 (nums .u8 Z).toArray (0, 0) _ rfl Hg2.out Tryz.underlying36 rfl ?_) rfl ⟨by rw [← HZ.out], HM2.out⟩
          rw [List.size_toArray, nums_len, hA]; kernel_rfl
end Go.Proofs.YtjjkobbajbbgdaaGreatDoor

namespace Go.Proofs.YtjjkobbajbbgdaaGreatDoor
open Go.RowKit

/-- The letter of a digit. -/
def hexd (n : Nat) : Nat := if n < 10 then 48 + n else 87 + n
def hexs (A : List Nat) : List Nat := A.flatMap fun x => [hexd (x / 16), hexd (x % 16)]
theorem hexs_len (A : List Nat) : (hexs A).length = 2 * A.length := by
  induction A with
  | nil => rfl
  | cons x l ih =>
    have h : hexs (x :: l) = [hexd (x / 16), hexd (x % 16)] ++ hexs l := rfl
    rw [h, List.length_append, ih]; simp; omega
theorem hexs_snoc (A : List Nat) (x : Nat) : hexs (A ++ [x]) = hexs A ++ [hexd (x / 16), hexd (x % 16)] := by simp [hexs]
theorem hexd_lt (n : Nat) (h : n < 16) : hexd n < 256 := by unfold hexd; split <;> omega

def bytesOf (A : List Nat) : ByteArray := ⟨(A.map UInt8.ofNat).toArray⟩

theorem digits_at (n : Nat) (h : n < 16) (w : World) :
    (Instr.index 9 (.string ⟨#[48, 49, 50, 51, 52, 53, 54, 55, 56, 57, 97, 98, 99, 100, 101, 102]⟩) (.int .u8 (n : Int))).run Tryz.prog w = .ok (.int .u8 (hexd n : Int)) w := by
  have hn : n = 0 ∨ n = 1 ∨ n = 2 ∨ n = 3 ∨ n = 4 ∨ n = 5 ∨ n = 6 ∨ n = 7 ∨ n = 8 ∨ n = 9 ∨ n = 10 ∨ n = 11 ∨ n = 12 ∨ n = 13 ∨ n = 14 ∨ n = 15 := by omega
  rcases hn with rfl | rfl | rfl | rfl | rfl | rfl | rfl | rfl | rfl | rfl | rfl | rfl | rfl | rfl | rfl | rfl <;> (refine Eq.trans ?_ rfl; kernel_rfl)

theorem low4 (x : Nat) (h : x < 256) : bits BinOp.and IntKind.u8 (x : Int) 15 = ((x % 16 : Nat) : Int) := by
  rw [show (15 : Int) = ((15 : Nat) : Int) from rfl, u8_and_nat _ _ h (by omega), Nat.and_two_pow_sub_one_eq_mod _ 4]

theorem take_set_two (T : List Nat) (k x y : Nat) (h : k + 1 < T.length) : ((T.set k x).set (k + 1) y).take (k + 2) = T.take k ++ [x, y] := by
  rw [show k + 2 = (k + 1) + 1 from rfl, take_set_succ _ _ _ (by simpa using h), take_set_succ _ _ _ (by omega)]; simp

def HexRel (M : Nat) (A : List Nat) (k : Nat) (wr : World) : Prop :=
  ∃ T, RowAt .u8 116 wr M T ∧ T.length = 64 ∧ T.take (2 * k) = hexs (A.take k)

end Go.Proofs.YtjjkobbajbbgdaaGreatDoor

namespace Go.Proofs.YtjjkobbajbbgdaaGreatDoor
open Go.RowKit

theorem outTo_lt (H : List Nat) (k : Nat) : ∀ x ∈ outTo H k, x < 256 := by
  intro x hx
  obtain ⟨i, _, rfl⟩ := List.mem_map.1 hx
  exact Nat.mod_lt _ (by decide)
theorem sha_lt (m : List Nat) : ∀ x ∈ sha m, x < 256 := outTo_lt _ _

theorem bytesOf_size (A : List Nat) : (bytesOf A).size = A.length := by simp [bytesOf, ByteArray.size]

end Go.Proofs.YtjjkobbajbbgdaaGreatDoor

namespace Go.Proofs.YtjjkobbajbbgdaaGreatDoor
open Go.RowKit

/-- The digest's bytes. -/
def shaB (s : List UInt8) : List UInt8 := (sha (nats s)).map UInt8.ofNat
theorem shaB_len (s : List UInt8) : (shaB s).length = 32 := by simp [shaB, sha_len]
theorem nums_vals (A : List Nat) (h : ∀ x ∈ A, x < 256) : nums .u8 A = vals (A.map UInt8.ofNat) := by
  simp only [nums, vals, List.map_map]
  refine List.map_congr_left fun x hx => ?_
  simp only [Function.comp_def]
  rw [UInt8.toNat_ofNat_of_lt' (h x hx)]
theorem vals_nums (s : List UInt8) : vals s = nums .u8 (nats s) := by simp [vals, nums, nats]
theorem nats_lt (s : List UInt8) : ∀ x ∈ nats s, x < 256 := by intro x hx; obtain ⟨c, _, rfl⟩ := List.mem_map.1 hx; exact c.toNat_lt
theorem nats_ofNat (s : List UInt8) : (nats s).map UInt8.ofNat = s := by simp [nats, Function.comp_def]
theorem sha_vals (s : List UInt8) : nums .u8 (sha (nats s)) = vals (shaB s) := nums_vals _ (sha_lt _)
theorem sha_bytes (s : List UInt8) : bytesOf (sha (nats s)) = ⟨(shaB s).toArray⟩ := rfl

theorem StrsAt.old {w w' : World} {v : Value} {ss : List (List UInt8)} (h : StrsAt w v ss) (hb : Below w.heap.size w w') : StrsAt w' v ss := by
  obtain ⟨ao, cap, e, hc⟩ := h
  refine ⟨ao, cap, e, fun j hj => ?_⟩
  obtain ⟨bs, off, e1, hlt, c⟩ := hc j hj
  exact ⟨bs, off, e1, Nat.lt_of_lt_of_le hlt hb.size, (World.cell?_of_block (hb.block bs hlt)).trans c⟩
/-- Texts that were just laid side by side. -/
theorem StrsAt.made (w : World) (T : TypeId) (ss : List (List UInt8)) : StrsAt (w.alloc (.cells (ss.map fun s => Value.string ⟨s.toArray⟩).toArray T)) (.slice (some ⟨w.heap.size, 0, none⟩) ss.length ss.length) ss := by
  refine ⟨_, _, rfl, fun j hj => ⟨w.heap.size, 0, rfl, by simp, ?_⟩⟩
  rw [cell_of_row _ w.heap.size _ _ T (0, 0) (heap_alloc_new _ _)]
  simp [hj]
theorem TabAt.old {w w' : World} (h : TabAt w) (hb : Below w.heap.size w w') : TabAt w' := h.kept (Mod.of_below hb) (by have := h.lt; omega)

/-- Block g is a name. -/
def IdAt (w : World) (g : Nat) (s : List UInt8) : Prop := s.length = 32 ∧ w.heap[g]? = some (.cells (vals s).toArray 36 (0, 0))
theorem IdAt.lt {w : World} {g : Nat} {s : List UInt8} (h : IdAt w g s) : g < w.heap.size := (Array.getElem?_eq_some_iff.1 h.2).1
theorem IdAt.old {w w' : World} {g : Nat} {s : List UInt8} (h : IdAt w g s) (hb : Below w.heap.size w w') : IdAt w' g s := ⟨h.1, (hb.block g h.lt).trans h.2⟩
theorem vals_one (s : List UInt8) : ∀ v ∈ vals s, v.oneCell' = true := by
  intro v hv; obtain ⟨x, _, rfl⟩ := List.mem_map.1 hv; rfl
theorem vals_get (s : List UInt8) (i : Nat) (h : i < s.length) : (vals s)[i]? = some (.int .u8 (s[i].toNat : Int)) := by simp [vals, h]
theorem IdAt.cell {w : World} {g : Nat} {s : List UInt8} (h : IdAt w g s) (i : Nat) (hi : i < s.length) : w.cell? ⟨g, i, none⟩ = some (.int .u8 (s[i].toNat : Int)) := by
  rw [cell_of_row w g i _ 36 (0, 0) h.2]; simpa using vals_get s i hi
/-- A name's bytes as a text. -/
theorem IdAt.text {w : World} {g : Nat} {s : List UInt8} (h : IdAt w g s) : (convert 66 9 (.slice (some ⟨g, 0, none⟩) 32 32)).run Tryz.prog w = .ok (.string ⟨s.toArray⟩) w := by
  have hl := h.1
  rw [run_convert_bytes_arg w 66 5 Tryz.underlying66 Tryz.underlying5 g 0 32 32 (s.map fun x => (x.toNat : Int)) (by simpa using hl) (fun i hi => by
    rw [Nat.zero_add, h.cell i (by omega)]
    simp [List.getD, hl, hi]) 9 Tryz.underlying9]
  simp [strOfNums, Function.comp_def]
/-- Nought's name. -/
def zid : List UInt8 := List.replicate 32 0
theorem zid_run (w : World) : (zeroValue 36).run Tryz.prog w = .ok (.agg (vals zid).toArray) w := by kernel_rfl
theorem zid_len : (vals zid).toArray.size = 32 := rfl
theorem id_size {s : List UInt8} (h : s.length = 32) : (vals s).toArray.size = 32 := by simp [vals_len, h]
theorem id_info {s : List UInt8} (h : s.length = 32) : (Tryz.prog.info? 36).map (·.size) = some (vals s).toArray.size := by rw [id_size h]; kernel_rfl
theorem id_one (s : List UInt8) : ∀ v ∈ (vals s).toArray.toList, v.oneCell' = true := by simpa using vals_one s
/-- A new variable that a name is stored into. -/
theorem IdAt.stored {w : World} {s : List UInt8} {A : Array Value} (h : s.length = 32) : IdAt ((w.alloc (.cells A 36 (0, 0))).setRow w.heap.size (vals s).toArray) w.heap.size s :=
  ⟨h, setRow_heap _ _ _ _ _ _ (heap_alloc_new _ _)⟩
theorem stored_below {w : World} {A C : Array Value} {T : TypeId} : Below w.heap.size w ((w.alloc (.cells A T (0, 0))).setRow w.heap.size C) :=
  ((((Mod.refl (fun _ => False) w).alloc (.cells A T (0, 0))).setRow (g := w.heap.size) C).drop_new (Nat.le_refl _)).to_below (Nat.le_refl _) (fun _ _ h => h)
/-- Two names are held against each other. -/
theorem id_eql (x y : List UInt8) (hx : x.length = 32) (hy : y.length = 32) (w : World) : (binOp .eql 36 (.agg (vals x).toArray) (.agg (vals y).toArray)).run Tryz.prog w = .ok (.bool (x == y)) w :=
  run_eql_bytes w 36 5 32 Tryz.underlying36 Tryz.underlying5 Tryz.sizeOf5 x y hx hy

theorem dofB (v : Value) (ss : List (List UInt8)) (w : World) (hv : StrsAt w v ss) (hl : ss.flatten.length ≤ 274877906944) (hn : (ss.length : Int) ≤ 1099511627776) (hT : TabAt w) :
    Calls Tryz.prog 37 #[v] w fun r w' => r = .returned (.agg (vals (shaB ss.flatten)).toArray) ∧ Below w.heap.size w w' :=
  (dof_any v ss w hv hl hn hT).mono fun _ _ ⟨h1, h2⟩ => ⟨by rw [h1, sha_vals], h2.to_below (Nat.le_refl _) (fun _ _ h => h)⟩

end Go.Proofs.YtjjkobbajbbgdaaGreatDoor

namespace Go.Proofs.YtjjkobbajbbgdaaGreatDoor
open Go.RowKit

/-- The name that begins with s. -/
def idL (s : List UInt8) : List UInt8 := (s ++ zid).take 32
theorem idL_len (s : List UInt8) : (idL s).length = 32 := by simp [idL, zid]
theorem idL_self (s : List UInt8) (h : s.length = 32) : idL s = s := by unfold idL; rw [← h, List.take_left]
theorem idL_cut (s : List UInt8) : s.take 32 ++ zid.drop (min s.length 32) = idL s := by
  unfold idL zid
  rw [List.take_append, List.take_replicate, List.drop_replicate]
  congr 1
  congr 1
  omega
theorem wpList_copyS {P : Program} {w : World} {ops : Array Oper} {rest : List Oper} {o : Oper} {a : Act} {Q : Exit → Act → World → Prop} (hgd : o.guard = none) (d s : Operand) (t t' : TypeId)
    (ho : o.op = .call { callee := .builtin .copy, args := #[d, s], argTypes := #[t, t'] }) (v u : Value) (hd : a.eval d = v) (hs : a.eval s = u) {v' : Value} {w' : World}
    (hr : (Builtin.copy_ #[t, t'] o.type #[v, u]).run P w = .ok v' w') (h : wpList P ops Q rest (a.put o.dst v') w') : wpList P ops Q (o :: rest) a w := by
  refine wpList_plain hgd fun K hK => ?_
  unfold Oper.wp
  simp [execOp, ho, resolve, invoke, builtin, hd, hs, hr, Result.andThen]
  exact hK _ _ h
set_option maxRecDepth 20000 in
/-- A text is copied into a name. -/
theorem run_copy_text (s : List UInt8) (g : Nat) (ty : TypeId) (w : World) (h : IdAt w g zid) :
    (Builtin.copy_ #[66, 9] ty #[.slice (some ⟨g, 0, none⟩) 32 32, .string ⟨s.toArray⟩]).run Tryz.prog w = .ok (goInt ((min s.length 32 : Nat) : Int)) (w.setRow g (vals (idL s)).toArray) := by
  have hst := run_storeCells_at Tryz.prog g 0 36 (vals (s.take 32)) 0 (vals zid).toArray w h.2 (by simp [vals_len, zid]; omega) (vals_one _)
  have hsz : (sizeOf 5).run Tryz.prog w = .ok 1 w := Tryz.sizeOf5 w
  have hl : (ByteArray.mk s.toArray).size = s.length := rfl
  have hf : (Builtin.firstCells 1 (min s.length 32) (.string ⟨s.toArray⟩)).run Tryz.prog w = .ok (vals (s.take 32)).toArray w := by
    unfold Builtin.firstCells
    rw [Sem.run_pure, ByteArray.extract_mk]
    congr 1
    apply Array.ext'
    simp [vals, List.take_take]
    omega
  have he : ((vals zid).toArray.toList.take (0 + 0) ++ vals (s.take 32) ++ (vals zid).toArray.toList.drop (0 + 0 + (vals (s.take 32)).length)).toArray = (vals (idL s)).toArray := by
    rw [← idL_cut s, vals_app]
    congr 1
    simp [vals_len, vals, List.map_drop]
    omega
  rw [he] at hst
  unfold Builtin.copy_
  obtain ⟨n, hn⟩ : ∃ n, n = min s.length 32 := ⟨_, rfl⟩
  have hmin : Nat.min s.length 32 = n := hn.symm
  rw [← hn] at hf ⊢
  clear hn he
  simp [run_underlying Tryz.underlying66, Builtin.lenOf, hl, hsz, hmin, hf, hst]

set_option maxRecDepth 20000 in
set_option maxHeartbeats 1000000 in
theorem name_any (s : List UInt8) (w : World) :
    Calls Tryz.prog 90 #[.string ⟨s.toArray⟩] w fun r w' => r = .returned (.agg (vals (idL s)).toArray) ∧ Below w.heap.size w w' := by
  have hz := zid_run
  have hzs := zid_len
  have hidl := idL_len s
  have q2 : (vals zid).toArray.size = (vals (idL s)).toArray.size := hzs.trans (id_size hidl).symm
  have q3 := id_info hidl
  have q4 := id_one (idL s)
  have hA : IdAt ((w.alloc (.cells (vals zid).toArray 36)).alloc (.cells (vals zid).toArray 36)) (w.heap.size + 1) zid := ⟨rfl, by have := heap_alloc_new (w.alloc (.cells (vals zid).toArray 36)) (.cells (vals zid).toArray 36); simpa using this⟩
  have hcp := fun ty => run_copy_text s (w.heap.size + 1) ty _ hA
  obtain ⟨Y, hY⟩ : ∃ Y, Y = (vals (idL s)).toArray := ⟨_, rfl⟩
  rw [← hY] at q2 q3 q4 hcp ⊢
  have hYs : Y.size = 32 := by rw [hY]; exact id_size hidl
  clear hY hidl
  generalize (vals zid).toArray = Z at hz hzs q2 hA hcp
  have hb0 : Below w.heap.size w ((w.alloc (.cells Z 36)).alloc (.cells Z 36)) := ((Below.refl _ w).alloc (Nat.le_refl _) _).alloc (by simp) _
  have h0 : ((w.alloc (.cells Z 36)).alloc (.cells Z 36)).heap[w.heap.size]? = some (.cells Z 36 (0, 0)) := by
    rw [Below.heap_alloc _ _ _ (by simp)]; exact heap_alloc_new w _
  have h1 : ((w.alloc (.cells Z 36)).alloc (.cells Z 36)).heap[w.heap.size + 1]? = some (.cells Z 36 (0, 0)) := by
    have := heap_alloc_new (w.alloc (.cells Z 36)) (.cells Z 36); simpa using this
  obtain ⟨W, hW⟩ : ∃ W, W = (w.alloc (.cells Z 36)).alloc (.cells Z 36) := ⟨_, rfl⟩
  rw [← hW] at hb0 h0 h1 hcp
  have k0 : (W.setRow (w.heap.size + 1) Y).heap[w.heap.size]? = some (.cells Z 36 (0, 0)) := (setRow_other W _ _ Y (by omega)).trans h0
  have k1 : (W.setRow (w.heap.size + 1) Y).heap[w.heap.size + 1]? = some (.cells Y 36 (0, 0)) := setRow_heap W _ _ Y _ _ h1
  have kb : Below w.heap.size w (W.setRow (w.heap.size + 1) Y) := hb0.trans (((Mod.refl (fun _ => False) W).setRow Y).to_below (by have := hb0.size; exact this) (by rintro k hk (h | h) <;> first | exact h | omega))
  obtain ⟨W2, hW2⟩ : ∃ W2, W2 = W.setRow (w.heap.size + 1) Y := ⟨_, rfl⟩
  rw [← hW2] at k0 k1 kb hcp
  have l0 : (W2.setRow w.heap.size Y).heap[w.heap.size]? = some (.cells Y 36 (0, 0)) := setRow_heap W2 _ _ Y _ _ k0
  have lb : Below w.heap.size w (W2.setRow w.heap.size Y) := kb.trans (((Mod.refl (fun _ => False) W2).setRow Y).to_below (by have := kb.size; exact this) (by rintro k hk (h | h) <;> first | exact h | omega))
  have L0 := Lib.hid l0
  have LB := Lib.hid lb
  have HS := Lib.hid hYs
  clear hW2 l0 lb kb hb0 h0 h1 hA hzs hYs
  go_enter Tryz.func90, Tryz.ntmps90
  go_wp2_with (first | (refine wpList_copyS rfl (.tmp 4) (.tmp 5) 66 9 rfl _ _ rfl rfl (by rw [← hW]; exact hcp _) ?_; clear hcp hW) | (refine wpList_load_row rfl 36 (.tmp 3) rfl (w.heap.size + 1) rfl 36 Y (0, 0) _ k1 Tryz.underlying36 rfl q3 ?_) | (refine wpList_store_row rfl rfl 36 (.tmp 2) (.tmp 7) rfl w.heap.size rfl 36 Z Y rfl k0 q2 q3 q4 ?_))
  exact bodyPost_ret (v := .agg Y) (results_cell_row Tryz.results90 _ _ w.heap.size 36 Y (0, 0) _ rfl L0.out Tryz.underlying36 rfl q3) rfl ⟨rfl, LB.out⟩

end Go.Proofs.YtjjkobbajbbgdaaGreatDoor

namespace Go.Proofs.YtjjkobbajbbgdaaGreatDoor
open Go

/-- How many of the first n are not listed yet. -/
def unl (L : Array Bool) : Nat → Nat
  | 0 => 0
  | n + 1 => unl L n + (if L.getD n true then 0 else 1)
theorem unl_le (L : Array Bool) : ∀ n, unl L n ≤ n
  | 0 => Nat.le_refl _
  | n + 1 => by have := unl_le L n; simp only [unl]; split <;> omega
theorem set_self (L : Array Bool) (i : Nat) : (L.setIfInBounds i true).getD i true = true := by
  by_cases h : i < L.size
  · simp [h]
  · simp [h]
theorem unl_set (L : Array Bool) (i : Nat) (hi : L.getD i true = false) : ∀ n, unl (L.setIfInBounds i true) n + (if i < n then 1 else 0) = unl L n
  | 0 => rfl
  | n + 1 => by
    have ih := unl_set L i hi n
    simp only [unl]
    by_cases h : n = i
    · subst h
      rw [set_self, hi]
      simp at ih ⊢
      exact ih
    · rw [getD_set_ne true (Ne.symm h)]
      generalize (if L.getD n true = true then 0 else 1) = z
      by_cases h2 : i < n
      · rw [if_pos h2] at ih; rw [if_pos (by omega)]; omega
      · rw [if_neg h2] at ih; rw [if_neg (by omega)]; omega
theorem unl_pos (L : Array Bool) : ∀ n i, i < n → L.getD i true = false → 0 < unl L n
  | n + 1, i, h, hi => by
    simp only [unl]
    by_cases e : i = n
    · subst e; rw [hi]; simp
    · have := unl_pos L n i (by omega) hi; omega

/-- What is in the slots that the operations know: those of the list. -/
def AllV (V : Tmp → Value → World → Prop) (a : Act) (w : World) : List Tmp → Prop
  | [] => True
  | t :: r => V t (a.eval (.tmp t)) w ∧ AllV V a w r
theorem AllV.of {V : Tmp → Value → World → Prop} {a : Act} {w : World} : ∀ {l : List Tmp}, (∀ t ∈ l, V t (a.eval (.tmp t)) w) → AllV V a w l
  | [], _ => trivial
  | t :: r, h => ⟨h t (by simp), AllV.of (fun u hu => h u (by simp [hu]))⟩

/-- The slots whose values an operation waits for. -/
def waits (md : Region.Mode) (ops : Array Oper) (o : Oper) : List Tmp :=
  (o.after.toList.filter (Region.binds md)).filterMap fun e => (ops[e.on]?).bind (·.dst)

structure Agree (ops : Array Oper) (a0 a : Act) : Prop where
  size : a.tmps.size = a0.tmps.size
  defers : a.defers = a0.defers
  same : ∀ t, (∀ (i : Nat) (o : Oper), ops[i]? = some o → o.dst ≠ some t) → a.eval (.tmp t) = a0.eval (.tmp t)

def drawOk (ops : Array Oper) (N : Nat) : Bool :=
  (List.range ops.size).all fun i => match ops[i]? with
    | none => true
    | some o => o.after.all (fun e => decide (e.on < i)) && (match o.dst with
      | none => true
      | some d => decide (d < N) && (List.range ops.size).all fun j => j == i || (match ops[j]? with | some p => p.dst != some d | none => true))

structure DrawOk (ops : Array Oper) (N : Nat) : Prop where
  before : ∀ (i : Nat) (o : Oper), ops[i]? = some o → ∀ e ∈ o.after, e.on < i
  room : ∀ (i : Nat) (o : Oper) (d : Tmp), ops[i]? = some o → o.dst = some d → d < N
  apart : ∀ (i j : Nat) (o p : Oper) (d : Tmp), ops[i]? = some o → ops[j]? = some p → j ≠ i → o.dst = some d → p.dst ≠ some d
theorem drawOk_spec {ops : Array Oper} {N : Nat} (h : drawOk ops N = true) : DrawOk ops N := by
  have key : ∀ (i : Nat) (o : Oper), ops[i]? = some o → o.after.all (fun e => decide (e.on < i)) = true ∧ (match o.dst with
      | none => true
      | some d => decide (d < N) && (List.range ops.size).all fun j => j == i || (match ops[j]? with | some p => p.dst != some d | none => true)) = true := by
    intro i o ho
    have hlt : i < ops.size := (Array.getElem?_eq_some_iff.1 ho).1
    have := List.all_eq_true.1 h i (List.mem_range.2 hlt)
    simp only [ho, Bool.and_eq_true] at this
    exact this
  refine ⟨fun i o ho e he => ?_, fun i o d ho hd => ?_, fun i j o p d ho hp hj hd hpd => ?_⟩
  · have := Array.all_eq_true_iff_forall_mem.1 (key i o ho).1 e he
    exact of_decide_eq_true this
  · have := (key i o ho).2
    rw [hd] at this
    simp only [Bool.and_eq_true] at this
    exact of_decide_eq_true this.1
  · have := (key i o ho).2
    rw [hd] at this
    simp only [Bool.and_eq_true] at this
    have h2 := List.all_eq_true.1 this.2 j (List.mem_range.2 (Array.getElem?_eq_some_iff.1 hp).1)
    simp only [hp, Bool.or_eq_true, beq_iff_eq, hj, false_or, bne_iff_ne, ne_eq] at h2
    exact h2 hpd

/-- What one operation owes. -/
def Owes (P : Program) (md : Region.Mode) (ops : Array Oper) (Q : Exit → Act → World → Prop) (V : Tmp → Value → World → Prop) (G : World → Prop) (a0 : Act) (i : Nat) (o : Oper) : Prop :=
  ∀ a w, Agree ops a0 a → G w → AllV V a w (waits md ops o) →
    wpOp P ops Q i (fun a' w' => ∃ v, a' = a.put o.dst v ∧ (∀ t, o.dst = some t → V t v w') ∧ G w' ∧ ∀ t x, V t x w → V t x w') a w

theorem eval_put_same {a : Act} {d : Tmp} (h : d < a.tmps.size) (v : Value) : (a.put (some d) v).eval (.tmp d) = v := by
  simp [Act.put, Act.eval, h]
theorem size_put (a : Act) (d : Option Tmp) (v : Value) : (a.put d v).tmps.size = a.tmps.size := by
  cases d <;> simp [Act.put]
theorem defers_put (a : Act) (d : Option Tmp) (v : Value) : (a.put d v).defers = a.defers := by
  cases d <;> rfl

section
variable {P : Program} {ops : Array Oper} {Q : Exit → Act → World → Prop} {md : Region.Mode} {V : Tmp → Value → World → Prop} {G : World → Prop} {a0 : Act}

theorem ready_some (hok : DrawOk ops a0.tmps.size) {L : Array Bool} (hL : L.size = ops.size) : ∀ i, i < ops.size → L.getD i true = false → ∃ j, j ∈ Region.ready md ops L := by
  intro i
  induction i using Nat.strongRecOn with
  | ind i ih =>
    intro hi hun
    have ho : ops[i]? = some ops[i] := Array.getElem?_eq_getElem hi
    by_cases h : ∀ e ∈ ops[i].after, Region.binds md e = true → L.getD e.on false = true
    · exact ⟨i, mem_ready.2 ⟨hun, _, ho, h⟩⟩
    · have ⟨e, he⟩ := Classical.not_forall.1 h
      have ⟨he1, he2⟩ := Classical.not_imp.1 he
      have ⟨hb, hf⟩ := Classical.not_imp.1 he2
      have hlt := hok.before i _ ho e he1
      have hel : e.on < L.size := by omega
      refine ih e.on hlt (by omega) ?_
      simp [hel] at hf ⊢
      exact hf

theorem wpAny_vals (hok : DrawOk ops a0.tmps.size) (step : ∀ (i : Nat) (o : Oper), ops[i]? = some o → Owes P md ops Q V G a0 i o)
    (fin : ∀ a w, Agree ops a0 a → G w → (∀ (i : Nat) (o : Oper) (t : Tmp), ops[i]? = some o → o.dst = some t → V t (a.eval (.tmp t)) w) → Q .normal a w) :
    ∀ (fuel : Nat) (L : Array Bool) (a : Act) (w : World), unl L ops.size ≤ fuel → L.size = ops.size → Agree ops a0 a → G w →
      (∀ (i : Nat) (o : Oper) (t : Tmp), ops[i]? = some o → L.getD i true = true → o.dst = some t → V t (a.eval (.tmp t)) w) → wpAny P md ops Q fuel L a w := by
  have allL : ∀ L : Array Bool, L.size = ops.size → Region.ready md ops L = [] → ∀ (i : Nat) (o : Oper), ops[i]? = some o → L.getD i true = true := by
    intro L hL hr i o ho
    cases hc : L.getD i true with
    | true => rfl
    | false =>
      obtain ⟨j, hj⟩ := ready_some (md := md) hok hL i (Array.getElem?_eq_some_iff.1 ho).1 hc
      rw [hr] at hj; cases hj
  intro fuel
  induction fuel with
  | zero =>
    intro L a w hu hL ha hG hv
    have hr : Region.ready md ops L = [] := by
      apply List.eq_nil_iff_forall_not_mem.2
      intro j hj
      obtain ⟨hun, o, ho, _⟩ := mem_ready.1 hj
      have := unl_pos L ops.size j (Array.getElem?_eq_some_iff.1 ho).1 hun
      omega
    exact ⟨hr, fin a w ha hG (fun i o t ho ht => hv i o t ho (allL L hL hr i o ho) ht)⟩
  | succ fuel ih =>
    intro L a w hu hL ha hG hv
    refine ⟨fun hr => fin a w ha hG (fun i o t ho ht => hv i o t ho (allL L hL hr i o ho) ht), fun i hi => ?_⟩
    obtain ⟨hun, o, ho, hall⟩ := mem_ready.1 hi
    have hil : i < ops.size := (Array.getElem?_eq_some_iff.1 ho).1
    have hw : AllV V a w (waits md ops o) := AllV.of (by
      intro t ht
      unfold waits at ht
      obtain ⟨e, he, hd⟩ := List.mem_filterMap.1 ht
      obtain ⟨he1, he2⟩ := List.mem_filter.1 he
      cases hj : ops[e.on]? with
      | none => rw [hj] at hd; cases hd
      | some p =>
        rw [hj] at hd
        have hl := hall e (by simpa using he1) he2
        have hel : e.on < L.size := by rw [hL]; exact (Array.getElem?_eq_some_iff.1 hj).1
        exact hv e.on p t hj (by simp [hel] at hl ⊢; exact hl) hd)
    refine wpOp_mono (fun a' w' h => ?_) (step i o ho a w ha hG hw)
    obtain ⟨v, rfl, hvi, hG', hst⟩ := h
    refine ih _ _ _ ?_ (by simpa using hL) ?_ hG' ?_
    · have := unl_set L i hun ops.size
      rw [if_pos hil] at this; omega
    · refine ⟨by rw [size_put]; exact ha.size, by rw [defers_put]; exact ha.defers, fun t ht => ?_⟩
      rw [Act.eval_put (fun d hd e => ht i o ho (by cases e; exact hd))]
      exact ha.same t ht
    · intro j p t hp hl ht
      by_cases e : j = i
      · subst e
        rw [ho] at hp; cases hp
        rw [ht, eval_put_same (by rw [ha.size]; exact hok.room j o t ho ht)]
        exact hvi t ht
      · rw [Act.eval_put (fun d hd e2 => by cases e2; exact hok.apart i j o p t ho hp e hd ht)]
        rw [getD_set_ne true (Ne.symm e)] at hl
        exact hst _ _ (hv j p t hp hl ht)

/-- The obligations one after the other. -/
def OweAll (P : Program) (md : Region.Mode) (ops : Array Oper) (Q : Exit → Act → World → Prop) (V : Tmp → Value → World → Prop) (G : World → Prop) (a0 : Act) : Nat → List Oper → Prop
  | _, [] => True
  | k, o :: r => Owes P md ops Q V G a0 k o ∧ OweAll P md ops Q V G a0 (k + 1) r
theorem OweAll.get : ∀ {l : List Oper} {k : Nat}, OweAll P md ops Q V G a0 k l → ∀ (i : Nat) (o : Oper), l[i]? = some o → Owes P md ops Q V G a0 (k + i) o
  | _ :: _, k, h, 0, o, hi => by cases hi; exact h.1
  | _ :: r, k, h, i + 1, o, hi => by
    have := OweAll.get h.2 i o (by simpa using hi)
    rwa [show k + 1 + i = k + (i + 1) by omega] at this
  | [], _, _, i, o, hi => by simp at hi
theorem OweAll.cons {k : Nat} {o : Oper} {r : List Oper} (h : Owes P md ops Q V G a0 k o) (h2 : OweAll P md ops Q V G a0 (k + 1) r) : OweAll P md ops Q V G a0 k (o :: r) := ⟨h, h2⟩
theorem OweAll.nil {k : Nat} : OweAll P md ops Q V G a0 k [] := trivial

/-- A region that draws its order. -/
theorem wp_region_vals {id : Nat} {w : World} (V : Tmp → Value → World → Prop) (G : World → Prop) (N : Nat) (hm : P.follows .mixedOrders = true) (hok : drawOk ops N = true) (hN : a0.tmps.size = N) (hG : G w.drew)
    (step : OweAll P .any ops Q V G a0 0 ops.toList)
    (fin : ∀ a w, Agree ops a0 a → G w → (∀ (i : Nat) (o : Oper) (t : Tmp), ops[i]? = some o → o.dst = some t → V t (a.eval (.tmp t)) w) → Q .normal a w) : (Code.region id ops true).wp P Q a0 w := by
  subst hN
  have hok := drawOk_spec hok
  refine wp_region_any hm (wpAny_vals hok (V := V) (G := G) (fun i o ho => ?_) fin ops.size _ a0 _ (unl_le _ _) (by simp) ⟨rfl, rfl, fun _ _ => rfl⟩ hG ?_)
  · have := step.get i o (by simpa using ho)
    rwa [Nat.zero_add] at this
  · intro i o t ho hl _
    have hlt := (Array.getElem?_eq_some_iff.1 ho).1
    simp [hlt] at hl

/-- The slots of the operations. -/
def dsts (ops : Array Oper) : List Tmp := ops.toList.filterMap (·.dst)
def puts (f : Tmp → Value) (l : List Tmp) (b : Act) : Act := l.foldl (fun b t => b.put (some t) (f t)) b
theorem puts_spec (f : Tmp → Value) : ∀ (l : List Tmp) (b : Act), (∀ t ∈ l, t < b.tmps.size) →
    (puts f l b).tmps.size = b.tmps.size ∧ (puts f l b).defers = b.defers ∧ ∀ t, (puts f l b).eval (.tmp t) = if t ∈ l then f t else b.eval (.tmp t)
  | [], b, _ => ⟨rfl, rfl, fun t => by simp [puts]⟩
  | u :: r, b, h => by
    have ih := puts_spec f r (b.put (some u) (f u)) (fun t ht => by rw [size_put]; exact h t (by simp [ht]))
    refine ⟨ih.1.trans (size_put _ _ _), ih.2.1.trans (defers_put _ _ _), fun t => ?_⟩
    have e : puts f (u :: r) b = puts f r (b.put (some u) (f u)) := rfl
    rw [e, ih.2.2 t]
    by_cases h1 : t ∈ r
    · rw [if_pos h1, if_pos (by simp [h1])]
    · rw [if_neg h1]
      by_cases h2 : t = u
      · subst h2; rw [eval_put_same (h t (by simp)), if_pos (by simp)]
      · rw [Act.eval_put (fun d hd e2 => by cases hd; cases e2; exact h2 rfl), if_neg (by simp [h1, h2])]
theorem act_ext {a b : Act} (hs : a.tmps.size = b.tmps.size) (hd : a.defers = b.defers) (h : ∀ t, a.eval (.tmp t) = b.eval (.tmp t)) : a = b := by
  obtain ⟨ta, da⟩ := a
  obtain ⟨tb, db⟩ := b
  have : ta = tb := by
    apply Array.ext hs
    intro i h1 h2
    have := h i
    simpa [Act.eval, h1, h2] using this
  subst this
  cases hd
  rfl
theorem Agree.puts {a : Act} (ha : Agree ops a0 a) (hok : DrawOk ops a0.tmps.size) : a = puts (fun t => a.eval (.tmp t)) (dsts ops) a0 := by
  have hm : ∀ t ∈ dsts ops, ∃ (i : Nat) (o : Oper), ops[i]? = some o ∧ o.dst = some t := by
    intro t ht
    obtain ⟨o, ho, hd⟩ := List.mem_filterMap.1 ht
    obtain ⟨i, hi, e⟩ := List.getElem_of_mem ho
    refine ⟨i, o, ?_, hd⟩
    rw [← e]
    simp at hi
    simp [hi]
  have hp := puts_spec (fun t => a.eval (.tmp t)) (dsts ops) a0 (fun t ht => by obtain ⟨i, o, hi, hd⟩ := hm t ht; exact hok.room i o t hi hd)
  refine act_ext (ha.size.trans hp.1.symm) (ha.defers.trans hp.2.1.symm) (fun t => ?_)
  rw [hp.2.2 t]
  by_cases h : t ∈ dsts ops
  · rw [if_pos h]
  · rw [if_neg h]
    refine ha.same t (fun i o hi hd => h ?_)
    exact List.mem_filterMap.2 ⟨o, by simpa using Array.mem_of_getElem? hi, hd⟩

/-- A region that draws its order, what follows it at a known frame. -/
theorem wp_region_puts {id : Nat} {w : World} (V : Tmp → Value → World → Prop) (G : World → Prop) (N : Nat) (hm : P.follows .mixedOrders = true) (hok : drawOk ops N = true) (hN : a0.tmps.size = N) (hG : G w.drew)
    (step : OweAll P .any ops Q V G a0 0 ops.toList)
    (fin : ∀ f w, G w → (∀ (i : Nat) (o : Oper) (t : Tmp), ops[i]? = some o → o.dst = some t → V t (f t) w) → Q .normal (puts f (dsts ops) a0) w) : (Code.region id ops true).wp P Q a0 w :=
  wp_region_vals V G N hm hok hN hG step (fun a w ha hG hv => by
    subst hN
    rw [ha.puts (drawOk_spec hok)]
    exact fin _ w hG hv)

theorem AllV.get {a : Act} {w : World} : ∀ {l : List Tmp}, AllV V a w l → ∀ t, l.contains t = true → V t (a.eval (.tmp t)) w
  | [], _, t, h => by simp at h
  | u :: r, hh, t, h => by
    by_cases e : t = u
    · subst e; exact hh.1
    · exact AllV.get hh.2 t (by simpa [e] using h)
theorem Agree.outer {a : Act} (h : Agree ops a0 a) (t : Tmp) (ht : ops.all (fun o => o.dst != some t) = true) : a.eval (.tmp t) = a0.eval (.tmp t) := by
  refine h.same t (fun i o ho e => ?_)
  have := Array.all_eq_true_iff_forall_mem.1 ht o (Array.mem_of_getElem? ho)
  rw [e] at this; simp at this
theorem getD_bool {a : Act} {t : Tmp} {b : Bool} (h : a.eval (.tmp t) = .bool b) : a.tmps[t]? = some (.bool b) := by
  unfold Act.eval at h
  cases hc : a.tmps[t]? with
  | none => simp [hc, undef] at h
  | some x => simp [hc] at h; rw [h]
theorem wanted_of {o : Oper} {a : Act} {g : Nat} {want : Bool} {t : Tmp} (hg : o.guard = some (g, want)) (hd : (ops[g]?).bind (·.dst) = some t) (h : a.eval (.tmp t) = .bool want) : Region.wanted o (yielded ops a.tmps) = true := by
  unfold Region.wanted yielded
  rw [hg]
  simp only [hd, Option.bind_some, getD_bool h]
  simp
theorem wanted_free {o : Oper} {a : Act} (hg : o.guard = none) : Region.wanted o (yielded ops a.tmps) = true := by
  unfold Region.wanted; rw [hg]

/-- An operation that yields a value and turns nothing. -/
theorem owes_val {i : Nat} {o : Oper} {t : Tmp} (hi : ops[i]? = some o) (ht : o.dst = some t) (h : ∀ a w, Agree ops a0 a → G w → AllV V a w (waits md ops o) →
    ∃ v, Region.wanted o (yielded ops a.tmps) = true ∧ (execOp a.eval o).run P w = .ok (.value v) w ∧ V t v w) : Owes P md ops Q V G a0 i o := by
  intro a w ha hG hV
  obtain ⟨v, hw, hr, hv⟩ := h a w ha hG hV
  unfold wpOp
  rw [hi]
  simp only [hw, if_true, Oper.wp, hr, Oper.upon]
  exact .inl ⟨v, rfl, fun u hu => by rw [ht] at hu; cases hu; exact hv, hG, fun _ _ h => h⟩
/-- A call. -/
theorem owes_call {i : Nat} {o : Oper} {t : Tmp} (hi : ops[i]? = some o) (ht : o.dst = some t) (f : FuncId) (h : ∀ a w, Agree ops a0 a → G w → AllV V a w (waits md ops o) →
    ∃ args, Region.wanted o (yielded ops a.tmps) = true ∧ (execOp a.eval o).run P w = .ok (.enter f args) w ∧
      Calls P f args w fun e w' => ∃ v, e = .returned v ∧ V t v w' ∧ G w' ∧ ∀ t x, V t x w → V t x w') : Owes P md ops Q V G a0 i o := by
  intro a w ha hG hV
  obtain ⟨args, hw, hr, hc⟩ := h a w ha hG hV
  unfold wpOp
  rw [hi]
  simp only [hw, if_true, Oper.wp, hr, Oper.upon]
  refine .inl (hc.mono ?_)
  rintro e w' ⟨v, rfl, h1, h2, h3⟩
  exact ⟨v, rfl, fun u hu => by rw [ht] at hu; cases hu; exact h1, h2, h3⟩
end
end Go.Proofs.YtjjkobbajbbgdaaGreatDoor

namespace Go.Proofs.YtjjkobbajbbgdaaGreatDoor
open Go.RowKit

/-- What stays where nothing below turns. -/
structure Stays where
  p : Value → World → Prop
  old : ∀ {v : Value} {w w' : World}, p v w → Below w.heap.size w w' → p v w'
inductive Kd where
  | any
  | eq (v : Value)
  | st (s : Stays)
def VK : Kd → Value → World → Prop
  | .any, _, _ => True
  | .eq x, v, _ => v = x
  | .st s, v, w => s.p v w
theorem VK.old {k : Kd} {v : Value} {w w' : World} (h : VK k v w) (hb : Below w.heap.size w w') : VK k v w' := by
  cases k with
  | any => trivial
  | eq x => exact h
  | st s => exact s.old h hb
theorem not_wanted {ops : Array Oper} {o : Oper} {a : Act} {g : Nat} {want : Bool} {t : Tmp} {v : Value} (hg : o.guard = some (g, want)) (hd : (ops[g]?).bind (·.dst) = some t) (h : a.eval (.tmp t) = v) (hv : v ≠ .bool want) : Region.wanted o (yielded ops a.tmps) = false := by
  unfold Region.wanted yielded
  rw [hg]
  simp only [hd, Option.bind_some]
  unfold Act.eval at h
  cases hc : a.tmps[t]? with
  | none => rfl
  | some x =>
    simp [hc] at h
    subst h
    cases x with
    | bool b =>
      simp only [beq_eq_false_iff_ne, ne_eq, Option.some.injEq]
      intro e; exact hv (by rw [e])
    | _ => rfl
section
variable {P : Program} {ops : Array Oper} {Q : Exit → Act → World → Prop} {md : Region.Mode} {K : Tmp → Kd} {W : World} {a0 : Act}
/-- An operation that is not wanted. -/
theorem owesK_not {i : Nat} {o : Oper} {t : Tmp} (hi : ops[i]? = some o) (ht : o.dst = some t)
    (h : ∀ a w, Agree ops a0 a → Below W.heap.size W w → AllV (fun t v w => VK (K t) v w) a w (waits md ops o) → Region.wanted o (yielded ops a.tmps) = false ∧ VK (K t) undef w) : Owes P md ops Q (fun t v w => VK (K t) v w) (fun w => Below W.heap.size W w) a0 i o := by
  intro a w ha hG hV
  obtain ⟨hw, hv⟩ := h a w ha hG hV
  unfold wpOp
  rw [hi]
  simp only [hw]
  exact ⟨undef, rfl, fun u hu => by rw [ht] at hu; cases hu; exact hv, hG, fun _ _ h => h⟩
/-- An operation that yields a value, and may make memory. -/
theorem owesK {i : Nat} {o : Oper} {t : Tmp} (hi : ops[i]? = some o) (ht : o.dst = some t) (h : ∀ a w, Agree ops a0 a → Below W.heap.size W w → AllV (fun t v w => VK (K t) v w) a w (waits md ops o) →
    ∃ v w', Region.wanted o (yielded ops a.tmps) = true ∧ (execOp a.eval o).run P w = .ok (.value v) w' ∧ Below w.heap.size w w' ∧ VK (K t) v w') : Owes P md ops Q (fun t v w => VK (K t) v w) (fun w => Below W.heap.size W w) a0 i o := by
  intro a w ha hG hV
  obtain ⟨v, w', hw, hr, hb, hv⟩ := h a w ha hG hV
  unfold wpOp
  rw [hi]
  simp only [hw, if_true, Oper.wp, hr, Oper.upon]
  exact .inl ⟨v, rfl, fun u hu => by rw [ht] at hu; cases hu; exact hv, hG.trans (hb.mono hG.size), fun _ _ h => VK.old h hb⟩
/-- A call. -/
theorem owesK_call {i : Nat} {o : Oper} {t : Tmp} (hi : ops[i]? = some o) (ht : o.dst = some t) (f : FuncId) (h : ∀ a w, Agree ops a0 a → Below W.heap.size W w → AllV (fun t v w => VK (K t) v w) a w (waits md ops o) →
    ∃ args, Region.wanted o (yielded ops a.tmps) = true ∧ (execOp a.eval o).run P w = .ok (.enter f args) w ∧
      Calls P f args w fun e w' => ∃ v, e = .returned v ∧ VK (K t) v w' ∧ Below w.heap.size w w') : Owes P md ops Q (fun t v w => VK (K t) v w) (fun w => Below W.heap.size W w) a0 i o := by
  intro a w ha hG hV
  obtain ⟨args, hw, hr, hc⟩ := h a w ha hG hV
  unfold wpOp
  rw [hi]
  simp only [hw, if_true, Oper.wp, hr, Oper.upon]
  refine .inl (hc.mono ?_)
  rintro e w' ⟨v, rfl, h1, hb⟩
  exact ⟨v, rfl, fun u hu => by rw [ht] at hu; cases hu; exact h1, hG.trans (hb.mono hG.size), fun _ _ h => VK.old h hb⟩
end
end Go.Proofs.YtjjkobbajbbgdaaGreatDoor

namespace Go.Proofs.YtjjkobbajbbgdaaGreatDoor
open Go.RowKit

theorem run_loadBytes (w : World) (g : Nat) : ∀ (s : List UInt8) (off : Nat) (acc : ByteArray), (∀ i (hi : i < s.length), w.cell? ⟨g, off + i, none⟩ = some (.int .u8 (s[i].toNat : Int))) →
    (Extern.Bytes.loadBytes ⟨g, off, none⟩ s.length acc).run Tryz.prog w = .ok (acc ++ ⟨s.toArray⟩) w
  | [], off, acc, _ => by
    simp only [List.length_nil, Extern.Bytes.loadBytes, Sem.run_pure]
    congr 1
    apply ByteArray.ext; simp
  | b :: s, off, acc, h => by
    have h0 := h 0 (by simp)
    simp only [Nat.add_zero, List.getElem_cons_zero] at h0
    have hl : (load ⟨g, off, none⟩).run Tryz.prog w = .ok (.int .u8 (b.toNat : Int)) w := by simp [go_sem, h0]
    have hadd : (⟨g, off, none⟩ : Addr).add 1 = ⟨g, off + 1, none⟩ := rfl
    have ih := run_loadBytes w g s (off + 1) (acc.push b) (fun i hi => by
      have := h (i + 1) (by simpa using hi)
      rw [show off + 1 + i = off + (i + 1) by omega]
      simpa using this)
    simp only [List.length_cons, Extern.Bytes.loadBytes, Sem.run_bind, hl, Result.andThen_ok, hadd]
    have hb : (b.toNat : Int).toNat.toUInt8 = b := by simp
    rw [hb, ih]
    congr 1
    apply ByteArray.ext; simp
theorem IdAt.compare {w : World} {g h : Nat} {s t : List UInt8} (hs : IdAt w g s) (ht : IdAt w h t) :
    (Extern.BytealgCompare.compare #[.slice (some ⟨g, 0, none⟩) 32 32, .slice (some ⟨h, 0, none⟩) 32 32]).run Tryz.prog w = .ok (.int .i64 (Lib.compareBytes s t)) w := by
  have h1 := run_loadBytes w g s 0 .empty (fun i hi => by rw [Nat.zero_add]; exact hs.cell i hi)
  have h2 := run_loadBytes w h t 0 .empty (fun i hi => by rw [Nat.zero_add]; exact ht.cell i hi)
  rw [hs.1] at h1
  rw [ht.1] at h2
  have e : Extern.BytealgCompare.compare #[.slice (some ⟨g, 0, none⟩) 32 32, .slice (some ⟨h, 0, none⟩) 32 32] = (do pure (goInt (Extern.BytealgCompare.cmp (← Extern.Bytes.loadBytes ⟨g, 0, none⟩ 32 .empty) (← Extern.Bytes.loadBytes ⟨h, 0, none⟩ 32 .empty)))) := rfl
  rw [e]
  simp only [Sem.run_bind, h1, h2, Result.andThen_ok, Sem.run_pure, Lib.cmp_eq, goInt]
  simp
set_option maxHeartbeats 1000000 in
set_option maxRecDepth 20000 in
theorem bcompare_any (g h : Nat) (s t : List UInt8) (w : World) (hs : IdAt w g s) (ht : IdAt w h t) :
    Calls Tryz.prog 36 #[.slice (some ⟨g, 0, none⟩) 32 32, .slice (some ⟨h, 0, none⟩) 32 32] w fun r w' => r = .returned (.int .i64 (Lib.compareBytes s t)) ∧ w = w' := by
  have hc := hs.compare ht
  obtain ⟨x, hx⟩ : ∃ x, x = Lib.compareBytes s t := ⟨_, rfl⟩
  rw [← hx] at hc ⊢
  clear hx hs ht
  go_enter Tryz.func36, Tryz.ntmps36
  go_wp2
  rw [run_callFunc_extern Tryz.func64 (by kernel_rfl) (by kernel_rfl) (by kernel_rfl) (e := Extern.BytealgCompare.compare) (by kernel_rfl), hc]
  simp only [Result.andThen]
  rw [Oper.upon_value]
  go_wp2
  go_ret
  exact ⟨rfl, rfl⟩

set_option maxHeartbeats 1000000 in
set_option maxRecDepth 20000 in
theorem hcompare_any (n1 n2 : List UInt8) (w : World) (hs : n1.length = 32) (ht : n2.length = 32) :
    Calls Tryz.prog 21 #[.agg (vals n1).toArray, .agg (vals n2).toArray] w fun r w' => r = .returned (.int .i64 (Lib.compareBytes n1 n2)) ∧ Below w.heap.size w w' := by
  have hA : IdAt ((w.alloc (.cells (vals n1).toArray 36)).alloc (.cells (vals n2).toArray 36)) w.heap.size n1 := ⟨hs, by rw [Below.heap_alloc _ _ _ (by simp)]; exact heap_alloc_new w _⟩
  have hB : IdAt ((w.alloc (.cells (vals n1).toArray 36)).alloc (.cells (vals n2).toArray 36)) (w.heap.size + 1) n2 := ⟨ht, by have := heap_alloc_new (w.alloc (.cells (vals n1).toArray 36)) (.cells (vals n2).toArray 36); simpa using this⟩
  have hb : Below w.heap.size w ((w.alloc (.cells (vals n1).toArray 36)).alloc (.cells (vals n2).toArray 36)) := ((Below.refl _ w).alloc (Nat.le_refl _) _).alloc (by simp) _
  have s1 := id_size hs
  have s2 := id_size ht
  have HA := Lib.hid hA
  have HB := Lib.hid hB
  have Hb := Lib.hid hb
  clear hA hB hb
  generalize (vals n1).toArray = S at s1 HA HB Hb ⊢
  generalize (vals n2).toArray = T at s2 HA HB Hb ⊢
  go_enter Tryz.func21, Tryz.ntmps21
  go_wp2_with fail
  generalize (w.alloc (.cells S 36)).alloc (.cells T 36) = W at HA HB Hb ⊢
  generalize w.heap.size = n0 at HA HB ⊢
  refine wp_region_puts (fun t v w => VK (match t with
    | 5 => .eq (.slice (some ⟨n0, 0, none⟩) 32 32)
    | 6 => .eq (.slice (some ⟨n0 + 1, 0, none⟩) 32 32)
    | 7 => .eq (.int .i64 (Lib.compareBytes n1 n2))
    | 4 => .eq (.int .i64 (Lib.compareBytes n1 n2))
    | _ => .any) v w) (fun w' => Below W.heap.size W w') 8 (by kernel_rfl) (by decide +kernel) rfl (Below.refl _ _).drew (by
    refine OweAll.cons (owesK rfl rfl fun a w1 ha hG hV => ?_) ?_
    · skip
      have h2 := ha.outer 2 (by decide +kernel)
      simp only [Act.eval] at h2
      exact ⟨.slice (some ⟨n0, 0, none⟩) 32 32, w1, wanted_free rfl, by simp [execOp, go_sem, h2], Below.refl _ _, rfl⟩
    refine OweAll.cons (owesK rfl rfl fun a w1 ha hG hV => ?_) ?_
    · skip
      have h3 := ha.outer 3 (by decide +kernel)
      simp only [Act.eval] at h3
      exact ⟨.slice (some ⟨n0 + 1, 0, none⟩) 32 32, w1, wanted_free rfl, by simp [execOp, go_sem, h3], Below.refl _ _, rfl⟩
    refine OweAll.cons (owesK_call rfl rfl 36 fun a w1 ha hG hV => ?_) ?_
    · skip
      have h5 : a.tmps.getD 5 undef = .slice (some ⟨n0, 0, none⟩) 32 32 := hV.get 5 (by decide +kernel)
      have h6 : a.tmps.getD 6 undef = .slice (some ⟨n0 + 1, 0, none⟩) 32 32 := hV.get 6 (by decide +kernel)
      refine ⟨#[.slice (some ⟨n0, 0, none⟩) 32 32, .slice (some ⟨n0 + 1, 0, none⟩) 32 32], wanted_free rfl, by simp [execOp, resolve, invoke, go_sem, h5, h6], ?_⟩
      refine (bcompare_any _ _ n1 n2 w1 (HA.out.old hG) (HB.out.old hG)).mono ?_
      rintro r u2 ⟨rfl, rfl⟩; exact ⟨_, rfl, rfl, Below.refl _ _⟩
    refine OweAll.cons (owesK rfl rfl fun a w1 ha hG hV => ?_) ?_
    · skip
      have h7 : a.tmps.getD 7 undef = .int .i64 (Lib.compareBytes n1 n2) := hV.get 7 (by decide +kernel)
      exact ⟨.int .i64 (Lib.compareBytes n1 n2), w1, wanted_free rfl, by simp [execOp, go_sem, h7], Below.refl _ _, rfl⟩
    exact OweAll.nil
    ) ?_
  intro f wz hG hv
  have e4 : f 4 = .int .i64 (Lib.compareBytes n1 n2) := hv 3 _ 4 rfl rfl
  rename_i hK
  refine hK _ _ ?_
  clear hK hv
  simp only [dsts, puts, List.filterMap_cons, List.filterMap_nil, List.foldl_cons, List.foldl_nil, Act.put, List.setIfInBounds_toArray, List.set_cons_succ, List.set_cons_zero, e4]
  clear e4
  have HG := Lib.hid (Hb.out.trans (hG.mono Hb.out.size))
  clear hG
  go_wp2_with fail
  go_ret
  exact ⟨rfl, HG.out⟩
end Go.Proofs.YtjjkobbajbbgdaaGreatDoor

namespace Go.Proofs.YtjjkobbajbbgdaaGreatDoor
open Go.RowKit

/-- Names. -/
abbrev Nm := { s : List UInt8 // s.length = 32 }
def encN : Enc Nm := ⟨fun s => vals s.1, 32, fun s => by rw [vals_len]; exact s.2, fun s => vals_one s.1, by decide⟩
theorem exec_load_mid {o : Oper} {a : Act} {w : World} (x : Operand) (ho : o.op = .load 36 x) (b off : Nat) (hx : a.eval x = .pointer (some ⟨b, off, none⟩)) (s : Nm)
    (hc : ∀ i u, (encN.f s)[i]? = some u → w.cell? ⟨b, off + i, none⟩ = some u) : (execOp a.eval o).run Tryz.prog w = .ok (.value (.agg (vals s.1).toArray)) w := by
  have hl := run_loadVar_mid (P := Tryz.prog) w b off 36 (vals s.1) _ (fun j v hv => hc j v hv) Tryz.underlying36 rfl (by rw [vals_len, s.2]; kernel_rfl)
  unfold execOp
  simp only [ho, hx, Instr.loadAt, Instr.sureAddr, Sem.run_bind, Sem.run_pure, Result.andThen_ok, hl]
/-- The first k + 1 rise. -/
def rs (L : List (List UInt8)) (k : Nat) : Bool := (List.range k).all fun i => decide (Lib.compareBytes (L.getD i []) (L.getD (i + 1) []) < 0)
theorem rs_succ (L : List (List UInt8)) (k : Nat) : rs L (k + 1) = (rs L k && decide (Lib.compareBytes (L.getD k []) (L.getD (k + 1) []) < 0)) := by
  unfold rs; rw [List.range_succ, List.all_append]; simp
theorem rs_stop {L : List (List UInt8)} {k n : Nat} (h : rs L (k + 1) = false) (hn : k < n) : rs L n = false := by
  obtain ⟨m, rfl⟩ : ∃ m, n = k + 1 + m := ⟨n - (k + 1), by omega⟩
  induction m with
  | zero => exact h
  | succ m ih => rw [← Nat.add_assoc, rs_succ, ih (by omega)]; rfl

set_option maxRecDepth 20000 in
set_option maxHeartbeats 4000000 in
theorem rising_any (ao : Option Addr) (cap : Nat) (L : List Nm) (w : World) (hL : Rd encN w ao L) (hn : L.length ≤ 1000000) :
    Calls Tryz.prog 91 #[.slice ao L.length cap] w fun r w' => r = .returned (.bool (rs (L.map (·.1)) (L.length - 1))) ∧ Below w.heap.size w w' := by
  obtain ⟨n, hnL⟩ : ∃ n, n = L.length := ⟨_, rfl⟩
  rw [← hnL] at hn ⊢
  obtain ⟨R, hR⟩ : ∃ R, R = rs (L.map (·.1)) (n - 1) := ⟨_, rfl⟩
  rw [← hR]
  have HR := Lib.hid hR
  clear hR
  have Hn := Lib.hid hnL
  have HL := Lib.hid hL
  have hB0 := Below.refl w.heap.size w
  clear hnL hL
  go_enter Tryz.func91, Tryz.ntmps91
  go_wp2_with fail
  go_loopw [3] (fun s3 wr => ∃ k : Nat, k ≤ n ∧ s3 = .int .i64 ((k : Int) + 1) ∧ Hid (rs (L.map (·.1)) k = true) ∧ Hid (k ≤ n - 1) ∧ Below w.heap.size w wr) (fun i _ => n + 1 - (intOf i).toNat)
  case atStart => exact ⟨0, by omega, by go_num, Lib.hid rfl, Lib.hid (Nat.zero_le _), hB0⟩
  case round =>
    clear hB0
    obtain ⟨i, hi, rfl, hrs, hin, hB⟩ := hrel
    by_cases hlt : i + 1 < n
    · have h1 : i < L.length := by rw [← Hn.out]; omega
      have h2 : i + 1 < L.length := by rw [← Hn.out]; omega
      obtain ⟨bs, off, rfl, hbs, c1⟩ := (HL.out.old hB) i h1
      obtain ⟨bs', off', e, _, c2⟩ := (HL.out.old hB) (i + 1) h2
      cases e
      have C1 : Hid (∀ w', Below wr.heap.size wr w' → ∀ k u, (encN.f L[i])[k]? = some u → w'.cell? ⟨bs, off + i * 32 + k, none⟩ = some u) := Lib.hid (fun w' hb k u hu => (World.cell?_of_block (hb.block bs hbs)).trans (c1 k u hu))
      have C2 : Hid (∀ w', Below wr.heap.size wr w' → ∀ k u, (encN.f L[i + 1])[k]? = some u → w'.cell? ⟨bs, off + (i + 1) * 32 + k, none⟩ = some u) := Lib.hid (fun w' hb k u hu => (World.cell?_of_block (hb.block bs hbs)).trans (c2 k u hu))
      obtain ⟨x, hx⟩ : ∃ x, x = L[i] := ⟨_, rfl⟩
      obtain ⟨y, hy⟩ : ∃ y, y = L[i + 1] := ⟨_, rfl⟩
      have hgx : (L.map (·.1)).getD i [] = x.1 := by simp [List.getD, h1, hx]
      have hgy : (L.map (·.1)).getD (i + 1) [] = y.1 := by simp [List.getD, h2, hy]
      have hsu := rs_succ (L.map (·.1)) i
      rw [hgx, hgy, hrs.out, Bool.true_and] at hsu
      rw [← hx] at C1
      rw [← hy] at C2
      obtain ⟨c, hc⟩ : ∃ c, c = Lib.compareBytes x.1 y.1 := ⟨_, rfl⟩
      have hcmp : Hid (∀ w, Calls Tryz.prog 21 #[.agg (vals x.1).toArray, .agg (vals y.1).toArray] w fun r w' => r = .returned (.int .i64 c) ∧ Below w.heap.size w w') := Lib.hid (fun w => by rw [hc]; exact hcompare_any x.1 y.1 w x.2 y.2)
      rw [← hc] at hsu
      have Hsu := Lib.hid hsu
      have i0 : (0 : Int) ≤ i := by omega
      have i1 : (i : Int) < n := by omega
      have i2 : (i : Int) + 1 < n := by omega
      have e1 : IntKind.i64.wrap ((i : Int) + 1 - 1) = (i : Int) := by rw [IntWalk.i64_in _ (by omega)]; omega
      have e0 : IntKind.i64.wrap (i : Int) = (i : Int) := IntWalk.i64_in _ (by omega)
      have e2 : ((i : Int) + 1).toNat = i + 1 := by omega
      have e3 : (0 : Int) ≤ (i : Int) + 1 := by omega
      have HB := Lib.hid hB
      clear hx hy hgx hgy hsu hc c1 c2 hB hrs
      go_wp2_with fail
      refine wp_region_puts (fun t v w => VK (match t with
        | 10 => .eq (.slice (some ⟨bs, off, none⟩) n cap)
        | 11 => .eq (.int .i64 ((i : Int) + 1))
        | 12 => .eq (.int .i64 (i : Int))
        | 13 => .eq (.pointer (some ⟨bs, off + i * 32, none⟩))
        | 14 => .eq (.agg (vals x.1).toArray)
        | 15 => .eq (.slice (some ⟨bs, off, none⟩) n cap)
        | 16 => .eq (.int .i64 ((i : Int) + 1))
        | 17 => .eq (.pointer (some ⟨bs, off + (i + 1) * 32, none⟩))
        | 18 => .eq (.agg (vals y.1).toArray)
        | 19 => .eq (.int .i64 c)
        | 20 => .eq (.bool (decide (0 ≤ c)))
        | _ => .any) v w) (fun w' => Below wr.heap.size wr w') 21 (by kernel_rfl) (by decide +kernel) rfl (Below.refl _ _).drew (by
        refine OweAll.cons (owesK rfl rfl fun a w1 ha hG hV => ?_) ?_
        · skip
          have h0 := ha.outer 0 (by decide +kernel)
          simp only [Act.eval] at h0
          exact ⟨.slice (some ⟨bs, off, none⟩) n cap, w1, wanted_free rfl, by simp [execOp, go_sem, h0], Below.refl _ _, rfl⟩
        refine OweAll.cons (owesK rfl rfl fun a w1 ha hG hV => ?_) ?_
        · skip
          have h3 := ha.outer 3 (by decide +kernel)
          simp only [Act.eval] at h3
          exact ⟨.int .i64 ((i : Int) + 1), w1, wanted_free rfl, by simp [execOp, go_sem, h3], Below.refl _ _, rfl⟩
        refine OweAll.cons (owesK rfl rfl fun a w1 ha hG hV => ?_) ?_
        · skip
          have h11 : a.tmps.getD 11 undef = .int .i64 ((i : Int) + 1) := hV.get 11 (by decide +kernel)
          exact ⟨.int .i64 (i : Int), w1, wanted_free rfl, by simp [execOp, go_sem, h11, e0, e1], Below.refl _ _, rfl⟩
        refine OweAll.cons (owesK rfl rfl fun a w1 ha hG hV => ?_) ?_
        · skip
          have h10 : a.tmps.getD 10 undef = .slice (some ⟨bs, off, none⟩) n cap := hV.get 10 (by decide +kernel)
          have h12 : a.tmps.getD 12 undef = .int .i64 (i : Int) := hV.get 12 (by decide +kernel)
          exact ⟨.pointer (some ⟨bs, off + i * 32, none⟩), w1, wanted_free rfl, by simp [execOp, go_sem, h10, h12, i0, i1], Below.refl _ _, rfl⟩
        refine OweAll.cons (owesK rfl rfl fun a w1 ha hG hV => ?_) ?_
        · skip
          have h13 : a.tmps.getD 13 undef = .pointer (some ⟨bs, off + i * 32, none⟩) := hV.get 13 (by decide +kernel)
          exact ⟨.agg (vals x.1).toArray, w1, wanted_free rfl, exec_load_mid (.tmp 13) rfl bs (off + i * 32) h13 x (C1.out w1 hG), Below.refl _ _, rfl⟩
        refine OweAll.cons (owesK rfl rfl fun a w1 ha hG hV => ?_) ?_
        · skip
          have h0 := ha.outer 0 (by decide +kernel)
          simp only [Act.eval] at h0
          exact ⟨.slice (some ⟨bs, off, none⟩) n cap, w1, wanted_free rfl, by simp [execOp, go_sem, h0], Below.refl _ _, rfl⟩
        refine OweAll.cons (owesK rfl rfl fun a w1 ha hG hV => ?_) ?_
        · skip
          have h3 := ha.outer 3 (by decide +kernel)
          simp only [Act.eval] at h3
          exact ⟨.int .i64 ((i : Int) + 1), w1, wanted_free rfl, by simp [execOp, go_sem, h3], Below.refl _ _, rfl⟩
        refine OweAll.cons (owesK rfl rfl fun a w1 ha hG hV => ?_) ?_
        · skip
          have h15 : a.tmps.getD 15 undef = .slice (some ⟨bs, off, none⟩) n cap := hV.get 15 (by decide +kernel)
          have h16 : a.tmps.getD 16 undef = .int .i64 ((i : Int) + 1) := hV.get 16 (by decide +kernel)
          exact ⟨.pointer (some ⟨bs, off + (i + 1) * 32, none⟩), w1, wanted_free rfl, by simp [execOp, go_sem, h15, h16, e2, e3, i2], Below.refl _ _, rfl⟩
        refine OweAll.cons (owesK rfl rfl fun a w1 ha hG hV => ?_) ?_
        · skip
          have h17 : a.tmps.getD 17 undef = .pointer (some ⟨bs, off + (i + 1) * 32, none⟩) := hV.get 17 (by decide +kernel)
          exact ⟨.agg (vals y.1).toArray, w1, wanted_free rfl, exec_load_mid (.tmp 17) rfl bs (off + (i + 1) * 32) h17 y (C2.out w1 hG), Below.refl _ _, rfl⟩
        refine OweAll.cons (owesK_call rfl rfl 21 fun a w1 ha hG hV => ?_) ?_
        · skip
          have h14 : a.tmps.getD 14 undef = .agg (vals x.1).toArray := hV.get 14 (by decide +kernel)
          have h18 : a.tmps.getD 18 undef = .agg (vals y.1).toArray := hV.get 18 (by decide +kernel)
          refine ⟨#[.agg (vals x.1).toArray, .agg (vals y.1).toArray], wanted_free rfl, by simp [execOp, resolve, invoke, go_sem, h14, h18], ?_⟩
          refine (hcmp.out w1).mono ?_
          rintro r u2 ⟨rfl, hb⟩; exact ⟨_, rfl, rfl, hb⟩
        refine OweAll.cons (owesK rfl rfl fun a w1 ha hG hV => ?_) ?_
        · skip
          have h19 : a.tmps.getD 19 undef = .int .i64 c := hV.get 19 (by decide +kernel)
          exact ⟨.bool (decide (0 ≤ c)), w1, wanted_free rfl, by simp [execOp, go_sem, h19], Below.refl _ _, rfl⟩
        exact OweAll.nil
        ) ?_
      intro f wz hG hv
      have e20 : f 20 = .bool (decide (0 ≤ c)) := hv 10 _ 20 rfl rfl
      rename_i hK
      refine hK _ _ ?_
      clear hK hv
      simp only [dsts, puts, List.filterMap_cons, List.filterMap_nil, List.foldl_cons, List.foldl_nil, Act.put, List.setIfInBounds_toArray, List.set_cons_succ, List.set_cons_zero, e20]
      clear e20
      have HG := Lib.hid (HB.out.trans (hG.mono HB.out.size))
      clear hG
      by_cases hc : 0 ≤ c
      · have t1 : decide (0 ≤ c) = true := decide_eq_true hc
        have hfin : R = false := HR.out.trans <| rs_stop (k := i) (by rw [Hsu.out, decide_eq_false_iff_not]; omega) (by omega)
        have Hfin := Lib.hid hfin
        clear hfin
        go_wp2_with fail
        go_ret
        exact ⟨by rw [Hfin.out]; rfl, HG.out⟩
      · have t1 : decide (0 ≤ c) = false := decide_eq_false hc
        have hnx : Hid (rs (L.map (·.1)) (i + 1) = true) := Lib.hid (by rw [Hsu.out, decide_eq_true_eq]; omega)
        go_wp2_with fail
        go_roundw
        case rel => exact ⟨i + 1, by omega, by go_num, hnx, Lib.hid (by omega), HG.out⟩
        case measure => simp [intOf]; omega
    · have hfin : R = true := by rw [HR.out]; have h := hin.out; have e : i = n - 1 := (by omega); rw [← e]; exact hrs.out
      have Hfin := Lib.hid hfin
      clear hfin
      have i2 : ¬ (i : Int) + 1 < n := by omega
      go_wp2_with fail
      go_ret
      exact ⟨by rw [Hfin.out]; rfl, hB⟩
end Go.Proofs.YtjjkobbajbbgdaaGreatDoor

namespace Go.Proofs.YtjjkobbajbbgdaaGreatDoor
open Go

/-- Each of the chain waits for the one ahead of it. -/
def chainOk (md : Region.Mode) (ops : Array Oper) (C : List Nat) : Bool :=
  (List.range C.length).all fun m => match C[m]?, C[m + 1]? with
    | some i, some j => (match ops[j]? with | some p => p.after.any (fun e => Region.binds md e && e.on == i) | none => false)
    | _, _ => true
/-- Operation j waits for i, by n edges at most. -/
def reach (md : Region.Mode) (ops : Array Oper) : Nat → Nat → Nat → Bool
  | 0, _, _ => false
  | n + 1, j, i => match ops[j]? with
    | some p => p.after.any (fun e => Region.binds md e && (e.on == i || reach md ops n e.on i))
    | none => false
/-- The chain's place b waits for operation i (or there is no such place). -/
def aheadOf (md : Region.Mode) (ops : Array Oper) (C : List Nat) (i b : Nat) : Bool :=
  b == C.length || (match C[b]? with
    | some j => reach md ops 16 j i
    | none => false)

/-- Only slots of the operations turn; that of a chain's operation that isn't done yet hasn't. -/
structure AgreeC (ops : Array Oper) (C : List Nat) (k : Nat) (a0 a : Act) : Prop extends Agree ops a0 a where
  kp : ∀ (m i : Nat) (o : Oper) (t : Tmp), k ≤ m → C[m]? = some i → ops[i]? = some o → o.dst = some t → a.eval (.tmp t) = a0.eval (.tmp t)

section
variable {P : Program} {ops : Array Oper} {Q : Exit → Act → World → Prop} {md : Region.Mode} {V : Tmp → Value → Prop} {G : Nat → Value → World → Prop} {C : List Nat} {a0 : Act}

/-- What one operation owes while k of the chain are done, k' behind it. -/
def OwesAt (P : Program) (md : Region.Mode) (ops : Array Oper) (Q : Exit → Act → World → Prop) (V : Tmp → Value → Prop) (G : Nat → Value → World → Prop) (C : List Nat) (a0 : Act) (i : Nat) (o : Oper) (k : Nat) : Prop :=
  ∀ a w x, AgreeC ops C k a0 a → G k x w → AllV (fun t v _ => V t v) a w (waits md ops o) →
    wpOp P ops Q i (fun a' w' => ∃ v, a' = a.put o.dst v ∧ (∀ t, o.dst = some t → V t v) ∧ G k x w') a w
/-- The slot of the chain's last one that is done holds x. -/
def Holds' (ops : Array Oper) (C : List Nat) (a : Act) (k : Nat) (x : Value) : Prop := ∀ (m i : Nat) (o : Oper) (t : Tmp), k = m + 1 → C[m]? = some i → ops[i]? = some o → o.dst = some t → a.eval (.tmp t) = x
/-- What the chain's operation m owes. -/
def OwesIn (P : Program) (md : Region.Mode) (ops : Array Oper) (Q : Exit → Act → World → Prop) (V : Tmp → Value → Prop) (G : Nat → Value → World → Prop) (C : List Nat) (a0 : Act) (i : Nat) (o : Oper) (m : Nat) : Prop :=
  ∀ a w x, AgreeC ops C m a0 a → G m x w → Holds' ops C a m x → AllV (fun t v _ => V t v) a w (waits md ops o) →
    wpOp P ops Q i (fun a' w' => ∃ v, a' = a.put o.dst v ∧ (∀ t, o.dst = some t → V t v) ∧ G (m + 1) v w') a w
def OwesC (P : Program) (md : Region.Mode) (ops : Array Oper) (Q : Exit → Act → World → Prop) (V : Tmp → Value → Prop) (G : Nat → Value → World → Prop) (C : List Nat) (a0 : Act) (i : Nat) (o : Oper) : Prop :=
  (∃ m, C[m]? = some i ∧ OwesIn P md ops Q V G C a0 i o m) ∨ (C.contains i = false ∧ ∃ b, aheadOf md ops C i b = true ∧ ∀ k, k ≤ b → OwesAt P md ops Q V G C a0 i o k)

theorem any_edge {md : Region.Mode} {p : Oper} {i : Nat} (h : p.after.any (fun e => Region.binds md e && e.on == i) = true) : ∃ e ∈ p.after, Region.binds md e = true ∧ e.on = i := by
  obtain ⟨j, hj, h1⟩ := Array.any_iff_exists.1 h
  obtain ⟨_, _, h2⟩ := h1
  rw [Bool.and_eq_true, beq_iff_eq] at h2
  exact ⟨_, Array.getElem_mem _, h2.1, h2.2⟩
theorem chain_edge {m i j : Nat} {p : Oper} (h : chainOk md ops C = true) (hi : C[m]? = some i) (hj : C[m + 1]? = some j) (hp : ops[j]? = some p) : ∃ e ∈ p.after, Region.binds md e = true ∧ e.on = i := by
  have := List.all_eq_true.1 h m (List.mem_range.2 (List.getElem?_eq_some_iff.1 hi).1)
  simp only [hi, hj, hp] at this
  exact any_edge this

theorem reach_done {L : Array Bool} (cl : ∀ (i : Nat) (o : Oper), ops[i]? = some o → L.getD i true = true → ∀ e ∈ o.after, Region.binds md e = true → L.getD e.on false = true) :
    ∀ (n j i : Nat), reach md ops n j i = true → L.getD j true = true → L.getD i false = true
  | 0, _, _, h, _ => by cases h
  | n + 1, j, i, h, hl => by
    unfold reach at h
    cases hp : ops[j]? with
    | none => rw [hp] at h; cases h
    | some p =>
      rw [hp] at h
      obtain ⟨q, _, h1⟩ := Array.any_iff_exists.1 h
      obtain ⟨_, _, h2⟩ := h1
      rw [Bool.and_eq_true, Bool.or_eq_true, beq_iff_eq] at h2
      have h3 := cl j p hp hl _ (Array.getElem_mem _) h2.1
      rcases h2.2 with e | hr
      · rw [← e]; exact h3
      · refine reach_done cl n _ i hr ?_
        have : p.after[q].on < L.size := by
          apply Nat.lt_of_not_le; intro hle
          simp [Array.getElem?_eq_none hle] at h3
        simp [this] at h3 ⊢
        exact h3
theorem getD_tf {L : Array Bool} {n i : Nat} (hL : L.size = n) (hi : i < n) : L.getD i true = L.getD i false := by
  simp [show i < L.size by omega]
theorem getD_set_at {L : Array Bool} {i : Nat} (hi : i < L.size) (d : Bool) : (L.setIfInBounds i true).getD i d = true := by simp [hi]
theorem getD_set_ne' {L : Array Bool} {i j : Nat} (h : j ≠ i) (d : Bool) : (L.setIfInBounds i true).getD j d = L.getD j d := by
  have := Ne.symm h
  simp [Array.getD_eq_getD_getElem?, this]

/-- What is known while the region goes. -/
structure ChainAt (md : Region.Mode) (ops : Array Oper) (V : Tmp → Value → Prop) (G : Nat → Value → World → Prop) (C : List Nat) (a0 : Act) (L : Array Bool) (a : Act) (w : World) (k : Nat) (x : Value) : Prop where
  g : G k x w
  ho : Holds' ops C a k x
  le : k ≤ C.length
  ch : ∀ (m i : Nat), C[m]? = some i → (L.getD i true = true ↔ m < k)
  cl : ∀ (i : Nat) (o : Oper), ops[i]? = some o → L.getD i true = true → ∀ e ∈ o.after, Region.binds md e = true → L.getD e.on false = true
  ag : Agree ops a0 a
  kp : ∀ (i : Nat) (o : Oper) (t : Tmp), ops[i]? = some o → L.getD i true = false → o.dst = some t → a.eval (.tmp t) = a0.eval (.tmp t)
  v : ∀ (i : Nat) (o : Oper) (t : Tmp), ops[i]? = some o → L.getD i true = true → o.dst = some t → V t (a.eval (.tmp t))

theorem ChainAt.agc {L : Array Bool} {a : Act} {w : World} {k : Nat} {x : Value} (h : ChainAt md ops V G C a0 L a w k x) : AgreeC ops C k a0 a :=
  ⟨h.ag, fun m i o t hm hi ho ht => h.kp i o t ho (by
    cases hl : L.getD i true with
    | false => rfl
    | true => exact absurd ((h.ch m i hi).1 hl) (by omega)) ht⟩
theorem wpAny_chain (hok : DrawOk ops a0.tmps.size) (hch : chainOk md ops C = true) (hnd : C.Nodup) (hCl : ∀ i ∈ C, i < ops.size) (step : ∀ (i : Nat) (o : Oper), ops[i]? = some o → OwesC P md ops Q V G C a0 i o)
    (fin : ∀ a w x, Agree ops a0 a → G C.length x w → Holds' ops C a C.length x → (∀ (i : Nat) (o : Oper) (t : Tmp), ops[i]? = some o → o.dst = some t → V t (a.eval (.tmp t))) → Q .normal a w) :
    ∀ (fuel : Nat) (L : Array Bool) (a : Act) (w : World) (k : Nat) (x : Value), unl L ops.size ≤ fuel → L.size = ops.size → ChainAt md ops V G C a0 L a w k x → wpAny P md ops Q fuel L a w := by
  have allL : ∀ L : Array Bool, L.size = ops.size → Region.ready md ops L = [] → ∀ (i : Nat) (o : Oper), ops[i]? = some o → L.getD i true = true := by
    intro L hL hr i o ho
    cases hc : L.getD i true with
    | true => rfl
    | false =>
      obtain ⟨j, hj⟩ := ready_some (md := md) hok hL i (Array.getElem?_eq_some_iff.1 ho).1 hc
      rw [hr] at hj; cases hj
  have done : ∀ (L : Array Bool) (a : Act) (w : World) (k : Nat) (x : Value), L.size = ops.size → ChainAt md ops V G C a0 L a w k x → Region.ready md ops L = [] → Q .normal a w := by
    intro L a w k x hL h hr
    have hk : k = C.length := by
      refine Nat.le_antisymm h.le (Nat.le_of_not_lt fun hlt => ?_)
      have hm : C[k]? = some C[k] := List.getElem?_eq_getElem hlt
      have hi := hCl _ (List.getElem_mem hlt)
      exact Nat.lt_irrefl _ ((h.ch k _ hm).1 (allL L hL hr _ _ (Array.getElem?_eq_getElem hi)))
    subst hk
    exact fin a w x h.ag h.g h.ho (fun i o t ho ht => h.v i o t ho (allL L hL hr i o ho) ht)
  intro fuel
  induction fuel with
  | zero =>
    intro L a w k x hu hL h
    have hr : Region.ready md ops L = [] := by
      apply List.eq_nil_iff_forall_not_mem.2
      intro j hj
      obtain ⟨hun, o, ho, _⟩ := mem_ready.1 hj
      have := unl_pos L ops.size j (Array.getElem?_eq_some_iff.1 ho).1 hun
      omega
    exact ⟨hr, done L a w k x hL h hr⟩
  | succ fuel ih =>
    intro L a w k x hu hL h
    refine ⟨fun hr => done L a w k x hL h hr, fun i hi => ?_⟩
    obtain ⟨hun, o, ho, hall⟩ := mem_ready.1 hi
    have hil : i < ops.size := (Array.getElem?_eq_some_iff.1 ho).1
    have hw : AllV (fun t v _ => V t v) a w (waits md ops o) := AllV.of (by
      intro t ht
      unfold waits at ht
      obtain ⟨e, he, hd⟩ := List.mem_filterMap.1 ht
      obtain ⟨he1, he2⟩ := List.mem_filter.1 he
      cases hj : ops[e.on]? with
      | none => rw [hj] at hd; cases hd
      | some p =>
        rw [hj] at hd
        have hl := hall e (by simpa using he1) he2
        exact h.v e.on p t hj (by rw [getD_tf hL (Array.getElem?_eq_some_iff.1 hj).1]; exact hl) hd)
    -- what follows, with k' of the chain done
    have next : ∀ (k' : Nat) (y : Value → Value), k' ≤ C.length → (∀ v, Holds' ops C (a.put o.dst v) k' (y v)) → (∀ (m j : Nat), C[m]? = some j → ((L.setIfInBounds i true).getD j true = true ↔ m < k')) →
        wpOp P ops Q i (fun a' w' => ∃ v, a' = a.put o.dst v ∧ (∀ t, o.dst = some t → V t v) ∧ G k' (y v) w') a w → wpOp P ops Q i (fun a' w' => wpAny P md ops Q fuel (L.setIfInBounds i true) a' w') a w := by
      intro k' y hk' hho hch' hop
      refine wpOp_mono (fun a' w' hh => ?_) hop
      obtain ⟨v, rfl, hvi, hG'⟩ := hh
      refine ih _ _ _ k' (y v) ?_ (by simpa using hL) ⟨hG', hho v, hk', hch', ?_, ?_, ?_, ?_⟩
      · have := unl_set L i hun ops.size
        rw [if_pos hil] at this; omega
      · intro j p hp hl e he hb
        by_cases hji : j = i
        · subst hji
          rw [ho] at hp; cases hp
          have := hall e he hb
          by_cases hei : e.on = j
          · rw [hei, getD_set_at (by omega)]
          · rw [getD_set_ne' hei]; exact this
        · rw [getD_set_ne' hji] at hl
          have := h.cl j p hp hl e he hb
          by_cases hei : e.on = i
          · rw [hei, getD_set_at (by omega)]
          · rw [getD_set_ne' hei]; exact this
      · refine ⟨by rw [size_put]; exact h.ag.size, by rw [defers_put]; exact h.ag.defers, fun t ht => ?_⟩
        rw [Act.eval_put (fun d hd e => ht i o ho (by cases e; exact hd))]
        exact h.ag.same t ht
      · intro j p t hp hl ht
        have e : j ≠ i := by
          rintro rfl
          rw [getD_set_at (by omega)] at hl; cases hl
        rw [Act.eval_put (fun d hd e2 => by cases e2; exact hok.apart i j o p t ho hp e hd ht)]
        rw [getD_set_ne' e] at hl
        exact h.kp j p t hp hl ht
      · intro j p t hp hl ht
        by_cases e : j = i
        · subst e
          rw [ho] at hp; cases hp
          rw [ht, eval_put_same (by rw [h.ag.size]; exact hok.room j o t ho ht)]
          exact hvi t ht
        · rw [Act.eval_put (fun d hd e2 => by cases e2; exact hok.apart i j o p t ho hp e hd ht)]
          rw [getD_set_ne' e] at hl
          exact h.v j p t hp hl ht
    rcases step i o ho with ⟨m, hm, hop⟩ | ⟨hni, b, hb, hop⟩
    · have hmk : m = k := by
        have h1 : ¬ m < k := fun hlt => by rw [(h.ch m i hm).2 hlt] at hun; cases hun
        have h2 : m ≤ k := by
          cases m with
          | zero => exact Nat.zero_le _
          | succ m =>
            have hlt : m < C.length := by have := (List.getElem?_eq_some_iff.1 hm).1; omega
            have hj : C[m]? = some C[m] := List.getElem?_eq_getElem hlt
            obtain ⟨e, he, hbd, hon⟩ := chain_edge hch hj hm ho
            have := hall e he hbd
            rw [hon] at this
            exact (h.ch m _ hj).1 (by rw [getD_tf hL (hCl _ (List.getElem_mem hlt))]; exact this)
        omega
      subst hmk
      have hmlt : m < C.length := (List.getElem?_eq_some_iff.1 hm).1
      refine next (m + 1) (fun v => v) hmlt ?_ ?_ (hop a w x h.agc h.g h.ho hw)
      · intro v m2 j p t hm2 hj hp ht
        obtain rfl : m2 = m := by omega
        rw [hm] at hj; cases hj
        rw [ho] at hp; cases hp
        rw [ht, eval_put_same (by rw [h.ag.size]; exact hok.room i o t ho ht)]
      intro m2 j hj
      by_cases hji : j = i
      · subst hji
        have : m2 = m := by
          obtain ⟨l2, e2⟩ := List.getElem?_eq_some_iff.1 hj
          obtain ⟨l1, e1⟩ := List.getElem?_eq_some_iff.1 hm
          exact (List.getElem_inj hnd).1 (e2.trans e1.symm)
        subst this
        rw [getD_set_at (by omega)]
        exact ⟨fun _ => Nat.lt_succ_self _, fun _ => rfl⟩
      · rw [getD_set_ne' hji, h.ch m2 j hj]
        have : m2 ≠ m := by
          rintro rfl
          rw [hm] at hj; cases hj; exact hji rfl
        omega
    · have hkb : k ≤ b := by
        unfold aheadOf at hb
        rw [Bool.or_eq_true, beq_iff_eq] at hb
        rcases hb with rfl | hb
        · exact h.le
        · cases hj : C[b]? with
          | none => rw [hj] at hb; cases hb
          | some j =>
            rw [hj] at hb
            simp only at hb
            refine Nat.le_of_not_lt fun hlt => ?_
            have := reach_done h.cl 16 j i hb ((h.ch b j hj).2 hlt)
            rw [← getD_tf hL hil, hun] at this
            cases this
      refine next k (fun _ => x) h.le ?_ ?_ (hop k hkb a w x h.agc h.g hw)
      · intro v m2 j p t hm2 hj hp ht
        have hji : j ≠ i := by
          rintro rfl
          have := List.mem_of_getElem? hj
          rw [List.contains_eq_mem, decide_eq_false_iff_not] at hni
          exact hni this
        rw [Act.eval_put (fun d hd e2 => by cases e2; exact hok.apart i j o p t ho hp hji hd ht)]
        exact h.ho m2 j p t hm2 hj hp ht
      intro m2 j hj
      have hji : j ≠ i := by
        rintro rfl
        have := List.mem_of_getElem? hj
        rw [List.contains_eq_mem, decide_eq_false_iff_not] at hni
        exact hni this
      rw [getD_set_ne' hji, h.ch m2 j hj]

/-- The obligations one after the other. -/
def OweAllC (P : Program) (md : Region.Mode) (ops : Array Oper) (Q : Exit → Act → World → Prop) (V : Tmp → Value → Prop) (G : Nat → Value → World → Prop) (C : List Nat) (a0 : Act) : Nat → List Oper → Prop
  | _, [] => True
  | k, o :: r => OwesC P md ops Q V G C a0 k o ∧ OweAllC P md ops Q V G C a0 (k + 1) r
theorem OweAllC.get : ∀ {l : List Oper} {k : Nat}, OweAllC P md ops Q V G C a0 k l → ∀ (i : Nat) (o : Oper), l[i]? = some o → OwesC P md ops Q V G C a0 (k + i) o
  | _ :: _, k, h, 0, o, hi => by cases hi; exact h.1
  | _ :: r, k, h, i + 1, o, hi => by
    have := OweAllC.get h.2 i o (by simpa using hi)
    rwa [show k + 1 + i = k + (i + 1) by omega] at this
  | [], _, _, i, o, hi => by simp at hi
theorem OweAllC.cons {k : Nat} {o : Oper} {r : List Oper} (h : OwesC P md ops Q V G C a0 k o) (h2 : OweAllC P md ops Q V G C a0 (k + 1) r) : OweAllC P md ops Q V G C a0 k (o :: r) := ⟨h, h2⟩
theorem OweAllC.nil {k : Nat} : OweAllC P md ops Q V G C a0 k [] := trivial

theorem wp_region_chain {id : Nat} {w : World} (V : Tmp → Value → Prop) (G : Nat → Value → World → Prop) (C : List Nat) (N : Nat) (hm : P.follows .mixedOrders = true) (hok : drawOk ops N = true) (hN : a0.tmps.size = N)
    (hch : chainOk .any ops C = true) (hnd : decide C.Nodup = true) (hCl : C.all (· < ops.size) = true) (hG : G 0 undef w.drew)
    (step : OweAllC P .any ops Q V G C a0 0 ops.toList)
    (fin : ∀ f w x, G C.length x w → (∀ (m i : Nat) (o : Oper) (t : Tmp), C.length = m + 1 → C[m]? = some i → ops[i]? = some o → o.dst = some t → f t = x) → (∀ (i : Nat) (o : Oper) (t : Tmp), ops[i]? = some o → o.dst = some t → V t (f t)) → Q .normal (puts f (dsts ops) a0) w) : (Code.region id ops true).wp P Q a0 w := by
  subst hN
  have hok := drawOk_spec hok
  have hCl' : ∀ i ∈ C, i < ops.size := fun i hi => by simpa using List.all_eq_true.1 hCl i hi
  have hL0 : ∀ i, i < ops.size → (Array.replicate ops.size false).getD i true = false := fun i hi => by simp [hi]
  refine wp_region_any hm (wpAny_chain (V := V) (G := G) (C := C) hok hch (of_decide_eq_true hnd) hCl' (fun i o ho => ?_) (fun a w x ha hg hh hv => ?_) ops.size _ a0 _ 0 undef (unl_le _ _) (by simp) ⟨hG, (fun m i o t h => by omega), Nat.zero_le _, ?_, ?_, ⟨rfl, rfl, fun _ _ => rfl⟩, (fun _ _ _ _ _ _ => rfl), ?_⟩)
  · have := step.get i o (by simpa using ho)
    rwa [Nat.zero_add] at this
  · rw [ha.puts hok]
    exact fin _ w x hg hh hv
  · intro m i hi
    have := hCl' i (List.mem_of_getElem? hi)
    rw [hL0 i this]
    simp
  · intro i o ho hl
    rw [hL0 i (Array.getElem?_eq_some_iff.1 ho).1] at hl; cases hl
  · intro i o t ho hl _
    rw [hL0 i (Array.getElem?_eq_some_iff.1 ho).1] at hl; cases hl

/-- An operation beside the chain that yields a value and turns nothing. -/
theorem owesC_val {i : Nat} {o : Oper} {t : Tmp} (b : Nat) (hb : aheadOf md ops C i b = true) (hni : C.contains i = false) (hi : ops[i]? = some o) (ht : o.dst = some t)
    (h : ∀ k a w x, k ≤ b → AgreeC ops C k a0 a → G k x w → AllV (fun t v _ => V t v) a w (waits md ops o) → ∃ v, Region.wanted o (yielded ops a.tmps) = true ∧ (execOp a.eval o).run P w = .ok (.value v) w ∧ V t v) : OwesC P md ops Q V G C a0 i o := by
  refine .inr ⟨hni, b, hb, fun k hk a w x ha hG hV => ?_⟩
  obtain ⟨v, hw, hr, hv⟩ := h k a w x hk ha hG hV
  unfold wpOp
  rw [hi]
  simp only [hw, if_true, Oper.wp, hr, Oper.upon]
  exact .inl ⟨v, rfl, fun u hu => by rw [ht] at hu; cases hu; exact hv, hG⟩
/-- A call beside the chain. -/
theorem owesC_side {i : Nat} {o : Oper} {t : Tmp} (b : Nat) (hb : aheadOf md ops C i b = true) (hni : C.contains i = false) (hi : ops[i]? = some o) (ht : o.dst = some t) (f : FuncId)
    (h : ∀ k a w x, k ≤ b → AgreeC ops C k a0 a → G k x w → AllV (fun t v _ => V t v) a w (waits md ops o) → ∃ args, Region.wanted o (yielded ops a.tmps) = true ∧ (execOp a.eval o).run P w = .ok (.enter f args) w ∧
      Calls P f args w fun e w' => ∃ v, e = .returned v ∧ V t v ∧ G k x w') : OwesC P md ops Q V G C a0 i o := by
  refine .inr ⟨hni, b, hb, fun k hk a w x ha hG hV => ?_⟩
  obtain ⟨args, hw, hr, hc⟩ := h k a w x hk ha hG hV
  unfold wpOp
  rw [hi]
  simp only [hw, if_true, Oper.wp, hr, Oper.upon]
  refine .inl (hc.mono ?_)
  rintro e w' ⟨v, rfl, h1, h2⟩
  exact ⟨v, rfl, fun u hu => by rw [ht] at hu; cases hu; exact h1, h2⟩
/-- A call of the chain. -/
theorem owesC_call {i : Nat} {o : Oper} {t : Tmp} (m : Nat) (hm : C[m]? = some i) (hi : ops[i]? = some o) (ht : o.dst = some t) (f : FuncId)
    (h : ∀ a w x, AgreeC ops C m a0 a → G m x w → Holds' ops C a m x → AllV (fun t v _ => V t v) a w (waits md ops o) → ∃ args, Region.wanted o (yielded ops a.tmps) = true ∧ (execOp a.eval o).run P w = .ok (.enter f args) w ∧
      Calls P f args w fun e w' => ∃ v, e = .returned v ∧ V t v ∧ G (m + 1) v w') : OwesC P md ops Q V G C a0 i o := by
  refine .inl ⟨m, hm, fun a w x ha hG hh hV => ?_⟩
  obtain ⟨args, hw, hr, hc⟩ := h a w x ha hG hh hV
  unfold wpOp
  rw [hi]
  simp only [hw, if_true, Oper.wp, hr, Oper.upon]
  refine .inl (hc.mono ?_)
  rintro e w' ⟨v, rfl, h1, h2⟩
  exact ⟨v, rfl, fun u hu => by rw [ht] at hu; cases hu; exact h1, h2⟩
/-- An operation of the chain that yields a value and turns memory. -/
theorem owesC_mem {i : Nat} {o : Oper} {t : Tmp} (m : Nat) (hm : C[m]? = some i) (hi : ops[i]? = some o) (ht : o.dst = some t)
    (h : ∀ a w x, AgreeC ops C m a0 a → G m x w → Holds' ops C a m x → AllV (fun t v _ => V t v) a w (waits md ops o) → ∃ v w', Region.wanted o (yielded ops a.tmps) = true ∧ (execOp a.eval o).run P w = .ok (.value v) w' ∧ V t v ∧ G (m + 1) v w') : OwesC P md ops Q V G C a0 i o := by
  refine .inl ⟨m, hm, fun a w x ha hG hh hV => ?_⟩
  obtain ⟨v, w', hw, hr, h1, h2⟩ := h a w x ha hG hh hV
  unfold wpOp
  rw [hi]
  simp only [hw, if_true, Oper.wp, hr, Oper.upon]
  exact .inl ⟨v, rfl, fun u hu => by rw [ht] at hu; cases hu; exact h1, h2⟩
/-- A store of the chain. -/
theorem owesC_store {i : Nat} {o : Oper} (m : Nat) (hm : C[m]? = some i) (hi : ops[i]? = some o) (ht : o.dst = none)
    (h : ∀ a w x, AgreeC ops C m a0 a → G m x w → Holds' ops C a m x → AllV (fun t v _ => V t v) a w (waits md ops o) → ∃ w', Region.wanted o (yielded ops a.tmps) = true ∧ (execOp a.eval o).run P w = .ok .skip w' ∧ G (m + 1) undef w') : OwesC P md ops Q V G C a0 i o := by
  refine .inl ⟨m, hm, fun a w x ha hG hh hV => ?_⟩
  obtain ⟨w', hw, hr, h2⟩ := h a w x ha hG hh hV
  unfold wpOp
  rw [hi]
  simp only [hw, if_true, Oper.wp, hr, Oper.upon]
  exact .inl ⟨undef, rfl, fun u hu => (by rw [ht] at hu; cases hu), h2⟩
/-- An operation of the chain by its own law (an append). -/
theorem owesC_law {i : Nat} {o : Oper} (m : Nat) (hm : C[m]? = some i) (hi : ops[i]? = some o)
    (h : ∀ a w x, AgreeC ops C m a0 a → G m x w → Holds' ops C a m x → AllV (fun t v _ => V t v) a w (waits md ops o) → Region.wanted o (yielded ops a.tmps) = true ∧
      ∀ K : Act → World → Prop, (∀ v w', (∀ t, o.dst = some t → V t v) → G (m + 1) v w' → K (a.put o.dst v) w') → o.wp P a w K Q) : OwesC P md ops Q V G C a0 i o := by
  refine .inl ⟨m, hm, fun a w x ha hG hh hV => ?_⟩
  obtain ⟨hw, hl⟩ := h a w x ha hG hh hV
  unfold wpOp
  rw [hi]
  simp only [hw, if_true]
  exact .inl (hl _ (fun v w' h1 h2 => ⟨v, rfl, h1, h2⟩))
end
end Go.Proofs.YtjjkobbajbbgdaaGreatDoor
namespace Go.Proofs.YtjjkobbajbbgdaaGreatDoor
open Go
/-- A slot is written, by an operation of no region. -/
def mv (t : Tmp) (v : Value) : Oper := { dst := some t, op := .move (.const v), type := 0, pos := "", after := #[], guard := none }
theorem moves_back {P : Program} {ops : Array Oper} {Q : Exit → Act → World → Prop} (f : Tmp → Value) : ∀ (l : List Tmp) (a : Act) (w : World), wpList P ops Q (l.map fun t => mv t (f t)) a w → Q .normal (puts f l a) w
  | [], _, _, h => h
  | t :: r, a, w, h => by
    refine moves_back (P := P) (ops := ops) f r (a.put (some t) (f t)) w ?_
    rw [List.map_cons, wpList] at h
    have hw : Region.wanted (mv t (f t)) (yielded ops a.tmps) = true := rfl
    rw [if_pos hw] at h
    rcases h with h | h
    · unfold Oper.wp at h
      have he : (execOp a.eval (mv t (f t))).run P w = .ok (.value (f t)) w := rfl
      rw [he] at h
      exact h
    · exfalso
      have he : ((execOp a.eval (mv t (f t))).runT P w #[]).2 = #[] := rfl
      have h1 := h.1.1
      rw [he] at h1
      simp at h1
end Go.Proofs.YtjjkobbajbbgdaaGreatDoor

namespace Go.Proofs.YtjjkobbajbbgdaaGreatDoor
open Go.RowKit

theorem wpList_exec {P : Program} {ops : Array Oper} {rest : List Oper} {o : Oper} {a : Act} {w w' : World} {Q : Exit → Act → World → Prop} {v : Value} (hgd : o.guard = none) (hr : (execOp a.eval o).run P w = .ok (.value v) w') (h : wpList P ops Q rest (a.put o.dst v) w') : wpList P ops Q (o :: rest) a w := by
  refine wpList_plain hgd fun K hK => ?_
  unfold Oper.wp
  rw [hr]
  exact hK _ _ h
def nmOf (s : List UInt8) : Nm := ⟨idL s, idL_len s⟩
theorem id_neq (x y : List UInt8) (hx : x.length = 32) (hy : y.length = 32) (w : World) : (binOp .neq 36 (.agg (vals x).toArray) (.agg (vals y).toArray)).run Tryz.prog w = .ok (.bool (!(x == y))) w := by
  have h := id_eql x y hx hy w
  simp only [binOp, Sem.run_bind] at h ⊢
  cases hr : (Op.equal 36 (.agg (vals x).toArray) (.agg (vals y).toArray)).run Tryz.prog w with
  | ok b w1 =>
    rw [hr] at h
    simp only [Result.andThen_ok, Sem.run_pure, Result.ok.injEq, Value.bool.injEq] at h ⊢
    exact ⟨by rw [h.1], h.2⟩
  | _ => rw [hr] at h; simp [Result.andThen] at h

/-- Is the j-th another than the one ahead of it? -/
def kp (L : List Nm) : Nat → Bool
  | 0 => true
  | j + 1 => !((L[j + 1]?.map (·.1)) == (L[j]?.map (·.1)))
theorem kp_succ (L : List Nm) (j : Nat) (h : j + 1 < L.length) : kp L (j + 1) = !(L[j + 1].1 == L[j].1) := by
  show (!((L[j + 1]?.map (·.1)) == (L[j]?.map (·.1)))) = _
  rw [List.getElem?_eq_getElem h, List.getElem?_eq_getElem (by omega)]
  simp
/-- Of the first n those that are. -/
def cpt (L : List Nm) : Nat → List Nm
  | 0 => []
  | n + 1 => if kp L n then cpt L n ++ (L[n]?).toList else cpt L n
theorem cpt_keep {L : List Nm} {n : Nat} (h : n < L.length) (hk : kp L n = true) : cpt L (n + 1) = cpt L n ++ [L[n]] := by
  rw [cpt, if_pos hk, List.getElem?_eq_getElem h]; rfl
theorem cpt_skip {L : List Nm} {n : Nat} (hk : kp L n = false) : cpt L (n + 1) = cpt L n := by
  rw [cpt, if_neg (by rw [hk]; decide)]
theorem cpt_len (L : List Nm) (n : Nat) (h : n ≤ L.length) : (cpt L n).length ≤ n := by
  induction n with
  | zero => exact Nat.le_refl _
  | succ n ih =>
    have := ih (by omega)
    cases hk : kp L n with
    | true => rw [cpt_keep (by omega) hk, List.length_append]; simp; omega
    | false => rw [cpt_skip hk]; omega
theorem cpt_all {L : List Nm} {n : Nat} (hn : n ≤ L.length) (h : ∀ j, j < n → kp L j = true) : cpt L n = L.take n := by
  induction n with
  | zero => simp [cpt]
  | succ n ih => rw [cpt_keep (by omega) (h n (by omega)), ih (by omega) (fun j hj => h j (by omega)), ← List.take_succ_eq_append_getElem (by omega)]

section
variable {α : Type} {E : Enc α}
theorem Rw.parts {T : TypeId} {w : World} {g cap : Nat} {M : List α} (h : Rw E T w (some ⟨g, 0, none⟩) cap M) :
    ∃ cur : Array Value, w.heap[g]? = some (.cells cur T (0, 0)) ∧ cur.size = cap * E.k ∧ M.length ≤ cap ∧ cap ≤ maxLen ∧ ∃ R, cur.toList = E.all M ++ R := by
  rcases h.shape with ⟨e, _⟩ | ⟨g', e, hl, h1, h2, cur, hh, h3, h4⟩
  · cases e
  · cases e
    exact ⟨cur, hh, h3, h1, h2, cur.toList.drop (M.length * E.k), by rw [← h4, List.take_append_drop]⟩
/-- One is set. -/
theorem Rw.setAt {T : TypeId} {w : World} {g cap : Nat} {M : List α} (h : Rw E T w (some ⟨g, 0, none⟩) cap M) (i : Nat) (hi : i < M.length) (x : α) :
    ∃ cur : Array Value, w.heap[g]? = some (.cells cur T (0, 0)) ∧ i * E.k + E.k ≤ cur.size ∧
      Rw E T (w.setRow g (cur.toList.take (i * E.k) ++ E.f x ++ cur.toList.drop (i * E.k + E.k)).toArray) (some ⟨g, 0, none⟩) cap (M.set i x) := by
  obtain ⟨cur, hh, h3, h1, h2, R, hR⟩ := h.parts
  have hik : i * E.k + E.k ≤ M.length * E.k := by have := Nat.mul_le_mul_right E.k (show i + 1 ≤ M.length from hi); rwa [Nat.add_mul, Nat.one_mul] at this
  have hlen : (E.all M ++ R).length = cap * E.k := by rw [← hR, Array.length_toList, h3]
  have hM : M = M.take i ++ M[i] :: M.drop (i + 1) := by rw [← List.drop_eq_getElem_cons hi, List.take_append_drop]
  have hA : (E.all (M.take i)).length = i * E.k := by rw [E.all_len, List.length_take, Nat.min_eq_left (by omega)]
  have hall : E.all M = E.all (M.take i) ++ (E.f M[i] ++ E.all (M.drop (i + 1))) := by
    conv => lhs; rw [hM]
    rw [E.all_app]; rfl
  have hset : E.all (M.set i x) = E.all (M.take i) ++ (E.f x ++ E.all (M.drop (i + 1))) := by
    rw [List.set_eq_take_append_cons_drop, if_pos hi, E.all_app]; rfl
  have hnew : cur.toList.take (i * E.k) ++ E.f x ++ cur.toList.drop (i * E.k + E.k) = E.all (M.set i x) ++ R := by
    rw [hR, hall, hset]
    rw [List.append_assoc (E.all (M.take i)), List.append_assoc (E.f M[i]), List.take_left' hA, ← List.drop_drop, List.drop_left' hA, List.drop_left' (E.len _)]
    simp
  refine ⟨cur, hh, by rw [h3]; have := Nat.mul_le_mul_right E.k h1; omega, ?_⟩
  rw [hnew]
  refine Rw.of_row (setRow_heap w g cur _ T (0, 0) hh) (by rw [List.length_set]; exact h1) h2 ?_ ?_
  · rw [List.size_toArray, ← hlen, List.length_append, List.length_append, E.all_len, E.all_len, List.length_set]
  · rw [List.toList_toArray, List.take_left' (by rw [E.all_len])]
/-- The end is overwritten. -/
theorem Rw.clearAt {T : TypeId} {w : World} {g cap : Nat} {M : List α} (h : Rw E T w (some ⟨g, 0, none⟩) cap M) (i : Nat) (hi : i ≤ M.length) (Z : List Value) (hZ : Z.length = (M.length - i) * E.k) :
    ∃ cur : Array Value, w.heap[g]? = some (.cells cur T (0, 0)) ∧ i * E.k + Z.length ≤ cur.size ∧
      Rw E T (w.setRow g (cur.toList.take (i * E.k) ++ Z ++ cur.toList.drop (i * E.k + Z.length)).toArray) (some ⟨g, 0, none⟩) cap (M.take i) := by
  obtain ⟨cur, hh, h3, h1, h2, R, hR⟩ := h.parts
  have hik : i * E.k + Z.length = M.length * E.k := by rw [hZ, ← Nat.add_mul]; congr 1; omega
  have hlen : (E.all M ++ R).length = cap * E.k := by rw [← hR, Array.length_toList, h3]
  have hA : (E.all (M.take i)).length = i * E.k := by rw [E.all_len, List.length_take, Nat.min_eq_left (by omega)]
  have hall : E.all M = E.all (M.take i) ++ E.all (M.drop i) := by rw [← E.all_app, List.take_append_drop]
  have hm := Nat.mul_le_mul_right E.k h1
  have htk : cur.toList.take (i * E.k) = E.all (M.take i) := by rw [hR, hall, List.append_assoc, List.take_left' hA]
  refine ⟨cur, hh, by rw [h3]; omega, ?_⟩
  refine Rw.of_row (setRow_heap w g cur _ T (0, 0) hh) (by rw [List.length_take]; omega) h2 ?_ ?_
  · rw [List.size_toArray, List.length_append, List.length_append, List.length_take, List.length_drop, Array.length_toList, h3]; omega
  · rw [List.toList_toArray, htk, List.append_assoc, List.take_left' (by rw [hA, List.length_take, Nat.min_eq_left hi])]
end
theorem exec_store_at {P : Program} {o : Oper} {a : Act} {w : World} (ty : TypeId) (x y : Operand) (ho : o.op = .store ty x y)
    (g off : Nat) (hx : a.eval x = .pointer (some ⟨g, off, none⟩)) (t : TypeId) (old : Array Value) (vs : List Value) (hy : a.eval y = .agg vs.toArray) (hg : w.heap[g]? = some (.cells old t (0, 0))) (hsz : off + vs.length ≤ old.size)
    (hi : (P.info? ty).map (·.size) = some vs.length) (h1 : ∀ v ∈ vs, v.oneCell' = true) : (execOp a.eval o).run P w = .ok .skip (w.setRow g (old.toList.take off ++ vs ++ old.toList.drop (off + vs.length)).toArray) := by
  have hst := run_storeCells_at P g off t vs 0 old w hg (by omega) h1
  rw [Nat.add_zero] at hst
  cases hq : P.info? ty with
  | none => simp [hq] at hi
  | some i =>
    have hs : i.size = vs.length := by simpa [hq] using hi
    have hv : (storeVar ty ⟨g, off, none⟩ (.agg vs.toArray)).run P w = .ok () (w.setRow g (old.toList.take off ++ vs ++ old.toList.drop (off + vs.length)).toArray) := by
      simp [storeVar, sizeOf, typeInfo, hq, hs, Value.cells, hst]
    unfold execOp
    simp only [ho, hx, hy, Instr.storeAt, Instr.sureAddr, Sem.run_bind, Sem.run_pure, Result.andThen_ok, hv]
theorem wpList_skip {P : Program} {ops : Array Oper} {rest : List Oper} {o : Oper} {a : Act} {w w' : World} {Q : Exit → Act → World → Prop} (hgd : o.guard = none) (hdst : o.dst = none) (hr : (execOp a.eval o).run P w = .ok .skip w') (h : wpList P ops Q rest a w') : wpList P ops Q (o :: rest) a w := by
  refine wpList_plain hgd fun K hK => ?_
  unfold Oper.wp
  rw [hr]
  exact hK _ _ (by rw [hdst]; exact h)
/-- clear of a slice of names. -/
theorem clear_names (g off n c : Nat) (w : World) (cur : Array Value) (hg : w.heap[g]? = some (.cells cur 36 (0, 0))) (hn : 0 < n) (hsz : off + n * 32 ≤ cur.size) : ∃ Z : List Value, Z.length = n * 32 ∧ ∀ ty,
    (Builtin.clear_ #[62] ty #[.slice (some ⟨g, off, none⟩) n c]).run Tryz.prog w = .ok (.tuple #[]) (w.setRow g (cur.toList.take off ++ Z ++ cur.toList.drop (off + Z.length)).toArray) := by
  obtain ⟨m, rfl⟩ : ∃ m, n = m + 1 := ⟨n - 1, by omega⟩
  refine ⟨(Builtin.zeroCells (vals zid).toArray (m + 1)).toList, ?_, fun ty => ?_⟩
  · simp [Builtin.zeroCells, vals_len, zid]
  have hl : (Builtin.zeroCells (vals zid).toArray (m + 1)).toList.length = (m + 1) * 32 := by simp [Builtin.zeroCells, vals_len, zid]
  have h1 : ∀ v ∈ (Builtin.zeroCells (vals zid).toArray (m + 1)).toList, v.oneCell' = true := by
    intro v hv
    simp [Builtin.zeroCells] at hv
    obtain ⟨j, hj, rfl⟩ := hv
    cases hq : (vals zid)[j % (vals zid).length]? with
    | none => rfl
    | some u => exact vals_one _ _ (List.mem_of_getElem? hq)
  have hst := run_storeCells_at Tryz.prog g off 36 _ 0 cur w hg (by rw [hl]; omega) h1
  rw [Nat.add_zero] at hst
  have hz := zid_run
  generalize vals zid = V at hst hz ⊢
  simp [Builtin.clear_, run_underlying (Tryz.underlying62), hz, Value.cells, hst]
end Go.Proofs.YtjjkobbajbbgdaaGreatDoor

namespace Go.Proofs.YtjjkobbajbbgdaaGreatDoor
open Go.RowKit

theorem mid_len {L C : List Nm} (h : C.length ≤ L.length) : (C ++ L.drop C.length).length = L.length := by simp; omega
theorem mid_get {L C : List Nm} (j : Nat) (h : C.length ≤ j) (hj : j < L.length) (hj2 : j < (C ++ L.drop C.length).length) : (C ++ L.drop C.length)[j] = L[j] := by
  rw [List.getElem_append_right h, List.getElem_drop]; congr 1; omega
theorem mid_set {L C : List Nm} (x : Nm) (h : C.length < L.length) : (C ++ L.drop C.length).set C.length x = (C ++ [x]) ++ L.drop (C ++ [x]).length := by
  rw [List.set_append_right _ _ (Nat.le_refl _), Nat.sub_self, List.drop_eq_getElem_cons h, List.set_cons_zero]; simp
theorem Rw.at {T : TypeId} {w : World} {g cap : Nat} {M : List Nm} (h : Rw encN T w (some ⟨g, 0, none⟩) cap M) (j : Nat) (hj : j < M.length) (o : Nat) (ho : o = j * 32) :
    ∀ i u, (encN.f M[j])[i]? = some u → w.cell? ⟨g, o + i, none⟩ = some u := by
  obtain ⟨b, off, e, _, hc⟩ := h.rd j hj
  cases e
  intro i u hu
  have := hc i u hu
  rw [ho]; simpa [encN] using this

/-- Fewer than two. -/
theorem compact_few (p : Option Addr) (n cap : Nat) (w : World) (h : n < 2) : Calls Tryz.prog 22 #[.slice p n cap] w fun r w' => r = .returned (.slice p n cap) ∧ w' = w := by
  have h1 : (n : Int) < 2 := by omega
  clear h
  go_enter Tryz.func22, Tryz.ntmps22
  go_wp2_with fail
  go_ret
  exact ⟨rfl, rfl⟩

set_option maxRecDepth 20000 in
set_option maxHeartbeats 4000000 in
theorem compact_any (g cap : Nat) (L : List Nm) (w : World) (hL : Rw encN 36 w (some ⟨g, 0, none⟩) cap L) (hn : L.length ≤ 1000000) (h2 : 2 ≤ L.length) :
    Calls Tryz.prog 22 #[.slice (some ⟨g, 0, none⟩) L.length cap] w fun r w' => r = .returned (.slice (some ⟨g, 0, none⟩) (cpt L L.length).length cap) ∧ Rw encN 36 w' (some ⟨g, 0, none⟩) cap (cpt L L.length) ∧ Mod (fun i => i = g) w w' := by
  have hcap := hL.cap_le
  obtain ⟨n, hnL⟩ : ∃ n, n = L.length := ⟨_, rfl⟩
  obtain ⟨o, ho⟩ : ∃ o, o = 0 := ⟨_, rfl⟩
  rw [← hnL] at hn h2 hcap ⊢
  have Hn := Lib.hid hnL
  have HL := Lib.hid hL
  have Ho := Lib.hid ho
  have HM := Lib.hid (Mod.refl (fun i => i = g) w)
  obtain ⟨F, hF⟩ : ∃ F : Ending → World → Prop, F = fun r w' => r = .returned (.slice (some ⟨g, 0, none⟩) (cpt L n).length cap) ∧ Rw encN 36 w' (some ⟨g, 0, none⟩) cap (cpt L n) ∧ Mod (fun i => i = g) w w' := ⟨_, rfl⟩
  have HF := Lib.hid hF
  show Calls _ _ _ _ (fun r w' => r = .returned (.slice (some ⟨g, 0, none⟩) (cpt L n).length cap) ∧ Rw encN 36 w' (some ⟨g, 0, none⟩) cap (cpt L n) ∧ Mod (fun i => i = g) w w')
  rw [← hF, ← ho]
  clear hnL hL ho hF
  have i2 : ¬ (n : Int) < 2 := by omega
  go_enter Tryz.func22, Tryz.ntmps22
  go_wp2_with fail
  go_loopw [3] (fun s3 wr => ∃ k : Nat, k + 1 ≤ n ∧ s3 = .int .i64 ((k : Int) + 1) ∧ Hid (∀ j, j < k + 1 → kp L j = true) ∧ Hid (Rw encN 36 wr (some ⟨g, 0, none⟩) cap L ∧ Mod (fun i => i = g) w wr)) (fun i _ => n + 1 - (intOf i).toNat)
  case atStart => exact ⟨0, by omega, by go_num, Lib.hid (fun j hj => by obtain rfl : j = 0 := (by omega); rfl), Lib.hid ⟨HL.out, HM.out⟩⟩
  case round =>
    clear HL HM
    obtain ⟨k, hk, rfl, hkp, HB⟩ := hrel
    by_cases hlt : k + 1 < n
    · have h1 : k < L.length := by rw [← Hn.out]; omega
      have h3 : k + 1 < L.length := by rw [← Hn.out]; omega
      have c1 := HB.out.1.at k h1 (o + k * 32) (by rw [Ho.out, Nat.zero_add])
      have c2 := HB.out.1.at (k + 1) h3 (o + (k + 1) * 32) (by rw [Ho.out, Nat.zero_add])
      have hgl : g < wr.heap.size := HB.out.1.lt
      have hkk := kp_succ L k h3
      obtain ⟨y, hy⟩ : ∃ y, y = L[k] := ⟨_, rfl⟩
      obtain ⟨x, hx⟩ : ∃ x, x = L[k + 1] := ⟨_, rfl⟩
      rw [← hy] at c1 hkk
      rw [← hx] at c2 hkk
      have C1 : Hid (∀ w', Below wr.heap.size wr w' → ∀ i u, (encN.f y)[i]? = some u → w'.cell? ⟨g, o + k * 32 + i, none⟩ = some u) := Lib.hid (fun w' hb i u hu => (World.cell?_of_block (hb.block g hgl)).trans (c1 i u hu))
      have C2 : Hid (∀ w', Below wr.heap.size wr w' → ∀ i u, (encN.f x)[i]? = some u → w'.cell? ⟨g, o + (k + 1) * 32 + i, none⟩ = some u) := Lib.hid (fun w' hb i u hu => (World.cell?_of_block (hb.block g hgl)).trans (c2 i u hu))
      obtain ⟨D, hD⟩ : ∃ D, D = (x.1 == y.1) := ⟨_, rfl⟩
      have Heq : Hid (∀ w, (binOp .eql 36 (.agg (vals x.1).toArray) (.agg (vals y.1).toArray)).run Tryz.prog w = .ok (.bool D) w) := Lib.hid (fun w => by rw [hD]; exact id_eql x.1 y.1 x.2 y.2 w)
      rw [← hD] at hkk
      have Hkk := Lib.hid hkk
      have Hlt := Lib.hid hlt
      have i0 : (0 : Int) ≤ k := by omega
      have i1 : (k : Int) < n := by omega
      have i3 : (k : Int) + 1 < n := by omega
      have e1 : IntKind.i64.wrap ((k : Int) + 1 - 1) = (k : Int) := by rw [IntWalk.i64_in _ (by omega)]; omega
      have e0 : IntKind.i64.wrap (k : Int) = (k : Int) := IntWalk.i64_in _ (by omega)
      have e2 : ((k : Int) + 1).toNat = k + 1 := by omega
      have e3 : (0 : Int) ≤ (k : Int) + 1 := by omega
      clear hy hx c1 c2 hkk hD h1 h3 hlt
      go_wp2_with fail
      refine wp_region_puts (fun t v w => VK (match t with
        | 16 => .eq (.slice (some ⟨g, o, none⟩) n cap)
        | 17 => .eq (.int .i64 ((k : Int) + 1))
        | 18 => .eq (.pointer (some ⟨g, o + (k + 1) * 32, none⟩))
        | 19 => .eq (.agg (vals x.1).toArray)
        | 20 => .eq (.slice (some ⟨g, o, none⟩) n cap)
        | 21 => .eq (.int .i64 ((k : Int) + 1))
        | 22 => .eq (.int .i64 (k : Int))
        | 23 => .eq (.pointer (some ⟨g, o + k * 32, none⟩))
        | 24 => .eq (.agg (vals y.1).toArray)
        | 25 => .eq (.bool D)
        | _ => .any) v w) (fun w' => Below wr.heap.size wr w') 61 (by kernel_rfl) (by decide +kernel) rfl (Below.refl _ _).drew (by
        refine OweAll.cons (owesK rfl rfl fun a w1 ha hG hV => ?_) ?_
        · skip
          have h0 := ha.outer 0 (by decide +kernel)
          simp only [Act.eval] at h0
          exact ⟨.slice (some ⟨g, o, none⟩) n cap, w1, wanted_free rfl, by simp [execOp, go_sem, h0], Below.refl _ _, rfl⟩
        refine OweAll.cons (owesK rfl rfl fun a w1 ha hG hV => ?_) ?_
        · skip
          have h3 := ha.outer 3 (by decide +kernel)
          simp only [Act.eval] at h3
          exact ⟨.int .i64 ((k : Int) + 1), w1, wanted_free rfl, by simp [execOp, go_sem, h3], Below.refl _ _, rfl⟩
        refine OweAll.cons (owesK rfl rfl fun a w1 ha hG hV => ?_) ?_
        · skip
          have h16 : a.tmps.getD 16 undef = .slice (some ⟨g, o, none⟩) n cap := hV.get 16 (by decide +kernel)
          have h17 : a.tmps.getD 17 undef = .int .i64 ((k : Int) + 1) := hV.get 17 (by decide +kernel)
          exact ⟨.pointer (some ⟨g, o + (k + 1) * 32, none⟩), w1, wanted_free rfl, by simp [execOp, go_sem, h16, h17, e2, e3, i3], Below.refl _ _, rfl⟩
        refine OweAll.cons (owesK rfl rfl fun a w1 ha hG hV => ?_) ?_
        · skip
          have h18 : a.tmps.getD 18 undef = .pointer (some ⟨g, o + (k + 1) * 32, none⟩) := hV.get 18 (by decide +kernel)
          exact ⟨.agg (vals x.1).toArray, w1, wanted_free rfl, exec_load_mid (.tmp 18) rfl g (o + (k + 1) * 32) h18 x (C2.out w1 hG), Below.refl _ _, rfl⟩
        refine OweAll.cons (owesK rfl rfl fun a w1 ha hG hV => ?_) ?_
        · skip
          have h0 := ha.outer 0 (by decide +kernel)
          simp only [Act.eval] at h0
          exact ⟨.slice (some ⟨g, o, none⟩) n cap, w1, wanted_free rfl, by simp [execOp, go_sem, h0], Below.refl _ _, rfl⟩
        refine OweAll.cons (owesK rfl rfl fun a w1 ha hG hV => ?_) ?_
        · skip
          have h3 := ha.outer 3 (by decide +kernel)
          simp only [Act.eval] at h3
          exact ⟨.int .i64 ((k : Int) + 1), w1, wanted_free rfl, by simp [execOp, go_sem, h3], Below.refl _ _, rfl⟩
        refine OweAll.cons (owesK rfl rfl fun a w1 ha hG hV => ?_) ?_
        · skip
          have h21 : a.tmps.getD 21 undef = .int .i64 ((k : Int) + 1) := hV.get 21 (by decide +kernel)
          exact ⟨.int .i64 (k : Int), w1, wanted_free rfl, by simp [execOp, go_sem, h21, e0], Below.refl _ _, rfl⟩
        refine OweAll.cons (owesK rfl rfl fun a w1 ha hG hV => ?_) ?_
        · skip
          have h20 : a.tmps.getD 20 undef = .slice (some ⟨g, o, none⟩) n cap := hV.get 20 (by decide +kernel)
          have h22 : a.tmps.getD 22 undef = .int .i64 (k : Int) := hV.get 22 (by decide +kernel)
          exact ⟨.pointer (some ⟨g, o + k * 32, none⟩), w1, wanted_free rfl, by simp [execOp, go_sem, h20, h22, i0, i1], Below.refl _ _, rfl⟩
        refine OweAll.cons (owesK rfl rfl fun a w1 ha hG hV => ?_) ?_
        · skip
          have h23 : a.tmps.getD 23 undef = .pointer (some ⟨g, o + k * 32, none⟩) := hV.get 23 (by decide +kernel)
          exact ⟨.agg (vals y.1).toArray, w1, wanted_free rfl, exec_load_mid (.tmp 23) rfl g (o + k * 32) h23 y (C1.out w1 hG), Below.refl _ _, rfl⟩
        refine OweAll.cons (owesK rfl rfl fun a w1 ha hG hV => ?_) ?_
        · skip
          have h19 : a.tmps.getD 19 undef = .agg (vals x.1).toArray := hV.get 19 (by decide +kernel)
          have h24 : a.tmps.getD 24 undef = .agg (vals y.1).toArray := hV.get 24 (by decide +kernel)
          exact ⟨.bool D, w1, wanted_free rfl, by simp [execOp, go_sem, h19, h24, Heq.out], Below.refl _ _, rfl⟩
        exact OweAll.nil
        ) ?_
      intro f wz hG hv
      have e25 : f 25 = .bool D := hv 9 _ 25 rfl rfl
      rename_i hK
      refine hK _ _ ?_
      clear hK hv
      simp only [dsts, puts, List.filterMap_cons, List.filterMap_nil, List.foldl_cons, List.foldl_nil, Act.put, List.setIfInBounds_toArray, List.set_cons_succ, List.set_cons_zero, e25]
      clear e25
      have HG : Hid (Rw encN 36 wz (some ⟨g, 0, none⟩) cap L ∧ Mod (fun i => i = g) w wz) := Lib.hid ⟨HB.out.1.old hG, HB.out.2.trans (Mod.of_below hG) (fun i hi h => by have := HB.out.2.size; omega)⟩
      clear hG HB
      have hkl := Hlt.out
      cases D with
      | false =>
        have hnx : Hid (∀ j, j < k + 1 + 1 → kp L j = true) := Lib.hid (fun j hj => by
          by_cases e : j = k + 1
          · rw [e]; exact Hkk.out
          · exact hkp.out j (by omega))
        go_wp2_with fail
        go_roundw
        case rel => exact ⟨k + 1, by omega, by go_num, hnx, HG⟩
        case measure => simp [intOf]; omega
      | true =>
        have C0 : Hid (cpt L (k + 1 + 0 + 1) = L.take (k + 1) ∧ (L.take (k + 1)).length = k + 1) := Lib.hid ⟨by
          rw [Nat.add_zero, cpt_skip Hkk.out, cpt_all (by have := Hn.out; omega) hkp.out], by rw [List.length_take]; have := Hn.out; omega⟩
        go_wp2_with fail
        clear C1 C2 hkp Heq Hkk i0 i1 e0 e1 hgl
        obtain ⟨o4, ho4⟩ : ∃ o4, o4 = o + (k + 1) * 32 := ⟨_, rfl⟩
        obtain ⟨n4, hn4⟩ : ∃ n4, n4 = n - (k + 1) := ⟨_, rfl⟩
        obtain ⟨c4, hc4⟩ : ∃ c4, c4 = cap - (k + 1) := ⟨_, rfl⟩
        rw [← ho4, ← hn4, ← hc4]
        have Ho4 := Lib.hid ho4
        have Hn4 := Lib.hid hn4
        have Hc4 := Lib.hid hc4
        have n4p : 1 ≤ n4 := by omega
        have c4p : n4 ≤ c4 := by omega
        clear ho4 hn4 hc4
        go_loopw [3, 5] (fun s3 s5 wr => ∃ (m c : Nat) (C : List Nm), m + 1 ≤ n4 ∧ s5 = .int .i64 ((m : Int) + 1) ∧ s3 = .int .i64 (c : Int) ∧ c ≤ k + 1 + m ∧ Hid (C.length = c ∧ C = cpt L (k + 1 + m + 1)) ∧ Hid (Rw encN 36 wr (some ⟨g, 0, none⟩) cap (C ++ L.drop C.length) ∧ Mod (fun i => i = g) w wr)) (fun _ i _ => n4 + 1 - (intOf i).toNat)
        case atStart => exact ⟨0, k + 1, L.take (k + 1), n4p, by go_num, by go_num, by omega, Lib.hid ⟨C0.out.2, C0.out.1.symm⟩, Lib.hid ⟨by rw [C0.out.2, List.take_append_drop]; exact HG.out.1, HG.out.2⟩⟩
        case round =>
          clear HG C0
          obtain ⟨m, c, C, hm, rfl, rfl, hc, HC, HB⟩ := hrel
          have Hcn : Hid (C.length ≤ L.length) := Lib.hid (by rw [HC.out.1, ← Hn.out]; have := Hn4.out; omega)
          by_cases hlm : m + 1 < n4
          · have j1 : k + 1 + m < L.length := by have := Hn4.out; have := Hn.out; omega
            have j2 : k + 1 + m + 1 < L.length := by have := Hn4.out; have := Hn.out; omega
            have hml := mid_len Hcn.out
            have c1 := HB.out.1.at (k + 1 + m) (by rw [hml]; exact j1) (o4 + m * 32) (by rw [Ho4.out, Ho.out]; omega)
            have c2 := HB.out.1.at (k + 1 + m + 1) (by rw [hml]; exact j2) (o4 + (m + 1) * 32) (by rw [Ho4.out, Ho.out]; omega)
            rw [mid_get (k + 1 + m) (by rw [HC.out.1]; exact hc) j1] at c1
            rw [mid_get (k + 1 + m + 1) (by rw [HC.out.1]; omega) j2] at c2
            have hgl : g < wr.heap.size := HB.out.1.lt
            have hkk := kp_succ L (k + 1 + m) j2
            obtain ⟨y, hy⟩ : ∃ y, y = L[k + 1 + m] := ⟨_, rfl⟩
            obtain ⟨x, hx⟩ : ∃ x, x = L[k + 1 + m + 1] := ⟨_, rfl⟩
            rw [← hy] at c1 hkk
            rw [← hx] at c2 hkk
            have C1 : Hid (∀ w', Below wr.heap.size wr w' → ∀ i u, (encN.f y)[i]? = some u → w'.cell? ⟨g, o4 + m * 32 + i, none⟩ = some u) := Lib.hid (fun w' hb i u hu => (World.cell?_of_block (hb.block g hgl)).trans (c1 i u hu))
            have C2 : Hid (∀ w', Below wr.heap.size wr w' → ∀ i u, (encN.f x)[i]? = some u → w'.cell? ⟨g, o4 + (m + 1) * 32 + i, none⟩ = some u) := Lib.hid (fun w' hb i u hu => (World.cell?_of_block (hb.block g hgl)).trans (c2 i u hu))
            obtain ⟨D, hD⟩ : ∃ D, D = (x.1 == y.1) := ⟨_, rfl⟩
            have Hne : Hid (∀ w, (binOp .neq 36 (.agg (vals x.1).toArray) (.agg (vals y.1).toArray)).run Tryz.prog w = .ok (.bool (!D)) w) := Lib.hid (fun w => by rw [hD]; exact id_neq x.1 y.1 x.2 y.2 w)
            rw [← hD] at hkk
            have Hkk := Lib.hid hkk
            have Hx : Hid (∀ h : k + 1 + m + 1 < L.length, L[k + 1 + m + 1] = x) := Lib.hid (fun _ => hx.symm)
            have Hlm := Lib.hid hlm
            have i0 : (0 : Int) ≤ m := by omega
            have i1 : (m : Int) < n4 := by omega
            have i4 : (m : Int) + 1 < n4 := by omega
            have e0 : IntKind.i64.wrap (m : Int) = (m : Int) := IntWalk.i64_in _ (by have := Hn4.out; omega)
            have e4 : ((m : Int) + 1).toNat = m + 1 := by omega
            have e5 : (0 : Int) ≤ (m : Int) + 1 := by omega
            have hkn : k + 1 + m + 1 < n := by have := Hn.out; omega
            clear hy hx c1 c2 hkk hD j1 j2 hml hlm
            go_wp2_with fail
            refine wp_region_puts (fun t v w => VK (match t with
              | 35 => .eq (.slice (some ⟨g, o4, none⟩) n4 c4)
              | 36 => .eq (.int .i64 ((m : Int) + 1))
              | 37 => .eq (.pointer (some ⟨g, o4 + (m + 1) * 32, none⟩))
              | 38 => .eq (.agg (vals x.1).toArray)
              | 39 => .eq (.slice (some ⟨g, o4, none⟩) n4 c4)
              | 40 => .eq (.int .i64 ((m : Int) + 1))
              | 41 => .eq (.int .i64 (m : Int))
              | 42 => .eq (.pointer (some ⟨g, o4 + m * 32, none⟩))
              | 43 => .eq (.agg (vals y.1).toArray)
              | 44 => .eq (.bool (!D))
              | _ => .any) v w) (fun w' => Below wr.heap.size wr w') 61 (by kernel_rfl) (by decide +kernel) rfl (Below.refl _ _).drew (by
              refine OweAll.cons (owesK rfl rfl fun a w1 ha hG hV => ?_) ?_
              · skip
                have h4 := ha.outer 4 (by decide +kernel)
                simp only [Act.eval] at h4
                exact ⟨.slice (some ⟨g, o4, none⟩) n4 c4, w1, wanted_free rfl, by simp [execOp, go_sem, h4], Below.refl _ _, rfl⟩
              refine OweAll.cons (owesK rfl rfl fun a w1 ha hG hV => ?_) ?_
              · skip
                have h5 := ha.outer 5 (by decide +kernel)
                simp only [Act.eval] at h5
                exact ⟨.int .i64 ((m : Int) + 1), w1, wanted_free rfl, by simp [execOp, go_sem, h5], Below.refl _ _, rfl⟩
              refine OweAll.cons (owesK rfl rfl fun a w1 ha hG hV => ?_) ?_
              · skip
                have h35 : a.tmps.getD 35 undef = .slice (some ⟨g, o4, none⟩) n4 c4 := hV.get 35 (by decide +kernel)
                have h36 : a.tmps.getD 36 undef = .int .i64 ((m : Int) + 1) := hV.get 36 (by decide +kernel)
                exact ⟨.pointer (some ⟨g, o4 + (m + 1) * 32, none⟩), w1, wanted_free rfl, by simp [execOp, go_sem, h35, h36, e4, e5, i4], Below.refl _ _, rfl⟩
              refine OweAll.cons (owesK rfl rfl fun a w1 ha hG hV => ?_) ?_
              · skip
                have h37 : a.tmps.getD 37 undef = .pointer (some ⟨g, o4 + (m + 1) * 32, none⟩) := hV.get 37 (by decide +kernel)
                exact ⟨.agg (vals x.1).toArray, w1, wanted_free rfl, exec_load_mid (.tmp 37) rfl g (o4 + (m + 1) * 32) h37 x (C2.out w1 hG), Below.refl _ _, rfl⟩
              refine OweAll.cons (owesK rfl rfl fun a w1 ha hG hV => ?_) ?_
              · skip
                have h4 := ha.outer 4 (by decide +kernel)
                simp only [Act.eval] at h4
                exact ⟨.slice (some ⟨g, o4, none⟩) n4 c4, w1, wanted_free rfl, by simp [execOp, go_sem, h4], Below.refl _ _, rfl⟩
              refine OweAll.cons (owesK rfl rfl fun a w1 ha hG hV => ?_) ?_
              · skip
                have h5 := ha.outer 5 (by decide +kernel)
                simp only [Act.eval] at h5
                exact ⟨.int .i64 ((m : Int) + 1), w1, wanted_free rfl, by simp [execOp, go_sem, h5], Below.refl _ _, rfl⟩
              refine OweAll.cons (owesK rfl rfl fun a w1 ha hG hV => ?_) ?_
              · skip
                have h40 : a.tmps.getD 40 undef = .int .i64 ((m : Int) + 1) := hV.get 40 (by decide +kernel)
                exact ⟨.int .i64 (m : Int), w1, wanted_free rfl, by simp [execOp, go_sem, h40, e0], Below.refl _ _, rfl⟩
              refine OweAll.cons (owesK rfl rfl fun a w1 ha hG hV => ?_) ?_
              · skip
                have h39 : a.tmps.getD 39 undef = .slice (some ⟨g, o4, none⟩) n4 c4 := hV.get 39 (by decide +kernel)
                have h41 : a.tmps.getD 41 undef = .int .i64 (m : Int) := hV.get 41 (by decide +kernel)
                exact ⟨.pointer (some ⟨g, o4 + m * 32, none⟩), w1, wanted_free rfl, by simp [execOp, go_sem, h39, h41, i0, i1], Below.refl _ _, rfl⟩
              refine OweAll.cons (owesK rfl rfl fun a w1 ha hG hV => ?_) ?_
              · skip
                have h42 : a.tmps.getD 42 undef = .pointer (some ⟨g, o4 + m * 32, none⟩) := hV.get 42 (by decide +kernel)
                exact ⟨.agg (vals y.1).toArray, w1, wanted_free rfl, exec_load_mid (.tmp 42) rfl g (o4 + m * 32) h42 y (C1.out w1 hG), Below.refl _ _, rfl⟩
              refine OweAll.cons (owesK rfl rfl fun a w1 ha hG hV => ?_) ?_
              · skip
                have h38 : a.tmps.getD 38 undef = .agg (vals x.1).toArray := hV.get 38 (by decide +kernel)
                have h43 : a.tmps.getD 43 undef = .agg (vals y.1).toArray := hV.get 43 (by decide +kernel)
                exact ⟨.bool (!D), w1, wanted_free rfl, by simp [execOp, go_sem, h38, h43, Hne.out], Below.refl _ _, rfl⟩
              exact OweAll.nil
              ) ?_
            intro f wz hG hv
            have e44 : f 44 = .bool (!D) := hv 9 _ 44 rfl rfl
            rename_i hK
            refine hK _ _ ?_
            clear hK hv
            simp only [dsts, puts, List.filterMap_cons, List.filterMap_nil, List.foldl_cons, List.foldl_nil, Act.put, List.setIfInBounds_toArray, List.set_cons_succ, List.set_cons_zero, e44]
            clear e44
            have HG : Hid (Rw encN 36 wz (some ⟨g, 0, none⟩) cap (C ++ L.drop C.length) ∧ Mod (fun i => i = g) w wz) := Lib.hid ⟨HB.out.1.old hG, HB.out.2.trans (Mod.of_below hG) (fun i hi h => by have := HB.out.2.size; omega)⟩
            have C3 : Hid (∀ i u, (encN.f x)[i]? = some u → wz.cell? ⟨g, o4 + (m + 1) * 32 + i, none⟩ = some u) := Lib.hid (C2.out wz hG)
            clear hG HB C1 C2 Hne
            have hml := Hlm.out
            cases D with
            | true =>
              have hnx : Hid (C = cpt L (k + 1 + (m + 1) + 1)) := Lib.hid (by rw [← Nat.add_assoc, cpt_skip Hkk.out]; exact HC.out.2)
              go_wp2_with fail
              go_roundw
              case rel => exact ⟨m + 1, c, C, by omega, by go_num, rfl, by omega, Lib.hid ⟨HC.out.1, hnx.out⟩, HG⟩
              case measure => simp [intOf]; omega
            | false =>
              have hcL : C.length < L.length := by rw [HC.out.1, ← Hn.out]; omega
              obtain ⟨cur, hh, hsz, hrw⟩ := HG.out.1.setAt C.length (by rw [mid_len Hcn.out]; exact hcL) x
              rw [mid_set x hcL] at hrw
              have HGM := HG.out.2.setRow (g := g) (cur.toList.take (C.length * encN.k) ++ encN.f x ++ cur.toList.drop (C.length * encN.k + encN.k)).toArray
              have hof : o + c * 32 = C.length * 32 := by rw [Ho.out, HC.out.1, Nat.zero_add]
              obtain ⟨W1, hW1⟩ : ∃ W1, W1 = wz.setRow g (cur.toList.take (C.length * encN.k) ++ encN.f x ++ cur.toList.drop (C.length * encN.k + encN.k)).toArray := ⟨_, rfl⟩
              rw [← hW1] at hrw HGM
              have hst : Hid (∀ (oo : Oper) (a : Act), oo.op = .store 36 (.tmp 51) (.tmp 50) → a.eval (.tmp 51) = .pointer (some ⟨g, o + c * 32, none⟩) → a.eval (.tmp 50) = .agg (vals x.1).toArray → (execOp a.eval oo).run Tryz.prog wz = .ok .skip W1) := Lib.hid (fun oo a ho hx hy => by
                rw [hW1]
                have h := exec_store_at (P := Tryz.prog) (w := wz) 36 (.tmp 51) (.tmp 50) ho g (o + c * 32) hx 36 cur (vals x.1) hy hh (by rw [hof, vals_len, x.2]; exact hsz) (by rw [vals_len, x.2]; kernel_rfl) (vals_one x.1)
                rw [hof, vals_len, x.2] at h
                exact h)
              have hnx : Hid (C ++ [x] = cpt L (k + 1 + (m + 1) + 1)) := Lib.hid (by
                have hl : k + 1 + m + 1 < L.length := by rw [← Hn.out]; exact hkn
                rw [← Nat.add_assoc, cpt_keep hl Hkk.out, Hx.out hl, ← HC.out.2])
              have Hw1 := Lib.hid (And.intro hrw (HGM.mono (T := fun i => i = g) (fun i _ h => h.elim id id)))
              have k0 : (0 : Int) ≤ c := by omega
              have k1 : (c : Int) < n := by omega
              clear hh hsz hrw HGM hof hW1 hcL HG
              go_wp2_with (first | (refine wpList_exec rfl (exec_load_mid (.tmp 49) rfl g (o4 + (m + 1) * 32) rfl x C3.out) ?_) | (refine wpList_skip rfl rfl (hst.out _ _ rfl rfl rfl) ?_))
              go_roundw
              case rel => exact ⟨m + 1, c + 1, C ++ [x], by omega, by go_num, by go_num, by omega, Lib.hid ⟨by rw [List.length_append, HC.out.1]; rfl, hnx.out⟩, Hw1⟩
              case measure => simp [intOf]; omega
          · have hend : k + 1 + m + 1 = n := by have := Hn4.out; omega
            have i4 : ¬ (m : Int) + 1 < n4 := by omega
            have hcn : c < n := by omega
            have hmn : (C ++ L.drop C.length).length = n := by rw [mid_len Hcn.out, Hn.out]
            obtain ⟨cur, hh, hrow⟩ : ∃ cur : Array Value, wr.heap[g]? = some (.cells cur 36 (0, 0)) ∧ ∀ Z : List Value, Z.length = (n - c) * 32 → c * 32 + Z.length ≤ cur.size ∧ Rw encN 36 (wr.setRow g (cur.toList.take (c * 32) ++ Z ++ cur.toList.drop (c * 32 + Z.length)).toArray) (some ⟨g, 0, none⟩) cap C := by
              obtain ⟨cur, hh, h3, h4, _, _⟩ := HB.out.1.parts
              refine ⟨cur, hh, fun Z hZ => ?_⟩
              obtain ⟨cur', hh', h5, h6⟩ := HB.out.1.clearAt C.length (by rw [hmn, HC.out.1]; omega) Z (by rw [hmn, HC.out.1]; exact hZ)
              obtain rfl : cur' = cur := by rw [hh] at hh'; cases hh'; rfl
              rw [HC.out.1, List.take_left' HC.out.1] at h6
              rw [HC.out.1] at h5
              exact ⟨h5, h6⟩
            have hz : (List.replicate ((n - c) * 32) undef).length = (n - c) * 32 := List.length_replicate
            have hb := (hrow _ hz).1
            rw [hz] at hb
            obtain ⟨Z, hZ, hcl⟩ := clear_names g (c * 32) (n - c) (cap - c) wr cur hh (by omega) hb
            have hof : o + c * 32 = c * 32 := by rw [Ho.out, Nat.zero_add]
            rw [← hof] at hcl
            obtain ⟨W1, hW1⟩ : ∃ W1, W1 = wr.setRow g (cur.toList.take (c * 32) ++ Z ++ cur.toList.drop (c * 32 + Z.length)).toArray := ⟨_, rfl⟩
            rw [hof, ← hW1] at hcl
            rw [← hof] at hcl
            have Hw1 : Hid (Rw encN 36 W1 (some ⟨g, 0, none⟩) cap C ∧ Mod (fun i => i = g) w W1) := Lib.hid ⟨by rw [hW1]; exact (hrow Z hZ).2, by rw [hW1]; exact (HB.out.2.setRow _).mono (fun i _ h => h.elim id id)⟩
            have hfin : Hid (C = cpt L n) := Lib.hid (by rw [← hend]; exact HC.out.2)
            have k0 : (0 : Int) ≤ c := by omega
            have k1 : (c : Int) ≤ n := by omega
            have k2 : (c : Int) ≤ cap := by omega
            clear hh hrow hz hb hof hW1 hZ hmn HB
            go_wp2_with fail
            rw [HF.out]
            exact ⟨by rw [Ho.out, ← hfin.out, HC.out.1], by rw [← hfin.out]; exact Hw1.out.1, Hw1.out.2⟩
    · have hfin : Hid (cpt L n = L) := Lib.hid (by
        have e : n = k + 1 := by omega
        rw [e, cpt_all (by rw [← Hn.out]; omega) hkp.out, List.take_of_length_le (by rw [← Hn.out]; omega)])
      have i3 : ¬ (k : Int) + 1 < n := by omega
      go_wp2_with fail
      rw [HF.out]
      exact ⟨by rw [Ho.out, hfin.out, ← Hn.out], by rw [hfin.out]; exact HB.out.1, HB.out.2⟩
end Go.Proofs.YtjjkobbajbbgdaaGreatDoor
