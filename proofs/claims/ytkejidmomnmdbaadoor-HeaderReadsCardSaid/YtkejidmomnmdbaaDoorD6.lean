import Derived.Test.YtkejidmomnmdbaaDoorD5
namespace Go.Proofs.YtkejidmomnmdbaaDoor
open Go.RowKit

/-- v is a slice of the texts ss. -/
def StrsAt (w : World) (v : Value) (ss : List (List UInt8)) : Prop :=
  ∃ ao cap, v = .slice ao ss.length cap ∧ ∀ j (h : j < ss.length), ∃ bs off, ao = some ⟨bs, off, none⟩ ∧ bs < w.heap.size ∧ w.cell? ⟨bs, off + j, none⟩ = some (.string ⟨(ss[j]).toArray⟩)

def OutRel (w : World) (M : Nat) (H : List Nat) (k : Nat) : Prop := ∃ A, RowAt .u8 25 w M A ∧ A.length = 32 ∧ A.take k = outTo H k

theorem holds_nil {w : World} {b : Nat} (h : w.heap[b]? = some (.cells (sumCells hTab (List.replicate 64 0) 0) 124 (0, 0))) : Holds w b [] :=
  ⟨List.replicate 64 0, ⟨h, rfl, by simp⟩, rfl, fun x hx => by rw [List.eq_of_mem_replicate hx]; decide⟩

theorem flat_take_succ (ss : List (List UInt8)) (k : Nat) (h : k < ss.length) : (ss.take (k + 1)).flatten = (ss.take k).flatten ++ ss[k] := by
  rw [List.take_succ_eq_append_getElem h, List.flatten_append, List.flatten_cons, List.flatten_nil, List.append_nil]
theorem flat_take_len (ss : List (List UInt8)) (k : Nat) : (ss.take k).flatten.length ≤ ss.flatten.length := by
  have h : ss.flatten = (ss.take k).flatten ++ (ss.drop k).flatten := by rw [← List.flatten_append, List.take_append_drop]
  rw [h]; simp

set_option maxHeartbeats 1000000 in
set_option maxRecDepth 100000 in
theorem dof_any (v : Value) (ss : List (List UInt8)) (w : World) (hv : StrsAt w v ss) (hl : ss.flatten.length ≤ 274877906944) (hn : (ss.length : Int) ≤ 1099511627776) (hT : TabAt w) :
    Calls Tryd.prog 21 #[v] w fun r w' => r = .returned (.agg (nums .u8 (sha (nats ss.flatten))).toArray) ∧ Mod (fun _ => False) w w' := by
  obtain ⟨ao, cap, rfl, hcell⟩ := hv
  have Hcell := Lib.hid hcell
  clear hcell
  have hz : ∀ w : World, (zeroValue 124).run Tryd.prog w = .ok (.agg (sumCells (List.replicate 8 0) (List.replicate 64 0) 0)) w := fun _ => by kernel_rfl
  have hz2 : ∀ w : World, (zeroValue 25).run Tryd.prog w = .ok (.agg (nums .u8 (List.replicate 32 0)).toArray) w := fun _ => by kernel_rfl
  have hw0 := hT.lt
  go_enter Tryd.func21, Tryd.ntmps21
  go_wp2_with fail
  generalize hW1 : w.alloc _ = W1
  have hR1 : RowAt .u8 25 W1 w.heap.size (List.replicate 32 0) := by rw [← hW1]; exact heap_alloc_new _ _
  have hM1 : Mod (fun _ => False) w W1 := by rw [← hW1]; exact (Mod.refl _ _).alloc _
  have hs1 : w.heap.size < W1.heap.size := hR1.lt
  clear hW1
  refine (begin_any W1).mono ?_
  rintro r w2 ⟨rfl, hM2⟩
  have hR2 := hR1.kept hM2 (fun h => h)
  have hs2 := hM2.size
  have hM2' := hM1.trans hM2 (fun _ _ h => h)
  clear hR1 hM1 hM2
  go_wp2_with (refine wpList_store_row rfl rfl 124 (.tmp 3) (.tmp 8) rfl w2.heap.size rfl 124 (sumCells (List.replicate 8 0) (List.replicate 64 0) 0) (sumCells hTab (List.replicate 64 0) 0) rfl (heap_alloc_new _ _) rfl (by kernel_rfl) ?s4 ?_)
  case s4 =>
    intro v hv
    simp only [sumCells, List.mem_append, List.mem_singleton] at hv
    rcases hv with (h | h) | h
    · exact nums_one _ _ v h
    · exact nums_one _ _ v h
    · rw [h]; rfl
  generalize hW3 : (w2.alloc _).setRow w2.heap.size _ = W3
  have hM3 : Mod (fun _ => False) w2 W3 := by rw [← hW3]; exact (((Mod.refl (fun _ => False) _).alloc _).setRow (g := w2.heap.size) _).drop_new (Nat.le_refl _)
  have hH3 : Holds W3 w2.heap.size [] := holds_nil (by rw [← hW3]; exact setRow_heap _ _ _ _ _ _ (heap_alloc_new _ _))
  have hR3 := hR2.kept hM3 (fun h => h)
  have hM3' := hM2'.trans hM3 (fun _ _ h => h)
  clear hW3 hM3 hR2 hM2'
  obtain ⟨B, hB⟩ : ∃ B, B = w2.heap.size := ⟨_, rfl⟩
  rw [← hB] at hH3 hs2 ⊢
  have hBw : w.heap.size < B := by omega
  clear hB hs2 hs1
  go_loopw [11] (fun i wr => ∃ k : Nat, k ≤ ss.length ∧ i = .int .i64 k ∧ Holds wr B (nats (ss.take k).flatten) ∧ RowAt .u8 25 wr w.heap.size (List.replicate 32 0) ∧ Mod (fun _ => False) w wr) (fun i _ => ss.length - (intOf i).toNat)
  case atStart => exact ⟨0, by omega, rfl, hH3, hR3, hM3'⟩
  case round =>
    clear hH3 hR3 hM3'
    obtain ⟨k, hk, rfl, hH, hR, hM⟩ := hrel
    by_cases hlt : k < ss.length
    · obtain ⟨bs, off, rfl, hbs, hc⟩ := Hcell.out k hlt
      have hcr : wr.cell? ⟨bs, off + k, none⟩ = _ := (World.cell?_of_block (hM.block bs hbs (fun h => h))).trans hc
      have hfl := flat_take_succ ss k hlt
      have hle := flat_take_len ss (k + 1)
      obtain ⟨s, hs⟩ : ∃ s, s = ss[k] := ⟨_, rfl⟩
      rw [← hs] at hfl hcr
      rw [hfl] at hle
      have hTr := hT.kept hM (fun h => h)
      have Hfl := Lib.hid hfl
      have hlen : (nats (ss.take k).flatten).length + s.length ≤ 549755813888 := by rw [nats_len]; simp only [List.length_append] at hle; omega
      clear hc hfl hle hs
      go_wp2_with fail
      refine (dtext_any B _ s wr hH hlen hTr (by omega)).mono ?_
      rintro e w4 ⟨rfl, hH4, hM4⟩
      rw [← nats_app, ← Hfl.out] at hH4
      have hR4 := hR.kept hM4 (by omega)
      have hM5 := hM.trans hM4 (T := (· = B)) (by intro i hi h; omega)
      go_wp2_with fail
      go_roundw
      case rel => exact ⟨k + 1, by omega, by go_num, hH4, hR4, hM5⟩
      case measure => simp [intOf]; omega
    · obtain rfl : k = ss.length := by omega
      rw [List.take_length] at hH
      have hlen : (nats ss.flatten).length ≤ 549755813888 := by rw [nats_len]; omega
      have hTr := hT.kept hM (fun h => h)
      go_wp2_with fail
      refine (pad_any B _ wr hH hlen hTr (by omega)).mono ?_
      rintro e w4 ⟨rfl, hH4, hM4⟩
      have hR4 := hR.kept hM4 (by omega)
      have hM5 := hM.trans hM4 (T := (· = B)) (by intro i hi h; omega)
      clear hH hR hM hTr hlen hM4
      obtain ⟨L, hS4, _⟩ := hH4.ex
      have hsz4 := hM5.size
      obtain ⟨HH, hHH⟩ : ∃ HH, HH = (absorb (padded (nats ss.flatten))).1 := ⟨_, rfl⟩
      rw [← hHH] at hS4
      have hsha : sha (nats ss.flatten) = outTo HH 32 := by rw [hHH]; rfl
      have Hsha := Lib.hid hsha
      clear hH4 hHH hsha Hcell
      go_wp2_with fail
      generalize hW5 : w4.alloc _ = W5
      have hM6 : Mod (fun _ => False) w4 W5 := by rw [← hW5]; exact (Mod.refl _ _).alloc _
      have hR6 : RowAt .u8 25 W5 w4.heap.size (List.replicate 32 0) := by rw [← hW5]; exact heap_alloc_new _ _
      have hS6 := hS4.kept hM6 (fun h => h)
      have hR7 := hR4.kept hM6 (fun h => h)
      have hM7 := hM5.trans hM6 (fun _ _ h => h)
      have hBlt := hS4.lt
      have hNlt := hR4.lt
      obtain ⟨M, hM⟩ : ∃ M, M = w4.heap.size := ⟨_, rfl⟩
      rw [← hM] at hR6 hBlt hNlt ⊢
      have hMw : w.heap.size ≤ M := by omega
      clear hW5 hM6 hS4 hR4 hM5 hM hsz4
      obtain ⟨wo, rfl⟩ : ∃ wo : World, wo = wr := ⟨_, rfl⟩
      go_loopw [19] (fun i wr => ∃ k : Nat, k ≤ 32 ∧ i = .int .i64 k ∧ SumAt wr B HH L (padded (nats ss.flatten)).length ∧ RowAt .u8 25 wr w.heap.size (List.replicate 32 0) ∧ Mod (fun _ => False) w wr ∧ OutRel wr M HH k) (fun i _ => 32 - (intOf i).toNat)
      case atStart => exact ⟨0, by omega, rfl, hS6, hR7, hM7, _, hR6, by simp, by rw [List.take_zero]; rfl⟩
      case round =>
        clear hS6 hR7 hM7 hR6
        obtain ⟨k, hk, rfl, hS, hR, hM, A, hRA, hA, hAt⟩ := hrel
        by_cases hlt : k < 32
        · have hhl := hS.hl
          obtain ⟨h, hh⟩ : ∃ h, h = HH[k / 4]'(by omega) := ⟨_, rfl⟩
          have ch := hS.word (k / 4) (by omega)
          rw [← hh] at ch
          obtain ⟨c, hc⟩ : ∃ c : Nat, c = 8 * (3 - k % 4) := ⟨_, rfl⟩
          have a1 : (0 : Int) ≤ (k : Int) / 4 := by omega
          have a2 : (k : Int) / 4 < 8 := by omega
          have a3 : ((k : Int) / 4).toNat = k / 4 := by omega
          have a4 : 8 * (3 - (k : Int) % 4) = (c : Int) := by omega
          have hc64 : c ≤ 64 := by omega
          have a5 : IntKind.u8.wrap ((h : Int) / 2 ^ c) = ((h / 2 ^ c % 256 : Nat) : Int) := by
            rw [IntKind.wrap_u8, Int.natCast_emod, Int.natCast_ediv, Int.natCast_pow]; rfl
          have ck := hRA.cell k (by omega)
          have fk := hRA.froz k
          obtain ⟨y, hy⟩ : ∃ y, y = A[k]'(by omega) := ⟨_, rfl⟩
          rw [← hy] at ck
          have i0 : (0 : Int) ≤ k := by omega
          have i1 : (k : Int) < 32 := by omega
          have Hr : Hid (SumAt (wr.setCell ⟨M, k, none⟩ (.int .u8 ((h / 2 ^ c % 256 : Nat) : Int))) B HH L (padded (nats ss.flatten)).length ∧ RowAt .u8 25 (wr.setCell ⟨M, k, none⟩ (.int .u8 ((h / 2 ^ c % 256 : Nat) : Int))) w.heap.size (List.replicate 32 0) ∧
              Mod (fun _ => False) w (wr.setCell ⟨M, k, none⟩ (.int .u8 ((h / 2 ^ c % 256 : Nat) : Int))) ∧ OutRel (wr.setCell ⟨M, k, none⟩ (.int .u8 ((h / 2 ^ c % 256 : Nat) : Int))) M HH (k + 1)) := Lib.hid (by
            have hm : Mod (· = M) wr (wr.setCell ⟨M, k, none⟩ (.int .u8 ((h / 2 ^ c % 256 : Nat) : Int))) := (Mod.refl (· = M) _).setCell (p := ⟨M, k, none⟩) (fun _ => rfl) _
            refine ⟨hS.kept hm (by omega), hR.kept hm (by omega), hM.trans hm (by intro i hi h; omega), _, hRA.set k _, by simpa using hA, ?_⟩
            rw [take_set_succ _ _ _ (by omega), hAt, outTo_succ, getD_at _ _ (by omega), ← hh, ← hc])
          clear hh hc hy hS hR hM hRA hAt
          go_wp2_with fail
          go_roundw
          case rel => exact ⟨k + 1, by omega, by go_num, Hr.out.1, Hr.out.2.1, Hr.out.2.2.1, Hr.out.2.2.2⟩
          case measure => simp [intOf]; omega
        · obtain rfl : k = 32 := by omega
          have hAe : A = sha (nats ss.flatten) := by rw [Hsha.out, ← hAt, List.take_of_length_le (by omega)]
          obtain ⟨Z, hZ⟩ : ∃ Z, Z = sha (nats ss.flatten) := ⟨_, rfl⟩
          rw [hAe, ← hZ] at hRA hA
          have h1 := nums_one .u8 Z
          have hM2 : Mod (fun _ => False) w (wr.setRow w.heap.size (nums .u8 Z).toArray) := (hM.setRow (g := w.heap.size) _).drop_new (Nat.le_refl _)
          have hg2 := setRow_heap wr w.heap.size _ (nums .u8 Z).toArray _ _ hR
          have HZ := Lib.hid hZ
          have HM2 := Lib.hid hM2
          have Hg2 := Lib.hid hg2
          clear hZ hM2 hg2 hAt hAe hS hM
          go_wp2_with (first | (refine wpList_load_row rfl 25 (.tmp 6) rfl M rfl 25 (nums .u8 Z).toArray (0, 0) _ hRA Tryd.underlying25 rfl ?s1 ?_) | (refine wpList_store_row rfl rfl 25 (.tmp 2) (.tmp 36) rfl w.heap.size rfl 25 (nums .u8 (List.replicate 32 0)).toArray (nums .u8 Z).toArray rfl hR ?s2 ?s3 ?s4 ?_))
          case s1 => rw [List.size_toArray, nums_len, hA]; kernel_rfl
          case s2 => simp [nums_len, hA]
          case s3 => rw [List.size_toArray, nums_len, hA]; kernel_rfl
          case s4 => simpa using h1
          refine bodyPost_ret (v := .agg (nums .u8 Z).toArray) (results_cell_row Tryd.results21 _ _ w.heap.size 25 (nums .u8 Z).toArray (0, 0) _ rfl Hg2.out Tryd.underlying25 rfl ?_) rfl ⟨by rw [← HZ.out], HM2.out⟩
          rw [List.size_toArray, nums_len, hA]; kernel_rfl
end Go.Proofs.YtkejidmomnmdbaaDoor
