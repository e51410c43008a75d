import Derived.Test.YtkejidmomnmdbaaDoorD7
namespace Go.Proofs.YtkejidmomnmdbaaDoor
open Go.RowKit

theorem outTo_lt (H : List Nat) (k : Nat) : ∀ x ∈ outTo H k, x < 256 := by
  intro x hx
  obtain ⟨i, _, rfl⟩ := List.mem_map.1 hx
  exact Nat.mod_lt _ (by decide)
theorem sha_lt (m : List Nat) : ∀ x ∈ sha m, x < 256 := outTo_lt _ _

theorem bytesOf_size (A : List Nat) : (bytesOf A).size = A.length := by simp [bytesOf, ByteArray.size]

set_option maxHeartbeats 400000 in
theorem short_any (A : List Nat) (w : World) (hA : A.length = 32) (hb : ∀ x ∈ A, x < 256) :
    Calls Tryd.prog 24 #[.agg (nums .u8 A).toArray] w fun r w' => r = .returned (.string (bytesOf ((hexs A).take 8))) ∧ Mod (fun _ => False) w w' := by
  have h1 := nums_one .u8 A
  obtain ⟨s, hs⟩ : ∃ s, s = hexs A := ⟨_, rfl⟩
  have hsl : s.length = 64 := by rw [hs, hexs_len, hA]
  have hz : (bytesOf s).size = 64 := by rw [bytesOf_size, hsl]
  have hx : (bytesOf s).extract 0 8 = bytesOf (s.take 8) := by
    apply ByteArray.ext; simp [bytesOf, List.map_take]
  have Hx := Lib.hid hx
  have Hs := Lib.hid hs
  clear hs hsl hx
  go_enter Tryd.func24, Tryd.ntmps24
  go_wp2_with (refine wpList_load_row rfl 25 (.tmp 1) rfl w.heap.size rfl 25 (nums .u8 A).toArray (0, 0) _ (heap_alloc_new _ _) Tryd.underlying25 rfl ?s1 ?_)
  case s1 => rw [List.size_toArray, nums_len, hA]; kernel_rfl
  refine (hex_any A _ hA hb).mono ?_
  rintro r w1 ⟨rfl, hM1⟩
  rw [← Hs.out]
  generalize bytesOf s = t at hz Hx
  have hM2 : Mod (fun _ => False) w w1 := ((Mod.refl _ w).alloc _).trans hM1 (fun _ _ h => h)
  clear hM1
  go_wp2_with fail
  go_ret
  exact ⟨by rw [← Hs.out, ← Hx.out]; rfl, hM2⟩

set_option maxHeartbeats 400000 in
theorem check_any (v : Value) (ss : List (List UInt8)) (w : World) (hv : StrsAt w v ss) (hl : ss.flatten.length ≤ 274877906944) (hn : (ss.length : Int) ≤ 1099511627776) (hT : TabAt w) :
    Calls Tryd.prog 25 #[v] w fun r w' => r = .returned (.int .u32 ((w16 (sha (nats ss.flatten)) 0 : Nat) : Int)) ∧ Mod (fun _ => False) w w' := by
  obtain ⟨Z, hZ⟩ : ∃ Z, Z = List.replicate 32 0 := ⟨_, rfl⟩
  have hz2 : ∀ w : World, (zeroValue 25).run Tryd.prog w = .ok (.agg (nums .u8 Z).toArray) w := fun _ => by rw [hZ]; kernel_rfl
  have hZl : Z.length = 32 := by rw [hZ]; rfl
  clear hZ
  go_enter Tryd.func25, Tryd.ntmps25
  go_wp2_with fail
  refine (dof_any v ss w hv hl hn hT).mono ?_
  rintro r w1 ⟨rfl, hM1⟩
  obtain ⟨S, hS⟩ : ∃ S, S = sha (nats ss.flatten) := ⟨_, rfl⟩
  have hSl : S.length = 32 := by rw [hS]; exact sha_len _
  have hSb : ∀ x ∈ S, x < 256 := by rw [hS]; exact sha_lt _
  rw [← hS]
  have e : w16 S 0 = S[0] * 16777216 + S[1] * 65536 + S[2] * 256 + S[3] := by
    unfold w16; rw [getD_at _ _ (by omega), getD_at _ _ (by omega), getD_at _ _ (by omega), getD_at _ _ (by omega)]
  have HS := Lib.hid hS
  clear hS
  obtain ⟨W, hW⟩ : ∃ W, W = (w1.alloc (.cells (nums .u8 Z).toArray 25 (0, 0))).setRow w1.heap.size (nums .u8 S).toArray := ⟨_, rfl⟩
  have hR : RowAt .u8 25 W w1.heap.size S := by rw [hW]; exact setRow_heap _ _ _ _ _ _ (heap_alloc_new _ _)
  have hM2 : Mod (fun _ => False) w1 W := by rw [hW]; exact (((Mod.refl (fun _ => False) _).alloc _).setRow (g := w1.heap.size) _).drop_new (Nat.le_refl _)
  have hM := hM1.trans hM2 (fun _ _ h => h)
  have c0 := hR.cell 0 (by omega)
  have c1 := hR.cell 1 (by omega)
  have c2 := hR.cell 2 (by omega)
  have c3 := hR.cell 3 (by omega)
  have b0 := hSb _ (List.getElem_mem (show 0 < S.length by omega))
  have b1 := hSb _ (List.getElem_mem (show 1 < S.length by omega))
  have b2 := hSb _ (List.getElem_mem (show 2 < S.length by omega))
  have b3 := hSb _ (List.getElem_mem (show 3 < S.length by omega))
  obtain ⟨x0, h0⟩ : ∃ x, x = S[0] := ⟨_, rfl⟩
  obtain ⟨x1, h1⟩ : ∃ x, x = S[1] := ⟨_, rfl⟩
  obtain ⟨x2, h2⟩ : ∃ x, x = S[2] := ⟨_, rfl⟩
  obtain ⟨x3, h3⟩ : ∃ x, x = S[3] := ⟨_, rfl⟩
  have e' : w16 S 0 = x0 * 16777216 + x1 * 65536 + x2 * 256 + x3 := by rw [e, h0, h1, h2, h3]
  rw [← h0] at c0 b0
  rw [← h1] at c1 b1
  rw [← h2] at c2 b2
  rw [← h3] at c3 b3
  have He := Lib.hid e'
  clear e e' h0 h1 h2 h3
  have q2 : (nums .u8 Z).toArray.size = (nums .u8 S).toArray.size := by simp [nums_len, hSl, hZl]
  have q3 : (Tryd.prog.info? 25).map (·.size) = some (nums .u8 S).toArray.size := by rw [List.size_toArray, nums_len, hSl]; kernel_rfl
  have q4 : ∀ v ∈ (nums .u8 S).toArray.toList, v.oneCell' = true := by simpa using nums_one .u8 S
  go_wp2_with (refine wpList_store_row rfl rfl 25 (.tmp 3) (.tmp 5) rfl w1.heap.size rfl 25 (nums .u8 Z).toArray (nums .u8 S).toArray rfl (heap_alloc_new _ _) q2 q3 q4 ?_; rw [← hW]; clear hW)
  refine (word_any x0 x1 x2 x3 _ b0 b1 b2 b3).mono ?_
  rintro _ _ ⟨rfl, rfl⟩
  go_wp2_with fail
  go_ret
  exact ⟨by rw [← HS.out, He.out, show ((x0 * 16777216 + x1 * 65536 + x2 * 256 + x3 : Nat) : Int) = (x0 : Int) * 16777216 + x1 * 65536 + x2 * 256 + x3 by omega]; rfl, hM⟩
end Go.Proofs.YtkejidmomnmdbaaDoor
