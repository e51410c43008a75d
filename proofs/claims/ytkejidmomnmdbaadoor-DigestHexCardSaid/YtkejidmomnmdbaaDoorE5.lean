/- The law DigestHex. -/
import Derived.Test.YtkejidmomnmdbaaDoorE4
import Derived.Test.YtkejidmomnmdbaaDoorR
namespace Go.Proofs.YtkejidmomnmdbaaDoor
open Go.RowKit

theorem litB (x : Nat) (w : World) : (convert 27 9 (.slice (some ⟨w.heap.size, 0, none⟩) 1 1)).run Tryd.prog (w.alloc (.cells #[.int .u8 (x : Int)] 5)) = .ok (.string (bytesOf [x])) (w.alloc (.cells #[.int .u8 (x : Int)] 5)) := by
  rw [convLit1 27 9 5 Tryd.underlying27 Tryd.underlying5 Tryd.underlying9]; simp [bytesOf]
theorem bytesOf_cat (a b : List Nat) : bytesOf a ++ bytesOf b = bytesOf (a ++ b) := by
  apply ByteArray.ext; simp [bytesOf]
theorem take_snocN (A : List Nat) (k : Nat) (h : k < A.length) : A.take (k + 1) = A.take k ++ [A[k]] := by rw [List.take_succ_eq_append_getElem h]

set_option maxRecDepth 20000 in
set_option maxHeartbeats 16000000 in
theorem digestHex_any (s0 : List UInt8) (A : List Nat) (w : World) (hs0 : (s0.length : Int) ≤ 9223372036854775807) (hA : A.length = 32) (hAb : ∀ x ∈ A, x < 256) (hT : TabAt w) :
    Calls Tryd.prog 4 #[.string ⟨s0.toArray⟩, .agg (nums .u8 A).toArray] w fun r w' => r = .returned (.bool true) ∧ Below w.heap.size w w' := by
  obtain ⟨NA, hNA⟩ : ∃ N, N = (nums .u8 A).toArray := ⟨_, rfl⟩
  have hNs : NA.size = 32 := by rw [hNA, List.size_toArray, nums_len, hA]
  have Hidx : Hid (∀ (i : Nat) (hi : i < A.length) (w : World), (Instr.index 24 (.agg NA) (.int .i64 (i : Int))).run Tryd.prog w = .ok (.int .u8 (A[i]'hi)) w) := Lib.hid (fun i hi w => by
    rw [hNA]; exact run_index_nums (P := Tryd.prog) 24 5 32 .u8 A i hi Tryd.underlying24 hA Tryd.underlying5 (by kernel_rfl) w)
  have hinfo : (Tryd.prog.info? 24).map (·.size) = some NA.size := by rw [hNs]; kernel_rfl
  have hhex := Lib.hid (fun w => (hex_any A w hA hAb).mono fun _ _ ⟨h1, h2⟩ => (⟨h1, h2.to_below (Nat.le_refl _) (fun _ _ h => h)⟩ : _ ∧ Below w.heap.size w _))
  have hsho := Lib.hid (fun w => (short_any A w hA hAb).mono fun _ _ ⟨h1, h2⟩ => (⟨h1, h2.to_below (Nat.le_refl _) (fun _ _ h => h)⟩ : _ ∧ Below w.heap.size w _))
  rw [← hNA] at hhex hsho ⊢
  have hb0 : (w.alloc (.cells NA 24)).heap[w.heap.size]? = some (.cells NA 24 (0, 0)) := heap_alloc_new _ _
  have hB0 : Below w.heap.size w (w.alloc (.cells NA 24)) := (Below.refl _ _).alloc (Nat.le_refl _) _
  have hT0 := hT.old hB0
  have HAb := Lib.hid hAb
  have HA := Lib.hid hA
  clear hNA hAb hA
  go_enter Tryd.func4, Tryd.ntmps4
  go_wp2_with fail
  generalize hW0 : w.alloc _ = W0 at hb0 hB0 hT0 ⊢
  clear hW0
  refine (awake02_any W0 hT0).mono ?_
  rintro r w1 ⟨rfl, hB1⟩
  have hT1 := hT0.old hB1
  have hB1' := hB0.trans (hB1.mono hB0.size)
  have hg1 : w1.heap[w.heap.size]? = some (.cells NA 24 (0, 0)) := (hB1.block _ (Array.getElem?_eq_some_iff.1 hb0).1).trans hb0
  have hgw : w.heap.size < w1.heap.size := (Array.getElem?_eq_some_iff.1 hg1).1
  clear hb0 hB0 hT0 hB1 hT
  generalize hgg : w.heap.size = g at hg1 hgw hB1' ⊢
  have Hgg := Lib.hid hgg
  clear hgg
  go_wp2_with (refine wpList_load_row rfl 24 (.tmp 3) rfl g rfl 24 NA (0, 0) _ hg1 Tryd.underlying24 rfl hinfo ?_)
  have HB1 := Lib.hid hB1'
  have HT1 := Lib.hid hT1
  have HG1 := Lib.hid hg1
  clear hB1' hT1 hg1
  go_loopw [5, 16] (fun s5 s16 wr => ∃ (k : Nat) (T : ByteArray), k ≤ 32 ∧ s16 = .int .i64 (k : Int) ∧ s5 = .string T ∧ T.size = 2 * k ∧ Hid (T = bytesOf (hexs (A.take k))) ∧ Hid (Below w1.heap.size w1 wr)) (fun _ i _ => 32 - (intOf i).toNat)
  case atStart => exact ⟨0, ⟨#[]⟩, by omega, rfl, rfl, rfl, Lib.hid rfl, Lib.hid (Below.refl _ _)⟩
  case round =>
    obtain ⟨k, T, hk, rfl, rfl, hTs, hTe, hB⟩ := hrel
    by_cases hk32 : k < 32
    · have hkA : k < A.length := by rw [HA.out]; exact hk32
      have hix := fun w => Hidx.out k hkA w
      obtain ⟨x, hx⟩ : ∃ x, x = A[k] := ⟨_, rfl⟩
      have hxb : x < 256 := by rw [hx]; exact HAb.out _ (List.getElem_mem _)
      rw [← hx] at hix
      have hnx : Hid (hexs (A.take (k + 1)) = hexs (A.take k) ++ [hexd (x / 16), hexd (x % 16)]) := Lib.hid (by rw [take_snocN A k hkA, hexs_snoc, hx])
      have hl0 : (hexs (A.take k)).length = 2 * k := by rw [hexs_len, List.length_take]; omega
      generalize hexs (A.take k) = X at hTe hnx hl0
      have k1 : (k : Int) < 32 := by omega
      obtain ⟨d0, hd0⟩ : ∃ d, d = x / 16 := ⟨_, rfl⟩
      obtain ⟨d1, hd1⟩ : ∃ d, d = x % 16 := ⟨_, rfl⟩
      rw [← hd0, ← hd1] at hnx
      have x0 : (0 : Int) ≤ x := by omega
      have e1 : (x : Int).tdiv 16 = (d0 : Int) := by rw [Int.tdiv_eq_ediv_of_nonneg x0, hd0]; omega
      have e2 : (x : Int).tmod 16 = (d1 : Int) := by rw [Int.tmod_eq_emod_of_nonneg x0, hd1]; omega
      have e3 : (x : Int) / 16 = (d0 : Int) := by rw [hd0]; omega
      have e4 : (x : Int) % 16 = (d1 : Int) := by rw [hd1]; omega
      have b0 : d0 < 16 := by omega
      have b1 : d1 < 16 := by omega
      have m0 : (d0 : Int) % 256 = (d0 : Int) := by omega
      have m1 : (d1 : Int) % 256 = (d1 : Int) := by omega
      have v0 : IntKind.u8.wrap (d0 : Int) = (d0 : Int) := by rw [IntKind.wrap_u8]; omega
      have v1 : IntKind.u8.wrap (d1 : Int) = (d1 : Int) := by rw [IntKind.wrap_u8]; omega
      clear hx hd0 hd1
      go_wp2_with fail
      have hR : RowAt .u8 5 (wr.alloc (.cells #[.int .u8 (d0 : Int), .int .u8 (d1 : Int)] 5)) wr.heap.size [d0, d1] := heap_alloc_new _ _
      have hB2 : Hid (Below w1.heap.size w1 (wr.alloc (.cells #[.int .u8 (d0 : Int), .int .u8 (d1 : Int)] 5))) := Lib.hid (hB.out.alloc hB.out.size _)
      clear hB e1 e2 e3 e4 m0 m1 v0 v1 hix
      generalize wr.alloc (.cells #[.int .u8 (d0 : Int), .int .u8 (d1 : Int)] 5) = W2 at hR hB2 ⊢
      generalize wr.heap.size = g2 at hR ⊢
      have HR := Lib.hid hR
      clear hR
      go_loopw [5, 25] (fun s5 s25 wx => ∃ (j : Nat) (T2 : ByteArray), j ≤ 2 ∧ s25 = .int .i64 (j : Int) ∧ s5 = .string T2 ∧ T2.size = 2 * k + j ∧ Hid (T2 = bytesOf (X ++ ([d0, d1].take j).map hexd)) ∧ Hid (Below W2.heap.size W2 wx)) (fun _ i _ => 2 - (intOf i).toNat)
      case atStart => exact ⟨0, T, by omega, rfl, rfl, hTs, Lib.hid (by rw [hTe.out]; simp), Lib.hid (Below.refl _ _)⟩
      case round =>
        obtain ⟨j, T2, hj, rfl, rfl, hTs2, hTe2, hBx⟩ := hrel
        by_cases hj2 : j < 2
        · have hjl : j < [d0, d1].length := hj2
          have cj := (HR.out.kept (Mod.of_below hBx.out) (by have := HR.out.lt; omega)).cell j hjl
          obtain ⟨d, hd⟩ : ∃ d, d = [d0, d1][j] := ⟨_, rfl⟩
          have hdb : d < 16 := by
            have hm : d ∈ [d0, d1] := by rw [hd]; exact List.getElem_mem _
            simp at hm; omega
          rw [← hd] at cj
          have hnj : Hid (X ++ ([d0, d1].take (j + 1)).map hexd = X ++ ([d0, d1].take j).map hexd ++ [hexd d]) := Lib.hid (by rw [take_snocN _ j hjl, List.map_append, ← hd]; simp)
          have j1 : (j : Int) < 2 := by omega
          have j0 : (0 : Int) ≤ j := by omega
          have l1 : ¬ 9223372036854775807 < 2 * k + j + 1 := by omega
          clear hd
          by_cases h10 : d < 10
          · have hh : hexd d = 48 + d := by unfold hexd; rw [if_pos h10]
            obtain ⟨y, hy⟩ : ∃ y, y = 48 + d := ⟨_, rfl⟩
            rw [← hy] at hh
            have a1 : (d : Int) < 10 := by omega
            have a2 : (48 : Int) + d = (y : Int) := by omega
            have a3 : (y : Int) % 256 = (y : Int) := by omega
            have a4 : IntKind.u8.wrap (y : Int) = (y : Int) := by rw [IntKind.wrap_u8]; omega
            have a5 : IntKind.u8.wrap (48 + (d : Int)) = (y : Int) := by rw [IntKind.wrap_u8]; omega
            have a6 : (48 + (d : Int)) % 256 = (y : Int) := by omega
            have hc1 := fun w => litB y w
            have z1 : (bytesOf [y]).size = 1 := rfl
            obtain ⟨T3, hT3⟩ : ∃ T3, T3 = T2 ++ bytesOf [y] := ⟨_, rfl⟩
            have hs3 : T3.size = 2 * k + (j + 1) := by rw [hT3, ByteArray.size_append, hTs2, z1]; rfl
            have he3 : Hid (T3 = bytesOf (X ++ ([d0, d1].take (j + 1)).map hexd)) := Lib.hid (by rw [hT3, hTe2.out, bytesOf_cat, hnj.out, hh])
            have ht3 := hT3.symm
            have hB3 : Hid (Below W2.heap.size W2 (wr.alloc (.cells #[.int .u8 (y : Int)] 5))) := Lib.hid (hBx.out.alloc hBx.out.size _)
            clear hT3 hh hy hBx
            go_wp2_with fail
            go_roundw
            case rel => exact ⟨j + 1, T3, by omega, by go_num, rfl, hs3, he3, hB3⟩
            case measure => simp [intOf]; omega
          · have hh : hexd d = 87 + d := by unfold hexd; rw [if_neg h10]
            obtain ⟨y, hy⟩ : ∃ y, y = 87 + d := ⟨_, rfl⟩
            obtain ⟨y0, hy0⟩ : ∃ y, y = 97 + d := ⟨_, rfl⟩
            rw [← hy] at hh
            have a1 : ¬ (d : Int) < 10 := by omega
            have a2 : (97 : Int) + d = (y0 : Int) := by omega
            have a3 : (y0 : Int) % 256 = (y0 : Int) := by omega
            have a4 : (y0 : Int) - 10 = (y : Int) := by omega
            have a5 : (y : Int) % 256 = (y : Int) := by omega
            have a6 : IntKind.u8.wrap (97 + (d : Int)) = (y0 : Int) := by rw [IntKind.wrap_u8]; omega
            have a7 : IntKind.u8.wrap ((y0 : Int) - 10) = (y : Int) := by rw [IntKind.wrap_u8]; omega
            have a8 : (97 + (d : Int)) % 256 = (y0 : Int) := by omega
            have a9 : ((y0 : Int) - 10) % 256 = (y : Int) := by omega
            have hc1 := fun w => litB y w
            have z1 : (bytesOf [y]).size = 1 := rfl
            obtain ⟨T3, hT3⟩ : ∃ T3, T3 = T2 ++ bytesOf [y] := ⟨_, rfl⟩
            have hs3 : T3.size = 2 * k + (j + 1) := by rw [hT3, ByteArray.size_append, hTs2, z1]; rfl
            have he3 : Hid (T3 = bytesOf (X ++ ([d0, d1].take (j + 1)).map hexd)) := Lib.hid (by rw [hT3, hTe2.out, bytesOf_cat, hnj.out, hh])
            have ht3 := hT3.symm
            have hB3 : Hid (Below W2.heap.size W2 (wr.alloc (.cells #[.int .u8 (y : Int)] 5))) := Lib.hid (hBx.out.alloc hBx.out.size _)
            clear hT3 hh hy hy0 hBx
            go_wp2_with fail
            go_roundw
            case rel => exact ⟨j + 1, T3, by omega, by go_num, rfl, hs3, he3, hB3⟩
            case measure => simp [intOf]; omega
        · obtain rfl : j = 2 := by omega
          have he : Hid (T2 = bytesOf (hexs (A.take (k + 1)))) := Lib.hid (by rw [hTe2.out, hnx.out]; rfl)
          have hB3 : Hid (Below w1.heap.size w1 wr) := Lib.hid (hB2.out.trans (hBx.out.mono hB2.out.size))
          clear hBx hTe2
          go_wp2_with fail
          go_roundw
          case rel => exact ⟨k + 1, T2, by omega, by go_num, rfl, by omega, he, hB3⟩
          case measure => simp [intOf]; omega
    · obtain rfl : k = 32 := by omega
      have hTx : T = bytesOf (hexs A) := by rw [hTe.out, List.take_of_length_le (by rw [HA.out]; exact Nat.le_refl _)]
      obtain ⟨HS, hHS⟩ : ∃ H, H = bytesOf ((hexs A).take 8) := ⟨_, rfl⟩
      have hsl8 : T.extract 0 8 = HS := by
        rw [hTx, hHS]; apply ByteArray.ext; simp [bytesOf, List.map_take]
      rw [← hTx] at hhex
      rw [← hHS] at hsho
      have HSL := Lib.hid hsl8
      have HTW := Lib.hid (HT1.out.old hB.out)
      have HGW := Lib.hid ((hB.out.block _ hgw).trans HG1.out)
      have HBW := Lib.hid (HB1.out.trans (hB.out.mono (by have := Hgg.out; have := HB1.out.size; omega)))
      clear hTx hHS hsl8 HT1 HG1 HB1 hTe hB Hidx
      go_wp2_with fail
      refine (cut_any s0 100 wr hs0 (by omega)).mono ?_
      rintro r wr' ⟨rfl, rfl⟩
      have hSl : (s0.take 100).length ≤ 100 := List.length_take_le _ _
      generalize s0.take 100 = S at hSl ⊢
      clear hs0
      obtain ⟨l, hl⟩ : ∃ l, l = S.length := ⟨_, rfl⟩
      have hSz : (ByteArray.mk S.toArray).size = l := by rw [hl]; rfl
      have Hl := Lib.hid hl
      obtain ⟨L, hL⟩ : ∃ L, L = sha (nats S) := ⟨_, rfl⟩
      have hLl : L.length = 32 := by rw [hL]; exact sha_len _
      have hLb : ∀ x ∈ L, x < 256 := by rw [hL]; exact sha_lt _
      obtain ⟨y, hy⟩ : ∃ y, y = w16 L 0 := ⟨_, rfl⟩
      have hck1 := Lib.hid (fun (v : Value) (w : World) h hT => checkB v [S] w h (by simp; omega) (by simp) hT)
      rw [show ([S] : List (List UInt8)).flatten = S from by simp, ← hL, ← hy] at hck1
      have hck2 := Lib.hid (fun (v : Value) (w : World) h hT => checkB v [S.take (l / 2), S.drop (l / 2)] w h (by simp; omega) (by simp) hT)
      rw [show ([S.take (l / 2), S.drop (l / 2)] : List (List UInt8)).flatten = S from by simp, ← hL, ← hy] at hck2
      have href := refof_any S wr (by omega)
      rw [← hL] at href
      have HL := Lib.hid hLl
      have HLb := Lib.hid hLb
      have Hy := Lib.hid hy
      rw [← hl] at hSl
      clear hL hLl hLb hy hl
      go_wp2_with fail
      refine (href).mono ?_
      rintro r w3 ⟨rfl, hM3⟩
      have hB3 := hM3.to_below (B := wr.heap.size) (Nat.le_refl _) (fun _ _ h => h)
      have HTX := Lib.hid (HTW.out.old hB3)
      have HGX := Lib.hid ((hB3.block _ (Array.getElem?_eq_some_iff.1 HGW.out).1).trans HGW.out)
      have HBX := Lib.hid (HBW.out.trans (hB3.mono (by have := Hgg.out; have := HBW.out.size; omega)))
      clear href hM3 hB3 HTW HGW HBW
      go_wp2_with fail
      go_loopw [11, 50] (fun s11 s50 wx => ∃ t : Nat, t ≤ 4 ∧ s50 = .int .i64 (t : Int) ∧ s11 = .int .u32 (wpart L 0 t : Int) ∧ wx = w3) (fun _ i _ => 4 - (intOf i).toNat)
      case atStart => exact ⟨0, by omega, rfl, rfl, rfl⟩
      case round =>
        obtain ⟨t, ht, rfl, rfl, rfl⟩ := hrel
        by_cases ht4 : t < 4
        · obtain ⟨d, hd⟩ : ∃ d, d = L.getD t 0 := ⟨_, rfl⟩
          have hix : ∀ w : World, (Instr.index 9 (.string (bytesOf L)) (.int .i64 (t : Int))).run Tryd.prog w = .ok (.int .u8 (d : Int)) w := by
            intro w; rw [hd]; exact str_index L HLb.out t (by rw [HL.out]; omega) _ rfl w
          have hd256 : d < 256 := by rw [hd, getD_at _ _ (by rw [HL.out]; omega)]; exact HLb.out _ (List.getElem_mem _)
          have hy3 : wpart L 0 t < 16777216 := Nat.lt_of_lt_of_le (wpart_lt L HLb.out 0 t (by omega)) (Nat.le_trans (Nat.pow_le_pow_right (by decide) (show t ≤ 3 by omega)) (by decide))
          have hnx : Hid (wpart L 0 (t + 1) = wpart L 0 t * 256 + d) := Lib.hid (by rw [hd]; show _ + L.getD (4 * 0 + t) 0 = _; rw [Nat.mul_zero, Nat.zero_add])
          generalize wpart L 0 t = z at hy3 hnx ⊢
          have q1 : IntKind.u32.wrap ((z : Int) * 256) = (z : Int) * 256 := by rw [IntKind.wrap_u32]; omega
          have q2 : IntKind.u32.wrap ((z : Int) * 256 + d) = (z : Int) * 256 + d := by rw [IntKind.wrap_u32]; omega
          have q3 : IntKind.u32.wrap (d : Int) = d := by rw [IntKind.wrap_u32]; omega
          have q4 : ((z : Int) * 256) % 4294967296 = (z : Int) * 256 := by omega
          have q5 : ((z : Int) * 256 + d) % 4294967296 = (z : Int) * 256 + d := by omega
          have q6 : (d : Int) % 4294967296 = d := by omega
          clear hd
          go_wp2_with fail
          go_roundw
          case rel => exact ⟨t + 1, by omega, by go_num, by rw [hnx.out]; go_num, trivial⟩
          case measure => simp [intOf]; omega
        · obtain rfl : t = 4 := by omega
          rw [wpart_four L 0, ← Hy.out]
          rename World => W
          obtain ⟨h, hh⟩ : ∃ h, h = l / 2 := ⟨_, rfl⟩
          have e1 : (l : Int).tdiv 2 = (h : Int) := by rw [Int.tdiv_eq_ediv_of_nonneg (by omega), hh]; omega
          have hk1 : (h : Int) ≤ l := by omega
          have e2 : IntKind.i64.wrap (h : Int) = (h : Int) := IntWalk.i64_in _ (by omega)
          have hk0 : (0 : Int) ≤ h := by omega
          rw [← hh] at hck2
          have hHead := Lib.hid (extract_head S h)
          have hTail : Hid ((ByteArray.mk S.toArray).extract h l = ⟨(S.drop h).toArray⟩) := Lib.hid (by rw [Hl.out]; exact extract_end S h)
          have s8a : (0 : Int) ≤ 8 := by omega
          clear hh
          go_upto_region 23 with fail
          refine wp_region_puts (fun t v w => VK (match t with
            | 61 => .eq (.agg NA)
            | 62 => .eq (.string T)
            | 63 => .eq (.string T)
            | 64 => .eq (Value.bool true)
            | 65 => .eq (Value.bool true)
            | 66 => .eq (.agg NA)
            | 67 => .eq (.string HS)
            | 68 => .eq (.string T)
            | 69 => .eq (.string HS)
            | 70 => .eq (Value.bool true)
            | 71 => .eq (Value.bool true)
            | 72 => .eq (Value.bool true)
            | 73 => .eq (.string ⟨S.toArray⟩)
            | 74 => .st (strsSt [S])
            | 75 => .eq (.int .u32 ((y : Nat) : Int))
            | 76 => .eq (.int .u32 ((y : Nat) : Int))
            | 77 => .eq (Value.bool true)
            | 78 => .eq (Value.bool true)
            | 79 => .eq (Value.bool true)
            | 80 => .eq (.string ⟨S.toArray⟩)
            | 81 => .eq (.string ⟨S.toArray⟩)
            | 82 => .eq (.int .i64 (l : Int))
            | 83 => .eq (.int .i64 (h : Int))
            | 84 => .eq (.string ⟨(S.take h).toArray⟩)
            | 85 => .eq (.string ⟨S.toArray⟩)
            | 86 => .eq (.string ⟨S.toArray⟩)
            | 87 => .eq (.int .i64 (l : Int))
            | 88 => .eq (.int .i64 (h : Int))
            | 89 => .eq (.string ⟨(S.drop h).toArray⟩)
            | 90 => .st (strsSt [S.take h, S.drop h])
            | 91 => .eq (.int .u32 ((y : Nat) : Int))
            | 92 => .eq (.int .u32 ((y : Nat) : Int))
            | 93 => .eq (Value.bool true)
            | 94 => .eq (Value.bool true)
            | 4 => .eq (Value.bool true)
            | _ => .any) v w) (fun w' => Below W.heap.size W w') 95 (by kernel_rfl) (by decide +kernel) rfl (Below.refl _ _).drew (by
            refine OweAll.cons (owesK rfl rfl fun a w1 ha hG hV => ?_) ?_
            · skip
              exact ⟨.agg NA, w1, wanted_free rfl, exec_load_block 24 (.tmp 3) rfl g ((ha.outer 3 (by decide +kernel)).trans rfl) 24 NA (0, 0) _ ((hG.block _ (Array.getElem?_eq_some_iff.1 HGX.out).1).trans HGX.out) Tryd.underlying24 rfl hinfo, Below.refl _ _, rfl⟩
            refine OweAll.cons (owesK_call rfl rfl 23 fun a w1 ha hG hV => ?_) ?_
            · skip
              have h61 : a.tmps.getD 61 undef = .agg NA := hV.get 61 (by decide +kernel)
              refine ⟨#[.agg NA], wanted_free rfl, by simp [execOp, resolve, invoke, go_sem, h61], ?_⟩
              refine (hhex.out w1).mono ?_
              rintro r u2 ⟨rfl, hb⟩; exact ⟨_, rfl, rfl, hb⟩
            refine OweAll.cons (owesK rfl rfl fun a w1 ha hG hV => ?_) ?_
            · skip
              have h5 := ha.outer 5 (by decide +kernel)
              simp only [Act.eval] at h5
              exact ⟨.string T, w1, wanted_free rfl, by simp [execOp, go_sem, h5], Below.refl _ _, rfl⟩
            refine OweAll.cons (owesK rfl rfl fun a w1 ha hG hV => ?_) ?_
            · skip
              have h62 : a.tmps.getD 62 undef = .string T := hV.get 62 (by decide +kernel)
              have h63 : a.tmps.getD 63 undef = .string T := hV.get 63 (by decide +kernel)
              exact ⟨Value.bool true, w1, wanted_free rfl, by simp [execOp, go_sem, h62, h63], Below.refl _ _, rfl⟩
            refine OweAll.cons (owesK rfl rfl fun a w1 ha hG hV => ?_) ?_
            · skip
              have h64 : a.tmps.getD 64 undef = Value.bool true := hV.get 64 (by decide +kernel)
              exact ⟨Value.bool true, w1, wanted_free rfl, by simp [execOp, go_sem, h64], Below.refl _ _, rfl⟩
            refine OweAll.cons (owesK rfl rfl fun a w1 ha hG hV => ?_) ?_
            · skip
              exact ⟨.agg NA, w1, (wanted_of (t := 65) rfl rfl (hV.get 65 (by decide +kernel))), exec_load_block 24 (.tmp 3) rfl g ((ha.outer 3 (by decide +kernel)).trans rfl) 24 NA (0, 0) _ ((hG.block _ (Array.getElem?_eq_some_iff.1 HGX.out).1).trans HGX.out) Tryd.underlying24 rfl hinfo, Below.refl _ _, rfl⟩
            refine OweAll.cons (owesK_call rfl rfl 24 fun a w1 ha hG hV => ?_) ?_
            · skip
              have h66 : a.tmps.getD 66 undef = .agg NA := hV.get 66 (by decide +kernel)
              refine ⟨#[.agg NA], (wanted_of (t := 65) rfl rfl (hV.get 65 (by decide +kernel))), by simp [execOp, resolve, invoke, go_sem, h66], ?_⟩
              refine (hsho.out w1).mono ?_
              rintro r u2 ⟨rfl, hb⟩; exact ⟨_, rfl, rfl, hb⟩
            refine OweAll.cons (owesK rfl rfl fun a w1 ha hG hV => ?_) ?_
            · skip
              have h5 := ha.outer 5 (by decide +kernel)
              simp only [Act.eval] at h5
              exact ⟨.string T, w1, (wanted_of (t := 65) rfl rfl (hV.get 65 (by decide +kernel))), by simp [execOp, go_sem, h5], Below.refl _ _, rfl⟩
            refine OweAll.cons (owesK rfl rfl fun a w1 ha hG hV => ?_) ?_
            · skip
              have h68 : a.tmps.getD 68 undef = .string T := hV.get 68 (by decide +kernel)
              exact ⟨.string HS, w1, (wanted_of (t := 65) rfl rfl (hV.get 65 (by decide +kernel))), by simp [execOp, go_sem, h68, HSL.out, hTs], Below.refl _ _, rfl⟩
            refine OweAll.cons (owesK rfl rfl fun a w1 ha hG hV => ?_) ?_
            · skip
              have h67 : a.tmps.getD 67 undef = .string HS := hV.get 67 (by decide +kernel)
              have h69 : a.tmps.getD 69 undef = .string HS := hV.get 69 (by decide +kernel)
              exact ⟨Value.bool true, w1, (wanted_of (t := 65) rfl rfl (hV.get 65 (by decide +kernel))), by simp [execOp, go_sem, h67, h69], Below.refl _ _, rfl⟩
            refine OweAll.cons (owesK rfl rfl fun a w1 ha hG hV => ?_) ?_
            · skip
              have h65 : a.tmps.getD 65 undef = Value.bool true := hV.get 65 (by decide +kernel)
              have h70 : a.tmps.getD 70 undef = Value.bool true := hV.get 70 (by decide +kernel)
              exact ⟨Value.bool true, w1, wanted_free rfl, by simp [execOp, go_sem, h65, h70], Below.refl _ _, rfl⟩
            refine OweAll.cons (owesK rfl rfl fun a w1 ha hG hV => ?_) ?_
            · skip
              have h71 : a.tmps.getD 71 undef = Value.bool true := hV.get 71 (by decide +kernel)
              exact ⟨Value.bool true, w1, wanted_free rfl, by simp [execOp, go_sem, h71], Below.refl _ _, rfl⟩
            refine OweAll.cons (owesK rfl rfl fun a w1 ha hG hV => ?_) ?_
            · skip
              have h0 := ha.outer 0 (by decide +kernel)
              simp only [Act.eval] at h0
              exact ⟨.string ⟨S.toArray⟩, w1, (wanted_of (t := 72) rfl rfl (hV.get 72 (by decide +kernel))), by simp [execOp, go_sem, h0], Below.refl _ _, rfl⟩
            refine OweAll.cons (owesK rfl rfl fun a w1 ha hG hV => ?_) ?_
            · skip
              have h73 : a.tmps.getD 73 undef = .string ⟨S.toArray⟩ := hV.get 73 (by decide +kernel)
              have g73 : a.tmps[73]?.getD undef = .string ⟨S.toArray⟩ := by simpa using h73
              exact ⟨.slice (some ⟨w1.heap.size, 0, none⟩) 1 1, w1.alloc (.cells #[.string ⟨S.toArray⟩] 9), (wanted_of (t := 72) rfl rfl (hV.get 72 (by decide +kernel))), by simp [execOp, go_sem, h73, g73], (Below.refl _ _).alloc (Nat.le_refl _) _, StrsAt.made w1 9 [S]⟩
            refine OweAll.cons (owesK_call rfl rfl 25 fun a w1 ha hG hV => ?_) ?_
            · skip
              have s74 : (strsSt [S]).p (a.tmps.getD 74 undef) w1 := hV.get 74 (by decide +kernel)
              obtain ⟨v74, h74⟩ : ∃ v, a.tmps.getD 74 undef = v := ⟨_, rfl⟩
              rw [h74] at s74
              refine ⟨#[v74], (wanted_of (t := 72) rfl rfl (hV.get 72 (by decide +kernel))), by simp [execOp, resolve, invoke, go_sem, h74], ?_⟩
              refine (hck1.out v74 w1 s74 (HTX.out.old hG)).mono ?_
              rintro r u2 ⟨rfl, hb⟩; exact ⟨_, rfl, rfl, hb⟩
            refine OweAll.cons (owesK rfl rfl fun a w1 ha hG hV => ?_) ?_
            · skip
              have h11 := ha.outer 11 (by decide +kernel)
              simp only [Act.eval] at h11
              exact ⟨.int .u32 ((y : Nat) : Int), w1, (wanted_of (t := 72) rfl rfl (hV.get 72 (by decide +kernel))), by simp [execOp, go_sem, h11], Below.refl _ _, rfl⟩
            refine OweAll.cons (owesK rfl rfl fun a w1 ha hG hV => ?_) ?_
            · skip
              have h75 : a.tmps.getD 75 undef = .int .u32 ((y : Nat) : Int) := hV.get 75 (by decide +kernel)
              have h76 : a.tmps.getD 76 undef = .int .u32 ((y : Nat) : Int) := hV.get 76 (by decide +kernel)
              exact ⟨Value.bool true, w1, (wanted_of (t := 72) rfl rfl (hV.get 72 (by decide +kernel))), by simp [execOp, go_sem, h75, h76], Below.refl _ _, rfl⟩
            refine OweAll.cons (owesK rfl rfl fun a w1 ha hG hV => ?_) ?_
            · skip
              have h72 : a.tmps.getD 72 undef = Value.bool true := hV.get 72 (by decide +kernel)
              have h77 : a.tmps.getD 77 undef = Value.bool true := hV.get 77 (by decide +kernel)
              exact ⟨Value.bool true, w1, wanted_free rfl, by simp [execOp, go_sem, h72, h77], Below.refl _ _, rfl⟩
            refine OweAll.cons (owesK rfl rfl fun a w1 ha hG hV => ?_) ?_
            · skip
              have h78 : a.tmps.getD 78 undef = Value.bool true := hV.get 78 (by decide +kernel)
              exact ⟨Value.bool true, w1, wanted_free rfl, by simp [execOp, go_sem, h78], Below.refl _ _, rfl⟩
            refine OweAll.cons (owesK rfl rfl fun a w1 ha hG hV => ?_) ?_
            · skip
              have h0 := ha.outer 0 (by decide +kernel)
              simp only [Act.eval] at h0
              exact ⟨.string ⟨S.toArray⟩, w1, (wanted_of (t := 79) rfl rfl (hV.get 79 (by decide +kernel))), by simp [execOp, go_sem, h0], Below.refl _ _, rfl⟩
            refine OweAll.cons (owesK rfl rfl fun a w1 ha hG hV => ?_) ?_
            · skip
              have h0 := ha.outer 0 (by decide +kernel)
              simp only [Act.eval] at h0
              exact ⟨.string ⟨S.toArray⟩, w1, (wanted_of (t := 79) rfl rfl (hV.get 79 (by decide +kernel))), by simp [execOp, go_sem, h0], Below.refl _ _, rfl⟩
            refine OweAll.cons (owesK rfl rfl fun a w1 ha hG hV => ?_) ?_
            · skip
              have h81 : a.tmps.getD 81 undef = .string ⟨S.toArray⟩ := hV.get 81 (by decide +kernel)
              exact ⟨.int .i64 (l : Int), w1, (wanted_of (t := 79) rfl rfl (hV.get 79 (by decide +kernel))), by simp [execOp, go_sem, h81, resolve, invoke, builtin, hSz], Below.refl _ _, rfl⟩
            refine OweAll.cons (owesK rfl rfl fun a w1 ha hG hV => ?_) ?_
            · skip
              have h82 : a.tmps.getD 82 undef = .int .i64 (l : Int) := hV.get 82 (by decide +kernel)
              exact ⟨.int .i64 (h : Int), w1, (wanted_of (t := 79) rfl rfl (hV.get 79 (by decide +kernel))), by simp [execOp, go_sem, h82, e1, e2], Below.refl _ _, rfl⟩
            refine OweAll.cons (owesK rfl rfl fun a w1 ha hG hV => ?_) ?_
            · skip
              have h80 : a.tmps.getD 80 undef = .string ⟨S.toArray⟩ := hV.get 80 (by decide +kernel)
              have h83 : a.tmps.getD 83 undef = .int .i64 (h : Int) := hV.get 83 (by decide +kernel)
              exact ⟨.string ⟨(S.take h).toArray⟩, w1, (wanted_of (t := 79) rfl rfl (hV.get 79 (by decide +kernel))), by simp [execOp, go_sem, h80, h83, hHead.out, hSz, hk0, hk1], Below.refl _ _, rfl⟩
            refine OweAll.cons (owesK rfl rfl fun a w1 ha hG hV => ?_) ?_
            · skip
              have h0 := ha.outer 0 (by decide +kernel)
              simp only [Act.eval] at h0
              exact ⟨.string ⟨S.toArray⟩, w1, (wanted_of (t := 79) rfl rfl (hV.get 79 (by decide +kernel))), by simp [execOp, go_sem, h0], Below.refl _ _, rfl⟩
            refine OweAll.cons (owesK rfl rfl fun a w1 ha hG hV => ?_) ?_
            · skip
              have h0 := ha.outer 0 (by decide +kernel)
              simp only [Act.eval] at h0
              exact ⟨.string ⟨S.toArray⟩, w1, (wanted_of (t := 79) rfl rfl (hV.get 79 (by decide +kernel))), by simp [execOp, go_sem, h0], Below.refl _ _, rfl⟩
            refine OweAll.cons (owesK rfl rfl fun a w1 ha hG hV => ?_) ?_
            · skip
              have h86 : a.tmps.getD 86 undef = .string ⟨S.toArray⟩ := hV.get 86 (by decide +kernel)
              exact ⟨.int .i64 (l : Int), w1, (wanted_of (t := 79) rfl rfl (hV.get 79 (by decide +kernel))), by simp [execOp, go_sem, h86, resolve, invoke, builtin, hSz], Below.refl _ _, rfl⟩
            refine OweAll.cons (owesK rfl rfl fun a w1 ha hG hV => ?_) ?_
            · skip
              have h87 : a.tmps.getD 87 undef = .int .i64 (l : Int) := hV.get 87 (by decide +kernel)
              exact ⟨.int .i64 (h : Int), w1, (wanted_of (t := 79) rfl rfl (hV.get 79 (by decide +kernel))), by simp [execOp, go_sem, h87, e1, e2], Below.refl _ _, rfl⟩
            refine OweAll.cons (owesK rfl rfl fun a w1 ha hG hV => ?_) ?_
            · skip
              have h85 : a.tmps.getD 85 undef = .string ⟨S.toArray⟩ := hV.get 85 (by decide +kernel)
              have h88 : a.tmps.getD 88 undef = .int .i64 (h : Int) := hV.get 88 (by decide +kernel)
              exact ⟨.string ⟨(S.drop h).toArray⟩, w1, (wanted_of (t := 79) rfl rfl (hV.get 79 (by decide +kernel))), by simp [execOp, go_sem, h85, h88, hTail.out, hSz, hk0, hk1], Below.refl _ _, rfl⟩
            refine OweAll.cons (owesK rfl rfl fun a w1 ha hG hV => ?_) ?_
            · skip
              have h84 : a.tmps.getD 84 undef = .string ⟨(S.take h).toArray⟩ := hV.get 84 (by decide +kernel)
              have h89 : a.tmps.getD 89 undef = .string ⟨(S.drop h).toArray⟩ := hV.get 89 (by decide +kernel)
              have g84 : a.tmps[84]?.getD undef = .string ⟨(S.take h).toArray⟩ := by simpa using h84
              have g89 : a.tmps[89]?.getD undef = .string ⟨(S.drop h).toArray⟩ := by simpa using h89
              exact ⟨.slice (some ⟨w1.heap.size, 0, none⟩) 2 2, w1.alloc (.cells #[.string ⟨(S.take h).toArray⟩, .string ⟨(S.drop h).toArray⟩] 9), (wanted_of (t := 79) rfl rfl (hV.get 79 (by decide +kernel))), by simp [execOp, go_sem, h84, h89, g84, g89], (Below.refl _ _).alloc (Nat.le_refl _) _, StrsAt.made w1 9 [S.take h, S.drop h]⟩
            refine OweAll.cons (owesK_call rfl rfl 25 fun a w1 ha hG hV => ?_) ?_
            · skip
              have s90 : (strsSt [S.take h, S.drop h]).p (a.tmps.getD 90 undef) w1 := hV.get 90 (by decide +kernel)
              obtain ⟨v90, h90⟩ : ∃ v, a.tmps.getD 90 undef = v := ⟨_, rfl⟩
              rw [h90] at s90
              refine ⟨#[v90], (wanted_of (t := 79) rfl rfl (hV.get 79 (by decide +kernel))), by simp [execOp, resolve, invoke, go_sem, h90], ?_⟩
              refine (hck2.out v90 w1 s90 (HTX.out.old hG)).mono ?_
              rintro r u2 ⟨rfl, hb⟩; exact ⟨_, rfl, rfl, hb⟩
            refine OweAll.cons (owesK rfl rfl fun a w1 ha hG hV => ?_) ?_
            · skip
              have h11 := ha.outer 11 (by decide +kernel)
              simp only [Act.eval] at h11
              exact ⟨.int .u32 ((y : Nat) : Int), w1, (wanted_of (t := 79) rfl rfl (hV.get 79 (by decide +kernel))), by simp [execOp, go_sem, h11], Below.refl _ _, rfl⟩
            refine OweAll.cons (owesK rfl rfl fun a w1 ha hG hV => ?_) ?_
            · skip
              have h91 : a.tmps.getD 91 undef = .int .u32 ((y : Nat) : Int) := hV.get 91 (by decide +kernel)
              have h92 : a.tmps.getD 92 undef = .int .u32 ((y : Nat) : Int) := hV.get 92 (by decide +kernel)
              exact ⟨Value.bool true, w1, (wanted_of (t := 79) rfl rfl (hV.get 79 (by decide +kernel))), by simp [execOp, go_sem, h91, h92], Below.refl _ _, rfl⟩
            refine OweAll.cons (owesK rfl rfl fun a w1 ha hG hV => ?_) ?_
            · skip
              have h79 : a.tmps.getD 79 undef = Value.bool true := hV.get 79 (by decide +kernel)
              have h93 : a.tmps.getD 93 undef = Value.bool true := hV.get 93 (by decide +kernel)
              exact ⟨Value.bool true, w1, wanted_free rfl, by simp [execOp, go_sem, h79, h93], Below.refl _ _, rfl⟩
            refine OweAll.cons (owesK rfl rfl fun a w1 ha hG hV => ?_) ?_
            · skip
              have h94 : a.tmps.getD 94 undef = Value.bool true := hV.get 94 (by decide +kernel)
              exact ⟨Value.bool true, w1, wanted_free rfl, by simp [execOp, go_sem, h94], Below.refl _ _, rfl⟩
            exact OweAll.nil
            ) ?_
          intro f wz hG hv
          have e4 : f 4 = Value.bool true := hv 34 _ 4 rfl rfl
          rename_i hK
          refine hK _ _ ?_
          clear hK hv
          simp only [dsts, puts, List.filterMap_cons, List.filterMap_nil, List.foldl_cons, List.foldl_nil, Act.put, List.setIfInBounds_toArray, List.set_cons_succ, List.set_cons_zero, e4]
          clear e4
          have HG := Lib.hid (HBX.out.trans (hG.mono (by have := Hgg.out; have := HBX.out.size; omega)))
          clear hG
          go_wp2_with fail
          go_ret
          exact ⟨rfl, by rw [Hgg.out]; exact HG.out⟩
end Go.Proofs.YtkejidmomnmdbaaDoor
