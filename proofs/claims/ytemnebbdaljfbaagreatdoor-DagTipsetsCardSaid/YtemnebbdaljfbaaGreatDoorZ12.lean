/- Texts 12: what the laws lean on. -/
import Derived.Test.YtemnebbdaljfbaaGreatDoorZ9
import Derived.Test.YtemnebbdaljfbaaGreatDoorZ10
import Derived.Test.YtemnebbdaljfbaaGreatDoorZ11
set_option linter.unusedVariables false
set_option linter.unusedSimpArgs false
namespace Go.Proofs.YtemnebbdaljfbaaGreatDoor
open Go.RowKit
set_option maxHeartbeats 40000000 in
set_option maxRecDepth 100000 in
theorem refof_any (s : List UInt8) (w : World) (hl : s.length ≤ 1073741824) :
    Calls Tryz.prog 86 #[.string ⟨s.toArray⟩] w fun r w' => r = .returned (.string (bytesOf (sha (nats s)))) ∧ Mod (fun _ => False) w w' := by
  obtain ⟨m, hm⟩ : ∃ m, m = nats s := ⟨_, rfl⟩
  have hml : m.length = s.length := by rw [hm, nats_len]
  have hmb : ∀ x ∈ m, x < 256 := by rw [hm]; intro x hx; obtain ⟨c, _, rfl⟩ := List.mem_map.1 hx; exact c.toNat_lt
  rw [← hm, ← bytesOf_nats, ← hm]
  clear hm
  obtain ⟨N, hN⟩ : ∃ N, N = m.length := ⟨_, rfl⟩
  have hNl : N ≤ 1073741824 := by omega
  have hc1 := fun (x : Nat) (w : World) => lit_str (P := Tryz.prog) x w Tryz.underlying68 Tryz.underlying5 Tryz.underlying9
  have hc128 := hc1 128
  have hc0 := hc1 0
  rw [show ((128 : Nat) : Int) = 128 from rfl] at hc128
  rw [show ((0 : Nat) : Int) = 0 from rfl] at hc0
  have e0 : (bytesOf m).size = N := by rw [bytesOf_size, hN]
  have z128 : (bytesOf [128]).size = 1 := rfl
  have z0 : (bytesOf [0]).size = 1 := rfl
  have l1 : ¬ 9223372036854775807 < N + 1 := by omega
  have Hml := Lib.hid hml
  have HN := Lib.hid hN
  clear hml hN
  go_enter Tryz.func86, Tryz.ntmps86
  go_upto_block 0 with fail
  generalize hW1 : w.alloc _ = W1
  have hM1 : Mod (fun _ => False) w W1 := by rw [← hW1]; exact (Mod.refl _ _).alloc _
  clear hW1
  have hp0 : bytesOf m ++ bytesOf [128] = bytesOf (Pad m 0) := by rw [bytesOf_app]; simp [Pad]
  rw [hp0]
  clear hp0 l1
  obtain ⟨Z, hZ⟩ : ∃ Z, Z = zeros N := ⟨_, rfl⟩
  have hZ1 : (N + 1 + Z) % 64 = 56 := by rw [hZ, zeros]; omega
  have hZ2 : Z < 64 := by rw [hZ, zeros]; omega
  have HZ := Lib.hid hZ
  clear hZ
  go_cut [0] (fun s0 wx => s0 = .string (bytesOf (Pad m Z)) ∧ Mod (fun _ => False) w wx)
  case first =>
    go_wp2_with fail
    go_loopw [0] (fun s0 wr => ∃ k : Nat, k ≤ Z ∧ s0 = .string (bytesOf (Pad m k)) ∧ Mod (fun _ => False) w wr) (fun s0 _ => N + 65 - (match s0 with | .string t => t.size | _ => 0))
    case atStart => exact ⟨0, by omega, rfl, hM1⟩
    case round =>
      clear hM1
      obtain ⟨k, hk, rfl, hM⟩ := hrel
      have ht : (bytesOf (Pad m k)).size = N + 1 + k := by rw [bytesOf_size, Pad_len, ← HN.out]
      have hs := bytesOf_app (Pad m k) [0]
      rw [← Pad_succ] at hs
      have ht2 : (bytesOf (Pad m (k + 1))).size = N + 1 + (k + 1) := by rw [bytesOf_size, Pad_len, ← HN.out]
      obtain ⟨t2, hte⟩ : ∃ t, t = bytesOf (Pad m (k + 1)) := ⟨_, rfl⟩
      rw [← hte] at hs ht2
      have Ht := Lib.hid hte
      clear hte
      by_cases hlt : k < Z
      · have l1 : ¬ 9223372036854775807 < N + 1 + k + 1 := by omega
        have g0 : (0 : Int) ≤ ((N + 1 + k : Nat) : Int) := by omega
        have g1 : ((N + 1 + k : Nat) : Int).tmod 64 = ((N + 1 + k) % 64 : Nat) := by rw [Int.tmod_eq_emod_of_nonneg g0]; rfl
        have g2 : ((((N + 1 + k) % 64 : Nat) : Int) == 56) = false := by rw [beq_eq_false_iff_ne]; omega
        go_wp2_with fail
        go_roundw
        case rel => exact ⟨k + 1, by omega, by rw [← Ht.out], hM.alloc _⟩
        case measure => simp only [ht, ht2]; omega
      · obtain rfl : k = Z := by omega
        go_wp2_with fail
        go_meet
        exact ⟨rfl, hM⟩
  case rest =>
  obtain ⟨rfl, hM2⟩ := hcut
  clear hM1 hZ1 hZ2
  go_upto_block 2 with fail
  go_cut [4] (fun s4 wx => s4 = .string (bytesOf (lenBytes N 8)) ∧ Mod (fun _ => False) w wx)
  case first =>
    obtain ⟨f, hf⟩ : ∃ f : Nat → Nat, f = fun k => N * 8 / 256 ^ k := ⟨_, rfl⟩
    have f0 : ((N : Int) * 8) = (f 0 : Nat) := by rw [hf]; simp
    have fs : ∀ k, f (k + 1) = f k / 256 := by intro k; rw [hf]; simp only; rw [Nat.pow_succ, Nat.div_div_eq_div_mul]
    have fb : ∀ k, k < 8 → bytesOf [f k % 256] ++ bytesOf ((lenBytes N 8).drop (8 - k)) = bytesOf ((lenBytes N 8).drop (8 - (k + 1))) := by intro k hk; rw [hf]; exact cut_bytes N k hk
    have fl : ∀ k, f k ≤ 8589934592 := by intro k; rw [hf]; exact Nat.le_trans (Nat.div_le_self _ _) (by omega)
    have F0 := Lib.hid f0
    have Fs := Lib.hid fs
    have Fb := Lib.hid fb
    clear hf f0 fs fb
    go_wp2_with fail
    go_loopw [3, 4, 5] (fun s3 s4 s5 wr => ∃ k : Nat, k ≤ 8 ∧ s3 = .int .u64 (f k : Int) ∧ s4 = .string (bytesOf ((lenBytes N 8).drop (8 - k))) ∧ s5 = .int .i64 k ∧ Mod (fun _ => False) w wr) (fun _ _ i _ => 8 - (intOf i).toNat)
    case atStart => exact ⟨0, by omega, by rw [F0.out], by rw [show 8 - 0 = 8 from rfl, List.drop_of_length_le (by rw [lenBytes_len]; omega)]; rfl, rfl, hM2⟩
    case round =>
      clear hM2
      obtain ⟨k, hk, rfl, rfl, rfl, hM⟩ := hrel
      by_cases hlt : k < 8
      · have hb := Fb.out k hlt
        have hs := Fs.out k
        have hl := lenBytes_drop N k hk
        have hy0 := fl (k + 1)
        obtain ⟨y', hy'⟩ : ∃ y', y' = f (k + 1) := ⟨_, rfl⟩
        rw [← hy'] at hs hy0
        have Hy := Lib.hid hy'
        clear hy'
        have d5 : IntKind.u64.wrap (y' : Int) = (y' : Int) := by rw [IntKind.wrap_u64]; omega
        generalize f k = y at hb hs ⊢
        generalize (lenBytes N 8).drop (8 - k) = t at hb hl ⊢
        have ht : (bytesOf t).size = k := by rw [bytesOf_size, hl]
        obtain ⟨b, hbe⟩ : ∃ b, b = y % 256 := ⟨_, rfl⟩
        rw [← hbe] at hb
        have y0 : (0 : Int) ≤ y := by omega
        have d1 : (y : Int).tmod 256 = (b : Int) := by rw [Int.tmod_eq_emod_of_nonneg y0, hbe]; omega
        have d2 : (y : Int).tdiv 256 = (y' : Int) := by rw [Int.tdiv_eq_ediv_of_nonneg y0, hs]; omega
        have d3 : IntKind.u8.wrap (b : Int) = (b : Int) := by rw [IntKind.wrap_u8]; omega
        have d4 := fun w => hc1 b w
        have zb : (bytesOf [b]).size = 1 := rfl
        have l1 : ¬ 9223372036854775807 < 1 + k := by omega
        have HB := Lib.hid hb
        clear hb hs hbe hl
        go_wp2_with fail
        go_roundw
        case rel => exact ⟨k + 1, by omega, by rw [← Hy.out], by rw [HB.out], by go_num, hM.alloc _⟩
        case measure => simp [intOf]; omega
      · obtain rfl : k = 8 := by omega
        go_wp2_with fail
        go_meet
        exact ⟨rfl, hM⟩
  case rest =>
  obtain ⟨rfl, hM3⟩ := hcut
  clear hM2
  have hPl : (bytesOf (Pad m Z)).size = N + 1 + Z := by rw [bytesOf_size, Pad_len, ← HN.out]
  have hZ2 : Z < 64 := by rw [HZ.out, zeros]; omega
  have hll : (bytesOf (lenBytes N 8)).size = 8 := by rw [bytesOf_size, lenBytes_len]
  have l1 : ¬ 9223372036854775807 < N + 1 + Z + 8 := by omega
  obtain ⟨p, hp⟩ : ∃ p, p = padded m := ⟨_, rfl⟩
  have hpp : bytesOf (Pad m Z) ++ bytesOf (lenBytes N 8) = bytesOf p := by rw [bytesOf_app, hp, HZ.out, HN.out]; rfl
  have hpl : p.length = N + 1 + Z + 8 := by rw [← bytesOf_size, ← hpp, ByteArray.size_append, hPl, hll]
  have hpm : p.length % 64 = 0 := by rw [hp]; exact padded_len m
  have hpb : ∀ x ∈ p, x < 256 := by rw [hp]; exact padded_lt m hmb
  have HPP := Lib.hid hpp
  have HP := Lib.hid hp
  have HPL := Lib.hid hpl
  clear hpp hp hpl
  go_upto_block 4 with (first | (go_at_call 116; generalize hWh : wc.alloc _ = Wh; refine (keys_any Wh).mono ?_; rintro r wk ⟨rfl, hMk, hKk⟩) | fail)
  have hMh : Mod (fun _ => False) wc Wh := by rw [← hWh]; exact (Mod.refl _ _).alloc _
  have hHh : RowAt .u64 26 Wh wc.heap.size hTab := by rw [← hWh]; exact heap_alloc_new _ _
  obtain ⟨gh, hgh⟩ : ∃ g, g = wc.heap.size := ⟨_, rfl⟩
  obtain ⟨gk, hgk⟩ : ∃ g, g = Wh.heap.size := ⟨_, rfl⟩
  obtain ⟨B, hB⟩ : ∃ g, g = wk.heap.size := ⟨_, rfl⟩
  rw [← hgh] at hHh ⊢
  rw [← hgk] at hKk ⊢
  have hRef : RefAt w gh gk B (wordsAt p 0) wk := by
    have h1 := hHh.lt
    have h2 := hKk.lt
    have h3 := hM3.size
    have h4 := hMk.size
    rw [wordsAt_zero]
    exact ⟨(hM3.trans hMh (fun _ _ h => h)).trans hMk (fun _ _ h => h), hHh.kept hMk (fun h => h), hKk, by omega, by omega, by omega, by omega, by omega⟩
  rw [HPP.out]
  clear hWh hMh hHh hMk hKk hM3 hgh hgk hB hc128 hc0 z128 z0 e0 hPl hll l1
  have hps : (bytesOf p).size = p.length := bytesOf_size p
  have hpn : p.length ≤ 2147483648 := by rw [HPL.out]; omega
  go_cut [8] (fun s8 wx => RefAt w gh gk B (absorb p).1 wx)
  case first =>
    go_wp2_with fail
    go_loopw [8] (fun s8 wr => ∃ j : Nat, 64 * j ≤ p.length ∧ s8 = .int .i64 ((64 * j : Nat) : Int) ∧ RefAt w gh gk B (wordsAt p j) wr) (fun s8 _ => p.length - (intOf s8).toNat)
    case atStart => exact ⟨0, by omega, rfl, hRef⟩
    case round =>
      clear hRef
      obtain ⟨j, hj, rfl, hR⟩ := hrel
      by_cases hlt : 64 * j < p.length
      · obtain ⟨at', hat⟩ : ∃ a, a = 64 * j := ⟨_, rfl⟩
        have hj1 : 64 * (j + 1) ≤ p.length := by omega
        rw [← hat] at hj hlt ⊢
        have hlti : (at' : Int) < (p.length : Nat) := by omega
        have HA := Lib.hid hat
        have hat64 : at' + 64 ≤ p.length := by omega
        have Hn := Lib.hid (wordsAt_succ p j hj1)
        have hLl := chunk_len p j hj1
        have hLb : ∀ x ∈ chunk p j, x < 256 := by
          intro x hx; exact hpb x (List.mem_of_mem_drop (List.mem_of_mem_take hx))
        have hLp : ∀ i, i < 64 → (chunk p j).getD i 0 = p.getD (at' + i) 0 := by intro i hi; rw [chunk_at p j i hi, ← HA.out]
        generalize chunk p j = L at Hn hLl hLb hLp
        generalize hHH : wordsAt p j = HH at hR Hn
        have hHl : HH.length = 8 := by rw [← hHH]; exact wordsAt_len _ _
        have hHb : ∀ x ∈ HH, x < 4294967296 := by rw [← hHH]; exact wordsAt_lt _ _
        clear hat hHH
        go_upto_block 6 with fail
        generalize hW : wr.alloc _ = W
        have hWm : Mod (fun i => B ≤ i) wr W := by rw [← hW]; exact (Mod.refl _ _).alloc _
        have hV : W64 B W wr.heap.size 0 [] := by rw [← hW]; exact W64.fresh wr [] hR.b (by decide)
        have hR1 := hR.step hWm
        clear hW hWm hR
        generalize wr.heap.size = g0 at hV ⊢
        go_cut [9] (fun s9 wx => ∃ g cap, s9 = .slice (some ⟨g, 0, none⟩) 16 cap ∧ W64 B wx g cap (schedTo L 16) ∧ RefAt w gh gk B HH wx)
        case first =>
          rename_i J9 K9 hJ9 hM9; exact sixteen w W p L HH gh gk B g0 at' hps hpn hpb hat64 hLl hLb hLp hV hR1 hJ9 hM9
        case rest =>
        obtain ⟨g1, cap1, rfl, hV1, hR2⟩ := hcut
        clear hV hR1
        go_upto_block 10 with fail
        go_cut [9] (fun s9 wx => ∃ g cap, s9 = .slice (some ⟨g, 0, none⟩) 64 cap ∧ W64 B wx g cap (schedTo L 64) ∧ RefAt w gh gk B HH wx)
        case first =>
          rename_i J9 K9 hJ9 hM9; exact later w _ L HH gh gk B g1 cap1 hLb hV1 hR2 hJ9 hM9
        case rest =>
        obtain ⟨g2, cap2, rfl, hV2, hR3⟩ := hcut
        clear hV1 hR2
        have hSLl : (schedTo L 64).length = 64 := schedTo_len L 64
        have hSLb : ∀ x ∈ schedTo L 64, x < 4294967296 := schedTo_lt L hLb 64
        generalize hSL : schedTo L 64 = SL at hV2 hSLl hSLb
        have HSL := Lib.hid hSL
        clear hSL
        have hv0 := toV_ok HH hHl hHb
        have hv0l := toV_list HH hHl
        obtain ⟨v0, hv0e⟩ : ∃ v, v = toV HH := ⟨_, rfl⟩
        rw [← hv0e] at hv0 hv0l
        have Hv0 := Lib.hid hv0e
        have Hv0l := Lib.hid hv0l
        clear hv0e hv0l
        rename World => wq
        go_upto_block 12 with (first | (at_builtin; refine wpList_clone64 rfl _ _ rfl B wq.heap.size 0 gh 8 8 HH hHl (by decide) rfl (W64.fresh wq [] hR3.b (by simp [maxLen])) (hR3.h.kept ((Mod.refl (fun _ => False) _).alloc _) (fun h => h)) rfl (by decide) (by have := hR3.b; simp; omega) ?_; intro gv capv wv hVv hMv) | fail)
        have hX0 : Rel7 w gh gk B HH SL g2 cap2 gv capv v0 wv := by
          have hm0 : Mod (fun _ => False) wq wv := (((Mod.refl (· = wq.heap.size) wq).alloc _).trans hMv (fun _ _ h => h)).mono (fun i hi h => by omega)
          have hm : Mod (fun i => B ≤ i) wq wv := hm0.mono (fun _ _ h => h.elim)
          exact ⟨hR3.step hm, hV2.kept hm0 (fun h => h), by rw [Hv0l.out]; exact hVv⟩
        clear hVv hMv hV2 hR3
        go_cut [16] (fun s16 wx => ∃ gv capv, s16 = .slice (some ⟨gv, 0, none⟩) 8 capv ∧ Rel7 w gh gk B HH SL g2 cap2 gv capv (rounds v0 SL 64) wx)
        case first =>
          rename_i J9 K9 hJ9 hM9; exact turns w wv HH SL v0 gh gk B g2 cap2 gv capv hv0 hSLl hSLb hX0 hJ9 hM9
        case rest =>
        obtain ⟨gv2, capv2, rfl, hX⟩ := hcut
        have hbl : block HH L = List.zipWith (fun x y => (x + y) % 4294967296) HH (rounds v0 SL 64).list := by rw [Hv0.out, ← HSL.out]; rfl
        have hvok := rounds_ok v0 hv0 SL 64
        have hVs := hX.v
        have hRR := hX.r
        obtain ⟨VL, hVL⟩ : ∃ VL, VL = (rounds v0 SL 64).list := ⟨_, rfl⟩
        have hVLl : VL.length = 8 := by rw [hVL]; rfl
        have hVLb : ∀ x ∈ VL, x < 4294967296 := by
          rw [hVL]; intro x hx
          simp only [V.list, List.mem_cons, List.not_mem_nil, or_false] at hx
          rcases hx with rfl | rfl | rfl | rfl | rfl | rfl | rfl | rfl
          · exact hvok.a
          · exact hvok.b
          · exact hvok.c
          · exact hvok.d
          · exact hvok.e
          · exact hvok.f
          · exact hvok.g
          · exact hvok.h
        rw [← hVL] at hbl hVs
        obtain ⟨BL, hBL⟩ : ∃ BL, BL = block HH L := ⟨_, rfl⟩
        rw [← hBL] at hbl Hn
        have hBLl : BL.length = 8 := by rw [hbl, List.length_zipWith, hHl, hVLl]; rfl
        have Hbl := Lib.hid hbl
        have HR0 := Lib.hid hRR
        have HV0 := Lib.hid hVs
        have HBl := Lib.hid hBLl
        have HVl := Lib.hid hVLl
        have HVb := Lib.hid hVLb
        have HHl := Lib.hid hHl
        have HHb := Lib.hid hHb
        clear hX hX0 hvok hVs hRR hVL hbl hBL hBLl hVLl hVLb hHl hHb hLl hLb hLp hSLb hSLl hv0 hpm hpb hc1 hat64 HSL Hv0 Hv0l HZ HN Hml
        go_wp2_with fail
        go_loopw [283] (fun s283 wr => ∃ k : Nat, k ≤ 8 ∧ s283 = .int .i64 (k : Int) ∧ HRel w gh gk B HH BL k wr ∧ W64 B wr gv2 capv2 VL) (fun i _ => 8 - (intOf i).toNat)
        case atStart => exact ⟨0, by omega, rfl, ⟨HH, HR0.out, HHl.out, by rw [List.take_zero, List.take_zero], rfl⟩, HV0.out⟩
        case round =>
          obtain ⟨k, hk, rfl, ⟨Hp, hR, hpl, htk, hdk⟩, hV⟩ := hrel
          by_cases hk8 : k < 8
          · as_aux_lemma =>
            obtain ⟨y, hy⟩ : ∃ y, y = VL[k]'(by have := HVl.out; omega) := ⟨_, rfl⟩
            obtain ⟨z, hz⟩ : ∃ z, z = Hp[k]'(by omega) := ⟨_, rfl⟩
            have hz2 : z = HH[k]'(by have := HHl.out; omega) := by
              have e1 : (Hp.drop k)[0]? = (HH.drop k)[0]? := by rw [hdk]
              rw [List.getElem?_drop, List.getElem?_drop, Nat.add_zero, List.getElem?_eq_getElem (by omega), List.getElem?_eq_getElem (by have := HHl.out; omega)] at e1
              rw [hz]; exact Option.some.inj e1
            have by4 : y < 4294967296 := by rw [hy]; exact HVb.out _ (List.getElem_mem _)
            have bz4 : z < 4294967296 := by rw [hz2]; exact HHb.out _ (List.getElem_mem _)
            obtain ⟨x, hx⟩ : ∃ x, x = (z + y) % 4294967296 := ⟨_, rfl⟩
            have ch := hR.h.cell k (by omega)
            rw [← hz] at ch
            have fh := hR.h.froz k
            have cv := hV.cell k (by have := HVl.out; omega)
            rw [← hy] at cv
            have hlo := hV.lo
            have hhb := hR.hb
            have Hr : Hid (HRel w gh gk B HH BL (k + 1) (wr.setCell ⟨gh, k, none⟩ (.int .u64 (x : Int))).drew ∧ W64 B (wr.setCell ⟨gh, k, none⟩ (.int .u64 (x : Int))).drew gv2 capv2 VL) := Lib.hid (by
              refine ⟨⟨Hp.set k x, (hR.set k x).step (Mod.drew (Mod.refl _ _)), by rw [List.length_set]; exact hpl, ?_, ?_⟩, hV.kept (Mod.drew ((Mod.refl (· = gh) wr).setCell (p := ⟨gh, k, none⟩) (fun _ => rfl) (.int .u64 (x : Int)))) (by omega)⟩
              · rw [take_set_succ _ _ _ (by omega), htk, List.take_succ_eq_append_getElem (by have := HBl.out; omega)]
                congr 2
                rw [hx, hz2, hy]
                have := Hbl.out
                subst this
                rw [List.getElem_zipWith]
              · rw [List.drop_set_of_lt (by omega), ← List.drop_drop, hdk, List.drop_drop])
            have ia : (0 : Int) ≤ k := by omega
            have ib : (k : Int) < 8 := by omega
            have s1 : IntKind.u64.wrap ((z : Int) + y) = (z : Int) + y := by rw [IntKind.wrap_u64]; omega
            have s2 : ((z : Int) + y) % 4294967296 = (x : Int) := by rw [hx]; omega
            have s3 : ((z : Int) + y).tmod 4294967296 = (x : Int) := by rw [Int.tmod_eq_emod_of_nonneg (by omega)]; exact s2
            clear hy hz hz2 hx htk hdk hR hV hpl Hn Hbl HR0 HV0 HBl HVl HVb HHl HHb HA HP HPL HPP
            go_wp2_with fail
            go_still_tail 13, (by kernel_rfl)
            change wpList _ _ _ _ _ wr.drew
            go_wp2_with fail
            go_roundw
            case rel => exact ⟨k + 1, by omega, by go_num, Hr.out.1, Hr.out.2⟩
            case measure => simp [intOf]; omega
          · obtain rfl : k = 8 := by omega
            have hHp : Hp = BL := by
              have := HBl.out
              rw [List.take_of_length_le (by omega), List.take_of_length_le (by omega)] at htk; exact htk
            rw [hHp] at hR
            clear hHp htk hdk hpl hV HR0 HV0 HBl HVl HVb HHl HHb Hbl
            go_wp2_with fail
            go_roundw
            case rel => exact ⟨j + 1, hj1, val_int (by have := HA.out; omega), by rw [Hn.out]; exact hR⟩
            case measure => have := HA.out; simp [intOf]; omega
      · have hj64 : 64 * j = p.length := by omega
        have hfin : RefAt w gh gk B (absorb p).1 wr := by rw [wordsAt_end p j hj64]; exact hR
        rw [hj64]
        clear hj64 hlt hj hR
        go_wp2_with fail
        go_meet
        exact hfin
  case rest =>
  clear hRef
  have hE8 : (absorb p).1.length = 8 := absorb_words _
  have hEb : ∀ x ∈ (absorb p).1, x < 4294967296 := absorb_lt _
  have hsha : sha m = outTo (absorb p).1 (4 * 8) := by rw [HP.out]; rfl
  have hR := hcut
  clear hcut
  generalize (absorb p).1 = HE at hE8 hEb hsha hR
  have Hsha := Lib.hid hsha
  have HE8 := Lib.hid hE8
  have HEb := Lib.hid hEb
  have HR := Lib.hid hR
  have hc4 := fun (a b c d : Nat) (w : World) => lit_str4 (P := Tryz.prog) a b c d w Tryz.underlying68 Tryz.underlying5 Tryz.underlying9
  clear hsha hE8 hEb hR hpm hpb hc1 HZ HN HP HPL HPP Hml hps hpn hmb hl hNl
  go_wp2_with fail
  go_loopw [25, 302] (fun s25 s302 wr => ∃ k : Nat, k ≤ 8 ∧ s302 = .int .i64 (k : Int) ∧ s25 = .string (bytesOf (outTo HE (4 * k))) ∧ RefAt w gh gk B HE wr) (fun _ i _ => 8 - (intOf i).toNat)
  case atStart => exact ⟨0, by omega, rfl, rfl, HR.out⟩
  case round =>
    obtain ⟨k, hk, rfl, rfl, hR⟩ := hrel
    by_cases hk8 : k < 8
    · as_aux_lemma =>
      obtain ⟨x, hx⟩ : ∃ x, x = HE[k]'(by have := HE8.out; omega) := ⟨_, rfl⟩
      have bx : x < 4294967296 := by rw [hx]; exact HEb.out _ (List.getElem_mem _)
      have cx := hR.h.cell k (by have := HE8.out; omega)
      rw [← hx] at cx
      have hout := outTo_four HE k
      rw [getD_at _ _ (by have := HE8.out; omega), ← hx] at hout
      have hol := outTo_len HE (4 * k)
      obtain ⟨T, hT⟩ : ∃ T, T = outTo HE (4 * k) := ⟨_, rfl⟩
      rw [← hT] at hout hol ⊢
      obtain ⟨a, ha⟩ : ∃ a, a = x / 16777216 := ⟨_, rfl⟩
      obtain ⟨b1, hb1⟩ : ∃ a, a = x / 65536 := ⟨_, rfl⟩
      obtain ⟨b, hb⟩ : ∃ a, a = b1 % 256 := ⟨_, rfl⟩
      obtain ⟨c1, hc1⟩ : ∃ a, a = x / 256 := ⟨_, rfl⟩
      obtain ⟨c, hc⟩ : ∃ a, a = c1 % 256 := ⟨_, rfl⟩
      obtain ⟨d, hd⟩ : ∃ a, a = x % 256 := ⟨_, rfl⟩
      have hfour : four x = [a, b, c, d] := by unfold four; rw [ha, hb, hb1, hc, hc1, hd]; rw [Nat.mod_eq_of_lt (show x / 16777216 < 256 by omega)]
      rw [hfour] at hout
      have x0 : (0 : Int) ≤ x := by omega
      have d1 : (x : Int).tdiv 16777216 = (a : Int) := by rw [Int.tdiv_eq_ediv_of_nonneg x0, ha]; omega
      have d2 : (x : Int).tdiv 65536 = (b1 : Int) := by rw [Int.tdiv_eq_ediv_of_nonneg x0, hb1]; omega
      have d3 : (b1 : Int).tmod 256 = (b : Int) := by rw [Int.tmod_eq_emod_of_nonneg (by omega), hb]; omega
      have d4 : (x : Int).tdiv 256 = (c1 : Int) := by rw [Int.tdiv_eq_ediv_of_nonneg x0, hc1]; omega
      have d5 : (c1 : Int).tmod 256 = (c : Int) := by rw [Int.tmod_eq_emod_of_nonneg (by omega), hc]; omega
      have d6 : (x : Int).tmod 256 = (d : Int) := by rw [Int.tmod_eq_emod_of_nonneg x0, hd]; omega
      have e1 : (a : Int) % 256 = (a : Int) := by omega
      have e2 : (b : Int) % 256 = (b : Int) := by omega
      have e3 : (c : Int) % 256 = (c : Int) := by omega
      have e4 : (d : Int) % 256 = (d : Int) := by omega
      have w1 : IntKind.u64.wrap (a : Int) = (a : Int) := by rw [IntKind.wrap_u64]; omega
      have w2 : IntKind.u64.wrap (b1 : Int) = (b1 : Int) := by rw [IntKind.wrap_u64]; omega
      have w3 : IntKind.u64.wrap (c1 : Int) = (c1 : Int) := by rw [IntKind.wrap_u64]; omega
      have hcc := fun w => hc4 a b c d w
      have zT : (bytesOf T).size = 4 * k := by rw [bytesOf_size, hol]
      have z4 : (bytesOf [a, b, c, d]).size = 4 := rfl
      have l1 : ¬ 9223372036854775807 < 4 * k + 4 := by omega
      have Hout : Hid (bytesOf T ++ bytesOf [a, b, c, d] = bytesOf (outTo HE (4 * (k + 1)))) := Lib.hid (by rw [bytesOf_app, hout])
      have ia : (0 : Int) ≤ k := by omega
      have ib : (k : Int) < 8 := by omega
      have HRk := Lib.hid hR
      clear hc4 hout hT hol ha hb hb1 hc hc1 hd hfour hx hR HE8 HEb HR Hsha
      go_wp2_with fail
      go_roundw
      case rel => exact ⟨k + 1, by omega, by go_num, by rw [Hout.out], HRk.out.step ((Mod.refl _ _).alloc _)⟩
      case measure => simp [intOf]; omega
    · obtain rfl : k = 8 := by omega
      rw [← Hsha.out]
      clear HE8 HEb HR hc4
      go_wp2_with fail
      go_ret
      exact ⟨rfl, hR.m⟩
end Go.Proofs.YtemnebbdaljfbaaGreatDoor

