/- Texts 10: what the laws lean on. -/
import Derived.Test.YtemnebbdaljfbaaGreatDoorZ8
set_option linter.unusedVariables false
set_option linter.unusedSimpArgs false
namespace Go.Proofs.YtemnebbdaljfbaaGreatDoor
open Go.RowKit
set_option maxHeartbeats 40000000 in
set_option maxRecDepth 100000 in
theorem later {x0 x2 x3 x4 x5 x6 x7 x8 x10 x11 x12 x14 x15 x16 x17 x18 x19 x20 x21 x22 x23 x24 x28 x29 x30 x31 x32 x33 x34 x35 x36 x37 x38 x39 x40 x41 x42 x43 x44 x45 x46 x47 x48 x49 x50 x51 x52 x53 x54 x55 x56 x57 x58 x59 x60 x61 x62 x63 x64 x65 x66 x67 x68 x69 x70 x71 x72 x73 x74 x75 x76 x77 x78 x79 x80 x81 x82 x83 x84 x85 x86 x87 x88 x89 x90 x91 x92 x93 x94 x95 x96 x97 x98 x99 x100 x101 x102 x103 x104 x105 x106 x107 x108 x109 x110 x111 x112 x113 x114 x115 x116 x117 x118 x119 x120 x121 x122 x123 x124 x125 x126 x127 x128 x129 x130 x131 x132 x133 x134 x135 x136 x137 x138 x139 x140 x141 x142 x143 x144 x145 x146 x147 x148 x149 x150 x151 x152 x153 x154 x155 x156 x157 x158 x159 x160 x161 x162 x163 x164 x165 x166 x167 x168 x169 x170 x171 x172 x173 x174 x175 x176 x177 x178 x179 x180 x181 x182 x183 x184 x185 x186 x187 x188 x189 x190 x191 x192 x193 x194 x195 x196 x197 x198 x199 x200 x201 x202 x203 x204 x205 x206 x207 x208 x209 x210 x211 x212 x213 x214 x215 x216 x217 x218 x219 x220 x221 x222 x223 x224 x225 x226 x227 x228 x229 x230 x231 x232 x233 x234 x235 x236 x237 x238 x239 x240 x241 x242 x243 x244 x245 x246 x247 x248 x249 x250 x251 x252 x253 x254 x255 x256 x257 x258 x259 x260 x261 x262 x263 x264 x265 x266 x267 x268 x269 x270 x271 x272 x273 x274 x275 x276 x277 x278 x279 x280 x281 x282 x283 x284 x285 x286 x287 x288 x289 x290 x291 x292 x293 x294 x295 x296 x297 x298 x299 : Value} (w W : World) (L HH : List Nat) (gh gk B g1 cap1 : Nat) (hLb : ∀ x ∈ L, x < 256) (hV1 : W64 B W g1 cap1 (schedTo L 16)) (hR2 : RefAt w gh gk B HH W)
    {J K' : Act → World → Prop} {Q' : Exit → Act → World → Prop} (hJ : ∀ a' w', (∃ u9 u13 u14 u15 u93 u94 u95 u96 u97 u98 u99 u100 u101 u102 u103 u104 u105 u106 u107 u108 u109 u110 u111 u112 u113 u114 u115 u116 u117 u118 u119 u120 u121 u122 u123 u124 u125 u126 u127 u128 u129 u130 u131 u132 u133 u134 u135 u136 u137 u138 u139 u140 u141 u142 u143 u144 u145 u146 u147 u148 u149 u150 u151 u152 u153 u154 u155 : Value, (∃ g cap, u9 = .slice (some ⟨g, 0, none⟩) 64 cap ∧ W64 B w' g cap (schedTo L 64) ∧ RefAt w gh gk B HH w') ∧ a' = ⟨#[x0, undef, x2, x3, x4, x5, x6, x7, x8, u9, x10, x11, x12, u13, u14, u15, x16, x17, x18, x19, x20, x21, x22, x23, x24, undef, undef, undef, x28, x29, x30, x31, x32, x33, x34, x35, x36, x37, x38, x39, x40, x41, x42, x43, x44, x45, x46, x47, x48, x49, x50, x51, x52, x53, x54, x55, x56, x57, x58, x59, x60, x61, x62, x63, x64, x65, x66, x67, x68, x69, x70, x71, x72, x73, x74, x75, x76, x77, x78, x79, x80, x81, x82, x83, x84, x85, x86, x87, x88, x89, x90, x91, x92, u93, u94, u95, u96, u97, u98, u99, u100, u101, u102, u103, u104, u105, u106, u107, u108, u109, u110, u111, u112, u113, u114, u115, u116, u117, u118, u119, u120, u121, u122, u123, u124, u125, u126, u127, u128, u129, u130, u131, u132, u133, u134, u135, u136, u137, u138, u139, u140, u141, u142, u143, u144, u145, u146, u147, u148, u149, u150, u151, u152, u153, u154, u155, x156, x157, x158, x159, x160, x161, x162, x163, x164, x165, x166, x167, x168, x169, x170, x171, x172, x173, x174, x175, x176, x177, x178, x179, x180, x181, x182, x183, x184, x185, x186, x187, x188, x189, x190, x191, x192, x193, x194, x195, x196, x197, x198, x199, x200, x201, x202, x203, x204, x205, x206, x207, x208, x209, x210, x211, x212, x213, x214, x215, x216, x217, x218, x219, x220, x221, x222, x223, x224, x225, x226, x227, x228, x229, x230, x231, x232, x233, x234, x235, x236, x237, x238, x239, x240, x241, x242, x243, x244, x245, x246, x247, x248, x249, x250, x251, x252, x253, x254, x255, x256, x257, x258, x259, x260, x261, x262, x263, x264, x265, x266, x267, x268, x269, x270, x271, x272, x273, x274, x275, x276, x277, x278, x279, x280, x281, x282, x283, x284, x285, x286, x287, x288, x289, x290, x291, x292, x293, x294, x295, x296, x297, x298, x299, undef, undef, undef, undef, undef, undef, undef, undef, undef, undef, undef, undef, undef, undef, undef, undef, undef, undef, undef, undef, undef, undef, undef, undef, undef, undef], []⟩) → J a' w') (hM : ∀ a' w', Met J a' w' → K' a' w') :
    Code.wp Tryz.prog (blkOf 10) (Exit.then K' Q') ⟨#[x0, undef, x2, x3, x4, x5, x6, x7, x8, .slice (some ⟨g1, 0, none⟩) 16 cap1, x10, x11, x12, .int .i64 16, x14, x15, x16, x17, x18, x19, x20, x21, x22, x23, x24, undef, undef, undef, x28, x29, x30, x31, x32, x33, x34, x35, x36, x37, x38, x39, x40, x41, x42, x43, x44, x45, x46, x47, x48, x49, x50, x51, x52, x53, x54, x55, x56, x57, x58, x59, x60, x61, x62, x63, x64, x65, x66, x67, x68, x69, x70, x71, x72, x73, x74, x75, x76, x77, x78, x79, x80, x81, x82, x83, x84, x85, x86, x87, x88, x89, x90, x91, x92, x93, x94, x95, x96, x97, x98, x99, x100, x101, x102, x103, x104, x105, x106, x107, x108, x109, x110, x111, x112, x113, x114, x115, x116, x117, x118, x119, x120, x121, x122, x123, x124, x125, x126, x127, x128, x129, x130, x131, x132, x133, x134, x135, x136, x137, x138, x139, x140, x141, x142, x143, x144, x145, x146, x147, x148, x149, x150, x151, x152, x153, x154, x155, x156, x157, x158, x159, x160, x161, x162, x163, x164, x165, x166, x167, x168, x169, x170, x171, x172, x173, x174, x175, x176, x177, x178, x179, x180, x181, x182, x183, x184, x185, x186, x187, x188, x189, x190, x191, x192, x193, x194, x195, x196, x197, x198, x199, x200, x201, x202, x203, x204, x205, x206, x207, x208, x209, x210, x211, x212, x213, x214, x215, x216, x217, x218, x219, x220, x221, x222, x223, x224, x225, x226, x227, x228, x229, x230, x231, x232, x233, x234, x235, x236, x237, x238, x239, x240, x241, x242, x243, x244, x245, x246, x247, x248, x249, x250, x251, x252, x253, x254, x255, x256, x257, x258, x259, x260, x261, x262, x263, x264, x265, x266, x267, x268, x269, x270, x271, x272, x273, x274, x275, x276, x277, x278, x279, x280, x281, x282, x283, x284, x285, x286, x287, x288, x289, x290, x291, x292, x293, x294, x295, x296, x297, x298, x299, undef, undef, undef, undef, undef, undef, undef, undef, undef, undef, undef, undef, undef, undef, undef, undef, undef, undef, undef, undef, undef, undef, undef, undef, undef, undef], []⟩ W := by
  conv => arg 2; whnf
  go_wp2_with fail
  go_loopw [9, 13] (fun s9 s13 wr => ∃ k g cap, 16 ≤ k ∧ k ≤ 64 ∧ s9 = .slice (some ⟨g, 0, none⟩) k cap ∧ s13 = .int .i64 (k : Int) ∧ W64 B wr g cap (schedTo L k) ∧ RefAt w gh gk B HH wr) (fun _ i _ => 64 - (intOf i).toNat)
  case atStart => exact ⟨16, g1, cap1, by omega, by omega, rfl, rfl, hV1, hR2⟩
  case round =>
    clear hV1 hR2
    obtain ⟨k, g, cap, hk0, hk, rfl, rfl, hV, hR⟩ := hrel
    by_cases hk64 : k < 64
    · as_aux_lemma =>
      have hkl := schedTo_len L k
      have hkb := schedTo_lt L hLb k
      have hnx := sched_next L k hk0
      rw [getD_at _ _ (by omega), getD_at _ _ (by omega), getD_at _ _ (by omega), getD_at _ _ (by omega)] at hnx
      have c16 := hV.cell (k - 16) (by omega)
      have c15 := hV.cell (k - 15) (by omega)
      have c7 := hV.cell (k - 7) (by omega)
      have c2 := hV.cell (k - 2) (by omega)
      have b16 := hkb _ (List.getElem_mem (show k - 16 < (schedTo L k).length by omega))
      have b15 := hkb _ (List.getElem_mem (show k - 15 < (schedTo L k).length by omega))
      have b7 := hkb _ (List.getElem_mem (show k - 7 < (schedTo L k).length by omega))
      have b2 := hkb _ (List.getElem_mem (show k - 2 < (schedTo L k).length by omega))
      obtain ⟨y16, e16⟩ : ∃ y, y = (schedTo L k)[k - 16]'(by omega) := ⟨_, rfl⟩
      obtain ⟨y15, e15⟩ : ∃ y, y = (schedTo L k)[k - 15]'(by omega) := ⟨_, rfl⟩
      obtain ⟨y7, e7⟩ : ∃ y, y = (schedTo L k)[k - 7]'(by omega) := ⟨_, rfl⟩
      obtain ⟨y2, e2⟩ : ∃ y, y = (schedTo L k)[k - 2]'(by omega) := ⟨_, rfl⟩
      rw [← e16] at c16 b16 hnx
      rw [← e15] at c15 b15 hnx
      rw [← e7] at c7 b7 hnx
      rw [← e2] at c2 b2 hnx
      obtain ⟨r0, z0, Hz0, lz0, x01, x02⟩ := s0_facts y15 b15
      obtain ⟨r1, z1, Hz1, lz1, x11, x12⟩ := s1_facts y2 b2
      rw [← Hz0.out, ← Hz1.out] at hnx
      obtain ⟨u, hu⟩ : ∃ u, u = (y16 + z0 + y7 + z1) % 4294967296 := ⟨_, rfl⟩
      rw [← hu] at hnx
      have i15 : (0 : Int) ≤ (k : Int) - 15 := by omega
      have j15 : (k : Int) - 15 < k := by omega
      have t15 : ((k : Int) - 15).toNat = k - 15 := by omega
      have i16 : (0 : Int) ≤ (k : Int) - 16 := by omega
      have j16 : (k : Int) - 16 < k := by omega
      have t16 : ((k : Int) - 16).toNat = k - 16 := by omega
      have i7 : (0 : Int) ≤ (k : Int) - 7 := by omega
      have j7 : (k : Int) - 7 < k := by omega
      have t7 : ((k : Int) - 7).toNat = k - 7 := by omega
      have i2 : (0 : Int) ≤ (k : Int) - 2 := by omega
      have j2 : (k : Int) - 2 < k := by omega
      have t2 : ((k : Int) - 2).toNat = k - 2 := by omega
      have v15 : IntKind.i64.wrap ((k : Int) - 15) = (k : Int) - 15 := by rw [IntKind.wrap_i64]; omega
      have v16 : IntKind.i64.wrap ((k : Int) - 16) = (k : Int) - 16 := by rw [IntKind.wrap_i64]; omega
      have v7 : IntKind.i64.wrap ((k : Int) - 7) = (k : Int) - 7 := by rw [IntKind.wrap_i64]; omega
      have v2 : IntKind.i64.wrap ((k : Int) - 2) = (k : Int) - 2 := by rw [IntKind.wrap_i64]; omega
      have Hnx := Lib.hid hnx
      have Hu := Lib.hid hu
      have C16 : Hid (∀ w : World, W64 B w g cap (schedTo L k) → w.cell? ⟨g, k - 16, none⟩ = some (.int .u64 (y16 : Int))) := Lib.hid (fun w h => by rw [e16]; exact h.cell (k - 16) (by omega))
      have C7 : Hid (∀ w : World, W64 B w g cap (schedTo L k) → w.cell? ⟨g, k - 7, none⟩ = some (.int .u64 (y7 : Int))) := Lib.hid (fun w h => by rw [e7]; exact h.cell (k - 7) (by omega))
      clear hnx hu e16 e15 e7 e2
      go_wp2_with fail
      go_quiet ((first | (go_at_call_of 117 (Value.int IntKind.i64 7); exact Calls.quiet_of_same (turn_q y15 7 _ b15 (by omega))) | (go_at_call_of 117 (Value.int IntKind.i64 18); exact Calls.quiet_of_same (turn_q y15 18 _ b15 (by omega))) | (go_at_call_of 118 (Value.int IntKind.i64 3); exact Calls.quiet_of_same (down3_q y15 _ b15))))
      have d16 : (wr.drewN nq).cell? ⟨g, k - 16, none⟩ = _ := c16
      have d7 : (wr.drewN nq).cell? ⟨g, k - 7, none⟩ = _ := c7
      have d2 : (wr.drewN nq).cell? ⟨g, k - 2, none⟩ = _ := c2
      have hVA := hV.kept (S := fun _ => False) (Mod.drewN (Mod.refl _ _) nq) (fun h => h)
      have hRA := hR.step (Mod.drewN (Mod.refl _ _) nq)
      generalize wr.drewN nq = wA at d16 d7 d2 hVA hRA ⊢
      clear c16 c15 c7 c2 hV hR x01 x02
      go_wp2_with fail
      go_quiet ((first | (go_at_call_of 117 (Value.int IntKind.i64 17); exact Calls.quiet_of_same (turn_q y2 17 _ b2 (by omega))) | (go_at_call_of 117 (Value.int IntKind.i64 19); exact Calls.quiet_of_same (turn_q y2 19 _ b2 (by omega))) | (go_at_call_of 118 (Value.int IntKind.i64 10); exact Calls.quiet_of_same (down10_q y2 _ b2))))
      have c16 : (wA.drewN nq).cell? ⟨g, k - 16, none⟩ = _ := d16
      have c7 : (wA.drewN nq).cell? ⟨g, k - 7, none⟩ = _ := d7
      have hV := hVA.kept (S := fun _ => False) (Mod.drewN (Mod.refl _ _) nq) (fun h => h)
      have hR := hRA.step (Mod.drewN (Mod.refl _ _) nq)
      generalize wA.drewN nq = wB at c16 c7 hV hR ⊢
      clear d16 d7 d2 hVA hRA x11 x12
      have o16 : (16 : Int) ≤ k := by omega
      have o7 : (7 : Int) ≤ k := by omega
      have o16' : 16 ≤ k := by omega
      have o7' : 7 ≤ k := by omega
      have s1 : IntKind.u64.wrap ((y16 : Int) + z0) = (y16 : Int) + z0 := by rw [IntKind.wrap_u64]; omega
      have s2 : IntKind.u64.wrap ((y16 : Int) + z0 + y7) = (y16 : Int) + z0 + y7 := by rw [IntKind.wrap_u64]; omega
      have s3 : IntKind.u64.wrap ((y16 : Int) + z0 + y7 + z1) = (y16 : Int) + z0 + y7 + z1 := by rw [IntKind.wrap_u64]; omega
      have s4 : ((y16 : Int) + z0 + y7 + z1) % 4294967296 = (u : Int) := by rw [Hu.out]; omega
      have s5 : ((y16 : Int) + z0 + y7 + z1).tmod 4294967296 = (u : Int) := by rw [Int.tmod_eq_emod_of_nonneg (by omega)]; exact s4
      go_wp2_with fail
      have hV2 : W64 B wB.drew g cap (schedTo L k) := hV.kept (S := fun _ => False) (Mod.drew (Mod.refl _ _)) (fun h => h)
      have hR2 : RefAt w gh gk B HH wB.drew := hR.step (Mod.drew (Mod.refl _ _))
      have HG0 : Hid ((fun j x w1 => RefAt w gh gk B HH w1 ∧ (j ≤ 1 → W64 B w1 g cap (schedTo L k)) ∧ (j = 1 → ∃ b, x = .slice (some ⟨b, 0, none⟩) 1 1 ∧ w1.cell? ⟨b, 0, none⟩ = some (.int .u64 (u : Int))) ∧ (2 ≤ j → ∃ g' cap', x = .slice (some ⟨g', 0, none⟩) (k + 1) cap' ∧ W64 B w1 g' cap' (schedTo L k ++ [u]))) 0 undef wB.drew) := Lib.hid ⟨hR2, fun _ => hV2, fun h => absurd h (by omega), fun h => absurd h (by omega)⟩
      clear hV hR hV2 hR2 c16 c7
      refine wp_region_chain (fun t v => match t with
        | 137 => v = .slice (some ⟨g, 0, none⟩) k cap
        | 138 => v = .slice (some ⟨g, 0, none⟩) k cap
        | 139 => v = .int .i64 (k : Int)
        | 140 => v = .int .i64 ((k : Int) - 16)
        | 141 => v = .pointer (some ⟨g, k - 16, none⟩)
        | 142 => v = .int .u64 (y16 : Int)
        | 143 => v = .int .u64 (z0 : Int)
        | 144 => v = .int .u64 ((y16 : Int) + z0)
        | 145 => v = .slice (some ⟨g, 0, none⟩) k cap
        | 146 => v = .int .i64 (k : Int)
        | 147 => v = .int .i64 ((k : Int) - 7)
        | 148 => v = .pointer (some ⟨g, k - 7, none⟩)
        | 149 => v = .int .u64 (y7 : Int)
        | 150 => v = .int .u64 ((y16 : Int) + z0 + y7)
        | 151 => v = .int .u64 (z1 : Int)
        | 152 => v = .int .u64 ((y16 : Int) + z0 + y7 + z1)
        | 153 => v = .int .u64 (u : Int)
        | _ => True) (fun j x w1 => RefAt w gh gk B HH w1 ∧ (j ≤ 1 → W64 B w1 g cap (schedTo L k)) ∧ (j = 1 → ∃ b, x = .slice (some ⟨b, 0, none⟩) 1 1 ∧ w1.cell? ⟨b, 0, none⟩ = some (.int .u64 (u : Int))) ∧ (2 ≤ j → ∃ g' cap', x = .slice (some ⟨g', 0, none⟩) (k + 1) cap' ∧ W64 B w1 g' cap' (schedTo L k ++ [u]))) [17, 18, 19] 326 (by kernel_rfl) (by decide +kernel) rfl (by decide +kernel) (by decide) (by decide) HG0.out (by
        refine OweAllC.cons (owesC_val 1 (by decide +kernel) (by decide) rfl rfl fun k' a w1 x hk ha hG hV => ?_) ?_
        · skip
          have h9 := ha.kp 2 19 _ 9 (by omega) rfl rfl rfl
          simp only [Act.eval] at h9
          exact ⟨.slice (some ⟨g, 0, none⟩) k cap, wanted_free rfl, by simp [execOp, go_sem, h9], rfl⟩
        refine OweAllC.cons (owesC_val 0 (by decide +kernel) (by decide) rfl rfl fun k' a w1 x hk ha hG hV => ?_) ?_
        · skip
          have h9 := ha.kp 2 19 _ 9 (by omega) rfl rfl rfl
          simp only [Act.eval] at h9
          exact ⟨.slice (some ⟨g, 0, none⟩) k cap, wanted_free rfl, by simp [execOp, go_sem, h9], rfl⟩
        refine OweAllC.cons (owesC_val 0 (by decide +kernel) (by decide) rfl rfl fun k' a w1 x hk ha hG hV => ?_) ?_
        · skip
          have h13 := ha.outer 13 (by decide +kernel)
          simp only [Act.eval] at h13
          exact ⟨.int .i64 (k : Int), wanted_free rfl, by simp [execOp, go_sem, h13], rfl⟩
        refine OweAllC.cons (owesC_val 0 (by decide +kernel) (by decide) rfl rfl fun k' a w1 x hk ha hG hV => ?_) ?_
        · skip
          have h139 : a.tmps.getD 139 undef = .int .i64 (k : Int) := hV.get 139 (by decide +kernel)
          exact ⟨.int .i64 ((k : Int) - 16), wanted_free rfl, by simp [execOp, go_sem, h139, v16], rfl⟩
        refine OweAllC.cons (owesC_val 0 (by decide +kernel) (by decide) rfl rfl fun k' a w1 x hk ha hG hV => ?_) ?_
        · skip
          have h138 : a.tmps.getD 138 undef = .slice (some ⟨g, 0, none⟩) k cap := hV.get 138 (by decide +kernel)
          have h140 : a.tmps.getD 140 undef = .int .i64 ((k : Int) - 16) := hV.get 140 (by decide +kernel)
          exact ⟨.pointer (some ⟨g, k - 16, none⟩), wanted_free rfl, by simp [execOp, go_sem, h138, h140, j16, t16, o16], rfl⟩
        refine OweAllC.cons (owesC_val 0 (by decide +kernel) (by decide) rfl rfl fun k' a w1 x hk ha hG hV => ?_) ?_
        · skip
          have h141 : a.tmps.getD 141 undef = .pointer (some ⟨g, k - 16, none⟩) := hV.get 141 (by decide +kernel)
          have cc := C16.out w1 (hG.2.1 (by omega))
          exact ⟨.int .u64 (y16 : Int), wanted_free rfl, by simp [execOp, go_sem, h141, cc], rfl⟩
        refine OweAllC.cons (owesC_val 0 (by decide +kernel) (by decide) rfl rfl fun k' a w1 x hk ha hG hV => ?_) ?_
        · skip
          have h14 := ha.outer 14 (by decide +kernel)
          simp only [Act.eval] at h14
          exact ⟨.int .u64 (z0 : Int), wanted_free rfl, by simp [execOp, go_sem, h14], rfl⟩
        refine OweAllC.cons (owesC_val 0 (by decide +kernel) (by decide) rfl rfl fun k' a w1 x hk ha hG hV => ?_) ?_
        · skip
          have h142 : a.tmps.getD 142 undef = .int .u64 (y16 : Int) := hV.get 142 (by decide +kernel)
          have h143 : a.tmps.getD 143 undef = .int .u64 (z0 : Int) := hV.get 143 (by decide +kernel)
          exact ⟨.int .u64 ((y16 : Int) + z0), wanted_free rfl, by simp [execOp, go_sem, h142, h143, s1], rfl⟩
        refine OweAllC.cons (owesC_val 0 (by decide +kernel) (by decide) rfl rfl fun k' a w1 x hk ha hG hV => ?_) ?_
        · skip
          have h9 := ha.kp 2 19 _ 9 (by omega) rfl rfl rfl
          simp only [Act.eval] at h9
          exact ⟨.slice (some ⟨g, 0, none⟩) k cap, wanted_free rfl, by simp [execOp, go_sem, h9], rfl⟩
        refine OweAllC.cons (owesC_val 0 (by decide +kernel) (by decide) rfl rfl fun k' a w1 x hk ha hG hV => ?_) ?_
        · skip
          have h13 := ha.outer 13 (by decide +kernel)
          simp only [Act.eval] at h13
          exact ⟨.int .i64 (k : Int), wanted_free rfl, by simp [execOp, go_sem, h13], rfl⟩
        refine OweAllC.cons (owesC_val 0 (by decide +kernel) (by decide) rfl rfl fun k' a w1 x hk ha hG hV => ?_) ?_
        · skip
          have h146 : a.tmps.getD 146 undef = .int .i64 (k : Int) := hV.get 146 (by decide +kernel)
          exact ⟨.int .i64 ((k : Int) - 7), wanted_free rfl, by simp [execOp, go_sem, h146, v7], rfl⟩
        refine OweAllC.cons (owesC_val 0 (by decide +kernel) (by decide) rfl rfl fun k' a w1 x hk ha hG hV => ?_) ?_
        · skip
          have h145 : a.tmps.getD 145 undef = .slice (some ⟨g, 0, none⟩) k cap := hV.get 145 (by decide +kernel)
          have h147 : a.tmps.getD 147 undef = .int .i64 ((k : Int) - 7) := hV.get 147 (by decide +kernel)
          exact ⟨.pointer (some ⟨g, k - 7, none⟩), wanted_free rfl, by simp [execOp, go_sem, h145, h147, j7, t7, o7], rfl⟩
        refine OweAllC.cons (owesC_val 0 (by decide +kernel) (by decide) rfl rfl fun k' a w1 x hk ha hG hV => ?_) ?_
        · skip
          have h148 : a.tmps.getD 148 undef = .pointer (some ⟨g, k - 7, none⟩) := hV.get 148 (by decide +kernel)
          have cc := C7.out w1 (hG.2.1 (by omega))
          exact ⟨.int .u64 (y7 : Int), wanted_free rfl, by simp [execOp, go_sem, h148, cc], rfl⟩
        refine OweAllC.cons (owesC_val 0 (by decide +kernel) (by decide) rfl rfl fun k' a w1 x hk ha hG hV => ?_) ?_
        · skip
          have h144 : a.tmps.getD 144 undef = .int .u64 ((y16 : Int) + z0) := hV.get 144 (by decide +kernel)
          have h149 : a.tmps.getD 149 undef = .int .u64 (y7 : Int) := hV.get 149 (by decide +kernel)
          exact ⟨.int .u64 ((y16 : Int) + z0 + y7), wanted_free rfl, by simp [execOp, go_sem, h144, h149, s2], rfl⟩
        refine OweAllC.cons (owesC_val 0 (by decide +kernel) (by decide) rfl rfl fun k' a w1 x hk ha hG hV => ?_) ?_
        · skip
          have h15 := ha.outer 15 (by decide +kernel)
          simp only [Act.eval] at h15
          exact ⟨.int .u64 (z1 : Int), wanted_free rfl, by simp [execOp, go_sem, h15], rfl⟩
        refine OweAllC.cons (owesC_val 0 (by decide +kernel) (by decide) rfl rfl fun k' a w1 x hk ha hG hV => ?_) ?_
        · skip
          have h150 : a.tmps.getD 150 undef = .int .u64 ((y16 : Int) + z0 + y7) := hV.get 150 (by decide +kernel)
          have h151 : a.tmps.getD 151 undef = .int .u64 (z1 : Int) := hV.get 151 (by decide +kernel)
          exact ⟨.int .u64 ((y16 : Int) + z0 + y7 + z1), wanted_free rfl, by simp [execOp, go_sem, h150, h151, s3], rfl⟩
        refine OweAllC.cons (owesC_val 0 (by decide +kernel) (by decide) rfl rfl fun k' a w1 x hk ha hG hV => ?_) ?_
        · skip
          have h152 : a.tmps.getD 152 undef = .int .u64 ((y16 : Int) + z0 + y7 + z1) := hV.get 152 (by decide +kernel)
          exact ⟨.int .u64 (u : Int), wanted_free rfl, by simp [execOp, go_sem, h152, s5], rfl⟩
        refine OweAllC.cons (owesC_mem 0 rfl rfl rfl fun a w1 x ha hG hx hV => ?_) ?_
        · skip
          have h153 : a.tmps.getD 153 undef = .int .u64 (u : Int) := hV.get 153 (by decide +kernel)
          have g153 : a.tmps[153]?.getD undef = .int .u64 (u : Int) := by simpa using h153
          obtain ⟨gR, gV, _, _⟩ := hG
          exact ⟨.slice (some ⟨w1.heap.size, 0, none⟩) 1 1, w1.alloc (.cells #[.int .u64 (u : Int)] 26), wanted_free rfl, by simp [execOp, go_sem, g153], trivial, gR.step ((Mod.refl _ _).alloc _), fun _ => (gV (by omega)).kept ((Mod.refl (fun _ => False) _).alloc _) (fun h => h), fun _ => ⟨w1.heap.size, rfl, by rw [cell_of_row _ w1.heap.size _ _ 26 (0, 0) (heap_alloc_new _ _)]; rfl⟩, fun h => absurd h (by omega)⟩
        refine OweAllC.cons (owesC_law 1 rfl rfl fun a w1 x ha hG hx hV => ?_) ?_
        · skip
          have h137 : a.tmps.getD 137 undef = .slice (some ⟨g, 0, none⟩) k cap := hV.get 137 (by decide +kernel)
          obtain ⟨gR, gV, gb, _⟩ := hG
          obtain ⟨b, rfl, hc⟩ := gb rfl
          have h154 : a.eval (.tmp 154) = _ := hx 0 17 _ 154 rfl rfl rfl rfl
          refine ⟨wanted_free rfl, fun K hK => ?_⟩
          exact push64_wp (.tmp 137) (.tmp 154) rfl B g cap k u b _ hkl h137 (gV (by omega)) h154 hc (by omega) gR.b (fun g' cap' w' h1 h2 => hK _ _ (fun t ht => by cases ht; trivial) ⟨gR.step h2, fun h => absurd h (by omega), fun h => absurd h (by omega), fun _ => ⟨g', cap', rfl, h1⟩⟩)
        refine OweAllC.cons (owesC_mem 2 rfl rfl rfl fun a w1 x ha hG hx hV => ?_) ?_
        · skip
          obtain ⟨gR, _, _, gn⟩ := hG
          obtain ⟨g', cap', rfl, h1⟩ := gn (by omega)
          have h155 := hx 1 18 _ 155 rfl rfl rfl rfl
          simp only [Act.eval] at h155
          exact ⟨.slice (some ⟨g', 0, none⟩) (k + 1) cap', w1, wanted_free rfl, by simp [execOp, go_sem, h155], trivial, gR, fun h => absurd h (by omega), fun h => absurd h (by omega), fun _ => ⟨g', cap', rfl, h1⟩⟩
        exact OweAllC.nil
        ) ?_
      intro f wz xz hG hx hv
      have e9 : f 9 = xz := hx 2 19 _ 9 rfl rfl rfl rfl
      refine moves_back (P := Tryz.prog) (ops := #[]) f _ _ _ ?_
      simp only [dsts, List.filterMap_cons, List.filterMap_nil, List.map_cons, List.map_nil]
      rw [e9]
      clear hv hx
      unfold mv
      clear e9
      obtain ⟨gR, _, _, gn⟩ := hG
      obtain ⟨g', cap', rfl, hV'⟩ := gn (by decide)
      clear gn s1 s2 s3 s4 s5 HG0
      go_wp2_with fail
      go_roundw
      case rel => exact ⟨k + 1, g', cap', by omega, by omega, rfl, by go_num, by rw [Hnx.out]; exact hV', gR⟩
      case measure => simp [intOf]; omega
    · obtain rfl : k = 64 := by omega
      go_wp2_with fail
      go_meet
      exact ⟨g, cap, rfl, hV, hR⟩
end Go.Proofs.YtemnebbdaljfbaaGreatDoor
