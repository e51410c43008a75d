/- Texts 9: what the laws lean on. -/
import Derived.Test.YtemnebbdaljfbaaGreatDoorZ8
set_option linter.unusedVariables false
set_option linter.unusedSimpArgs false
namespace Go.Proofs.YtemnebbdaljfbaaGreatDoor
open Go.RowKit
set_option maxHeartbeats 40000000 in
set_option maxRecDepth 100000 in
theorem sixteen {x2 x3 x4 x5 x6 x7 x11 x12 x13 x14 x15 x16 x17 x18 x19 x20 x21 x22 x23 x24 x28 x29 x30 x31 x32 x33 x34 x35 x36 x37 x38 x39 x40 x41 x42 x43 x44 x45 x46 x47 x48 x49 x50 x51 x52 x53 x54 x55 x56 x57 x58 x59 x60 x61 x62 x63 x64 x65 x66 x67 x68 x69 x70 x71 x72 x73 x74 x75 x76 x77 x78 x79 x80 x81 x82 x83 x84 x85 x86 x87 x88 x89 x90 x91 x92 x93 x94 x95 x96 x97 x98 x99 x100 x101 x102 x103 x104 x105 x106 x107 x108 x109 x110 x111 x112 x113 x114 x115 x116 x117 x118 x119 x120 x121 x122 x123 x124 x125 x126 x127 x128 x129 x130 x131 x132 x133 x134 x135 x136 x137 x138 x139 x140 x141 x142 x143 x144 x145 x146 x147 x148 x149 x150 x151 x152 x153 x154 x155 x156 x157 x158 x159 x160 x161 x162 x163 x164 x165 x166 x167 x168 x169 x170 x171 x172 x173 x174 x175 x176 x177 x178 x179 x180 x181 x182 x183 x184 x185 x186 x187 x188 x189 x190 x191 x192 x193 x194 x195 x196 x197 x198 x199 x200 x201 x202 x203 x204 x205 x206 x207 x208 x209 x210 x211 x212 x213 x214 x215 x216 x217 x218 x219 x220 x221 x222 x223 x224 x225 x226 x227 x228 x229 x230 x231 x232 x233 x234 x235 x236 x237 x238 x239 x240 x241 x242 x243 x244 x245 x246 x247 x248 x249 x250 x251 x252 x253 x254 x255 x256 x257 x258 x259 x260 x261 x262 x263 x264 x265 x266 x267 x268 x269 x270 x271 x272 x273 x274 x275 x276 x277 x278 x279 x280 x281 x282 x283 x284 x285 x286 x287 x288 x289 x290 x291 x292 x293 x294 x295 x296 x297 x298 x299 : Value} (w W : World) (p L HH : List Nat) (gh gk B g0 at' : Nat) (hps : (bytesOf p).size = p.length) (hpn : p.length ≤ 2147483648) (hpb : ∀ x ∈ p, x < 256) (hat64 : at' + 64 ≤ p.length) (hLl : L.length = 64) (hLb : ∀ x ∈ L, x < 256) (hLp : ∀ i, i < 64 → L.getD i 0 = p.getD (at' + i) 0) (hV : W64 B W g0 0 []) (hR1 : RefAt w gh gk B HH W)
    {J K' : Act → World → Prop} {Q' : Exit → Act → World → Prop} (hJ : ∀ a' w', (∃ u9 u10 u11 u12 u69 u70 u71 u72 u73 u74 u75 u76 u77 u78 u79 u80 u81 u82 u83 u84 u85 u86 u87 u88 u89 u90 u91 u92 : Value, (∃ g cap, u9 = .slice (some ⟨g, 0, none⟩) 16 cap ∧ W64 B w' g cap (schedTo L 16) ∧ RefAt w gh gk B HH w') ∧ a' = ⟨#[.string (bytesOf p), undef, x2, x3, x4, x5, x6, x7, .int .i64 (at' : Int), u9, u10, u11, u12, x13, x14, x15, x16, x17, x18, x19, x20, x21, x22, x23, x24, undef, undef, undef, x28, x29, x30, x31, x32, x33, x34, x35, x36, x37, x38, x39, x40, x41, x42, x43, x44, x45, x46, x47, x48, x49, x50, x51, x52, x53, x54, x55, x56, x57, x58, x59, x60, x61, x62, x63, x64, x65, x66, x67, x68, u69, u70, u71, u72, u73, u74, u75, u76, u77, u78, u79, u80, u81, u82, u83, u84, u85, u86, u87, u88, u89, u90, u91, u92, x93, x94, x95, x96, x97, x98, x99, x100, x101, x102, x103, x104, x105, x106, x107, x108, x109, x110, x111, x112, x113, x114, x115, x116, x117, x118, x119, x120, x121, x122, x123, x124, x125, x126, x127, x128, x129, x130, x131, x132, x133, x134, x135, x136, x137, x138, x139, x140, x141, x142, x143, x144, x145, x146, x147, x148, x149, x150, x151, x152, x153, x154, x155, x156, x157, x158, x159, x160, x161, x162, x163, x164, x165, x166, x167, x168, x169, x170, x171, x172, x173, x174, x175, x176, x177, x178, x179, x180, x181, x182, x183, x184, x185, x186, x187, x188, x189, x190, x191, x192, x193, x194, x195, x196, x197, x198, x199, x200, x201, x202, x203, x204, x205, x206, x207, x208, x209, x210, x211, x212, x213, x214, x215, x216, x217, x218, x219, x220, x221, x222, x223, x224, x225, x226, x227, x228, x229, x230, x231, x232, x233, x234, x235, x236, x237, x238, x239, x240, x241, x242, x243, x244, x245, x246, x247, x248, x249, x250, x251, x252, x253, x254, x255, x256, x257, x258, x259, x260, x261, x262, x263, x264, x265, x266, x267, x268, x269, x270, x271, x272, x273, x274, x275, x276, x277, x278, x279, x280, x281, x282, x283, x284, x285, x286, x287, x288, x289, x290, x291, x292, x293, x294, x295, x296, x297, x298, x299, undef, undef, undef, undef, undef, undef, undef, undef, undef, undef, undef, undef, undef, undef, undef, undef, undef, undef, undef, undef, undef, undef, undef, undef, undef, undef], []⟩) → J a' w') (hM : ∀ a' w', Met J a' w' → K' a' w') :
    Code.wp Tryz.prog (blkOf 6) (Exit.then K' Q') ⟨#[.string (bytesOf p), undef, x2, x3, x4, x5, x6, x7, .int .i64 (at' : Int), .slice (some ⟨g0, 0, none⟩) 0 0, .int .i64 0, x11, x12, x13, x14, x15, x16, x17, x18, x19, x20, x21, x22, x23, x24, undef, undef, undef, x28, x29, x30, x31, x32, x33, x34, x35, x36, x37, x38, x39, x40, x41, x42, x43, x44, x45, x46, x47, x48, x49, x50, x51, x52, x53, x54, x55, x56, x57, x58, x59, x60, x61, x62, x63, x64, x65, x66, x67, x68, x69, x70, x71, x72, x73, x74, x75, x76, x77, x78, x79, x80, x81, x82, x83, x84, x85, x86, x87, x88, x89, x90, x91, x92, x93, x94, x95, x96, x97, x98, x99, x100, x101, x102, x103, x104, x105, x106, x107, x108, x109, x110, x111, x112, x113, x114, x115, x116, x117, x118, x119, x120, x121, x122, x123, x124, x125, x126, x127, x128, x129, x130, x131, x132, x133, x134, x135, x136, x137, x138, x139, x140, x141, x142, x143, x144, x145, x146, x147, x148, x149, x150, x151, x152, x153, x154, x155, x156, x157, x158, x159, x160, x161, x162, x163, x164, x165, x166, x167, x168, x169, x170, x171, x172, x173, x174, x175, x176, x177, x178, x179, x180, x181, x182, x183, x184, x185, x186, x187, x188, x189, x190, x191, x192, x193, x194, x195, x196, x197, x198, x199, x200, x201, x202, x203, x204, x205, x206, x207, x208, x209, x210, x211, x212, x213, x214, x215, x216, x217, x218, x219, x220, x221, x222, x223, x224, x225, x226, x227, x228, x229, x230, x231, x232, x233, x234, x235, x236, x237, x238, x239, x240, x241, x242, x243, x244, x245, x246, x247, x248, x249, x250, x251, x252, x253, x254, x255, x256, x257, x258, x259, x260, x261, x262, x263, x264, x265, x266, x267, x268, x269, x270, x271, x272, x273, x274, x275, x276, x277, x278, x279, x280, x281, x282, x283, x284, x285, x286, x287, x288, x289, x290, x291, x292, x293, x294, x295, x296, x297, x298, x299, undef, undef, undef, undef, undef, undef, undef, undef, undef, undef, undef, undef, undef, undef, undef, undef, undef, undef, undef, undef, undef, undef, undef, undef, undef, undef], []⟩ W := by
  conv => arg 2; whnf
  go_wp2_with fail
  go_loopw [9, 10] (fun s9 s10 wr => ∃ k g cap, k ≤ 16 ∧ s9 = .slice (some ⟨g, 0, none⟩) k cap ∧ s10 = .int .i64 (k : Int) ∧ W64 B wr g cap (schedTo L k) ∧ RefAt w gh gk B HH wr) (fun _ i _ => 16 - (intOf i).toNat)
  case atStart => exact ⟨0, g0, 0, by omega, rfl, rfl, hV, hR1⟩
  case round =>
    clear hV hR1
    obtain ⟨k, g, cap, hk, rfl, rfl, hV, hR⟩ := hrel
    by_cases hk16 : k < 16
    · as_aux_lemma =>
      have hkl := schedTo_len L k
      have hs1 := sched_first L k hk16
      have h4 := wpart_four L k
      have hlp : ∀ t, t < 4 → L.getD (4 * k + t) 0 = p.getD (at' + 4 * k + t) 0 := by intro t ht; rw [hLp _ (by omega), Nat.add_assoc]
      have hdb : ∀ t, t < 4 → L.getD (4 * k + t) 0 < 256 := by
        intro t ht; rw [getD_at _ _ (by omega)]; exact hLb _ (List.getElem_mem _)
      have hpb4 := fun t ht => wpart_lt L hLb k t ht
      generalize w16 L k = x16 at hs1 h4
      go_upto_block 8 with fail
      go_cut [11] from 69 to 92 (fun s11 wx => s11 = .int .u64 (x16 : Int) ∧ wr = wx)
      case first =>
        go_wp2_with fail
        go_loopw [11, 12] (fun s11 s12 wy => ∃ t : Nat, t ≤ 4 ∧ s11 = .int .u64 (wpart L k t : Int) ∧ s12 = .int .i64 (t : Int) ∧ wr = wy) (fun _ i _ => 4 - (intOf i).toNat)
        case atStart => exact ⟨0, by omega, rfl, rfl, rfl⟩
        case round =>
          obtain ⟨t, ht, rfl, rfl, rfl⟩ := hrel
          by_cases ht4 : t < 4
          · obtain ⟨d, hd⟩ : ∃ d, d = L.getD (4 * k + t) 0 := ⟨_, rfl⟩
            have hidx : ∀ w : World, (Instr.index 9 (.string (bytesOf p)) (.int .i64 ((at' : Int) + 4 * k + t))).run Tryz.prog w = .ok (.int .u8 (d : Int)) w := by
              intro w; rw [hd, hlp t ht4]; exact str_index p hpb (at' + 4 * k + t) (by omega) _ (by omega) w
            have hd256 : d < 256 := by rw [hd]; exact hdb t ht4
            have hy := hpb4 t (by omega)
            have hy3 : wpart L k t < 16777216 := Nat.lt_of_lt_of_le hy (Nat.le_trans (Nat.pow_le_pow_right (by decide) (show t ≤ 3 by omega)) (by decide))
            have hnx : wpart L k (t + 1) = wpart L k t * 256 + d := by rw [hd]; rfl
            have Hnx := Lib.hid hnx
            clear hnx hd hy
            generalize wpart L k t = y at hy3 Hnx ⊢
            have q1 : IntKind.i64.wrap (4 * (k : Int)) = 4 * (k : Int) := by rw [IntKind.wrap_i64]; omega
            have q2 : IntKind.i64.wrap ((at' : Int) + 4 * k) = (at' : Int) + 4 * k := by rw [IntKind.wrap_i64]; omega
            have q3 : IntKind.i64.wrap ((at' : Int) + 4 * k + t) = (at' : Int) + 4 * k + t := by rw [IntKind.wrap_i64]; omega
            have q4 : IntKind.u64.wrap ((y : Int) * 256) = (y : Int) * 256 := by rw [IntKind.wrap_u64]; omega
            have q5 : IntKind.u64.wrap ((y : Int) * 256 + d) = (y : Int) * 256 + d := by rw [IntKind.wrap_u64]; omega
            have q6 : IntKind.u64.wrap (d : Int) = d := by rw [IntKind.wrap_u64]; omega
            go_wp2_with fail
            go_roundw
            case rel => exact ⟨t + 1, by omega, by rw [Hnx.out]; go_num, by go_num, trivial⟩
            case measure => simp [intOf]; omega
          · obtain rfl : t = 4 := by omega
            rw [h4]
            go_wp2_with fail
            go_meet
            exact ⟨rfl, rfl⟩
      case rest =>
      obtain ⟨rfl, rfl⟩ := hcut
      go_wp2_with (at_builtin; refine wpList_push64 rfl _ _ rfl B g cap k x16 _ hkl rfl hV rfl (by omega) hR.b ?_; intro g' cap' w' hV' hM')
      go_roundw
      case rel => exact ⟨k + 1, g', cap', by omega, rfl, by go_num, by rw [hs1]; exact hV', hR.step hM'⟩
      case measure => simp [intOf]; omega
    · obtain rfl : k = 16 := by omega
      go_wp2_with fail
      go_meet
      exact ⟨g, cap, rfl, hV, hR⟩
end Go.Proofs.YtemnebbdaljfbaaGreatDoor
