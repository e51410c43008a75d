/- Texts 11: what the laws lean on. -/
import Derived.Test.YtemnebbdaljfbaaGreatDoorZ8
set_option linter.unusedVariables false
set_option linter.unusedSimpArgs false
namespace Go.Proofs.YtemnebbdaljfbaaGreatDoor
open Go.RowKit
set_option maxRecDepth 20000 in
theorem build8 {o : Oper} {a : Act} {w : World} (ho : o.op = .buildSlice 154 8 #[(0, .tmp 255), (1, .tmp 258), (2, .tmp 261), (3, .tmp 264), (4, .tmp 270), (5, .tmp 273), (6, .tmp 276), (7, .tmp 279)]) (x0 x1 x2 x3 x4 x5 x6 x7 : Int)
    (h0 : a.tmps.getD 255 undef = .int .u64 x0) (h1 : a.tmps.getD 258 undef = .int .u64 x1) (h2 : a.tmps.getD 261 undef = .int .u64 x2) (h3 : a.tmps.getD 264 undef = .int .u64 x3) (h4 : a.tmps.getD 270 undef = .int .u64 x4) (h5 : a.tmps.getD 273 undef = .int .u64 x5) (h6 : a.tmps.getD 276 undef = .int .u64 x6) (h7 : a.tmps.getD 279 undef = .int .u64 x7) :
    (execOp a.eval o).run Tryz.prog w = .ok (.value (.slice (some ⟨w.heap.size, 0, none⟩) 8 8)) (w.alloc (.cells #[.int .u64 x0, .int .u64 x1, .int .u64 x2, .int .u64 x3, .int .u64 x4, .int .u64 x5, .int .u64 x6, .int .u64 x7] 26)) := by
  have e (k : Nat) (v : Value) (h : a.tmps.getD k undef = v) : a.eval (.tmp k) = v := h
  unfold execOp
  simp only [ho]
  have hm : Array.map (fun x : Nat × Operand => (x.fst, a.eval x.snd)) #[(0, .tmp 255), (1, .tmp 258), (2, .tmp 261), (3, .tmp 264), (4, .tmp 270), (5, .tmp 273), (6, .tmp 276), (7, .tmp 279)] = #[(0, .int .u64 x0), (1, .int .u64 x1), (2, .int .u64 x2), (3, .int .u64 x3), (4, .int .u64 x4), (5, .int .u64 x5), (6, .int .u64 x6), (7, .int .u64 x7)] := by
    simp only [List.map_toArray, List.map_cons, List.map_nil, e _ _ h0, e _ _ h1, e _ _ h2, e _ _ h3, e _ _ h4, e _ _ h5, e _ _ h6, e _ _ h7]
  rw [hm]
  refine Eq.trans ?_ rfl
  kernel_rfl

set_option maxHeartbeats 40000000 in
set_option maxRecDepth 100000 in
theorem turns {x0 x2 x3 x4 x5 x6 x8 x10 x11 x12 x13 x14 x15 x18 x19 x20 x21 x22 x23 x24 x28 x29 x30 x31 x32 x33 x34 x35 x36 x37 x38 x39 x40 x41 x42 x43 x44 x45 x46 x47 x48 x49 x50 x51 x52 x53 x54 x55 x56 x57 x58 x59 x60 x61 x62 x63 x64 x65 x66 x67 x68 x69 x70 x71 x72 x73 x74 x75 x76 x77 x78 x79 x80 x81 x82 x83 x84 x85 x86 x87 x88 x89 x90 x91 x92 x93 x94 x95 x96 x97 x98 x99 x100 x101 x102 x103 x104 x105 x106 x107 x108 x109 x110 x111 x112 x113 x114 x115 x116 x117 x118 x119 x120 x121 x122 x123 x124 x125 x126 x127 x128 x129 x130 x131 x132 x133 x134 x135 x136 x137 x138 x139 x140 x141 x142 x143 x144 x145 x146 x147 x148 x149 x150 x151 x152 x153 x154 x155 x156 x157 x158 x159 x160 x161 x162 x163 x164 x165 x166 x167 x168 x169 x170 x171 x172 x173 x174 x175 x176 x177 x178 x179 x180 x181 x182 x183 x184 x185 x186 x187 x188 x189 x190 x191 x192 x193 x194 x195 x196 x197 x198 x199 x200 x201 x202 x203 x204 x205 x206 x207 x208 x209 x210 x211 x212 x213 x214 x215 x216 x217 x218 x219 x220 x221 x222 x223 x224 x225 x226 x227 x228 x229 x230 x231 x232 x233 x234 x235 x236 x237 x238 x239 x240 x241 x242 x243 x244 x245 x246 x247 x248 x249 x250 x251 x252 x253 x254 x255 x256 x257 x258 x259 x260 x261 x262 x263 x264 x265 x266 x267 x268 x269 x270 x271 x272 x273 x274 x275 x276 x277 x278 x279 x280 x281 x282 x283 x284 x285 x286 x287 x288 x289 x290 x291 x292 x293 x294 x295 x296 x297 x298 x299 : Value} (w W : World) (HH SL : List Nat) (v0 : V) (gh gk B g2 cap2 gv capv : Nat) (hv0 : v0.ok) (hSLl : SL.length = 64) (hSLb : ∀ x ∈ SL, x < 4294967296) (hX0 : Rel7 w gh gk B HH SL g2 cap2 gv capv v0 W)
    {J K' : Act → World → Prop} {Q' : Exit → Act → World → Prop} (hJ : ∀ a' w', (∃ u16 u17 u18 u19 u20 u21 u22 u23 u159 u160 u161 u162 u163 u164 u165 u166 u167 u168 u169 u170 u171 u172 u173 u174 u175 u176 u177 u178 u179 u180 u181 u182 u183 u184 u185 u186 u187 u188 u189 u190 u191 u192 u193 u194 u195 u196 u197 u198 u199 u200 u201 u202 u203 u204 u205 u206 u207 u208 u209 u210 u211 u212 u213 u214 u215 u216 u217 u218 u219 u220 u221 u222 u223 u224 u225 u226 u227 u228 u229 u230 u231 u232 u233 u234 u235 u236 u237 u238 u239 u240 u241 u242 u243 u244 u245 u246 u247 u248 u249 u250 u251 u252 u253 u254 u255 u256 u257 u258 u259 u260 u261 u262 u263 u264 u265 u266 u267 u268 u269 u270 u271 u272 u273 u274 u275 u276 u277 u278 u279 u280 : Value, (∃ gv capv, u16 = .slice (some ⟨gv, 0, none⟩) 8 capv ∧ Rel7 w gh gk B HH SL g2 cap2 gv capv (rounds v0 SL 64) w') ∧ a' = ⟨#[x0, undef, x2, x3, x4, x5, x6, .slice (some ⟨gk, 0, none⟩) 64 64, x8, .slice (some ⟨g2, 0, none⟩) 64 cap2, x10, x11, x12, x13, x14, x15, u16, u17, u18, u19, u20, u21, u22, u23, x24, undef, undef, undef, x28, x29, x30, x31, x32, x33, x34, x35, x36, x37, x38, x39, x40, x41, x42, x43, x44, x45, x46, x47, x48, x49, x50, x51, x52, x53, x54, x55, x56, x57, x58, x59, x60, x61, x62, x63, x64, x65, x66, x67, x68, x69, x70, x71, x72, x73, x74, x75, x76, x77, x78, x79, x80, x81, x82, x83, x84, x85, x86, x87, x88, x89, x90, x91, x92, x93, x94, x95, x96, x97, x98, x99, x100, x101, x102, x103, x104, x105, x106, x107, x108, x109, x110, x111, x112, x113, x114, x115, x116, x117, x118, x119, x120, x121, x122, x123, x124, x125, x126, x127, x128, x129, x130, x131, x132, x133, x134, x135, x136, x137, x138, x139, x140, x141, x142, x143, x144, x145, x146, x147, x148, x149, x150, x151, x152, x153, x154, x155, x156, x157, x158, u159, u160, u161, u162, u163, u164, u165, u166, u167, u168, u169, u170, u171, u172, u173, u174, u175, u176, u177, u178, u179, u180, u181, u182, u183, u184, u185, u186, u187, u188, u189, u190, u191, u192, u193, u194, u195, u196, u197, u198, u199, u200, u201, u202, u203, u204, u205, u206, u207, u208, u209, u210, u211, u212, u213, u214, u215, u216, u217, u218, u219, u220, u221, u222, u223, u224, u225, u226, u227, u228, u229, u230, u231, u232, u233, u234, u235, u236, u237, u238, u239, u240, u241, u242, u243, u244, u245, u246, u247, u248, u249, u250, u251, u252, u253, u254, u255, u256, u257, u258, u259, u260, u261, u262, u263, u264, u265, u266, u267, u268, u269, u270, u271, u272, u273, u274, u275, u276, u277, u278, u279, u280, x281, x282, x283, x284, x285, x286, x287, x288, x289, x290, x291, x292, x293, x294, x295, x296, x297, x298, x299, undef, undef, undef, undef, undef, undef, undef, undef, undef, undef, undef, undef, undef, undef, undef, undef, undef, undef, undef, undef, undef, undef, undef, undef, undef, undef], []⟩) → J a' w') (hM : ∀ a' w', Met J a' w' → K' a' w') :
    Code.wp Tryz.prog (blkOf 12) (Exit.then K' Q') ⟨#[x0, undef, x2, x3, x4, x5, x6, .slice (some ⟨gk, 0, none⟩) 64 64, x8, .slice (some ⟨g2, 0, none⟩) 64 cap2, x10, x11, x12, x13, x14, x15, .slice (some ⟨gv, 0, none⟩) 8 capv, .int .i64 0, x18, x19, x20, x21, x22, x23, x24, undef, undef, undef, x28, x29, x30, x31, x32, x33, x34, x35, x36, x37, x38, x39, x40, x41, x42, x43, x44, x45, x46, x47, x48, x49, x50, x51, x52, x53, x54, x55, x56, x57, x58, x59, x60, x61, x62, x63, x64, x65, x66, x67, x68, x69, x70, x71, x72, x73, x74, x75, x76, x77, x78, x79, x80, x81, x82, x83, x84, x85, x86, x87, x88, x89, x90, x91, x92, x93, x94, x95, x96, x97, x98, x99, x100, x101, x102, x103, x104, x105, x106, x107, x108, x109, x110, x111, x112, x113, x114, x115, x116, x117, x118, x119, x120, x121, x122, x123, x124, x125, x126, x127, x128, x129, x130, x131, x132, x133, x134, x135, x136, x137, x138, x139, x140, x141, x142, x143, x144, x145, x146, x147, x148, x149, x150, x151, x152, x153, x154, x155, x156, x157, x158, x159, x160, x161, x162, x163, x164, x165, x166, x167, x168, x169, x170, x171, x172, x173, x174, x175, x176, x177, x178, x179, x180, x181, x182, x183, x184, x185, x186, x187, x188, x189, x190, x191, x192, x193, x194, x195, x196, x197, x198, x199, x200, x201, x202, x203, x204, x205, x206, x207, x208, x209, x210, x211, x212, x213, x214, x215, x216, x217, x218, x219, x220, x221, x222, x223, x224, x225, x226, x227, x228, x229, x230, x231, x232, x233, x234, x235, x236, x237, x238, x239, x240, x241, x242, x243, x244, x245, x246, x247, x248, x249, x250, x251, x252, x253, x254, x255, x256, x257, x258, x259, x260, x261, x262, x263, x264, x265, x266, x267, x268, x269, x270, x271, x272, x273, x274, x275, x276, x277, x278, x279, x280, x281, x282, x283, x284, x285, x286, x287, x288, x289, x290, x291, x292, x293, x294, x295, x296, x297, x298, x299, undef, undef, undef, undef, undef, undef, undef, undef, undef, undef, undef, undef, undef, undef, undef, undef, undef, undef, undef, undef, undef, undef, undef, undef, undef, undef], []⟩ W := by
  conv => arg 2; whnf
  go_wp2_with fail
  go_loopw [16, 17] (fun s16 s17 wr => ∃ (k : Nat) (gv capv : Nat), k ≤ 64 ∧ s17 = .int .i64 (k : Int) ∧ s16 = .slice (some ⟨gv, 0, none⟩) 8 capv ∧ Rel7 w gh gk B HH SL g2 cap2 gv capv (rounds v0 SL k) wr) (fun _ i _ => 64 - (intOf i).toNat)
  case atStart => exact ⟨0, gv, capv, by omega, rfl, rfl, hX0⟩
  case round =>
    clear hX0
    obtain ⟨k, gv, capv, hk, rfl, rfl, hX⟩ := hrel
    by_cases hk64 : k < 64
    · as_aux_lemma =>
      have hvk := rounds_ok v0 hv0 SL k
      obtain ⟨wk, hwk⟩ : ∃ x, x = SL[k]'(by omega) := ⟨_, rfl⟩
      obtain ⟨kk, hkk⟩ : ∃ x, x = kTab[k]'(by rw [kTab_len]; omega) := ⟨_, rfl⟩
      have bw : wk < 4294967296 := by rw [hwk]; exact hSLb _ (List.getElem_mem _)
      have bk : kk < 4294967296 := by rw [hkk]; exact kTab_lt _ (List.getElem_mem _)
      have hnext : rounds v0 SL (k + 1) = rnd (rounds v0 SL k) kk wk := by rw [rounds, getD_at kTab k (by rw [kTab_len]; omega), getD_at SL k (by omega), ← hkk, ← hwk]
      have Hnext := Lib.hid hnext
      have HW := Lib.hid hwk
      have HK := Lib.hid hkk
      clear hnext hwk hkk
      generalize rounds v0 SL k = v at hvk Hnext hX ⊢
      obtain ⟨va, vb, vc, vd, ve, vf, vg, vh⟩ := v
      obtain ⟨ba, bb, bc, bd, be, bf, bg, bh⟩ := hvk
      simp only at ba bb bc bd be bf bg bh
      have Hkw : Hid (∀ W : World, RefAt w gh gk B HH W → W64 B W g2 cap2 SL → W.cell? ⟨gk, k, none⟩ = some (.int .u64 (kk : Int)) ∧ W.cell? ⟨g2, k, none⟩ = some (.int .u64 (wk : Int))) := Lib.hid (fun W h1 h2 => ⟨by rw [HK.out]; exact h1.k.cell k (by rw [kTab_len]; omega), by rw [HW.out]; exact h2.cell k (by omega)⟩)
      clear hSLb hSLl hv0 HW HK
      obtain ⟨r1, z1, Hz1, lz1, x1, x2⟩ := S1_facts ve be
      have c4 : wr.cell? ⟨gv, 4, none⟩ = some (.int .u64 (ve : Int)) := hX.cells.2.2.2.2.1
      go_wp2_with fail
      go_quiet ((first | (go_at_call_of 117 (Value.int IntKind.i64 6); exact Calls.quiet_of_same (turn_q ve 6 _ be (by omega))) | (go_at_call_of 117 (Value.int IntKind.i64 11); exact Calls.quiet_of_same (turn_q ve 11 _ be (by omega))) | (go_at_call_of 117 (Value.int IntKind.i64 25); exact Calls.quiet_of_same (turn_q ve 25 _ be (by omega)))))
      replace hX := hX.drewN nq
      generalize wr.drewN nq = wA at hX ⊢
      clear c4 x1 x2
      obtain ⟨n1, ne, n2, z2, Hz2, lz2, x1, x2, x3, x4, x5⟩ := ch_facts ve vf vg be bf bg
      have c4 : wA.cell? ⟨gv, 4, none⟩ = some (.int .u64 (ve : Int)) := hX.cells.2.2.2.2.1
      have c5 : wA.cell? ⟨gv, 5, none⟩ = some (.int .u64 (vf : Int)) := hX.cells.2.2.2.2.2.1
      have c6 : wA.cell? ⟨gv, 6, none⟩ = some (.int .u64 (vg : Int)) := hX.cells.2.2.2.2.2.2.1
      go_wp2_with fail
      go_quiet (fail)
      replace hX := hX.drewN nq
      generalize wA.drewN nq = wB at hX ⊢
      clear c4 c5 c6 x1 x2 x3 x4 x5
      obtain ⟨vt, ht⟩ : ∃ vt, vt = (vh + z1 + z2 + kk + wk) % 4294967296 := ⟨_, rfl⟩
      have lt : vt < 4294967296 := by rw [ht]; exact Nat.mod_lt _ (by decide)
      have Ht := Lib.hid ht
      clear ht
      have c7 : wB.cell? ⟨gv, 7, none⟩ = some (.int .u64 (vh : Int)) := hX.cells.2.2.2.2.2.2.2
      have ck : wB.cell? ⟨gk, k, none⟩ = some (.int .u64 (kk : Int)) := (Hkw.out wB hX.r hX.s).1
      have cw : wB.cell? ⟨g2, k, none⟩ = some (.int .u64 (wk : Int)) := (Hkw.out wB hX.r hX.s).2
      have ia : (0 : Int) ≤ k := by omega
      have ib : (k : Int) < 64 := by omega
      have s1 : IntKind.u64.wrap ((vh : Int) + z1) = (vh : Int) + z1 := by rw [IntKind.wrap_u64]; omega
      have s2 : IntKind.u64.wrap ((vh : Int) + z1 + z2) = (vh : Int) + z1 + z2 := by rw [IntKind.wrap_u64]; omega
      have s3 : IntKind.u64.wrap ((vh : Int) + z1 + z2 + kk) = (vh : Int) + z1 + z2 + kk := by rw [IntKind.wrap_u64]; omega
      have s4 : IntKind.u64.wrap ((vh : Int) + z1 + z2 + kk + wk) = (vh : Int) + z1 + z2 + kk + wk := by rw [IntKind.wrap_u64]; omega
      have s5 : ((vh : Int) + z1 + z2 + kk + wk) % 4294967296 = (vt : Int) := by rw [Ht.out]; omega
      have s6 : ((vh : Int) + z1 + z2 + kk + wk).tmod 4294967296 = (vt : Int) := by rw [Int.tmod_eq_emod_of_nonneg (by omega)]; exact s5
      go_wp2_with fail
      go_quiet (fail)
      replace hX := hX.drewN nq
      generalize wB.drewN nq = wC at hX ⊢
      clear c7 ck cw s1 s2 s3 s4 s5 s6
      obtain ⟨r3, z3, Hz3, lz3, x1, x2⟩ := S0_facts va ba
      have c0 : wC.cell? ⟨gv, 0, none⟩ = some (.int .u64 (va : Int)) := hX.cells.1
      go_wp2_with fail
      go_quiet ((first | (go_at_call_of 117 (Value.int IntKind.i64 2); exact Calls.quiet_of_same (turn_q va 2 _ ba (by omega))) | (go_at_call_of 117 (Value.int IntKind.i64 13); exact Calls.quiet_of_same (turn_q va 13 _ ba (by omega))) | (go_at_call_of 117 (Value.int IntKind.i64 22); exact Calls.quiet_of_same (turn_q va 22 _ ba (by omega)))))
      replace hX := hX.drewN nq
      generalize wC.drewN nq = wD at hX ⊢
      clear c0 x1 x2
      obtain ⟨p1, q1, r1, s1, z4, Hz4, lz4, x1, x2, x3, x4, x5⟩ := maj_facts va vb vc ba bb bc
      have c0 : wD.cell? ⟨gv, 0, none⟩ = some (.int .u64 (va : Int)) := hX.cells.1
      have c1 : wD.cell? ⟨gv, 1, none⟩ = some (.int .u64 (vb : Int)) := hX.cells.2.1
      have c2 : wD.cell? ⟨gv, 2, none⟩ = some (.int .u64 (vc : Int)) := hX.cells.2.2.1
      go_wp2_with fail
      go_quiet (fail)
      replace hX := hX.drewN nq
      generalize wD.drewN nq = wE at hX ⊢
      clear c0 c1 c2 x1 x2 x3 x4 x5
      obtain ⟨u, hu⟩ : ∃ u, u = (z3 + z4) % 4294967296 := ⟨_, rfl⟩
      have lu : u < 4294967296 := by rw [hu]; exact Nat.mod_lt _ (by decide)
      obtain ⟨y0, hy0⟩ : ∃ y, y = (vt + u) % 4294967296 := ⟨_, rfl⟩
      obtain ⟨y4, hy4⟩ : ∃ y, y = (vd + vt) % 4294967296 := ⟨_, rfl⟩
      have s1 : IntKind.u64.wrap ((z3 : Int) + z4) = (z3 : Int) + z4 := by rw [IntKind.wrap_u64]; omega
      have s2 : ((z3 : Int) + z4) % 4294967296 = (u : Int) := by rw [hu]; omega
      have s3 : ((z3 : Int) + z4).tmod 4294967296 = (u : Int) := by rw [Int.tmod_eq_emod_of_nonneg (by omega)]; exact s2
      have s4 : IntKind.u64.wrap ((vt : Int) + u) = (vt : Int) + u := by rw [IntKind.wrap_u64]; omega
      have s5 : ((vt : Int) + u) % 4294967296 = (y0 : Int) := by rw [hy0]; omega
      have s6 : ((vt : Int) + u).tmod 4294967296 = (y0 : Int) := by rw [Int.tmod_eq_emod_of_nonneg (by omega)]; exact s5
      have s7 : IntKind.u64.wrap ((vd : Int) + vt) = (vd : Int) + vt := by rw [IntKind.wrap_u64]; omega
      have s8 : ((vd : Int) + vt) % 4294967296 = (y4 : Int) := by rw [hy4]; omega
      have s9 : ((vd : Int) + vt).tmod 4294967296 = (y4 : Int) := by rw [Int.tmod_eq_emod_of_nonneg (by omega)]; exact s8
      have c0 : wE.cell? ⟨gv, 0, none⟩ = some (.int .u64 (va : Int)) := hX.cells.1
      have c1 : wE.cell? ⟨gv, 1, none⟩ = some (.int .u64 (vb : Int)) := hX.cells.2.1
      have c2 : wE.cell? ⟨gv, 2, none⟩ = some (.int .u64 (vc : Int)) := hX.cells.2.2.1
      have c3 : wE.cell? ⟨gv, 3, none⟩ = some (.int .u64 (vd : Int)) := hX.cells.2.2.2.1
      have c4 : wE.cell? ⟨gv, 4, none⟩ = some (.int .u64 (ve : Int)) := hX.cells.2.2.2.2.1
      have c5 : wE.cell? ⟨gv, 5, none⟩ = some (.int .u64 (vf : Int)) := hX.cells.2.2.2.2.2.1
      have c6 : wE.cell? ⟨gv, 6, none⟩ = some (.int .u64 (vg : Int)) := hX.cells.2.2.2.2.2.2.1
      have Hu := Lib.hid hu
      have Hy0 := Lib.hid hy0
      have Hy4 := Lib.hid hy4
      clear hu hy0 hy4
      go_wp2_with fail
      have HG0 : Hid ((fun (j : Nat) (x : Value) (w1 : World) => (j = 0 ∧ w1 = wE.drew) ∨ (1 ≤ j ∧ w1 = wE.drew.alloc (.cells #[.int .u64 (y0 : Int), .int .u64 (va : Int), .int .u64 (vb : Int), .int .u64 (vc : Int), .int .u64 (y4 : Int), .int .u64 (ve : Int), .int .u64 (vf : Int), .int .u64 (vg : Int)] 26) ∧ x = .slice (some ⟨wE.drew.heap.size, 0, none⟩) 8 8)) 0 undef wE.drew) := Lib.hid (.inl ⟨rfl, rfl⟩)
      refine wp_region_chain (fun t v => match t with
        | 252 => v = .int .u64 (vt : Int)
        | 253 => v = .int .u64 (u : Int)
        | 254 => v = .int .u64 ((vt : Int) + u)
        | 255 => v = .int .u64 (y0 : Int)
        | 256 => v = .slice (some ⟨gv, 0, none⟩) 8 capv
        | 257 => v = .pointer (some ⟨gv, 0, none⟩)
        | 258 => v = .int .u64 (va : Int)
        | 259 => v = .slice (some ⟨gv, 0, none⟩) 8 capv
        | 260 => v = .pointer (some ⟨gv, 1, none⟩)
        | 261 => v = .int .u64 (vb : Int)
        | 262 => v = .slice (some ⟨gv, 0, none⟩) 8 capv
        | 263 => v = .pointer (some ⟨gv, 2, none⟩)
        | 264 => v = .int .u64 (vc : Int)
        | 265 => v = .slice (some ⟨gv, 0, none⟩) 8 capv
        | 266 => v = .pointer (some ⟨gv, 3, none⟩)
        | 267 => v = .int .u64 (vd : Int)
        | 268 => v = .int .u64 (vt : Int)
        | 269 => v = .int .u64 ((vd : Int) + vt)
        | 270 => v = .int .u64 (y4 : Int)
        | 271 => v = .slice (some ⟨gv, 0, none⟩) 8 capv
        | 272 => v = .pointer (some ⟨gv, 4, none⟩)
        | 273 => v = .int .u64 (ve : Int)
        | 274 => v = .slice (some ⟨gv, 0, none⟩) 8 capv
        | 275 => v = .pointer (some ⟨gv, 5, none⟩)
        | 276 => v = .int .u64 (vf : Int)
        | 277 => v = .slice (some ⟨gv, 0, none⟩) 8 capv
        | 278 => v = .pointer (some ⟨gv, 6, none⟩)
        | 279 => v = .int .u64 (vg : Int)
        | _ => True) (fun (j : Nat) (x : Value) (w1 : World) => (j = 0 ∧ w1 = wE.drew) ∨ (1 ≤ j ∧ w1 = wE.drew.alloc (.cells #[.int .u64 (y0 : Int), .int .u64 (va : Int), .int .u64 (vb : Int), .int .u64 (vc : Int), .int .u64 (y4 : Int), .int .u64 (ve : Int), .int .u64 (vf : Int), .int .u64 (vg : Int)] 26) ∧ x = .slice (some ⟨wE.drew.heap.size, 0, none⟩) 8 8)) [28, 29] 326 (by kernel_rfl) (by decide +kernel) rfl (by decide +kernel) (by decide) (by decide) HG0.out (by
        refine OweAllC.cons (owesC_val 0 (by decide +kernel) (by decide) rfl rfl fun k' a w1 x hk ha hG hV => ?_) ?_
        · skip
          have h20 := ha.outer 20 (by decide +kernel)
          simp only [Act.eval] at h20
          exact ⟨.int .u64 (vt : Int), wanted_free rfl, by simp [execOp, go_sem, h20], rfl⟩
        refine OweAllC.cons (owesC_val 0 (by decide +kernel) (by decide) rfl rfl fun k' a w1 x hk ha hG hV => ?_) ?_
        · skip
          have h23 := ha.outer 23 (by decide +kernel)
          simp only [Act.eval] at h23
          exact ⟨.int .u64 (u : Int), wanted_free rfl, by simp [execOp, go_sem, h23], rfl⟩
        refine OweAllC.cons (owesC_val 0 (by decide +kernel) (by decide) rfl rfl fun k' a w1 x hk ha hG hV => ?_) ?_
        · skip
          have h252 : a.tmps.getD 252 undef = .int .u64 (vt : Int) := hV.get 252 (by decide +kernel)
          have h253 : a.tmps.getD 253 undef = .int .u64 (u : Int) := hV.get 253 (by decide +kernel)
          exact ⟨.int .u64 ((vt : Int) + u), wanted_free rfl, by simp [execOp, go_sem, h252, h253, s4], rfl⟩
        refine OweAllC.cons (owesC_val 0 (by decide +kernel) (by decide) rfl rfl fun k' a w1 x hk ha hG hV => ?_) ?_
        · skip
          have h254 : a.tmps.getD 254 undef = .int .u64 ((vt : Int) + u) := hV.get 254 (by decide +kernel)
          exact ⟨.int .u64 (y0 : Int), wanted_free rfl, by simp [execOp, go_sem, h254, s6], rfl⟩
        refine OweAllC.cons (owesC_val 0 (by decide +kernel) (by decide) rfl rfl fun k' a w1 x hk ha hG hV => ?_) ?_
        · skip
          have h16 := ha.kp 1 29 _ 16 (by omega) rfl rfl rfl
          simp only [Act.eval] at h16
          exact ⟨.slice (some ⟨gv, 0, none⟩) 8 capv, wanted_free rfl, by simp [execOp, go_sem, h16], rfl⟩
        refine OweAllC.cons (owesC_val 0 (by decide +kernel) (by decide) rfl rfl fun k' a w1 x hk ha hG hV => ?_) ?_
        · skip
          have h256 : a.tmps.getD 256 undef = .slice (some ⟨gv, 0, none⟩) 8 capv := hV.get 256 (by decide +kernel)
          exact ⟨.pointer (some ⟨gv, 0, none⟩), wanted_free rfl, by simp [execOp, go_sem, h256], rfl⟩
        refine OweAllC.cons (owesC_val 0 (by decide +kernel) (by decide) rfl rfl fun k' a w1 x hk ha hG hV => ?_) ?_
        · skip
          have h257 : a.tmps.getD 257 undef = .pointer (some ⟨gv, 0, none⟩) := hV.get 257 (by decide +kernel)
          obtain rfl : k' = 0 := by omega
          obtain rfl : w1 = wE.drew := by rcases hG with hG | hG; exact hG.2; exact absurd hG.1 (by omega)
          have cc : wE.drew.cell? ⟨gv, 0, none⟩ = some (.int .u64 (va : Int)) := c0
          exact ⟨.int .u64 (va : Int), wanted_free rfl, by simp [execOp, go_sem, h257, cc], rfl⟩
        refine OweAllC.cons (owesC_val 0 (by decide +kernel) (by decide) rfl rfl fun k' a w1 x hk ha hG hV => ?_) ?_
        · skip
          have h16 := ha.kp 1 29 _ 16 (by omega) rfl rfl rfl
          simp only [Act.eval] at h16
          exact ⟨.slice (some ⟨gv, 0, none⟩) 8 capv, wanted_free rfl, by simp [execOp, go_sem, h16], rfl⟩
        refine OweAllC.cons (owesC_val 0 (by decide +kernel) (by decide) rfl rfl fun k' a w1 x hk ha hG hV => ?_) ?_
        · skip
          have h259 : a.tmps.getD 259 undef = .slice (some ⟨gv, 0, none⟩) 8 capv := hV.get 259 (by decide +kernel)
          exact ⟨.pointer (some ⟨gv, 1, none⟩), wanted_free rfl, by simp [execOp, go_sem, h259], rfl⟩
        refine OweAllC.cons (owesC_val 0 (by decide +kernel) (by decide) rfl rfl fun k' a w1 x hk ha hG hV => ?_) ?_
        · skip
          have h260 : a.tmps.getD 260 undef = .pointer (some ⟨gv, 1, none⟩) := hV.get 260 (by decide +kernel)
          obtain rfl : k' = 0 := by omega
          obtain rfl : w1 = wE.drew := by rcases hG with hG | hG; exact hG.2; exact absurd hG.1 (by omega)
          have cc : wE.drew.cell? ⟨gv, 1, none⟩ = some (.int .u64 (vb : Int)) := c1
          exact ⟨.int .u64 (vb : Int), wanted_free rfl, by simp [execOp, go_sem, h260, cc], rfl⟩
        refine OweAllC.cons (owesC_val 0 (by decide +kernel) (by decide) rfl rfl fun k' a w1 x hk ha hG hV => ?_) ?_
        · skip
          have h16 := ha.kp 1 29 _ 16 (by omega) rfl rfl rfl
          simp only [Act.eval] at h16
          exact ⟨.slice (some ⟨gv, 0, none⟩) 8 capv, wanted_free rfl, by simp [execOp, go_sem, h16], rfl⟩
        refine OweAllC.cons (owesC_val 0 (by decide +kernel) (by decide) rfl rfl fun k' a w1 x hk ha hG hV => ?_) ?_
        · skip
          have h262 : a.tmps.getD 262 undef = .slice (some ⟨gv, 0, none⟩) 8 capv := hV.get 262 (by decide +kernel)
          exact ⟨.pointer (some ⟨gv, 2, none⟩), wanted_free rfl, by simp [execOp, go_sem, h262], rfl⟩
        refine OweAllC.cons (owesC_val 0 (by decide +kernel) (by decide) rfl rfl fun k' a w1 x hk ha hG hV => ?_) ?_
        · skip
          have h263 : a.tmps.getD 263 undef = .pointer (some ⟨gv, 2, none⟩) := hV.get 263 (by decide +kernel)
          obtain rfl : k' = 0 := by omega
          obtain rfl : w1 = wE.drew := by rcases hG with hG | hG; exact hG.2; exact absurd hG.1 (by omega)
          have cc : wE.drew.cell? ⟨gv, 2, none⟩ = some (.int .u64 (vc : Int)) := c2
          exact ⟨.int .u64 (vc : Int), wanted_free rfl, by simp [execOp, go_sem, h263, cc], rfl⟩
        refine OweAllC.cons (owesC_val 0 (by decide +kernel) (by decide) rfl rfl fun k' a w1 x hk ha hG hV => ?_) ?_
        · skip
          have h16 := ha.kp 1 29 _ 16 (by omega) rfl rfl rfl
          simp only [Act.eval] at h16
          exact ⟨.slice (some ⟨gv, 0, none⟩) 8 capv, wanted_free rfl, by simp [execOp, go_sem, h16], rfl⟩
        refine OweAllC.cons (owesC_val 0 (by decide +kernel) (by decide) rfl rfl fun k' a w1 x hk ha hG hV => ?_) ?_
        · skip
          have h265 : a.tmps.getD 265 undef = .slice (some ⟨gv, 0, none⟩) 8 capv := hV.get 265 (by decide +kernel)
          exact ⟨.pointer (some ⟨gv, 3, none⟩), wanted_free rfl, by simp [execOp, go_sem, h265], rfl⟩
        refine OweAllC.cons (owesC_val 0 (by decide +kernel) (by decide) rfl rfl fun k' a w1 x hk ha hG hV => ?_) ?_
        · skip
          have h266 : a.tmps.getD 266 undef = .pointer (some ⟨gv, 3, none⟩) := hV.get 266 (by decide +kernel)
          obtain rfl : k' = 0 := by omega
          obtain rfl : w1 = wE.drew := by rcases hG with hG | hG; exact hG.2; exact absurd hG.1 (by omega)
          have cc : wE.drew.cell? ⟨gv, 3, none⟩ = some (.int .u64 (vd : Int)) := c3
          exact ⟨.int .u64 (vd : Int), wanted_free rfl, by simp [execOp, go_sem, h266, cc], rfl⟩
        refine OweAllC.cons (owesC_val 0 (by decide +kernel) (by decide) rfl rfl fun k' a w1 x hk ha hG hV => ?_) ?_
        · skip
          have h20 := ha.outer 20 (by decide +kernel)
          simp only [Act.eval] at h20
          exact ⟨.int .u64 (vt : Int), wanted_free rfl, by simp [execOp, go_sem, h20], rfl⟩
        refine OweAllC.cons (owesC_val 0 (by decide +kernel) (by decide) rfl rfl fun k' a w1 x hk ha hG hV => ?_) ?_
        · skip
          have h267 : a.tmps.getD 267 undef = .int .u64 (vd : Int) := hV.get 267 (by decide +kernel)
          have h268 : a.tmps.getD 268 undef = .int .u64 (vt : Int) := hV.get 268 (by decide +kernel)
          exact ⟨.int .u64 ((vd : Int) + vt), wanted_free rfl, by simp [execOp, go_sem, h267, h268, s7], rfl⟩
        refine OweAllC.cons (owesC_val 0 (by decide +kernel) (by decide) rfl rfl fun k' a w1 x hk ha hG hV => ?_) ?_
        · skip
          have h269 : a.tmps.getD 269 undef = .int .u64 ((vd : Int) + vt) := hV.get 269 (by decide +kernel)
          exact ⟨.int .u64 (y4 : Int), wanted_free rfl, by simp [execOp, go_sem, h269, s9], rfl⟩
        refine OweAllC.cons (owesC_val 0 (by decide +kernel) (by decide) rfl rfl fun k' a w1 x hk ha hG hV => ?_) ?_
        · skip
          have h16 := ha.kp 1 29 _ 16 (by omega) rfl rfl rfl
          simp only [Act.eval] at h16
          exact ⟨.slice (some ⟨gv, 0, none⟩) 8 capv, wanted_free rfl, by simp [execOp, go_sem, h16], rfl⟩
        refine OweAllC.cons (owesC_val 0 (by decide +kernel) (by decide) rfl rfl fun k' a w1 x hk ha hG hV => ?_) ?_
        · skip
          have h271 : a.tmps.getD 271 undef = .slice (some ⟨gv, 0, none⟩) 8 capv := hV.get 271 (by decide +kernel)
          exact ⟨.pointer (some ⟨gv, 4, none⟩), wanted_free rfl, by simp [execOp, go_sem, h271], rfl⟩
        refine OweAllC.cons (owesC_val 0 (by decide +kernel) (by decide) rfl rfl fun k' a w1 x hk ha hG hV => ?_) ?_
        · skip
          have h272 : a.tmps.getD 272 undef = .pointer (some ⟨gv, 4, none⟩) := hV.get 272 (by decide +kernel)
          obtain rfl : k' = 0 := by omega
          obtain rfl : w1 = wE.drew := by rcases hG with hG | hG; exact hG.2; exact absurd hG.1 (by omega)
          have cc : wE.drew.cell? ⟨gv, 4, none⟩ = some (.int .u64 (ve : Int)) := c4
          exact ⟨.int .u64 (ve : Int), wanted_free rfl, by simp [execOp, go_sem, h272, cc], rfl⟩
        refine OweAllC.cons (owesC_val 0 (by decide +kernel) (by decide) rfl rfl fun k' a w1 x hk ha hG hV => ?_) ?_
        · skip
          have h16 := ha.kp 1 29 _ 16 (by omega) rfl rfl rfl
          simp only [Act.eval] at h16
          exact ⟨.slice (some ⟨gv, 0, none⟩) 8 capv, wanted_free rfl, by simp [execOp, go_sem, h16], rfl⟩
        refine OweAllC.cons (owesC_val 0 (by decide +kernel) (by decide) rfl rfl fun k' a w1 x hk ha hG hV => ?_) ?_
        · skip
          have h274 : a.tmps.getD 274 undef = .slice (some ⟨gv, 0, none⟩) 8 capv := hV.get 274 (by decide +kernel)
          exact ⟨.pointer (some ⟨gv, 5, none⟩), wanted_free rfl, by simp [execOp, go_sem, h274], rfl⟩
        refine OweAllC.cons (owesC_val 0 (by decide +kernel) (by decide) rfl rfl fun k' a w1 x hk ha hG hV => ?_) ?_
        · skip
          have h275 : a.tmps.getD 275 undef = .pointer (some ⟨gv, 5, none⟩) := hV.get 275 (by decide +kernel)
          obtain rfl : k' = 0 := by omega
          obtain rfl : w1 = wE.drew := by rcases hG with hG | hG; exact hG.2; exact absurd hG.1 (by omega)
          have cc : wE.drew.cell? ⟨gv, 5, none⟩ = some (.int .u64 (vf : Int)) := c5
          exact ⟨.int .u64 (vf : Int), wanted_free rfl, by simp [execOp, go_sem, h275, cc], rfl⟩
        refine OweAllC.cons (owesC_val 0 (by decide +kernel) (by decide) rfl rfl fun k' a w1 x hk ha hG hV => ?_) ?_
        · skip
          have h16 := ha.kp 1 29 _ 16 (by omega) rfl rfl rfl
          simp only [Act.eval] at h16
          exact ⟨.slice (some ⟨gv, 0, none⟩) 8 capv, wanted_free rfl, by simp [execOp, go_sem, h16], rfl⟩
        refine OweAllC.cons (owesC_val 0 (by decide +kernel) (by decide) rfl rfl fun k' a w1 x hk ha hG hV => ?_) ?_
        · skip
          have h277 : a.tmps.getD 277 undef = .slice (some ⟨gv, 0, none⟩) 8 capv := hV.get 277 (by decide +kernel)
          exact ⟨.pointer (some ⟨gv, 6, none⟩), wanted_free rfl, by simp [execOp, go_sem, h277], rfl⟩
        refine OweAllC.cons (owesC_val 0 (by decide +kernel) (by decide) rfl rfl fun k' a w1 x hk ha hG hV => ?_) ?_
        · skip
          have h278 : a.tmps.getD 278 undef = .pointer (some ⟨gv, 6, none⟩) := hV.get 278 (by decide +kernel)
          obtain rfl : k' = 0 := by omega
          obtain rfl : w1 = wE.drew := by rcases hG with hG | hG; exact hG.2; exact absurd hG.1 (by omega)
          have cc : wE.drew.cell? ⟨gv, 6, none⟩ = some (.int .u64 (vg : Int)) := c6
          exact ⟨.int .u64 (vg : Int), wanted_free rfl, by simp [execOp, go_sem, h278, cc], rfl⟩
        refine OweAllC.cons (owesC_mem 0 rfl rfl rfl fun a w1 x ha hG hx hV => ?_) ?_
        · skip
          have h255 : a.tmps.getD 255 undef = .int .u64 (y0 : Int) := hV.get 255 (by decide +kernel)
          have h258 : a.tmps.getD 258 undef = .int .u64 (va : Int) := hV.get 258 (by decide +kernel)
          have h261 : a.tmps.getD 261 undef = .int .u64 (vb : Int) := hV.get 261 (by decide +kernel)
          have h264 : a.tmps.getD 264 undef = .int .u64 (vc : Int) := hV.get 264 (by decide +kernel)
          have h270 : a.tmps.getD 270 undef = .int .u64 (y4 : Int) := hV.get 270 (by decide +kernel)
          have h273 : a.tmps.getD 273 undef = .int .u64 (ve : Int) := hV.get 273 (by decide +kernel)
          have h276 : a.tmps.getD 276 undef = .int .u64 (vf : Int) := hV.get 276 (by decide +kernel)
          have h279 : a.tmps.getD 279 undef = .int .u64 (vg : Int) := hV.get 279 (by decide +kernel)
          have g255 : a.tmps[255]?.getD undef = .int .u64 (y0 : Int) := by simpa using h255
          have g258 : a.tmps[258]?.getD undef = .int .u64 (va : Int) := by simpa using h258
          have g261 : a.tmps[261]?.getD undef = .int .u64 (vb : Int) := by simpa using h261
          have g264 : a.tmps[264]?.getD undef = .int .u64 (vc : Int) := by simpa using h264
          have g270 : a.tmps[270]?.getD undef = .int .u64 (y4 : Int) := by simpa using h270
          have g273 : a.tmps[273]?.getD undef = .int .u64 (ve : Int) := by simpa using h273
          have g276 : a.tmps[276]?.getD undef = .int .u64 (vf : Int) := by simpa using h276
          have g279 : a.tmps[279]?.getD undef = .int .u64 (vg : Int) := by simpa using h279
          obtain rfl : w1 = wE.drew := by rcases hG with hG | hG; exact hG.2; exact absurd hG.1 (by omega)
          exact ⟨.slice (some ⟨wE.drew.heap.size, 0, none⟩) 8 8, wE.drew.alloc (.cells #[.int .u64 (y0 : Int), .int .u64 (va : Int), .int .u64 (vb : Int), .int .u64 (vc : Int), .int .u64 (y4 : Int), .int .u64 (ve : Int), .int .u64 (vf : Int), .int .u64 (vg : Int)] 26), wanted_free rfl, build8 rfl _ _ _ _ _ _ _ _ h255 h258 h261 h264 h270 h273 h276 h279, trivial, .inr ⟨by omega, rfl, rfl⟩⟩
        refine OweAllC.cons (owesC_mem 1 rfl rfl rfl fun a w1 x ha hG hx hV => ?_) ?_
        · skip
          have h280 := hx 0 28 _ 280 rfl rfl rfl rfl
          simp only [Act.eval] at h280
          obtain ⟨_, rfl, rfl⟩ : 1 ≤ 1 ∧ w1 = _ ∧ x = _ := by rcases hG with hG | hG; exact absurd hG.1 (by omega); exact hG
          exact ⟨_, _, wanted_free rfl, by simp [execOp, go_sem, h280], trivial, .inr ⟨by omega, rfl, rfl⟩⟩
        exact OweAllC.nil
        ) ?_
      intro f wz xz hG hx hv
      have e16 : f 16 = xz := hx 1 29 _ 16 rfl rfl rfl rfl
      refine moves_back (P := Tryz.prog) (ops := #[]) f _ _ _ ?_
      simp only [dsts, List.filterMap_cons, List.filterMap_nil, List.map_cons, List.map_nil]
      rw [e16]
      clear hv hx
      unfold mv
      clear e16
      obtain ⟨_, rfl, rfl⟩ : 1 ≤ 2 ∧ wz = _ ∧ xz = _ := by rcases hG with hG | hG; exact absurd hG.1 (by decide); exact hG
      clear HG0
      have hXd := hX.drewN 1
      have hXn : Hid (Rel7 w gh gk B HH SL g2 cap2 wE.drew.heap.size 8 ⟨y0, va, vb, vc, y4, ve, vf, vg⟩ (wE.drew.alloc (.cells (nums .u64 [y0, va, vb, vc, y4, ve, vf, vg]).toArray 26 (0, 0)))) := Lib.hid (Rel7.next (wr := wE.drew) hXd [y0, va, vb, vc, y4, ve, vf, vg] rfl)
      have Hrd : Hid (rnd ⟨va, vb, vc, vd, ve, vf, vg, vh⟩ kk wk = ⟨y0, va, vb, vc, y4, ve, vf, vg⟩) := Lib.hid (by
        have e1 := t_sum ve vf vg vh kk wk z1 z2 Hz1.out Hz2.out va vb vc vd
        have e2 := u_sum va vb vc z3 z4 vd ve vf vg vh Hz3.out Hz4.out
        rw [← Ht.out] at e1
        rw [← Hu.out] at e2
        simp only [rnd, ← e1, ← e2, Hy0.out, Hy4.out])
      clear hX hXd c0 c1 c2 c3 c4 c5 c6
      go_wp2_with fail
      go_roundw
      case rel => exact ⟨k + 1, wE.heap.size, 8, by omega, by go_num, rfl, by rw [Hnext.out, Hrd.out]; exact hXn.out⟩
      case measure => simp [intOf]; omega
    · obtain rfl : k = 64 := by omega
      go_wp2_with fail
      go_meet
      exact ⟨gv, capv, rfl, hX⟩
end Go.Proofs.YtemnebbdaljfbaaGreatDoor
