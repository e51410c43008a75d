import Derived.Test.YtkejidmomnmdbaaDoorD2
import Derived.Deep.DeepCutAuto
import Derived.Deep.CutBlock
namespace Go.Proofs.YtkejidmomnmdbaaDoor
open Go.RowKit

/-- The rounds' words lie in the program's table. -/
def TabAt (w : World) : Prop := ∀ i, i < 64 → w.cell? ⟨1, i, none⟩ = some (.int .u32 (kTab.getD i 0))
theorem TabAt.lt {w : World} (h : TabAt w) : 1 < w.heap.size := World.block_lt_of_cell? _ _ (h 0 (by omega))
theorem TabAt.kept {w w' : World} {S : Nat → Prop} (h : TabAt w) (hm : Mod S w w') (h0 : ¬ S 1) : TabAt w' := fun i hi => (World.cell?_of_block (hm.block 1 h.lt h0)).trans (h i hi)

theorem right_q (x n : Nat) (w : World) (hx : x < 4294967296) (h1 : 1 ≤ n) (h2 : n ≤ 31) :
    Calls Tryd.prog 183 #[.int .u32 x, .int .i64 (n : Int)] w fun r w' => r = .returned (.int .u32 (rotr x n : Int)) ∧ w' = w :=
  (dright_any x n w hx h1 h2).mono fun _ _ ⟨a, b⟩ => ⟨a, b.symm⟩

theorem list8 {H : List Nat} (h : H.length = 8) : ∃ a b c d e f g i, H = [a, b, c, d, e, f, g, i] := by
  match H, h with
  | [a, b, c, d, e, f, g, i], _ => exact ⟨a, b, c, d, e, f, g, i, rfl⟩

/-- The words of a round, step by step, in the machine's spelling. -/
theorem t_facts (e f g h k w : Nat) (be : e < 4294967296) (bf : f < 4294967296) (bg : g < 4294967296) (_bh : h < 4294967296) (_bk : k < 4294967296) (_bw : w < 4294967296) :
    ∃ r1 z1 q1 ne q2 q3 y1 y2 y3 t : Nat, Hid (t = tOf ⟨0, 0, 0, 0, e, f, g, h⟩ k w) ∧
      bits BinOp.xor IntKind.u32 (rotr e 6 : Int) (rotr e 11 : Int) = (r1 : Int) ∧ bits BinOp.xor IntKind.u32 (r1 : Int) (rotr e 25 : Int) = (z1 : Int) ∧
      bits BinOp.and IntKind.u32 (e : Int) (f : Int) = (q1 : Int) ∧ bits BinOp.xor IntKind.u32 (if IntKind.u32.signed = true then -1 else IntKind.u32.max) (e : Int) = (ne : Int) ∧ bits BinOp.and IntKind.u32 (ne : Int) (g : Int) = (q2 : Int) ∧
      bits BinOp.xor IntKind.u32 (q1 : Int) (q2 : Int) = (q3 : Int) ∧
      ((h : Int) + z1) % 4294967296 = (y1 : Int) ∧ ((y1 : Int) + q3) % 4294967296 = (y2 : Int) ∧ ((y2 : Int) + k) % 4294967296 = (y3 : Int) ∧ ((y3 : Int) + w) % 4294967296 = (t : Int) := by
  have hne : bits BinOp.xor IntKind.u32 (if IntKind.u32.signed = true then -1 else IntKind.u32.max) (e : Int) = ((4294967295 - e : Nat) : Int) := by
    rw [if_neg (by decide), show IntKind.u32.max = ((4294967295 : Nat) : Int) from rfl, u32_xor_nat _ _ (by decide) be]
    have h := BitVec.toNat_not (x := BitVec.ofNat 32 e)
    have h2 : (~~~ BitVec.ofNat 32 e) = BitVec.allOnes 32 ^^^ BitVec.ofNat 32 e := by rw [BitVec.allOnes_xor]
    rw [h2, BitVec.toNat_xor, BitVec.toNat_allOnes, BitVec.toNat_ofNat, Nat.mod_eq_of_lt (by omega)] at h
    exact congrArg Int.ofNat h
  have h6 := rotr_lt e 6 be (by decide)
  have h11 := rotr_lt e 11 be (by decide)
  have h25 := rotr_lt e 25 be (by decide)
  refine ⟨rotr e 6 ^^^ rotr e 11, S1 e, e &&& f, 4294967295 - e, (4294967295 - e) &&& g, ch e f g, (h + S1 e) % 4294967296, ((h + S1 e) % 4294967296 + ch e f g) % 4294967296, (((h + S1 e) % 4294967296 + ch e f g) % 4294967296 + k) % 4294967296, _, rfl,
    u32_xor_nat _ _ h6 h11, u32_xor_nat _ _ (xor_lt _ _ h6 h11) h25, u32_and_nat _ _ be bf, hne, u32_and_nat _ _ (by omega) bg, u32_xor_nat _ _ (and_lt _ _ bf) (and_lt _ _ bg), by omega, by omega, by omega, ?_⟩
  simp only [tOf]
  omega
theorem u_facts (a b c : Nat) (ba : a < 4294967296) (bb : b < 4294967296) (bc : c < 4294967296) :
    ∃ r2 z2 m1 m2 m3 m4 m5 u : Nat, Hid (u = uOf ⟨a, b, c, 0, 0, 0, 0, 0⟩) ∧
      bits BinOp.xor IntKind.u32 (rotr a 2 : Int) (rotr a 13 : Int) = (r2 : Int) ∧ bits BinOp.xor IntKind.u32 (r2 : Int) (rotr a 22 : Int) = (z2 : Int) ∧
      bits BinOp.and IntKind.u32 (a : Int) (b : Int) = (m1 : Int) ∧ bits BinOp.and IntKind.u32 (a : Int) (c : Int) = (m2 : Int) ∧ bits BinOp.xor IntKind.u32 (m1 : Int) (m2 : Int) = (m3 : Int) ∧
      bits BinOp.and IntKind.u32 (b : Int) (c : Int) = (m4 : Int) ∧ bits BinOp.xor IntKind.u32 (m3 : Int) (m4 : Int) = (m5 : Int) ∧ ((z2 : Int) + m5) % 4294967296 = (u : Int) := by
  have h2 := rotr_lt a 2 ba (by decide)
  have h13 := rotr_lt a 13 ba (by decide)
  have h22 := rotr_lt a 22 ba (by decide)
  refine ⟨rotr a 2 ^^^ rotr a 13, S0 a, a &&& b, a &&& c, (a &&& b) ^^^ (a &&& c), b &&& c, maj a b c, _, rfl,
    u32_xor_nat _ _ h2 h13, u32_xor_nat _ _ (xor_lt _ _ h2 h13) h22, u32_and_nat _ _ ba bb, u32_and_nat _ _ ba bc, u32_xor_nat _ _ (and_lt _ _ bb) (and_lt _ _ bc), u32_and_nat _ _ bb bc, u32_xor_nat _ _ (xor_lt _ _ (and_lt _ _ bb) (and_lt _ _ bc)) (and_lt _ _ bc), ?_⟩
  simp only [uOf]
  omega

structure MixRel (w : World) (b : Nat) (H L : List Nat) (c N : Nat) (Z : List Nat) (wr : World) : Prop where
  s : SumAt wr b H L c
  r : RowAt .u32 221 wr N Z
  t : TabAt wr
  m : Mod (fun _ => False) w wr
theorem MixRel.drewN {w : World} {b : Nat} {H L : List Nat} {c N : Nat} {Z : List Nat} {wr : World} (h : MixRel w b H L c N Z wr) (n : Nat) : MixRel w b H L c N Z (wr.drewN n) :=
  have hm : Mod (fun _ => False) wr (wr.drewN n) := Mod.drewN (Mod.refl _ _) n
  ⟨h.s.kept hm (fun h => h), h.r.kept hm (fun h => h), h.t.kept hm (fun h => h), h.m.trans hm (fun _ _ h => h)⟩

/-- The words are added, one by one. -/
def AddRel (w : World) (b : Nat) (H B L : List Nat) (c k : Nat) (wr : World) : Prop := ∃ Hp, SumAt wr b Hp L c ∧ Hp.take k = B.take k ∧ Hp.drop k = H.drop k ∧ Mod (· = b) w wr

def VSlots (v : V) (s3 s4 s5 s6 s7 s8 s9 s10 : Value) : Prop :=
  s3 = .int .u32 v.a ∧ s4 = .int .u32 v.b ∧ s5 = .int .u32 v.c ∧ s6 = .int .u32 v.d ∧ s7 = .int .u32 v.e ∧ s8 = .int .u32 v.f ∧ s9 = .int .u32 v.g ∧ s10 = .int .u32 v.h

set_option maxHeartbeats 2000000 in
set_option maxRecDepth 100000 in
theorem mix_any (b : Nat) (H L : List Nat) (c : Nat) (w : World) (hS : SumAt w b H L c) (hL : ∀ x ∈ L, x < 256) (hH : ∀ x ∈ H, x < 4294967296) (hT : TabAt w) :
    Calls Tryd.prog 158 #[.pointer (some ⟨b, 0, none⟩)] w fun r w' => r = .returned (.tuple #[]) ∧ SumAt w' b (block H L) L c ∧ Mod (· = b) w w' := by
  go_enter Tryd.func158, Tryd.ntmps158
  go_wp2_with fail
  refine (schedule_any b H L c w hS hL).mono ?_
  rintro r w1 ⟨rfl, hM1⟩
  have hS1 := hS.kept hM1 (fun h => h)
  have hT1 := hT.kept hM1 (fun h => h)
  have hZl := schedTo_len L 64
  have hZb := schedTo_lt L hL 64
  obtain ⟨Z, hZ⟩ : ∃ Z, Z = schedTo L 64 := ⟨_, rfl⟩
  rw [← hZ] at hZl hZb ⊢
  have HZ := Lib.hid hZ
  clear hZ
  go_wp2_with (refine wpList_store_row rfl rfl 221 (.tmp 2) (.tmp 17) rfl w1.heap.size rfl 221 (nums .u32 (List.replicate 64 0)).toArray (nums .u32 Z).toArray rfl (heap_alloc_new _ _) ?s2 ?s3 ?s4 ?_)
  case s2 => simp [nums_len, hZl]
  case s3 => rw [List.size_toArray, nums_len, hZl]; kernel_rfl
  case s4 => simpa using nums_one .u32 Z
  generalize hW1 : (w1.alloc _).setRow w1.heap.size _ = W1
  have hW1' : Mod (fun _ => False) w1 W1 := by
    rw [← hW1]
    exact (((Mod.refl (fun _ => False) _).alloc _).setRow (g := w1.heap.size) _).drop_new (Nat.le_refl _)
  have hR1 : RowAt .u32 221 W1 w1.heap.size Z := by rw [← hW1]; exact setRow_heap _ _ _ _ _ _ (heap_alloc_new _ _)
  have hM2 : Mod (fun _ => False) w W1 := hM1.trans hW1' (fun _ _ h => h)
  have hS2 := hS1.kept hW1' (fun h => h)
  have hT2 := hT1.kept hW1' (fun h => h)
  have hbN : b < w1.heap.size := hS1.lt
  have hbw : b < w.heap.size := hS.lt
  clear hS1 hT1 hM1 hW1 hW1' hS hT
  obtain ⟨h0, h1, h2, h3, h4, h5, h6, h7, rfl⟩ := list8 hS2.hl
  have c0 := hS2.word 0 (by omega)
  have c1 := hS2.word 1 (by omega)
  have c2 := hS2.word 2 (by omega)
  have c3 := hS2.word 3 (by omega)
  have c4 := hS2.word 4 (by omega)
  have c5 := hS2.word 5 (by omega)
  have c6 := hS2.word 6 (by omega)
  have c7 := hS2.word 7 (by omega)
  simp only [List.getElem_cons_zero, List.getElem_cons_succ] at c0 c1 c2 c3 c4 c5 c6 c7
  go_quiet (fail)
  go_wp2_with fail
  go_quiet (fail)
  go_upto_block 0 with fail
  have hR2 := (MixRel.mk hS2 hR1 hT2 hM2).drewN
  generalize hW2 : (W1.drewN _).drewN _ = W2
  have hR3 : MixRel w b [h0, h1, h2, h3, h4, h5, h6, h7] L c w1.heap.size Z W2 := by rw [← hW2]; exact (hR2 _).drewN _
  clear hW2 hR2 hR1 hS2 hT2 hM2 c0 c1 c2 c3 c4 c5 c6 c7
  have hv0 : (toV [h0, h1, h2, h3, h4, h5, h6, h7]).ok := by
    have hh := hH
    simp only [List.mem_cons, List.not_mem_nil, or_false, forall_eq_or_imp, forall_eq] at hh
    obtain ⟨a, b, c, d, e, f, g, h⟩ := hh
    exact ⟨a, b, c, d, e, f, g, h⟩
  obtain ⟨v0, hv0e⟩ : ∃ v, v = toV [h0, h1, h2, h3, h4, h5, h6, h7] := ⟨_, rfl⟩
  rw [← hv0e] at hv0
  have Hv0 := Lib.hid hv0e
  go_cut [3, 4, 5, 6, 7, 8, 9, 10] (fun s3 s4 s5 s6 s7 s8 s9 s10 wx => VSlots (rounds v0 Z 64) s3 s4 s5 s6 s7 s8 s9 s10 ∧ MixRel w b [h0, h1, h2, h3, h4, h5, h6, h7] L c w1.heap.size Z wx)
  case first =>
    go_wp2_with fail
    go_loopw [3, 4, 5, 6, 7, 8, 9, 10, 58] (fun s3 s4 s5 s6 s7 s8 s9 s10 i wr => ∃ k : Nat, k ≤ 64 ∧ i = .int .i64 k ∧ VSlots (rounds v0 Z k) s3 s4 s5 s6 s7 s8 s9 s10 ∧ MixRel w b [h0, h1, h2, h3, h4, h5, h6, h7] L c w1.heap.size Z wr) (fun _ _ _ _ _ _ _ _ i _ => 64 - (intOf i).toNat)
    case atStart => exact ⟨0, by omega, rfl, by rw [hv0e]; exact ⟨rfl, rfl, rfl, rfl, rfl, rfl, rfl, rfl⟩, hR3⟩
    case round =>
      clear hv0e
      obtain ⟨k, hk, rfl, ⟨rfl, rfl, rfl, rfl, rfl, rfl, rfl, rfl⟩, hR4⟩ := hrel
      by_cases hlt : k < 64
      · as_aux_lemma =>
        have hvk := rounds_ok v0 hv0 Z k
        obtain ⟨wk, hwk⟩ : ∃ x, x = Z[k]'(by omega) := ⟨_, rfl⟩
        obtain ⟨kk, hkk⟩ : ∃ x, x = kTab.getD k 0 := ⟨_, rfl⟩
        have cw := hR4.r.cell k (by omega)
        have ck := hR4.t k hlt
        have bw : wk < 4294967296 := by rw [hwk]; exact hZb _ (List.getElem_mem _)
        have bk : kk < 4294967296 := by rw [hkk, getD_at _ _ (by rw [kTab_len]; omega)]; exact kTab_lt _ (List.getElem_mem _)
        rw [← hwk] at cw; rw [← hkk] at ck
        have hnext : rounds v0 Z (k + 1) = rnd (rounds v0 Z k) kk wk := by rw [rounds, ← hkk, getD_at _ _ (by omega), ← hwk]
        have Hnext := Lib.hid hnext
        clear hnext hwk hkk
        generalize rounds v0 Z k = v at hvk Hnext ⊢
        obtain ⟨a, bb, cc, d, e, f, g, h⟩ := v
        obtain ⟨ba, bb', bc, bd, be, bf, bg, bh⟩ := hvk
        simp only at ba bb' bc bd be bf bg bh
        have ia : (0 : Int) ≤ k := by omega
        have ib : (k : Int) < 64 := by omega
        -- the first sum
        obtain ⟨r1, z1, q1, ne, q2, q3, y1, y2, y3, t, Ht, f1, f2, f3, f4, f5, f6, g1, g2, g3, g4⟩ := t_facts e f g h kk wk be bf bg bh bk bw
        obtain ⟨r2, z2, m1, m2, m3, m4, m5, u, Hu, k1, k2, k3, k4, k5, k6, k7, k8⟩ := u_facts a bb cc ba bb' bc
        go_wp2_with fail
        go_quiet ((first | (go_at_call_of 183 (Value.int IntKind.i64 6); exact Calls.quiet_of_same (right_q e 6 _ be (by omega) (by omega))) | (go_at_call_of 183 (Value.int IntKind.i64 11); exact Calls.quiet_of_same (right_q e 11 _ be (by omega) (by omega))) | (go_at_call_of 183 (Value.int IntKind.i64 25); exact Calls.quiet_of_same (right_q e 25 _ be (by omega) (by omega)))))
        go_wp2_with (first | (go_at_call_of 183 (Value.int IntKind.i64 2); refine (dright_any a 2 _ ba (by omega) (by omega)).mono ?_; rintro _ _ ⟨rfl, rfl⟩) | (go_at_call_of 183 (Value.int IntKind.i64 13); refine (dright_any a 13 _ ba (by omega) (by omega)).mono ?_; rintro _ _ ⟨rfl, rfl⟩) | (go_at_call_of 183 (Value.int IntKind.i64 22); refine (dright_any a 22 _ ba (by omega) (by omega)).mono ?_; rintro _ _ ⟨rfl, rfl⟩))
        go_roundw
        case rel =>
          refine ⟨k + 1, by omega, by go_num, ?_, hR4.drewN nq⟩
          rw [Hnext.out]
          have e1 : t = tOf ⟨a, bb, cc, d, e, f, g, h⟩ kk wk := Ht.out
          have e2 : u = uOf ⟨a, bb, cc, d, e, f, g, h⟩ := Hu.out
          exact ⟨by rw [e1, e2]; exact val_int (by simp [rnd]), rfl, rfl, rfl, by rw [e1]; exact val_int (by simp [rnd]), rfl, rfl, rfl⟩
        case measure => simp [intOf]; omega
      · obtain rfl : k = 64 := by omega
        go_wp2_with fail
        go_meet
        exact ⟨⟨rfl, rfl, rfl, rfl, rfl, rfl, rfl, rfl⟩, hR4⟩
  case rest =>
  obtain ⟨⟨rfl, rfl, rfl, rfl, rfl, rfl, rfl, rfl⟩, hR4⟩ := hcut
  have hvk := rounds_ok v0 hv0 Z 64
  have hbl : block [h0, h1, h2, h3, h4, h5, h6, h7] L = List.zipWith (fun x y => (x + y) % 4294967296) [h0, h1, h2, h3, h4, h5, h6, h7] (rounds v0 Z 64).list := by rw [block, ← HZ.out, ← Hv0.out]
  generalize rounds v0 Z 64 = v at hvk hbl ⊢
  have Hbl := Lib.hid hbl
  clear hbl
  obtain ⟨a, bb, cc, d, e, f, g, h⟩ := v
  go_wp2_with fail
  have hlen : (block [h0, h1, h2, h3, h4, h5, h6, h7] L).length = 8 := block_len _ _ rfl
  obtain ⟨wo, rfl⟩ : ∃ wo : World, wo = wc := ⟨_, rfl⟩
  go_loopw [130] (fun i wr => ∃ k : Nat, k ≤ 8 ∧ i = .int .i64 k ∧ AddRel w b [h0, h1, h2, h3, h4, h5, h6, h7] (block [h0, h1, h2, h3, h4, h5, h6, h7] L) L c k wr) (fun i _ => 8 - (intOf i).toNat)
  case atStart => exact ⟨0, by omega, rfl, _, hR4.s, by rw [List.take_zero, List.take_zero], rfl, hR4.m.mono (fun _ _ h => h.elim)⟩
  case round =>
    obtain ⟨k, hk, rfl, Hp, hSp, htk, hdk, hMp⟩ := hrel
    clear hR4
    have hpl := hSp.hl
    by_cases hlt : k < 8
    · as_aux_lemma =>
      obtain ⟨y, hy⟩ : ∃ y, y = [a, bb, cc, d, e, f, g, h][k]'(by simp; omega) := ⟨_, rfl⟩
      obtain ⟨z, hz⟩ : ∃ z, z = Hp[k]'(by omega) := ⟨_, rfl⟩
      have hz2 : z = [h0, h1, h2, h3, h4, h5, h6, h7][k]'(by simp; omega) := by
        have e1 : (Hp.drop k)[0]? = ([h0, h1, h2, h3, h4, h5, h6, h7].drop k)[0]? := by rw [hdk]
        rw [List.getElem?_drop, List.getElem?_drop, Nat.add_zero, List.getElem?_eq_getElem (by omega), List.getElem?_eq_getElem (by simp; omega)] at e1
        rw [hz]; exact Option.some.inj e1
      obtain ⟨x, hx⟩ : ∃ x, x = (z + y) % 4294967296 := ⟨_, rfl⟩
      have hidx : ∀ w : World, (Instr.index 121 (.agg #[.int .u32 (a : Int), .int .u32 (bb : Int), .int .u32 (cc : Int), .int .u32 (d : Int), .int .u32 (e : Int), .int .u32 (f : Int), .int .u32 (g : Int), .int .u32 (h : Int)]) (.int .i64 (k : Int))).run Tryd.prog w = .ok (.int .u32 (y : Int)) w := fun w => by
        rw [hy]
        exact run_index_nums (P := Tryd.prog) 121 30 8 .u32 [a, bb, cc, d, e, f, g, h] k (by simp; omega) Tryd.underlying121 rfl Tryd.underlying30 (by kernel_rfl) w
      have ck := hSp.word k hlt
      rw [← hz] at ck
      have fk := hSp.froz k
      have l1 : IntKind.u32.wrap ((z : Int) + y) = (x : Int) := by rw [IntKind.wrap_u32, hx]; omega
      have Hr : Hid (AddRel w b [h0, h1, h2, h3, h4, h5, h6, h7] (block [h0, h1, h2, h3, h4, h5, h6, h7] L) L c (k + 1) (wr.setCell ⟨b, k, none⟩ (.int .u32 (x : Int))).drew) := Lib.hid (by
        have hsb := (hSp.setWord k x hlt).kept (Mod.drew (Mod.refl (fun _ => False) _)) (fun h => h)
        refine ⟨_, hsb, ?_, ?_, (hMp.setCell (p := ⟨b, k, none⟩) (fun _ => rfl) _).drew⟩
        · rw [take_set_succ _ _ _ (by omega), htk, List.take_succ_eq_append_getElem (by omega)]
          congr 2
          rw [hx, hz2, hy]
          simp only [Hbl.out, V.list, List.getElem_zipWith]
        · rw [List.drop_set_of_lt (by omega), ← List.drop_drop, hdk, List.drop_drop])
      have ia : (0 : Int) ≤ k := by omega
      have ib : (k : Int) < 8 := by omega
      clear hy hz hz2 hx htk hdk
      go_wp2_with fail
      go_still_tail 11, (by kernel_rfl)
      change wpList _ _ _ _ _ wr.drew
      go_wp2_with fail
      go_roundw
      case rel => exact ⟨k + 1, by omega, by go_num, Hr.out⟩
      case measure => simp [intOf]; omega
    · obtain rfl : k = 8 := by omega
      have hHp : Hp = block [h0, h1, h2, h3, h4, h5, h6, h7] L := by
        rw [List.take_of_length_le (by omega), List.take_of_length_le (by omega)] at htk; exact htk
      rw [hHp] at hSp
      go_wp2_with fail
      go_end0
      exact ⟨rfl, hSp, hMp⟩
end Go.Proofs.YtkejidmomnmdbaaDoor
