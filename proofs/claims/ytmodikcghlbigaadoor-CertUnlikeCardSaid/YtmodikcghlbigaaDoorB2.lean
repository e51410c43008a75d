/- Texts 2: what the laws lean on. -/
import Derived.Test.YtmodikcghlbigaaDoorB1
import Derived.Deep.DeepCutAuto
import Derived.Deep.CutBlock
import Derived.Deep.LoopGhost
import Derived.BigRegion
import Derived.Stop.BytesEq
import Derived.Orders
import Derived.Tactics
import Derived.Lib.Bytealg
import Derived.Deep.MidRow
import Derived.Test.YtmodikcghlbigaaDoorProg
import Derived.Deep.AppendLies
import Derived.RangeFuncBox
import Derived.OwnWalk
import Derived.Laws.Rows
namespace Go.Proofs.YtmodikcghlbigaaDoor
open Go.RowKit

/-- The rounds' words lie in the program's table. -/
def TabAt (w : World) : Prop := ∀ i, i < 64 → w.cell? ⟨0, i, none⟩ = some (.int .u32 (kTab.getD i 0))
theorem TabAt.lt {w : World} (h : TabAt w) : 0 < w.heap.size := World.block_lt_of_cell? _ _ (h 0 (by omega))
theorem TabAt.kept {w w' : World} {S : Nat → Prop} (h : TabAt w) (hm : Mod S w w') (h0 : ¬ S 0) : TabAt w' := fun i hi => (World.cell?_of_block (hm.block 0 h.lt h0)).trans (h i hi)

theorem right_q (x n : Nat) (w : World) (hx : x < 4294967296) (h1 : 1 ≤ n) (h2 : n ≤ 31) :
    Calls Tryd.prog 72 #[.int .u32 x, .int .i64 (n : Int)] w fun r w' => r = .returned (.int .u32 (rotr x n : Int)) ∧ w' = w :=
  (dright_any x n w hx h1 h2).mono fun _ _ ⟨a, b⟩ => ⟨a, b.symm⟩

theorem list8 {H : List Nat} (h : H.length = 8) : ∃ a b c d e f g i, H = [a, b, c, d, e, f, g, i] := by
  match H, h with
  | [a, b, c, d, e, f, g, i], _ => exact ⟨a, b, c, d, e, f, g, i, rfl⟩

/-- The words of a round, step by step, in the machine's spelling. -/
theorem t_facts (e f g h k w : Nat) (be : e < 4294967296) (bf : f < 4294967296) (bg : g < 4294967296) (_bh : h < 4294967296) (_bk : k < 4294967296) (_bw : w < 4294967296) :
    ∃ r1 z1 q1 ne q2 q3 y1 y2 y3 t : Nat, Hid (t = tOf ⟨0, 0, 0, 0, e, f, g, h⟩ k w) ∧
      bits BinOp.xor IntKind.u32 (rotr e 6 : Int) (rotr e 11 : Int) = (r1 : Int) ∧ bits BinOp.xor IntKind.u32 (r1 : Int) (rotr e 25 : Int) = (z1 : Int) ∧
      bits BinOp.and IntKind.u32 (e : Int) (f : Int) = (q1 : Int) ∧ bits BinOp.xor IntKind.u32 (if IntKind.u32.signed = true then -1 else IntKind.u32.max) (e : Int) = (ne : Int) ∧ bits BinOp.and IntKind.u32 (ne : Int) (g : Int) = (q2 : Int) ∧
      bits BinOp.xor IntKind.u32 (q1 : Int) (q2 : Int) = (q3 : Int) ∧
      ((h : Int) + z1) % 4294967296 = (y1 : Int) ∧ ((y1 : Int) + q3) % 4294967296 = (y2 : Int) ∧ ((y2 : Int) + k) % 4294967296 = (y3 : Int) ∧ ((y3 : Int) + w) % 4294967296 = (t : Int) := by
  have hne : bits BinOp.xor IntKind.u32 (if IntKind.u32.signed = true then -1 else IntKind.u32.max) (e : Int) = ((4294967295 - e : Nat) : Int) := by
    rw [if_neg (by decide), show IntKind.u32.max = ((4294967295 : Nat) : Int) from rfl, u32_xor_nat _ _ (by decide) be]
    have h := BitVec.toNat_not (x := BitVec.ofNat 32 e)
    have h2 : (~~~ BitVec.ofNat 32 e) = BitVec.allOnes 32 ^^^ BitVec.ofNat 32 e := by rw [BitVec.allOnes_xor]
    rw [h2, BitVec.toNat_xor, BitVec.toNat_allOnes, BitVec.toNat_ofNat, Nat.mod_eq_of_lt (by omega)] at h
    exact congrArg Int.ofNat h
  have h6 := rotr_lt e 6 be (by decide)
  have h11 := rotr_lt e 11 be (by decide)
  have h25 := rotr_lt e 25 be (by decide)
  refine ⟨rotr e 6 ^^^ rotr e 11, S1 e, e &&& f, 4294967295 - e, (4294967295 - e) &&& g, ch e f g, (h + S1 e) % 4294967296, ((h + S1 e) % 4294967296 + ch e f g) % 4294967296, (((h + S1 e) % 4294967296 + ch e f g) % 4294967296 + k) % 4294967296, _, rfl,
    u32_xor_nat _ _ h6 h11, u32_xor_nat _ _ (xor_lt _ _ h6 h11) h25, u32_and_nat _ _ be bf, hne, u32_and_nat _ _ (by omega) bg, u32_xor_nat _ _ (and_lt _ _ bf) (and_lt _ _ bg), by omega, by omega, by omega, ?_⟩
  simp only [tOf]
  omega
theorem u_facts (a b c : Nat) (ba : a < 4294967296) (bb : b < 4294967296) (bc : c < 4294967296) :
    ∃ r2 z2 m1 m2 m3 m4 m5 u : Nat, Hid (u = uOf ⟨a, b, c, 0, 0, 0, 0, 0⟩) ∧
      bits BinOp.xor IntKind.u32 (rotr a 2 : Int) (rotr a 13 : Int) = (r2 : Int) ∧ bits BinOp.xor IntKind.u32 (r2 : Int) (rotr a 22 : Int) = (z2 : Int) ∧
      bits BinOp.and IntKind.u32 (a : Int) (b : Int) = (m1 : Int) ∧ bits BinOp.and IntKind.u32 (a : Int) (c : Int) = (m2 : Int) ∧ bits BinOp.xor IntKind.u32 (m1 : Int) (m2 : Int) = (m3 : Int) ∧
      bits BinOp.and IntKind.u32 (b : Int) (c : Int) = (m4 : Int) ∧ bits BinOp.xor IntKind.u32 (m3 : Int) (m4 : Int) = (m5 : Int) ∧ ((z2 : Int) + m5) % 4294967296 = (u : Int) := by
  have h2 := rotr_lt a 2 ba (by decide)
  have h13 := rotr_lt a 13 ba (by decide)
  have h22 := rotr_lt a 22 ba (by decide)
  refine ⟨rotr a 2 ^^^ rotr a 13, S0 a, a &&& b, a &&& c, (a &&& b) ^^^ (a &&& c), b &&& c, maj a b c, _, rfl,
    u32_xor_nat _ _ h2 h13, u32_xor_nat _ _ (xor_lt _ _ h2 h13) h22, u32_and_nat _ _ ba bb, u32_and_nat _ _ ba bc, u32_xor_nat _ _ (and_lt _ _ bb) (and_lt _ _ bc), u32_and_nat _ _ bb bc, u32_xor_nat _ _ (xor_lt _ _ (and_lt _ _ bb) (and_lt _ _ bc)) (and_lt _ _ bc), ?_⟩
  simp only [uOf]
  omega

structure MixRel (w : World) (b : Nat) (H L : List Nat) (c N : Nat) (Z : List Nat) (wr : World) : Prop where
  s : SumAt wr b H L c
  r : RowAt .u32 119 wr N Z
  t : TabAt wr
  m : Mod (fun _ => False) w wr
theorem MixRel.drewN {w : World} {b : Nat} {H L : List Nat} {c N : Nat} {Z : List Nat} {wr : World} (h : MixRel w b H L c N Z wr) (n : Nat) : MixRel w b H L c N Z (wr.drewN n) :=
  have hm : Mod (fun _ => False) wr (wr.drewN n) := Mod.drewN (Mod.refl _ _) n
  ⟨h.s.kept hm (fun h => h), h.r.kept hm (fun h => h), h.t.kept hm (fun h => h), h.m.trans hm (fun _ _ h => h)⟩

/-- The words are added, one by one. -/
def AddRel (w : World) (b : Nat) (H B L : List Nat) (c k : Nat) (wr : World) : Prop := ∃ Hp, SumAt wr b Hp L c ∧ Hp.take k = B.take k ∧ Hp.drop k = H.drop k ∧ Mod (· = b) w wr

def VSlots (v : V) (s3 s4 s5 s6 s7 s8 s9 s10 : Value) : Prop :=
  s3 = .int .u32 v.a ∧ s4 = .int .u32 v.b ∧ s5 = .int .u32 v.c ∧ s6 = .int .u32 v.d ∧ s7 = .int .u32 v.e ∧ s8 = .int .u32 v.f ∧ s9 = .int .u32 v.g ∧ s10 = .int .u32 v.h

set_option maxHeartbeats 2000000 in
set_option maxRecDepth 100000 in
theorem mix_any (b : Nat) (H L : List Nat) (c : Nat) (w : World) (hS : SumAt w b H L c) (hL : ∀ x ∈ L, x < 256) (hH : ∀ x ∈ H, x < 4294967296) (hT : TabAt w) :
    Calls Tryd.prog 69 #[.pointer (some ⟨b, 0, none⟩)] w fun r w' => r = .returned (.tuple #[]) ∧ SumAt w' b (block H L) L c ∧ Mod (· = b) w w' := by
  go_enter Tryd.func69, Tryd.ntmps69
  go_wp2_with fail
  refine (schedule_any b H L c w hS hL).mono ?_
  rintro r w1 ⟨rfl, hM1⟩
  have hS1 := hS.kept hM1 (fun h => h)
  have hT1 := hT.kept hM1 (fun h => h)
  have hZl := schedTo_len L 64
  have hZb := schedTo_lt L hL 64
  obtain ⟨Z, hZ⟩ : ∃ Z, Z = schedTo L 64 := ⟨_, rfl⟩
  rw [← hZ] at hZl hZb ⊢
  have HZ := Lib.hid hZ
  clear hZ
  go_wp2_with (refine wpList_store_row rfl rfl 119 (.tmp 2) (.tmp 17) rfl w1.heap.size rfl 119 (nums .u32 (List.replicate 64 0)).toArray (nums .u32 Z).toArray rfl (heap_alloc_new _ _) ?s2 ?s3 ?s4 ?_)
  case s2 => simp [nums_len, hZl]
  case s3 => rw [List.size_toArray, nums_len, hZl]; kernel_rfl
  case s4 => simpa using nums_one .u32 Z
  generalize hW1 : (w1.alloc _).setRow w1.heap.size _ = W1
  have hW1' : Mod (fun _ => False) w1 W1 := by
    rw [← hW1]
    exact (((Mod.refl (fun _ => False) _).alloc _).setRow (g := w1.heap.size) _).drop_new (Nat.le_refl _)
  have hR1 : RowAt .u32 119 W1 w1.heap.size Z := by rw [← hW1]; exact setRow_heap _ _ _ _ _ _ (heap_alloc_new _ _)
  have hM2 : Mod (fun _ => False) w W1 := hM1.trans hW1' (fun _ _ h => h)
  have hS2 := hS1.kept hW1' (fun h => h)
  have hT2 := hT1.kept hW1' (fun h => h)
  have hbN : b < w1.heap.size := hS1.lt
  have hbw : b < w.heap.size := hS.lt
  clear hS1 hT1 hM1 hW1 hW1' hS hT
  obtain ⟨h0, h1, h2, h3, h4, h5, h6, h7, rfl⟩ := list8 hS2.hl
  have c0 := hS2.word 0 (by omega)
  have c1 := hS2.word 1 (by omega)
  have c2 := hS2.word 2 (by omega)
  have c3 := hS2.word 3 (by omega)
  have c4 := hS2.word 4 (by omega)
  have c5 := hS2.word 5 (by omega)
  have c6 := hS2.word 6 (by omega)
  have c7 := hS2.word 7 (by omega)
  simp only [List.getElem_cons_zero, List.getElem_cons_succ] at c0 c1 c2 c3 c4 c5 c6 c7
  go_quiet (fail)
  go_wp2_with fail
  go_quiet (fail)
  go_upto_block 0 with fail
  have hR2 := (MixRel.mk hS2 hR1 hT2 hM2).drewN
  generalize hW2 : (W1.drewN _).drewN _ = W2
  have hR3 : MixRel w b [h0, h1, h2, h3, h4, h5, h6, h7] L c w1.heap.size Z W2 := by rw [← hW2]; exact (hR2 _).drewN _
  clear hW2 hR2 hR1 hS2 hT2 hM2 c0 c1 c2 c3 c4 c5 c6 c7
  have hv0 : (toV [h0, h1, h2, h3, h4, h5, h6, h7]).ok := by
    have hh := hH
    simp only [List.mem_cons, List.not_mem_nil, or_false, forall_eq_or_imp, forall_eq] at hh
    obtain ⟨a, b, c, d, e, f, g, h⟩ := hh
    exact ⟨a, b, c, d, e, f, g, h⟩
  obtain ⟨v0, hv0e⟩ : ∃ v, v = toV [h0, h1, h2, h3, h4, h5, h6, h7] := ⟨_, rfl⟩
  rw [← hv0e] at hv0
  have Hv0 := Lib.hid hv0e
  go_cut [3, 4, 5, 6, 7, 8, 9, 10] (fun s3 s4 s5 s6 s7 s8 s9 s10 wx => VSlots (rounds v0 Z 64) s3 s4 s5 s6 s7 s8 s9 s10 ∧ MixRel w b [h0, h1, h2, h3, h4, h5, h6, h7] L c w1.heap.size Z wx)
  case first =>
    go_wp2_with fail
    go_loopw [3, 4, 5, 6, 7, 8, 9, 10, 58] (fun s3 s4 s5 s6 s7 s8 s9 s10 i wr => ∃ k : Nat, k ≤ 64 ∧ i = .int .i64 k ∧ VSlots (rounds v0 Z k) s3 s4 s5 s6 s7 s8 s9 s10 ∧ MixRel w b [h0, h1, h2, h3, h4, h5, h6, h7] L c w1.heap.size Z wr) (fun _ _ _ _ _ _ _ _ i _ => 64 - (intOf i).toNat)
    case atStart => exact ⟨0, by omega, rfl, by rw [hv0e]; exact ⟨rfl, rfl, rfl, rfl, rfl, rfl, rfl, rfl⟩, hR3⟩
    case round =>
      clear hv0e
      obtain ⟨k, hk, rfl, ⟨rfl, rfl, rfl, rfl, rfl, rfl, rfl, rfl⟩, hR4⟩ := hrel
      by_cases hlt : k < 64
      · as_aux_lemma =>
        have hvk := rounds_ok v0 hv0 Z k
        obtain ⟨wk, hwk⟩ : ∃ x, x = Z[k]'(by omega) := ⟨_, rfl⟩
        obtain ⟨kk, hkk⟩ : ∃ x, x = kTab.getD k 0 := ⟨_, rfl⟩
        have cw := hR4.r.cell k (by omega)
        have ck := hR4.t k hlt
        have bw : wk < 4294967296 := by rw [hwk]; exact hZb _ (List.getElem_mem _)
        have bk : kk < 4294967296 := by rw [hkk, getD_at _ _ (by rw [kTab_len]; omega)]; exact kTab_lt _ (List.getElem_mem _)
        rw [← hwk] at cw; rw [← hkk] at ck
        have hnext : rounds v0 Z (k + 1) = rnd (rounds v0 Z k) kk wk := by rw [rounds, ← hkk, getD_at _ _ (by omega), ← hwk]
        have Hnext := Lib.hid hnext
        clear hnext hwk hkk
        generalize rounds v0 Z k = v at hvk Hnext ⊢
        obtain ⟨a, bb, cc, d, e, f, g, h⟩ := v
        obtain ⟨ba, bb', bc, bd, be, bf, bg, bh⟩ := hvk
        simp only at ba bb' bc bd be bf bg bh
        have ia : (0 : Int) ≤ k := by omega
        have ib : (k : Int) < 64 := by omega
        -- the first sum
        obtain ⟨r1, z1, q1, ne, q2, q3, y1, y2, y3, t, Ht, f1, f2, f3, f4, f5, f6, g1, g2, g3, g4⟩ := t_facts e f g h kk wk be bf bg bh bk bw
        obtain ⟨r2, z2, m1, m2, m3, m4, m5, u, Hu, k1, k2, k3, k4, k5, k6, k7, k8⟩ := u_facts a bb cc ba bb' bc
        go_wp2_with fail
        go_quiet ((first | (go_at_call_of 72 (Value.int IntKind.i64 6); exact Calls.quiet_of_same (right_q e 6 _ be (by omega) (by omega))) | (go_at_call_of 72 (Value.int IntKind.i64 11); exact Calls.quiet_of_same (right_q e 11 _ be (by omega) (by omega))) | (go_at_call_of 72 (Value.int IntKind.i64 25); exact Calls.quiet_of_same (right_q e 25 _ be (by omega) (by omega)))))
        go_wp2_with (first | (go_at_call_of 72 (Value.int IntKind.i64 2); refine (dright_any a 2 _ ba (by omega) (by omega)).mono ?_; rintro _ _ ⟨rfl, rfl⟩) | (go_at_call_of 72 (Value.int IntKind.i64 13); refine (dright_any a 13 _ ba (by omega) (by omega)).mono ?_; rintro _ _ ⟨rfl, rfl⟩) | (go_at_call_of 72 (Value.int IntKind.i64 22); refine (dright_any a 22 _ ba (by omega) (by omega)).mono ?_; rintro _ _ ⟨rfl, rfl⟩))
        go_roundw
        case rel =>
          refine ⟨k + 1, by omega, by go_num, ?_, hR4.drewN nq⟩
          rw [Hnext.out]
          have e1 : t = tOf ⟨a, bb, cc, d, e, f, g, h⟩ kk wk := Ht.out
          have e2 : u = uOf ⟨a, bb, cc, d, e, f, g, h⟩ := Hu.out
          exact ⟨by rw [e1, e2]; exact val_int (by simp [rnd]), rfl, rfl, rfl, by rw [e1]; exact val_int (by simp [rnd]), rfl, rfl, rfl⟩
        case measure => simp [intOf]; omega
      · obtain rfl : k = 64 := by omega
        go_wp2_with fail
        go_meet
        exact ⟨⟨rfl, rfl, rfl, rfl, rfl, rfl, rfl, rfl⟩, hR4⟩
  case rest =>
  obtain ⟨⟨rfl, rfl, rfl, rfl, rfl, rfl, rfl, rfl⟩, hR4⟩ := hcut
  have hvk := rounds_ok v0 hv0 Z 64
  have hbl : block [h0, h1, h2, h3, h4, h5, h6, h7] L = List.zipWith (fun x y => (x + y) % 4294967296) [h0, h1, h2, h3, h4, h5, h6, h7] (rounds v0 Z 64).list := by rw [block, ← HZ.out, ← Hv0.out]
  generalize rounds v0 Z 64 = v at hvk hbl ⊢
  have Hbl := Lib.hid hbl
  clear hbl
  obtain ⟨a, bb, cc, d, e, f, g, h⟩ := v
  go_wp2_with fail
  have hlen : (block [h0, h1, h2, h3, h4, h5, h6, h7] L).length = 8 := block_len _ _ rfl
  obtain ⟨wo, rfl⟩ : ∃ wo : World, wo = wc := ⟨_, rfl⟩
  go_loopw [130] (fun i wr => ∃ k : Nat, k ≤ 8 ∧ i = .int .i64 k ∧ AddRel w b [h0, h1, h2, h3, h4, h5, h6, h7] (block [h0, h1, h2, h3, h4, h5, h6, h7] L) L c k wr) (fun i _ => 8 - (intOf i).toNat)
  case atStart => exact ⟨0, by omega, rfl, _, hR4.s, by rw [List.take_zero, List.take_zero], rfl, hR4.m.mono (fun _ _ h => h.elim)⟩
  case round =>
    obtain ⟨k, hk, rfl, Hp, hSp, htk, hdk, hMp⟩ := hrel
    clear hR4
    have hpl := hSp.hl
    by_cases hlt : k < 8
    · as_aux_lemma =>
      obtain ⟨y, hy⟩ : ∃ y, y = [a, bb, cc, d, e, f, g, h][k]'(by simp; omega) := ⟨_, rfl⟩
      obtain ⟨z, hz⟩ : ∃ z, z = Hp[k]'(by omega) := ⟨_, rfl⟩
      have hz2 : z = [h0, h1, h2, h3, h4, h5, h6, h7][k]'(by simp; omega) := by
        have e1 : (Hp.drop k)[0]? = ([h0, h1, h2, h3, h4, h5, h6, h7].drop k)[0]? := by rw [hdk]
        rw [List.getElem?_drop, List.getElem?_drop, Nat.add_zero, List.getElem?_eq_getElem (by omega), List.getElem?_eq_getElem (by simp; omega)] at e1
        rw [hz]; exact Option.some.inj e1
      obtain ⟨x, hx⟩ : ∃ x, x = (z + y) % 4294967296 := ⟨_, rfl⟩
      have hidx : ∀ w : World, (Instr.index 95 (.agg #[.int .u32 (a : Int), .int .u32 (bb : Int), .int .u32 (cc : Int), .int .u32 (d : Int), .int .u32 (e : Int), .int .u32 (f : Int), .int .u32 (g : Int), .int .u32 (h : Int)]) (.int .i64 (k : Int))).run Tryd.prog w = .ok (.int .u32 (y : Int)) w := fun w => by
        rw [hy]
        exact run_index_nums (P := Tryd.prog) 95 94 8 .u32 [a, bb, cc, d, e, f, g, h] k (by simp; omega) Tryd.underlying95 rfl Tryd.underlying94 (by kernel_rfl) w
      have ck := hSp.word k hlt
      rw [← hz] at ck
      have fk := hSp.froz k
      have l1 : IntKind.u32.wrap ((z : Int) + y) = (x : Int) := by rw [IntKind.wrap_u32, hx]; omega
      have Hr : Hid (AddRel w b [h0, h1, h2, h3, h4, h5, h6, h7] (block [h0, h1, h2, h3, h4, h5, h6, h7] L) L c (k + 1) (wr.setCell ⟨b, k, none⟩ (.int .u32 (x : Int))).drew) := Lib.hid (by
        have hsb := (hSp.setWord k x hlt).kept (Mod.drew (Mod.refl (fun _ => False) _)) (fun h => h)
        refine ⟨_, hsb, ?_, ?_, (hMp.setCell (p := ⟨b, k, none⟩) (fun _ => rfl) _).drew⟩
        · rw [take_set_succ _ _ _ (by omega), htk, List.take_succ_eq_append_getElem (by omega)]
          congr 2
          rw [hx, hz2, hy]
          simp only [Hbl.out, V.list, List.getElem_zipWith]
        · rw [List.drop_set_of_lt (by omega), ← List.drop_drop, hdk, List.drop_drop])
      have ia : (0 : Int) ≤ k := by omega
      have ib : (k : Int) < 8 := by omega
      clear hy hz hz2 hx htk hdk
      go_wp2_with fail
      go_still_tail 11, (by kernel_rfl)
      change wpList _ _ _ _ _ wr.drew
      go_wp2_with fail
      go_roundw
      case rel => exact ⟨k + 1, by omega, by go_num, Hr.out⟩
      case measure => simp [intOf]; omega
    · obtain rfl : k = 8 := by omega
      have hHp : Hp = block [h0, h1, h2, h3, h4, h5, h6, h7] L := by
        rw [List.take_of_length_le (by omega), List.take_of_length_le (by omega)] at htk; exact htk
      rw [hHp] at hSp
      go_wp2_with fail
      go_end0
      exact ⟨rfl, hSp, hMp⟩
end Go.Proofs.YtmodikcghlbigaaDoor

namespace Go.Proofs.YtmodikcghlbigaaDoor
open Go.RowKit

/-- Block b is a sum that holds the bytes m. -/
structure Holds (w : World) (b : Nat) (m : List Nat) : Prop where
  ex : ∃ L, SumAt w b (absorb m).1 L m.length ∧ L.take (m.length % 64) = (absorb m).2 ∧ ∀ x ∈ L, x < 256
theorem Holds.lt {w : World} {b : Nat} {m : List Nat} (h : Holds w b m) : b < w.heap.size := by obtain ⟨L, hS, _⟩ := h.ex; exact hS.lt
theorem Holds.kept {w w' : World} {b : Nat} {m : List Nat} {S : Nat → Prop} (h : Holds w b m) (hm : Mod S w w') (hb : ¬ S b) : Holds w' b m := by
  obtain ⟨L, hS, h2, h3⟩ := h.ex; exact ⟨L, hS.kept hm hb, h2, h3⟩

set_option maxHeartbeats 1000000 in
set_option maxRecDepth 100000 in
theorem dadd_any (b : Nat) (m : List Nat) (x : Nat) (w : World) (hS : Holds w b m) (hx : x < 256) (hm : m.length < 1099511627776) (hT : TabAt w) (hb : b ≠ 0) :
    Calls Tryd.prog 67 #[.pointer (some ⟨b, 0, none⟩), .int .u8 x] w fun r w' => r = .returned (.tuple #[]) ∧ Holds w' b (m ++ [x]) ∧ Mod (· = b) w w' := by
  obtain ⟨L, hS, hLt, hLb⟩ := hS.ex
  have hbuf := absorb_buf m
  obtain ⟨r, hr⟩ : ∃ r, r = m.length % 64 := ⟨_, rfl⟩
  rw [← hr] at hLt hbuf
  obtain ⟨n, hn⟩ : ∃ n, n = m.length := ⟨_, rfl⟩
  rw [← hn] at hS hm hr
  have e1 : (n : Int) % 64 = (r : Int) := by omega
  have hr64 : r < 64 := by omega
  have e64 := hS.ll
  have cc := hS.cnt
  have cb := hS.byte r hr64
  have f1 := hS.froz (8 + r)
  have f2 := hS.froz 72
  have hS1 : SumAt ((w.setCell ⟨b, 8 + r, none⟩ (.int .u8 (x : Int))).setCell ⟨b, 72, none⟩ (.int .u64 ((n : Int) + 1))).drew b (absorb m).1 (L.set r x) (n + 1) := ((hS.setByte r x hr64).setCnt (n + 1)).kept (Mod.drew (Mod.refl (fun _ => False) _)) (fun h => h)
  have hM1 : Mod (· = b) w ((w.setCell ⟨b, 8 + r, none⟩ (.int .u8 (x : Int))).setCell ⟨b, 72, none⟩ (.int .u64 ((n : Int) + 1))).drew := (((Mod.refl (· = b) _).setCell (p := ⟨b, 8 + r, none⟩) (fun _ => rfl) _).setCell (p := ⟨b, 72, none⟩) (fun _ => rfl) _).drew
  have hT1 := hT.kept hM1 (by omega)
  have hLb1 : ∀ y ∈ L.set r x, y < 256 := by
    intro y hy
    rcases List.mem_or_eq_of_mem_set hy with h | h
    · exact hLb y h
    · rw [h]; exact hx
  have hLt1 : (L.set r x).take (r + 1) = (absorb m).2 ++ [x] := by rw [take_set_succ _ _ _ (by omega), hLt]
  obtain ⟨y, hy⟩ : ∃ y, y = L[r]'(by omega) := ⟨_, rfl⟩
  rw [← hy] at cb
  have Hr := Lib.hid hr
  have Hn := Lib.hid hn
  have i0 : (0 : Int) ≤ r := by omega
  have i1 : (r : Int) < 64 := by omega
  have H1 := absorb_words m
  have Hlt := absorb_lt m
  have hsn := absorb_snoc m x
  have HS1 := Lib.hid hS1
  have HM1 := Lib.hid hM1
  have HL1 := Lib.hid hLt1
  have Hsn := Lib.hid hsn
  have Hbuf := Lib.hid hbuf
  clear hr hn hy hS1 hM1 hLt1 hsn hLt hS hbuf
  have n0 : (0 : Int) ≤ n := by omega
  have e1t : (n : Int).tmod 64 = (r : Int) := by rw [Int.tmod_eq_emod_of_nonneg n0]; exact e1
  have ne72 : ¬ 8 + r = 72 := by omega
  by_cases h63 : r = 63
  · have z : (((n : Int) + 1) % 64 == 0) = true := by rw [beq_iff_eq]; omega
    have H63 := Lib.hid h63
    clear h63 e1 hT
    go_enter Tryd.func67, Tryd.ntmps67
    go_wp2_with fail
    go_still_tail 10, (by kernel_rfl)
    change wpList _ _ _ _ _ w.drew
    go_wp2_with fail
    refine (mix_any b _ _ (n + 1) _ HS1.out hLb1 Hlt hT1).mono ?_
    rintro e w1 ⟨rfl, hS2, hM2⟩
    have hfin : Holds w1 b (m ++ [x]) ∧ Mod (· = b) w w1 := by
      refine ⟨⟨L.set r x, ?_, ?_, hLb1⟩, HM1.out.trans hM2 (fun _ _ h => h)⟩
      · rw [Hsn.out, absorb1, if_pos (by rw [Hbuf.out, H63.out]), List.length_append, List.length_singleton, ← Hn.out]
        have e : L.set r x = (absorb m).2 ++ [x] := by rw [← HL1.out, List.take_of_length_le (by simp; have := H63.out; omega)]
        rw [← e]; exact hS2
      · rw [Hsn.out, absorb1, if_pos (by rw [Hbuf.out, H63.out])]
        have : (m ++ [x]).length % 64 = 0 := by have h1 := H63.out; have h2 := Hr.out; have h3 := Hn.out; simp; omega
        rw [this]; rfl
    have Hf := Lib.hid hfin
    clear hfin hS2 hM2
    go_wp2_with fail
    go_end0
    exact ⟨rfl, Hf.out⟩
  · have z : (((n : Int) + 1) % 64 == 0) = false := by rw [beq_eq_false_iff_ne]; omega
    have H63 := Lib.hid h63
    clear h63 e1 hT
    have hfin : Holds ((w.setCell ⟨b, 8 + r, none⟩ (.int .u8 (x : Int))).setCell ⟨b, 72, none⟩ (.int .u64 ((n : Int) + 1))).drew b (m ++ [x]) := by
      refine ⟨L.set r x, ?_, ?_, hLb1⟩
      · rw [Hsn.out, absorb1, if_neg (by rw [Hbuf.out]; have := H63.out; omega), List.length_append, List.length_singleton, ← Hn.out]
        exact HS1.out
      · rw [Hsn.out, absorb1, if_neg (by rw [Hbuf.out]; have := H63.out; omega)]
        have : (m ++ [x]).length % 64 = r + 1 := by have h1 := H63.out; have h2 := Hr.out; have h3 := Hn.out; simp; omega
        rw [this]; exact HL1.out
    have Hf := Lib.hid hfin
    clear hfin
    go_enter Tryd.func67, Tryd.ntmps67
    go_wp2_with fail
    go_still_tail 10, (by kernel_rfl)
    change wpList _ _ _ _ _ w.drew
    go_wp2_with fail
    go_end0
    exact ⟨rfl, Hf.out, HM1.out⟩
end Go.Proofs.YtmodikcghlbigaaDoor

namespace Go.Proofs.YtmodikcghlbigaaDoor
open Go.RowKit

set_option maxHeartbeats 1000000 in
theorem dtext_any (b : Nat) (m : List Nat) (s : List UInt8) (w : World) (hS : Holds w b m) (hm : m.length + s.length ≤ 549755813888) (hT : TabAt w) (hb : b ≠ 0) :
    Calls Tryd.prog 52 #[.pointer (some ⟨b, 0, none⟩), .string ⟨s.toArray⟩] w fun r w' => r = .returned (.tuple #[]) ∧ Holds w' b (m ++ nats s) ∧ Mod (· = b) w w' := by
  go_enter Tryd.func52, Tryd.ntmps52
  go_wp2_with fail
  go_loopw [7] (fun i wr => ∃ k : Nat, k ≤ s.length ∧ i = .int .i64 k ∧ Holds wr b (m ++ nats (s.take k)) ∧ Mod (· = b) w wr) (fun i _ => s.length - (intOf i).toNat)
  case atStart => exact ⟨0, by omega, rfl, by simpa [nats] using hS, Mod.refl _ _⟩
  case round =>
    obtain ⟨k, hk, rfl, hR, hM⟩ := hrel
    by_cases hlt : k < s.length
    · obtain ⟨x, hxe⟩ : ∃ x, x = s[k] := ⟨_, rfl⟩
      have hg : ∀ h' : k < (ByteArray.mk s.toArray).size, (ByteArray.mk s.toArray)[k] = x := fun _ => by rw [hxe]; rfl
      have hx := (s[k]).toNat_lt
      have hn := nats_take_succ s k hlt
      rw [← hxe] at hx hn
      have Hn := Lib.hid hn
      have hl : (m ++ nats (s.take k)).length < 1099511627776 := by rw [List.length_append, nats_len, List.length_take]; omega
      have hTr := hT.kept hM (by omega)
      clear hn hxe
      go_wp2_with fail
      refine (dadd_any b _ x.toNat wr hR hx hl hTr hb).mono ?_
      rintro e w1 ⟨rfl, hR1, hM1⟩
      rw [List.append_assoc, ← Hn.out] at hR1
      go_wp2_with fail
      go_roundw
      case rel => exact ⟨k + 1, by omega, by go_num, hR1, hM.trans hM1 (fun _ _ h => h)⟩
      case measure => simp [intOf]; omega
    · obtain rfl : k = s.length := by omega
      go_wp2_with fail
      go_end0
      rw [List.take_length] at hR
      exact ⟨rfl, hR, hM⟩

set_option maxHeartbeats 1000000 in
theorem pad_any (b : Nat) (m : List Nat) (w : World) (hS : Holds w b m) (hm : m.length ≤ 549755813888) (hT : TabAt w) (hb : b ≠ 0) :
    Calls Tryd.prog 53 #[.pointer (some ⟨b, 0, none⟩)] w fun r w' => r = .returned (.tuple #[]) ∧ Holds w' b (padded m) ∧ Mod (· = b) w w' := by
  obtain ⟨L0, hS0, _⟩ := hS.ex
  have cc := hS0.cnt
  obtain ⟨n, hn⟩ : ∃ n, n = m.length := ⟨_, rfl⟩
  rw [← hn] at cc hm
  have n0 : (0 : Int) ≤ n := by omega
  have Hn := Lib.hid hn
  clear hS0 hn
  go_enter Tryd.func53, Tryd.ntmps53
  go_wp2_with fail
  refine (dadd_any b m 128 w hS (by decide) (by rw [← Hn.out]; omega) hT hb).mono ?_
  rintro e w1 ⟨rfl, hR1, hM1⟩
  clear hS cc
  go_wp2_with fail
  go_loopg [] (zeros n) (fun g wr => ∃ j, j + g = zeros n ∧ Holds wr b (m ++ [128] ++ List.replicate j 0) ∧ Mod (· = b) w wr)
  case atStart => exact ⟨0, by omega, by simpa using hR1, hM1⟩
  case round =>
    clear hR1 hM1
    obtain ⟨j, hj, hR, hM⟩ := hrel
    obtain ⟨L, hSr, _⟩ := hR.ex
    have cc := hSr.cnt
    have hlen : (m ++ [128] ++ List.replicate j 0).length = n + 1 + j := by simp [← Hn.out]; omega
    rw [hlen] at cc
    have hz : zeros n = (119 - n % 64) % 64 := rfl
    have hTr := hT.kept hM (by omega)
    obtain ⟨c, hc⟩ : ∃ c, c = n + 1 + j := ⟨_, rfl⟩
    rw [← hc] at cc
    have c0 : (0 : Int) ≤ c := by omega
    by_cases hlt : 0 < gk
    · have t : ((c : Int) % 64 != 56) = true := by rw [bne_iff_ne]; omega
      have Hj := Lib.hid hj
      have Hc := Lib.hid hc
      have Hz := Lib.hid hz
      have Hl := Lib.hid hlen
      have hjn : j < 64 := by omega
      clear hj hc hz hlen hSr
      go_wp2_with fail
      refine (dadd_any b _ 0 wr hR (by decide) (by rw [Hl.out]; omega) hTr hb).mono ?_
      rintro e w2 ⟨rfl, hR2, hM2⟩
      rw [List.append_assoc, ← List.replicate_succ'] at hR2
      go_wp2_with fail
      go_roundg (gk - 1)
      case measure => omega
      case rel => exact ⟨j + 1, by have := Hj.out; omega, hR2, hM.trans hM2 (fun _ _ h => h)⟩
    · have t : ((c : Int) % 64 != 56) = false := by rw [bne_eq_false_iff_eq]; omega
      have hjz : j = zeros n := by omega
      rw [hjz] at hR
      clear hj hc hz hlen hSr hjz
      go_wp2_with fail
      obtain ⟨wo, rfl⟩ : ∃ wo : World, wo = wr := ⟨_, rfl⟩
      go_loopw [19] (fun i wr => ∃ k : Nat, k ≤ 8 ∧ i = .int .i64 k ∧ Holds wr b (m ++ [128] ++ List.replicate (zeros n) 0 ++ lenBytes n k) ∧ Mod (· = b) w wr) (fun i _ => 8 - (intOf i).toNat)
      case atStart => exact ⟨0, by omega, rfl, by simpa [lenBytes] using hR, hM⟩
      case round =>
        clear hR hM hTr cc
        obtain ⟨k, hk, rfl, hR, hM⟩ := hrel
        have hTr := hT.kept hM (by omega)
        by_cases hlt : k < 8
        · have hl : (m ++ [128] ++ List.replicate (zeros n) 0 ++ lenBytes n k).length < 1099511627776 := by
            have : zeros n < 64 := Nat.mod_lt _ (by decide)
            simp [← Hn.out, lenBytes_len]; omega
          obtain ⟨s, hs⟩ : ∃ s : Nat, s = 7 - k := ⟨_, rfl⟩
          have e2 : (7 : Int) - k = (s : Int) := by omega
          obtain ⟨c, hcs⟩ : ∃ c : Nat, c = 8 * s := ⟨_, rfl⟩
          have e3 : 8 * (s : Int) = (c : Int) := by omega
          have hc64 : c ≤ 64 := by omega
          have e4 : IntKind.u8.wrap ((n : Int) * 8 / 2 ^ c) = ((n * 8 / 2 ^ c % 256 : Nat) : Int) := by
            rw [IntKind.wrap_u8, Int.natCast_emod, Int.natCast_ediv, Int.natCast_pow]; rfl
          have Hcs : Hid (c = 8 * (7 - k)) := Lib.hid (by omega)
          clear hs hcs
          go_wp2_with fail
          refine (dadd_any b _ (n * 8 / 2 ^ c % 256) wr hR (Nat.mod_lt _ (by decide)) hl hTr hb).mono ?_
          rintro e w2 ⟨rfl, hR2, hM2⟩
          rw [List.append_assoc _ _ [_], Hcs.out, ← lenBytes_succ] at hR2
          go_wp2_with fail
          go_roundw
          case rel => exact ⟨k + 1, by omega, by go_num, hR2, hM.trans hM2 (fun _ _ h => h)⟩
          case measure => simp [intOf]; omega
        · obtain rfl : k = 8 := by omega
          go_wp2_with fail
          go_end0
          exact ⟨rfl, by unfold padded; rw [← Hn.out]; exact hR, hM⟩

set_option maxHeartbeats 1000000 in
set_option maxRecDepth 100000 in
theorem begin_any (w : World) :
    Calls Tryd.prog 51 #[] w fun r w' => r = .returned (.agg (sumCells hTab (List.replicate 64 0) 0)) ∧ Mod (fun _ => False) w w' := by
  have hz : ∀ w : World, (zeroValue 99).run Tryd.prog w = .ok (.agg (sumCells (List.replicate 8 0) (List.replicate 64 0) 0)) w := fun _ => by kernel_rfl
  go_enter Tryd.func51, Tryd.ntmps51
  go_wp2_with (refine wpList_store_row rfl rfl 99 (.tmp 0) (.tmp 2) rfl w.heap.size rfl 99 (sumCells (List.replicate 8 0) (List.replicate 64 0) 0) (sumCells hTab (List.replicate 64 0) 0) rfl (heap_alloc_new _ _) rfl (by kernel_rfl) ?s4 ?_)
  case s4 =>
    intro v hv
    simp only [sumCells, List.mem_append, List.mem_singleton] at hv
    rcases hv with (h | h) | h
    · exact nums_one _ _ v h
    · exact nums_one _ _ v h
    · rw [h]; rfl
  generalize hW1 : (w.alloc _).setRow w.heap.size _ = W1
  have hM : Mod (fun _ => False) w W1 := by rw [← hW1]; exact (((Mod.refl (fun _ => False) _).alloc _).setRow (g := w.heap.size) _).drop_new (Nat.le_refl _)
  have hg : W1.heap[w.heap.size]? = some (.cells (sumCells hTab (List.replicate 64 0) 0) 99 (0, 0)) := by rw [← hW1]; exact setRow_heap _ _ _ _ _ _ (heap_alloc_new _ _)
  clear hW1
  go_wp2_with fail
  exact bodyPost_ret (v := .agg (sumCells hTab (List.replicate 64 0) 0)) (results_cell_row Tryd.results51 _ _ w.heap.size 99 _ (0, 0) _ rfl hg Tryd.underlying99 rfl (by kernel_rfl)) rfl ⟨rfl, hM⟩
end Go.Proofs.YtmodikcghlbigaaDoor

namespace Go.Proofs.YtmodikcghlbigaaDoor
open Go.RowKit

/-- v is a slice of the texts ss. -/
def StrsAt (w : World) (v : Value) (ss : List (List UInt8)) : Prop :=
  ∃ ao cap, v = .slice ao ss.length cap ∧ ∀ j (h : j < ss.length), ∃ bs off, ao = some ⟨bs, off, none⟩ ∧ bs < w.heap.size ∧ w.cell? ⟨bs, off + j, none⟩ = some (.string ⟨(ss[j]).toArray⟩)

def OutRel (w : World) (M : Nat) (H : List Nat) (k : Nat) : Prop := ∃ A, RowAt .u8 39 w M A ∧ A.length = 32 ∧ A.take k = outTo H k

theorem holds_nil {w : World} {b : Nat} (h : w.heap[b]? = some (.cells (sumCells hTab (List.replicate 64 0) 0) 99 (0, 0))) : Holds w b [] :=
  ⟨List.replicate 64 0, ⟨h, rfl, by simp⟩, rfl, fun x hx => by rw [List.eq_of_mem_replicate hx]; decide⟩

theorem flat_take_succ (ss : List (List UInt8)) (k : Nat) (h : k < ss.length) : (ss.take (k + 1)).flatten = (ss.take k).flatten ++ ss[k] := by
  rw [List.take_succ_eq_append_getElem h, List.flatten_append, List.flatten_cons, List.flatten_nil, List.append_nil]
theorem flat_take_len (ss : List (List UInt8)) (k : Nat) : (ss.take k).flatten.length ≤ ss.flatten.length := by
  have h : ss.flatten = (ss.take k).flatten ++ (ss.drop k).flatten := by rw [← List.flatten_append, List.take_append_drop]
  rw [h]; simp

set_option maxHeartbeats 1000000 in
set_option maxRecDepth 100000 in
theorem dof_any (v : Value) (ss : List (List UInt8)) (w : World) (hv : StrsAt w v ss) (hl : ss.flatten.length ≤ 274877906944) (hn : (ss.length : Int) ≤ 1099511627776) (hT : TabAt w) :
    Calls Tryd.prog 35 #[v] w fun r w' => r = .returned (.agg (nums .u8 (sha (nats ss.flatten))).toArray) ∧ Mod (fun _ => False) w w' := by
  obtain ⟨ao, cap, rfl, hcell⟩ := hv
  have Hcell := Lib.hid hcell
  clear hcell
  have hz : ∀ w : World, (zeroValue 99).run Tryd.prog w = .ok (.agg (sumCells (List.replicate 8 0) (List.replicate 64 0) 0)) w := fun _ => by kernel_rfl
  have hz2 : ∀ w : World, (zeroValue 39).run Tryd.prog w = .ok (.agg (nums .u8 (List.replicate 32 0)).toArray) w := fun _ => by kernel_rfl
  have hw0 := hT.lt
  go_enter Tryd.func35, Tryd.ntmps35
  go_wp2_with fail
  generalize hW1 : w.alloc _ = W1
  have hR1 : RowAt .u8 39 W1 w.heap.size (List.replicate 32 0) := by rw [← hW1]; exact heap_alloc_new _ _
  have hM1 : Mod (fun _ => False) w W1 := by rw [← hW1]; exact (Mod.refl _ _).alloc _
  have hs1 : w.heap.size < W1.heap.size := hR1.lt
  clear hW1
  refine (begin_any W1).mono ?_
  rintro r w2 ⟨rfl, hM2⟩
  have hR2 := hR1.kept hM2 (fun h => h)
  have hs2 := hM2.size
  have hM2' := hM1.trans hM2 (fun _ _ h => h)
  clear hR1 hM1 hM2
  go_wp2_with (refine wpList_store_row rfl rfl 99 (.tmp 3) (.tmp 8) rfl w2.heap.size rfl 99 (sumCells (List.replicate 8 0) (List.replicate 64 0) 0) (sumCells hTab (List.replicate 64 0) 0) rfl (heap_alloc_new _ _) rfl (by kernel_rfl) ?s4 ?_)
  case s4 =>
    intro v hv
    simp only [sumCells, List.mem_append, List.mem_singleton] at hv
    rcases hv with (h | h) | h
    · exact nums_one _ _ v h
    · exact nums_one _ _ v h
    · rw [h]; rfl
  generalize hW3 : (w2.alloc _).setRow w2.heap.size _ = W3
  have hM3 : Mod (fun _ => False) w2 W3 := by rw [← hW3]; exact (((Mod.refl (fun _ => False) _).alloc _).setRow (g := w2.heap.size) _).drop_new (Nat.le_refl _)
  have hH3 : Holds W3 w2.heap.size [] := holds_nil (by rw [← hW3]; exact setRow_heap _ _ _ _ _ _ (heap_alloc_new _ _))
  have hR3 := hR2.kept hM3 (fun h => h)
  have hM3' := hM2'.trans hM3 (fun _ _ h => h)
  clear hW3 hM3 hR2 hM2'
  obtain ⟨B, hB⟩ : ∃ B, B = w2.heap.size := ⟨_, rfl⟩
  rw [← hB] at hH3 hs2 ⊢
  have hBw : w.heap.size < B := by omega
  clear hB hs2 hs1
  go_loopw [11] (fun i wr => ∃ k : Nat, k ≤ ss.length ∧ i = .int .i64 k ∧ Holds wr B (nats (ss.take k).flatten) ∧ RowAt .u8 39 wr w.heap.size (List.replicate 32 0) ∧ Mod (fun _ => False) w wr) (fun i _ => ss.length - (intOf i).toNat)
  case atStart => exact ⟨0, by omega, rfl, hH3, hR3, hM3'⟩
  case round =>
    clear hH3 hR3 hM3'
    obtain ⟨k, hk, rfl, hH, hR, hM⟩ := hrel
    by_cases hlt : k < ss.length
    · obtain ⟨bs, off, rfl, hbs, hc⟩ := Hcell.out k hlt
      have hcr : wr.cell? ⟨bs, off + k, none⟩ = _ := (World.cell?_of_block (hM.block bs hbs (fun h => h))).trans hc
      have hfl := flat_take_succ ss k hlt
      have hle := flat_take_len ss (k + 1)
      obtain ⟨s, hs⟩ : ∃ s, s = ss[k] := ⟨_, rfl⟩
      rw [← hs] at hfl hcr
      rw [hfl] at hle
      have hTr := hT.kept hM (fun h => h)
      have Hfl := Lib.hid hfl
      have hlen : (nats (ss.take k).flatten).length + s.length ≤ 549755813888 := by rw [nats_len]; simp only [List.length_append] at hle; omega
      clear hc hfl hle hs
      go_wp2_with fail
      refine (dtext_any B _ s wr hH hlen hTr (by omega)).mono ?_
      rintro e w4 ⟨rfl, hH4, hM4⟩
      rw [← nats_app, ← Hfl.out] at hH4
      have hR4 := hR.kept hM4 (by omega)
      have hM5 := hM.trans hM4 (T := (· = B)) (by intro i hi h; omega)
      go_wp2_with fail
      go_roundw
      case rel => exact ⟨k + 1, by omega, by go_num, hH4, hR4, hM5⟩
      case measure => simp [intOf]; omega
    · obtain rfl : k = ss.length := by omega
      rw [List.take_length] at hH
      have hlen : (nats ss.flatten).length ≤ 549755813888 := by rw [nats_len]; omega
      have hTr := hT.kept hM (fun h => h)
      go_wp2_with fail
      refine (pad_any B _ wr hH hlen hTr (by omega)).mono ?_
      rintro e w4 ⟨rfl, hH4, hM4⟩
      have hR4 := hR.kept hM4 (by omega)
      have hM5 := hM.trans hM4 (T := (· = B)) (by intro i hi h; omega)
      clear hH hR hM hTr hlen hM4
      obtain ⟨L, hS4, _⟩ := hH4.ex
      have hsz4 := hM5.size
      obtain ⟨HH, hHH⟩ : ∃ HH, HH = (absorb (padded (nats ss.flatten))).1 := ⟨_, rfl⟩
      rw [← hHH] at hS4
      have hsha : sha (nats ss.flatten) = outTo HH 32 := by rw [hHH]; rfl
      have Hsha := Lib.hid hsha
      clear hH4 hHH hsha Hcell
      go_wp2_with fail
      generalize hW5 : w4.alloc _ = W5
      have hM6 : Mod (fun _ => False) w4 W5 := by rw [← hW5]; exact (Mod.refl _ _).alloc _
      have hR6 : RowAt .u8 39 W5 w4.heap.size (List.replicate 32 0) := by rw [← hW5]; exact heap_alloc_new _ _
      have hS6 := hS4.kept hM6 (fun h => h)
      have hR7 := hR4.kept hM6 (fun h => h)
      have hM7 := hM5.trans hM6 (fun _ _ h => h)
      have hBlt := hS4.lt
      have hNlt := hR4.lt
      obtain ⟨M, hM⟩ : ∃ M, M = w4.heap.size := ⟨_, rfl⟩
      rw [← hM] at hR6 hBlt hNlt ⊢
      have hMw : w.heap.size ≤ M := by omega
      clear hW5 hM6 hS4 hR4 hM5 hM hsz4
      obtain ⟨wo, rfl⟩ : ∃ wo : World, wo = wr := ⟨_, rfl⟩
      go_loopw [19] (fun i wr => ∃ k : Nat, k ≤ 32 ∧ i = .int .i64 k ∧ SumAt wr B HH L (padded (nats ss.flatten)).length ∧ RowAt .u8 39 wr w.heap.size (List.replicate 32 0) ∧ Mod (fun _ => False) w wr ∧ OutRel wr M HH k) (fun i _ => 32 - (intOf i).toNat)
      case atStart => exact ⟨0, by omega, rfl, hS6, hR7, hM7, _, hR6, by simp, by rw [List.take_zero]; rfl⟩
      case round =>
        clear hS6 hR7 hM7 hR6
        obtain ⟨k, hk, rfl, hS, hR, hM, A, hRA, hA, hAt⟩ := hrel
        by_cases hlt : k < 32
        · have hhl := hS.hl
          obtain ⟨h, hh⟩ : ∃ h, h = HH[k / 4]'(by omega) := ⟨_, rfl⟩
          have ch := hS.word (k / 4) (by omega)
          rw [← hh] at ch
          obtain ⟨c, hc⟩ : ∃ c : Nat, c = 8 * (3 - k % 4) := ⟨_, rfl⟩
          have a1 : (0 : Int) ≤ (k : Int) / 4 := by omega
          have a2 : (k : Int) / 4 < 8 := by omega
          have a3 : ((k : Int) / 4).toNat = k / 4 := by omega
          have a4 : 8 * (3 - (k : Int) % 4) = (c : Int) := by omega
          have hc64 : c ≤ 64 := by omega
          have a5 : IntKind.u8.wrap ((h : Int) / 2 ^ c) = ((h / 2 ^ c % 256 : Nat) : Int) := by
            rw [IntKind.wrap_u8, Int.natCast_emod, Int.natCast_ediv, Int.natCast_pow]; rfl
          have ck := hRA.cell k (by omega)
          have fk := hRA.froz k
          obtain ⟨y, hy⟩ : ∃ y, y = A[k]'(by omega) := ⟨_, rfl⟩
          rw [← hy] at ck
          have i0 : (0 : Int) ≤ k := by omega
          have i1 : (k : Int) < 32 := by omega
          have Hr : Hid (SumAt (wr.setCell ⟨M, k, none⟩ (.int .u8 ((h / 2 ^ c % 256 : Nat) : Int))) B HH L (padded (nats ss.flatten)).length ∧ RowAt .u8 39 (wr.setCell ⟨M, k, none⟩ (.int .u8 ((h / 2 ^ c % 256 : Nat) : Int))) w.heap.size (List.replicate 32 0) ∧
              Mod (fun _ => False) w (wr.setCell ⟨M, k, none⟩ (.int .u8 ((h / 2 ^ c % 256 : Nat) : Int))) ∧ OutRel (wr.setCell ⟨M, k, none⟩ (.int .u8 ((h / 2 ^ c % 256 : Nat) : Int))) M HH (k + 1)) := Lib.hid (by
            have hm : Mod (· = M) wr (wr.setCell ⟨M, k, none⟩ (.int .u8 ((h / 2 ^ c % 256 : Nat) : Int))) := (Mod.refl (· = M) _).setCell (p := ⟨M, k, none⟩) (fun _ => rfl) _
            refine ⟨hS.kept hm (by omega), hR.kept hm (by omega), hM.trans hm (by intro i hi h; omega), _, hRA.set k _, by simpa using hA, ?_⟩
            rw [take_set_succ _ _ _ (by omega), hAt, outTo_succ, getD_at _ _ (by omega), ← hh, ← hc])
          clear hh hc hy hS hR hM hRA hAt
          go_wp2_with fail
          go_roundw
          case rel => exact ⟨k + 1, by omega, by go_num, Hr.out.1, Hr.out.2.1, Hr.out.2.2.1, Hr.out.2.2.2⟩
          case measure => simp [intOf]; omega
        · obtain rfl : k = 32 := by omega
          have hAe : A = sha (nats ss.flatten) := by rw [Hsha.out, ← hAt, List.take_of_length_le (by omega)]
          obtain ⟨Z, hZ⟩ : ∃ Z, Z = sha (nats ss.flatten) := ⟨_, rfl⟩
          rw [hAe, ← hZ] at hRA hA
          have h1 := nums_one .u8 Z
          have hM2 : Mod (fun _ => False) w (wr.setRow w.heap.size (nums .u8 Z).toArray) := (hM.setRow (g := w.heap.size) _).drop_new (Nat.le_refl _)
          have hg2 := setRow_heap wr w.heap.size _ (nums .u8 Z).toArray _ _ hR
          have HZ := Lib.hid hZ
          have HM2 := Lib.hid hM2
          have Hg2 := Lib.hid hg2
          clear hZ hM2 hg2 hAt hAe hS hM
          go_wp2_with (first | (refine wpList_load_row rfl 39 (.tmp 6) rfl M rfl 39 (nums .u8 Z).toArray (0, 0) _ hRA Tryd.underlying39 rfl ?s1 ?_) | (refine wpList_store_row rfl rfl 39 (.tmp 2) (.tmp 36) rfl w.heap.size rfl 39 (nums .u8 (List.replicate 32 0)).toArray (nums .u8 Z).toArray rfl hR ?s2 ?s3 ?s4 ?_))
          case s1 => rw [List.size_toArray, nums_len, hA]; kernel_rfl
          case s2 => simp [nums_len, hA]
          case s3 => rw [List.size_toArray, nums_len, hA]; kernel_rfl
          case s4 => simpa using h1
          refine bodyPost_ret (v := .agg (nums .u8 Z).toArray) (results_cell_row Tryd.results35 _ _ w.heap.size 39 (nums .u8 Z).toArray (0, 0) _ rfl Hg2.out Tryd.underlying39 rfl ?_) rfl ⟨by rw [← HZ.out], HM2.out⟩
          rw [List.size_toArray, nums_len, hA]; kernel_rfl
end Go.Proofs.YtmodikcghlbigaaDoor

namespace Go.Proofs.YtmodikcghlbigaaDoor
open Go.RowKit

/-- The letter of a digit. -/
def hexd (n : Nat) : Nat := if n < 10 then 48 + n else 87 + n
def hexs (A : List Nat) : List Nat := A.flatMap fun x => [hexd (x / 16), hexd (x % 16)]
theorem hexs_len (A : List Nat) : (hexs A).length = 2 * A.length := by
  induction A with
  | nil => rfl
  | cons x l ih =>
    have h : hexs (x :: l) = [hexd (x / 16), hexd (x % 16)] ++ hexs l := rfl
    rw [h, List.length_append, ih]; simp; omega
theorem hexs_snoc (A : List Nat) (x : Nat) : hexs (A ++ [x]) = hexs A ++ [hexd (x / 16), hexd (x % 16)] := by simp [hexs]
theorem hexd_lt (n : Nat) (h : n < 16) : hexd n < 256 := by unfold hexd; split <;> omega

def bytesOf (A : List Nat) : ByteArray := ⟨(A.map UInt8.ofNat).toArray⟩

theorem digits_at (n : Nat) (h : n < 16) (w : World) :
    (Instr.index 9 (.string ⟨#[48, 49, 50, 51, 52, 53, 54, 55, 56, 57, 97, 98, 99, 100, 101, 102]⟩) (.int .u8 (n : Int))).run Tryd.prog w = .ok (.int .u8 (hexd n : Int)) w := by
  have hn : n = 0 ∨ n = 1 ∨ n = 2 ∨ n = 3 ∨ n = 4 ∨ n = 5 ∨ n = 6 ∨ n = 7 ∨ n = 8 ∨ n = 9 ∨ n = 10 ∨ n = 11 ∨ n = 12 ∨ n = 13 ∨ n = 14 ∨ n = 15 := by omega
  rcases hn with rfl | rfl | rfl | rfl | rfl | rfl | rfl | rfl | rfl | rfl | rfl | rfl | rfl | rfl | rfl | rfl <;> (refine Eq.trans ?_ rfl; kernel_rfl)

theorem low4 (x : Nat) (h : x < 256) : bits BinOp.and IntKind.u8 (x : Int) 15 = ((x % 16 : Nat) : Int) := by
  rw [show (15 : Int) = ((15 : Nat) : Int) from rfl, u8_and_nat _ _ h (by omega), Nat.and_two_pow_sub_one_eq_mod _ 4]

theorem take_set_two (T : List Nat) (k x y : Nat) (h : k + 1 < T.length) : ((T.set k x).set (k + 1) y).take (k + 2) = T.take k ++ [x, y] := by
  rw [show k + 2 = (k + 1) + 1 from rfl, take_set_succ _ _ _ (by simpa using h), take_set_succ _ _ _ (by omega)]; simp

def HexRel (M : Nat) (A : List Nat) (k : Nat) (wr : World) : Prop :=
  ∃ T, RowAt .u8 96 wr M T ∧ T.length = 64 ∧ T.take (2 * k) = hexs (A.take k)

end Go.Proofs.YtmodikcghlbigaaDoor

namespace Go.Proofs.YtmodikcghlbigaaDoor
open Go.RowKit

theorem outTo_lt (H : List Nat) (k : Nat) : ∀ x ∈ outTo H k, x < 256 := by
  intro x hx
  obtain ⟨i, _, rfl⟩ := List.mem_map.1 hx
  exact Nat.mod_lt _ (by decide)
theorem sha_lt (m : List Nat) : ∀ x ∈ sha m, x < 256 := outTo_lt _ _

theorem bytesOf_size (A : List Nat) : (bytesOf A).size = A.length := by simp [bytesOf, ByteArray.size]

end Go.Proofs.YtmodikcghlbigaaDoor

namespace Go.Proofs.YtmodikcghlbigaaDoor
open Go.RowKit

/-- The digest's bytes. -/
def shaB (s : List UInt8) : List UInt8 := (sha (nats s)).map UInt8.ofNat
theorem shaB_len (s : List UInt8) : (shaB s).length = 32 := by simp [shaB, sha_len]
theorem nums_vals (A : List Nat) (h : ∀ x ∈ A, x < 256) : nums .u8 A = vals (A.map UInt8.ofNat) := by
  simp only [nums, vals, List.map_map]
  refine List.map_congr_left fun x hx => ?_
  simp only [Function.comp_def]
  rw [UInt8.toNat_ofNat_of_lt' (h x hx)]
theorem vals_nums (s : List UInt8) : vals s = nums .u8 (nats s) := by simp [vals, nums, nats]
theorem nats_lt (s : List UInt8) : ∀ x ∈ nats s, x < 256 := by intro x hx; obtain ⟨c, _, rfl⟩ := List.mem_map.1 hx; exact c.toNat_lt
theorem nats_ofNat (s : List UInt8) : (nats s).map UInt8.ofNat = s := by simp [nats, Function.comp_def]
theorem sha_vals (s : List UInt8) : nums .u8 (sha (nats s)) = vals (shaB s) := nums_vals _ (sha_lt _)
theorem sha_bytes (s : List UInt8) : bytesOf (sha (nats s)) = ⟨(shaB s).toArray⟩ := rfl

theorem StrsAt.old {w w' : World} {v : Value} {ss : List (List UInt8)} (h : StrsAt w v ss) (hb : Below w.heap.size w w') : StrsAt w' v ss := by
  obtain ⟨ao, cap, e, hc⟩ := h
  refine ⟨ao, cap, e, fun j hj => ?_⟩
  obtain ⟨bs, off, e1, hlt, c⟩ := hc j hj
  exact ⟨bs, off, e1, Nat.lt_of_lt_of_le hlt hb.size, (World.cell?_of_block (hb.block bs hlt)).trans c⟩
/-- Texts that were just laid side by side. -/
theorem StrsAt.made (w : World) (T : TypeId) (ss : List (List UInt8)) : StrsAt (w.alloc (.cells (ss.map fun s => Value.string ⟨s.toArray⟩).toArray T)) (.slice (some ⟨w.heap.size, 0, none⟩) ss.length ss.length) ss := by
  refine ⟨_, _, rfl, fun j hj => ⟨w.heap.size, 0, rfl, by simp, ?_⟩⟩
  rw [cell_of_row _ w.heap.size _ _ T (0, 0) (heap_alloc_new _ _)]
  simp [hj]
theorem TabAt.old {w w' : World} (h : TabAt w) (hb : Below w.heap.size w w') : TabAt w' := h.kept (Mod.of_below hb) (by have := h.lt; omega)

/-- Block g is a name. -/
def IdAt (w : World) (g : Nat) (s : List UInt8) : Prop := s.length = 32 ∧ w.heap[g]? = some (.cells (vals s).toArray 39 (0, 0))
theorem IdAt.lt {w : World} {g : Nat} {s : List UInt8} (h : IdAt w g s) : g < w.heap.size := (Array.getElem?_eq_some_iff.1 h.2).1
theorem IdAt.old {w w' : World} {g : Nat} {s : List UInt8} (h : IdAt w g s) (hb : Below w.heap.size w w') : IdAt w' g s := ⟨h.1, (hb.block g h.lt).trans h.2⟩
theorem vals_one (s : List UInt8) : ∀ v ∈ vals s, v.oneCell' = true := by
  intro v hv; obtain ⟨x, _, rfl⟩ := List.mem_map.1 hv; rfl
theorem vals_get (s : List UInt8) (i : Nat) (h : i < s.length) : (vals s)[i]? = some (.int .u8 (s[i].toNat : Int)) := by simp [vals, h]
theorem IdAt.cell {w : World} {g : Nat} {s : List UInt8} (h : IdAt w g s) (i : Nat) (hi : i < s.length) : w.cell? ⟨g, i, none⟩ = some (.int .u8 (s[i].toNat : Int)) := by
  rw [cell_of_row w g i _ 39 (0, 0) h.2]; simpa using vals_get s i hi
/-- A name's bytes as a text. -/
theorem IdAt.text {w : World} {g : Nat} {s : List UInt8} (h : IdAt w g s) : (convert 43 9 (.slice (some ⟨g, 0, none⟩) 32 32)).run Tryd.prog w = .ok (.string ⟨s.toArray⟩) w := by
  have hl := h.1
  rw [run_convert_bytes_arg w 43 5 Tryd.underlying43 Tryd.underlying5 g 0 32 32 (s.map fun x => (x.toNat : Int)) (by simpa using hl) (fun i hi => by
    rw [Nat.zero_add, h.cell i (by omega)]
    simp [List.getD, hl, hi]) 9 Tryd.underlying9]
  simp [strOfNums, Function.comp_def]
/-- Nought's name. -/
def zid : List UInt8 := List.replicate 32 0
theorem zid_run (w : World) : (zeroValue 39).run Tryd.prog w = .ok (.agg (vals zid).toArray) w := by kernel_rfl
theorem zid_len : (vals zid).toArray.size = 32 := rfl
theorem id_size {s : List UInt8} (h : s.length = 32) : (vals s).toArray.size = 32 := by simp [vals_len, h]
theorem id_info {s : List UInt8} (h : s.length = 32) : (Tryd.prog.info? 39).map (·.size) = some (vals s).toArray.size := by rw [id_size h]; kernel_rfl
theorem id_one (s : List UInt8) : ∀ v ∈ (vals s).toArray.toList, v.oneCell' = true := by simpa using vals_one s
/-- A new variable that a name is stored into. -/
theorem IdAt.stored {w : World} {s : List UInt8} {A : Array Value} (h : s.length = 32) : IdAt ((w.alloc (.cells A 39 (0, 0))).setRow w.heap.size (vals s).toArray) w.heap.size s :=
  ⟨h, setRow_heap _ _ _ _ _ _ (heap_alloc_new _ _)⟩
theorem stored_below {w : World} {A C : Array Value} {T : TypeId} : Below w.heap.size w ((w.alloc (.cells A T (0, 0))).setRow w.heap.size C) :=
  ((((Mod.refl (fun _ => False) w).alloc (.cells A T (0, 0))).setRow (g := w.heap.size) C).drop_new (Nat.le_refl _)).to_below (Nat.le_refl _) (fun _ _ h => h)
/-- Two names are held against each other. -/
theorem id_eql (x y : List UInt8) (hx : x.length = 32) (hy : y.length = 32) (w : World) : (binOp .eql 39 (.agg (vals x).toArray) (.agg (vals y).toArray)).run Tryd.prog w = .ok (.bool (x == y)) w :=
  run_eql_bytes w 39 5 32 Tryd.underlying39 Tryd.underlying5 Tryd.sizeOf5 x y hx hy

theorem dofB (v : Value) (ss : List (List UInt8)) (w : World) (hv : StrsAt w v ss) (hl : ss.flatten.length ≤ 274877906944) (hn : (ss.length : Int) ≤ 1099511627776) (hT : TabAt w) :
    Calls Tryd.prog 35 #[v] w fun r w' => r = .returned (.agg (vals (shaB ss.flatten)).toArray) ∧ Below w.heap.size w w' :=
  (dof_any v ss w hv hl hn hT).mono fun _ _ ⟨h1, h2⟩ => ⟨by rw [h1, sha_vals], h2.to_below (Nat.le_refl _) (fun _ _ h => h)⟩

end Go.Proofs.YtmodikcghlbigaaDoor

namespace Go.Proofs.YtmodikcghlbigaaDoor
open Go.RowKit

/-- The name that begins with s. -/
def idL (s : List UInt8) : List UInt8 := (s ++ zid).take 32
theorem idL_len (s : List UInt8) : (idL s).length = 32 := by simp [idL, zid]
theorem idL_self (s : List UInt8) (h : s.length = 32) : idL s = s := by unfold idL; rw [← h, List.take_left]
theorem idL_cut (s : List UInt8) : s.take 32 ++ zid.drop (min s.length 32) = idL s := by
  unfold idL zid
  rw [List.take_append, List.take_replicate, List.drop_replicate]
  congr 1
  congr 1
  omega
theorem wpList_copyS {P : Program} {w : World} {ops : Array Oper} {rest : List Oper} {o : Oper} {a : Act} {Q : Exit → Act → World → Prop} (hgd : o.guard = none) (d s : Operand) (t t' : TypeId)
    (ho : o.op = .call { callee := .builtin .copy, args := #[d, s], argTypes := #[t, t'] }) (v u : Value) (hd : a.eval d = v) (hs : a.eval s = u) {v' : Value} {w' : World}
    (hr : (Builtin.copy_ #[t, t'] o.type #[v, u]).run P w = .ok v' w') (h : wpList P ops Q rest (a.put o.dst v') w') : wpList P ops Q (o :: rest) a w := by
  refine wpList_plain hgd fun K hK => ?_
  unfold Oper.wp
  simp [execOp, ho, resolve, invoke, builtin, hd, hs, hr, Result.andThen]
  exact hK _ _ h
set_option maxRecDepth 20000 in
/-- A text is copied into a name. -/
theorem run_copy_text (s : List UInt8) (g : Nat) (ty : TypeId) (w : World) (h : IdAt w g zid) :
    (Builtin.copy_ #[43, 9] ty #[.slice (some ⟨g, 0, none⟩) 32 32, .string ⟨s.toArray⟩]).run Tryd.prog w = .ok (goInt ((min s.length 32 : Nat) : Int)) (w.setRow g (vals (idL s)).toArray) := by
  have hst := run_storeCells_at Tryd.prog g 0 39 (vals (s.take 32)) 0 (vals zid).toArray w h.2 (by simp [vals_len, zid]; omega) (vals_one _)
  have hsz : (sizeOf 5).run Tryd.prog w = .ok 1 w := Tryd.sizeOf5 w
  have hl : (ByteArray.mk s.toArray).size = s.length := rfl
  have hf : (Builtin.firstCells 1 (min s.length 32) (.string ⟨s.toArray⟩)).run Tryd.prog w = .ok (vals (s.take 32)).toArray w := by
    unfold Builtin.firstCells
    rw [Sem.run_pure, ByteArray.extract_mk]
    congr 1
    apply Array.ext'
    simp [vals, List.take_take]
    omega
  have he : ((vals zid).toArray.toList.take (0 + 0) ++ vals (s.take 32) ++ (vals zid).toArray.toList.drop (0 + 0 + (vals (s.take 32)).length)).toArray = (vals (idL s)).toArray := by
    rw [← idL_cut s, vals_app]
    congr 1
    simp [vals_len, vals, List.map_drop]
    omega
  rw [he] at hst
  unfold Builtin.copy_
  obtain ⟨n, hn⟩ : ∃ n, n = min s.length 32 := ⟨_, rfl⟩
  have hmin : Nat.min s.length 32 = n := hn.symm
  rw [← hn] at hf ⊢
  clear hn he
  simp [run_underlying Tryd.underlying43, Builtin.lenOf, hl, hsz, hmin, hf, hst]

set_option maxRecDepth 20000 in
set_option maxHeartbeats 1000000 in
theorem name_any (s : List UInt8) (w : World) :
    Calls Tryd.prog 59 #[.string ⟨s.toArray⟩] w fun r w' => r = .returned (.agg (vals (idL s)).toArray) ∧ Below w.heap.size w w' := by
  have hz := zid_run
  have hzs := zid_len
  have hidl := idL_len s
  have q2 : (vals zid).toArray.size = (vals (idL s)).toArray.size := hzs.trans (id_size hidl).symm
  have q3 := id_info hidl
  have q4 := id_one (idL s)
  have hA : IdAt ((w.alloc (.cells (vals zid).toArray 39)).alloc (.cells (vals zid).toArray 39)) (w.heap.size + 1) zid := ⟨rfl, by have := heap_alloc_new (w.alloc (.cells (vals zid).toArray 39)) (.cells (vals zid).toArray 39); simpa using this⟩
  have hcp := fun ty => run_copy_text s (w.heap.size + 1) ty _ hA
  obtain ⟨Y, hY⟩ : ∃ Y, Y = (vals (idL s)).toArray := ⟨_, rfl⟩
  rw [← hY] at q2 q3 q4 hcp ⊢
  have hYs : Y.size = 32 := by rw [hY]; exact id_size hidl
  clear hY hidl
  generalize (vals zid).toArray = Z at hz hzs q2 hA hcp
  have hb0 : Below w.heap.size w ((w.alloc (.cells Z 39)).alloc (.cells Z 39)) := ((Below.refl _ w).alloc (Nat.le_refl _) _).alloc (by simp) _
  have h0 : ((w.alloc (.cells Z 39)).alloc (.cells Z 39)).heap[w.heap.size]? = some (.cells Z 39 (0, 0)) := by
    rw [Below.heap_alloc _ _ _ (by simp)]; exact heap_alloc_new w _
  have h1 : ((w.alloc (.cells Z 39)).alloc (.cells Z 39)).heap[w.heap.size + 1]? = some (.cells Z 39 (0, 0)) := by
    have := heap_alloc_new (w.alloc (.cells Z 39)) (.cells Z 39); simpa using this
  obtain ⟨W, hW⟩ : ∃ W, W = (w.alloc (.cells Z 39)).alloc (.cells Z 39) := ⟨_, rfl⟩
  rw [← hW] at hb0 h0 h1 hcp
  have k0 : (W.setRow (w.heap.size + 1) Y).heap[w.heap.size]? = some (.cells Z 39 (0, 0)) := (setRow_other W _ _ Y (by omega)).trans h0
  have k1 : (W.setRow (w.heap.size + 1) Y).heap[w.heap.size + 1]? = some (.cells Y 39 (0, 0)) := setRow_heap W _ _ Y _ _ h1
  have kb : Below w.heap.size w (W.setRow (w.heap.size + 1) Y) := hb0.trans (((Mod.refl (fun _ => False) W).setRow Y).to_below (by have := hb0.size; exact this) (by rintro k hk (h | h) <;> first | exact h | omega))
  obtain ⟨W2, hW2⟩ : ∃ W2, W2 = W.setRow (w.heap.size + 1) Y := ⟨_, rfl⟩
  rw [← hW2] at k0 k1 kb hcp
  have l0 : (W2.setRow w.heap.size Y).heap[w.heap.size]? = some (.cells Y 39 (0, 0)) := setRow_heap W2 _ _ Y _ _ k0
  have lb : Below w.heap.size w (W2.setRow w.heap.size Y) := kb.trans (((Mod.refl (fun _ => False) W2).setRow Y).to_below (by have := kb.size; exact this) (by rintro k hk (h | h) <;> first | exact h | omega))
  have L0 := Lib.hid l0
  have LB := Lib.hid lb
  have HS := Lib.hid hYs
  clear hW2 l0 lb kb hb0 h0 h1 hA hzs hYs
  go_enter Tryd.func59, Tryd.ntmps59
  go_wp2_with (first | (refine wpList_copyS rfl (.tmp 4) (.tmp 5) 43 9 rfl _ _ rfl rfl (by rw [← hW]; exact hcp _) ?_; clear hcp hW) | (refine wpList_load_row rfl 39 (.tmp 3) rfl (w.heap.size + 1) rfl 39 Y (0, 0) _ k1 Tryd.underlying39 rfl q3 ?_) | (refine wpList_store_row rfl rfl 39 (.tmp 2) (.tmp 7) rfl w.heap.size rfl 39 Z Y rfl k0 q2 q3 q4 ?_))
  exact bodyPost_ret (v := .agg Y) (results_cell_row Tryd.results59 _ _ w.heap.size 39 Y (0, 0) _ rfl L0.out Tryd.underlying39 rfl q3) rfl ⟨rfl, LB.out⟩

end Go.Proofs.YtmodikcghlbigaaDoor

namespace Go.Proofs.YtmodikcghlbigaaDoor
open Go

/-- How many of the first n are not listed yet. -/
def unl (L : Array Bool) : Nat → Nat
  | 0 => 0
  | n + 1 => unl L n + (if L.getD n true then 0 else 1)
theorem unl_le (L : Array Bool) : ∀ n, unl L n ≤ n
  | 0 => Nat.le_refl _
  | n + 1 => by have := unl_le L n; simp only [unl]; split <;> omega
theorem set_self (L : Array Bool) (i : Nat) : (L.setIfInBounds i true).getD i true = true := by
  by_cases h : i < L.size
  · simp [h]
  · simp [h]
theorem unl_set (L : Array Bool) (i : Nat) (hi : L.getD i true = false) : ∀ n, unl (L.setIfInBounds i true) n + (if i < n then 1 else 0) = unl L n
  | 0 => rfl
  | n + 1 => by
    have ih := unl_set L i hi n
    simp only [unl]
    by_cases h : n = i
    · subst h
      rw [set_self, hi]
      simp at ih ⊢
      exact ih
    · rw [getD_set_ne true (Ne.symm h)]
      generalize (if L.getD n true = true then 0 else 1) = z
      by_cases h2 : i < n
      · rw [if_pos h2] at ih; rw [if_pos (by omega)]; omega
      · rw [if_neg h2] at ih; rw [if_neg (by omega)]; omega
theorem unl_pos (L : Array Bool) : ∀ n i, i < n → L.getD i true = false → 0 < unl L n
  | n + 1, i, h, hi => by
    simp only [unl]
    by_cases e : i = n
    · subst e; rw [hi]; simp
    · have := unl_pos L n i (by omega) hi; omega

/-- What is in the slots that the operations know: those of the list. -/
def AllV (V : Tmp → Value → World → Prop) (a : Act) (w : World) : List Tmp → Prop
  | [] => True
  | t :: r => V t (a.eval (.tmp t)) w ∧ AllV V a w r
theorem AllV.of {V : Tmp → Value → World → Prop} {a : Act} {w : World} : ∀ {l : List Tmp}, (∀ t ∈ l, V t (a.eval (.tmp t)) w) → AllV V a w l
  | [], _ => trivial
  | t :: r, h => ⟨h t (by simp), AllV.of (fun u hu => h u (by simp [hu]))⟩

/-- The slots whose values an operation waits for. -/
def waits (md : Region.Mode) (ops : Array Oper) (o : Oper) : List Tmp :=
  (o.after.toList.filter (Region.binds md)).filterMap fun e => (ops[e.on]?).bind (·.dst)

structure Agree (ops : Array Oper) (a0 a : Act) : Prop where
  size : a.tmps.size = a0.tmps.size
  defers : a.defers = a0.defers
  same : ∀ t, (∀ (i : Nat) (o : Oper), ops[i]? = some o → o.dst ≠ some t) → a.eval (.tmp t) = a0.eval (.tmp t)

def drawOk (ops : Array Oper) (N : Nat) : Bool :=
  (List.range ops.size).all fun i => match ops[i]? with
    | none => true
    | some o => o.after.all (fun e => decide (e.on < i)) && (match o.dst with
      | none => true
      | some d => decide (d < N) && (List.range ops.size).all fun j => j == i || (match ops[j]? with | some p => p.dst != some d | none => true))

structure DrawOk (ops : Array Oper) (N : Nat) : Prop where
  before : ∀ (i : Nat) (o : Oper), ops[i]? = some o → ∀ e ∈ o.after, e.on < i
  room : ∀ (i : Nat) (o : Oper) (d : Tmp), ops[i]? = some o → o.dst = some d → d < N
  apart : ∀ (i j : Nat) (o p : Oper) (d : Tmp), ops[i]? = some o → ops[j]? = some p → j ≠ i → o.dst = some d → p.dst ≠ some d
theorem drawOk_spec {ops : Array Oper} {N : Nat} (h : drawOk ops N = true) : DrawOk ops N := by
  have key : ∀ (i : Nat) (o : Oper), ops[i]? = some o → o.after.all (fun e => decide (e.on < i)) = true ∧ (match o.dst with
      | none => true
      | some d => decide (d < N) && (List.range ops.size).all fun j => j == i || (match ops[j]? with | some p => p.dst != some d | none => true)) = true := by
    intro i o ho
    have hlt : i < ops.size := (Array.getElem?_eq_some_iff.1 ho).1
    have := List.all_eq_true.1 h i (List.mem_range.2 hlt)
    simp only [ho, Bool.and_eq_true] at this
    exact this
  refine ⟨fun i o ho e he => ?_, fun i o d ho hd => ?_, fun i j o p d ho hp hj hd hpd => ?_⟩
  · have := Array.all_eq_true_iff_forall_mem.1 (key i o ho).1 e he
    exact of_decide_eq_true this
  · have := (key i o ho).2
    rw [hd] at this
    simp only [Bool.and_eq_true] at this
    exact of_decide_eq_true this.1
  · have := (key i o ho).2
    rw [hd] at this
    simp only [Bool.and_eq_true] at this
    have h2 := List.all_eq_true.1 this.2 j (List.mem_range.2 (Array.getElem?_eq_some_iff.1 hp).1)
    simp only [hp, Bool.or_eq_true, beq_iff_eq, hj, false_or, bne_iff_ne, ne_eq] at h2
    exact h2 hpd

/-- What one operation owes. -/
def Owes (P : Program) (md : Region.Mode) (ops : Array Oper) (Q : Exit → Act → World → Prop) (V : Tmp → Value → World → Prop) (G : World → Prop) (a0 : Act) (i : Nat) (o : Oper) : Prop :=
  ∀ a w, Agree ops a0 a → G w → AllV V a w (waits md ops o) →
    wpOp P ops Q i (fun a' w' => ∃ v, a' = a.put o.dst v ∧ (∀ t, o.dst = some t → V t v w') ∧ G w' ∧ ∀ t x, V t x w → V t x w') a w

theorem eval_put_same {a : Act} {d : Tmp} (h : d < a.tmps.size) (v : Value) : (a.put (some d) v).eval (.tmp d) = v := by
  simp [Act.put, Act.eval, h]
theorem size_put (a : Act) (d : Option Tmp) (v : Value) : (a.put d v).tmps.size = a.tmps.size := by
  cases d <;> simp [Act.put]
theorem defers_put (a : Act) (d : Option Tmp) (v : Value) : (a.put d v).defers = a.defers := by
  cases d <;> rfl

section
variable {P : Program} {ops : Array Oper} {Q : Exit → Act → World → Prop} {md : Region.Mode} {V : Tmp → Value → World → Prop} {G : World → Prop} {a0 : Act}

theorem ready_some (hok : DrawOk ops a0.tmps.size) {L : Array Bool} (hL : L.size = ops.size) : ∀ i, i < ops.size → L.getD i true = false → ∃ j, j ∈ Region.ready md ops L := by
  intro i
  induction i using Nat.strongRecOn with
  | ind i ih =>
    intro hi hun
    have ho : ops[i]? = some ops[i] := Array.getElem?_eq_getElem hi
    by_cases h : ∀ e ∈ ops[i].after, Region.binds md e = true → L.getD e.on false = true
    · exact ⟨i, mem_ready.2 ⟨hun, _, ho, h⟩⟩
    · have ⟨e, he⟩ := Classical.not_forall.1 h
      have ⟨he1, he2⟩ := Classical.not_imp.1 he
      have ⟨hb, hf⟩ := Classical.not_imp.1 he2
      have hlt := hok.before i _ ho e he1
      have hel : e.on < L.size := by omega
      refine ih e.on hlt (by omega) ?_
      simp [hel] at hf ⊢
      exact hf

theorem wpAny_vals (hok : DrawOk ops a0.tmps.size) (step : ∀ (i : Nat) (o : Oper), ops[i]? = some o → Owes P md ops Q V G a0 i o)
    (fin : ∀ a w, Agree ops a0 a → G w → (∀ (i : Nat) (o : Oper) (t : Tmp), ops[i]? = some o → o.dst = some t → V t (a.eval (.tmp t)) w) → Q .normal a w) :
    ∀ (fuel : Nat) (L : Array Bool) (a : Act) (w : World), unl L ops.size ≤ fuel → L.size = ops.size → Agree ops a0 a → G w →
      (∀ (i : Nat) (o : Oper) (t : Tmp), ops[i]? = some o → L.getD i true = true → o.dst = some t → V t (a.eval (.tmp t)) w) → wpAny P md ops Q fuel L a w := by
  have allL : ∀ L : Array Bool, L.size = ops.size → Region.ready md ops L = [] → ∀ (i : Nat) (o : Oper), ops[i]? = some o → L.getD i true = true := by
    intro L hL hr i o ho
    cases hc : L.getD i true with
    | true => rfl
    | false =>
      obtain ⟨j, hj⟩ := ready_some (md := md) hok hL i (Array.getElem?_eq_some_iff.1 ho).1 hc
      rw [hr] at hj; cases hj
  intro fuel
  induction fuel with
  | zero =>
    intro L a w hu hL ha hG hv
    have hr : Region.ready md ops L = [] := by
      apply List.eq_nil_iff_forall_not_mem.2
      intro j hj
      obtain ⟨hun, o, ho, _⟩ := mem_ready.1 hj
      have := unl_pos L ops.size j (Array.getElem?_eq_some_iff.1 ho).1 hun
      omega
    exact ⟨hr, fin a w ha hG (fun i o t ho ht => hv i o t ho (allL L hL hr i o ho) ht)⟩
  | succ fuel ih =>
    intro L a w hu hL ha hG hv
    refine ⟨fun hr => fin a w ha hG (fun i o t ho ht => hv i o t ho (allL L hL hr i o ho) ht), fun i hi => ?_⟩
    obtain ⟨hun, o, ho, hall⟩ := mem_ready.1 hi
    have hil : i < ops.size := (Array.getElem?_eq_some_iff.1 ho).1
    have hw : AllV V a w (waits md ops o) := AllV.of (by
      intro t ht
      unfold waits at ht
      obtain ⟨e, he, hd⟩ := List.mem_filterMap.1 ht
      obtain ⟨he1, he2⟩ := List.mem_filter.1 he
      cases hj : ops[e.on]? with
      | none => rw [hj] at hd; cases hd
      | some p =>
        rw [hj] at hd
        have hl := hall e (by simpa using he1) he2
        have hel : e.on < L.size := by rw [hL]; exact (Array.getElem?_eq_some_iff.1 hj).1
        exact hv e.on p t hj (by simp [hel] at hl ⊢; exact hl) hd)
    refine wpOp_mono (fun a' w' h => ?_) (step i o ho a w ha hG hw)
    obtain ⟨v, rfl, hvi, hG', hst⟩ := h
    refine ih _ _ _ ?_ (by simpa using hL) ?_ hG' ?_
    · have := unl_set L i hun ops.size
      rw [if_pos hil] at this; omega
    · refine ⟨by rw [size_put]; exact ha.size, by rw [defers_put]; exact ha.defers, fun t ht => ?_⟩
      rw [Act.eval_put (fun d hd e => ht i o ho (by cases e; exact hd))]
      exact ha.same t ht
    · intro j p t hp hl ht
      by_cases e : j = i
      · subst e
        rw [ho] at hp; cases hp
        rw [ht, eval_put_same (by rw [ha.size]; exact hok.room j o t ho ht)]
        exact hvi t ht
      · rw [Act.eval_put (fun d hd e2 => by cases e2; exact hok.apart i j o p t ho hp e hd ht)]
        rw [getD_set_ne true (Ne.symm e)] at hl
        exact hst _ _ (hv j p t hp hl ht)

/-- The obligations one after the other. -/
def OweAll (P : Program) (md : Region.Mode) (ops : Array Oper) (Q : Exit → Act → World → Prop) (V : Tmp → Value → World → Prop) (G : World → Prop) (a0 : Act) : Nat → List Oper → Prop
  | _, [] => True
  | k, o :: r => Owes P md ops Q V G a0 k o ∧ OweAll P md ops Q V G a0 (k + 1) r
theorem OweAll.get : ∀ {l : List Oper} {k : Nat}, OweAll P md ops Q V G a0 k l → ∀ (i : Nat) (o : Oper), l[i]? = some o → Owes P md ops Q V G a0 (k + i) o
  | _ :: _, k, h, 0, o, hi => by cases hi; exact h.1
  | _ :: r, k, h, i + 1, o, hi => by
    have := OweAll.get h.2 i o (by simpa using hi)
    rwa [show k + 1 + i = k + (i + 1) by omega] at this
  | [], _, _, i, o, hi => by simp at hi
theorem OweAll.cons {k : Nat} {o : Oper} {r : List Oper} (h : Owes P md ops Q V G a0 k o) (h2 : OweAll P md ops Q V G a0 (k + 1) r) : OweAll P md ops Q V G a0 k (o :: r) := ⟨h, h2⟩
theorem OweAll.nil {k : Nat} : OweAll P md ops Q V G a0 k [] := trivial

/-- A region that draws its order. -/
theorem wp_region_vals {id : Nat} {w : World} (V : Tmp → Value → World → Prop) (G : World → Prop) (N : Nat) (hm : P.follows .mixedOrders = true) (hok : drawOk ops N = true) (hN : a0.tmps.size = N) (hG : G w.drew)
    (step : OweAll P .any ops Q V G a0 0 ops.toList)
    (fin : ∀ a w, Agree ops a0 a → G w → (∀ (i : Nat) (o : Oper) (t : Tmp), ops[i]? = some o → o.dst = some t → V t (a.eval (.tmp t)) w) → Q .normal a w) : (Code.region id ops true).wp P Q a0 w := by
  subst hN
  have hok := drawOk_spec hok
  refine wp_region_any hm (wpAny_vals hok (V := V) (G := G) (fun i o ho => ?_) fin ops.size _ a0 _ (unl_le _ _) (by simp) ⟨rfl, rfl, fun _ _ => rfl⟩ hG ?_)
  · have := step.get i o (by simpa using ho)
    rwa [Nat.zero_add] at this
  · intro i o t ho hl _
    have hlt := (Array.getElem?_eq_some_iff.1 ho).1
    simp [hlt] at hl

/-- The slots of the operations. -/
def dsts (ops : Array Oper) : List Tmp := ops.toList.filterMap (·.dst)
def puts (f : Tmp → Value) (l : List Tmp) (b : Act) : Act := l.foldl (fun b t => b.put (some t) (f t)) b
theorem puts_spec (f : Tmp → Value) : ∀ (l : List Tmp) (b : Act), (∀ t ∈ l, t < b.tmps.size) →
    (puts f l b).tmps.size = b.tmps.size ∧ (puts f l b).defers = b.defers ∧ ∀ t, (puts f l b).eval (.tmp t) = if t ∈ l then f t else b.eval (.tmp t)
  | [], b, _ => ⟨rfl, rfl, fun t => by simp [puts]⟩
  | u :: r, b, h => by
    have ih := puts_spec f r (b.put (some u) (f u)) (fun t ht => by rw [size_put]; exact h t (by simp [ht]))
    refine ⟨ih.1.trans (size_put _ _ _), ih.2.1.trans (defers_put _ _ _), fun t => ?_⟩
    have e : puts f (u :: r) b = puts f r (b.put (some u) (f u)) := rfl
    rw [e, ih.2.2 t]
    by_cases h1 : t ∈ r
    · rw [if_pos h1, if_pos (by simp [h1])]
    · rw [if_neg h1]
      by_cases h2 : t = u
      · subst h2; rw [eval_put_same (h t (by simp)), if_pos (by simp)]
      · rw [Act.eval_put (fun d hd e2 => by cases hd; cases e2; exact h2 rfl), if_neg (by simp [h1, h2])]
theorem act_ext {a b : Act} (hs : a.tmps.size = b.tmps.size) (hd : a.defers = b.defers) (h : ∀ t, a.eval (.tmp t) = b.eval (.tmp t)) : a = b := by
  obtain ⟨ta, da⟩ := a
  obtain ⟨tb, db⟩ := b
  have : ta = tb := by
    apply Array.ext hs
    intro i h1 h2
    have := h i
    simpa [Act.eval, h1, h2] using this
  subst this
  cases hd
  rfl
theorem Agree.puts {a : Act} (ha : Agree ops a0 a) (hok : DrawOk ops a0.tmps.size) : a = puts (fun t => a.eval (.tmp t)) (dsts ops) a0 := by
  have hm : ∀ t ∈ dsts ops, ∃ (i : Nat) (o : Oper), ops[i]? = some o ∧ o.dst = some t := by
    intro t ht
    obtain ⟨o, ho, hd⟩ := List.mem_filterMap.1 ht
    obtain ⟨i, hi, e⟩ := List.getElem_of_mem ho
    refine ⟨i, o, ?_, hd⟩
    rw [← e]
    simp at hi
    simp [hi]
  have hp := puts_spec (fun t => a.eval (.tmp t)) (dsts ops) a0 (fun t ht => by obtain ⟨i, o, hi, hd⟩ := hm t ht; exact hok.room i o t hi hd)
  refine act_ext (ha.size.trans hp.1.symm) (ha.defers.trans hp.2.1.symm) (fun t => ?_)
  rw [hp.2.2 t]
  by_cases h : t ∈ dsts ops
  · rw [if_pos h]
  · rw [if_neg h]
    refine ha.same t (fun i o hi hd => h ?_)
    exact List.mem_filterMap.2 ⟨o, by simpa using Array.mem_of_getElem? hi, hd⟩

/-- A region that draws its order, what follows it at a known frame. -/
theorem wp_region_puts {id : Nat} {w : World} (V : Tmp → Value → World → Prop) (G : World → Prop) (N : Nat) (hm : P.follows .mixedOrders = true) (hok : drawOk ops N = true) (hN : a0.tmps.size = N) (hG : G w.drew)
    (step : OweAll P .any ops Q V G a0 0 ops.toList)
    (fin : ∀ f w, G w → (∀ (i : Nat) (o : Oper) (t : Tmp), ops[i]? = some o → o.dst = some t → V t (f t) w) → Q .normal (puts f (dsts ops) a0) w) : (Code.region id ops true).wp P Q a0 w :=
  wp_region_vals V G N hm hok hN hG step (fun a w ha hG hv => by
    subst hN
    rw [ha.puts (drawOk_spec hok)]
    exact fin _ w hG hv)

theorem AllV.get {a : Act} {w : World} : ∀ {l : List Tmp}, AllV V a w l → ∀ t, l.contains t = true → V t (a.eval (.tmp t)) w
  | [], _, t, h => by simp at h
  | u :: r, hh, t, h => by
    by_cases e : t = u
    · subst e; exact hh.1
    · exact AllV.get hh.2 t (by simpa [e] using h)
theorem Agree.outer {a : Act} (h : Agree ops a0 a) (t : Tmp) (ht : ops.all (fun o => o.dst != some t) = true) : a.eval (.tmp t) = a0.eval (.tmp t) := by
  refine h.same t (fun i o ho e => ?_)
  have := Array.all_eq_true_iff_forall_mem.1 ht o (Array.mem_of_getElem? ho)
  rw [e] at this; simp at this
theorem getD_bool {a : Act} {t : Tmp} {b : Bool} (h : a.eval (.tmp t) = .bool b) : a.tmps[t]? = some (.bool b) := by
  unfold Act.eval at h
  cases hc : a.tmps[t]? with
  | none => simp [hc, undef] at h
  | some x => simp [hc] at h; rw [h]
theorem wanted_of {o : Oper} {a : Act} {g : Nat} {want : Bool} {t : Tmp} (hg : o.guard = some (g, want)) (hd : (ops[g]?).bind (·.dst) = some t) (h : a.eval (.tmp t) = .bool want) : Region.wanted o (yielded ops a.tmps) = true := by
  unfold Region.wanted yielded
  rw [hg]
  simp only [hd, Option.bind_some, getD_bool h]
  simp
theorem wanted_free {o : Oper} {a : Act} (hg : o.guard = none) : Region.wanted o (yielded ops a.tmps) = true := by
  unfold Region.wanted; rw [hg]

/-- An operation that yields a value and turns nothing. -/
theorem owes_val {i : Nat} {o : Oper} {t : Tmp} (hi : ops[i]? = some o) (ht : o.dst = some t) (h : ∀ a w, Agree ops a0 a → G w → AllV V a w (waits md ops o) →
    ∃ v, Region.wanted o (yielded ops a.tmps) = true ∧ (execOp a.eval o).run P w = .ok (.value v) w ∧ V t v w) : Owes P md ops Q V G a0 i o := by
  intro a w ha hG hV
  obtain ⟨v, hw, hr, hv⟩ := h a w ha hG hV
  unfold wpOp
  rw [hi]
  simp only [hw, if_true, Oper.wp, hr, Oper.upon]
  exact .inl ⟨v, rfl, fun u hu => by rw [ht] at hu; cases hu; exact hv, hG, fun _ _ h => h⟩
/-- A call. -/
theorem owes_call {i : Nat} {o : Oper} {t : Tmp} (hi : ops[i]? = some o) (ht : o.dst = some t) (f : FuncId) (h : ∀ a w, Agree ops a0 a → G w → AllV V a w (waits md ops o) →
    ∃ args, Region.wanted o (yielded ops a.tmps) = true ∧ (execOp a.eval o).run P w = .ok (.enter f args) w ∧
      Calls P f args w fun e w' => ∃ v, e = .returned v ∧ V t v w' ∧ G w' ∧ ∀ t x, V t x w → V t x w') : Owes P md ops Q V G a0 i o := by
  intro a w ha hG hV
  obtain ⟨args, hw, hr, hc⟩ := h a w ha hG hV
  unfold wpOp
  rw [hi]
  simp only [hw, if_true, Oper.wp, hr, Oper.upon]
  refine .inl (hc.mono ?_)
  rintro e w' ⟨v, rfl, h1, h2, h3⟩
  exact ⟨v, rfl, fun u hu => by rw [ht] at hu; cases hu; exact h1, h2, h3⟩
end
end Go.Proofs.YtmodikcghlbigaaDoor

namespace Go.Proofs.YtmodikcghlbigaaDoor
open Go.RowKit

/-- What stays where nothing below turns. -/
structure Stays where
  p : Value → World → Prop
  old : ∀ {v : Value} {w w' : World}, p v w → Below w.heap.size w w' → p v w'
inductive Kd where
  | any
  | eq (v : Value)
  | st (s : Stays)
def VK : Kd → Value → World → Prop
  | .any, _, _ => True
  | .eq x, v, _ => v = x
  | .st s, v, w => s.p v w
theorem VK.old {k : Kd} {v : Value} {w w' : World} (h : VK k v w) (hb : Below w.heap.size w w') : VK k v w' := by
  cases k with
  | any => trivial
  | eq x => exact h
  | st s => exact s.old h hb
theorem not_wanted {ops : Array Oper} {o : Oper} {a : Act} {g : Nat} {want : Bool} {t : Tmp} {v : Value} (hg : o.guard = some (g, want)) (hd : (ops[g]?).bind (·.dst) = some t) (h : a.eval (.tmp t) = v) (hv : v ≠ .bool want) : Region.wanted o (yielded ops a.tmps) = false := by
  unfold Region.wanted yielded
  rw [hg]
  simp only [hd, Option.bind_some]
  unfold Act.eval at h
  cases hc : a.tmps[t]? with
  | none => rfl
  | some x =>
    simp [hc] at h
    subst h
    cases x with
    | bool b =>
      simp only [beq_eq_false_iff_ne, ne_eq, Option.some.injEq]
      intro e; exact hv (by rw [e])
    | _ => rfl
section
variable {P : Program} {ops : Array Oper} {Q : Exit → Act → World → Prop} {md : Region.Mode} {K : Tmp → Kd} {W : World} {a0 : Act}
/-- An operation that is not wanted. -/
theorem owesK_not {i : Nat} {o : Oper} {t : Tmp} (hi : ops[i]? = some o) (ht : o.dst = some t)
    (h : ∀ a w, Agree ops a0 a → Below W.heap.size W w → AllV (fun t v w => VK (K t) v w) a w (waits md ops o) → Region.wanted o (yielded ops a.tmps) = false ∧ VK (K t) undef w) : Owes P md ops Q (fun t v w => VK (K t) v w) (fun w => Below W.heap.size W w) a0 i o := by
  intro a w ha hG hV
  obtain ⟨hw, hv⟩ := h a w ha hG hV
  unfold wpOp
  rw [hi]
  simp only [hw]
  exact ⟨undef, rfl, fun u hu => by rw [ht] at hu; cases hu; exact hv, hG, fun _ _ h => h⟩
/-- An operation that yields a value, and may make memory. -/
theorem owesK {i : Nat} {o : Oper} {t : Tmp} (hi : ops[i]? = some o) (ht : o.dst = some t) (h : ∀ a w, Agree ops a0 a → Below W.heap.size W w → AllV (fun t v w => VK (K t) v w) a w (waits md ops o) →
    ∃ v w', Region.wanted o (yielded ops a.tmps) = true ∧ (execOp a.eval o).run P w = .ok (.value v) w' ∧ Below w.heap.size w w' ∧ VK (K t) v w') : Owes P md ops Q (fun t v w => VK (K t) v w) (fun w => Below W.heap.size W w) a0 i o := by
  intro a w ha hG hV
  obtain ⟨v, w', hw, hr, hb, hv⟩ := h a w ha hG hV
  unfold wpOp
  rw [hi]
  simp only [hw, if_true, Oper.wp, hr, Oper.upon]
  exact .inl ⟨v, rfl, fun u hu => by rw [ht] at hu; cases hu; exact hv, hG.trans (hb.mono hG.size), fun _ _ h => VK.old h hb⟩
/-- A call. -/
theorem owesK_call {i : Nat} {o : Oper} {t : Tmp} (hi : ops[i]? = some o) (ht : o.dst = some t) (f : FuncId) (h : ∀ a w, Agree ops a0 a → Below W.heap.size W w → AllV (fun t v w => VK (K t) v w) a w (waits md ops o) →
    ∃ args, Region.wanted o (yielded ops a.tmps) = true ∧ (execOp a.eval o).run P w = .ok (.enter f args) w ∧
      Calls P f args w fun e w' => ∃ v, e = .returned v ∧ VK (K t) v w' ∧ Below w.heap.size w w') : Owes P md ops Q (fun t v w => VK (K t) v w) (fun w => Below W.heap.size W w) a0 i o := by
  intro a w ha hG hV
  obtain ⟨args, hw, hr, hc⟩ := h a w ha hG hV
  unfold wpOp
  rw [hi]
  simp only [hw, if_true, Oper.wp, hr, Oper.upon]
  refine .inl (hc.mono ?_)
  rintro e w' ⟨v, rfl, h1, hb⟩
  exact ⟨v, rfl, fun u hu => by rw [ht] at hu; cases hu; exact h1, hG.trans (hb.mono hG.size), fun _ _ h => VK.old h hb⟩
end
end Go.Proofs.YtmodikcghlbigaaDoor

namespace Go.Proofs.YtmodikcghlbigaaDoor
open Go.RowKit

theorem run_loadBytes (w : World) (g : Nat) : ∀ (s : List UInt8) (off : Nat) (acc : ByteArray), (∀ i (hi : i < s.length), w.cell? ⟨g, off + i, none⟩ = some (.int .u8 (s[i].toNat : Int))) →
    (Extern.Bytes.loadBytes ⟨g, off, none⟩ s.length acc).run Tryd.prog w = .ok (acc ++ ⟨s.toArray⟩) w
  | [], off, acc, _ => by
    simp only [List.length_nil, Extern.Bytes.loadBytes, Sem.run_pure]
    congr 1
    apply ByteArray.ext; simp
  | b :: s, off, acc, h => by
    have h0 := h 0 (by simp)
    simp only [Nat.add_zero, List.getElem_cons_zero] at h0
    have hl : (load ⟨g, off, none⟩).run Tryd.prog w = .ok (.int .u8 (b.toNat : Int)) w := by simp [go_sem, h0]
    have hadd : (⟨g, off, none⟩ : Addr).add 1 = ⟨g, off + 1, none⟩ := rfl
    have ih := run_loadBytes w g s (off + 1) (acc.push b) (fun i hi => by
      have := h (i + 1) (by simpa using hi)
      rw [show off + 1 + i = off + (i + 1) by omega]
      simpa using this)
    simp only [List.length_cons, Extern.Bytes.loadBytes, Sem.run_bind, hl, Result.andThen_ok, hadd]
    have hb : (b.toNat : Int).toNat.toUInt8 = b := by simp
    rw [hb, ih]
    congr 1
    apply ByteArray.ext; simp
theorem IdAt.compare {w : World} {g h : Nat} {s t : List UInt8} (hs : IdAt w g s) (ht : IdAt w h t) :
    (Extern.BytealgCompare.compare #[.slice (some ⟨g, 0, none⟩) 32 32, .slice (some ⟨h, 0, none⟩) 32 32]).run Tryd.prog w = .ok (.int .i64 (Lib.compareBytes s t)) w := by
  have h1 := run_loadBytes w g s 0 .empty (fun i hi => by rw [Nat.zero_add]; exact hs.cell i hi)
  have h2 := run_loadBytes w h t 0 .empty (fun i hi => by rw [Nat.zero_add]; exact ht.cell i hi)
  rw [hs.1] at h1
  rw [ht.1] at h2
  have e : Extern.BytealgCompare.compare #[.slice (some ⟨g, 0, none⟩) 32 32, .slice (some ⟨h, 0, none⟩) 32 32] = (do pure (goInt (Extern.BytealgCompare.cmp (← Extern.Bytes.loadBytes ⟨g, 0, none⟩ 32 .empty) (← Extern.Bytes.loadBytes ⟨h, 0, none⟩ 32 .empty)))) := rfl
  rw [e]
  simp only [Sem.run_bind, h1, h2, Result.andThen_ok, Sem.run_pure, Lib.cmp_eq, goInt]
  simp
set_option maxHeartbeats 1000000 in
set_option maxRecDepth 20000 in
theorem bcompare_any (g h : Nat) (s t : List UInt8) (w : World) (hs : IdAt w g s) (ht : IdAt w h t) :
    Calls Tryd.prog 70 #[.slice (some ⟨g, 0, none⟩) 32 32, .slice (some ⟨h, 0, none⟩) 32 32] w fun r w' => r = .returned (.int .i64 (Lib.compareBytes s t)) ∧ w = w' := by
  have hc := hs.compare ht
  obtain ⟨x, hx⟩ : ∃ x, x = Lib.compareBytes s t := ⟨_, rfl⟩
  rw [← hx] at hc ⊢
  clear hx hs ht
  go_enter Tryd.func70, Tryd.ntmps70
  go_wp2
  rw [run_callFunc_extern Tryd.func73 (by kernel_rfl) (by kernel_rfl) (by kernel_rfl) (e := Extern.BytealgCompare.compare) (by kernel_rfl), hc]
  simp only [Result.andThen]
  rw [Oper.upon_value]
  go_wp2
  go_ret
  exact ⟨rfl, rfl⟩

set_option maxHeartbeats 1000000 in
set_option maxRecDepth 20000 in
theorem hcompare_any (n1 n2 : List UInt8) (w : World) (hs : n1.length = 32) (ht : n2.length = 32) :
    Calls Tryd.prog 68 #[.agg (vals n1).toArray, .agg (vals n2).toArray] w fun r w' => r = .returned (.int .i64 (Lib.compareBytes n1 n2)) ∧ Below w.heap.size w w' := by
  have hA : IdAt ((w.alloc (.cells (vals n1).toArray 39)).alloc (.cells (vals n2).toArray 39)) w.heap.size n1 := ⟨hs, by rw [Below.heap_alloc _ _ _ (by simp)]; exact heap_alloc_new w _⟩
  have hB : IdAt ((w.alloc (.cells (vals n1).toArray 39)).alloc (.cells (vals n2).toArray 39)) (w.heap.size + 1) n2 := ⟨ht, by have := heap_alloc_new (w.alloc (.cells (vals n1).toArray 39)) (.cells (vals n2).toArray 39); simpa using this⟩
  have hb : Below w.heap.size w ((w.alloc (.cells (vals n1).toArray 39)).alloc (.cells (vals n2).toArray 39)) := ((Below.refl _ w).alloc (Nat.le_refl _) _).alloc (by simp) _
  have s1 := id_size hs
  have s2 := id_size ht
  have HA := Lib.hid hA
  have HB := Lib.hid hB
  have Hb := Lib.hid hb
  clear hA hB hb
  generalize (vals n1).toArray = S at s1 HA HB Hb ⊢
  generalize (vals n2).toArray = T at s2 HA HB Hb ⊢
  go_enter Tryd.func68, Tryd.ntmps68
  go_wp2_with fail
  generalize (w.alloc (.cells S 39)).alloc (.cells T 39) = W at HA HB Hb ⊢
  generalize w.heap.size = n0 at HA HB ⊢
  refine wp_region_puts (fun t v w => VK (match t with
    | 5 => .eq (.slice (some ⟨n0, 0, none⟩) 32 32)
    | 6 => .eq (.slice (some ⟨n0 + 1, 0, none⟩) 32 32)
    | 7 => .eq (.int .i64 (Lib.compareBytes n1 n2))
    | 4 => .eq (.int .i64 (Lib.compareBytes n1 n2))
    | _ => .any) v w) (fun w' => Below W.heap.size W w') 8 (by kernel_rfl) (by decide +kernel) rfl (Below.refl _ _).drew (by
    refine OweAll.cons (owesK rfl rfl fun a w1 ha hG hV => ?_) ?_
    · skip
      have h2 := ha.outer 2 (by decide +kernel)
      simp only [Act.eval] at h2
      exact ⟨.slice (some ⟨n0, 0, none⟩) 32 32, w1, wanted_free rfl, by simp [execOp, go_sem, h2], Below.refl _ _, rfl⟩
    refine OweAll.cons (owesK rfl rfl fun a w1 ha hG hV => ?_) ?_
    · skip
      have h3 := ha.outer 3 (by decide +kernel)
      simp only [Act.eval] at h3
      exact ⟨.slice (some ⟨n0 + 1, 0, none⟩) 32 32, w1, wanted_free rfl, by simp [execOp, go_sem, h3], Below.refl _ _, rfl⟩
    refine OweAll.cons (owesK_call rfl rfl 70 fun a w1 ha hG hV => ?_) ?_
    · skip
      have h5 : a.tmps.getD 5 undef = .slice (some ⟨n0, 0, none⟩) 32 32 := hV.get 5 (by decide +kernel)
      have h6 : a.tmps.getD 6 undef = .slice (some ⟨n0 + 1, 0, none⟩) 32 32 := hV.get 6 (by decide +kernel)
      refine ⟨#[.slice (some ⟨n0, 0, none⟩) 32 32, .slice (some ⟨n0 + 1, 0, none⟩) 32 32], wanted_free rfl, by simp [execOp, resolve, invoke, go_sem, h5, h6], ?_⟩
      refine (bcompare_any _ _ n1 n2 w1 (HA.out.old hG) (HB.out.old hG)).mono ?_
      rintro r u2 ⟨rfl, rfl⟩; exact ⟨_, rfl, rfl, Below.refl _ _⟩
    refine OweAll.cons (owesK rfl rfl fun a w1 ha hG hV => ?_) ?_
    · skip
      have h7 : a.tmps.getD 7 undef = .int .i64 (Lib.compareBytes n1 n2) := hV.get 7 (by decide +kernel)
      exact ⟨.int .i64 (Lib.compareBytes n1 n2), w1, wanted_free rfl, by simp [execOp, go_sem, h7], Below.refl _ _, rfl⟩
    exact OweAll.nil
    ) ?_
  intro f wz hG hv
  have e4 : f 4 = .int .i64 (Lib.compareBytes n1 n2) := hv 3 _ 4 rfl rfl
  rename_i hK
  refine hK _ _ ?_
  clear hK hv
  simp only [dsts, puts, List.filterMap_cons, List.filterMap_nil, List.foldl_cons, List.foldl_nil, Act.put, List.setIfInBounds_toArray, List.set_cons_succ, List.set_cons_zero, e4]
  clear e4
  have HG := Lib.hid (Hb.out.trans (hG.mono Hb.out.size))
  clear hG
  go_wp2_with fail
  go_ret
  exact ⟨rfl, HG.out⟩
end Go.Proofs.YtmodikcghlbigaaDoor

namespace Go.Proofs.YtmodikcghlbigaaDoor
open Go.RowKit

/-- Names. -/
abbrev Nm := { s : List UInt8 // s.length = 32 }
def encN : Enc Nm := ⟨fun s => vals s.1, 32, fun s => by rw [vals_len]; exact s.2, fun s => vals_one s.1, by decide⟩
theorem exec_load_mid {o : Oper} {a : Act} {w : World} (x : Operand) (ho : o.op = .load 39 x) (b off : Nat) (hx : a.eval x = .pointer (some ⟨b, off, none⟩)) (s : Nm)
    (hc : ∀ i u, (encN.f s)[i]? = some u → w.cell? ⟨b, off + i, none⟩ = some u) : (execOp a.eval o).run Tryd.prog w = .ok (.value (.agg (vals s.1).toArray)) w := by
  have hl := run_loadVar_mid (P := Tryd.prog) w b off 39 (vals s.1) _ (fun j v hv => hc j v hv) Tryd.underlying39 rfl (by rw [vals_len, s.2]; kernel_rfl)
  unfold execOp
  simp only [ho, hx, Instr.loadAt, Instr.sureAddr, Sem.run_bind, Sem.run_pure, Result.andThen_ok, hl]
/-- The first k + 1 rise. -/
def rs (L : List (List UInt8)) (k : Nat) : Bool := (List.range k).all fun i => decide (Lib.compareBytes (L.getD i []) (L.getD (i + 1) []) < 0)
theorem rs_succ (L : List (List UInt8)) (k : Nat) : rs L (k + 1) = (rs L k && decide (Lib.compareBytes (L.getD k []) (L.getD (k + 1) []) < 0)) := by
  unfold rs; rw [List.range_succ, List.all_append]; simp
theorem rs_stop {L : List (List UInt8)} {k n : Nat} (h : rs L (k + 1) = false) (hn : k < n) : rs L n = false := by
  obtain ⟨m, rfl⟩ : ∃ m, n = k + 1 + m := ⟨n - (k + 1), by omega⟩
  induction m with
  | zero => exact h
  | succ m ih => rw [← Nat.add_assoc, rs_succ, ih (by omega)]; rfl

set_option maxRecDepth 20000 in
set_option maxHeartbeats 4000000 in
theorem rising_any (ao : Option Addr) (cap : Nat) (L : List Nm) (w : World) (hL : Rd encN w ao L) (hn : L.length ≤ 1000000) :
    Calls Tryd.prog 60 #[.slice ao L.length cap] w fun r w' => r = .returned (.bool (rs (L.map (·.1)) (L.length - 1))) ∧ Below w.heap.size w w' := by
  obtain ⟨n, hnL⟩ : ∃ n, n = L.length := ⟨_, rfl⟩
  rw [← hnL] at hn ⊢
  obtain ⟨R, hR⟩ : ∃ R, R = rs (L.map (·.1)) (n - 1) := ⟨_, rfl⟩
  rw [← hR]
  have HR := Lib.hid hR
  clear hR
  have Hn := Lib.hid hnL
  have HL := Lib.hid hL
  have hB0 := Below.refl w.heap.size w
  clear hnL hL
  go_enter Tryd.func60, Tryd.ntmps60
  go_wp2_with fail
  go_loopw [3] (fun s3 wr => ∃ k : Nat, k ≤ n ∧ s3 = .int .i64 ((k : Int) + 1) ∧ Hid (rs (L.map (·.1)) k = true) ∧ Hid (k ≤ n - 1) ∧ Below w.heap.size w wr) (fun i _ => n + 1 - (intOf i).toNat)
  case atStart => exact ⟨0, by omega, by go_num, Lib.hid rfl, Lib.hid (Nat.zero_le _), hB0⟩
  case round =>
    clear hB0
    obtain ⟨i, hi, rfl, hrs, hin, hB⟩ := hrel
    by_cases hlt : i + 1 < n
    · have h1 : i < L.length := by rw [← Hn.out]; omega
      have h2 : i + 1 < L.length := by rw [← Hn.out]; omega
      obtain ⟨bs, off, rfl, hbs, c1⟩ := (HL.out.old hB) i h1
      obtain ⟨bs', off', e, _, c2⟩ := (HL.out.old hB) (i + 1) h2
      cases e
      have C1 : Hid (∀ w', Below wr.heap.size wr w' → ∀ k u, (encN.f L[i])[k]? = some u → w'.cell? ⟨bs, off + i * 32 + k, none⟩ = some u) := Lib.hid (fun w' hb k u hu => (World.cell?_of_block (hb.block bs hbs)).trans (c1 k u hu))
      have C2 : Hid (∀ w', Below wr.heap.size wr w' → ∀ k u, (encN.f L[i + 1])[k]? = some u → w'.cell? ⟨bs, off + (i + 1) * 32 + k, none⟩ = some u) := Lib.hid (fun w' hb k u hu => (World.cell?_of_block (hb.block bs hbs)).trans (c2 k u hu))
      obtain ⟨x, hx⟩ : ∃ x, x = L[i] := ⟨_, rfl⟩
      obtain ⟨y, hy⟩ : ∃ y, y = L[i + 1] := ⟨_, rfl⟩
      have hgx : (L.map (·.1)).getD i [] = x.1 := by simp [List.getD, h1, hx]
      have hgy : (L.map (·.1)).getD (i + 1) [] = y.1 := by simp [List.getD, h2, hy]
      have hsu := rs_succ (L.map (·.1)) i
      rw [hgx, hgy, hrs.out, Bool.true_and] at hsu
      rw [← hx] at C1
      rw [← hy] at C2
      obtain ⟨c, hc⟩ : ∃ c, c = Lib.compareBytes x.1 y.1 := ⟨_, rfl⟩
      have hcmp : Hid (∀ w, Calls Tryd.prog 68 #[.agg (vals x.1).toArray, .agg (vals y.1).toArray] w fun r w' => r = .returned (.int .i64 c) ∧ Below w.heap.size w w') := Lib.hid (fun w => by rw [hc]; exact hcompare_any x.1 y.1 w x.2 y.2)
      rw [← hc] at hsu
      have Hsu := Lib.hid hsu
      have i0 : (0 : Int) ≤ i := by omega
      have i1 : (i : Int) < n := by omega
      have i2 : (i : Int) + 1 < n := by omega
      have e1 : IntKind.i64.wrap ((i : Int) + 1 - 1) = (i : Int) := by rw [IntWalk.i64_in _ (by omega)]; omega
      have e0 : IntKind.i64.wrap (i : Int) = (i : Int) := IntWalk.i64_in _ (by omega)
      have e2 : ((i : Int) + 1).toNat = i + 1 := by omega
      have e3 : (0 : Int) ≤ (i : Int) + 1 := by omega
      have HB := Lib.hid hB
      clear hx hy hgx hgy hsu hc c1 c2 hB hrs
      go_wp2_with fail
      refine wp_region_puts (fun t v w => VK (match t with
        | 10 => .eq (.slice (some ⟨bs, off, none⟩) n cap)
        | 11 => .eq (.int .i64 ((i : Int) + 1))
        | 12 => .eq (.int .i64 (i : Int))
        | 13 => .eq (.pointer (some ⟨bs, off + i * 32, none⟩))
        | 14 => .eq (.agg (vals x.1).toArray)
        | 15 => .eq (.slice (some ⟨bs, off, none⟩) n cap)
        | 16 => .eq (.int .i64 ((i : Int) + 1))
        | 17 => .eq (.pointer (some ⟨bs, off + (i + 1) * 32, none⟩))
        | 18 => .eq (.agg (vals y.1).toArray)
        | 19 => .eq (.int .i64 c)
        | 20 => .eq (.bool (decide (0 ≤ c)))
        | _ => .any) v w) (fun w' => Below wr.heap.size wr w') 21 (by kernel_rfl) (by decide +kernel) rfl (Below.refl _ _).drew (by
        refine OweAll.cons (owesK rfl rfl fun a w1 ha hG hV => ?_) ?_
        · skip
          have h0 := ha.outer 0 (by decide +kernel)
          simp only [Act.eval] at h0
          exact ⟨.slice (some ⟨bs, off, none⟩) n cap, w1, wanted_free rfl, by simp [execOp, go_sem, h0], Below.refl _ _, rfl⟩
        refine OweAll.cons (owesK rfl rfl fun a w1 ha hG hV => ?_) ?_
        · skip
          have h3 := ha.outer 3 (by decide +kernel)
          simp only [Act.eval] at h3
          exact ⟨.int .i64 ((i : Int) + 1), w1, wanted_free rfl, by simp [execOp, go_sem, h3], Below.refl _ _, rfl⟩
        refine OweAll.cons (owesK rfl rfl fun a w1 ha hG hV => ?_) ?_
        · skip
          have h11 : a.tmps.getD 11 undef = .int .i64 ((i : Int) + 1) := hV.get 11 (by decide +kernel)
          exact ⟨.int .i64 (i : Int), w1, wanted_free rfl, by simp [execOp, go_sem, h11, e0, e1], Below.refl _ _, rfl⟩
        refine OweAll.cons (owesK rfl rfl fun a w1 ha hG hV => ?_) ?_
        · skip
          have h10 : a.tmps.getD 10 undef = .slice (some ⟨bs, off, none⟩) n cap := hV.get 10 (by decide +kernel)
          have h12 : a.tmps.getD 12 undef = .int .i64 (i : Int) := hV.get 12 (by decide +kernel)
          exact ⟨.pointer (some ⟨bs, off + i * 32, none⟩), w1, wanted_free rfl, by simp [execOp, go_sem, h10, h12, i0, i1], Below.refl _ _, rfl⟩
        refine OweAll.cons (owesK rfl rfl fun a w1 ha hG hV => ?_) ?_
        · skip
          have h13 : a.tmps.getD 13 undef = .pointer (some ⟨bs, off + i * 32, none⟩) := hV.get 13 (by decide +kernel)
          exact ⟨.agg (vals x.1).toArray, w1, wanted_free rfl, exec_load_mid (.tmp 13) rfl bs (off + i * 32) h13 x (C1.out w1 hG), Below.refl _ _, rfl⟩
        refine OweAll.cons (owesK rfl rfl fun a w1 ha hG hV => ?_) ?_
        · skip
          have h0 := ha.outer 0 (by decide +kernel)
          simp only [Act.eval] at h0
          exact ⟨.slice (some ⟨bs, off, none⟩) n cap, w1, wanted_free rfl, by simp [execOp, go_sem, h0], Below.refl _ _, rfl⟩
        refine OweAll.cons (owesK rfl rfl fun a w1 ha hG hV => ?_) ?_
        · skip
          have h3 := ha.outer 3 (by decide +kernel)
          simp only [Act.eval] at h3
          exact ⟨.int .i64 ((i : Int) + 1), w1, wanted_free rfl, by simp [execOp, go_sem, h3], Below.refl _ _, rfl⟩
        refine OweAll.cons (owesK rfl rfl fun a w1 ha hG hV => ?_) ?_
        · skip
          have h15 : a.tmps.getD 15 undef = .slice (some ⟨bs, off, none⟩) n cap := hV.get 15 (by decide +kernel)
          have h16 : a.tmps.getD 16 undef = .int .i64 ((i : Int) + 1) := hV.get 16 (by decide +kernel)
          exact ⟨.pointer (some ⟨bs, off + (i + 1) * 32, none⟩), w1, wanted_free rfl, by simp [execOp, go_sem, h15, h16, e2, e3, i2], Below.refl _ _, rfl⟩
        refine OweAll.cons (owesK rfl rfl fun a w1 ha hG hV => ?_) ?_
        · skip
          have h17 : a.tmps.getD 17 undef = .pointer (some ⟨bs, off + (i + 1) * 32, none⟩) := hV.get 17 (by decide +kernel)
          exact ⟨.agg (vals y.1).toArray, w1, wanted_free rfl, exec_load_mid (.tmp 17) rfl bs (off + (i + 1) * 32) h17 y (C2.out w1 hG), Below.refl _ _, rfl⟩
        refine OweAll.cons (owesK_call rfl rfl 68 fun a w1 ha hG hV => ?_) ?_
        · skip
          have h14 : a.tmps.getD 14 undef = .agg (vals x.1).toArray := hV.get 14 (by decide +kernel)
          have h18 : a.tmps.getD 18 undef = .agg (vals y.1).toArray := hV.get 18 (by decide +kernel)
          refine ⟨#[.agg (vals x.1).toArray, .agg (vals y.1).toArray], wanted_free rfl, by simp [execOp, resolve, invoke, go_sem, h14, h18], ?_⟩
          refine (hcmp.out w1).mono ?_
          rintro r u2 ⟨rfl, hb⟩; exact ⟨_, rfl, rfl, hb⟩
        refine OweAll.cons (owesK rfl rfl fun a w1 ha hG hV => ?_) ?_
        · skip
          have h19 : a.tmps.getD 19 undef = .int .i64 c := hV.get 19 (by decide +kernel)
          exact ⟨.bool (decide (0 ≤ c)), w1, wanted_free rfl, by simp [execOp, go_sem, h19], Below.refl _ _, rfl⟩
        exact OweAll.nil
        ) ?_
      intro f wz hG hv
      have e20 : f 20 = .bool (decide (0 ≤ c)) := hv 10 _ 20 rfl rfl
      rename_i hK
      refine hK _ _ ?_
      clear hK hv
      simp only [dsts, puts, List.filterMap_cons, List.filterMap_nil, List.foldl_cons, List.foldl_nil, Act.put, List.setIfInBounds_toArray, List.set_cons_succ, List.set_cons_zero, e20]
      clear e20
      have HG := Lib.hid (HB.out.trans (hG.mono HB.out.size))
      clear hG
      by_cases hc : 0 ≤ c
      · have t1 : decide (0 ≤ c) = true := decide_eq_true hc
        have hfin : R = false := HR.out.trans <| rs_stop (k := i) (by rw [Hsu.out, decide_eq_false_iff_not]; omega) (by omega)
        have Hfin := Lib.hid hfin
        clear hfin
        go_wp2_with fail
        go_ret
        exact ⟨by rw [Hfin.out]; rfl, HG.out⟩
      · have t1 : decide (0 ≤ c) = false := decide_eq_false hc
        have hnx : Hid (rs (L.map (·.1)) (i + 1) = true) := Lib.hid (by rw [Hsu.out, decide_eq_true_eq]; omega)
        go_wp2_with fail
        go_roundw
        case rel => exact ⟨i + 1, by omega, by go_num, hnx, Lib.hid (by omega), HG.out⟩
        case measure => simp [intOf]; omega
    · have hfin : R = true := by rw [HR.out]; have h := hin.out; have e : i = n - 1 := (by omega); rw [← e]; exact hrs.out
      have Hfin := Lib.hid hfin
      clear hfin
      have i2 : ¬ (i : Int) + 1 < n := by omega
      go_wp2_with fail
      go_ret
      exact ⟨by rw [Hfin.out]; rfl, hB⟩
end Go.Proofs.YtmodikcghlbigaaDoor

namespace Go.Proofs.YtmodikcghlbigaaDoor
open Go.RowKit

/-- The slice at p of A's length and of that capacity holds the numbers A, from its block's head on; nil holds none. -/
def Sl (k : IntKind) (T : TypeId) (w : World) (p : Option Addr) (cap : Nat) (A : List Nat) : Prop := w.ownsRow 0 T 1 (.slice p A.length cap) A.length (nums k A)

theorem Sl.shape {k : IntKind} {T : TypeId} {w : World} {p : Option Addr} {cap : Nat} {A : List Nat} (h : Sl k T w p cap A) :
    (p = none ∧ A = [] ∧ cap = 0) ∨ ∃ g, p = some ⟨g, 0, none⟩ ∧ g < w.heap.size ∧ A.length ≤ cap ∧ cap ≤ maxLen ∧ ∃ cur : Array Value, w.heap[g]? = some (.cells cur T (0, 0)) ∧ cur.size = cap ∧ cur.toList.take A.length = nums k A := by
  rcases h.2 with ⟨e, h0⟩ | ⟨g, cap', cur, e, _, hh, h1, h2, h3, h4⟩
  · simp only [Value.slice.injEq] at e
    exact .inl ⟨e.1, List.eq_nil_of_length_eq_zero h0, e.2.2⟩
  · simp only [Value.slice.injEq] at e
    obtain ⟨rfl, _, rfl⟩ := e
    exact .inr ⟨g, rfl, (Array.getElem?_eq_some_iff.1 hh).1, h1, h2, cur, hh, by simpa using h3, by simpa using h4⟩
theorem Sl.of_row {k : IntKind} {T : TypeId} {w : World} {g cap : Nat} {A : List Nat} {cur : Array Value} (hh : w.heap[g]? = some (.cells cur T (0, 0))) (h1 : A.length ≤ cap) (h2 : cap ≤ maxLen) (h3 : cur.size = cap) (h4 : cur.toList.take A.length = nums k A) :
    Sl k T w (some ⟨g, 0, none⟩) cap A := ⟨by simp [nums_len], .inr ⟨g, cap, cur, rfl, Nat.zero_le _, hh, h1, h2, by simpa using h3, by simpa using h4⟩⟩
theorem Sl.empty (k : IntKind) (T : TypeId) (w : World) : Sl k T w none 0 [] := World.ownsRow_nil _ _ _ _
theorem Sl.made {k : IntKind} {T : TypeId} (w : World) (A : List Nat) (hl : A.length ≤ maxLen) : Sl k T (w.alloc (.cells (nums k A).toArray T (0, 0))) (some ⟨w.heap.size, 0, none⟩) A.length A :=
  Sl.of_row (heap_alloc_new _ _) (Nat.le_refl _) hl (by simp [nums_len]) (by simp [nums, List.take_of_length_le])
theorem Sl.isPtr {k : IntKind} {T : TypeId} {w : World} {p : Option Addr} {cap : Nat} {A : List Nat} (h : Sl k T w p cap A) (hA : A ≠ []) : ∃ g, p = some ⟨g, 0, none⟩ := by
  rcases h.shape with ⟨_, e, _⟩ | ⟨g, e, _⟩
  · exact absurd e hA
  · exact ⟨g, e⟩
theorem Sl.lt {k : IntKind} {T : TypeId} {w : World} {a : Addr} {cap : Nat} {A : List Nat} (h : Sl k T w (some a) cap A) : a.block < w.heap.size := by
  rcases h.shape with ⟨e, _⟩ | ⟨g, e, hl, _⟩
  · cases e
  · cases e; exact hl
theorem Sl.cell {k : IntKind} {T : TypeId} {w : World} {g cap : Nat} {A : List Nat} (h : Sl k T w (some ⟨g, 0, none⟩) cap A) (i : Nat) (hi : i < A.length) : w.cell? ⟨g, i, none⟩ = some (.int k (A[i]'hi)) := by
  rcases h.shape with ⟨e, _⟩ | ⟨g', e, _, _, _, cur, hh, _, ht⟩
  · cases e
  · simp only [Option.some.injEq, Addr.mk.injEq] at e
    obtain ⟨rfl, _⟩ := e
    rw [cell_of_row w g i _ T (0, 0) hh]
    have := nums_get k A i hi
    rw [← ht, List.getElem?_take_of_lt hi] at this
    simpa using this
theorem Sl.froz {k : IntKind} {T : TypeId} {w : World} {g cap : Nat} {A : List Nat} (h : Sl k T w (some ⟨g, 0, none⟩) cap A) (i : Nat) : w.frozen? ⟨g, i, none⟩ = false := by
  rcases h.shape with ⟨e, _⟩ | ⟨g', e, _, _, _, cur, hh, _⟩
  · cases e
  · simp only [Option.some.injEq, Addr.mk.injEq] at e
    obtain ⟨rfl, _⟩ := e
    exact frozen_of_row w g i _ T hh
theorem Sl.cap_le {k : IntKind} {T : TypeId} {w : World} {p : Option Addr} {cap : Nat} {A : List Nat} (h : Sl k T w p cap A) : A.length ≤ cap := by
  rcases h.shape with ⟨_, e, _⟩ | ⟨g, _, _, h1, _⟩
  · subst e; simp
  · exact h1
theorem Sl.kept {k : IntKind} {T : TypeId} {w w' : World} {p : Option Addr} {cap : Nat} {A : List Nat} {S : Nat → Prop} (h : Sl k T w p cap A) (hm : Mod S w w') (hp : ∀ a, p = some a → ¬ S a.block) : Sl k T w' p cap A := by
  rcases h.shape with ⟨rfl, rfl, rfl⟩ | ⟨g, rfl, hl, h1, h2, cur, hh, h3, h4⟩
  · exact Sl.empty _ _ _
  · exact Sl.of_row ((hm.block g hl (hp _ rfl)).trans hh) h1 h2 h3 h4
theorem Sl.below {k : IntKind} {T : TypeId} {w w' : World} {p : Option Addr} {cap B : Nat} {A : List Nat} (h : Sl k T w p cap A) (hb : Below B w w') (hp : ∀ a, p = some a → a.block < B) : Sl k T w' p cap A :=
  h.kept (Mod.of_below hb) (fun a e hs => by have := hp a e; omega)
theorem Sl.old {k : IntKind} {T : TypeId} {w w' : World} {p : Option Addr} {cap : Nat} {A : List Nat} (h : Sl k T w p cap A) (hb : Below w.heap.size w w') : Sl k T w' p cap A :=
  h.below hb (fun a e => by subst e; exact h.lt)
theorem Sl.alloc {k : IntKind} {T : TypeId} {w : World} {p : Option Addr} {cap : Nat} {A : List Nat} (h : Sl k T w p cap A) (o : Obj) : Sl k T (w.alloc o) p cap A := h.old ((Below.refl _ _).alloc (Nat.le_refl _) o)
theorem Sl.drew {k : IntKind} {T : TypeId} {w : World} {p : Option Addr} {cap : Nat} {A : List Nat} (h : Sl k T w p cap A) : Sl k T w.drew p cap A := h.old (Below.refl _ _).drew
theorem Sl.other {k : IntKind} {T : TypeId} {w : World} {p : Option Addr} {cap : Nat} {A : List Nat} (h : Sl k T w p cap A) (a : Addr) (u : Value) (hp : ∀ q, p = some q → q.block ≠ a.block) : Sl k T (w.setCell a u) p cap A :=
  h.kept ((Mod.refl (· = a.block) w).setCell (fun _ => rfl) u) hp
theorem Sl.set {k : IntKind} {T : TypeId} {w : World} {g cap : Nat} {A : List Nat} (h : Sl k T w (some ⟨g, 0, none⟩) cap A) (i x : Nat) : Sl k T (w.setCell ⟨g, i, none⟩ (.int k x)) (some ⟨g, 0, none⟩) cap (A.set i x) := by
  rcases h.shape with ⟨e, _⟩ | ⟨g', e, _, h1, h2, cur, hh, h3, h4⟩
  · cases e
  · simp only [Option.some.injEq, Addr.mk.injEq] at e
    obtain ⟨rfl, _⟩ := e
    have hs := heap_setCell_same w g i cur T (.int k x) hh
    refine Sl.of_row hs (by simpa using h1) h2 (by simpa using h3) ?_
    rw [List.length_set, ← nums_set, ← h4]
    simp [List.take_set]
theorem Sl.take {k : IntKind} {T : TypeId} {w : World} {p : Option Addr} {cap : Nat} {A : List Nat} (h : Sl k T w p cap A) (m : Nat) (hm : m ≤ A.length) : Sl k T w p cap (A.take m) := by
  rcases h.shape with ⟨rfl, rfl, rfl⟩ | ⟨g, rfl, hl, h1, h2, cur, hh, h3, h4⟩
  · simpa using Sl.empty k T w
  · refine Sl.of_row hh (by simp; omega) h2 h3 ?_
    rw [List.length_take, Nat.min_eq_left hm]
    have := congrArg (List.take m) h4
    rw [List.take_take, Nat.min_eq_left hm] at this
    rw [this]; simp [nums, List.map_take]

/-- A box stays where nothing below has turned. -/
theorem Boxed.below' {w w' : World} {B g : Nat} {T : TypeId} {v : Value} (h : Boxed w g T v) (hb : Below B w w') (hg : g < B) : Boxed w' g T v := (hb.block g hg).trans h
theorem Boxed.mod' {w w' : World} {S : Nat → Prop} {g : Nat} {T : TypeId} {v : Value} (h : Boxed w g T v) (hm : Mod S w w') (hg : ¬ S g) : Boxed w' g T v := (hm.block g h.lt hg).trans h

end Go.Proofs.YtmodikcghlbigaaDoor

namespace Go.Proofs.YtmodikcghlbigaaDoor
open Go.RowKit

/-- A table's value. -/
def tval (P : List Nat) : Value := .agg (nums .i64 P).toArray
/-- All powers. -/
def tsum (P : List Nat) : Nat := P.foldl (· + ·) 0
/-- A table: 64 powers that may be. -/
structure IsTab (P : List Nat) : Prop where
  len : P.length = 64
  le : ∀ p ∈ P, p ≤ 1099511627776

theorem tsum_from (P : List Nat) (a : Nat) : P.foldl (· + ·) a = a + tsum P := by
  unfold tsum
  induction P generalizing a with
  | nil => rfl
  | cons p P ih => rw [List.foldl_cons, List.foldl_cons, ih, ih (0 + p)]; omega
theorem tsum_take (P : List Nat) (i : Nat) (hi : i < P.length) : tsum (P.take (i + 1)) = tsum (P.take i) + P[i] := by
  unfold tsum
  rw [← List.take_append_getElem hi, List.foldl_append]; rfl
theorem tsum_le (P : List Nat) (h : ∀ p ∈ P, p ≤ 1099511627776) : tsum P ≤ P.length * 1099511627776 := by
  induction P with
  | nil => exact Nat.le_refl _
  | cons p P ih =>
    have h1 := h p (by simp)
    have h2 := ih (fun q hq => h q (by simp [hq]))
    have e : tsum (p :: P) = p + tsum P := by show (p :: P).foldl (· + ·) 0 = _; rw [List.foldl_cons, tsum_from]; omega
    rw [e, List.length_cons, Nat.add_mul]; omega
theorem IsTab.sumle {P : List Nat} (h : IsTab P) : tsum P ≤ 70368744177664 := by
  have := tsum_le P h.le; rw [h.len] at this; exact this
theorem IsTab.row {P : List Nat} (h : IsTab P) {A : Array Value} (hA : A = (nums .i64 P).toArray) : A.size = 64 := by rw [hA]; simp [nums_len, h.len]
theorem tsum_mono (P : List Nat) (i : Nat) : tsum (P.take i) ≤ tsum P := by
  have h2 := tsum_from (P.drop i) (tsum (P.take i))
  have h : tsum P = (P.drop i).foldl (· + ·) (tsum (P.take i)) := by
    unfold tsum
    rw [← List.foldl_append, List.take_append_drop]
  rw [h, h2]; exact Nat.le_add_right _ _

set_option maxRecDepth 20000 in
set_option maxHeartbeats 1000000 in
theorem total_any (P : List Nat) (w : World) (hP : IsTab P) :
    Calls Tryd.prog 22 #[tval P] w fun r w' => r = .returned (.int .i64 (tsum P : Int)) ∧ Below w.heap.size w w' := by
  unfold tval
  have hle := hP.sumle
  have hm := Lib.hid (tsum_mono P)
  have hl := hP.len
  have hidx : ∀ (i : Nat) (hi : i < P.length) (w : World), (Instr.index 51 (.agg (nums .i64 P).toArray) (.int .i64 (i : Int))).run Tryd.prog w = .ok (.int .i64 (P[i]'hi)) w :=
    fun i hi w => run_index_nums 51 3 64 .i64 P i hi Tryd.underlying51 hl Tryd.underlying3 (by kernel_rfl) w
  obtain ⟨A, hA⟩ : ∃ A, A = (nums .i64 P).toArray := ⟨_, rfl⟩
  have hAs := hP.row hA
  rw [← hA] at hidx ⊢
  have Hidx := Lib.hid hidx
  have hB : Below w.heap.size w (w.alloc (.cells A 53)) := (Below.refl _ _).alloc (Nat.le_refl _) _
  have hrow : (w.alloc (.cells A 53)).heap[w.heap.size]? = some (.cells A 53 (0, 0)) := heap_alloc_new _ _
  clear hA hidx
  go_enter Tryd.func22, Tryd.ntmps22
  go_upto_region 2 with fail
  generalize w.alloc (.cells A 53) = W at hB hrow ⊢
  go_wp2_with (refine wpList_load_row rfl 51 (.tmp 6) rfl w.heap.size rfl 53 A (0, 0) _ hrow Tryd.underlying51 rfl ?s1 ?_)
  case s1 => rw [hAs]; kernel_rfl
  clear hAs hrow
  go_loopw [3, 8] (fun s3 s8 wr => ∃ (i t : Nat), i ≤ 64 ∧ s3 = .int .i64 (t : Int) ∧ s8 = .int .i64 (i : Int) ∧ Hid (t = tsum (P.take i)) ∧ wr = W) (fun _ i _ => 64 - (intOf i).toNat)
  case atStart => exact ⟨0, 0, by omega, rfl, rfl, Lib.hid rfl, rfl⟩
  case round =>
    obtain ⟨i, t, hi, rfl, rfl, ht, rfl⟩ := hrel
    by_cases hin : i < 64
    · have hil : i < P.length := by omega
      have e0 := Hidx.out i hil
      obtain ⟨x, hx⟩ : ∃ x, x = P[i] := ⟨_, rfl⟩
      rw [← hx] at e0
      have ht2 : Hid (t + x = tsum (P.take (i + 1))) := Lib.hid (by rw [tsum_take P i hil, ← ht.out, hx])
      have htb : t + x ≤ 70368744177664 := by rw [ht2.out]; exact Nat.le_trans (hm.out _) hle
      have i1 : (i : Int) < 64 := by omega
      have w1 : IntKind.i64.wrap ((t : Int) + x) = (t : Int) + x := by rw [IntKind.wrap_i64]; omega
      clear hx ht
      go_wp2_with fail
      go_roundw
      case rel => exact ⟨i + 1, t + x, by omega, by go_num, by go_num, ht2, trivial⟩
      case measure => simp [intOf]; omega
    · obtain rfl : i = 64 := by omega
      have e : t = tsum P := by rw [ht.out, List.take_of_length_le (by omega)]
      subst e
      clear ht
      go_wp2_with fail
      go_ret
      exact ⟨rfl, hB⟩

set_option maxRecDepth 20000 in
set_option maxHeartbeats 1000000 in
theorem power_any (P : List Nat) (m : Int) (w : World) (hP : IsTab P) :
    Calls Tryd.prog 58 #[tval P, .int .i64 m] w fun r w' => r = .returned (.int .i64 ((if 0 ≤ m ∧ m < 64 then P.getD m.toNat 0 else 0 : Nat) : Int)) ∧ Below w.heap.size w w' := by
  unfold tval
  have hl := hP.len
  have hR : RowAt .i64 53 (w.alloc (.cells (nums .i64 P).toArray 53)) w.heap.size P := heap_alloc_new _ _
  have hcell := Lib.hid (fun i hi => hR.cell i hi)
  have hB : Below w.heap.size w (w.alloc (.cells (nums .i64 P).toArray 53)) := (Below.refl _ _).alloc (Nat.le_refl _) _
  clear hR
  obtain ⟨A, hA⟩ : ∃ A, A = (nums .i64 P).toArray := ⟨_, rfl⟩
  rw [← hA] at hcell hB ⊢
  clear hA
  by_cases h0 : m < 0
  · rw [if_neg (by omega)]
    go_enter Tryd.func58, Tryd.ntmps58
    go_wp2_with fail
    go_ret
    exact ⟨rfl, hB⟩
  · by_cases h64 : m < 64
    · rw [if_pos ⟨by omega, h64⟩]
      obtain ⟨n, rfl⟩ : ∃ n : Nat, m = (n : Int) := ⟨m.toNat, by omega⟩
      have hn : n < P.length := by omega
      have hc := hcell.out n hn
      rw [Int.toNat_natCast, show P.getD n 0 = P[n] by rw [List.getD_eq_getElem?_getD, List.getElem?_eq_getElem hn]; rfl]
      have i0 : (0 : Int) ≤ n := by omega
      generalize P[n] = x at hc ⊢
      go_enter Tryd.func58, Tryd.ntmps58
      go_wp2_with fail
      go_ret
      exact ⟨rfl, hB⟩
    · rw [if_neg (by omega)]
      have h63 : ¬ m < 64 := h64
      have h65 : (64 : Int) ≤ m := by omega
      go_enter Tryd.func58, Tryd.ntmps58
      go_wp2_with fail
      go_ret
      exact ⟨rfl, hB⟩
end Go.Proofs.YtmodikcghlbigaaDoor

namespace Go.Proofs.YtmodikcghlbigaaDoor
open Go.RowKit

/-- The slice holds the numbers. -/
def IntsAt (w : World) (ao : Option Addr) (S : List Int) : Prop :=
  ∀ j (h : j < S.length), ∃ bs off, ao = some ⟨bs, off, none⟩ ∧ bs < w.heap.size ∧ w.cell? ⟨bs, off + j, none⟩ = some (.int .i64 S[j])
theorem IntsAt.old {w w' : World} {ao : Option Addr} {S : List Int} (h : IntsAt w ao S) (hb : Below w.heap.size w w') : IntsAt w' ao S := by
  intro j hj
  obtain ⟨bs, off, e, hlt, c1⟩ := h j hj
  exact ⟨bs, off, e, Nat.lt_of_lt_of_le hlt hb.size, (hb.cell (p := ⟨bs, off + j, none⟩) hlt).trans c1⟩
/-- A miner's power. -/
def pw (P : List Nat) (m : Int) : Nat := if 0 ≤ m ∧ m < 64 then P.getD m.toNat 0 else 0
/-- One signer more. -/
def sg (P Q : List Nat) (m : Int) : List Nat := if 0 < pw P m then Q.set m.toNat (pw P m) else Q
/-- What was signed. -/
def sig (P : List Nat) (S : List Int) : List Nat := S.foldl (sg P) (List.replicate 64 0)
theorem pw_le {P : List Nat} (h : IsTab P) (m : Int) : pw P m ≤ 1099511627776 := by
  unfold pw
  by_cases hm : 0 ≤ m ∧ m < 64
  · rw [if_pos hm]
    have hn : m.toNat < P.length := by rw [h.len]; omega
    rw [List.getD_eq_getElem?_getD, List.getElem?_eq_getElem hn]
    exact h.le _ (List.getElem_mem hn)
  · rw [if_neg hm]; exact Nat.zero_le _
theorem set_le {P : List Nat} {b : Nat} (h : ∀ p ∈ P, p ≤ b) {i x : Nat} (hx : x ≤ b) : ∀ p ∈ P.set i x, p ≤ b := by
  intro p hp
  rcases List.mem_or_eq_of_mem_set hp with h1 | h1
  · exact h p h1
  · rw [h1]; exact hx
theorem IsTab.sg {P Q : List Nat} (h : IsTab P) (hQ : IsTab Q) (m : Int) : IsTab (sg P Q m) := by
  unfold Go.Proofs.YtmodikcghlbigaaDoor.sg
  by_cases hp : 0 < pw P m
  · rw [if_pos hp]; exact ⟨by rw [List.length_set]; exact hQ.len, set_le hQ.le (pw_le h m)⟩
  · rw [if_neg hp]; exact hQ
theorem isTab_zero : IsTab (List.replicate 64 0) := ⟨by simp, fun p hp => by rw [List.eq_of_mem_replicate hp]; exact Nat.zero_le _⟩
theorem sig_take (P : List Nat) (S : List Int) (i : Nat) (hi : i < S.length) : sig P (S.take (i + 1)) = sg P (sig P (S.take i)) S[i] := by
  unfold sig
  rw [← List.take_append_getElem hi, List.foldl_append]; rfl

theorem exec_load_row {P : Program} {o : Oper} {a : Act} {w : World} (ty : TypeId) (x : Operand) (ho : o.op = .load ty x) (g : Nat) (hx : a.eval x = .pointer (some ⟨g, 0, none⟩)) (t : TypeId) (cs : Array Value) (fr : Nat × Nat) (d : TypeDesc) (hg : w.heap[g]? = some (.cells cs t fr))
    (hu : P.underlying ty = some d) (hd : (match d with | .struct _ | .array _ _ => true | _ => false) = true) (hi : (P.info? ty).map (·.size) = some cs.size) : (execOp a.eval o).run P w = .ok (.value (.agg cs)) w := by
  unfold execOp
  simp only [ho, hx, Instr.loadAt, Instr.sureAddr, Sem.run_bind, Sem.run_pure, Result.andThen_ok, run_loadVar_row w g t ty cs fr d hg hu hd hi]

/-- While the signers are gone through: i are. -/
structure QuoR (w : World) (P : List Nat) (A : Array Value) (S : List Int) (i : Nat) (Q : List Nat) (wr : World) : Prop where
  val : Q = sig P (S.take i)
  tab : IsTab Q
  row : RowAt .i64 53 wr (w.heap.size + 1) Q
  own : wr.heap[w.heap.size]? = some (.cells A 53 (0, 0))
  m : Below w.heap.size w wr
theorem QuoR.below {w : World} {P : List Nat} {A : Array Value} {S : List Int} {i : Nat} {Q : List Nat} {wr w' : World} (h : QuoR w P A S i Q wr) (hb : Below wr.heap.size wr w') : QuoR w P A S i Q w' :=
  ⟨h.val, h.tab, (hb.block _ h.row.lt).trans h.row, (hb.block _ (Array.getElem?_eq_some_iff.1 h.own).1).trans h.own, h.m.trans (hb.mono h.m.size)⟩

set_option maxRecDepth 20000 in
set_option maxHeartbeats 8000000 in
theorem quorum_any (P : List Nat) (ao : Option Addr) (cap : Nat) (S : List Int) (w : World) (hP : IsTab P) (hS : IntsAt w ao S) (hl : S.length ≤ 1000000) :
    Calls Tryd.prog 43 #[tval P, .slice ao S.length cap] w fun r w' => r = .returned (.bool (decide (2 * tsum P < 3 * tsum (sig P S)))) ∧ Below w.heap.size w w' := by
  have hpow : ∀ (m : Int) (w : World), Calls Tryd.prog 58 #[tval P, .int .i64 m] w fun r w' => r = .returned (.int .i64 (pw P m : Int)) ∧ Below w.heap.size w w' := fun m w => power_any P m w hP
  have htot : ∀ (Q : List Nat) (w : World), IsTab Q → Calls Tryd.prog 22 #[tval Q] w fun r w' => r = .returned (.int .i64 (tsum Q : Int)) ∧ Below w.heap.size w w' := fun Q w h => total_any Q w h
  have htP := htot P
  obtain ⟨n, hn⟩ : ∃ n, S.length = n := ⟨_, rfl⟩
  rw [hn] at hl ⊢
  have Hn := Lib.hid hn
  have HS := Lib.hid hS
  unfold tval at hpow htP ⊢
  obtain ⟨A, hA⟩ : ∃ A, A = (nums .i64 P).toArray := ⟨_, rfl⟩
  have hAs := hP.row hA
  rw [← hA] at hpow htP ⊢
  have Hpow := Lib.hid hpow
  have HtP := Lib.hid (fun w => htP w hP)
  have Htot := Lib.hid htot
  have HP := Lib.hid hP
  obtain ⟨Z, hZ⟩ : ∃ Z, Z = (nums .i64 (List.replicate 64 0)).toArray := ⟨_, rfl⟩
  have hz : ∀ w : World, (zeroValue 53).run Tryd.prog w = .ok (.agg Z) w := by rw [hZ]; exact fun _ => by kernel_rfl
  have HZ := Lib.hid hZ
  have hi28 : ∀ w : World, w.heap[w.heap.size]? = none := fun w => Array.getElem?_eq_none (Nat.le_refl _)
  clear hpow htP htot hA hn hS hP hZ hi28
  go_enter Tryd.func43, Tryd.ntmps43
  go_upto_region 2 with fail
  obtain ⟨W, hW⟩ : ∃ W, W = (w.alloc (.cells A 53)).alloc (.cells Z 53) := ⟨_, rfl⟩
  have hR0 : QuoR w P A S 0 (List.replicate 64 0) W := by
    rw [hW]
    refine ⟨rfl, isTab_zero, ?_, ?_, ((Below.refl _ _).alloc (Nat.le_refl _) _).alloc (by simp) _⟩
    · have := heap_alloc_new (w.alloc (.cells A 53)) (.cells Z 53)
      rw [World.size_alloc] at this
      rw [HZ.out] at this; rw [HZ.out]; exact this
    · exact (Below.heap_alloc _ _ _ (by simp)).trans (heap_alloc_new w _)
  rw [← hW]
  clear hW hz HZ
  go_wp2_with fail
  go_loopw [11] (fun s11 wr => ∃ (i : Nat) (Q : List Nat), i ≤ n ∧ s11 = .int .i64 (i : Int) ∧ QuoR w P A S i Q wr) (fun i _ => n - (intOf i).toNat)
  case atStart => exact ⟨0, _, by omega, rfl, hR0⟩
  case round =>
    clear hR0
    obtain ⟨i, Q, hi, rfl, hR⟩ := hrel
    by_cases hin : i < n
    · have hil : i < S.length := by rw [Hn.out]; exact hin
      obtain ⟨bs, off, rfl, hbs, c1⟩ := (HS.out.old hR.m) i hil
      obtain ⟨m, hm⟩ : ∃ m, m = S[i] := ⟨_, rfl⟩
      rw [← hm] at c1
      have hsg := sig_take P S i hil
      rw [← hm, ← hR.val] at hsg
      have Hsg := Lib.hid hsg
      have i1 : (i : Int) < n := by omega
      have i0 : (0 : Int) ≤ i := by omega
      have own := hR.own
      have HR := Lib.hid hR
      obtain ⟨x, hx⟩ : ∃ x, x = pw P m := ⟨_, rfl⟩
      have hpm := Hpow.out m wr
      rw [← hx] at hpm
      have Hx := Lib.hid hx
      clear hm hsg hR hx
      go_wp2_with (refine wpList_load_row rfl 53 (.tmp 2) rfl w.heap.size rfl 53 A (0, 0) _ own Tryd.underlying53 rfl ?s1 ?_)
      case s1 => rw [hAs]; kernel_rfl
      refine hpm.mono ?_
      clear hpm own
      rintro r w3 ⟨rfl, hb⟩
      have hR3 := HR.out.below hb
      clear hb c1 HR
      by_cases hx0 : 0 < x
      · have hm64 : 0 ≤ m ∧ m < 64 := by
          apply Classical.byContradiction; intro h
          have := Hx.out; unfold pw at this; rw [if_neg h] at this; omega
        obtain ⟨k, rfl⟩ : ∃ k : Nat, m = (k : Int) := ⟨m.toNat, by omega⟩
        have hkl : k < Q.length := by rw [hR3.tab.len]; omega
        have cS := hR3.row.cell k hkl
        have fS := hR3.row.froz k
        generalize Q[k] = old at cS
        have hrow := hR3.row.set k x
        have hQ2 : Hid (QuoR w P A S (i + 1) (Q.set k x) (w3.setCell ⟨w.heap.size + 1, k, none⟩ (.int .i64 (x : Int)))) := Lib.hid (by
          have e : sg P Q (k : Int) = Q.set k x := by unfold sg; rw [← Hx.out, if_pos hx0, Int.toNat_natCast]
          refine ⟨by rw [Hsg.out, e], by rw [← e]; exact HP.out.sg hR3.tab _, hrow, ?_, hR3.m.setCell (p := ⟨w.heap.size + 1, k, none⟩) (by show w.heap.size ≤ w.heap.size + 1; omega) _⟩
          exact (Below.heap_setCell _ _ _ _ (by show w.heap.size ≠ w.heap.size + 1; omega)).trans hR3.own)
        have b0 : (0 : Int) < x := by omega
        have k0 : (0 : Int) ≤ k := by omega
        have k1 : (k : Int) < 64 := by omega
        clear hR3 hrow hkl hm64
        go_wp2_with fail
        go_roundw
        case rel => exact ⟨i + 1, _, by omega, by go_num, hQ2.out⟩
        case measure => simp [intOf]; omega
      · have hQ2 : Hid (QuoR w P A S (i + 1) Q w3) := Lib.hid (by
          have e : sg P Q m = Q := by unfold sg; rw [← Hx.out, if_neg hx0]
          exact ⟨by rw [Hsg.out, e], hR3.tab, hR3.row, hR3.own, hR3.m⟩)
        have b0 : ¬ (0 : Int) < x := by omega
        clear hR3
        go_wp2_with fail
        go_roundw
        case rel => exact ⟨i + 1, Q, by omega, by go_num, hQ2.out⟩
        case measure => simp [intOf]; omega
    · obtain rfl : i = n := by omega
      have hv := hR.val
      rw [List.take_of_length_le (by rw [Hn.out]; exact Nat.le_refl _)] at hv
      obtain ⟨AQ, hAQ⟩ : ∃ AQ, AQ = (nums .i64 Q).toArray := ⟨_, rfl⟩
      have hQs := hR.tab.row hAQ
      have hrow : wr.heap[w.heap.size + 1]? = some (.cells AQ 53 (0, 0)) := by rw [hAQ]; exact hR.row
      have htQ := fun w => Htot.out Q w hR.tab
      have hq1 := hR.tab.sumle
      have hp1 := HP.out.sumle
      unfold tval at htQ
      rw [← hAQ] at htQ
      obtain ⟨tq, htq⟩ : ∃ t, t = tsum Q := ⟨_, rfl⟩
      have htP2 := HtP.out
      obtain ⟨tp, htp⟩ : ∃ t, t = tsum P := ⟨_, rfl⟩
      rw [← htq] at htQ hq1
      rw [← htp] at htP2 hp1
      clear HtP
      have HtQ := Lib.hid htQ
      have HtP := Lib.hid htP2
      have wq : IntKind.i64.wrap (3 * (tq : Int)) = 3 * (tq : Int) := by rw [IntKind.wrap_i64]; omega
      have wp' : IntKind.i64.wrap (2 * (tp : Int)) = 2 * (tp : Int) := by rw [IntKind.wrap_i64]; omega
      obtain ⟨b, hb1, hb2⟩ : ∃ b : Bool, decide (2 * (tp : Int) < 3 * (tq : Int)) = b ∧ decide (2 * tp < 3 * tq) = b := by
        by_cases h : 2 * tp < 3 * tq
        · exact ⟨true, by simp; omega, by simp; omega⟩
        · exact ⟨false, by simp; omega, by simp; omega⟩
      have Hb2 : Hid (decide (2 * tsum P < 3 * tsum (sig P S)) = b) := Lib.hid (by rw [← hv, ← htp, ← htq]; exact hb2)
      have hB := hR.m
      clear hv hAQ htQ htP2 htq htp hb2 hin hi
      go_upto_region 9 with fail
      refine wp_region_vals (fun t v _ => match t with
        | 25 => v = .agg AQ
        | 26 => v = .int .i64 (tq : Int)
        | 27 => v = .int .i64 (3 * (tq : Int))
        | 28 => v = .agg A
        | 29 => v = .int .i64 (tp : Int)
        | 30 => v = .int .i64 (2 * (tp : Int))
        | 31 => v = .bool b
        | 4 => v = .bool b
        | _ => True) (fun w' => Below wr.heap.size wr w') 32 (by kernel_rfl) (by decide +kernel) rfl (Below.refl _ _).drew ?_ ?_
      · skip
        refine OweAll.cons (owes_val rfl rfl fun a u1 ha hG hV => ?_) ?_
        · skip
          have h5 : a.eval (.tmp 5) = .pointer (some ⟨w.heap.size + 1, 0, none⟩) := (ha.outer 5 (by decide +kernel)).trans rfl
          exact ⟨.agg AQ, wanted_free rfl, exec_load_row 53 (.tmp 5) rfl _ h5 53 AQ (0, 0) _ ((hG.block _ hR.row.lt).trans hrow) Tryd.underlying53 rfl (by rw [hQs]; kernel_rfl), rfl⟩
        refine OweAll.cons (owes_call rfl rfl 22 fun a u1 ha hG hV => ?_) ?_
        · skip
          have h25 : a.tmps.getD 25 undef = .agg AQ := hV.get 25 (by decide +kernel)
          refine ⟨#[.agg AQ], wanted_free rfl, by simp [execOp, resolve, invoke, go_sem, h25], ?_⟩
          refine (HtQ.out u1).mono ?_
          rintro r u2 ⟨rfl, hb⟩; exact ⟨_, rfl, rfl, hG.trans (hb.mono hG.size), fun _ _ h => h⟩
        refine OweAll.cons (owes_val rfl rfl fun a u1 ha hG hV => ?_) ?_
        · skip
          have h26 : a.tmps.getD 26 undef = .int .i64 (tq : Int) := hV.get 26 (by decide +kernel)
          exact ⟨.int .i64 (3 * (tq : Int)), wanted_free rfl, by simp [execOp, go_sem, h26, wq], rfl⟩
        refine OweAll.cons (owes_val rfl rfl fun a u1 ha hG hV => ?_) ?_
        · skip
          have h2 : a.eval (.tmp 2) = .pointer (some ⟨w.heap.size, 0, none⟩) := (ha.outer 2 (by decide +kernel)).trans rfl
          exact ⟨.agg A, wanted_free rfl, exec_load_row 53 (.tmp 2) rfl _ h2 53 A (0, 0) _ ((hG.block _ (Array.getElem?_eq_some_iff.1 hR.own).1).trans hR.own) Tryd.underlying53 rfl (by rw [hAs]; kernel_rfl), rfl⟩
        refine OweAll.cons (owes_call rfl rfl 22 fun a u1 ha hG hV => ?_) ?_
        · skip
          have h28 : a.tmps.getD 28 undef = .agg A := hV.get 28 (by decide +kernel)
          refine ⟨#[.agg A], wanted_free rfl, by simp [execOp, resolve, invoke, go_sem, h28], ?_⟩
          refine (HtP.out u1).mono ?_
          rintro r u2 ⟨rfl, hb⟩; exact ⟨_, rfl, rfl, hG.trans (hb.mono hG.size), fun _ _ h => h⟩
        refine OweAll.cons (owes_val rfl rfl fun a u1 ha hG hV => ?_) ?_
        · skip
          have h29 : a.tmps.getD 29 undef = .int .i64 (tp : Int) := hV.get 29 (by decide +kernel)
          exact ⟨.int .i64 (2 * (tp : Int)), wanted_free rfl, by simp [execOp, go_sem, h29, wp'], rfl⟩
        refine OweAll.cons (owes_val rfl rfl fun a u1 ha hG hV => ?_) ?_
        · skip
          have h27 : a.tmps.getD 27 undef = .int .i64 (3 * (tq : Int)) := hV.get 27 (by decide +kernel)
          have h30 : a.tmps.getD 30 undef = .int .i64 (2 * (tp : Int)) := hV.get 30 (by decide +kernel)
          exact ⟨.bool b, wanted_free rfl, by simp [execOp, go_sem, h27, h30, hb1], rfl⟩
        refine OweAll.cons (owes_val rfl rfl fun a u1 ha hG hV => ?_) ?_
        · skip
          have h31 : a.tmps.getD 31 undef = .bool b := hV.get 31 (by decide +kernel)
          exact ⟨.bool b, wanted_free rfl, by simp [execOp, go_sem, h31], rfl⟩
        exact OweAll.nil
      · intro a u1 ha hG hv
        rename_i hK
        have h4 : a.tmps.getD 4 undef = .bool b := hv 7 _ 4 rfl rfl
        refine hK _ _ (wp_ret ?_)
        show bodyPost Tryd.prog Tryd.f43 _ .ret a u1
        refine bodyPost_ret (results_tmp (t := 4) rfl _ _ _) ha.defers ?_
        rw [h4]
        exact ⟨by rw [Hb2.out], hB.trans (hG.mono hB.size)⟩
end Go.Proofs.YtmodikcghlbigaaDoor

namespace Go.Proofs.YtmodikcghlbigaaDoor
open Go.RowKit

/-- The slice holds the entries. -/
def EntsAt (w : World) (ao : Option Addr) (E : List (Nat × Nat)) : Prop :=
  ∀ j (h : j < E.length), ∃ bs off, ao = some ⟨bs, off, none⟩ ∧ bs < w.heap.size ∧ w.cell? ⟨bs, off + j * 2, none⟩ = some (.int .i64 ((E[j].1 : Nat) : Int)) ∧ w.cell? ⟨bs, off + j * 2 + 1, none⟩ = some (.int .i64 ((E[j].2 : Nat) : Int))
theorem EntsAt.old {w w' : World} {ao : Option Addr} {E : List (Nat × Nat)} (h : EntsAt w ao E) (hb : Below w.heap.size w w') : EntsAt w' ao E := by
  intro j hj
  obtain ⟨bs, off, e, hlt, c1, c2⟩ := h j hj
  exact ⟨bs, off, e, Nat.lt_of_lt_of_le hlt hb.size, (hb.cell (p := ⟨bs, off + j * 2, none⟩) hlt).trans c1, (hb.cell (p := ⟨bs, off + j * 2 + 1, none⟩) hlt).trans c2⟩
/-- Entries that may be: rising miners, powers from a least one on. -/
structure EntsOk (E : List (Nat × Nat)) (least : Nat) : Prop where
  m : ∀ e ∈ E, e.1 < 64
  p : ∀ e ∈ E, least ≤ e.2 ∧ e.2 ≤ 1099511627776
  up : ∀ j (h : j + 1 < E.length), E[j].1 < E[j + 1].1

set_option maxRecDepth 20000 in
set_option maxHeartbeats 4000000 in
theorem may_yes (ao : Option Addr) (cap least : Nat) (E : List (Nat × Nat)) (w : World) (hS : EntsAt w ao E) (hok : EntsOk E least) (hl : E.length ≤ 64) :
    Calls Tryd.prog 41 #[.slice ao E.length cap, .int .i64 (least : Int)] w fun r w' => r = .returned (.bool true) ∧ Below w.heap.size w w' := by
  obtain ⟨n, hn⟩ : ∃ n, E.length = n := ⟨_, rfl⟩
  rw [hn] at hl ⊢
  have Hn := Lib.hid hn
  have HS := Lib.hid hS
  have Hok := Lib.hid hok
  clear hn hS hok
  go_enter Tryd.func41, Tryd.ntmps41
  go_wp2_with fail
  go_loopw [5, 10] (fun s5 s10 wr => ∃ (i : Nat) (z : Int), i ≤ n ∧ s5 = .int .i64 z ∧ s10 = .int .i64 (i : Int) ∧ Hid (∀ h : i < E.length, z < (E[i].1 : Int)) ∧ Below w.heap.size w wr) (fun _ i _ => n - (intOf i).toNat)
  case atStart => exact ⟨0, -1, by omega, rfl, rfl, Lib.hid (fun h => by omega), Below.refl _ _⟩
  case round =>
    obtain ⟨i, z, hi, rfl, rfl, hz, hB⟩ := hrel
    by_cases hin : i < n
    · have hil : i < E.length := by rw [Hn.out]; exact hin
      obtain ⟨bs, off, rfl, hbs, c1, c2⟩ := (HS.out.old hB) i hil
      have hm := Hok.out.m E[i] (List.getElem_mem hil)
      have hp := Hok.out.p E[i] (List.getElem_mem hil)
      have hzl := hz.out hil
      have hz2 : Hid (∀ h : i + 1 < E.length, ((E[i].1 : Nat) : Int) < (E[i + 1].1 : Int)) := Lib.hid (fun h => by have := Hok.out.up i h; omega)
      obtain ⟨m, hm0⟩ : ∃ m, m = E[i].1 := ⟨_, rfl⟩
      obtain ⟨p, hp0⟩ : ∃ m, m = E[i].2 := ⟨_, rfl⟩
      rw [← hm0] at hm hzl c1
      rw [← hp0] at hp c2
      have hz3 : Hid (∀ h : i + 1 < E.length, (m : Int) < (E[i + 1].1 : Int)) := Lib.hid (fun h => by have := hz2.out h; rw [← hm0] at this; exact this)
      have i1 : (i : Int) < n := by omega
      have i0 : (0 : Int) ≤ i := by omega
      have b1 : ¬ (m : Int) ≤ z := by omega
      have b2 : ¬ (64 : Int) ≤ m := by omega
      have b2' : (m : Int) < 64 := by omega
      have b3 : ¬ (p : Int) < least := by omega
      have b4 : ¬ (1099511627776 : Int) < p := by omega
      have hB2 : Below w.heap.size w (wr.alloc (.cells #[.int .i64 (m : Int), .int .i64 (p : Int)] 57)) := hB.alloc hB.size _
      clear hz hz2 hm0 hp0 hm hp hzl
      go_wp2_with fail
      go_roundw
      case rel => exact ⟨i + 1, (m : Int), by omega, rfl, by go_num, hz3, hB2⟩
      case measure => simp [intOf]; omega
    · obtain rfl : i = n := by omega
      clear hz
      go_wp2_with fail
      go_ret
      exact ⟨rfl, hB⟩

/-- The table in which each miner of E has that power. -/
def wth (P : List Nat) (E : List (Nat × Nat)) : List Nat := E.foldl (fun Q e => Q.set e.1 e.2) P
theorem wth_take (P : List Nat) (E : List (Nat × Nat)) (i : Nat) (hi : i < E.length) : wth P (E.take (i + 1)) = (wth P (E.take i)).set E[i].1 E[i].2 := by
  unfold wth
  rw [← List.take_append_getElem hi, List.foldl_append]; rfl
theorem wth_len (P : List Nat) (E : List (Nat × Nat)) : (wth P E).length = P.length := by
  unfold wth
  induction E generalizing P with
  | nil => rfl
  | cons e E ih => rw [List.foldl_cons, ih]; simp
theorem wth_le {P : List Nat} {E : List (Nat × Nat)} {b : Nat} (hP : ∀ p ∈ P, p ≤ b) (hE : ∀ e ∈ E, e.2 ≤ b) : ∀ p ∈ wth P E, p ≤ b := by
  unfold wth
  induction E generalizing P with
  | nil => exact hP
  | cons e E ih => rw [List.foldl_cons]; exact ih (set_le hP (hE e (by simp))) (fun f hf => hE f (by simp [hf]))
theorem IsTab.wth {P : List Nat} {E : List (Nat × Nat)} {least : Nat} (h : IsTab P) (hok : EntsOk E least) : IsTab (wth P E) := ⟨by rw [wth_len]; exact h.len, wth_le h.le (fun e he => (hok.p e he).2)⟩

structure WthR (w : World) (P : List Nat) (Z : Array Value) (E : List (Nat × Nat)) (i : Nat) (Q : List Nat) (wr : World) : Prop where
  val : Q = wth P (E.take i)
  len : Q.length = 64
  row : RowAt .i64 53 wr w.heap.size Q
  res : wr.heap[w.heap.size + 1]? = some (.cells Z 53 (0, 0))
  m : Below w.heap.size w wr

set_option maxRecDepth 20000 in
set_option maxHeartbeats 8000000 in
theorem with_any (P : List Nat) (ao : Option Addr) (cap least : Nat) (E : List (Nat × Nat)) (w : World) (hP : IsTab P) (hS : EntsAt w ao E) (hok : EntsOk E least) (hl : E.length ≤ 64) :
    Calls Tryd.prog 42 #[tval P, .slice ao E.length cap] w fun r w' => r = .returned (tval (wth P E)) ∧ Below w.heap.size w w' := by
  obtain ⟨n, hn⟩ : ∃ n, E.length = n := ⟨_, rfl⟩
  rw [hn] at hl ⊢
  have Hn := Lib.hid hn
  have HS := Lib.hid hS
  have Hok := Lib.hid hok
  unfold tval
  obtain ⟨A, hA⟩ : ∃ A, A = (nums .i64 P).toArray := ⟨_, rfl⟩
  rw [← hA]
  have HA := Lib.hid hA
  obtain ⟨Z, hZ⟩ : ∃ Z, Z = (nums .i64 (List.replicate 64 0)).toArray := ⟨_, rfl⟩
  have hz : ∀ w : World, (zeroValue 53).run Tryd.prog w = .ok (.agg Z) w := by rw [hZ]; exact fun _ => by kernel_rfl
  have hPl := hP.len
  have HZ := Lib.hid hZ
  clear hn hS hok hA hZ
  go_enter Tryd.func42, Tryd.ntmps42
  go_upto_region 1 with fail
  obtain ⟨W, hW⟩ : ∃ W, W = (w.alloc (.cells A 53)).alloc (.cells Z 53) := ⟨_, rfl⟩
  have hR0 : WthR w P Z E 0 P W := by
    rw [hW]
    refine ⟨rfl, hPl, ?_, ?_, ((Below.refl _ _).alloc (Nat.le_refl _) _).alloc (by simp) _⟩
    · rw [HA.out]; exact (Below.heap_alloc _ _ _ (by simp)).trans (heap_alloc_new w _)
    · have := heap_alloc_new (w.alloc (.cells A 53)) (.cells Z 53)
      rw [World.size_alloc] at this; exact this
  rw [← hW]
  clear hW hz hP hPl
  go_wp2_with fail
  go_loopw [9] (fun s9 wr => ∃ (i : Nat) (Q : List Nat), i ≤ n ∧ s9 = .int .i64 (i : Int) ∧ WthR w P Z E i Q wr) (fun i _ => n - (intOf i).toNat)
  case atStart => exact ⟨0, _, by omega, rfl, hR0⟩
  case round =>
    clear hR0
    obtain ⟨i, Q, hi, rfl, hR⟩ := hrel
    by_cases hin : i < n
    · have hil : i < E.length := by rw [Hn.out]; exact hin
      obtain ⟨bs, off, rfl, hbs, c1, c2⟩ := (HS.out.old hR.m) i hil
      have hm := Hok.out.m E[i] (List.getElem_mem hil)
      have hv := wth_take P E i hil
      rw [← hR.val] at hv
      obtain ⟨m, hm0⟩ : ∃ m, m = E[i].1 := ⟨_, rfl⟩
      obtain ⟨p, hp0⟩ : ∃ m, m = E[i].2 := ⟨_, rfl⟩
      rw [← hm0] at hm c1 hv
      rw [← hp0] at c2 hv
      have i1 : (i : Int) < n := by omega
      have i0 : (0 : Int) ≤ i := by omega
      have m0 : (0 : Int) ≤ m := by omega
      have m1 : (m : Int) < 64 := by omega
      have hml : m < Q.length := by rw [hR.len]; exact hm
      obtain ⟨W3, hW3⟩ : ∃ W, W = wr.alloc (.cells #[.int .i64 (m : Int), .int .i64 (p : Int)] 57) := ⟨_, rfl⟩
      have hb3 : Below wr.heap.size wr W3 := by rw [hW3]; exact (Below.refl _ _).alloc (Nat.le_refl _) _
      have hrow : RowAt .i64 53 W3 w.heap.size Q := (hb3.block _ hR.row.lt).trans hR.row
      have hres : W3.heap[w.heap.size + 1]? = some (.cells Z 53 (0, 0)) := (hb3.block _ (Array.getElem?_eq_some_iff.1 hR.res).1).trans hR.res
      have hB3 := hR.m.trans (hb3.mono hR.m.size)
      have hrw : wr.heap.size < W3.heap.size := by rw [hW3]; simp
      have hst : W3.heap[wr.heap.size]? = some (.cells #[.int .i64 (m : Int), .int .i64 (p : Int)] 57 (0, 0)) := by rw [hW3]; exact heap_alloc_new _ _
      have s0 : W3.cell? ⟨wr.heap.size, 0, none⟩ = some (.int .i64 (m : Int)) := by rw [cell_of_row W3 wr.heap.size 0 _ 57 (0, 0) hst]; rfl
      have s1 : W3.cell? ⟨wr.heap.size, 1, none⟩ = some (.int .i64 (p : Int)) := by rw [cell_of_row W3 wr.heap.size 1 _ 57 (0, 0) hst]; rfl
      have cS := hrow.cell m hml
      have fS := hrow.froz m
      generalize Q[m] = old at cS
      have hN : Hid (WthR w P Z E (i + 1) (Q.set m p) (W3.setCell ⟨w.heap.size, m, none⟩ (.int .i64 (p : Int)))) := Lib.hid
        ⟨hv.symm, by rw [List.length_set]; exact hR.len, hrow.set m p, (Below.heap_setCell _ _ _ _ (by show w.heap.size + 1 ≠ w.heap.size; omega)).trans hres, hB3.setCell (p := ⟨w.heap.size, m, none⟩) (Nat.le_refl _) _⟩
      clear hm0 hp0 hv hm hR hrow hres hB3 hb3 hml hrw hst
      go_upto_region 4 with fail
      rw [← hW3]
      clear hW3
      go_wp2_with fail
      go_roundw
      case rel => exact ⟨i + 1, _, by omega, by go_num, hN.out⟩
      case measure => simp [intOf]; omega
    · obtain rfl : i = n := by omega
      have hv := hR.val
      rw [List.take_of_length_le (by rw [Hn.out]; exact Nat.le_refl _)] at hv
      subst hv
      obtain ⟨AQ, hAQ⟩ : ∃ AQ, AQ = (nums .i64 (wth P E)).toArray := ⟨_, rfl⟩
      have hQs : AQ.size = 64 := by rw [hAQ]; simp [nums_len, hR.len]
      have hrow : wr.heap[w.heap.size]? = some (.cells AQ 53 (0, 0)) := by rw [hAQ]; exact hR.row
      have hres := hR.res
      have hB := hR.m
      have hZs : Z.size = 64 := by rw [HZ.out]; simp [nums_len]
      have HAQ := Lib.hid hAQ
      clear hR hAQ
      go_wp2_with (first | (refine wpList_load_row rfl 53 (.tmp 2) rfl w.heap.size rfl 53 AQ (0, 0) _ hrow Tryd.underlying53 rfl ?s1 ?_) | (refine wpList_store_row rfl rfl 53 (.tmp 4) (.tmp 20) rfl (w.heap.size + 1) rfl 53 Z AQ rfl hres ?s2 ?s3 ?s4 ?_))
      case s1 => rw [hQs]; kernel_rfl
      case s2 => rw [hZs, hQs]
      case s3 => rw [hQs]; kernel_rfl
      case s4 => rw [HAQ.out]; intro v hv; exact nums_one .i64 _ v (by simpa using hv)
      have hg := setRow_heap wr (w.heap.size + 1) Z AQ 53 (0, 0) hres
      refine bodyPost_ret (v := .agg AQ) (results_cell_row Tryd.results42 _ _ (w.heap.size + 1) 53 AQ (0, 0) _ rfl hg Tryd.underlying53 rfl ?_) rfl ⟨by rw [HAQ.out], ?_⟩
      · rw [hQs]; kernel_rfl
      · exact ((Mod.of_below hB).setRow AQ).to_below (Nat.le_refl _) (by rintro k hk (h | h) <;> omega)
end Go.Proofs.YtmodikcghlbigaaDoor

namespace Go.Proofs.YtmodikcghlbigaaDoor
open Go.RowKit

set_option maxRecDepth 20000 in
set_option maxHeartbeats 8000000 in
theorem new_any (ao : Option Addr) (cap : Nat) (E : List (Nat × Nat)) (w : World) (hS : EntsAt w ao E) (hok : EntsOk E 1) (hl : E.length ≤ 64) (h0 : E ≠ []) :
    Calls Tryd.prog 20 #[.slice ao E.length cap] w fun r w' => r = .returned (.tuple #[tval (wth (List.replicate 64 0) E), .int .i64 0]) ∧ Below w.heap.size w w' := by
  have h0' : 0 < E.length := List.length_pos_iff.2 h0
  have hmay := fun w h => may_yes ao cap 1 E w h hok hl
  have hwith := fun w h => with_any (List.replicate 64 0) ao cap 1 E w isTab_zero h hok hl
  have htab := isTab_zero.wth hok
  obtain ⟨n, hn⟩ : ∃ n, E.length = n := ⟨_, rfl⟩
  rw [hn] at hl h0' hmay hwith ⊢
  have HS := Lib.hid hS
  unfold tval at hwith ⊢
  obtain ⟨Z, hZ⟩ : ∃ Z, Z = (nums .i64 (List.replicate 64 0)).toArray := ⟨_, rfl⟩
  have hz : ∀ w : World, (zeroValue 53).run Tryd.prog w = .ok (.agg Z) w := by rw [hZ]; exact fun _ => by kernel_rfl
  obtain ⟨AQ, hAQ⟩ : ∃ AQ, AQ = (nums .i64 (wth (List.replicate 64 0) E)).toArray := ⟨_, rfl⟩
  have hZs : Z.size = 64 := by rw [hZ]; simp [nums_len]
  have hQs : AQ.size = 64 := htab.row hAQ
  have h1 : Hid (∀ v ∈ AQ.toList, v.oneCell' = true) := Lib.hid (by rw [hAQ]; intro v hv; exact nums_one .i64 _ v (by simpa using hv))
  rw [← hZ, ← hAQ] at hwith
  rw [← hAQ]
  have Hmay := Lib.hid hmay
  have Hwith := Lib.hid hwith
  have b1 : ¬ (64 : Int) < n := by omega
  have b2 : ((n : Int) == 0) = false := by rw [beq_eq_false_iff_ne]; omega
  have hrow : (w.alloc (.cells Z 53)).heap[w.heap.size]? = some (.cells Z 53 (0, 0)) := heap_alloc_new _ _
  have hB : Below w.heap.size w (w.alloc (.cells Z 53)) := (Below.refl _ _).alloc (Nat.le_refl _) _
  clear hS hok hmay hwith htab hn hZ hAQ h0 h0'
  go_enter Tryd.func20, Tryd.ntmps20
  go_upto_region 1 with fail
  generalize w.alloc (.cells Z 53) = W at hrow hB ⊢
  go_wp2_with fail
  refine (Hmay.out W (HS.out.old hB)).mono ?_
  rintro r w2 ⟨rfl, hb⟩
  have hrow2 := (hb.block _ (Array.getElem?_eq_some_iff.1 hrow).1).trans hrow
  replace hB := hB.trans (hb.mono hB.size)
  clear hb hrow
  go_wp2_with fail
  refine (Hwith.out w2 (HS.out.old hB)).mono ?_
  rintro r w3 ⟨rfl, hb⟩
  have hrow3 := (hb.block _ (Array.getElem?_eq_some_iff.1 hrow2).1).trans hrow2
  replace hB := hB.trans (hb.mono hB.size)
  clear hb hrow2
  go_wp2_with (refine wpList_store_row rfl rfl 53 (.tmp 2) (.tmp 21) rfl w.heap.size rfl 53 Z AQ rfl hrow3 ?s2 ?s3 ?s4 ?_)
  case s2 => rw [hZs, hQs]
  case s3 => rw [hQs]; kernel_rfl
  case s4 => exact h1.out
  have hg := setRow_heap w3 w.heap.size Z AQ 53 (0, 0) hrow3
  have hl2 := run_loadVar_row (P := Tryd.prog) (w3.setRow w.heap.size AQ) w.heap.size 53 53 AQ (0, 0) _ hg Tryd.underlying53 rfl (by rw [hQs]; kernel_rfl)
  refine bodyPost_ret (v := .tuple #[.agg AQ, .int .i64 0]) (by simp [results, Tryd.results20, asAddr, hl2]) rfl ⟨rfl, ?_⟩
  exact ((Mod.of_below hB).setRow AQ).to_below (Nat.le_refl _) (by rintro k hk (h | h) <;> omega)
end Go.Proofs.YtmodikcghlbigaaDoor
