/- The law CoxswainFields. -/
import Derived.Test.YtdahkemeoefndaaDoorM4
namespace Go.Proofs.YtdahkemeoefndaaDoor
open Go.RowKit

/-- What the slots of the writing region hold. -/
def VF1 (s Z yb : List UInt8) (x i lM cM b g bs2 o2 : Nat) : Tmp → Value → World → Prop := fun t v w => match t with
  | 38 => v = .string ⟨s.toArray⟩
  | 39 => v = .pointer (some ⟨b, 0, none⟩)
  | 40 => v = .slice (some ⟨bs2, o2, none⟩) lM cM
  | 41 => v = .int .i64 (i : Int)
  | 42 => v = .pointer (some ⟨bs2, o2 + i, none⟩)
  | 43 => v = .int .u64 (x : Int)
  | 44 => ∃ q c, v = .agg #[.slice q (NN.lb x).length c] ∧ NN.NatIn w q c x
  | 45 => v = .string ⟨yb.toArray⟩
  | 46 => v = .pointer (some ⟨b, 0, none⟩)
  | 47 => v = .slice (some ⟨g, 0, none⟩) 32 32
  | 48 => v = .string ⟨Z.toArray⟩
  | 49 => v = .pointer (some ⟨b, 0, none⟩)
  | _ => True
theorem VF1.keep {s Z yb : List UInt8} {x i lM cM b g bs2 o2 : Nat} {w w' : World} (hm : Wr w w') (t : Tmp) (v : Value) (h : VF1 s Z yb x i lM cM b g bs2 o2 t v w) : VF1 s Z yb x i lM cM b g bs2 o2 t v w' := by
  unfold VF1 at h ⊢
  split at h <;> first | exact h | (obtain ⟨q, c, e, hn⟩ := h; exact ⟨q, c, e, natIn_wr hn hm⟩)
/-- What the slots of the reading region hold. -/
def VF2 (s Z : List UInt8) (C : Array Value) (x i lM cM bI g bs2 o2 : Nat) : Tmp → Value → World → Prop := fun t v w => match t with
  | 77 => v = .string ⟨s.toArray⟩
  | 78 => v = .string ⟨s.toArray⟩
  | 79 => v = Value.bool false
  | 80 => v = Value.bool false
  | 81 => v = Value.bool true
  | 82 => v = Value.bool false
  | 83 => v = Value.bool false
  | 84 => v = Value.bool false
  | 85 => v = .agg C
  | 86 => v = .slice (some ⟨bs2, o2, none⟩) lM cM
  | 87 => v = .int .i64 (i : Int)
  | 88 => v = .pointer (some ⟨bs2, o2 + i, none⟩)
  | 89 => v = .int .u64 (x : Int)
  | 90 => ∃ q c, v = .agg #[.slice q (NN.lb x).length c] ∧ NN.NatIn w q c x
  | 91 => v = .int .i64 0
  | 92 => v = Value.bool false
  | 93 => v = Value.bool false
  | 94 => v = Value.bool false
  | 95 => v = .pointer (some ⟨bI, 0, none⟩)
  | 96 => v = .string ⟨Z.toArray⟩
  | 97 => v = .slice (some ⟨g, 0, none⟩) 32 32
  | 98 => v = .string ⟨Z.toArray⟩
  | 99 => v = Value.bool false
  | 100 => v = Value.bool false
  | _ => True
theorem VF2.keep {s Z : List UInt8} {C : Array Value} {x i lM cM bI g bs2 o2 : Nat} {w w' : World} (hm : Wr w w') (t : Tmp) (v : Value) (h : VF2 s Z C x i lM cM bI g bs2 o2 t v w) : VF2 s Z C x i lM cM bI g bs2 o2 t v w' := by
  unfold VF2 at h ⊢
  split at h <;> first | exact h | (obtain ⟨q, c, e, hn⟩ := h; exact ⟨q, c, e, natIn_wr hn hm⟩)
theorem ext_bytesF (K : List UInt8) (a b : Nat) : (⟨K.toArray⟩ : ByteArray).extract a b = ⟨((K.drop a).take (b - a)).toArray⟩ := by
  apply ByteArray.ext
  simp [List.extract_eq_take_drop]
theorem wr_in {w w' : World} {b : Nat} {s : List UInt8} {e : Int} (h : InAt 83 w b s e) (hm : Mod (· = b) w w') : Wr w w' := hm.mono (fun i _ e => by subst e; exact ⟨_, _, _, h, .inr (.inr rfl)⟩)

theorem exec_load_row {P : Program} {o : Oper} {a : Act} {w : World} (ty : TypeId) (x : Operand) (ho : o.op = .load ty x) (g : Nat) (hx : a.eval x = .pointer (some ⟨g, 0, none⟩)) (t : TypeId) (cs : Array Value) (fr : Nat × Nat) (d : TypeDesc) (hg : w.heap[g]? = some (.cells cs t fr))
    (hu : P.underlying ty = some d) (hd : (match d with | .struct _ | .array _ _ => true | _ => false) = true) (hi : (P.info? ty).map (·.size) = some cs.size) : (execOp a.eval o).run P w = .ok (.value (.agg cs)) w := by
  unfold execOp
  simp only [ho, hx, Instr.loadAt, Instr.sureAddr, Sem.run_bind, Sem.run_pure, Result.andThen_ok, run_loadVar_row w g t ty cs fr d hg hu hd hi]
theorem inAt_old {w w' : World} {b : Nat} {s : List UInt8} {e : Int} (h : InAt 83 w b s e) (hb : Below w.heap.size w w') : InAt 83 w' b s e := (hb.block b (Array.getElem?_eq_some_iff.1 h).1).trans h
/-- The fields of number i. -/
def prF (L : List (List UInt8)) (M : List Nat) (i : Nat) : List UInt8 × List UInt8 := ((L.getD i []).take 50, NN.byts (M.getD i 0))
def prs (L : List (List UInt8)) (M : List Nat) (n : Nat) : List (List UInt8 × List UInt8) := (List.range n).map (prF L M)
theorem prs_succ (L : List (List UInt8)) (M : List Nat) (n : Nat) : prs L M (n + 1) = prs L M n ++ [prF L M n] := by simp [prs, List.range_succ]
theorem prs_ok (L : List (List UInt8)) (M : List Nat) (h : ∀ x ∈ M, x < 18446744073709551616) (n : Nat) (hn : n ≤ M.length) : ∀ p ∈ prs L M n, p.1.length ≤ 50 ∧ p.2.length ≤ 8 := by
  intro p hp
  obtain ⟨i, hi, rfl⟩ := List.mem_map.1 hp
  have hi := List.mem_range.1 hi
  refine ⟨List.length_take_le _ _, byts_len64 _ ?_⟩
  have e : M.getD i 0 = M[i]'(by omega) := by simp [List.getD, show i < M.length by omega]
  rw [e]; exact h _ (List.getElem_mem _)
theorem prs_len (L : List (List UInt8)) (M : List Nat) (n : Nat) : (prs L M n).length = n := by simp [prs]
theorem prs_drop (L : List (List UInt8)) (M : List Nat) (n i : Nat) (h : i < n) : (prs L M n).drop i = prF L M i :: (prs L M n).drop (i + 1) := by
  rw [List.drop_eq_getElem_cons (by rw [prs_len]; exact h)]
  congr 1
  simp [prs]

set_option maxRecDepth 40000 in
set_option maxHeartbeats 16000000 in
theorem fields_any (ao : Option Addr) (cap : Nat) (L : List (List UInt8)) (bo : Option Addr) (capM : Nat) (M : List Nat) (w : World)
    (hL : Rd encS w ao L) (hZ : ∀ s ∈ L, (s.length : Int) ≤ 9223372036854775807) (hn : L.length ≤ 9223372036854775807) (hM : Rd encU w bo M) (hMb : ∀ x ∈ M, x < 18446744073709551616) (hm : M.length ≤ 9223372036854775807) (hT : TabAt w) :
    Calls Tryd.prog 4 #[.slice ao L.length cap, .slice bo M.length capM] w fun r w' => r = .returned (.bool true) ∧ Below w.heap.size w w' := by
  obtain ⟨lL, hlL⟩ : ∃ n, n = L.length := ⟨_, rfl⟩
  obtain ⟨lM, hlM⟩ : ∃ n, n = M.length := ⟨_, rfl⟩
  rw [← hlL] at hn ⊢
  rw [← hlM] at hm ⊢
  have HlL := Lib.hid hlL
  have HlM := Lib.hid hlM
  have HL := Lib.hid hL
  have HZ := Lib.hid hZ
  have HM := Lib.hid hM
  have HMb := Lib.hid hMb
  have HT := Lib.hid hT
  have HO := Lib.hid (OutSt.made w)
  have hb0 : Hid (∃ b, b = w.heap.size) := Lib.hid ⟨_, rfl⟩
  clear hlL hlM hL hZ hM hMb hT
  go_enter Tryd.func4, Tryd.ntmps4
  go_upto_region 2 with fail
  obtain ⟨b, hb⟩ := hb0.out
  rw [← hb] at HO ⊢
  have HB := Lib.hid hb
  generalize w.alloc (.cells #[.slice none 0 0] 44) = W1 at HO ⊢
  clear hb hb0
  go_cut [6] (fun s6 wx => ∃ n : Nat, s6 = .int .i64 (n : Int) ∧ n ≤ lL ∧ n ≤ lM ∧ n ≤ 10 ∧ wx = W1)
  case first =>
    by_cases a1 : lL ≤ lM
    · have a2 : (lL : Int) ≤ lM := by omega
      have a2' : ¬ (lM : Int) < lL := by omega
      by_cases a3 : lL ≤ 10
      · have a4 : (lL : Int) ≤ 10 := by omega
        have a4' : ¬ (10 : Int) < lL := by omega
        go_wp2_with fail
        all_goals (go_meet; first | exact ⟨lL, rfl, by omega, by omega, by omega, rfl⟩ | exact ⟨lM, rfl, by omega, by omega, by omega, rfl⟩ | exact ⟨10, rfl, by omega, by omega, by omega, rfl⟩)
      · have a4 : (10 : Int) < lL := by omega
        have a4' : ¬ (lL : Int) ≤ 10 := by omega
        go_wp2_with fail
        all_goals (go_meet; first | exact ⟨10, rfl, by omega, by omega, by omega, rfl⟩ | exact ⟨lL, rfl, by omega, by omega, by omega, rfl⟩)
    · have a2 : (lM : Int) < lL := by omega
      have a2' : ¬ (lL : Int) ≤ lM := by omega
      by_cases a3 : lM ≤ 10
      · have a4 : (lM : Int) ≤ 10 := by omega
        have a4' : ¬ (10 : Int) < lM := by omega
        go_wp2_with fail
        all_goals (go_meet; first | exact ⟨lM, rfl, by omega, by omega, by omega, rfl⟩ | exact ⟨lL, rfl, by omega, by omega, by omega, rfl⟩ | exact ⟨10, rfl, by omega, by omega, by omega, rfl⟩)
      · have a4 : (10 : Int) < lM := by omega
        have a4' : ¬ (lM : Int) ≤ 10 := by omega
        go_wp2_with fail
        all_goals (go_meet; first | exact ⟨10, rfl, by omega, by omega, by omega, rfl⟩ | exact ⟨lM, rfl, by omega, by omega, by omega, rfl⟩)
  case rest =>
  obtain ⟨n, rfl, hnL, hnM, hn10, rfl⟩ := hcut
  rename World => W1
  go_wp2_with fail
  go_loopw [7, 8, 9, 23] (fun _ _ _ s23 wr => ∃ i : Nat, i ≤ n ∧ s23 = .int .i64 (i : Int) ∧ Hid (OutSt w b (strm (prs L M i)) wr)) (fun _ _ _ i _ => n - (intOf i).toNat)
  case atStart => exact ⟨0, Nat.zero_le _, rfl, HO⟩
  case round =>
    clear HO
    obtain ⟨i, hi, rfl, HS⟩ := hrel
    by_cases hlt : i < n
    · have hiL : i < L.length := by rw [← HlL.out]; omega
      have hiM : i < M.length := by rw [← HlM.out]; omega
      have hbel : Below w.heap.size w wr := by have := HS.out.below; rw [HB.out] at this; exact this
      obtain ⟨bs, off, rfl, hbs, cx⟩ := (HL.out.old hbel).str i hiL
      obtain ⟨bs2, o2, rfl, hbs2, cm⟩ := HM.out i hiM
      have hs2 : L.getD i [] = L[i] := by simp [List.getD, hiL]
      obtain ⟨s0, hs0⟩ : ∃ s, s = L[i] := ⟨_, rfl⟩
      have hs0l : (s0.length : Int) ≤ 9223372036854775807 := by rw [hs0]; exact HZ.out _ (List.getElem_mem _)
      rw [← hs0] at cx hs2
      obtain ⟨xn, hx⟩ : ∃ x, x = M[i] := ⟨_, rfl⟩
      have hx2 : M.getD i 0 = xn := by rw [hx]; simp [List.getD, hiM]
      have hxb : xn < 18446744073709551616 := by rw [hx]; exact HMb.out _ (List.getElem_mem _)
      obtain ⟨s, hs⟩ : ∃ s, s = s0.take 50 := ⟨_, rfl⟩
      have hsl : s.length ≤ 50 := by rw [hs]; exact List.length_take_le _ _
      have hpr : prF L M i = (s, NN.byts xn) := by unfold prF; rw [hs2, hx2, hs]
      have hnx : strm (prs L M (i + 1)) = strm (prs L M i) ++ encF (s, NN.byts xn) := by rw [prs_succ, strm_snoc, hpr]
      have hBl : (strm (prs L M i)).length ≤ 1080 := by
        have := strm_len (prs L M i) (prs_ok L M HMb.out i (by omega))
        rw [prs_len] at this; omega
      have hyl := byts_len64 xn hxb
      have Hnx := Lib.hid hnx
      have HX : Hid (xn < 18446744073709551616) := Lib.hid hxb
      have hrd2 : Hid (∀ w', Below w.heap.size w w' → w'.cell? ⟨bs2, o2 + i, none⟩ = some (.int .u64 (xn : Int))) := Lib.hid (fun w' hb => by
        have h1 := cm 0 _ rfl
        rw [← hx] at h1
        have h2 : w.cell? ⟨bs2, o2 + i, none⟩ = some (.int .u64 (xn : Int)) := by simpa [encU] using h1
        rw [hb.cell (p := ⟨bs2, o2 + i, none⟩) hbs2]; exact h2)
      have i0 : (0 : Int) ≤ i := by omega
      have i1 : (i : Int) < n := by omega
      have i2 : (i : Int) < lL := by omega
      have i3 : (i : Int) < lM := by omega
      have Hlt := Lib.hid hlt
      have Hs := Lib.hid hs
      clear hiL hiM cm hs2 hs0 hx hx2 hpr hnx hs hlt hbel hxb
      go_upto_if 32 with fail
      clear cx
      rename World => wr
      go_cut [8] (fun s8 wx => s8 = .string ⟨s.toArray⟩ ∧ wx = wr)
      case first =>
        by_cases h5 : 50 < s0.length
        · have h6 : (50 : Int) < s0.length := by omega
          have hX : (ByteArray.mk s0.toArray).extract 0 50 = ⟨s.toArray⟩ := by rw [ext_bytesF, Hs.out]; rfl
          have hsz : (ByteArray.mk s0.toArray).size = s0.length := rfl
          have h7 : (50 : Int) ≤ s0.length := by omega
          have h8 : 50 ≤ s0.length := by omega
          go_wp2_with fail
          go_meet
          exact ⟨by first | rfl | exact val_str (by rw [Hs.out]) | (rw [Hs.out]; simp), rfl⟩
        · have h6 : ¬ (50 : Int) < s0.length := by omega
          have h7 : Hid (s = s0) := Lib.hid (by rw [Hs.out]; exact List.take_of_length_le (by omega))
          go_wp2_with fail
          go_meet
          exact ⟨by rw [h7.out], rfl⟩
      case rest =>
      obtain ⟨rfl, rfl⟩ := hcut
      rename World => wr
      have hof : Hid (Calls Tryd.prog 13 #[.slice (some ⟨wr.heap.size, 0, none⟩) 1 1] (wr.alloc (.cells #[.string ⟨s.toArray⟩] 9)) fun r w' => r = .returned (.agg (vals (shaB s)).toArray) ∧ Below (wr.alloc (.cells #[.string ⟨s.toArray⟩] 9)).heap.size (wr.alloc (.cells #[.string ⟨s.toArray⟩] 9)) w') := Lib.hid (by
        have hbel : Below w.heap.size w wr := by have := HS.out.below; rw [HB.out] at this; exact this
        have h := dofB (.slice (some ⟨wr.heap.size, 0, none⟩) 1 1) [s] (wr.alloc (.cells #[.string ⟨s.toArray⟩] 9)) (StrsAt.made wr 9 [s]) (by simp; omega) (by simp) ((HT.out.old hbel).old ((Below.refl _ _).alloc (Nat.le_refl _) _))
        rw [show ([s] : List (List UInt8)).flatten = s from by simp] at h
        exact h)
      have lZ := shaB_len s
      have hencF : encF (s, NN.byts xn) = (numL s.length ++ s) ++ (numL (NN.byts xn).length ++ NN.byts xn) ++ shaB s := rfl
      obtain ⟨Z, hZ⟩ : ∃ Z, Z = shaB s := ⟨_, rfl⟩
      obtain ⟨yb, hyb⟩ : ∃ y, y = NN.byts xn := ⟨_, rfl⟩
      rw [← hZ] at hof lZ hencF
      rw [← hyb] at hyl hencF
      have HE := Lib.hid hencF
      have HYB := Lib.hid hyb
      have HS1 := Lib.hid (HS.out.old ((Below.refl wr.heap.size wr).alloc (Nat.le_refl _) (.cells #[.string ⟨s.toArray⟩] 9)))
      clear hZ hencF hyb HS
      go_wp2_with fail
      refine hof.out.mono ?_
      rintro r w2 ⟨rfl, hb2⟩
      have HS2 := Lib.hid (HS1.out.old hb2)
      have hzr := zid_run
      have q2 := zid_len.trans (id_size lZ).symm
      have q3 := id_info lZ
      have q4 := id_one Z
      generalize (vals zid).toArray = ZA at hzr q2
      obtain ⟨W3, hW3⟩ : ∃ W, W = (w2.alloc (.cells ZA 46)).setRow w2.heap.size (vals Z).toArray := ⟨_, rfl⟩
      have b23 : Below w2.heap.size w2 W3 := by rw [hW3]; exact stored_below
      have HI : Hid (IdAt W3 w2.heap.size Z) := Lib.hid (by rw [hW3]; exact IdAt.stored lZ)
      have bZ := heap_alloc_new w2 (.cells ZA 46)
      have HS3 := Lib.hid (HS2.out.old b23)
      have HW3 := Lib.hid hW3
      clear hW3 b23 hb2 HS1 HS2 hof
      go_wp2_with (refine wpList_store_row rfl rfl 46 (.tmp 9) (.tmp 37) rfl w2.heap.size rfl 46 ZA (vals Z).toArray rfl bZ q2 q3 q4 ?_; rw [← HW3.out])
      clear bZ q2 q3 q4 HW3 hzr
      generalize w2.heap.size = g at HI ⊢
      generalize hB1 : strm (prs L M i) = B0 at HS3 Hnx hBl
      obtain ⟨B1, hB1'⟩ : ∃ B, B = B0 ++ (numL s.length ++ s) := ⟨_, rfl⟩
      obtain ⟨B2, hB2'⟩ : ∃ B, B = B1 ++ (numL yb.length ++ yb) := ⟨_, rfl⟩
      obtain ⟨B3, hB3'⟩ : ∃ B, B = B2 ++ Z := ⟨_, rfl⟩
      have hfin : Hid (strm (prs L M (i + 1)) = B3) := Lib.hid (by rw [Hnx.out, ← HYB.out, HE.out, hB3', hB2', hB1']; simp [List.append_assoc])
      have m1 : B1.length ≤ 1140 := by have := numL_len (s.length : Int) (by omega); rw [hB1', List.length_append, List.length_append]; omega
      have m2 : B2.length ≤ 1160 := by have := numL_len (yb.length : Int) (by omega); rw [hB2', List.length_append, List.length_append]; omega
      have HB1 := Lib.hid hB1'
      have HB2 := Lib.hid hB2'
      have HB3 := Lib.hid hB3'
      have HXL : Hid ((NN.lb xn).length ≤ 100000) := Lib.hid (by
        have := NN.dg_len_le 4294967296 (by decide) xn 2 (Nat.lt_of_lt_of_le HX.out (by decide))
        unfold NN.lb; omega)
      have hg0 : Hid (∀ (bs : List UInt8) (w' : World), OutSt w b bs w' → Below w.heap.size w w') := Lib.hid (fun bs w' h => by have := h.below; rw [HB.out] at this; exact this)
      have HG0 : Hid ((fun (j : Nat) (_ : Value) (w' : World) => OutSt w b (match j with | 0 => B0 | 1 => B1 | 2 => B2 | _ => B3) w' ∧ IdAt w' g Z) 0 undef W3.drew) := Lib.hid ⟨HS3.out.old (Below.refl _ _).drew, HI.out.old (Below.refl _ _).drew⟩
      clear hB1 hB1' hB2' hB3' Hnx HE HS3 HI
      refine CW.wp_region_chain (VF1 s Z yb xn i lM capM b g bs2 o2) (fun (j : Nat) (_ : Value) (w' : World) => OutSt w b (match j with | 0 => B0 | 1 => B1 | 2 => B2 | _ => B3) w' ∧ IdAt w' g Z) [1, 8, 11] 111 (by kernel_rfl) (by decide +kernel) rfl (by decide +kernel) (by decide) (by decide) HG0.out (by
        refine CW.OweAllC.cons (CW.owesC_val 0 (by decide +kernel) (by decide) rfl rfl fun k' a w1 x hk ha hG hV => ?_) ?_
        · skip
          have h8 := ha.outer 8 (by decide +kernel)
          simp only [Act.eval] at h8
          exact ⟨.string ⟨s.toArray⟩, wanted_free rfl, by simp [execOp, go_sem, h8], rfl⟩
        refine CW.OweAllC.cons (CW.owesC_call 0 rfl rfl rfl 14 fun a w1 x ha hG hx hV => ?_) ?_
        · skip
          have h5 := ha.outer 5 (by decide +kernel)
          simp only [Act.eval] at h5
          have h38 : a.tmps.getD 38 undef = .string ⟨s.toArray⟩ := hV.get 38 (by decide +kernel)
          refine ⟨#[.pointer (some ⟨b, 0, none⟩), .string ⟨s.toArray⟩], wanted_free rfl, by simp [go_sem, h5, h38], ?_⟩
          refine (out_textW w b B0 s w1 hG.1 (by omega) (by omega)).mono ?_
          rintro r u2 ⟨rfl, hO, hw⟩; exact ⟨_, rfl, rfl, ⟨by rw [← HB1.out] at hO; exact hO, hG.2.wr hw⟩, VF1.keep hw⟩
        refine CW.OweAllC.cons (CW.owesC_val 1 (by decide +kernel) (by decide) rfl rfl fun k' a w1 x hk ha hG hV => ?_) ?_
        · skip
          have h1 := ha.outer 1 (by decide +kernel)
          simp only [Act.eval] at h1
          exact ⟨.slice (some ⟨bs2, o2, none⟩) lM capM, wanted_free rfl, by simp [execOp, go_sem, h1], rfl⟩
        refine CW.OweAllC.cons (CW.owesC_val 1 (by decide +kernel) (by decide) rfl rfl fun k' a w1 x hk ha hG hV => ?_) ?_
        · skip
          have h7 := ha.outer 7 (by decide +kernel)
          simp only [Act.eval] at h7
          exact ⟨.int .i64 (i : Int), wanted_free rfl, by simp [execOp, go_sem, h7], rfl⟩
        refine CW.OweAllC.cons (CW.owesC_val 1 (by decide +kernel) (by decide) rfl rfl fun k' a w1 x hk ha hG hV => ?_) ?_
        · skip
          have h40 : a.tmps.getD 40 undef = .slice (some ⟨bs2, o2, none⟩) lM capM := hV.get 40 (by decide +kernel)
          have h41 : a.tmps.getD 41 undef = .int .i64 (i : Int) := hV.get 41 (by decide +kernel)
          exact ⟨.pointer (some ⟨bs2, o2 + i, none⟩), wanted_free rfl, by simp [execOp, go_sem, h40, h41, i0, i3], rfl⟩
        refine CW.OweAllC.cons (CW.owesC_val 3 (by decide +kernel) (by decide) rfl rfl fun k' a w1 x hk ha hG hV => ?_) ?_
        · skip
          have h42 : a.tmps.getD 42 undef = .pointer (some ⟨bs2, o2 + i, none⟩) := hV.get 42 (by decide +kernel)
          have cc := hrd2.out w1 (hg0.out _ w1 hG.1)
          exact ⟨.int .u64 (xn : Int), wanted_free rfl, by simp [execOp, go_sem, h42, cc], rfl⟩
        refine CW.OweAllC.cons (CW.owesC_side 1 (by decide +kernel) (by decide) rfl rfl 6 fun k' a w1 x hk ha hG hV => ?_) ?_
        · skip
          have h43 : a.tmps.getD 43 undef = .int .u64 (xn : Int) := hV.get 43 (by decide +kernel)
          refine ⟨#[.int .u64 (xn : Int)], wanted_free rfl, by simp [go_sem, h43], ?_⟩
          refine (NN.nofn_any xn w1 HX).mono ?_
          rintro r u2 ⟨q, c, rfl, hN, hb, _⟩; exact ⟨_, rfl, ⟨q, c, rfl, hN⟩, ⟨hG.1.old hb, hG.2.old hb⟩, VF1.keep (Wr.of_below hb)⟩
        refine CW.OweAllC.cons (CW.owesC_side 1 (by decide +kernel) (by decide) rfl rfl 15 fun k' a w1 x hk ha hG hV => ?_) ?_
        · skip
          have s44 : ∃ q c, a.tmps.getD 44 undef = .agg #[.slice q (NN.lb xn).length c] ∧ NN.NatIn w1 q c xn := hV.get 44 (by decide +kernel)
          obtain ⟨q, c, h44, hN⟩ := s44
          refine ⟨#[.agg #[.slice q (NN.lb xn).length c]], wanted_free rfl, by simp [go_sem, h44], ?_⟩
          refine (NN.bytes_any q c xn w1 hN HXL.out).mono ?_
          rintro r u2 ⟨rfl, hb⟩; exact ⟨_, rfl, by rw [HYB.out]; rfl, ⟨hG.1.old hb, hG.2.old hb⟩, VF1.keep (Wr.of_below hb)⟩
        refine CW.OweAllC.cons (CW.owesC_call 1 rfl rfl rfl 14 fun a w1 x ha hG hx hV => ?_) ?_
        · skip
          have h39 : a.tmps.getD 39 undef = .pointer (some ⟨b, 0, none⟩) := hV.get 39 (by decide +kernel)
          have h45 : a.tmps.getD 45 undef = .string ⟨yb.toArray⟩ := hV.get 45 (by decide +kernel)
          refine ⟨#[.pointer (some ⟨b, 0, none⟩), .string ⟨yb.toArray⟩], wanted_free rfl, by simp [go_sem, h39, h45], ?_⟩
          refine (out_textW w b B1 yb w1 hG.1 (by omega) (by omega)).mono ?_
          rintro r u2 ⟨rfl, hO, hw⟩; exact ⟨_, rfl, rfl, ⟨by rw [← HB2.out] at hO; exact hO, hG.2.wr hw⟩, VF1.keep hw⟩
        refine CW.OweAllC.cons (CW.owesC_val 2 (by decide +kernel) (by decide) rfl rfl fun k' a w1 x hk ha hG hV => ?_) ?_
        · skip
          have h9 := ha.outer 9 (by decide +kernel)
          simp only [Act.eval] at h9
          exact ⟨.slice (some ⟨g, 0, none⟩) 32 32, wanted_free rfl, by simp [execOp, go_sem, h9], rfl⟩
        refine CW.OweAllC.cons (CW.owesC_val 2 (by decide +kernel) (by decide) rfl rfl fun k' a w1 x hk ha hG hV => ?_) ?_
        · skip
          have h47 : a.tmps.getD 47 undef = .slice (some ⟨g, 0, none⟩) 32 32 := hV.get 47 (by decide +kernel)
          exact ⟨.string ⟨Z.toArray⟩, wanted_free rfl, by simp [execOp, go_sem, h47, hG.2.text], rfl⟩
        refine CW.OweAllC.cons (CW.owesC_call 2 rfl rfl rfl 16 fun a w1 x ha hG hx hV => ?_) ?_
        · skip
          have h46 : a.tmps.getD 46 undef = .pointer (some ⟨b, 0, none⟩) := hV.get 46 (by decide +kernel)
          have h48 : a.tmps.getD 48 undef = .string ⟨Z.toArray⟩ := hV.get 48 (by decide +kernel)
          refine ⟨#[.pointer (some ⟨b, 0, none⟩), .string ⟨Z.toArray⟩], wanted_free rfl, by simp [go_sem, h46, h48], ?_⟩
          refine (out_rawW w b B2 Z w1 hG.1 (by omega)).mono ?_
          rintro r u2 ⟨rfl, hO, hw⟩; exact ⟨_, rfl, rfl, ⟨by rw [← HB3.out] at hO; exact hO, hG.2.wr hw⟩, VF1.keep hw⟩
        exact CW.OweAllC.nil
        ) ?_
      intro f wz xz hG hx hv
      first | (rename_i hK; refine hK _ _ ?_; clear hK) | (rename_i hK _; refine hK _ _ ?_; clear hK) | (rename_i hK _ _; refine hK _ _ ?_; clear hK) | (rename_i hK _ _ _; refine hK _ _ ?_; clear hK)
      clear hv hx
      simp only [dsts, puts, List.filterMap_cons, List.filterMap_nil, List.foldl_cons, List.foldl_nil, Act.put, List.setIfInBounds_toArray, List.set_cons_succ, List.set_cons_zero]
      obtain ⟨hG1, hG2⟩ : OutSt w b B3 wz ∧ IdAt wz g Z := hG
      have HZ2 : Hid (OutSt w b (strm (prs L M (i + 1))) wz) := Lib.hid (by rw [hfin.out]; exact hG1)
      have hlt := Hlt.out
      clear HG0 hG1 hG2 hrd2 HB1 HB2 HB3 hfin hg0 HXL HYB m1 m2 lZ hyl hsl hBl
      go_wp2_with fail
      go_roundw
      case rel => exact ⟨i + 1, by omega, by go_num, HZ2⟩
      case measure => simp [intOf]; omega
    · have i1 : ¬ (i : Int) < n := by omega
      have e : i = n := by omega
      rw [e] at HS
      clear e
      have hBl : (strm (prs L M n)).length ≤ 1080 := by
        have := strm_len (prs L M n) (prs_ok L M HMb.out n (by rw [← HlM.out]; omega))
        rw [prs_len] at this; omega
      have HBW : Hid (Below w.heap.size w wr) := Lib.hid (by have := HS.out.below; rw [HB.out] at this; exact this)
      have hby : Hid (Calls Tryd.prog 18 #[.pointer (some ⟨b, 0, none⟩)] wr fun r w' => r = .returned (.string ⟨(strm (prs L M n)).toArray⟩) ∧ wr = w') := Lib.hid (out_bytes w b _ wr HS.out)
      have hcof : Hid (Calls Tryd.prog 17 #[.string ⟨(strm (prs L M n)).toArray⟩] wr fun r w' => ∃ b, r = .returned (.pointer (some ⟨b, 0, none⟩)) ∧ wr.heap.size ≤ b ∧ InAt 83 w' b (strm ((prs L M n).drop 0)) 0 ∧ Below wr.heap.size wr w') := Lib.hid (by rw [List.drop_zero]; exact of_any _ wr (by omega))
      generalize strm (prs L M n) = SB at hby hcof
      rename World => wr0
      clear HS hBl
      go_wp2_with fail
      refine hby.out.mono ?_
      rintro r wr0' ⟨rfl, rfl⟩
      go_wp2_with fail
      refine hcof.out.mono ?_
      rintro r w2 ⟨bI, rfl, hbI, hin, hb2⟩
      have HIN := Lib.hid (And.intro hin hb2)
      have HBI := Lib.hid hbI
      clear hby hcof hin hb2 hbI
      go_wp2_with fail
      go_loopw [11, 12, 13, 14, 15, 16, 54] (fun _ _ _ _ _ _ s54 wr => ∃ i : Nat, i ≤ n ∧ s54 = .int .i64 (i : Int) ∧ Hid (InAt 83 wr bI (strm ((prs L M n).drop i)) 0 ∧ Below wr0.heap.size wr0 wr)) (fun _ _ _ _ _ _ i _ => n - (intOf i).toNat)
      case atStart => exact ⟨0, Nat.zero_le _, rfl, HIN⟩
      case round =>
        clear HIN
        obtain ⟨i, hi, rfl, HS⟩ := hrel
        by_cases hlt : i < n
        · have hiL : i < L.length := by rw [← HlL.out]; omega
          have hiM : i < M.length := by rw [← HlM.out]; omega
          have hbel : Below w.heap.size w wr := HBW.out.trans (HS.out.2.mono HBW.out.size)
          obtain ⟨bs, off, rfl, hbs, cx⟩ := (HL.out.old hbel).str i hiL
          obtain ⟨bs2, o2, rfl, hbs2, cm⟩ := HM.out i hiM
          have hs2 : L.getD i [] = L[i] := by simp [List.getD, hiL]
          obtain ⟨s0, hs0⟩ : ∃ s, s = L[i] := ⟨_, rfl⟩
          have hs0l : (s0.length : Int) ≤ 9223372036854775807 := by rw [hs0]; exact HZ.out _ (List.getElem_mem _)
          rw [← hs0] at cx hs2
          obtain ⟨xn, hx⟩ : ∃ x, x = M[i] := ⟨_, rfl⟩
          have hx2 : M.getD i 0 = xn := by rw [hx]; simp [List.getD, hiM]
          have hxb : xn < 18446744073709551616 := by rw [hx]; exact HMb.out _ (List.getElem_mem _)
          obtain ⟨s, hs⟩ : ∃ s, s = s0.take 50 := ⟨_, rfl⟩
          have hsl : s.length ≤ 50 := by rw [hs]; exact List.length_take_le _ _
          have hpr : prF L M i = (s, NN.byts xn) := by unfold prF; rw [hs2, hx2, hs]
          have hnx : strm ((prs L M n).drop i) = encF (s, NN.byts xn) ++ strm ((prs L M n).drop (i + 1)) := by rw [prs_drop L M n i hlt, strm_cons, hpr]
          have hRl : (strm ((prs L M n).drop (i + 1))).length ≤ 1080 := by
            have := strm_len ((prs L M n).drop (i + 1)) (fun p hp => prs_ok L M HMb.out n (by rw [← HlM.out]; omega) p (List.mem_of_mem_drop hp))
            rw [List.length_drop, prs_len] at this; omega
          have hyl := byts_len64 xn hxb
          have htk := take_field (s, NN.byts xn) (strm ((prs L M n).drop (i + 1))) hsl hyl
          rw [hnx] at HS
          have HR : Hid (∃ R, R = strm ((prs L M n).drop (i + 1))) := Lib.hid ⟨_, rfl⟩
          obtain ⟨R, hR⟩ := HR.out
          rw [← hR] at HS htk hRl
          have HRR := Lib.hid hR
          have HX : Hid (xn < 18446744073709551616) := Lib.hid hxb
          have hrd2 : Hid (∀ w', Below w.heap.size w w' → w'.cell? ⟨bs2, o2 + i, none⟩ = some (.int .u64 (xn : Int))) := Lib.hid (fun w' hb => by
            have h1 := cm 0 _ rfl
            rw [← hx] at h1
            have h2 : w.cell? ⟨bs2, o2 + i, none⟩ = some (.int .u64 (xn : Int)) := by simpa [encU] using h1
            rw [hb.cell (p := ⟨bs2, o2 + i, none⟩) hbs2]; exact h2)
          have i0 : (0 : Int) ≤ i := by omega
          have i1 : (i : Int) < n := by omega
          have i2 : (i : Int) < lL := by omega
          have i3 : (i : Int) < lM := by omega
          have Hlt := Lib.hid hlt
          have Hs := Lib.hid hs
          have lZ := shaB_len s
          have HXL : Hid ((NN.lb xn).length ≤ 1000000) := Lib.hid (lb_len64 xn hxb)
          have hbv : NN.bval (NN.byts xn) = xn := NN.bval_byts xn
          have hbh := NN.byts_head xn
          have hel := encF_len (s, NN.byts xn) hsl hyl
          have hof2 : Hid (∀ wz : World, Below w.heap.size w wz → Calls Tryd.prog 13 #[.slice (some ⟨wz.heap.size, 0, none⟩) 1 1] (wz.alloc (.cells #[.string ⟨s.toArray⟩] 9)) fun r w' => r = .returned (.agg (vals (shaB s)).toArray) ∧ Below (wz.alloc (.cells #[.string ⟨s.toArray⟩] 9)).heap.size (wz.alloc (.cells #[.string ⟨s.toArray⟩] 9)) w') := Lib.hid (fun wz hbz => by
            have h := dofB (.slice (some ⟨wz.heap.size, 0, none⟩) 1 1) [s] (wz.alloc (.cells #[.string ⟨s.toArray⟩] 9)) (StrsAt.made wz 9 [s]) (by simp; omega) (by simp) ((HT.out.old hbz).old ((Below.refl _ _).alloc (Nat.le_refl _) _))
            rw [show ([s] : List (List UInt8)).flatten = s from by simp] at h
            exact h)
          clear hiL hiM cm hs2 hs0 hx hx2 hpr hnx hs hlt hbel hxb hR HR
          obtain ⟨Z, hZ⟩ : ∃ Z, Z = shaB s := ⟨_, rfl⟩
          obtain ⟨yb, hyb⟩ : ∃ y, y = NN.byts xn := ⟨_, rfl⟩
          obtain ⟨S0, hS0⟩ : ∃ S, S = encF (s, NN.byts xn) ++ R := ⟨_, rfl⟩
          obtain ⟨S1, hS1⟩ : ∃ S, S = (numL (NN.byts xn).length ++ NN.byts xn) ++ shaB s ++ R := ⟨_, rfl⟩
          obtain ⟨S2, hS2⟩ : ∃ S, S = shaB s ++ R := ⟨_, rfl⟩
          simp only at htk
          rw [← hS0] at HS
          rw [← hS0, ← hS1, ← hS2] at htk
          have l0 : S0.length ≤ 2000 := by rw [hS0, List.length_append]; omega
          have l2 : S2.length ≤ 2000 := by rw [hS2, List.length_append]; omega
          have l1 : S1.length ≤ 2000 := by
            have := numL_len ((NN.byts xn).length : Int) (by omega)
            rw [hS1, List.length_append, List.length_append, List.length_append]; omega
          rw [← hZ] at htk hof2 lZ
          rw [← hyb] at htk hyl hbv hbh
          have T1 : Hid (∀ w', InAt 83 w' bI S0 0 → Calls Tryd.prog 19 #[.pointer (some ⟨bI, 0, none⟩), .int .i64 50] w' fun r w'' => r = .returned (.string ⟨s.toArray⟩) ∧ InAt 83 w'' bI S1 0 ∧ Mod (· = bI) w' w'') := Lib.hid (fun w' h => (intext_any bI S0 0 50 w' h (by omega)).mono (by
            rintro r w'' ⟨h1, h2, h3⟩
            rw [htk.1] at h1 h2
            exact ⟨h1, h2, h3⟩))
          have T2 : Hid (∀ w', InAt 83 w' bI S1 0 → Calls Tryd.prog 19 #[.pointer (some ⟨bI, 0, none⟩), .int .i64 8] w' fun r w'' => r = .returned (.string ⟨yb.toArray⟩) ∧ InAt 83 w'' bI S2 0 ∧ Mod (· = bI) w' w'') := Lib.hid (fun w' h => (intext_any bI S1 0 8 w' h (by omega)).mono (by
            rintro r w'' ⟨h1, h2, h3⟩
            rw [htk.2.1] at h1 h2
            exact ⟨h1, h2, h3⟩))
          have T3 : Hid (∀ w', InAt 83 w' bI S2 0 → Calls Tryd.prog 21 #[.pointer (some ⟨bI, 0, none⟩), .int .i64 32] w' fun r w'' => r = .returned (.string ⟨Z.toArray⟩) ∧ InAt 83 w'' bI R 0 ∧ Mod (· = bI) w' w'') := Lib.hid (fun w' h => (inraw_any bI S2 0 32 w' h (by omega)).mono (by
            rintro r w'' ⟨h1, h2, h3⟩
            rw [htk.2.2] at h1 h2
            exact ⟨h1, h2, h3⟩))
          have T4 : Hid (∀ w', Calls Tryd.prog 20 #[.string ⟨yb.toArray⟩] w' fun r w'' => ∃ q c, r = .returned (.tuple #[.agg #[.slice q (NN.lb xn).length c], .bool true]) ∧ NN.NatIn w'' q c xn ∧ Below w'.heap.size w' w'') := Lib.hid (fun w' => by
            have := NN.from_yes yb w' (by omega) hbh
            rw [hbv] at this
            refine this.mono ?_
            rintro r w'' ⟨q, c, h1, h2, h3, _⟩
            exact ⟨q, c, h1, h2, h3⟩)
          have KB : Hid (∀ w' w'', Below wr0.heap.size wr0 w' → Mod (· = bI) w' w'' → Below wr0.heap.size wr0 w'') := Lib.hid (fun w' w'' h1 h2 => ((Mod.of_below h1).trans h2 (fun k _ e => by subst e; exact HBI.out)).to_below (Nat.le_refl _) (fun k hk h => by omega))
          clear htk hS0 hS1 hS2 hZ hyb hbv hbh hel hRl
          go_upto_if 63 with fail
          clear cx
          rename World => wr
          go_cut [12] (fun s12 wx => s12 = .string ⟨s.toArray⟩ ∧ wx = wr)
          case first =>
            by_cases h5 : 50 < s0.length
            · have h6 : (50 : Int) < s0.length := by omega
              have hX : (ByteArray.mk s0.toArray).extract 0 50 = ⟨s.toArray⟩ := by rw [ext_bytesF, Hs.out]; rfl
              have hsz : (ByteArray.mk s0.toArray).size = s0.length := rfl
              have h7 : (50 : Int) ≤ s0.length := by omega
              have h8 : 50 ≤ s0.length := by omega
              go_wp2_with fail
              go_meet
              exact ⟨by first | rfl | exact val_str (by rw [Hs.out]) | (rw [Hs.out]; simp), rfl⟩
            · have h6 : ¬ (50 : Int) < s0.length := by omega
              have h7 : Hid (s = s0) := Lib.hid (by rw [Hs.out]; exact List.take_of_length_le (by omega))
              go_wp2_with fail
              go_meet
              exact ⟨by rw [h7.out], rfl⟩
          case rest =>
          obtain ⟨rfl, rfl⟩ := hcut
          rename World => wr
          go_wp2_with fail
          refine (T1.out wr HS.out.1).mono ?_
          rintro r w3 ⟨rfl, hi3, hm3⟩
          have H3 := Lib.hid (And.intro hi3 (KB.out _ _ HS.out.2 hm3))
          clear hi3 hm3 HS T1
          go_wp2_with fail
          refine (T2.out w3 H3.out.1).mono ?_
          rintro r w4 ⟨rfl, hi4, hm4⟩
          have H4 := Lib.hid (And.intro hi4 (KB.out _ _ H3.out.2 hm4))
          clear hi4 hm4 H3 T2
          go_wp2_with fail
          refine (T4.out w4).mono ?_
          rintro r w5 ⟨q, c, rfl, hN5, hb5⟩
          have H5 := Lib.hid (And.intro (natIn_wr hN5 (Wr.of_below (Below.refl _ _))) (And.intro (inAt_old H4.out.1 hb5) (H4.out.2.trans (hb5.mono H4.out.2.size))))
          clear hN5 hb5 H4 T4
          obtain ⟨CN, hCN⟩ : ∃ C : Array Value, C = #[.slice q (NN.lb xn).length c] := ⟨_, rfl⟩
          have HCN := Lib.hid hCN
          obtain ⟨W6, hW6⟩ : ∃ W, W = w5.alloc (.cells #[.slice q (NN.lb xn).length c] 26) := ⟨_, rfl⟩
          have hb6 : Below w5.heap.size w5 W6 := by rw [hW6]; exact (Below.refl _ _).alloc (Nat.le_refl _) _
          have H6 : Hid (W6.heap[w5.heap.size]? = some (.cells CN 26 (0, 0)) ∧ NN.NatIn W6 q c xn ∧ InAt 83 W6 bI S2 0 ∧ Below wr0.heap.size wr0 W6) := Lib.hid ⟨by rw [hW6, hCN]; exact heap_alloc_new _ _, natIn_wr H5.out.1 (Wr.of_below hb6), inAt_old H5.out.2.1 hb6, H5.out.2.2.trans (hb6.mono H5.out.2.2.size)⟩
          have HW6 := Lib.hid hW6
          clear hCN hW6 hb6
          go_wp2_with fail
          have hz6 : w5.heap.size + 1 = W6.heap.size := by rw [HW6.out, World.size_alloc]
          rw [← HW6.out, hz6]
          clear hz6 HW6 H5
          generalize w5.heap.size = g14 at H6 ⊢
          have hbel6 : Hid (Below w.heap.size w W6) := Lib.hid (HBW.out.trans (H6.out.2.2.2.mono HBW.out.size))
          refine (hof2.out W6 hbel6.out).mono ?_
          rintro r w7 ⟨rfl, hb7⟩
          have hb67 : Below W6.heap.size W6 w7 := ((Below.refl W6.heap.size W6).alloc (Nat.le_refl _) (.cells #[.string ⟨s.toArray⟩] 9)).trans (hb7.mono (by simp))
          have hzr := zid_run
          have q2 := zid_len.trans (id_size lZ).symm
          have q3 := id_info lZ
          have q4 := id_one Z
          generalize (vals zid).toArray = ZA at hzr q2
          obtain ⟨W8, hW8⟩ : ∃ W, W = (w7.alloc (.cells ZA 46)).setRow w7.heap.size (vals Z).toArray := ⟨_, rfl⟩
          have b78 : Below w7.heap.size w7 W8 := by rw [hW8]; exact stored_below
          have b68 := hb67.trans (b78.mono hb67.size)
          have bZ := heap_alloc_new w7 (.cells ZA 46)
          have H8 : Hid (InAt 83 W8 bI S2 0 ∧ NN.NatIn W8 q c xn ∧ W8.heap[g14]? = some (.cells CN 26 (0, 0)) ∧ IdAt W8 w7.heap.size Z ∧ Below wr0.heap.size wr0 W8) := Lib.hid ⟨inAt_old H6.out.2.2.1 b68, natIn_wr H6.out.2.1 (Wr.of_below b68), (b68.block _ (Array.getElem?_eq_some_iff.1 H6.out.1).1).trans H6.out.1, by rw [hW8]; exact IdAt.stored lZ, H6.out.2.2.2.trans (b68.mono H6.out.2.2.2.size)⟩
          have HW8 := Lib.hid hW8
          clear hW8 b78 b68 hb67 hb7 H6 hbel6 hof2
          go_wp2_with (refine wpList_store_row rfl rfl 46 (.tmp 16) (.tmp 76) rfl w7.heap.size rfl 46 ZA (vals Z).toArray rfl bZ q2 q3 q4 ?_; rw [← HW8.out])
          clear bZ q2 q3 q4 HW8 hzr
          generalize w7.heap.size = g16 at H8 ⊢
          have qCN : (Tryd.prog.info? 26).map (·.size) = some CN.size := by rw [HCN.out]; kernel_rfl
          have HG0 : Hid ((fun (j : Nat) (_ : Value) (w' : World) => InAt 83 w' bI (match j with | 0 => S2 | _ => R) 0 ∧ NN.NatIn w' q c xn ∧ w'.heap[g14]? = some (.cells CN 26 (0, 0)) ∧ IdAt w' g16 Z ∧ Below wr0.heap.size wr0 w') 0 undef W8.drew) := Lib.hid (by
            obtain ⟨h1, h2, h3, h4, h5⟩ := H8.out
            have hd : Below W8.heap.size W8 W8.drew := (Below.refl _ _).drew
            exact ⟨inAt_old h1 hd, natIn_wr h2 (Wr.of_below hd), h3, h4.old hd, h5.drew⟩)
          have GO : Hid (∀ (j : Nat) (v : Value) (w1 u2 : World), (fun (j : Nat) (_ : Value) (w' : World) => InAt 83 w' bI (match j with | 0 => S2 | _ => R) 0 ∧ NN.NatIn w' q c xn ∧ w'.heap[g14]? = some (.cells CN 26 (0, 0)) ∧ IdAt w' g16 Z ∧ Below wr0.heap.size wr0 w') j v w1 → Below w1.heap.size w1 u2 → (fun (j : Nat) (_ : Value) (w' : World) => InAt 83 w' bI (match j with | 0 => S2 | _ => R) 0 ∧ NN.NatIn w' q c xn ∧ w'.heap[g14]? = some (.cells CN 26 (0, 0)) ∧ IdAt w' g16 Z ∧ Below wr0.heap.size wr0 w') j v u2) := Lib.hid (fun j v w1 u2 h hb => by
            obtain ⟨h1, h2, h3, h4, h5⟩ := h
            exact ⟨inAt_old h1 hb, natIn_wr h2 (Wr.of_below hb), (hb.block _ (Array.getElem?_eq_some_iff.1 h3).1).trans h3, h4.old hb, h5.trans (hb.mono h5.size)⟩)
          have hrd3 : Hid (∀ w', Below wr0.heap.size wr0 w' → w'.cell? ⟨bs2, o2 + i, none⟩ = some (.int .u64 (xn : Int))) := Lib.hid (fun w' h => hrd2.out w' (HBW.out.trans (h.mono HBW.out.size)))
          clear H8 hrd2
          refine CW.wp_region_chain (VF2 s Z CN xn i lM capM bI g16 bs2 o2) (fun (j : Nat) (_ : Value) (w' : World) => InAt 83 w' bI (match j with | 0 => S2 | _ => R) 0 ∧ NN.NatIn w' q c xn ∧ w'.heap[g14]? = some (.cells CN 26 (0, 0)) ∧ IdAt w' g16 Z ∧ Below wr0.heap.size wr0 w') [19] 111 (by kernel_rfl) (by decide +kernel) rfl (by decide +kernel) (by decide) (by decide) HG0.out (by
            refine CW.OweAllC.cons (CW.owesC_val 1 (by decide +kernel) (by decide) rfl rfl fun k' a w1 x hk ha hG hV => ?_) ?_
            · skip
              have h13 := ha.outer 13 (by decide +kernel)
              simp only [Act.eval] at h13
              exact ⟨.string ⟨s.toArray⟩, wanted_free rfl, by simp [execOp, go_sem, h13], rfl⟩
            refine CW.OweAllC.cons (CW.owesC_val 1 (by decide +kernel) (by decide) rfl rfl fun k' a w1 x hk ha hG hV => ?_) ?_
            · skip
              have h12 := ha.outer 12 (by decide +kernel)
              simp only [Act.eval] at h12
              exact ⟨.string ⟨s.toArray⟩, wanted_free rfl, by simp [execOp, go_sem, h12], rfl⟩
            refine CW.OweAllC.cons (CW.owesC_val 1 (by decide +kernel) (by decide) rfl rfl fun k' a w1 x hk ha hG hV => ?_) ?_
            · skip
              have h77 : a.tmps.getD 77 undef = .string ⟨s.toArray⟩ := hV.get 77 (by decide +kernel)
              have h78 : a.tmps.getD 78 undef = .string ⟨s.toArray⟩ := hV.get 78 (by decide +kernel)
              exact ⟨Value.bool false, wanted_free rfl, by simp [execOp, go_sem, h77, h78], rfl⟩
            refine CW.OweAllC.cons (CW.owesC_val 1 (by decide +kernel) (by decide) rfl rfl fun k' a w1 x hk ha hG hV => ?_) ?_
            · skip
              have h79 : a.tmps.getD 79 undef = Value.bool false := hV.get 79 (by decide +kernel)
              exact ⟨Value.bool false, wanted_free rfl, by simp [execOp, go_sem, h79], rfl⟩
            refine CW.OweAllC.cons (CW.owesC_val 1 (by decide +kernel) (by decide) rfl rfl fun k' a w1 x hk ha hG hV => ?_) ?_
            · skip
              have h15 := ha.outer 15 (by decide +kernel)
              simp only [Act.eval] at h15
              exact ⟨Value.bool true, (wanted_of (t := 80) rfl rfl (hV.get 80 (by decide +kernel))), by simp [execOp, go_sem, h15], rfl⟩
            refine CW.OweAllC.cons (CW.owesC_val 1 (by decide +kernel) (by decide) rfl rfl fun k' a w1 x hk ha hG hV => ?_) ?_
            · skip
              have h81 : a.tmps.getD 81 undef = Value.bool true := hV.get 81 (by decide +kernel)
              exact ⟨Value.bool false, (wanted_of (t := 80) rfl rfl (hV.get 80 (by decide +kernel))), by simp [execOp, go_sem, h81], rfl⟩
            refine CW.OweAllC.cons (CW.owesC_val 1 (by decide +kernel) (by decide) rfl rfl fun k' a w1 x hk ha hG hV => ?_) ?_
            · skip
              have h80 : a.tmps.getD 80 undef = Value.bool false := hV.get 80 (by decide +kernel)
              have h82 : a.tmps.getD 82 undef = Value.bool false := hV.get 82 (by decide +kernel)
              exact ⟨Value.bool false, wanted_free rfl, by simp [execOp, go_sem, h80, h82], rfl⟩
            refine CW.OweAllC.cons (CW.owesC_val 1 (by decide +kernel) (by decide) rfl rfl fun k' a w1 x hk ha hG hV => ?_) ?_
            · skip
              have h83 : a.tmps.getD 83 undef = Value.bool false := hV.get 83 (by decide +kernel)
              exact ⟨Value.bool false, wanted_free rfl, by simp [execOp, go_sem, h83], rfl⟩
            refine CW.OweAllC.cons (CW.owesC_val 1 (by decide +kernel) (by decide) rfl rfl fun k' a w1 x hk ha hG hV => ?_) ?_
            · skip
              have h14 := ha.outer 14 (by decide +kernel)
              simp only [Act.eval] at h14
              exact ⟨.agg CN, (wanted_of (t := 84) rfl rfl (hV.get 84 (by decide +kernel))), exec_load_row 26 (.tmp 14) rfl g14 h14 26 CN (0, 0) _ hG.2.2.1 Tryd.underlying26 rfl qCN, rfl⟩
            refine CW.OweAllC.cons (CW.owesC_val 1 (by decide +kernel) (by decide) rfl rfl fun k' a w1 x hk ha hG hV => ?_) ?_
            · skip
              have h1 := ha.outer 1 (by decide +kernel)
              simp only [Act.eval] at h1
              exact ⟨.slice (some ⟨bs2, o2, none⟩) lM capM, (wanted_of (t := 84) rfl rfl (hV.get 84 (by decide +kernel))), by simp [execOp, go_sem, h1], rfl⟩
            refine CW.OweAllC.cons (CW.owesC_val 1 (by decide +kernel) (by decide) rfl rfl fun k' a w1 x hk ha hG hV => ?_) ?_
            · skip
              have h11 := ha.outer 11 (by decide +kernel)
              simp only [Act.eval] at h11
              exact ⟨.int .i64 (i : Int), (wanted_of (t := 84) rfl rfl (hV.get 84 (by decide +kernel))), by simp [execOp, go_sem, h11], rfl⟩
            refine CW.OweAllC.cons (CW.owesC_val 1 (by decide +kernel) (by decide) rfl rfl fun k' a w1 x hk ha hG hV => ?_) ?_
            · skip
              have h86 : a.tmps.getD 86 undef = .slice (some ⟨bs2, o2, none⟩) lM capM := hV.get 86 (by decide +kernel)
              have h87 : a.tmps.getD 87 undef = .int .i64 (i : Int) := hV.get 87 (by decide +kernel)
              exact ⟨.pointer (some ⟨bs2, o2 + i, none⟩), (wanted_of (t := 84) rfl rfl (hV.get 84 (by decide +kernel))), by simp [execOp, go_sem, h86, h87, i0, i3], rfl⟩
            refine CW.OweAllC.cons (CW.owesC_val 1 (by decide +kernel) (by decide) rfl rfl fun k' a w1 x hk ha hG hV => ?_) ?_
            · skip
              have h88 : a.tmps.getD 88 undef = .pointer (some ⟨bs2, o2 + i, none⟩) := hV.get 88 (by decide +kernel)
              have cc := hrd3.out w1 hG.2.2.2.2
              exact ⟨.int .u64 (xn : Int), (wanted_of (t := 84) rfl rfl (hV.get 84 (by decide +kernel))), by simp [execOp, go_sem, h88, cc], rfl⟩
            refine CW.OweAllC.cons (CW.owesC_side 1 (by decide +kernel) (by decide) rfl rfl 6 fun k' a w1 x hk ha hG hV => ?_) ?_
            · skip
              have h89 : a.tmps.getD 89 undef = .int .u64 (xn : Int) := hV.get 89 (by decide +kernel)
              refine ⟨#[.int .u64 (xn : Int)], (wanted_of (t := 84) rfl rfl (hV.get 84 (by decide +kernel))), by simp [go_sem, h89], ?_⟩
              refine (NN.nofn_any xn w1 HX).mono ?_
              rintro r u2 ⟨q', c', rfl, hN, hb, _⟩; exact ⟨_, rfl, ⟨q', c', rfl, hN⟩, GO.out _ x _ _ hG hb, VF2.keep (Wr.of_below hb)⟩
            refine CW.OweAllC.cons (CW.owesC_side 1 (by decide +kernel) (by decide) rfl rfl 10 fun k' a w1 x hk ha hG hV => ?_) ?_
            · skip
              have h85 : a.tmps.getD 85 undef = .agg CN := hV.get 85 (by decide +kernel)
              have s90 : ∃ q c, a.tmps.getD 90 undef = .agg #[.slice q (NN.lb xn).length c] ∧ NN.NatIn w1 q c xn := hV.get 90 (by decide +kernel)
              obtain ⟨q', c', h90, hN⟩ := s90
              refine ⟨#[.agg #[.slice q (NN.lb xn).length c], .agg #[.slice q' (NN.lb xn).length c']], (wanted_of (t := 84) rfl rfl (hV.get 84 (by decide +kernel))), by simp [go_sem, h85, h90, HCN.out], ?_⟩
              refine (NN.cmp_any q q' c c' xn xn w1 hG.2.1 hN HXL.out).mono ?_
              rintro r u2 ⟨rfl, hb⟩; exact ⟨_, rfl, by unfold NN.cmpI; simp [VF2], GO.out _ x _ _ hG hb, VF2.keep (Wr.of_below hb)⟩
            refine CW.OweAllC.cons (CW.owesC_val 1 (by decide +kernel) (by decide) rfl rfl fun k' a w1 x hk ha hG hV => ?_) ?_
            · skip
              have h91 : a.tmps.getD 91 undef = .int .i64 0 := hV.get 91 (by decide +kernel)
              exact ⟨Value.bool false, (wanted_of (t := 84) rfl rfl (hV.get 84 (by decide +kernel))), by simp [execOp, go_sem, h91], rfl⟩
            refine CW.OweAllC.cons (CW.owesC_val 1 (by decide +kernel) (by decide) rfl rfl fun k' a w1 x hk ha hG hV => ?_) ?_
            · skip
              have h84 : a.tmps.getD 84 undef = Value.bool false := hV.get 84 (by decide +kernel)
              have h92 : a.tmps.getD 92 undef = Value.bool false := hV.get 92 (by decide +kernel)
              exact ⟨Value.bool false, wanted_free rfl, by simp [execOp, go_sem, h84, h92], rfl⟩
            refine CW.OweAllC.cons (CW.owesC_val 1 (by decide +kernel) (by decide) rfl rfl fun k' a w1 x hk ha hG hV => ?_) ?_
            · skip
              have h93 : a.tmps.getD 93 undef = Value.bool false := hV.get 93 (by decide +kernel)
              exact ⟨Value.bool false, wanted_free rfl, by simp [execOp, go_sem, h93], rfl⟩
            refine CW.OweAllC.cons (CW.owesC_val 0 (by decide +kernel) (by decide) rfl rfl fun k' a w1 x hk ha hG hV => ?_) ?_
            · skip
              have h10 := ha.outer 10 (by decide +kernel)
              simp only [Act.eval] at h10
              exact ⟨.pointer (some ⟨bI, 0, none⟩), (wanted_of (t := 94) rfl rfl (hV.get 94 (by decide +kernel))), by simp [execOp, go_sem, h10], rfl⟩
            refine CW.OweAllC.cons (CW.owesC_call 0 rfl rfl rfl 21 fun a w1 x ha hG hx hV => ?_) ?_
            · skip
              have h95 : a.tmps.getD 95 undef = .pointer (some ⟨bI, 0, none⟩) := hV.get 95 (by decide +kernel)
              refine ⟨#[.pointer (some ⟨bI, 0, none⟩), .int .i64 32], (wanted_of (t := 94) rfl rfl (hV.get 94 (by decide +kernel))), by simp [go_sem, h95], ?_⟩
              obtain ⟨k1, k2, k3, k4, k5⟩ := hG
              refine (T3.out w1 k1).mono ?_
              rintro r u2 ⟨rfl, hO, hm⟩
              have hw := wr_in k1 hm
              exact ⟨_, rfl, rfl, ⟨hO, natIn_wr k2 hw, hw.row k3 (by decide) (by decide) (by decide), k4.wr hw, KB.out _ _ k5 hm⟩, VF2.keep hw⟩
            refine CW.OweAllC.cons (CW.owesC_val 1 (by decide +kernel) (by decide) rfl rfl fun k' a w1 x hk ha hG hV => ?_) ?_
            · skip
              have h16 := ha.outer 16 (by decide +kernel)
              simp only [Act.eval] at h16
              exact ⟨.slice (some ⟨g16, 0, none⟩) 32 32, (wanted_of (t := 94) rfl rfl (hV.get 94 (by decide +kernel))), by simp [execOp, go_sem, h16], rfl⟩
            refine CW.OweAllC.cons (CW.owesC_val 1 (by decide +kernel) (by decide) rfl rfl fun k' a w1 x hk ha hG hV => ?_) ?_
            · skip
              have h97 : a.tmps.getD 97 undef = .slice (some ⟨g16, 0, none⟩) 32 32 := hV.get 97 (by decide +kernel)
              exact ⟨.string ⟨Z.toArray⟩, (wanted_of (t := 94) rfl rfl (hV.get 94 (by decide +kernel))), by simp [execOp, go_sem, h97, hG.2.2.2.1.text], rfl⟩
            refine CW.OweAllC.cons (CW.owesC_val 1 (by decide +kernel) (by decide) rfl rfl fun k' a w1 x hk ha hG hV => ?_) ?_
            · skip
              have h96 : a.tmps.getD 96 undef = .string ⟨Z.toArray⟩ := hV.get 96 (by decide +kernel)
              have h98 : a.tmps.getD 98 undef = .string ⟨Z.toArray⟩ := hV.get 98 (by decide +kernel)
              exact ⟨Value.bool false, (wanted_of (t := 94) rfl rfl (hV.get 94 (by decide +kernel))), by simp [execOp, go_sem, h96, h98], rfl⟩
            refine CW.OweAllC.cons (CW.owesC_val 1 (by decide +kernel) (by decide) rfl rfl fun k' a w1 x hk ha hG hV => ?_) ?_
            · skip
              have h94 : a.tmps.getD 94 undef = Value.bool false := hV.get 94 (by decide +kernel)
              have h99 : a.tmps.getD 99 undef = Value.bool false := hV.get 99 (by decide +kernel)
              exact ⟨Value.bool false, wanted_free rfl, by simp [execOp, go_sem, h94, h99], rfl⟩
            exact CW.OweAllC.nil
            ) ?_
          intro f wz xz hG hx hv
          have e100 : f 100 = Value.bool false := hv 23 _ 100 rfl rfl
          first | (rename_i hK; refine hK _ _ ?_; clear hK) | (rename_i hK _; refine hK _ _ ?_; clear hK) | (rename_i hK _ _; refine hK _ _ ?_; clear hK) | (rename_i hK _ _ _; refine hK _ _ ?_; clear hK)
          clear hv hx
          simp only [dsts, puts, List.filterMap_cons, List.filterMap_nil, List.foldl_cons, List.foldl_nil, Act.put, List.setIfInBounds_toArray, List.set_cons_succ, List.set_cons_zero, e100]
          clear e100
          have HZ2 : Hid (InAt 83 wz bI (strm ((prs L M n).drop (i + 1))) 0 ∧ Below wr0.heap.size wr0 wz) := Lib.hid (by
            obtain ⟨h1, h2, h3, h4, h5⟩ : InAt 83 wz bI R 0 ∧ NN.NatIn wz q c xn ∧ wz.heap[g14]? = some (.cells CN 26 (0, 0)) ∧ IdAt wz g16 Z ∧ Below wr0.heap.size wr0 wz := hG
            exact ⟨by rw [← HRR.out]; exact h1, h5⟩)
          have hlt := Hlt.out
          clear HG0 hG GO hrd3 KB T3 HXL HCN qCN HRR l0 l1 l2 lZ hyl hsl
          go_wp2_with fail
          go_roundw
          case rel => exact ⟨i + 1, by omega, by go_num, HZ2⟩
          case measure => simp [intOf]; omega
        · have j1 : ¬ (i : Int) < n := by omega
          have e : i = n := by omega
          have hnil : strm ((prs L M n).drop i) = [] := by rw [e, List.drop_eq_nil_of_le (by rw [prs_len]; exact Nat.le_refl _)]; rfl
          rw [hnil] at HS
          have hend : Hid (Calls Tryd.prog 22 #[.pointer (some ⟨bI, 0, none⟩)] wr fun r w' => r = .returned (.int .i64 0) ∧ wr = w') := Lib.hid (by have := end_any bI [] 0 wr HS.out.1; rw [if_pos rfl] at this; exact this)
          have hbw : Below w.heap.size w wr := HBW.out.trans (HS.out.2.mono HBW.out.size)
          have hx : bytesOf ((hexs (sha (nats [97, 98, 99]))).take 8) = ⟨#[98, 97, 55, 56, 49, 54, 98, 102]⟩ := by decide +kernel
          have hlt' := sha_lt (nats [97, 98, 99])
          have hlen' := sha_len (nats [97, 98, 99])
          have hof := Lib.hid (dof_any (.slice (some ⟨wr.heap.size, 0, none⟩) 1 1) [[97, 98, 99]] (wr.alloc (.cells #[.string ⟨#[97, 98, 99]⟩] 9)) (StrsAt.made wr 9 [[97, 98, 99]]) (by decide) (by decide) ((HT.out.old hbw).old ((Below.refl _ _).alloc (Nat.le_refl _) _)))
          rw [show ([[97, 98, 99]] : List (List UInt8)).flatten = [97, 98, 99] from rfl] at hof
          generalize sha (nats [97, 98, 99]) = S at hx hlt' hlen' hof
          have Hx := Lib.hid hx
          have HBE := Lib.hid hbw
          clear hx hnil e HS hbw
          go_wp2_with fail
          refine hend.out.mono ?_
          rintro r wr' ⟨rfl, rfl⟩
          go_wp2_with fail
          refine hof.out.mono ?_
          rintro r w8 ⟨rfl, hM1⟩
          have HM1 := Lib.hid hM1
          clear hM1
          go_wp2_with fail
          refine (short_any S w8 hlen' hlt').mono ?_
          rintro r w9 ⟨rfl, hM2⟩
          rw [Hx.out]
          have hB : Hid (Below w.heap.size w w9) := Lib.hid (by
            have h1 : Below wr.heap.size wr w9 := (((Mod.refl (fun _ => False) wr).alloc _).trans (HM1.out.trans hM2 (fun _ _ h => h)) (fun _ _ h => h)).to_below (Nat.le_refl _) (fun _ _ h => h)
            exact HBE.out.trans (h1.mono HBE.out.size))
          clear hM2
          go_wp2_with fail
          go_ret
          exact ⟨rfl, hB.out⟩
end Go.Proofs.YtdahkemeoefndaaDoor
