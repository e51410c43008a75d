/- Layer 5's fixed fact. -/
import Derived.Test.YtkejidmomnmdbaaDoorH10
namespace Go.Proofs.YtkejidmomnmdbaaDoor
open Go.RowKit

theorem exec_load_row {P : Program} {o : Oper} {a : Act} {w : World} (ty : TypeId) (x : Operand) (ho : o.op = .load ty x) (g : Nat) (hx : a.eval x = .pointer (some ⟨g, 0, none⟩)) (t : TypeId) (cs : Array Value) (fr : Nat × Nat) (d : TypeDesc) (hg : w.heap[g]? = some (.cells cs t fr))
    (hu : P.underlying ty = some d) (hd : (match d with | .struct _ | .array _ _ => true | _ => false) = true) (hi : (P.info? ty).map (·.size) = some cs.size) : (execOp a.eval o).run P w = .ok (.value (.agg cs)) w := by
  unfold execOp
  simp only [ho, hx, Instr.loadAt, Instr.sureAddr, Sem.run_bind, Sem.run_pure, Result.andThen_ok, run_loadVar_row w g t ty cs fr d hg hu hd hi]
theorem wpList_exec {P : Program} {ops : Array Oper} {rest : List Oper} {o : Oper} {a : Act} {w w' : World} {Q : Exit → Act → World → Prop} {v : Value} (hgd : o.guard = none) (hr : (execOp a.eval o).run P w = .ok (.value v) w') (h : wpList P ops Q rest (a.put o.dst v) w') : wpList P ops Q (o :: rest) a w := by
  refine wpList_plain hgd fun K hK => ?_
  unfold Oper.wp
  rw [hr]
  exact hK _ _ h
def oneHd : Hd Nm := ⟨1, 0, [116], 1, 2, [⟨rootB, rootB_len⟩], 0⟩
theorem oneHd_ok : HOkay oneHd := ⟨by decide, by decide, by decide, by decide, ⟨Nat.le_refl 2, Nat.le_of_ble_eq_true rfl⟩, by decide, by decide⟩
theorem oneHd_rs : hrs oneHd = true := rfl
theorem ghd_chk : chk ghd (rs (ghd.ps.map (·.1)) (ghd.ps.length - 1)) = 1 := by
  unfold chk ghd; simp
theorem oneHd_chk : chk oneHd (rs (oneHd.ps.map (·.1)) (oneHd.ps.length - 1)) = 0 := (chk_zero _ _).2 ⟨oneHd_ok, oneHd_rs⟩
theorem enc_one (s : Nm) : encN.all [s] = vals s.1 := by simp [Enc.all, encN]

set_option maxRecDepth 20000 in
set_option maxHeartbeats 4000000 in
theorem awake05_any (w : World) (hT : TabAt w) : Calls Tryd.prog 26 #[] w fun r w' => r = .returned (.bool true) ∧ Below w.heap.size w w' := by
  obtain ⟨GA, hGA⟩ : ∃ G, G = hcells ghd none 0 := ⟨_, rfl⟩
  have gen : Hid (∀ w, Calls Tryd.prog 93 #[] w fun r w' => r = .returned (.agg GA) ∧ Below w.heap.size w w') := Lib.hid (fun w => by rw [hGA]; exact genesis_any w)
  have K16 : Hid (∀ w, Calls Tryd.prog 29 #[.agg GA] w fun r w' => r = .returned (.int .i64 1) ∧ Below w.heap.size w w') := Lib.hid (fun w => by rw [hGA]; have := hcheck_any ghd none 0 w (Rd.nil _ _); rw [ghd_chk] at this; exact this)
  have K21 : Hid (∀ w, TabAt w → Calls Tryd.prog 33 #[.agg GA] w fun r w' => r = .returned (.agg (vals rootB).toArray) ∧ Below w.heap.size w w') := Lib.hid (fun w h => by rw [hGA]; exact hid_any ghd none 0 w (Rd.nil _ _) ghd_ok h)
  have K19 : Hid (∀ w, TabAt w → Calls Tryd.prog 94 #[] w fun r w' => r = .returned (.agg (vals rootB).toArray) ∧ Below w.heap.size w w') := Lib.hid root_any
  have hGs : GA.size = 7 := by rw [hGA]; rfl
  have hG1 : ∀ v ∈ GA.toList, v.oneCell' = true := by rw [hGA]; exact hcells_one _ _ _
  have hG4 : GA[4]? = some (.int .u64 2) := by rw [hGA]; rfl
  obtain ⟨one, hone⟩ : ∃ o, o = oneHd := ⟨_, rfl⟩
  obtain ⟨nb, hnb⟩ : ∃ nb, nb = shaB (hbytes (·.1) one) := ⟨_, rfl⟩
  have hnl : nb.length = 32 := by rw [hnb]; exact shaB_len _
  have KB : Hid (∀ q c w, Rd encN w q one.ps → Calls Tryd.prog 32 #[.agg (hcells one q c)] w fun r w' => r = .returned (.string ⟨(hbytes (·.1) one).toArray⟩) ∧ Below w.heap.size w w') := Lib.hid (fun q c w h => by rw [hone] at h ⊢; exact hbytes_any oneHd q c w h (by decide) (by decide) (by decide) (by decide) (by decide) (by decide) (by decide))
  have KI : Hid (∀ q c w, Rd encN w q one.ps → TabAt w → Calls Tryd.prog 33 #[.agg (hcells one q c)] w fun r w' => r = .returned (.agg (vals nb).toArray) ∧ Below w.heap.size w w') := Lib.hid (fun q c w h hT => by rw [hnb]; exact hid_any one q c w h (by rw [hone]; exact HOk.of oneHd_ok) hT)
  have KC : Hid (∀ q c w, Rd encN w q one.ps → Calls Tryd.prog 29 #[.agg (hcells one q c)] w fun r w' => r = .returned (.int .i64 0) ∧ Below w.heap.size w w') := Lib.hid (fun q c w h => by have := hcheck_any one q c w h; rw [hone, oneHd_chk] at this; rw [hone]; exact this)
  have hbl := hbytes_len one (by rw [hone]; exact HOk.of oneHd_ok)
  obtain ⟨S, hS⟩ : ∃ S, S = hbytes (·.1) one := ⟨_, rfl⟩
  rw [← hS] at hbl KB
  have KP : Hid (∀ w, Calls Tryd.prog 31 #[.string ⟨S.toArray⟩] w (HPost one 0 w)) := Lib.hid (fun w => by
    have h := hpar_back one (by rw [hone]; exact oneHd_ok) (by rw [hone]; exact oneHd_rs)
    rw [← hS] at h
    have := hparse_any S w (by omega)
    rw [h.1, h.2, if_pos rfl] at this; exact this)
  have Hps : Hid (one.ps = [⟨rootB, rootB_len⟩]) := Lib.hid (by rw [hone]; rfl)
  have Hcl : Hid (∀ q, hcells one q 1 = #[.int .i64 1, .int .i64 0, .string ⟨#[116]⟩, .int .i64 1, .int .u64 2, .slice q 1 1, .int .i64 0]) := Lib.hid (fun q => by rw [hone]; rfl)
  have hrbl := rootB_len
  have HTab := Lib.hid hT
  clear hGA hS hnb hone hbl hT
  have Hrd : Hid (∀ w : World, Rd encN (w.alloc (.cells (vals rootB).toArray 25)) (some ⟨w.heap.size, 0, none⟩) one.ps) := Lib.hid (fun w => by
    rw [Hps.out]
    have := Rd.made encN w 25 [⟨rootB, rootB_len⟩] (by simp [maxLen])
    rw [enc_one] at this; exact this)
  clear Hps
  generalize rootB = rb at K19 K21 hrbl Hrd
  have q7 := hinfo
  go_enter Tryd.func26, Tryd.ntmps26
  go_wp2_with fail
  refine (gen.out w).mono ?_
  rintro r w1 ⟨rfl, hb1⟩
  have B1 := Lib.hid hb1
  clear hb1 gen
  obtain ⟨W2, hW2⟩ : ∃ W, W = (w1.alloc (.cells #[.int .i64 0, .int .i64 0, .string ⟨#[]⟩, .int .i64 0, .int .u64 0, .slice none 0 0, .int .i64 0] 43)).setRow w1.heap.size GA := ⟨_, rfl⟩
  have hg1 := heap_alloc_new w1 (.cells #[.int .i64 0, .int .i64 0, .string ⟨#[]⟩, .int .i64 0, .int .u64 0, .slice none 0 0, .int .i64 0] 43)
  have b12 : Below w1.heap.size w1 W2 := by rw [hW2]; exact stored_below
  have box1 : Hid (W2.heap[w1.heap.size]? = some (.cells GA 43 (0, 0))) := Lib.hid (by rw [hW2]; exact setRow_heap _ _ _ _ _ _ (heap_alloc_new w1 _))
  have B2 := Lib.hid (B1.out.trans (b12.mono B1.out.size))
  have HW2 := Lib.hid hW2
  have qs : (#[.int .i64 0, .int .i64 0, .string ⟨#[]⟩, .int .i64 0, .int .u64 0, .slice none 0 0, .int .i64 0] : Array Value).size = GA.size := by rw [hGs]; rfl
  have q3 : (Tryd.prog.info? 43).map (·.size) = some GA.size := by rw [hGs]; exact hinfo
  clear hW2 b12
  go_wp2_with (refine wpList_store_row rfl rfl 43 (.tmp 1) (.tmp 5) rfl w1.heap.size rfl 43 _ GA rfl hg1 qs q3 hG1 ?_)
  rw [← HW2.out]
  refine (K19.out W2 (HTab.out.old B2.out)).mono ?_
  rintro r w3 ⟨rfl, hb3⟩
  have box3 := Lib.hid ((hb3.block _ (Array.getElem?_eq_some_iff.1 box1.out).1).trans box1.out)
  have B3 := Lib.hid (B2.out.trans (hb3.mono B2.out.size))
  clear hb3 hg1 qs box1
  obtain ⟨W4, hW4⟩ : ∃ W, W = w3.alloc (.cells (vals rb).toArray 25) := ⟨_, rfl⟩
  have b34 : Below w3.heap.size w3 W4 := by rw [hW4]; exact (Below.refl _ _).alloc (Nat.le_refl _) _
  have rd4 : Rd encN W4 (some ⟨w3.heap.size, 0, none⟩) one.ps := by rw [hW4]; exact Hrd.out w3
  obtain ⟨W5, hW5⟩ : ∃ W, W = (W4.alloc (.cells #[.int .i64 0, .int .i64 0, .string ⟨#[]⟩, .int .i64 0, .int .u64 0, .slice none 0 0, .int .i64 0] 43)).setRow W4.heap.size #[.int .i64 1, .int .i64 0, .string ⟨#[116]⟩, .int .i64 1, .int .u64 2, .slice (some ⟨w3.heap.size, 0, none⟩) 1 1, .int .i64 0] := ⟨_, rfl⟩
  have hg4 := heap_alloc_new W4 (.cells #[.int .i64 0, .int .i64 0, .string ⟨#[]⟩, .int .i64 0, .int .u64 0, .slice none 0 0, .int .i64 0] 43)
  have b45 : Below W4.heap.size W4 W5 := by rw [hW5]; exact stored_below
  have b35 := b34.trans (b45.mono b34.size)
  have box5 : Hid (W5.heap[w1.heap.size]? = some (.cells GA 43 (0, 0))) := Lib.hid ((b35.block _ (Array.getElem?_eq_some_iff.1 box3.out).1).trans box3.out)
  have box52 : Hid (W5.heap[W4.heap.size]? = some (.cells #[.int .i64 1, .int .i64 0, .string ⟨#[116]⟩, .int .i64 1, .int .u64 2, .slice (some ⟨w3.heap.size, 0, none⟩) 1 1, .int .i64 0] 43 (0, 0))) := Lib.hid (by rw [hW5]; exact setRow_heap _ _ _ _ _ _ (heap_alloc_new W4 _))
  have rd5 := Lib.hid (rd4.old b45)
  have B5 := Lib.hid (B3.out.trans (b35.mono B3.out.size))
  have HW5 := Lib.hid hW5
  have HW4 := Lib.hid hW4
  have q1 : ∀ v ∈ (#[.int .i64 1, .int .i64 0, .string ⟨#[116]⟩, .int .i64 1, .int .u64 2, .slice (some ⟨w3.heap.size, 0, none⟩) 1 1, .int .i64 0] : Array Value).toList, v.oneCell' = true := by rw [← Hcl.out]; exact hcells_one _ _ _
  clear hW5 hW4 b34 b45 b35 rd4 box3 Hrd
  go_wp2_with (first | (refine wpList_exec rfl (build_name (.tmp 6) rfl rb hrbl rfl) ?_; rw [← HW4.out]) | (refine wpList_store_row rfl rfl 43 (.tmp 2) (.tmp 8) rfl W4.heap.size rfl 43 _ #[.int .i64 1, .int .i64 0, .string ⟨#[116]⟩, .int .i64 1, .int .u64 2, .slice (some ⟨w3.heap.size, 0, none⟩) 1 1, .int .i64 0] rfl hg4 rfl hinfo q1 ?_; rw [← HW5.out]) | (refine wpList_load_row rfl 43 (.tmp 2) rfl W4.heap.size rfl 43 #[.int .i64 1, .int .i64 0, .string ⟨#[116]⟩, .int .i64 1, .int .u64 2, .slice (some ⟨w3.heap.size, 0, none⟩) 1 1, .int .i64 0] (0, 0) _ box52.out Tryd.underlying43 rfl hinfo ?_; rw [← Hcl.out]))
  clear hg4 q1
  refine (KB.out _ _ W5 rd5.out).mono ?_
  rintro r w6 ⟨rfl, hb6⟩
  have B6 := Lib.hid (B5.out.trans (hb6.mono B5.out.size))
  have b56 := Lib.hid hb6
  clear hb6
  go_wp2_with fail
  refine (KP.out w6).mono ?_
  rintro r w7 ⟨q, c, rfl, hR7, hb7, _⟩
  have b57 := Lib.hid (b56.out.trans (hb7.mono b56.out.size))
  have hY1 := Lib.hid (hcells_one one q c)
  have KI2 := Lib.hid (KI.out q c)
  obtain ⟨Y, hY⟩ : ∃ Y, Y = hcells one q c := ⟨_, rfl⟩
  rw [← hY] at hY1 KI2 ⊢
  have hYs : Y.size = 7 := by rw [hY]; rfl
  obtain ⟨W8, hW8⟩ : ∃ W, W = (w7.alloc (.cells #[.int .i64 0, .int .i64 0, .string ⟨#[]⟩, .int .i64 0, .int .u64 0, .slice none 0 0, .int .i64 0] 43)).setRow w7.heap.size Y := ⟨_, rfl⟩
  have hg7 := heap_alloc_new w7 (.cells #[.int .i64 0, .int .i64 0, .string ⟨#[]⟩, .int .i64 0, .int .u64 0, .slice none 0 0, .int .i64 0] 43)
  have b78 : Below w7.heap.size w7 W8 := by rw [hW8]; exact stored_below
  have b58 := b57.out.trans (b78.mono b57.out.size)
  have box8 : W8.heap[w1.heap.size]? = some (.cells GA 43 (0, 0)) := (b58.block _ (Array.getElem?_eq_some_iff.1 box5.out).1).trans box5.out
  have box82 : W8.heap[W4.heap.size]? = some (.cells (hcells one (some ⟨w3.heap.size, 0, none⟩) 1) 43 (0, 0)) := by rw [Hcl.out]; exact (b58.block _ (Array.getElem?_eq_some_iff.1 box52.out).1).trans box52.out
  have box83 : W8.heap[w7.heap.size]? = some (.cells Y 43 (0, 0)) := by rw [hW8]; exact setRow_heap _ _ _ _ _ _ (heap_alloc_new w7 _)
  have B8 := Lib.hid (B5.out.trans (b58.mono B5.out.size))
  have HX : Hid (∀ w', Below W8.heap.size W8 w' → w'.heap[w1.heap.size]? = some (.cells GA 43 (0, 0)) ∧ w'.heap[W4.heap.size]? = some (.cells (hcells one (some ⟨w3.heap.size, 0, none⟩) 1) 43 (0, 0)) ∧ w'.heap[w7.heap.size]? = some (.cells Y 43 (0, 0)) ∧ TabAt w' ∧ Rd encN w' (some ⟨w3.heap.size, 0, none⟩) one.ps ∧ Rd encN w' q one.ps) := Lib.hid (fun w' hb =>
    ⟨(hb.block _ (Array.getElem?_eq_some_iff.1 box8).1).trans box8, (hb.block _ (Array.getElem?_eq_some_iff.1 box82).1).trans box82, (hb.block _ (Array.getElem?_eq_some_iff.1 box83).1).trans box83, HTab.out.old (B8.out.trans (hb.mono B8.out.size)), (rd5.out.old b58).old hb, (hR7.rd.old b78).old hb⟩)
  obtain ⟨HB, hHB⟩ : ∃ H, H = hcells one (some ⟨w3.heap.size, 0, none⟩) 1 := ⟨_, rfl⟩
  have KI1 := Lib.hid (KI.out (some ⟨w3.heap.size, 0, none⟩) 1)
  have KC1 := Lib.hid (KC.out (some ⟨w3.heap.size, 0, none⟩) 1)
  rw [← hHB] at HX KI1 KC1
  have hBs : HB.size = 7 := by rw [hHB]; rfl
  have HW8 := Lib.hid hW8
  have qs : (#[.int .i64 0, .int .i64 0, .string ⟨#[]⟩, .int .i64 0, .int .u64 0, .slice none 0 0, .int .i64 0] : Array Value).size = Y.size := by rw [hYs]; rfl
  have q3y : (Tryd.prog.info? 43).map (·.size) = some Y.size := by rw [hYs]; exact hinfo
  have q3b : (Tryd.prog.info? 43).map (·.size) = some HB.size := by rw [hBs]; exact hinfo
  have q4 := hY1.out
  clear hY hW8 b78 b58 box8 box82 box83 hb7 hR7 hHB box5 box52 rd5 KI KC
  go_upto_region 4 with (refine wpList_store_row rfl rfl 43 (.tmp 3) (.tmp 13) rfl w7.heap.size rfl 43 _ Y rfl hg7 qs q3y q4 ?_; rw [← HW8.out])
  clear hg7 qs q4
  generalize w1.heap.size = g1 at HX ⊢
  generalize W4.heap.size = g2 at HX ⊢
  generalize w7.heap.size = g3 at HX ⊢
  refine wp_region_puts (fun t v w => VK (match t with
    | 15 => .eq (.agg GA)
    | 16 => .eq (.int .i64 1)
    | 17 => .eq (Value.bool true)
    | 18 => .eq (Value.bool true)
    | 19 => .eq (.agg (vals rb).toArray)
    | 20 => .eq (.agg GA)
    | 21 => .eq (.agg (vals rb).toArray)
    | 22 => .eq (Value.bool true)
    | 23 => .eq (Value.bool true)
    | 24 => .eq (Value.bool true)
    | 25 => .eq (.agg HB)
    | 26 => .eq (.int .i64 0)
    | 27 => .eq (Value.bool true)
    | 28 => .eq (Value.bool true)
    | 29 => .eq (Value.bool true)
    | 30 => .eq (.int .i64 0)
    | 31 => .eq (Value.bool true)
    | 32 => .eq (Value.bool true)
    | 33 => .eq (Value.bool true)
    | 34 => .eq (.agg Y)
    | 35 => .eq (.agg (vals nb).toArray)
    | 36 => .eq (.agg HB)
    | 37 => .eq (.agg (vals nb).toArray)
    | 38 => .eq (Value.bool true)
    | 39 => .eq (Value.bool true)
    | 40 => .eq (Value.bool true)
    | 41 => .eq (.pointer (some ⟨g1, 4, none⟩))
    | 42 => .eq (.int .u64 2)
    | 43 => .eq (Value.bool true)
    | 44 => .eq (Value.bool true)
    | 0 => .eq (Value.bool true)
    | _ => .any) v w) (fun w' => Below W8.heap.size W8 w') 45 (by kernel_rfl) (by decide +kernel) rfl (Below.refl _ _).drew (by
    refine OweAll.cons (owesK rfl rfl fun a w1 ha hG hV => ?_) ?_
    · skip
      have h1 := ha.outer 1 (by decide +kernel)
      simp only [Act.eval] at h1
      exact ⟨.agg GA, w1, wanted_free rfl, exec_load_row 43 (.tmp 1) rfl g1 h1 43 GA (0, 0) _ (HX.out w1 hG).1 Tryd.underlying43 rfl q3, Below.refl _ _, rfl⟩
    refine OweAll.cons (owesK_call rfl rfl 29 fun a w1 ha hG hV => ?_) ?_
    · skip
      have h15 : a.tmps.getD 15 undef = .agg GA := hV.get 15 (by decide +kernel)
      refine ⟨#[.agg GA], wanted_free rfl, by simp [execOp, resolve, invoke, go_sem, h15], ?_⟩
      refine (K16.out w1).mono ?_
      rintro r u2 ⟨rfl, hb⟩; exact ⟨_, rfl, rfl, hb⟩
    refine OweAll.cons (owesK rfl rfl fun a w1 ha hG hV => ?_) ?_
    · skip
      have h16 : a.tmps.getD 16 undef = .int .i64 1 := hV.get 16 (by decide +kernel)
      exact ⟨Value.bool true, w1, wanted_free rfl, by simp [execOp, go_sem, h16], Below.refl _ _, rfl⟩
    refine OweAll.cons (owesK rfl rfl fun a w1 ha hG hV => ?_) ?_
    · skip
      have h17 : a.tmps.getD 17 undef = Value.bool true := hV.get 17 (by decide +kernel)
      exact ⟨Value.bool true, w1, wanted_free rfl, by simp [execOp, go_sem, h17], Below.refl _ _, rfl⟩
    refine OweAll.cons (owesK_call rfl rfl 94 fun a w1 ha hG hV => ?_) ?_
    · skip
      refine ⟨#[], (wanted_of (t := 18) rfl rfl (hV.get 18 (by decide +kernel))), by simp [execOp, resolve, invoke, go_sem], ?_⟩
      refine (K19.out w1 (HX.out w1 hG).2.2.2.1).mono ?_
      rintro r u2 ⟨rfl, hb⟩; exact ⟨_, rfl, rfl, hb⟩
    refine OweAll.cons (owesK rfl rfl fun a w1 ha hG hV => ?_) ?_
    · skip
      have h1 := ha.outer 1 (by decide +kernel)
      simp only [Act.eval] at h1
      exact ⟨.agg GA, w1, (wanted_of (t := 18) rfl rfl (hV.get 18 (by decide +kernel))), exec_load_row 43 (.tmp 1) rfl g1 h1 43 GA (0, 0) _ (HX.out w1 hG).1 Tryd.underlying43 rfl q3, Below.refl _ _, rfl⟩
    refine OweAll.cons (owesK_call rfl rfl 33 fun a w1 ha hG hV => ?_) ?_
    · skip
      have h20 : a.tmps.getD 20 undef = .agg GA := hV.get 20 (by decide +kernel)
      refine ⟨#[.agg GA], (wanted_of (t := 18) rfl rfl (hV.get 18 (by decide +kernel))), by simp [execOp, resolve, invoke, go_sem, h20], ?_⟩
      refine (K21.out w1 (HX.out w1 hG).2.2.2.1).mono ?_
      rintro r u2 ⟨rfl, hb⟩; exact ⟨_, rfl, rfl, hb⟩
    refine OweAll.cons (owesK rfl rfl fun a w1 ha hG hV => ?_) ?_
    · skip
      have h19 : a.tmps.getD 19 undef = .agg (vals rb).toArray := hV.get 19 (by decide +kernel)
      have h21 : a.tmps.getD 21 undef = .agg (vals rb).toArray := hV.get 21 (by decide +kernel)
      exact ⟨Value.bool true, w1, (wanted_of (t := 18) rfl rfl (hV.get 18 (by decide +kernel))), by simp [execOp, go_sem, h19, h21, id_eql rb rb hrbl hrbl], Below.refl _ _, rfl⟩
    refine OweAll.cons (owesK rfl rfl fun a w1 ha hG hV => ?_) ?_
    · skip
      have h18 : a.tmps.getD 18 undef = Value.bool true := hV.get 18 (by decide +kernel)
      have h22 : a.tmps.getD 22 undef = Value.bool true := hV.get 22 (by decide +kernel)
      exact ⟨Value.bool true, w1, wanted_free rfl, by simp [execOp, go_sem, h18, h22], Below.refl _ _, rfl⟩
    refine OweAll.cons (owesK rfl rfl fun a w1 ha hG hV => ?_) ?_
    · skip
      have h23 : a.tmps.getD 23 undef = Value.bool true := hV.get 23 (by decide +kernel)
      exact ⟨Value.bool true, w1, wanted_free rfl, by simp [execOp, go_sem, h23], Below.refl _ _, rfl⟩
    refine OweAll.cons (owesK rfl rfl fun a w1 ha hG hV => ?_) ?_
    · skip
      have h2 := ha.outer 2 (by decide +kernel)
      simp only [Act.eval] at h2
      exact ⟨.agg HB, w1, (wanted_of (t := 24) rfl rfl (hV.get 24 (by decide +kernel))), exec_load_row 43 (.tmp 2) rfl g2 h2 43 HB (0, 0) _ (HX.out w1 hG).2.1 Tryd.underlying43 rfl q3b, Below.refl _ _, rfl⟩
    refine OweAll.cons (owesK_call rfl rfl 29 fun a w1 ha hG hV => ?_) ?_
    · skip
      have h25 : a.tmps.getD 25 undef = .agg HB := hV.get 25 (by decide +kernel)
      refine ⟨#[.agg HB], (wanted_of (t := 24) rfl rfl (hV.get 24 (by decide +kernel))), by simp [execOp, resolve, invoke, go_sem, h25], ?_⟩
      refine (KC1.out w1 (HX.out w1 hG).2.2.2.2.1).mono ?_
      rintro r u2 ⟨rfl, hb⟩; exact ⟨_, rfl, rfl, hb⟩
    refine OweAll.cons (owesK rfl rfl fun a w1 ha hG hV => ?_) ?_
    · skip
      have h26 : a.tmps.getD 26 undef = .int .i64 0 := hV.get 26 (by decide +kernel)
      exact ⟨Value.bool true, w1, (wanted_of (t := 24) rfl rfl (hV.get 24 (by decide +kernel))), by simp [execOp, go_sem, h26], Below.refl _ _, rfl⟩
    refine OweAll.cons (owesK rfl rfl fun a w1 ha hG hV => ?_) ?_
    · skip
      have h24 : a.tmps.getD 24 undef = Value.bool true := hV.get 24 (by decide +kernel)
      have h27 : a.tmps.getD 27 undef = Value.bool true := hV.get 27 (by decide +kernel)
      exact ⟨Value.bool true, w1, wanted_free rfl, by simp [execOp, go_sem, h24, h27], Below.refl _ _, rfl⟩
    refine OweAll.cons (owesK rfl rfl fun a w1 ha hG hV => ?_) ?_
    · skip
      have h28 : a.tmps.getD 28 undef = Value.bool true := hV.get 28 (by decide +kernel)
      exact ⟨Value.bool true, w1, wanted_free rfl, by simp [execOp, go_sem, h28], Below.refl _ _, rfl⟩
    refine OweAll.cons (owesK rfl rfl fun a w1 ha hG hV => ?_) ?_
    · skip
      have h4 := ha.outer 4 (by decide +kernel)
      simp only [Act.eval] at h4
      exact ⟨.int .i64 0, w1, (wanted_of (t := 29) rfl rfl (hV.get 29 (by decide +kernel))), by simp [execOp, go_sem, h4], Below.refl _ _, rfl⟩
    refine OweAll.cons (owesK rfl rfl fun a w1 ha hG hV => ?_) ?_
    · skip
      have h30 : a.tmps.getD 30 undef = .int .i64 0 := hV.get 30 (by decide +kernel)
      exact ⟨Value.bool true, w1, (wanted_of (t := 29) rfl rfl (hV.get 29 (by decide +kernel))), by simp [execOp, go_sem, h30], Below.refl _ _, rfl⟩
    refine OweAll.cons (owesK rfl rfl fun a w1 ha hG hV => ?_) ?_
    · skip
      have h29 : a.tmps.getD 29 undef = Value.bool true := hV.get 29 (by decide +kernel)
      have h31 : a.tmps.getD 31 undef = Value.bool true := hV.get 31 (by decide +kernel)
      exact ⟨Value.bool true, w1, wanted_free rfl, by simp [execOp, go_sem, h29, h31], Below.refl _ _, rfl⟩
    refine OweAll.cons (owesK rfl rfl fun a w1 ha hG hV => ?_) ?_
    · skip
      have h32 : a.tmps.getD 32 undef = Value.bool true := hV.get 32 (by decide +kernel)
      exact ⟨Value.bool true, w1, wanted_free rfl, by simp [execOp, go_sem, h32], Below.refl _ _, rfl⟩
    refine OweAll.cons (owesK rfl rfl fun a w1 ha hG hV => ?_) ?_
    · skip
      have h3 := ha.outer 3 (by decide +kernel)
      simp only [Act.eval] at h3
      exact ⟨.agg Y, w1, (wanted_of (t := 33) rfl rfl (hV.get 33 (by decide +kernel))), exec_load_row 43 (.tmp 3) rfl g3 h3 43 Y (0, 0) _ (HX.out w1 hG).2.2.1 Tryd.underlying43 rfl q3y, Below.refl _ _, rfl⟩
    refine OweAll.cons (owesK_call rfl rfl 33 fun a w1 ha hG hV => ?_) ?_
    · skip
      have h34 : a.tmps.getD 34 undef = .agg Y := hV.get 34 (by decide +kernel)
      refine ⟨#[.agg Y], (wanted_of (t := 33) rfl rfl (hV.get 33 (by decide +kernel))), by simp [execOp, resolve, invoke, go_sem, h34], ?_⟩
      refine (KI2.out w1 (HX.out w1 hG).2.2.2.2.2 (HX.out w1 hG).2.2.2.1).mono ?_
      rintro r u2 ⟨rfl, hb⟩; exact ⟨_, rfl, rfl, hb⟩
    refine OweAll.cons (owesK rfl rfl fun a w1 ha hG hV => ?_) ?_
    · skip
      have h2 := ha.outer 2 (by decide +kernel)
      simp only [Act.eval] at h2
      exact ⟨.agg HB, w1, (wanted_of (t := 33) rfl rfl (hV.get 33 (by decide +kernel))), exec_load_row 43 (.tmp 2) rfl g2 h2 43 HB (0, 0) _ (HX.out w1 hG).2.1 Tryd.underlying43 rfl q3b, Below.refl _ _, rfl⟩
    refine OweAll.cons (owesK_call rfl rfl 33 fun a w1 ha hG hV => ?_) ?_
    · skip
      have h36 : a.tmps.getD 36 undef = .agg HB := hV.get 36 (by decide +kernel)
      refine ⟨#[.agg HB], (wanted_of (t := 33) rfl rfl (hV.get 33 (by decide +kernel))), by simp [execOp, resolve, invoke, go_sem, h36], ?_⟩
      refine (KI1.out w1 (HX.out w1 hG).2.2.2.2.1 (HX.out w1 hG).2.2.2.1).mono ?_
      rintro r u2 ⟨rfl, hb⟩; exact ⟨_, rfl, rfl, hb⟩
    refine OweAll.cons (owesK rfl rfl fun a w1 ha hG hV => ?_) ?_
    · skip
      have h35 : a.tmps.getD 35 undef = .agg (vals nb).toArray := hV.get 35 (by decide +kernel)
      have h37 : a.tmps.getD 37 undef = .agg (vals nb).toArray := hV.get 37 (by decide +kernel)
      exact ⟨Value.bool true, w1, (wanted_of (t := 33) rfl rfl (hV.get 33 (by decide +kernel))), by simp [execOp, go_sem, h35, h37, id_eql nb nb hnl hnl], Below.refl _ _, rfl⟩
    refine OweAll.cons (owesK rfl rfl fun a w1 ha hG hV => ?_) ?_
    · skip
      have h33 : a.tmps.getD 33 undef = Value.bool true := hV.get 33 (by decide +kernel)
      have h38 : a.tmps.getD 38 undef = Value.bool true := hV.get 38 (by decide +kernel)
      exact ⟨Value.bool true, w1, wanted_free rfl, by simp [execOp, go_sem, h33, h38], Below.refl _ _, rfl⟩
    refine OweAll.cons (owesK rfl rfl fun a w1 ha hG hV => ?_) ?_
    · skip
      have h39 : a.tmps.getD 39 undef = Value.bool true := hV.get 39 (by decide +kernel)
      exact ⟨Value.bool true, w1, wanted_free rfl, by simp [execOp, go_sem, h39], Below.refl _ _, rfl⟩
    refine OweAll.cons (owesK rfl rfl fun a w1 ha hG hV => ?_) ?_
    · skip
      have h1 := ha.outer 1 (by decide +kernel)
      simp only [Act.eval] at h1
      exact ⟨.pointer (some ⟨g1, 4, none⟩), w1, (wanted_of (t := 40) rfl rfl (hV.get 40 (by decide +kernel))), by simp [execOp, go_sem, h1], Below.refl _ _, rfl⟩
    refine OweAll.cons (owesK rfl rfl fun a w1 ha hG hV => ?_) ?_
    · skip
      have h41 : a.tmps.getD 41 undef = .pointer (some ⟨g1, 4, none⟩) := hV.get 41 (by decide +kernel)
      have cc : w1.cell? ⟨g1, 4, none⟩ = some (.int .u64 2) := (cell_of_row w1 g1 4 GA 43 (0, 0) (HX.out w1 hG).1).trans hG4
      exact ⟨.int .u64 2, w1, (wanted_of (t := 40) rfl rfl (hV.get 40 (by decide +kernel))), by simp [execOp, go_sem, h41, cc], Below.refl _ _, rfl⟩
    refine OweAll.cons (owesK rfl rfl fun a w1 ha hG hV => ?_) ?_
    · skip
      have h42 : a.tmps.getD 42 undef = .int .u64 2 := hV.get 42 (by decide +kernel)
      exact ⟨Value.bool true, w1, (wanted_of (t := 40) rfl rfl (hV.get 40 (by decide +kernel))), by simp [execOp, go_sem, h42], Below.refl _ _, rfl⟩
    refine OweAll.cons (owesK rfl rfl fun a w1 ha hG hV => ?_) ?_
    · skip
      have h40 : a.tmps.getD 40 undef = Value.bool true := hV.get 40 (by decide +kernel)
      have h43 : a.tmps.getD 43 undef = Value.bool true := hV.get 43 (by decide +kernel)
      exact ⟨Value.bool true, w1, wanted_free rfl, by simp [execOp, go_sem, h40, h43], Below.refl _ _, rfl⟩
    refine OweAll.cons (owesK rfl rfl fun a w1 ha hG hV => ?_) ?_
    · skip
      have h44 : a.tmps.getD 44 undef = Value.bool true := hV.get 44 (by decide +kernel)
      exact ⟨Value.bool true, w1, wanted_free rfl, by simp [execOp, go_sem, h44], Below.refl _ _, rfl⟩
    exact OweAll.nil
    ) ?_
  intro f wz hG hv
  have e0 : f 0 = Value.bool true := hv 30 _ 0 rfl rfl
  rename_i hK
  refine hK _ _ ?_
  clear hK hv
  simp only [dsts, puts, List.filterMap_cons, List.filterMap_nil, List.foldl_cons, List.foldl_nil, Act.put, List.setIfInBounds_toArray, List.set_cons_succ, List.set_cons_zero, e0]
  clear e0
  have HG := Lib.hid (B8.out.trans (hG.mono B8.out.size))
  clear hG
  go_wp2_with fail
  go_ret
  exact ⟨rfl, HG.out⟩
end Go.Proofs.YtkejidmomnmdbaaDoor
