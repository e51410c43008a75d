/- Texts 9: what the laws lean on. -/
import Derived.Test.YtmodikcghlbigaaDoorB2
import Derived.Test.YtmodikcghlbigaaDoorB8
import Derived.Test.YtmodikcghlbigaaDoorB4
import Derived.Great.BuildSlice
namespace Go.Proofs.YtmodikcghlbigaaDoor
open Go.RowKit

theorem refofB (s : List UInt8) (w : World) (hl : s.length ≤ 1073741824) :
    Calls Tryd.prog 38 #[.string ⟨s.toArray⟩] w fun r w' => r = .returned (.string ⟨(shaB s).toArray⟩) ∧ Below w.heap.size w w' :=
  (refof_any s w hl).mono fun _ _ ⟨h1, h2⟩ => ⟨by rw [h1, sha_bytes], h2.to_below (Nat.le_refl _) (fun _ _ h => h)⟩
end Go.Proofs.YtmodikcghlbigaaDoor

namespace Go.Proofs.YtmodikcghlbigaaDoor
open Go.RowKit

set_option maxRecDepth 20000 in
set_option maxHeartbeats 8000000 in
theorem rbytes_any (c : Ct) (p q : Option Addr) (cp cq : Nat) (w : World) (hS : CtAt w c p q) (ok : CtOk c) :
    Calls Tryd.prog 14 #[.agg (ctc c p q cp cq)] w fun r w' => r = .returned (.string ⟨(ctB c).toArray⟩) ∧ Below w.heap.size w w' := by
  have hlen := ctB_len ok
  obtain ⟨F, hF⟩ : ∃ F, F = ctB c := ⟨_, rfl⟩
  rw [← hF] at hlen ⊢
  obtain ⟨inst, base, fin, sg, ch⟩ := c
  obtain ⟨hS1, hS2⟩ := hS
  obtain ⟨ns, nc, i0, i1, kb, kf, hg, hr⟩ := ok
  have kb := CtOk.key kb
  have kf := CtOk.key kf
  unfold ctB at hF
  simp only at hS1 hS2 ns nc i0 i1 kb kf hg hr hF
  unfold ctc
  simp only
  have hrm := Lib.hid (fun x hx => rise_mem hr (by decide) x hx)
  have hgm := Lib.hid (fun x hx => good_mem hg (by decide) x hx)
  obtain ⟨n, hn⟩ : ∃ n, n = sg.length := ⟨_, rfl⟩
  obtain ⟨m0, hm0⟩ : ∃ n, n = ch.length := ⟨_, rfl⟩
  rw [← hn, ← hm0] at hF ⊢
  rw [← hn] at ns
  rw [← hm0] at nc
  have Hn := Lib.hid hn
  have Hm := Lib.hid hm0
  have HS1 := Lib.hid hS1
  have HS2 := Lib.hid hS2
  have n1 := numL_len inst (by omega)
  have n2 := numL_len (base.length : Int) (by omega)
  have n3 := numL_len (fin.length : Int) (by omega)
  have n4 := numL_len (n : Int) (by omega)
  have n5 := numL_len (m0 : Int) (by omega)
  have K1 : Hid (∀ w, Calls Tryd.prog 36 #[.int .i64 inst] w fun r w' => r = .returned (.string ⟨(numL inst).toArray⟩) ∧ Below w.heap.size w w') := Lib.hid (fun w => refnum_any inst w (by omega) (by omega))
  have K2 : Hid (∀ w, Calls Tryd.prog 37 #[.string ⟨base.toArray⟩] w fun r w' => r = .returned (.string ⟨(numL base.length ++ base).toArray⟩) ∧ Below w.heap.size w w') := Lib.hid (fun w => reftext_any base w (by omega))
  have K3 : Hid (∀ w, Calls Tryd.prog 37 #[.string ⟨fin.toArray⟩] w fun r w' => r = .returned (.string ⟨(numL fin.length ++ fin).toArray⟩) ∧ Below w.heap.size w w') := Lib.hid (fun w => reftext_any fin w (by omega))
  have K4 : Hid (∀ w, Calls Tryd.prog 36 #[.int .i64 (n : Int)] w fun r w' => r = .returned (.string ⟨(numL n).toArray⟩) ∧ Below w.heap.size w w') := Lib.hid (fun w => refnum_any n w (by omega) (by omega))
  have K5 : Hid (∀ w, Calls Tryd.prog 36 #[.int .i64 (m0 : Int)] w fun r w' => r = .returned (.string ⟨(numL m0).toArray⟩) ∧ Below w.heap.size w w') := Lib.hid (fun w => refnum_any m0 w (by omega) (by omega))
  have l2 : (numL base.length ++ base).length ≤ 169 := by rw [List.length_append]; omega
  have l3 : (numL fin.length ++ fin).length ≤ 169 := by rw [List.length_append]; omega
  generalize numL inst = N1 at *
  generalize numL base.length ++ base = N2 at *
  generalize numL fin.length ++ fin = N3 at *
  generalize numL (n : Int) = N4 at *
  generalize numL (m0 : Int) = N5 at *
  have a1 : (N1 ++ N2).length ≤ 178 := by rw [List.length_append]; omega
  have a2 : (N1 ++ N2 ++ N3).length ≤ 347 := by rw [List.length_append]; omega
  have HF := Lib.hid hF
  clear hF hn hm0 hS1 hS2 hg hr n2 n3
  obtain ⟨W0, hW0⟩ : ∃ W, W = w.alloc (.cells #[.int .i64 inst, .string ⟨base.toArray⟩, .string ⟨fin.toArray⟩, .slice p n cp, .slice q m0 cq] 25) := ⟨_, rfl⟩
  have hB : Hid (Below w.heap.size w W0) := Lib.hid (by rw [hW0]; exact (Below.refl _ _).alloc (Nat.le_refl _) _)
  obtain ⟨g, hg⟩ : ∃ g, g = w.heap.size := ⟨_, rfl⟩
  have hbx0 : W0.heap[g]? = some (.cells #[.int .i64 inst, .string ⟨base.toArray⟩, .string ⟨fin.toArray⟩, .slice p n cp, .slice q m0 cq] 25 (0, 0)) := by rw [hW0, hg]; exact heap_alloc_new _ _
  have hbx : ∀ w2, Below W0.heap.size W0 w2 → w2.cell? ⟨g, 0, none⟩ = some (.int .i64 inst) ∧ w2.cell? ⟨g, 1, none⟩ = some (.string ⟨base.toArray⟩) ∧ w2.cell? ⟨g, 2, none⟩ = some (.string ⟨fin.toArray⟩) ∧ w2.cell? ⟨g, 3, none⟩ = some (.slice p n cp) ∧ w2.cell? ⟨g, 4, none⟩ = some (.slice q m0 cq) := fun w2 h2 => by
    have e := (h2.block g (Array.getElem?_eq_some_iff.1 hbx0).1).trans hbx0
    exact ⟨cell_of_row w2 g 0 _ 25 (0, 0) e, cell_of_row w2 g 1 _ 25 (0, 0) e, cell_of_row w2 g 2 _ 25 (0, 0) e, cell_of_row w2 g 3 _ 25 (0, 0) e, cell_of_row w2 g 4 _ 25 (0, 0) e⟩
  have hlow : Hid (∀ w2, Below W0.heap.size W0 w2 → Below w.heap.size w w2) := Lib.hid (fun w2 h2 => hB.out.trans (h2.mono hB.out.size))
  have HW := Lib.hid hW0
  have Hg := Lib.hid hg
  clear hW0 hg hbx0
  go_enter Tryd.func14, Tryd.ntmps14
  go_wp2_with fail
  rw [← HW.out, ← Hg.out]
  refine wp_region_puts (fun t v w => VK (match t with
    | 8 => .eq (.pointer (some ⟨g, 0, none⟩))
    | 9 => .eq (.int .i64 inst)
    | 10 => .eq (.string ⟨N1.toArray⟩)
    | 11 => .eq (.pointer (some ⟨g, 1, none⟩))
    | 12 => .eq (.string ⟨base.toArray⟩)
    | 13 => .eq (.string ⟨N2.toArray⟩)
    | 14 => .eq (.string ⟨((N1) ++ (N2)).toArray⟩)
    | 15 => .eq (.pointer (some ⟨g, 2, none⟩))
    | 16 => .eq (.string ⟨fin.toArray⟩)
    | 17 => .eq (.string ⟨N3.toArray⟩)
    | 18 => .eq (.string ⟨((N1 ++ N2) ++ (N3)).toArray⟩)
    | 19 => .eq (.pointer (some ⟨g, 3, none⟩))
    | 20 => .eq (.slice p n cp)
    | 21 => .eq (.int .i64 (n : Int))
    | 22 => .eq (.string ⟨N4.toArray⟩)
    | 23 => .eq (.string ⟨((N1 ++ N2 ++ N3) ++ (N4)).toArray⟩)
    | 3 => .eq (.string ⟨((N1 ++ N2 ++ N3) ++ (N4)).toArray⟩)
    | _ => .any) v w) (fun w' => Below W0.heap.size W0 w') 60 (by kernel_rfl) (by decide +kernel) rfl (Below.refl _ _).drew (by
    refine OweAll.cons (owesK rfl rfl fun a w1 ha hG hV => ?_) ?_
    · skip
      have h1 := ha.outer 1 (by decide +kernel)
      simp only [Act.eval] at h1
      exact ⟨.pointer (some ⟨g, 0, none⟩), w1, wanted_free rfl, by simp [execOp, go_sem, h1], Below.refl _ _, rfl⟩
    refine OweAll.cons (owesK rfl rfl fun a w1 ha hG hV => ?_) ?_
    · skip
      have h8 : a.tmps.getD 8 undef = .pointer (some ⟨g, 0, none⟩) := hV.get 8 (by decide +kernel)
      have cc := hbx _ hG
      exact ⟨.int .i64 inst, w1, wanted_free rfl, by simp [execOp, go_sem, h8, cc.1], Below.refl _ _, rfl⟩
    refine OweAll.cons (owesK_call rfl rfl 36 fun a w1 ha hG hV => ?_) ?_
    · skip
      have h9 : a.tmps.getD 9 undef = .int .i64 inst := hV.get 9 (by decide +kernel)
      refine ⟨#[.int .i64 inst], wanted_free rfl, by simp [execOp, resolve, invoke, go_sem, h9], ?_⟩
      refine (K1.out w1).mono ?_
      rintro r u2 ⟨rfl, hb⟩; exact ⟨_, rfl, rfl, hb⟩
    refine OweAll.cons (owesK rfl rfl fun a w1 ha hG hV => ?_) ?_
    · skip
      have h1 := ha.outer 1 (by decide +kernel)
      simp only [Act.eval] at h1
      exact ⟨.pointer (some ⟨g, 1, none⟩), w1, wanted_free rfl, by simp [execOp, go_sem, h1], Below.refl _ _, rfl⟩
    refine OweAll.cons (owesK rfl rfl fun a w1 ha hG hV => ?_) ?_
    · skip
      have h11 : a.tmps.getD 11 undef = .pointer (some ⟨g, 1, none⟩) := hV.get 11 (by decide +kernel)
      have cc := hbx _ hG
      exact ⟨.string ⟨base.toArray⟩, w1, wanted_free rfl, by simp [execOp, go_sem, h11, cc.2.1], Below.refl _ _, rfl⟩
    refine OweAll.cons (owesK_call rfl rfl 37 fun a w1 ha hG hV => ?_) ?_
    · skip
      have h12 : a.tmps.getD 12 undef = .string ⟨base.toArray⟩ := hV.get 12 (by decide +kernel)
      refine ⟨#[.string ⟨base.toArray⟩], wanted_free rfl, by simp [execOp, resolve, invoke, go_sem, h12], ?_⟩
      refine (K2.out w1).mono ?_
      rintro r u2 ⟨rfl, hb⟩; exact ⟨_, rfl, rfl, hb⟩
    refine OweAll.cons (owesK rfl rfl fun a w1 ha hG hV => ?_) ?_
    · skip
      have h10 : a.tmps.getD 10 undef = .string ⟨N1.toArray⟩ := hV.get 10 (by decide +kernel)
      have h13 : a.tmps.getD 13 undef = .string ⟨N2.toArray⟩ := hV.get 13 (by decide +kernel)
      exact ⟨.string ⟨((N1) ++ (N2)).toArray⟩, w1, wanted_free rfl, exec_add_str 9 9 (.tmp 10) (.tmp 13) rfl (N1) (N2) h10 h13 (by omega), Below.refl _ _, rfl⟩
    refine OweAll.cons (owesK rfl rfl fun a w1 ha hG hV => ?_) ?_
    · skip
      have h1 := ha.outer 1 (by decide +kernel)
      simp only [Act.eval] at h1
      exact ⟨.pointer (some ⟨g, 2, none⟩), w1, wanted_free rfl, by simp [execOp, go_sem, h1], Below.refl _ _, rfl⟩
    refine OweAll.cons (owesK rfl rfl fun a w1 ha hG hV => ?_) ?_
    · skip
      have h15 : a.tmps.getD 15 undef = .pointer (some ⟨g, 2, none⟩) := hV.get 15 (by decide +kernel)
      have cc := hbx _ hG
      exact ⟨.string ⟨fin.toArray⟩, w1, wanted_free rfl, by simp [execOp, go_sem, h15, cc.2.2.1], Below.refl _ _, rfl⟩
    refine OweAll.cons (owesK_call rfl rfl 37 fun a w1 ha hG hV => ?_) ?_
    · skip
      have h16 : a.tmps.getD 16 undef = .string ⟨fin.toArray⟩ := hV.get 16 (by decide +kernel)
      refine ⟨#[.string ⟨fin.toArray⟩], wanted_free rfl, by simp [execOp, resolve, invoke, go_sem, h16], ?_⟩
      refine (K3.out w1).mono ?_
      rintro r u2 ⟨rfl, hb⟩; exact ⟨_, rfl, rfl, hb⟩
    refine OweAll.cons (owesK rfl rfl fun a w1 ha hG hV => ?_) ?_
    · skip
      have h14 : a.tmps.getD 14 undef = .string ⟨((N1) ++ (N2)).toArray⟩ := hV.get 14 (by decide +kernel)
      have h17 : a.tmps.getD 17 undef = .string ⟨N3.toArray⟩ := hV.get 17 (by decide +kernel)
      exact ⟨.string ⟨((N1 ++ N2) ++ (N3)).toArray⟩, w1, wanted_free rfl, exec_add_str 9 9 (.tmp 14) (.tmp 17) rfl (N1 ++ N2) (N3) h14 h17 (by omega), Below.refl _ _, rfl⟩
    refine OweAll.cons (owesK rfl rfl fun a w1 ha hG hV => ?_) ?_
    · skip
      have h1 := ha.outer 1 (by decide +kernel)
      simp only [Act.eval] at h1
      exact ⟨.pointer (some ⟨g, 3, none⟩), w1, wanted_free rfl, by simp [execOp, go_sem, h1], Below.refl _ _, rfl⟩
    refine OweAll.cons (owesK rfl rfl fun a w1 ha hG hV => ?_) ?_
    · skip
      have h19 : a.tmps.getD 19 undef = .pointer (some ⟨g, 3, none⟩) := hV.get 19 (by decide +kernel)
      have cc := hbx _ hG
      exact ⟨.slice p n cp, w1, wanted_free rfl, by simp [execOp, go_sem, h19, cc.2.2.2.1], Below.refl _ _, rfl⟩
    refine OweAll.cons (owesK rfl rfl fun a w1 ha hG hV => ?_) ?_
    · skip
      have h20 : a.tmps.getD 20 undef = .slice p n cp := hV.get 20 (by decide +kernel)
      exact ⟨.int .i64 (n : Int), w1, wanted_free rfl, by simp [execOp, resolve, invoke, builtin, go_sem, h20], Below.refl _ _, rfl⟩
    refine OweAll.cons (owesK_call rfl rfl 36 fun a w1 ha hG hV => ?_) ?_
    · skip
      have h21 : a.tmps.getD 21 undef = .int .i64 (n : Int) := hV.get 21 (by decide +kernel)
      refine ⟨#[.int .i64 (n : Int)], wanted_free rfl, by simp [execOp, resolve, invoke, go_sem, h21], ?_⟩
      refine (K4.out w1).mono ?_
      rintro r u2 ⟨rfl, hb⟩; exact ⟨_, rfl, rfl, hb⟩
    refine OweAll.cons (owesK rfl rfl fun a w1 ha hG hV => ?_) ?_
    · skip
      have h18 : a.tmps.getD 18 undef = .string ⟨((N1 ++ N2) ++ (N3)).toArray⟩ := hV.get 18 (by decide +kernel)
      have h22 : a.tmps.getD 22 undef = .string ⟨N4.toArray⟩ := hV.get 22 (by decide +kernel)
      exact ⟨.string ⟨((N1 ++ N2 ++ N3) ++ (N4)).toArray⟩, w1, wanted_free rfl, exec_add_str 9 9 (.tmp 18) (.tmp 22) rfl (N1 ++ N2 ++ N3) (N4) h18 h22 (by omega), Below.refl _ _, rfl⟩
    refine OweAll.cons (owesK rfl rfl fun a w1 ha hG hV => ?_) ?_
    · skip
      have h23 : a.tmps.getD 23 undef = .string ⟨((N1 ++ N2 ++ N3) ++ (N4)).toArray⟩ := hV.get 23 (by decide +kernel)
      exact ⟨.string ⟨((N1 ++ N2 ++ N3) ++ (N4)).toArray⟩, w1, wanted_free rfl, by simp [execOp, go_sem, h23], Below.refl _ _, rfl⟩
    exact OweAll.nil
    ) ?_
  intro f wz hG hv
  have e3 : f 3 = .string ⟨((N1 ++ N2 ++ N3) ++ (N4)).toArray⟩ := hv 16 _ 3 rfl rfl
  rename_i hK
  refine hK _ _ ?_
  clear hK hv
  simp only [dsts, puts, List.filterMap_cons, List.filterMap_nil, List.foldl_cons, List.foldl_nil, Act.put, List.setIfInBounds_toArray, List.set_cons_succ, List.set_cons_zero, e3]
  clear e3
  have HZ := Lib.hid hG
  clear hG
  obtain ⟨c0, c1, c2, c3, c4⟩ := hbx wz HZ.out
  obtain ⟨B4, hB4⟩ : ∃ B, B = N1 ++ N2 ++ N3 ++ N4 := ⟨_, rfl⟩
  rw [← hB4]
  have l4 : B4.length ≤ 400 := by rw [hB4, List.length_append]; omega
  have HB4 := Lib.hid hB4
  clear hB4
  go_wp2_with fail
  clear c0 c1 c2 c3 c4
  go_loopw [3, 27] (fun s3 s27 wr => ∃ (i : Nat) (C : List UInt8), i ≤ n ∧ s27 = .int .i64 (i : Int) ∧ s3 = .string ⟨C.toArray⟩ ∧ Hid (C = B4 ++ sB (sg.take i) ∧ Below W0.heap.size W0 wr)) (fun _ i _ => n - (intOf i).toNat)
  case atStart => exact ⟨0, B4, Nat.zero_le _, rfl, rfl, Lib.hid ⟨by simp [sB], HZ.out⟩⟩
  case round =>
    clear HZ
    obtain ⟨i, C, hi, rfl, rfl, HO⟩ := hrel
    by_cases hlt : i < n
    · have hil : i < sg.length := by rw [← Hn.out]; exact hlt
      obtain ⟨bs, off, rfl, hbs, c1⟩ := (HS1.out.old (hlow.out _ HO.out.2)).int i hil
      have ht := sB_take sg i hil
      have hx := hrm.out _ (List.getElem_mem hil)
      have hln := sB_len (sg.take i) (fun x hx => by have := hrm.out x (List.mem_of_mem_take hx); omega)
      rw [List.length_take] at hln
      obtain ⟨x, hxe⟩ : ∃ x, x = sg[i] := ⟨_, rfl⟩
      rw [← hxe] at c1 ht hx
      have lC : C.length ≤ 5000 := by rw [HO.out.1, List.length_append]; omega
      have HN : Hid (C ++ numL x = B4 ++ sB (sg.take (i + 1))) := Lib.hid (by rw [ht, HO.out.1, List.append_assoc])
      have hnx := numL_len x (by omega)
      have KX := Lib.hid (fun w => refnum_any x w (by omega) (by omega))
      have HBW := Lib.hid HO.out.2
      generalize numL x = NX at *
      have i0' : (0 : Int) ≤ i := by omega
      have i1' : (i : Int) < n := by omega
      have hadd : ∀ (w : World), (binOp .add 9 (.string ⟨C.toArray⟩) (.string ⟨NX.toArray⟩)).run Tryd.prog w = .ok (.string ⟨(C ++ NX).toArray⟩) w := fun w => by
        have h := run_string_add_sum (P := Tryd.prog) (w := w) (⟨C.toArray⟩ : ByteArray) ⟨NX.toArray⟩ (by simp [ByteArray.size]; omega)
        rw [cat_bytes] at h
        simpa [binOp_string_add] using h
      clear ht hln hxe hbs HO
      go_wp2_with fail
      refine (KX.out wr).mono ?_
      rintro r w4 ⟨rfl, hb4⟩
      have HO5 : Hid (C ++ NX = B4 ++ sB (sg.take (i + 1)) ∧ Below W0.heap.size W0 w4) := Lib.hid ⟨HN.out, HBW.out.trans (hb4.mono HBW.out.size)⟩
      clear hb4 HN HBW
      go_wp2_with fail
      go_roundw
      case rel => exact ⟨i + 1, C ++ NX, by omega, by go_num, rfl, HO5⟩
      case measure => simp [intOf]; omega
    · have e : i = n := by omega
      have i1' : ¬ (i : Int) < n := by omega
      have hC5 : Hid (C = B4 ++ sB sg) := Lib.hid (by
        have h := HO.out.1
        rw [e, Hn.out, List.take_length] at h
        exact h)
      have lC : C.length ≤ 1000 := by
        have := sB_len sg (fun x hx => by have := hrm.out x hx; omega)
        have h2 := Hn.out
        rw [hC5.out, List.length_append]; omega
      have HBW := Lib.hid HO.out.2
      clear HO e
      obtain ⟨c0, c1, c2, c3, c4⟩ := hbx wr HBW.out
      have hadd : ∀ (w : World), (binOp .add 9 (.string ⟨C.toArray⟩) (.string ⟨N5.toArray⟩)).run Tryd.prog w = .ok (.string ⟨(C ++ N5).toArray⟩) w := fun w => by
        have h := run_string_add_sum (P := Tryd.prog) (w := w) (⟨C.toArray⟩ : ByteArray) ⟨N5.toArray⟩ (by simp [ByteArray.size]; omega)
        rw [cat_bytes] at h
        simpa [binOp_string_add] using h
      go_wp2_with fail
      refine (K5.out wr).mono ?_
      rintro r w5 ⟨rfl, hb5⟩
      have HB5 := Lib.hid (HBW.out.trans (hb5.mono HBW.out.size))
      clear hb5 HBW c0 c1 c2 c3 c4
      obtain ⟨c0, c1, c2, c3, c4⟩ := hbx w5 HB5.out
      obtain ⟨B6, hB6⟩ : ∃ B, B = C ++ N5 := ⟨_, rfl⟩
      rw [← hB6] at hadd
      have HFB : Hid (F = B6 ++ eB ch) := Lib.hid (by rw [HF.out, hB6, hC5.out, HB4.out])
      have l6 : B6.length ≤ 2000 := by rw [hB6, List.length_append]; omega
      have HB6 := Lib.hid hB6
      clear hB6
      go_wp2_with fail
      clear c0 c1 c2 c3 c4 hadd hlt hi i1'
      go_loopw [3, 45] (fun s3 s45 wr => ∃ (i : Nat) (C : List UInt8), i ≤ m0 ∧ s45 = .int .i64 (i : Int) ∧ s3 = .string ⟨C.toArray⟩ ∧ Hid (C = B6 ++ eB (ch.take i) ∧ Below W0.heap.size W0 wr)) (fun _ i _ => m0 - (intOf i).toNat)
      case atStart => exact ⟨0, B6, Nat.zero_le _, rfl, by rw [cat_bytes, HB6.out], Lib.hid ⟨by simp [eB], HB5.out⟩⟩
      case round =>
        clear HB5
        obtain ⟨i, C0, hi, rfl, rfl, HO⟩ := hrel
        by_cases hlt : i < m0
        · have hil : i < ch.length := by rw [← Hm.out]; exact hlt
          obtain ⟨bs, off, rfl, hbs, c1, c2⟩ := (HS2.out.old (hlow.out _ HO.out.2)).pair i hil
          have ht := eB_take ch i hil
          have hx := hgm.out _ (List.getElem_mem hil)
          have hln := eB_len (ch.take i) (fun x hx => by have := hgm.out x (List.mem_of_mem_take hx); omega)
          rw [List.length_take] at hln
          obtain ⟨m, hme⟩ : ∃ x, x = ch[i].1 := ⟨_, rfl⟩
          obtain ⟨y, hve⟩ : ∃ x, x = ch[i].2 := ⟨_, rfl⟩
          rw [← hme] at c1 ht hx
          rw [← hve] at c2 ht hx
          have lC : C0.length ≤ 6000 := by rw [HO.out.1, List.length_append]; omega
          have HN : Hid (C0 ++ (numL m ++ numL y) = B6 ++ eB (ch.take (i + 1))) := Lib.hid (by rw [ht, HO.out.1, List.append_assoc])
          have j1 := numL_len m (by omega)
          have j2 := numL_len y (by omega)
          have J1 := Lib.hid (fun w => refnum_any m w (by omega) (by omega))
          have J2 := Lib.hid (fun w => refnum_any y w (by omega) (by omega))
          have HBW := Lib.hid HO.out.2
          generalize numL m = M1 at *
          generalize numL y = M2 at *
          have j3 : (M1 ++ M2).length ≤ 18 := by rw [List.length_append]; omega
          have i0' : (0 : Int) ≤ i := by omega
          have i1' : (i : Int) < m0 := by omega
          clear ht hln hme hve hbs HO
          go_upto_region 11 with fail
          obtain ⟨k, hk⟩ : ∃ k, k = wr.heap.size := ⟨_, rfl⟩
          have hrw : (wr.alloc (.cells #[.int .i64 m, .int .i64 y] 75)).heap[k]? = some (.cells #[.int .i64 m, .int .i64 y] 75 (0, 0)) := by rw [hk]; exact heap_alloc_new _ _
          rw [← hk]
          have HBA : Hid (Below W0.heap.size W0 (wr.alloc (.cells #[.int .i64 m, .int .i64 y] 75))) := Lib.hid (HBW.out.alloc HBW.out.size _)
          generalize wr.alloc (.cells #[.int .i64 m, .int .i64 y] 75) = WA at hrw HBA ⊢
          have hkl : k < WA.heap.size := (Array.getElem?_eq_some_iff.1 hrw).1
          have hc0 : WA.cell? ⟨k, 0, none⟩ = some (.int .i64 m) := cell_of_row WA k 0 _ 75 (0, 0) hrw
          have hc1 : WA.cell? ⟨k, 1, none⟩ = some (.int .i64 y) := cell_of_row WA k 1 _ 75 (0, 0) hrw
          clear hrw hk HBW
          have HG0 : Hid (Below WA.heap.size WA WA.drew) := Lib.hid (Below.refl _ _).drew
          refine wp_region_chain (fun t v => match t with
            | 49 => v = .string ⟨C0.toArray⟩
            | 50 => v = .pointer (some ⟨k, 0, none⟩)
            | 51 => v = .int .i64 m
            | 52 => v = .string ⟨M1.toArray⟩
            | 53 => v = .pointer (some ⟨k, 1, none⟩)
            | 54 => v = .int .i64 y
            | 55 => v = .string ⟨M2.toArray⟩
            | 56 => v = .string ⟨((M1) ++ (M2)).toArray⟩
            | 57 => v = .string ⟨((C0) ++ (M1 ++ M2)).toArray⟩
            | 3 => v = .string ⟨(C0 ++ (M1 ++ M2)).toArray⟩
            | _ => True) (fun (_ : Nat) (_ : Value) (w1 : World) => Below WA.heap.size WA w1) [9] 60 (by kernel_rfl) (by decide +kernel) rfl (by decide +kernel) (by decide) (by decide) HG0.out (by
            refine OweAllC.cons (owesC_val 0 (by decide +kernel) (by decide) rfl rfl fun k' a w1 x hk ha hG hV => ?_) ?_
            · skip
              have h3 := ha.kp 0 9 _ 3 (by omega) rfl rfl rfl
              simp only [Act.eval] at h3
              exact ⟨.string ⟨C0.toArray⟩, wanted_free rfl, by simp [execOp, go_sem, h3], rfl⟩
            refine OweAllC.cons (owesC_val 0 (by decide +kernel) (by decide) rfl rfl fun k' a w1 x hk ha hG hV => ?_) ?_
            · skip
              have h7 := ha.outer 7 (by decide +kernel)
              simp only [Act.eval] at h7
              exact ⟨.pointer (some ⟨k, 0, none⟩), wanted_free rfl, by simp [execOp, go_sem, h7], rfl⟩
            refine OweAllC.cons (owesC_val 0 (by decide +kernel) (by decide) rfl rfl fun k' a w1 x hk ha hG hV => ?_) ?_
            · skip
              have h50 : a.tmps.getD 50 undef = .pointer (some ⟨k, 0, none⟩) := hV.get 50 (by decide +kernel)
              have cc := (hG.cell (p := ⟨k, 0, none⟩) hkl).trans hc0
              exact ⟨.int .i64 m, wanted_free rfl, by simp [execOp, go_sem, h50, cc], rfl⟩
            refine OweAllC.cons (owesC_side 0 (by decide +kernel) (by decide) rfl rfl 36 fun k' a w1 x hk ha hG hV => ?_) ?_
            · skip
              have h51 : a.tmps.getD 51 undef = .int .i64 m := hV.get 51 (by decide +kernel)
              refine ⟨#[.int .i64 m], wanted_free rfl, by simp [execOp, resolve, invoke, go_sem, h51], ?_⟩
              refine (J1.out w1).mono ?_
              rintro r u2 ⟨rfl, hb⟩; exact ⟨_, rfl, rfl, hG.trans (hb.mono hG.size)⟩
            refine OweAllC.cons (owesC_val 0 (by decide +kernel) (by decide) rfl rfl fun k' a w1 x hk ha hG hV => ?_) ?_
            · skip
              have h7 := ha.outer 7 (by decide +kernel)
              simp only [Act.eval] at h7
              exact ⟨.pointer (some ⟨k, 1, none⟩), wanted_free rfl, by simp [execOp, go_sem, h7], rfl⟩
            refine OweAllC.cons (owesC_val 0 (by decide +kernel) (by decide) rfl rfl fun k' a w1 x hk ha hG hV => ?_) ?_
            · skip
              have h53 : a.tmps.getD 53 undef = .pointer (some ⟨k, 1, none⟩) := hV.get 53 (by decide +kernel)
              have cc := (hG.cell (p := ⟨k, 1, none⟩) hkl).trans hc1
              exact ⟨.int .i64 y, wanted_free rfl, by simp [execOp, go_sem, h53, cc], rfl⟩
            refine OweAllC.cons (owesC_side 0 (by decide +kernel) (by decide) rfl rfl 36 fun k' a w1 x hk ha hG hV => ?_) ?_
            · skip
              have h54 : a.tmps.getD 54 undef = .int .i64 y := hV.get 54 (by decide +kernel)
              refine ⟨#[.int .i64 y], wanted_free rfl, by simp [execOp, resolve, invoke, go_sem, h54], ?_⟩
              refine (J2.out w1).mono ?_
              rintro r u2 ⟨rfl, hb⟩; exact ⟨_, rfl, rfl, hG.trans (hb.mono hG.size)⟩
            refine OweAllC.cons (owesC_val 0 (by decide +kernel) (by decide) rfl rfl fun k' a w1 x hk ha hG hV => ?_) ?_
            · skip
              have h52 : a.tmps.getD 52 undef = .string ⟨M1.toArray⟩ := hV.get 52 (by decide +kernel)
              have h55 : a.tmps.getD 55 undef = .string ⟨M2.toArray⟩ := hV.get 55 (by decide +kernel)
              exact ⟨.string ⟨((M1) ++ (M2)).toArray⟩, wanted_free rfl, exec_add_str 9 9 (.tmp 52) (.tmp 55) rfl (M1) (M2) h52 h55 (by omega), rfl⟩
            refine OweAllC.cons (owesC_val 0 (by decide +kernel) (by decide) rfl rfl fun k' a w1 x hk ha hG hV => ?_) ?_
            · skip
              have h49 : a.tmps.getD 49 undef = .string ⟨C0.toArray⟩ := hV.get 49 (by decide +kernel)
              have h56 : a.tmps.getD 56 undef = .string ⟨((M1) ++ (M2)).toArray⟩ := hV.get 56 (by decide +kernel)
              exact ⟨.string ⟨((C0) ++ (M1 ++ M2)).toArray⟩, wanted_free rfl, exec_add_str 9 9 (.tmp 49) (.tmp 56) rfl (C0) (M1 ++ M2) h49 h56 (by omega), rfl⟩
            refine OweAllC.cons (owesC_mem 0 rfl rfl rfl fun a w1 x ha hG hx hV => ?_) ?_
            · skip
              have h57 : a.tmps.getD 57 undef = .string ⟨((C0) ++ (M1 ++ M2)).toArray⟩ := hV.get 57 (by decide +kernel)
              exact ⟨.string ⟨(C0 ++ (M1 ++ M2)).toArray⟩, w1, wanted_free rfl, by simp [execOp, go_sem, h57], rfl, hG⟩
            exact OweAllC.nil
            ) ?_
          intro f wz xz hG hx hv
          have e3 : f 3 = .string ⟨(C0 ++ (M1 ++ M2)).toArray⟩ := hv 9 _ 3 rfl rfl
          first | (rename_i hK; refine hK _ _ ?_; clear hK) | (rename_i hK _; refine hK _ _ ?_; clear hK) | (rename_i hK _ _; refine hK _ _ ?_; clear hK) | (rename_i hK _ _ _; refine hK _ _ ?_; clear hK)
          clear hv hx
          simp only [dsts, puts, List.filterMap_cons, List.filterMap_nil, List.foldl_cons, List.foldl_nil, Act.put, List.setIfInBounds_toArray, List.set_cons_succ, List.set_cons_zero, e3]
          clear e3
          have HO7 : Hid (C0 ++ (M1 ++ M2) = B6 ++ eB (ch.take (i + 1)) ∧ Below W0.heap.size W0 wz) := Lib.hid ⟨HN.out, HBA.out.trans (hG.mono HBA.out.size)⟩
          clear hG HN HBA hc0 hc1 HG0
          go_wp2_with fail
          go_roundw
          case rel => exact ⟨i + 1, C0 ++ (M1 ++ M2), by omega, by go_num, rfl, HO7⟩
          case measure => simp [intOf]; omega
        · have e : i = m0 := by omega
          have i1' : ¬ (i : Int) < m0 := by omega
          have hCF : Hid (C0 = F) := Lib.hid (by
            have h := HO.out.1
            rw [e, Hm.out, List.take_length, ← HFB.out] at h
            exact h)
          have HBW := Lib.hid (hlow.out _ HO.out.2)
          obtain rfl := hCF.out
          clear HO e
          go_wp2_with fail
          go_ret
          exact ⟨rfl, HBW.out⟩
end Go.Proofs.YtmodikcghlbigaaDoor

namespace Go.Proofs.YtmodikcghlbigaaDoor
open Go.RowKit

set_option maxRecDepth 20000 in
set_option maxHeartbeats 4000000 in
theorem kid_any (c : Ct) (p q : Option Addr) (cp cq : Nat) (w : World) (hL : CtAt w c p q) (ok : CtOk c) (hT : TabAt w) :
    Calls Tryd.prog 13 #[.agg (ctc c p q cp cq)] w fun r w' => r = .returned (.agg (vals (shaB (ctB c))).toArray) ∧ Below w.heap.size w w' := by
  have hlen := ctB_len ok
  have hby := Lib.hid (fun w' (hb : Below w.heap.size w w') => kbytes_any c p q cp cq w' (hL.old hb) ok)
  obtain ⟨C, hC⟩ : ∃ C, C = ctc c p q cp cq := ⟨_, rfl⟩
  have hCs : C.size = 5 := by rw [hC]; rfl
  rw [← hC] at hby ⊢
  obtain ⟨S, hS⟩ : ∃ S, S = ctB c := ⟨_, rfl⟩
  rw [← hS] at hby hlen ⊢
  have hof := Lib.hid (fun (w : World) hT => dofB (.slice (some ⟨w.heap.size, 0, none⟩) 1 1) [S] (w.alloc (.cells #[.string ⟨S.toArray⟩] 9)) (StrsAt.made w 9 [S]) (by simp; omega) (by simp) hT)
  rw [show ([S] : List (List UInt8)).flatten = S from by simp] at hof
  have hZl := shaB_len S
  generalize shaB S = Z at hof hZl ⊢
  have hci : (Tryd.prog.info? 30).map (·.size) = some C.size := by rw [hCs]; kernel_rfl
  have hz := zid_run
  have q2 := zid_len.trans (id_size hZl).symm
  have q3 := id_info hZl
  have q4 := id_one Z
  generalize (vals zid).toArray = ZA at hz q2
  obtain ⟨Y, hY⟩ : ∃ Y, Y = (vals Z).toArray := ⟨_, rfl⟩
  rw [← hY] at q2 q3 q4 hof ⊢
  obtain ⟨W0, hW0⟩ : ∃ W0, W0 = (w.alloc (.cells C 30)).alloc (.cells ZA 39) := ⟨_, rfl⟩
  have hb0 : Below w.heap.size w W0 := by rw [hW0]; exact ((Below.refl _ w).alloc (Nat.le_refl _) _).alloc (by simp) _
  have hbox : W0.heap[w.heap.size]? = some (.cells C 30 (0, 0)) := by rw [hW0, Below.heap_alloc _ _ _ (by simp)]; exact heap_alloc_new w _
  have hres : W0.heap[w.heap.size + 1]? = some (.cells ZA 39 (0, 0)) := by rw [hW0]; have := heap_alloc_new (w.alloc (.cells C 30)) (.cells ZA 39); simpa using this
  have HW0 := Lib.hid hW0
  have Hres := Lib.hid hres
  have Hb0 := Lib.hid hb0
  have HT := Lib.hid hT
  clear hY hZl hS hC hCs hlen hW0 hres hb0 hT hL
  go_enter Tryd.func13, Tryd.ntmps13
  go_wp2_with (first | (rw [← HW0.out]; refine wpList_load_row rfl 30 (.tmp 1) rfl w.heap.size rfl 30 C (0, 0) _ hbox Tryd.underlying30 rfl hci ?_) | fail)
  refine (hby.out W0 Hb0.out).mono ?_
  rintro r w1 ⟨rfl, hb1⟩
  have HB1 := Lib.hid (Hb0.out.trans (hb1.mono Hb0.out.size))
  have Hres1 := Lib.hid ((hb1.block _ (Array.getElem?_eq_some_iff.1 Hres.out).1).trans Hres.out)
  have hT1 := Lib.hid (HT.out.old (HB1.out.trans (((Below.refl _ w1).alloc (Nat.le_refl _) (.cells #[.string ⟨S.toArray⟩] 9)).mono HB1.out.size)))
  clear hb1 hbox
  go_wp2_with fail
  refine (hof.out w1 hT1.out).mono ?_
  rintro r w2 ⟨rfl, hb2⟩
  have hb2' : Below w1.heap.size w1 w2 := ((Below.refl _ w1).alloc (Nat.le_refl _) (.cells #[.string ⟨S.toArray⟩] 9)).trans (hb2.mono (by simp))
  have hres2 : w2.heap[w.heap.size + 1]? = some (.cells ZA 39 (0, 0)) := (hb2'.block _ (Array.getElem?_eq_some_iff.1 Hres1.out).1).trans Hres1.out
  have hB2 := HB1.out.trans (hb2'.mono HB1.out.size)
  have L0 := Lib.hid (setRow_heap w2 (w.heap.size + 1) ZA Y 39 (0, 0) hres2)
  have LB := Lib.hid (hB2.trans (((Mod.refl (fun _ => False) w2).setRow (g := w.heap.size + 1) Y).to_below (by have := hB2.size; exact this) (by rintro k hk (h | h) <;> first | exact h | omega)))
  clear hb2 hb2' hB2
  go_wp2_with (refine wpList_store_row rfl rfl 39 (.tmp 2) (.tmp 6) rfl (w.heap.size + 1) rfl 39 ZA Y rfl hres2 q2 q3 q4 ?_)
  exact bodyPost_ret (v := .agg Y) (results_cell_row Tryd.results13 _ _ (w.heap.size + 1) 39 Y (0, 0) _ rfl L0.out Tryd.underlying39 rfl q3) rfl ⟨rfl, LB.out⟩

set_option maxRecDepth 20000 in
set_option maxHeartbeats 4000000 in
theorem rid_any (c : Ct) (p q : Option Addr) (cp cq : Nat) (w : World) (hL : CtAt w c p q) (ok : CtOk c) :
    Calls Tryd.prog 16 #[.agg (ctc c p q cp cq)] w fun r w' => r = .returned (.string ⟨(shaB (ctB c)).toArray⟩) ∧ Below w.heap.size w w' := by
  have hlen : (ctB c).length ≤ 1073741824 := by have := ctB_len ok; omega
  have hby := Lib.hid (fun w' (hb : Below w.heap.size w w') => rbytes_any c p q cp cq w' (hL.old hb) ok)
  obtain ⟨C, hC⟩ : ∃ C, C = ctc c p q cp cq := ⟨_, rfl⟩
  have hCs : C.size = 5 := by rw [hC]; rfl
  rw [← hC] at hby ⊢
  obtain ⟨S, hS⟩ : ∃ S, S = ctB c := ⟨_, rfl⟩
  rw [← hS] at hby hlen ⊢
  have hof := Lib.hid (fun w => refofB S w hlen)
  generalize shaB S = Z at hof ⊢
  have hci : (Tryd.prog.info? 25).map (·.size) = some C.size := by rw [hCs]; exact rct_info
  have hb0 : Below w.heap.size w (w.alloc (.cells C 25)) := (Below.refl _ w).alloc (Nat.le_refl _) _
  have HB0 := Lib.hid hb0
  clear hS hC hCs hlen hL hb0
  go_enter Tryd.func16, Tryd.ntmps16
  go_wp2_with (refine wpList_load_row rfl 25 (.tmp 1) rfl w.heap.size rfl 25 C (0, 0) _ (heap_alloc_new _ _) Tryd.underlying25 rfl hci ?_)
  refine (hby.out _ HB0.out).mono ?_
  rintro r w1 ⟨rfl, hb1⟩
  have HB1 := Lib.hid (HB0.out.trans (hb1.mono HB0.out.size))
  clear hb1
  go_wp2_with fail
  refine (hof.out w1).mono ?_
  rintro r w2 ⟨rfl, hb2⟩
  have HB2 := Lib.hid (HB1.out.trans (hb2.mono HB1.out.size))
  clear hb2
  go_wp2_with fail
  go_ret
  exact ⟨rfl, HB2.out⟩
end Go.Proofs.YtmodikcghlbigaaDoor

namespace Go.Proofs.YtmodikcghlbigaaDoor
open Go.RowKit

/-- While fields are taken: In at b, the certificate at g. -/
structure TkC (W : World) (b g : Nat) (C : Array Value) (s : List UInt8) (e : Int) (w : World) : Prop where
  box : w.heap[g]? = some (.cells C 30 (0, 0))
  inp : InAt 89 w b s e
  m : Mod (· = b) W w
  lo : b < W.heap.size
  hi : W.heap.size < g
  res : ∃ Z : Array Value, Z.size = 5 ∧ w.heap[W.heap.size]? = some (.cells Z 30 (0, 0))
theorem TkC.call {W w w' : World} {b g : Nat} {C : Array Value} {s : List UInt8} {e : Int} {v : Value} {p : List UInt8 × Int} {r : Ending} (h : TkC W b g C s e w) (hp : InPost 89 b v p w r w') : r = .returned v ∧ TkC W b g C p.1 p.2 w' := by
  obtain ⟨hr, hi, hm⟩ := hp
  have h1 := h.lo
  have h2 := h.hi
  obtain ⟨Z, hz, hZ⟩ := h.res
  exact ⟨hr, (hm.block g (Array.getElem?_eq_some_iff.1 h.box).1 (by omega)).trans h.box, hi, h.m.trans hm (fun _ _ h => h), h.lo, h.hi, Z, hz, (hm.block _ (Array.getElem?_eq_some_iff.1 hZ).1 (by omega)).trans hZ⟩
theorem TkC.put {W w : World} {b g : Nat} {C : Array Value} {s : List UInt8} {e : Int} (h : TkC W b g C s e w) (k : Nat) (v : Value) : TkC W b g (C.setIfInBounds k v) s e (w.setCell ⟨g, k, none⟩ v) := by
  have h1 := h.lo
  have h2 := h.hi
  obtain ⟨Z, hz, hZ⟩ := h.res
  refine ⟨heap_setCell_same w g k C 30 v h.box, ?_, ?_, h.lo, h.hi, Z, hz, ?_⟩
  · unfold InAt; rw [Below.heap_setCell _ _ _ _ (by simp only; omega)]; exact h.inp
  · exact h.m.setCell (fun hlt => by simp only at hlt; omega) v
  · rw [Below.heap_setCell _ _ _ _ (by simp only; omega)]; exact hZ
theorem TkC.cell {W w : World} {b g : Nat} {C : Array Value} {s : List UInt8} {e : Int} (h : TkC W b g C s e w) (k : Nat) : w.cell? ⟨g, k, none⟩ = C[k]? := cell_of_row w g k C 30 (0, 0) h.box
theorem TkC.froz {W w : World} {b g : Nat} {C : Array Value} {s : List UInt8} {e : Int} (h : TkC W b g C s e w) (k : Nat) : w.frozen? ⟨g, k, none⟩ = false := frozen_of_row w g k C 30 h.box
theorem TkC.grow {W w w' : World} {b g : Nat} {C : Array Value} {s : List UInt8} {e : Int} (h : TkC W b g C s e w) (hb : Below w.heap.size w w') : TkC W b g C s e w' := by
  obtain ⟨Z, hz, hZ⟩ := h.res
  exact ⟨(hb.block g (Array.getElem?_eq_some_iff.1 h.box).1).trans h.box, (hb.block b h.inp.lt).trans h.inp, h.m.trans (Mod.of_below hb) (fun i hi hs => absurd hs (by have := h.m.size; omega)), h.lo, h.hi, Z, hz, (hb.block _ (Array.getElem?_eq_some_iff.1 hZ).1).trans hZ⟩
theorem TkC.drew {W w : World} {b g : Nat} {C : Array Value} {s : List UInt8} {e : Int} (h : TkC W b g C s e w) : TkC W b g C s e w.drew := h.grow ((Below.refl _ _).drew)


theorem info_intk : (Tryd.prog.info? 3).map (fun i => (i.zero, i.size, i.bytes)) = some (some (.int .i64 0), 1, 8) := by kernel_rfl
theorem info_entk : (Tryd.prog.info? 57).map (fun i => (i.zero, i.size, i.bytes)) = some (some (.agg #[.int .i64 0, .int .i64 0]), 2, 16) := by kernel_rfl
theorem info_rentk : (Tryd.prog.info? 75).map (fun i => (i.zero, i.size, i.bytes)) = some (some (.agg #[.int .i64 0, .int .i64 0]), 2, 16) := by kernel_rfl
/-- One element alone, laid. -/
theorem build_one {α : Type} {P : Program} {o : Oper} {a : Act} {w : World} (E : Enc α) (Ts T : TypeId) (z : Value) (by_ : Nat) (hT : P.underlying Ts = some (.slice T)) (hi : (P.info? T).map (fun i => (i.zero, i.size, i.bytes)) = some (some z, E.k, by_)) (hk : E.k ≤ 1000)
    (x : Operand) (ho : o.op = .buildSlice Ts 1 #[(0, x)]) (y : α) (v : Value) (hv : v.cells = (E.f y).toArray) (hx : a.eval x = v) :
    (execOp a.eval o).run P w = .ok (.value (.slice (some ⟨w.heap.size, 0, none⟩) 1 1)) (w.alloc (.cells (E.f y).toArray T)) := by
  cases hq : P.info? T with
  | none => rw [hq] at hi; cases hi
  | some i =>
    rw [hq] at hi
    simp only [Option.map_some, Option.some.injEq, Prod.mk.injEq] at hi
    obtain ⟨hz, h1, _⟩ := hi
    have hpos := E.pos
    have hf := Great.fill_whole (s := E.k) E.pos [v] ((Array.range (1 * E.k)).map (z.cells[· % z.cells.size]!)) (by intro u hu; rw [List.mem_singleton.1 hu, hv, List.size_toArray, E.len]) (by simp)
    have hb := run_buildSlice (P := P) w Ts T 1 #[(0, v)] (E.f y).toArray i z hT hq hz (by rw [h1]; omega) (by rw [h1]; omega) (by
      rw [h1]
      refine hf.trans ?_
      simp [hv])
    unfold execOp
    simp only [ho, List.map_toArray, List.map_cons, List.map_nil, hx, Sem.run_bind, hb, Result.andThen_ok, Sem.run_pure]
/-- One element more. -/
theorem wp_pushR1 {α : Type} {P : Program} {o : Oper} {a : Act} {K : Act → World → Prop} {Q : Exit → Act → World → Prop} {w : World} (E : Enc α) (s x : Operand) (Ts T : TypeId) (z : Value) (by_ : Nat)
    (ho : o.op = .call { callee := .builtin .append, args := #[s, x], argTypes := #[Ts, Ts] }) (hT : P.underlying Ts = some (.slice T)) (hi : (P.info? T).map (fun i => (i.zero, i.size, i.bytes)) = some (some z, E.k, by_)) (hzs : z.cells.size = E.k) (hby : by_ ≤ 1024)
    (p : Option Addr) (cap n : Nat) (L : List α) (hn : L.length = n) (hs : a.eval s = .slice p n cap) (hS : Rw E T w p cap L) (ao : Option Addr) (cx : Nat) (y : α) (hx : a.eval x = .slice ao 1 cx) (hY : Rd E w ao [y]) (hl : n ≤ 1000000000)
    (h : ∀ q c w', PushR E T w p (L ++ [y]) q c w' → K (a.put o.dst (.slice q (n + 1) c)) w') : o.wp P a w K Q := by
  cases hq : P.info? T with
  | none => rw [hq] at hi; cases hi
  | some i =>
    rw [hq] at hi
    simp only [Option.map_some, Option.some.injEq, Prod.mk.injEq] at hi
    obtain ⟨hz, h1, h2⟩ := hi
    subst hn
    have hmul : (L.length + 1) * by_ ≤ 140737488355328 := Nat.le_trans (Nat.mul_le_mul (show L.length + 1 ≤ 1000000001 by omega) hby) (by decide)
    obtain ⟨bs, off, rfl, hbs, hc⟩ := hY 0 (by simp)
    refine wp_append_lies w s x Ts ho 0 T i z E.k by_ hT hq hz h1 h2 hzs E.pos _ L.length (E.all L) hs hS ⟨bs, off, none⟩ 1 cx (E.f y) hx (by rw [E.len]; omega) ?_ (E.one _) (by decide) (by unfold maxLen; omega) hmul (Nat.zero_le _) _ rfl ?_
    · intro j u hj
      have := hc j u hj
      have hadd : (⟨bs, off, none⟩ : Addr).add j = ⟨bs, off + j, none⟩ := by unfold Addr.add; split <;> simp_all
      rw [hadd]
      simpa using this
    · intro g c w' hown hgrow hat _
      refine h (some ⟨g, 0, none⟩) c w' ⟨?_, ?_, ?_⟩
      · have e : E.all (L ++ [y]) = E.all L ++ E.f y := by rw [E.all_app]; simp [Enc.all]
        unfold Rw; rw [List.length_append, e]; exact hown
      · refine (Mod.refl _ w).grown hgrow ?_
        intro j hj _
        cases p with
        | none => simp [Value.ownBlock] at hj
        | some a => simp [Value.ownBlock] at hj; exact ⟨a, rfl, hj.symm⟩
      · rintro a' e; cases e
        rcases hat with hat | hat
        · left
          rcases hS.shape with ⟨rfl, _⟩ | ⟨g', rfl, _⟩
          · simp [Value.ownBlock] at hat
          · simp [Value.ownBlock] at hat; subst hat; rfl
        · right; rw [hat]; exact Nat.le_refl _
end Go.Proofs.YtmodikcghlbigaaDoor

namespace Go.Proofs.YtmodikcghlbigaaDoor
open Go.RowKit

set_option maxRecDepth 20000 in
set_option maxHeartbeats 8000000 in
theorem ktake_any (b : Nat) (s : List UInt8) (w : World) (h : InAt 89 w b s 0) (hl : s.length ≤ 1000000000) :
    Calls Tryd.prog 30 #[.pointer (some ⟨b, 0, none⟩)] w fun r w' => ∃ p q cp cq, r = .returned (.agg (ctc (takeC s).1 p q cp cq)) ∧ CtAt w' (takeC s).1 p q ∧ InAt 89 w' b (takeC s).2.1 (takeC s).2.2 ∧ Mod (· = b) w w' ∧ (∀ a, p = some a → w.heap.size ≤ a.block) ∧ (∀ a, q = some a → w.heap.size ≤ a.block) := by
  obtain ⟨⟨x1, s1, e1⟩, h1⟩ : ∃ p, p = numS s 0 4611686018427387904 := ⟨_, rfl⟩
  have l1 : s1.length ≤ s.length := by have := numS_len s 0 4611686018427387904; rw [← h1] at this; exact this
  obtain ⟨⟨x2, s2, e2⟩, h2⟩ : ∃ p, p = textS s1 e1 160 := ⟨_, rfl⟩
  have l2 : s2.length ≤ s1.length := by have := textS_len s1 e1 160; rw [← h2] at this; exact this
  obtain ⟨⟨x3, s3, e3⟩, h3⟩ : ∃ p, p = textS s2 e2 160 := ⟨_, rfl⟩
  have l3 : s3.length ≤ s2.length := by have := textS_len s2 e2 160; rw [← h3] at this; exact this
  obtain ⟨⟨x4, s4, e4⟩, h4⟩ : ∃ p, p = numS s3 e3 64 := ⟨_, rfl⟩
  have l4 : s4.length ≤ s3.length := by have := numS_len s3 e3 64; rw [← h4] at this; exact this
  have N1 : Hid (∀ w, InAt 89 w b s 0 → Calls Tryd.prog 47 #[.pointer (some ⟨b, 0, none⟩), .int .i64 4611686018427387904] w (InPost 89 b (.int .i64 x1) (s1, e1) w)) := Lib.hid (fun w hi => by have := innum_any b s 0 4611686018427387904 w hi (by omega); rw [← h1] at this; exact this)
  have N2 : Hid (∀ w, InAt 89 w b s1 e1 → Calls Tryd.prog 48 #[.pointer (some ⟨b, 0, none⟩), .int .i64 160] w (InPost 89 b (.string ⟨x2.toArray⟩) (s2, e2) w)) := Lib.hid (fun w hi => by have := intext_any b s1 e1 160 w hi (by omega); rw [← h2] at this; exact this)
  have N3 : Hid (∀ w, InAt 89 w b s2 e2 → Calls Tryd.prog 48 #[.pointer (some ⟨b, 0, none⟩), .int .i64 160] w (InPost 89 b (.string ⟨x3.toArray⟩) (s3, e3) w)) := Lib.hid (fun w hi => by have := intext_any b s2 e2 160 w hi (by omega); rw [← h3] at this; exact this)
  have N4 : Hid (∀ w, InAt 89 w b s3 e3 → Calls Tryd.prog 47 #[.pointer (some ⟨b, 0, none⟩), .int .i64 64] w (InPost 89 b (.int .i64 x4) (s4, e4) w)) := Lib.hid (fun w hi => by have := innum_any b s3 e3 64 w hi (by omega); rw [← h4] at this; exact this)
  have lo4 := numS_lo s3 e3 64
  have hi4 := numS_hi s3 e3 64 (by decide)
  rw [← h4] at lo4 hi4
  obtain ⟨n, rfl⟩ : ∃ n : Nat, x4 = n := ⟨x4.toNat, by simp only at lo4; omega⟩
  have hn64 : n ≤ 64 := by simp only at hi4; omega
  obtain ⟨⟨x5, s5, e5⟩, h5⟩ : ∃ p, p = numS (intS n s4 e4).2.1 (intS n s4 e4).2.2 64 := ⟨_, rfl⟩
  have l45 := intS_short n s4 e4
  have l5 : s5.length ≤ s4.length := by have := numS_len (intS n s4 e4).2.1 (intS n s4 e4).2.2 64; rw [← h5] at this; exact Nat.le_trans this l45
  have N5 : Hid (∀ w, InAt 89 w b (intS n s4 e4).2.1 (intS n s4 e4).2.2 → Calls Tryd.prog 47 #[.pointer (some ⟨b, 0, none⟩), .int .i64 64] w (InPost 89 b (.int .i64 x5) (s5, e5) w)) := Lib.hid (fun w hi => by have := innum_any b _ _ 64 w hi (by omega); rw [← h5] at this; exact this)
  have lo5 := numS_lo (intS n s4 e4).2.1 (intS n s4 e4).2.2 64
  have hi5 := numS_hi (intS n s4 e4).2.1 (intS n s4 e4).2.2 64 (by decide)
  rw [← h5] at lo5 hi5
  obtain ⟨m, rfl⟩ : ∃ n : Nat, x5 = n := ⟨x5.toNat, by simp only at lo5; omega⟩
  have hm64 : m ≤ 64 := by simp only at hi5; omega
  have hfin : takeC s = (⟨x1, x2, x3, (intS n s4 e4).1, (prS m s5 e5).1⟩, (prS m s5 e5).2) := by
    simp only [takeC, ← h1, ← h2, ← h3, ← h4, Int.toNat_natCast, ← h5]
  rw [hfin]
  have L4 : Hid (s4.length ≤ 1000000000) := Lib.hid (by omega)
  have L5 : Hid (s5.length ≤ 1000000000) := Lib.hid (by omega)
  obtain ⟨W0, hW0⟩ : ∃ W0, W0 = (w.alloc (.cells #[.int .i64 0, .string ⟨#[]⟩, .string ⟨#[]⟩, .slice none 0 0, .slice none 0 0] 30)).alloc (.cells #[.int .i64 0, .string ⟨#[]⟩, .string ⟨#[]⟩, .slice none 0 0, .slice none 0 0] 30) := ⟨_, rfl⟩
  obtain ⟨g, hg⟩ : ∃ g, g = w.heap.size + 1 := ⟨_, rfl⟩
  have st : TkC w b g #[.int .i64 0, .string ⟨#[]⟩, .string ⟨#[]⟩, .slice none 0 0, .slice none 0 0] s 0 W0 := by
    have hlt := h.lt
    refine ⟨?_, ?_, ?_, hlt, by omega, #[.int .i64 0, .string ⟨#[]⟩, .string ⟨#[]⟩, .slice none 0 0, .slice none 0 0], rfl, ?_⟩
    · rw [hW0, hg]; have := heap_alloc_new (w.alloc (.cells #[.int .i64 0, .string ⟨#[]⟩, .string ⟨#[]⟩, .slice none 0 0, .slice none 0 0] 30)) (.cells #[.int .i64 0, .string ⟨#[]⟩, .string ⟨#[]⟩, .slice none 0 0, .slice none 0 0] 30); simpa using this
    · rw [hW0]; unfold InAt; rw [Below.heap_alloc _ _ _ (by simp; omega), Below.heap_alloc _ _ _ hlt]; exact h
    · rw [hW0]; exact ((Mod.refl _ w).alloc _).alloc _
    · rw [hW0, Below.heap_alloc _ _ _ (by simp)]; exact heap_alloc_new w _
  have HW0 := Lib.hid hW0
  have Hg := Lib.hid hg
  clear h1 h2 h3 h4 h5 hfin l1 l2 l3 l4 l5 l45 lo4 hi4 lo5 hi5 hl hW0 hg h
  go_enter Tryd.func30, Tryd.ntmps30
  go_wp2_with fail
  rw [← HW0.out, ← Hg.out]
  refine (N1.out _ st.inp).mono ?_
  rintro r u1 hp
  obtain ⟨rfl, sa⟩ := st.call hp
  have c0 : u1.cell? ⟨g, 0, none⟩ = some (.int .i64 0) := sa.cell 0
  have f0 := sa.froz 0
  have sb1 : TkC w b g #[.int .i64 x1, .string ⟨#[]⟩, .string ⟨#[]⟩, .slice none 0 0, .slice none 0 0] s1 e1 (u1.setCell ⟨g, 0, none⟩ (.int .i64 x1)) := sa.put 0 _
  clear hp sa st N1
  go_wp2_with fail
  clear c0 f0
  generalize u1.setCell ⟨g, 0, none⟩ (.int .i64 x1) = v1 at *
  refine (N2.out _ sb1.inp).mono ?_
  rintro r u2 hp
  obtain ⟨rfl, sa⟩ := sb1.call hp
  have c1 : u2.cell? ⟨g, 1, none⟩ = some (.string ⟨#[]⟩) := sa.cell 1
  have f1 := sa.froz 1
  have sb2 : TkC w b g #[.int .i64 x1, .string ⟨x2.toArray⟩, .string ⟨#[]⟩, .slice none 0 0, .slice none 0 0] s2 e2 (u2.setCell ⟨g, 1, none⟩ (.string ⟨x2.toArray⟩)) := sa.put 1 _
  clear hp sa sb1 N2
  go_wp2_with fail
  clear c1 f1
  generalize u2.setCell ⟨g, 1, none⟩ (.string ⟨x2.toArray⟩) = v2 at *
  refine (N3.out _ sb2.inp).mono ?_
  rintro r u3 hp
  obtain ⟨rfl, sa⟩ := sb2.call hp
  have c2 : u3.cell? ⟨g, 2, none⟩ = some (.string ⟨#[]⟩) := sa.cell 2
  have f2 := sa.froz 2
  have sb3 : TkC w b g #[.int .i64 x1, .string ⟨x2.toArray⟩, .string ⟨x3.toArray⟩, .slice none 0 0, .slice none 0 0] s3 e3 (u3.setCell ⟨g, 2, none⟩ (.string ⟨x3.toArray⟩)) := sa.put 2 _
  clear hp sa sb2 N3
  go_wp2_with fail
  clear c2 f2
  generalize u3.setCell ⟨g, 2, none⟩ (.string ⟨x3.toArray⟩) = v3 at *
  refine (N4.out _ sb3.inp).mono ?_
  rintro r W2 hp
  obtain ⟨rfl, sa⟩ := sb3.call hp
  clear hp sb3 N4
  have sb : Hid (TkC w b g #[.int .i64 x1, .string ⟨x2.toArray⟩, .string ⟨x3.toArray⟩, .slice none 0 0, .slice none 0 0] s4 e4 W2) := Lib.hid sa
  have HW2 : Hid (g < W2.heap.size) := Lib.hid (Array.getElem?_eq_some_iff.1 sa.box).1
  clear sa
  go_wp2_with fail
  go_loopw [16] (fun s16 wr => ∃ (k : Nat) (q : Option Addr) (c : Nat), k ≤ n ∧ s16 = .int .i64 (k : Int) ∧ Hid (TkC w b g #[.int .i64 x1, .string ⟨x2.toArray⟩, .string ⟨x3.toArray⟩, .slice q k c, .slice none 0 0] (intS k s4 e4).2.1 (intS k s4 e4).2.2 wr ∧ Rw encI 3 wr q c (intS k s4 e4).1 ∧ (∀ a, q = some a → W2.heap.size ≤ a.block) ∧ Mod (fun i => i = b ∨ i = g) W2 wr)) (fun i _ => n - (intOf i).toNat)
  case atStart => exact ⟨0, none, 0, Nat.zero_le _, rfl, Lib.hid ⟨sb.out, Rw.empty _ _, (fun a e => by cases e), Mod.refl _ _⟩⟩
  case round =>
    clear sb
    obtain ⟨k, q, c, hk, rfl, hst⟩ := hrel
    by_cases hlt : k < n
    · obtain ⟨st0, rw0, fr0, mo0⟩ := hst.out
      clear hst
      have hps := intS_short k s4 e4
      have hsk : (intS k s4 e4).2.1.length ≤ 1000000000 := Nat.le_trans hps L4.out
      have hDl := intS_len k s4 e4
      have Hnx : Hid (intS (k + 1) s4 e4 = ((intS k s4 e4).1 ++ [(numS (intS k s4 e4).2.1 (intS k s4 e4).2.2 4611686018427387904).1], (numS (intS k s4 e4).2.1 (intS k s4 e4).2.2 4611686018427387904).2)) := Lib.hid rfl
      clear hps
      generalize intS k s4 e4 = PP at st0 rw0 hsk hDl Hnx
      obtain ⟨D, sk, ek⟩ := PP
      simp only at st0 rw0 hsk hDl
      have hnum : Hid (∀ w, InAt 89 w b sk ek → Calls Tryd.prog 47 #[.pointer (some ⟨b, 0, none⟩), .int .i64 4611686018427387904] w (InPost 89 b (.int .i64 (numS sk ek 4611686018427387904).1) (numS sk ek 4611686018427387904).2 w)) := Lib.hid (fun w hi => innum_any b sk ek 4611686018427387904 w hi (by omega))
      obtain ⟨⟨nm, sk', ek'⟩, hrk⟩ : ∃ p, p = numS sk ek 4611686018427387904 := ⟨_, rfl⟩
      rw [← hrk] at hnum
      have Hnx2 : Hid (intS (k + 1) s4 e4 = (D ++ [nm], sk', ek')) := Lib.hid (by rw [Hnx.out]; simp only [← hrk])
      clear Hnx hrk
      have HDl := Lib.hid hDl
      have Hst := Lib.hid st0
      have Hrw := Lib.hid rw0
      have Hfr := Lib.hid fr0
      have Hmo := Lib.hid mo0
      have k1 : (k : Int) < n := by omega
      clear hDl st0 rw0 fr0 mo0 hsk
      go_wp2_with fail
      have HG0 : Hid ((fun (j : Nat) (x : Value) (w1 : World) => (j = 0 → TkC w b g #[.int .i64 x1, .string ⟨x2.toArray⟩, .string ⟨x3.toArray⟩, .slice q k c, .slice none 0 0] sk ek w1) ∧ (1 ≤ j → j ≤ 3 → TkC w b g #[.int .i64 x1, .string ⟨x2.toArray⟩, .string ⟨x3.toArray⟩, .slice q k c, .slice none 0 0] sk' ek' w1) ∧ (j ≤ 2 → Rw encI 3 w1 q c D) ∧ (j = 2 → ∃ p0, x = .slice (some ⟨p0, 0, none⟩) 1 1 ∧ Rd encI w1 (some ⟨p0, 0, none⟩) [nm]) ∧ (j = 3 → ∃ q' c', x = .slice q' (k + 1) c' ∧ Rw encI 3 w1 q' c' (D ++ [nm]) ∧ ∀ a, q' = some a → W2.heap.size ≤ a.block) ∧ (j = 4 → ∃ q' c', TkC w b g #[.int .i64 x1, .string ⟨x2.toArray⟩, .string ⟨x3.toArray⟩, .slice q' (k + 1) c', .slice none 0 0] sk' ek' w1 ∧ Rw encI 3 w1 q' c' (D ++ [nm]) ∧ ∀ a, q' = some a → W2.heap.size ≤ a.block) ∧ Mod (fun i => i = b ∨ i = g) W2 w1) 0 undef wr.drew) := Lib.hid ⟨fun _ => Hst.out.drew, (fun h => absurd h (by omega)), fun _ => Hrw.out.old ((Below.refl _ _).drew), (fun h => absurd h (by omega)), (fun h => absurd h (by omega)), (fun h => absurd h (by omega)), Hmo.out.drew⟩
      clear Hst Hrw Hmo
      refine wp_region_chain (fun t v => match t with
        | 18 => v = .pointer (some ⟨g, 3, none⟩)
        | 19 => v = .slice q k c
        | 20 => v = .pointer (some ⟨b, 0, none⟩)
        | 21 => v = .int .i64 nm
        | 24 => v = .pointer (some ⟨g, 3, none⟩)
        | _ => True) (fun (j : Nat) (x : Value) (w1 : World) => (j = 0 → TkC w b g #[.int .i64 x1, .string ⟨x2.toArray⟩, .string ⟨x3.toArray⟩, .slice q k c, .slice none 0 0] sk ek w1) ∧ (1 ≤ j → j ≤ 3 → TkC w b g #[.int .i64 x1, .string ⟨x2.toArray⟩, .string ⟨x3.toArray⟩, .slice q k c, .slice none 0 0] sk' ek' w1) ∧ (j ≤ 2 → Rw encI 3 w1 q c D) ∧ (j = 2 → ∃ p0, x = .slice (some ⟨p0, 0, none⟩) 1 1 ∧ Rd encI w1 (some ⟨p0, 0, none⟩) [nm]) ∧ (j = 3 → ∃ q' c', x = .slice q' (k + 1) c' ∧ Rw encI 3 w1 q' c' (D ++ [nm]) ∧ ∀ a, q' = some a → W2.heap.size ≤ a.block) ∧ (j = 4 → ∃ q' c', TkC w b g #[.int .i64 x1, .string ⟨x2.toArray⟩, .string ⟨x3.toArray⟩, .slice q' (k + 1) c', .slice none 0 0] sk' ek' w1 ∧ Rw encI 3 w1 q' c' (D ++ [nm]) ∧ ∀ a, q' = some a → W2.heap.size ≤ a.block) ∧ Mod (fun i => i = b ∨ i = g) W2 w1) [3, 4, 5, 7] 43 (by kernel_rfl) (by decide +kernel) rfl (by decide +kernel) (by decide) (by decide) HG0.out (by
        refine OweAllC.cons (owesC_val 2 (by decide +kernel) (by decide) rfl rfl fun k' a w1 x hk ha hG hV => ?_) ?_
        · skip
          have h3 := ha.outer 3 (by decide +kernel)
          simp only [Act.eval] at h3
          exact ⟨.pointer (some ⟨g, 3, none⟩), wanted_free rfl, by simp [execOp, go_sem, h3], rfl⟩
        refine OweAllC.cons (owesC_val 2 (by decide +kernel) (by decide) rfl rfl fun k' a w1 x hk ha hG hV => ?_) ?_
        · skip
          have h18 : a.tmps.getD 18 undef = .pointer (some ⟨g, 3, none⟩) := hV.get 18 (by decide +kernel)
          have cc : w1.cell? ⟨g, 3, none⟩ = some (.slice q k c) := by by_cases h0 : k' = 0; exact (hG.1 h0).cell 3; exact (hG.2.1 (by omega) (by omega)).cell 3
          exact ⟨.slice q k c, wanted_free rfl, by simp [execOp, go_sem, h18, cc], rfl⟩
        refine OweAllC.cons (owesC_val 0 (by decide +kernel) (by decide) rfl rfl fun k' a w1 x hk ha hG hV => ?_) ?_
        · skip
          have h0 := ha.outer 0 (by decide +kernel)
          simp only [Act.eval] at h0
          exact ⟨.pointer (some ⟨b, 0, none⟩), wanted_free rfl, by simp [execOp, go_sem, h0], rfl⟩
        refine OweAllC.cons (owesC_call 0 rfl rfl rfl 47 fun a w1 x ha hG hx hV => ?_) ?_
        · skip
          have h20 : a.tmps.getD 20 undef = .pointer (some ⟨b, 0, none⟩) := hV.get 20 (by decide +kernel)
          refine ⟨#[.pointer (some ⟨b, 0, none⟩), .int .i64 4611686018427387904], wanted_free rfl, by simp [execOp, resolve, invoke, go_sem, h20], ?_⟩
          have st1 := hG.1 rfl
          have r1 := hG.2.2.1 (by omega)
          have m1 := hG.2.2.2.2.2.2
          refine (hnum.out w1 st1.inp).mono ?_
          rintro r u2 hp
          have hm := hp.2.2
          obtain ⟨rfl, st2⟩ := st1.call hp
          exact ⟨_, rfl, rfl, (fun h => absurd h (by omega)), (fun _ _ => st2), (fun _ => r1.kept hm (fun a e h => by have := Hfr.out a e; have := HW2.out; have := st1.lo; have := st1.hi; omega)), (fun h => absurd h (by omega)), (fun h => absurd h (by omega)), (fun h => absurd h (by omega)), m1.trans hm (fun i _ h => .inl h)⟩
        refine OweAllC.cons (owesC_mem 1 rfl rfl rfl fun a w1 x ha hG hx hV => ?_) ?_
        · skip
          have h21 : a.tmps.getD 21 undef = .int .i64 nm := hV.get 21 (by decide +kernel)
          have g21 : a.tmps[21]?.getD undef = .int .i64 nm := by simpa using h21
          have st1 := hG.2.1 (by omega) (by omega)
          have r1 := hG.2.2.1 (by omega)
          have m1 := hG.2.2.2.2.2.2
          have hb : Below w1.heap.size w1 (w1.alloc (.cells (encI.f nm).toArray 3)) := (Below.refl _ _).alloc (Nat.le_refl _) _
          have hr : Rd encI (w1.alloc (.cells (encI.f nm).toArray 3)) (some ⟨w1.heap.size, 0, none⟩) [nm] := by have := Rd.made encI w1 3 [nm] (by simp [maxLen]); simpa [Enc.all] using this
          exact ⟨_, _, wanted_free rfl, build_one encI 22 3 _ 8 Tryd.underlying22 info_intk (by decide) (.tmp 21) rfl nm _ rfl h21, trivial, (fun h => absurd h (by omega)), (fun _ _ => st1.grow hb), (fun _ => r1.old hb), (fun _ => ⟨_, rfl, hr⟩), (fun h => absurd h (by omega)), (fun h => absurd h (by omega)), m1.trans (Mod.of_below hb) (fun i hi h => absurd h (by have := m1.size; omega))⟩
        refine OweAllC.cons (owesC_law 2 rfl rfl fun a w1 x ha hG hx hV => ?_) ?_
        · skip
          have h19 : a.tmps.getD 19 undef = .slice q k c := hV.get 19 (by decide +kernel)
          have h22 := hx 1 4 _ 22 rfl rfl rfl rfl
          have st1 := hG.2.1 (by omega) (by omega)
          have r1 := hG.2.2.1 (by omega)
          have m1 := hG.2.2.2.2.2.2
          obtain ⟨p0, rfl, hr⟩ := hG.2.2.2.1 rfl
          refine ⟨wanted_free rfl, fun K hK => ?_⟩
          refine wp_pushR1 encI (.tmp 19) (.tmp 22) 22 3 _ 8 rfl Tryd.underlying22 info_intk rfl (by decide) q c k D HDl.out h19 r1 (some ⟨p0, 0, none⟩) 1 nm h22 hr (by omega) ?_
          rintro q' c' w' ⟨hR, hM, hor⟩
          have hs1 := m1.size
          have hfr : ∀ a, q' = some a → W2.heap.size ≤ a.block := by intro a e; rcases hor a e with h | h; exact Hfr.out a h; omega
          have st2 : TkC w b g #[.int .i64 x1, .string ⟨x2.toArray⟩, .string ⟨x3.toArray⟩, .slice q k c, .slice none 0 0] sk' ek' w' := by
              obtain ⟨Z, hz, hZ⟩ := st1.res
              have e1 := st1.lo
              have e2 := st1.hi
              have e3 := HW2.out
              exact ⟨(hM.block g (Array.getElem?_eq_some_iff.1 st1.box).1 (by rintro ⟨a, e, e'⟩; have := Hfr.out a e; omega)).trans st1.box, (hM.block b st1.inp.lt (by rintro ⟨a, e, e'⟩; have := Hfr.out a e; omega)).trans st1.inp, st1.m.trans hM (by rintro i hi ⟨a, e, rfl⟩; have := Hfr.out a e; omega), e1, e2, Z, hz, (hM.block _ (Array.getElem?_eq_some_iff.1 hZ).1 (by rintro ⟨a, e, e'⟩; have := Hfr.out a e; omega)).trans hZ⟩
          exact hK _ _ (fun t ht => by cases ht; trivial) ⟨(fun h => absurd h (by omega)), (fun _ _ => st2), (fun h => absurd h (by omega)), (fun h => absurd h (by omega)), (fun _ => ⟨q', c', rfl, hR, hfr⟩), (fun h => absurd h (by omega)), m1.trans hM (by rintro i hi ⟨a, e, rfl⟩; have := Hfr.out a e; omega)⟩
        refine OweAllC.cons (owesC_val 3 (by decide +kernel) (by decide) rfl rfl fun k' a w1 x hk ha hG hV => ?_) ?_
        · skip
          have h3 := ha.outer 3 (by decide +kernel)
          simp only [Act.eval] at h3
          exact ⟨.pointer (some ⟨g, 3, none⟩), wanted_free rfl, by simp [execOp, go_sem, h3], rfl⟩
        refine OweAllC.cons (owesC_store 3 rfl rfl rfl fun a w1 x ha hG hx hV => ?_) ?_
        · skip
          have h24 : a.tmps.getD 24 undef = .pointer (some ⟨g, 3, none⟩) := hV.get 24 (by decide +kernel)
          have h23 := hx 2 5 _ 23 rfl rfl rfl rfl
          simp only [Act.eval] at h23
          have st1 := hG.2.1 (by omega) (by omega)
          have m1 := hG.2.2.2.2.2.2
          obtain ⟨q', c', rfl, hR, hfr⟩ := hG.2.2.2.2.1 rfl
          have cc : w1.cell? ⟨g, 3, none⟩ = some (.slice q k c) := st1.cell 3
          have cf := st1.froz 3
          have hR2 : Rw encI 3 (w1.setCell ⟨g, 3, none⟩ (.slice q' (k + 1) c')) q' c' (D ++ [nm]) := hR.kept ((Mod.refl (· = g) w1).setCell (p := ⟨g, 3, none⟩) (fun _ => rfl) _) (fun a e h => by have := hfr a e; have := HW2.out; omega)
          exact ⟨w1.setCell ⟨g, 3, none⟩ (.slice q' (k + 1) c'), wanted_free rfl, by simp [execOp, go_sem, h24, h23, cc, cf], (fun h => absurd h (by omega)), (fun _ h => absurd h (by omega)), (fun h => absurd h (by omega)), (fun h => absurd h (by omega)), (fun h => absurd h (by omega)), (fun _ => ⟨q', c', st1.put 3 _, hR2, hfr⟩), m1.setCell (p := ⟨g, 3, none⟩) (fun _ => .inr rfl) _⟩
        exact OweAllC.nil
        ) ?_
      intro f wz xz hG hx hv
      first | (rename_i hK; refine hK _ _ ?_; clear hK) | (rename_i hK _; refine hK _ _ ?_; clear hK) | (rename_i hK _ _; refine hK _ _ ?_; clear hK) | (rename_i hK _ _ _; refine hK _ _ ?_; clear hK)
      clear hv hx
      simp only [dsts, puts, List.filterMap_cons, List.filterMap_nil, List.foldl_cons, List.foldl_nil, Act.put, List.setIfInBounds_toArray, List.set_cons_succ, List.set_cons_zero]
      have hG5 : ∃ q' c', TkC w b g #[.int .i64 x1, .string ⟨x2.toArray⟩, .string ⟨x3.toArray⟩, .slice q' (k + 1) c', .slice none 0 0] sk' ek' wz ∧ Rw encI 3 wz q' c' (D ++ [nm]) ∧ ∀ a, q' = some a → W2.heap.size ≤ a.block := hG.2.2.2.2.2.1 rfl
      have hG6 : Mod (fun i => i = b ∨ i = g) W2 wz := hG.2.2.2.2.2.2
      obtain ⟨q', c', st5, rw5, fr5⟩ := hG5
      clear hG HG0
      have S5 : Hid (TkC w b g #[.int .i64 x1, .string ⟨x2.toArray⟩, .string ⟨x3.toArray⟩, .slice q' (k + 1) c', .slice none 0 0] sk' ek' wz ∧ Rw encI 3 wz q' c' (D ++ [nm]) ∧ (∀ a, q' = some a → W2.heap.size ≤ a.block) ∧ Mod (fun i => i = b ∨ i = g) W2 wz) := Lib.hid ⟨st5, rw5, fr5, hG6⟩
      clear st5 rw5 fr5 hG6
      go_wp2_with fail
      go_roundw
      case rel => exact ⟨k + 1, q', c', by omega, by go_num, Lib.hid (by rw [Hnx2.out]; exact S5.out)⟩
      case measure => simp [intOf]; omega
    · obtain rfl : k = n := by omega
      obtain ⟨st0, rw0, fr0, mo0⟩ := hst.out
      clear hst
      have hDl := intS_len k s4 e4
      obtain ⟨PP, hP⟩ : ∃ P, P = intS k s4 e4 := ⟨_, rfl⟩
      rw [← hP] at st0 rw0 hDl N5
      have HP := Lib.hid hP
      obtain ⟨S, sk, ek⟩ := PP
      simp only at st0 rw0 hDl
      clear hP
      have k1 : ¬ (k : Int) < k := by omega
      have HSl := Lib.hid hDl
      go_wp2_with fail
      refine (N5.out _ st0.inp).mono ?_
      rintro r W3 hp
      have hm := hp.2.2
      have rw1 : Rw encI 3 W3 q c S := rw0.kept hm (fun a e h => by have := fr0 a e; have := HW2.out; have := st0.lo; have := st0.hi; omega)
      obtain ⟨rfl, sa⟩ := st0.call hp
      have HRS := Lib.hid rw1
      have HF1 := Lib.hid fr0
      have HW3 : Hid (g < W3.heap.size) := Lib.hid (Array.getElem?_eq_some_iff.1 sa.box).1
      have HGB := Lib.hid (And.intro st0.lo st0.hi)
      have sb : Hid (TkC w b g #[.int .i64 x1, .string ⟨x2.toArray⟩, .string ⟨x3.toArray⟩, .slice q k c, .slice none 0 0] s5 e5 W3) := Lib.hid sa
      have HW2' := HW2
      clear hp hm rw0 rw1 st0 fr0 mo0 sa hDl HW2 N5 hk hlt k1 L4
      obtain ⟨p, hpe⟩ : ∃ p, p = q := ⟨_, rfl⟩
      obtain ⟨cp, hcp⟩ : ∃ p, p = c := ⟨_, rfl⟩
      obtain ⟨n, hne⟩ : ∃ p, p = k := ⟨_, rfl⟩
      rw [← hpe] at HRS HF1 sb
      rw [← hcp] at HRS sb
      rw [← hne] at HSl sb
      clear hpe hcp hne
      have HW2 := HW3
      obtain ⟨W1, hW1⟩ : ∃ W, W = W2 := ⟨_, rfl⟩
      rw [← hW1] at HW2' HF1
      clear hW1 HW3
      obtain ⟨W2, hW2⟩ : ∃ W, W = W3 := ⟨_, rfl⟩
      rw [← hW2] at HRS sb HW2 ⊢
      clear hW2
      go_wp2_with fail
      go_loopw [28] (fun s28 wr => ∃ (k : Nat) (q : Option Addr) (c : Nat), k ≤ m ∧ s28 = .int .i64 (k : Int) ∧ Hid (TkC w b g #[.int .i64 x1, .string ⟨x2.toArray⟩, .string ⟨x3.toArray⟩, .slice p n cp, .slice q k c] (prS k s5 e5).2.1 (prS k s5 e5).2.2 wr ∧ Rw encP 57 wr q c (prS k s5 e5).1 ∧ (∀ a, q = some a → W2.heap.size ≤ a.block) ∧ Mod (fun i => i = b ∨ i = g) W2 wr)) (fun i _ => m - (intOf i).toNat)
      case atStart => exact ⟨0, none, 0, Nat.zero_le _, rfl, Lib.hid ⟨sb.out, Rw.empty _ _, (fun a e => by cases e), Mod.refl _ _⟩⟩
      case round =>
        clear sb
        obtain ⟨k, q, c, hk, rfl, hst⟩ := hrel
        by_cases hlt : k < m
        · obtain ⟨st0, rw0, fr0, mo0⟩ := hst.out
          clear hst
          have hps := prS_short k s5 e5
          have hsk : (prS k s5 e5).2.1.length ≤ 1000000000 := Nat.le_trans hps L5.out
          have hDl := prS_len k s5 e5
          have Hnx : Hid (prS (k + 1) s5 e5 = ((prS k s5 e5).1 ++ [((numS (prS k s5 e5).2.1 (prS k s5 e5).2.2 4611686018427387904).1, (numS (numS (prS k s5 e5).2.1 (prS k s5 e5).2.2 4611686018427387904).2.1 (numS (prS k s5 e5).2.1 (prS k s5 e5).2.2 4611686018427387904).2.2 4611686018427387904).1)], (numS (numS (prS k s5 e5).2.1 (prS k s5 e5).2.2 4611686018427387904).2.1 (numS (prS k s5 e5).2.1 (prS k s5 e5).2.2 4611686018427387904).2.2 4611686018427387904).2)) := Lib.hid rfl
          clear hps
          generalize prS k s5 e5 = PP at st0 rw0 hsk hDl Hnx
          obtain ⟨D, s0', e0'⟩ := PP
          simp only at st0 rw0 hsk hDl
          have hnum0 : Hid (∀ w, InAt 89 w b s0' e0' → Calls Tryd.prog 47 #[.pointer (some ⟨b, 0, none⟩), .int .i64 4611686018427387904] w (InPost 89 b (.int .i64 (numS s0' e0' 4611686018427387904).1) (numS s0' e0' 4611686018427387904).2 w)) := Lib.hid (fun w hi => innum_any b s0' e0' 4611686018427387904 w hi (by omega))
          have hl0 := numS_len s0' e0' 4611686018427387904
          obtain ⟨⟨m1', sk, ek⟩, hrk0⟩ : ∃ p, p = numS s0' e0' 4611686018427387904 := ⟨_, rfl⟩
          rw [← hrk0] at hnum0 hl0
          have hnum : Hid (∀ w, InAt 89 w b sk ek → Calls Tryd.prog 47 #[.pointer (some ⟨b, 0, none⟩), .int .i64 4611686018427387904] w (InPost 89 b (.int .i64 (numS sk ek 4611686018427387904).1) (numS sk ek 4611686018427387904).2 w)) := Lib.hid (fun w hi => innum_any b sk ek 4611686018427387904 w hi (by simp only at hl0; omega))
          obtain ⟨⟨y, sk', ek'⟩, hrk⟩ : ∃ p, p = numS sk ek 4611686018427387904 := ⟨_, rfl⟩
          rw [← hrk] at hnum
          obtain ⟨nm, hnm⟩ : ∃ p, p = (m1', y) := ⟨_, rfl⟩
          have Hnx2 : Hid (prS (k + 1) s5 e5 = (D ++ [nm], sk', ek')) := Lib.hid (by rw [Hnx.out, hnm]; simp only [← hrk0, ← hrk])
          have HNM := Lib.hid hnm
          clear Hnx hrk hrk0 hnm hl0
          have HDl := Lib.hid hDl
          have k1 : (k : Int) < m := by omega
          clear hDl hsk
          go_wp2_with fail
          refine (hnum0.out _ st0.inp).mono ?_
          rintro r wr' hp
          have hm := hp.2.2
          have rw1 : Rw encP 57 wr' q c D := rw0.kept hm (fun a e h => by have := fr0 a e; have := HW2.out; have := st0.lo; have := st0.hi; omega)
          have mo1 : Mod (fun i => i = b ∨ i = g) W2 wr' := mo0.trans hm (fun i _ h => .inl h)
          obtain ⟨rfl, sa⟩ := st0.call hp
          have Hst := Lib.hid sa
          have Hrw := Lib.hid rw1
          have Hfr := Lib.hid fr0
          have Hmo := Lib.hid mo1
          clear hp hm rw0 rw1 st0 fr0 mo0 mo1 sa hnum0
          obtain ⟨wr, hwr⟩ : ∃ w, w = wr' := ⟨_, rfl⟩
          rw [← hwr] at Hst Hrw Hmo ⊢
          clear hwr
          go_wp2_with fail
          have HG0 : Hid ((fun (j : Nat) (x : Value) (w1 : World) => (j = 0 → TkC w b g #[.int .i64 x1, .string ⟨x2.toArray⟩, .string ⟨x3.toArray⟩, .slice p n cp, .slice q k c] sk ek w1) ∧ (1 ≤ j → j ≤ 4 → TkC w b g #[.int .i64 x1, .string ⟨x2.toArray⟩, .string ⟨x3.toArray⟩, .slice p n cp, .slice q k c] sk' ek' w1) ∧ (j ≤ 3 → Rw encP 57 w1 q c D) ∧ (j = 3 → ∃ p0, x = .slice (some ⟨p0, 0, none⟩) 1 1 ∧ Rd encP w1 (some ⟨p0, 0, none⟩) [nm]) ∧ (j = 4 → ∃ q' c', x = .slice q' (k + 1) c' ∧ Rw encP 57 w1 q' c' (D ++ [nm]) ∧ ∀ a, q' = some a → W2.heap.size ≤ a.block) ∧ (j = 5 → ∃ q' c', TkC w b g #[.int .i64 x1, .string ⟨x2.toArray⟩, .string ⟨x3.toArray⟩, .slice p n cp, .slice q' (k + 1) c'] sk' ek' w1 ∧ Rw encP 57 w1 q' c' (D ++ [nm]) ∧ ∀ a, q' = some a → W2.heap.size ≤ a.block) ∧ Mod (fun i => i = b ∨ i = g) W2 w1) 0 undef wr.drew) := Lib.hid ⟨fun _ => Hst.out.drew, (fun h => absurd h (by omega)), fun _ => Hrw.out.old ((Below.refl _ _).drew), (fun h => absurd h (by omega)), (fun h => absurd h (by omega)), (fun h => absurd h (by omega)), Hmo.out.drew⟩
          clear Hst Hrw Hmo
          refine wp_region_chain (fun t v => match t with
            | 32 => v = .pointer (some ⟨g, 4, none⟩)
            | 33 => v = .slice q k c
            | 34 => v = .int .i64 m1'
            | 35 => v = .pointer (some ⟨b, 0, none⟩)
            | 36 => v = .int .i64 y
            | 37 => v = .agg #[.int .i64 m1', .int .i64 y]
            | 40 => v = .pointer (some ⟨g, 4, none⟩)
            | _ => True) (fun (j : Nat) (x : Value) (w1 : World) => (j = 0 → TkC w b g #[.int .i64 x1, .string ⟨x2.toArray⟩, .string ⟨x3.toArray⟩, .slice p n cp, .slice q k c] sk ek w1) ∧ (1 ≤ j → j ≤ 4 → TkC w b g #[.int .i64 x1, .string ⟨x2.toArray⟩, .string ⟨x3.toArray⟩, .slice p n cp, .slice q k c] sk' ek' w1) ∧ (j ≤ 3 → Rw encP 57 w1 q c D) ∧ (j = 3 → ∃ p0, x = .slice (some ⟨p0, 0, none⟩) 1 1 ∧ Rd encP w1 (some ⟨p0, 0, none⟩) [nm]) ∧ (j = 4 → ∃ q' c', x = .slice q' (k + 1) c' ∧ Rw encP 57 w1 q' c' (D ++ [nm]) ∧ ∀ a, q' = some a → W2.heap.size ≤ a.block) ∧ (j = 5 → ∃ q' c', TkC w b g #[.int .i64 x1, .string ⟨x2.toArray⟩, .string ⟨x3.toArray⟩, .slice p n cp, .slice q' (k + 1) c'] sk' ek' w1 ∧ Rw encP 57 w1 q' c' (D ++ [nm]) ∧ ∀ a, q' = some a → W2.heap.size ≤ a.block) ∧ Mod (fun i => i = b ∨ i = g) W2 w1) [4, 5, 6, 7, 9] 43 (by kernel_rfl) (by decide +kernel) rfl (by decide +kernel) (by decide) (by decide) HG0.out (by
            refine OweAllC.cons (owesC_val 3 (by decide +kernel) (by decide) rfl rfl fun k' a w1 x hk ha hG hV => ?_) ?_
            · skip
              have h3 := ha.outer 3 (by decide +kernel)
              simp only [Act.eval] at h3
              exact ⟨.pointer (some ⟨g, 4, none⟩), wanted_free rfl, by simp [execOp, go_sem, h3], rfl⟩
            refine OweAllC.cons (owesC_val 3 (by decide +kernel) (by decide) rfl rfl fun k' a w1 x hk ha hG hV => ?_) ?_
            · skip
              have h32 : a.tmps.getD 32 undef = .pointer (some ⟨g, 4, none⟩) := hV.get 32 (by decide +kernel)
              have cc : w1.cell? ⟨g, 4, none⟩ = some (.slice q k c) := by by_cases h0 : k' = 0; exact (hG.1 h0).cell 4; exact (hG.2.1 (by omega) (by omega)).cell 4
              exact ⟨.slice q k c, wanted_free rfl, by simp [execOp, go_sem, h32, cc], rfl⟩
            refine OweAllC.cons (owesC_val 1 (by decide +kernel) (by decide) rfl rfl fun k' a w1 x hk ha hG hV => ?_) ?_
            · skip
              have h4 := ha.outer 4 (by decide +kernel)
              simp only [Act.eval] at h4
              exact ⟨.int .i64 m1', wanted_free rfl, by simp [execOp, go_sem, h4], rfl⟩
            refine OweAllC.cons (owesC_val 0 (by decide +kernel) (by decide) rfl rfl fun k' a w1 x hk ha hG hV => ?_) ?_
            · skip
              have h0 := ha.outer 0 (by decide +kernel)
              simp only [Act.eval] at h0
              exact ⟨.pointer (some ⟨b, 0, none⟩), wanted_free rfl, by simp [execOp, go_sem, h0], rfl⟩
            refine OweAllC.cons (owesC_call 0 rfl rfl rfl 47 fun a w1 x ha hG hx hV => ?_) ?_
            · skip
              have h35 : a.tmps.getD 35 undef = .pointer (some ⟨b, 0, none⟩) := hV.get 35 (by decide +kernel)
              refine ⟨#[.pointer (some ⟨b, 0, none⟩), .int .i64 4611686018427387904], wanted_free rfl, by simp [execOp, resolve, invoke, go_sem, h35], ?_⟩
              have st1 := hG.1 rfl
              have r1 := hG.2.2.1 (by omega)
              have m1 := hG.2.2.2.2.2.2
              refine (hnum.out w1 st1.inp).mono ?_
              rintro r u2 hp
              have hm := hp.2.2
              obtain ⟨rfl, st2⟩ := st1.call hp
              exact ⟨_, rfl, rfl, (fun h => absurd h (by omega)), (fun _ _ => st2), (fun _ => r1.kept hm (fun a e h => by have := Hfr.out a e; have := HW2.out; have := st1.lo; have := st1.hi; omega)), (fun h => absurd h (by omega)), (fun h => absurd h (by omega)), (fun h => absurd h (by omega)), m1.trans hm (fun i _ h => .inl h)⟩
            refine OweAllC.cons (owesC_mem 1 rfl rfl rfl fun a w1 x ha hG hx hV => ?_) ?_
            · skip
              have h34 : a.tmps.getD 34 undef = .int .i64 m1' := hV.get 34 (by decide +kernel)
              have h36 : a.tmps.getD 36 undef = .int .i64 y := hV.get 36 (by decide +kernel)
              have g34 : a.tmps[34]?.getD undef = .int .i64 m1' := by simpa using h34
              have g36 : a.tmps[36]?.getD undef = .int .i64 y := by simpa using h36
              exact ⟨.agg #[.int .i64 m1', .int .i64 y], w1, wanted_free rfl, by simp [execOp, go_sem, h34, h36, g34, g36], rfl, (fun h => absurd h (by omega)), (fun _ _ => hG.2.1 (by omega) (by omega)), (fun _ => hG.2.2.1 (by omega)), (fun h => absurd h (by omega)), (fun h => absurd h (by omega)), (fun h => absurd h (by omega)), hG.2.2.2.2.2.2⟩
            refine OweAllC.cons (owesC_mem 2 rfl rfl rfl fun a w1 x ha hG hx hV => ?_) ?_
            · skip
              have h37 : a.tmps.getD 37 undef = .agg #[.int .i64 m1', .int .i64 y] := hV.get 37 (by decide +kernel)
              have g37 : a.tmps[37]?.getD undef = .agg #[.int .i64 m1', .int .i64 y] := by simpa using h37
              have st1 := hG.2.1 (by omega) (by omega)
              have r1 := hG.2.2.1 (by omega)
              have m1 := hG.2.2.2.2.2.2
              have hb : Below w1.heap.size w1 (w1.alloc (.cells (encP.f nm).toArray 57)) := (Below.refl _ _).alloc (Nat.le_refl _) _
              have hr : Rd encP (w1.alloc (.cells (encP.f nm).toArray 57)) (some ⟨w1.heap.size, 0, none⟩) [nm] := by have := Rd.made encP w1 57 [nm] (by simp [maxLen]); simpa [Enc.all] using this
              exact ⟨_, _, wanted_free rfl, build_one encP 28 57 _ 16 Tryd.underlying28 info_entk (by decide) (.tmp 37) rfl nm _ (by rw [HNM.out]; rfl) h37, trivial, (fun h => absurd h (by omega)), (fun _ _ => st1.grow hb), (fun _ => r1.old hb), (fun _ => ⟨_, rfl, hr⟩), (fun h => absurd h (by omega)), (fun h => absurd h (by omega)), m1.trans (Mod.of_below hb) (fun i hi h => absurd h (by have := m1.size; omega))⟩
            refine OweAllC.cons (owesC_law 3 rfl rfl fun a w1 x ha hG hx hV => ?_) ?_
            · skip
              have h33 : a.tmps.getD 33 undef = .slice q k c := hV.get 33 (by decide +kernel)
              have h38 := hx 2 6 _ 38 rfl rfl rfl rfl
              have st1 := hG.2.1 (by omega) (by omega)
              have r1 := hG.2.2.1 (by omega)
              have m1 := hG.2.2.2.2.2.2
              obtain ⟨p0, rfl, hr⟩ := hG.2.2.2.1 rfl
              refine ⟨wanted_free rfl, fun K hK => ?_⟩
              refine wp_pushR1 encP (.tmp 33) (.tmp 38) 28 57 _ 16 rfl Tryd.underlying28 info_entk rfl (by decide) q c k D HDl.out h33 r1 (some ⟨p0, 0, none⟩) 1 nm h38 hr (by omega) ?_
              rintro q' c' w' ⟨hR, hM, hor⟩
              have hs1 := m1.size
              have hfr : ∀ a, q' = some a → W2.heap.size ≤ a.block := by intro a e; rcases hor a e with h | h; exact Hfr.out a h; omega
              have st2 : TkC w b g #[.int .i64 x1, .string ⟨x2.toArray⟩, .string ⟨x3.toArray⟩, .slice p n cp, .slice q k c] sk' ek' w' := by
                  obtain ⟨Z, hz, hZ⟩ := st1.res
                  have e1 := st1.lo
                  have e2 := st1.hi
                  have e3 := HW2.out
                  exact ⟨(hM.block g (Array.getElem?_eq_some_iff.1 st1.box).1 (by rintro ⟨a, e, e'⟩; have := Hfr.out a e; omega)).trans st1.box, (hM.block b st1.inp.lt (by rintro ⟨a, e, e'⟩; have := Hfr.out a e; omega)).trans st1.inp, st1.m.trans hM (by rintro i hi ⟨a, e, rfl⟩; have := Hfr.out a e; omega), e1, e2, Z, hz, (hM.block _ (Array.getElem?_eq_some_iff.1 hZ).1 (by rintro ⟨a, e, e'⟩; have := Hfr.out a e; omega)).trans hZ⟩
              exact hK _ _ (fun t ht => by cases ht; trivial) ⟨(fun h => absurd h (by omega)), (fun _ _ => st2), (fun h => absurd h (by omega)), (fun h => absurd h (by omega)), (fun _ => ⟨q', c', rfl, hR, hfr⟩), (fun h => absurd h (by omega)), m1.trans hM (by rintro i hi ⟨a, e, rfl⟩; have := Hfr.out a e; omega)⟩
            refine OweAllC.cons (owesC_val 4 (by decide +kernel) (by decide) rfl rfl fun k' a w1 x hk ha hG hV => ?_) ?_
            · skip
              have h3 := ha.outer 3 (by decide +kernel)
              simp only [Act.eval] at h3
              exact ⟨.pointer (some ⟨g, 4, none⟩), wanted_free rfl, by simp [execOp, go_sem, h3], rfl⟩
            refine OweAllC.cons (owesC_store 4 rfl rfl rfl fun a w1 x ha hG hx hV => ?_) ?_
            · skip
              have h40 : a.tmps.getD 40 undef = .pointer (some ⟨g, 4, none⟩) := hV.get 40 (by decide +kernel)
              have h39 := hx 3 7 _ 39 rfl rfl rfl rfl
              simp only [Act.eval] at h39
              have st1 := hG.2.1 (by omega) (by omega)
              have m1 := hG.2.2.2.2.2.2
              obtain ⟨q', c', rfl, hR, hfr⟩ := hG.2.2.2.2.1 rfl
              have cc : w1.cell? ⟨g, 4, none⟩ = some (.slice q k c) := st1.cell 4
              have cf := st1.froz 4
              have hR2 : Rw encP 57 (w1.setCell ⟨g, 4, none⟩ (.slice q' (k + 1) c')) q' c' (D ++ [nm]) := hR.kept ((Mod.refl (· = g) w1).setCell (p := ⟨g, 4, none⟩) (fun _ => rfl) _) (fun a e h => by have := hfr a e; have := HW2.out; omega)
              exact ⟨w1.setCell ⟨g, 4, none⟩ (.slice q' (k + 1) c'), wanted_free rfl, by simp [execOp, go_sem, h40, h39, cc, cf], (fun h => absurd h (by omega)), (fun _ h => absurd h (by omega)), (fun h => absurd h (by omega)), (fun h => absurd h (by omega)), (fun h => absurd h (by omega)), (fun _ => ⟨q', c', st1.put 4 _, hR2, hfr⟩), m1.setCell (p := ⟨g, 4, none⟩) (fun _ => .inr rfl) _⟩
            exact OweAllC.nil
            ) ?_
          intro f wz xz hG hx hv
          first | (rename_i hK; refine hK _ _ ?_; clear hK) | (rename_i hK _; refine hK _ _ ?_; clear hK) | (rename_i hK _ _; refine hK _ _ ?_; clear hK) | (rename_i hK _ _ _; refine hK _ _ ?_; clear hK)
          clear hv hx
          simp only [dsts, puts, List.filterMap_cons, List.filterMap_nil, List.foldl_cons, List.foldl_nil, Act.put, List.setIfInBounds_toArray, List.set_cons_succ, List.set_cons_zero]
          have hG5 : ∃ q' c', TkC w b g #[.int .i64 x1, .string ⟨x2.toArray⟩, .string ⟨x3.toArray⟩, .slice p n cp, .slice q' (k + 1) c'] sk' ek' wz ∧ Rw encP 57 wz q' c' (D ++ [nm]) ∧ ∀ a, q' = some a → W2.heap.size ≤ a.block := hG.2.2.2.2.2.1 rfl
          have hG6 : Mod (fun i => i = b ∨ i = g) W2 wz := hG.2.2.2.2.2.2
          obtain ⟨q', c', st5, rw5, fr5⟩ := hG5
          clear hG HG0
          have S5 : Hid (TkC w b g #[.int .i64 x1, .string ⟨x2.toArray⟩, .string ⟨x3.toArray⟩, .slice p n cp, .slice q' (k + 1) c'] sk' ek' wz ∧ Rw encP 57 wz q' c' (D ++ [nm]) ∧ (∀ a, q' = some a → W2.heap.size ≤ a.block) ∧ Mod (fun i => i = b ∨ i = g) W2 wz) := Lib.hid ⟨st5, rw5, fr5, hG6⟩
          clear st5 rw5 fr5 hG6
          go_wp2_with fail
          go_roundw
          case rel => exact ⟨k + 1, q', c', by omega, by go_num, Lib.hid (by rw [Hnx2.out]; exact S5.out)⟩
          case measure => simp [intOf]; omega
        · have e : k = m := by omega
          obtain ⟨st0, rw0, fr0, mo0⟩ := hst.out
          clear hst
          have hEl := prS_len k s5 e5
          have hEE : prS m s5 e5 = prS k s5 e5 := by rw [e]
          obtain ⟨PP, hP2⟩ : ∃ P, P = prS k s5 e5 := ⟨_, rfl⟩
          rw [← hP2] at st0 rw0 hEl hEE
          obtain ⟨E, sk2, ek2⟩ := PP
          simp only at st0 rw0 hEl
          have HEE := Lib.hid hEE
          clear hP2 hEE e
          have k1 : ¬ (k : Int) < m := by omega
          have box := st0.box
          obtain ⟨Z, hZs, hZ⟩ := st0.res
          obtain ⟨Y, hY⟩ : ∃ Y : Array Value, Y = #[.int .i64 x1, .string ⟨x2.toArray⟩, .string ⟨x3.toArray⟩, .slice p n cp, .slice q k c] := ⟨_, rfl⟩
          rw [← hY] at box
          have hYs : Y.size = 5 := by rw [hY]; rfl
          have q3 : (Tryd.prog.info? 30).map (·.size) = some Y.size := by rw [hYs]; exact ct_info
          have q2 : Z.size = Y.size := by rw [hZs, hYs]
          have q4 : ∀ v ∈ Y.toList, v.oneCell' = true := by
            rw [hY]; intro v hv
            simp only [List.mem_cons, List.not_mem_nil, or_false] at hv
            rcases hv with rfl | rfl | rfl | rfl | rfl <;> rfl
          have L0 := Lib.hid (setRow_heap wr w.heap.size Z Y 30 (0, 0) hZ)
          have hlo := st0.lo
          have hhi := st0.hi
          have hw2 := HW2.out
          have LI : Hid (InAt 89 (wr.setRow w.heap.size Y) b sk2 ek2) := Lib.hid ((setRow_other wr _ _ Y (by omega)).trans st0.inp)
          have LM : Hid (Mod (· = b) w (wr.setRow w.heap.size Y)) := Lib.hid ((st0.m.setRow (g := w.heap.size) Y).drop_new (Nat.le_refl _))
          have LE : Hid (Rw encP 57 (wr.setRow w.heap.size Y) q c E) := Lib.hid (rw0.kept ((Mod.refl (fun _ => False) wr).setRow (g := w.heap.size) Y) (fun a e h => by have := fr0 a e; rcases h with h | h; exact h; omega))
          have LS : Hid (Rw encI 3 (wr.setRow w.heap.size Y) p cp S) := Lib.hid (HRS.out.kept (mo0.setRow (g := w.heap.size) Y) (fun a e h => by have := HF1.out a e; have := HW2'.out; omega))
          have HY := Lib.hid hY
          have LP : Hid (∀ a, p = some a → w.heap.size ≤ a.block) := Lib.hid (fun a e => by have := HF1.out a e; have := HW2'.out; have := Hg.out; omega)
          have LQ : Hid (∀ a, q = some a → w.heap.size ≤ a.block) := Lib.hid (fun a e => by have := fr0 a e; have := Hg.out; omega)
          have HEl := Lib.hid hEl
          clear st0 rw0 fr0 mo0 hY hEl
          go_wp2_with (first | (refine wpList_load_row rfl 30 (.tmp 3) rfl g rfl 30 Y (0, 0) _ box Tryd.underlying30 rfl q3 ?_) | (refine wpList_store_row rfl rfl 30 (.tmp 2) (.tmp 42) rfl w.heap.size rfl 30 Z Y rfl hZ q2 q3 q4 ?_))
          refine bodyPost_ret (v := .agg Y) (results_cell_row Tryd.results30 _ _ w.heap.size 30 Y (0, 0) _ rfl L0.out Tryd.underlying30 rfl q3) rfl ⟨p, q, ⟨cp, c, ?_⟩, ?_, ?_, LM.out, LP.out, LQ.out⟩
          · rw [HY.out]; unfold ctc; simp only [HEE.out]; rw [← HP.out]; simp only [HSl.out, HEl.out]
          · refine ⟨?_, ?_⟩
            · rw [← HP.out]; exact LS.out.rd
            · rw [HEE.out]; exact LE.out.rd
          · rw [HEE.out]; exact LI.out
end Go.Proofs.YtmodikcghlbigaaDoor

namespace Go.Proofs.YtmodikcghlbigaaDoor
open Go.RowKit

def zcc : Array Value := #[.int .i64 0, .string ⟨#[]⟩, .string ⟨#[]⟩, .slice none 0 0, .slice none 0 0]
theorem zcc_one : ∀ v ∈ zcc.toList, v.oneCell' = true := by
  unfold zcc; intro v hv
  simp only [List.mem_cons, List.not_mem_nil, or_false] at hv
  rcases hv with rfl | rfl | rfl | rfl | rfl <;> rfl
theorem ct_end (s : List UInt8) : parE s = if (if (takeC s).2.1 = [] then (takeC s).2.2 else 3) = 0 then ck (takeC s).1 else (if (takeC s).2.1 = [] then (takeC s).2.2 else 3) := by
  unfold parE
  by_cases he : (takeC s).2.2 = 0
  · by_cases hR : (takeC s).2.1 = [] <;> simp [he, hR]
  · have hR := takeC_inv s he
    simp [he, hR]
/-- What Parse answers. -/
def KPost (c : Ct) (e : Int) (w : World) (r : Ending) (w' : World) : Prop := ∃ p q cp cq, r = .returned (.tuple #[.agg (ctc c p q cp cq), .int .i64 e]) ∧ CtAt w' c p q ∧ Below w.heap.size w w' ∧ (∀ a, p = some a → w.heap.size ≤ a.block) ∧ (∀ a, q = some a → w.heap.size ≤ a.block)
theorem CtAt.mod {w w' : World} {c : Ct} {p q : Option Addr} {S : Nat → Prop} (h : CtAt w c p q) (hm : Mod S w w') (hp : ∀ a, p = some a → ¬ S a.block) (hq : ∀ a, q = some a → ¬ S a.block) : CtAt w' c p q := ⟨h.1.mod hm hp, h.2.mod hm hq⟩
theorem KPost.of {c : Ct} {e : Int} {w w' : World} {r : Ending} (h : KPost c e w r w') {P : Ending → World → Prop} (hP : P = KPost c e w) : P r w' := by rw [hP]; exact h
theorem stored_new (w2 : World) (X Y : Array Value) (T : TypeId) : Below w2.heap.size w2 ((w2.alloc (.cells X T)).setRow w2.heap.size Y) :=
  ((Mod.of_below ((Below.refl w2.heap.size w2).alloc (Nat.le_refl _) (.cells X T))).setRow (g := w2.heap.size) Y).to_below (Nat.le_refl _) (by rintro k hk (h | h) <;> omega)

set_option maxRecDepth 20000 in
set_option maxHeartbeats 8000000 in
theorem kparse_any (s : List UInt8) (w : World) (hl : s.length ≤ 1000000) :
    Calls Tryd.prog 11 #[.string ⟨s.toArray⟩] w (KPost (parC s) (parE s) w) := by
  have hen := ct_end s
  have hfw := takeC_few s
  have hshort : (takeC s).1.base.length ≤ 1000000 ∧ (takeC s).1.fin.length ≤ 1000000 := takeC_lens s (by omega)
  obtain ⟨EE, hEE⟩ : ∃ EE, EE = parE s := ⟨_, rfl⟩
  obtain ⟨HH, hHH⟩ : ∃ HH, HH = parC s := ⟨_, rfl⟩
  rw [← hEE] at hen
  have hHH2 : HH = if EE = 0 then (takeC s).1 else zct := by rw [hHH, hEE]; rfl
  rw [← hEE, ← hHH]
  have htk0 := fun b w h => ktake_any b s w h (by omega)
  obtain ⟨⟨H, R, e⟩, hT⟩ : ∃ p, p = takeC s := ⟨_, rfl⟩
  rw [← hT] at hen hHH2 htk0 hfw hshort
  simp only at hen hHH2 htk0 hfw hshort
  obtain ⟨E0, hE0⟩ : ∃ E0 : Int, E0 = if R = [] then e else 3 := ⟨_, rfl⟩
  obtain ⟨E1, hE1⟩ : ∃ E1 : Int, E1 = ck H := ⟨_, rfl⟩
  rw [← hE0, ← hE1] at hen
  have HEE := Lib.hid hen
  have HHH := Lib.hid hHH2
  have htk := Lib.hid htk0
  have hend : Hid (∀ b w, InAt 89 w b R e → Calls Tryd.prog 31 #[.pointer (some ⟨b, 0, none⟩)] w fun r w' => r = .returned (.int .i64 E0) ∧ w = w') := Lib.hid (fun b w h => by rw [hE0]; exact end_any b R e w h)
  have hck : Hid (∀ p q cp cq w, CtAt w H p q → Calls Tryd.prog 9 #[.agg (ctc H p q cp cq)] w fun r w' => r = .returned (.int .i64 E1) ∧ Below w.heap.size w w') := Lib.hid (fun p q cp cq w h => by rw [hE1]; exact kcheck_any H p q cp cq w h (by omega) (by omega) hshort.1 hshort.2)
  obtain ⟨W0, hW0⟩ : ∃ W0, W0 = w.alloc (.cells #[.int .i64 0, .string ⟨#[]⟩, .string ⟨#[]⟩, .slice none 0 0, .slice none 0 0] 30) := ⟨_, rfl⟩
  have res0 : W0.heap[w.heap.size]? = some (.cells zcc 30 (0, 0)) := by rw [hW0]; exact heap_alloc_new w _
  have B0 : Below w.heap.size w W0 := by rw [hW0]; exact (Below.refl _ _).alloc (Nat.le_refl _) _
  have s0 : W0.heap.size = w.heap.size + 1 := by rw [hW0]; simp
  have HW0 := Lib.hid hW0
  have Hs0 := Lib.hid s0
  have Hres := Lib.hid res0
  have HB0 := Lib.hid B0
  clear hT hE0 hE1 hW0 s0 res0 B0 hen hHH hHH2 hEE htk0 hfw hshort
  obtain ⟨PP, hPP⟩ : ∃ P, P = KPost HH EE w := ⟨_, rfl⟩
  rw [← hPP]
  have HPP := Lib.hid hPP
  clear hPP
  go_enter Tryd.func11, Tryd.ntmps11
  go_wp2_with fail
  rw [← HW0.out]
  refine (of_any s W0 (by omega)).mono ?_
  rintro r w1 ⟨b, rfl, hb, hI, hB1⟩
  go_wp2_with fail
  refine (htk.out b w1 hI).mono ?_
  rintro r w2 ⟨p, q, cp, cq, rfl, hR, hI2, hM, hfp, hfq⟩
  have hY1 := Lib.hid (ctc_one H p q cp cq)
  have hbz := Hs0.out
  have hB1s := hB1.size
  have res2 : Hid (w2.heap[w.heap.size]? = some (.cells zcc 30 (0, 0))) := Lib.hid ((hM.block _ (by omega) (by omega)).trans ((hB1.block _ (by omega)).trans Hres.out))
  have B2 : Hid (Below w.heap.size w w2) := Lib.hid (HB0.out.trans ((hB1.mono HB0.out.size).trans (hM.to_below (by omega) (by intro k hk e; omega))))
  have hck1 : Hid (∀ w, CtAt w H p q → Calls Tryd.prog 9 #[.agg (ctc H p q cp cq)] w fun r w' => r = .returned (.int .i64 E1) ∧ Below w.heap.size w w') := Lib.hid (fun w => hck.out p q cp cq w)
  obtain ⟨Y, hY⟩ : ∃ Y, Y = ctc H p q cp cq := ⟨_, rfl⟩
  rw [← hY] at hY1 hck1 ⊢
  have hYs : Y.size = 5 := by rw [hY]; rfl
  obtain ⟨W3, hW3⟩ : ∃ W3, W3 = (w2.alloc (.cells #[.int .i64 0, .string ⟨#[]⟩, .string ⟨#[]⟩, .slice none 0 0, .slice none 0 0] 30)).setRow w2.heap.size Y := ⟨_, rfl⟩
  have hb3 : Below w2.heap.size w2 W3 := by rw [hW3]; exact stored_new w2 _ Y 30
  have box3 : Hid (W3.heap[w2.heap.size]? = some (.cells Y 30 (0, 0))) := Lib.hid (by rw [hW3]; exact setRow_heap _ _ _ _ _ _ (heap_alloc_new w2 _))
  have I3 : InAt 89 W3 b R e := (hb3.block b hI2.lt).trans hI2
  have res3 : Hid (W3.heap[w.heap.size]? = some (.cells zcc 30 (0, 0))) := Lib.hid ((hb3.block _ (Array.getElem?_eq_some_iff.1 res2.out).1).trans res2.out)
  have B3 : Hid (Below w.heap.size w W3) := Lib.hid (B2.out.trans (hb3.mono B2.out.size))
  have R3 : Hid (CtAt W3 H p q) := Lib.hid (hR.old hb3)
  have FP : Hid (∀ a, p = some a → w.heap.size < a.block) := Lib.hid (fun a e => by have := hfp a e; omega)
  have FQ : Hid (∀ a, q = some a → w.heap.size < a.block) := Lib.hid (fun a e => by have := hfq a e; omega)
  have HW3 := Lib.hid hW3
  have HY := Lib.hid hY
  have hg5 := heap_alloc_new w2 (.cells #[.int .i64 0, .string ⟨#[]⟩, .string ⟨#[]⟩, .slice none 0 0, .slice none 0 0] 30)
  have q3 : (Tryd.prog.info? 30).map (·.size) = some Y.size := by rw [hYs]; exact ct_info
  have q4 := hY1.out
  have Hq := Lib.hid hYs
  clear hb hI hB1 hR hI2 hM hfp hfq hB1s hbz hW3 hY hb3 hYs res2 B2 HW0 hck htk hl
  go_wp2_with (refine wpList_store_row rfl rfl 30 (.tmp 5) (.tmp 10) rfl w2.heap.size rfl 30 _ Y rfl hg5 (by rw [Hq.out]; rfl) q3 q4 ?_)
  rw [← HW3.out]
  refine (hend.out b W3 I3).mono ?_
  rintro r w4 ⟨rfl, rfl⟩
  clear I3 hg5
  by_cases hz : E0 = 0
  · subst hz
    have lbox := box3.out
    go_wp2_with (first | (refine wpList_load_row rfl 30 (.tmp 5) rfl w2.heap.size rfl 30 Y (0, 0) _ lbox Tryd.underlying30 rfl q3 ?_) | fail)
    refine (hck1.out W3 R3.out).mono ?_
    rintro r w5 ⟨rfl, hb5⟩
    have res5 := (hb5.block _ (Array.getElem?_eq_some_iff.1 res3.out).1).trans res3.out
    have box5 := (hb5.block _ (Array.getElem?_eq_some_iff.1 box3.out).1).trans box3.out
    have B5 := Lib.hid (B3.out.trans (hb5.mono B3.out.size))
    have R5 := Lib.hid (R3.out.old hb5)
    have q2 : zcc.size = Y.size := by rw [Hq.out]; rfl
    clear hb5 lbox
    by_cases hz1 : E1 = 0
    · subst hz1
      have L0 := Lib.hid (setRow_heap w5 w.heap.size zcc Y 30 (0, 0) res5)
      have LB := Lib.hid (B5.out.trans (((Mod.refl (fun _ => False) w5).setRow (g := w.heap.size) Y).to_below (B5.out.size) (by rintro k hk (h | h) <;> first | exact h | omega)))
      have LR : Hid (CtAt (w5.setRow w.heap.size Y) H p q) := Lib.hid (R5.out.mod ((Mod.refl (fun _ => False) w5).setRow (g := w.heap.size) Y) (fun a e h => by have := FP.out a e; rcases h with h | h; exact h; omega) (fun a e h => by have := FQ.out a e; rcases h with h | h; exact h; omega))
      have e1 : Hid (EE = 0) := Lib.hid (by rw [HEE.out]; simp)
      have e2 : Hid (HH = H) := Lib.hid (by rw [HHH.out, if_pos e1.out])
      go_wp2_with (first | (refine wpList_load_row rfl 30 (.tmp 5) rfl w2.heap.size rfl 30 Y (0, 0) _ box5 Tryd.underlying30 rfl q3 ?_) | (refine wpList_store_row rfl rfl 30 (.tmp 2) (.tmp 21) rfl w.heap.size rfl 30 zcc Y rfl res5 q2 q3 q4 ?_))
      exact bodyPost_ret (v := .tuple #[.agg Y, .int .i64 0]) (results_row2 Tryd.results11 _ _ w.heap.size 30 Y (0, 0) _ _ rfl rfl L0.out Tryd.underlying30 rfl q3) rfl (KPost.of ⟨p, q, cp, cq, by rw [e2.out, e1.out, HY.out], by rw [e2.out]; exact LR.out, LB.out, fun a e => Nat.le_of_lt (FP.out a e), fun a e => Nat.le_of_lt (FQ.out a e)⟩ HPP.out)
    · have t18 : (E1 == 0) = false := by simp [hz1]
      have L0 := Lib.hid (setRow_heap w5 w.heap.size zcc zcc 30 (0, 0) res5)
      have LB := Lib.hid (B5.out.trans (((Mod.refl (fun _ => False) w5).setRow (g := w.heap.size) zcc).to_below (B5.out.size) (by rintro k hk (h | h) <;> first | exact h | omega)))
      have e1 : Hid (EE = E1) := Lib.hid (by rw [HEE.out]; simp)
      have e2 : Hid (HH = zct) := Lib.hid (by rw [HHH.out, if_neg (by rw [e1.out]; exact hz1)])
      clear hz1 q4
      go_wp2_with (first | (refine wpList_store_row rfl rfl 30 (.tmp 2) (.tmp 19) rfl w.heap.size rfl 30 zcc zcc rfl res5 rfl (by rw [show zcc.size = 5 from rfl]; exact ct_info) zcc_one ?_) | fail)
      exact bodyPost_ret (v := .tuple #[.agg zcc, .int .i64 E1]) (results_row2 Tryd.results11 _ _ w.heap.size 30 zcc (0, 0) _ _ rfl rfl L0.out Tryd.underlying30 rfl (by rw [show zcc.size = 5 from rfl]; exact ct_info)) rfl (KPost.of ⟨none, none, 0, 0, by rw [e2.out, e1.out]; rfl, by rw [e2.out]; exact ⟨Rd.nil _ _, Rd.nil _ _⟩, LB.out, (fun a e => by cases e), (fun a e => by cases e)⟩ HPP.out)
  · have t18 : (E0 == 0) = false := by simp [hz]
    have L0 := Lib.hid (setRow_heap W3 w.heap.size zcc zcc 30 (0, 0) res3.out)
    have LB := Lib.hid (B3.out.trans (((Mod.refl (fun _ => False) W3).setRow (g := w.heap.size) zcc).to_below (B3.out.size) (by rintro k hk (h | h) <;> first | exact h | omega)))
    have e1 : Hid (EE = E0) := Lib.hid (by rw [HEE.out, if_neg hz])
    have e2 : Hid (HH = zct) := Lib.hid (by rw [HHH.out, if_neg (by rw [e1.out]; exact hz)])
    have res5 := res3.out
    clear hz q4
    go_wp2_with (first | (refine wpList_store_row rfl rfl 30 (.tmp 2) (.tmp 19) rfl w.heap.size rfl 30 zcc zcc rfl res5 rfl (by rw [show zcc.size = 5 from rfl]; exact ct_info) zcc_one ?_) | fail)
    exact bodyPost_ret (v := .tuple #[.agg zcc, .int .i64 E0]) (results_row2 Tryd.results11 _ _ w.heap.size 30 zcc (0, 0) _ _ rfl rfl L0.out Tryd.underlying30 rfl (by rw [show zcc.size = 5 from rfl]; exact ct_info)) rfl (KPost.of ⟨none, none, 0, 0, by rw [e2.out, e1.out]; rfl, by rw [e2.out]; exact ⟨Rd.nil _ _, Rd.nil _ _⟩, LB.out, (fun a e => by cases e), (fun a e => by cases e)⟩ HPP.out)
end Go.Proofs.YtmodikcghlbigaaDoor

namespace Go.Proofs.YtmodikcghlbigaaDoor
open Go.RowKit

/-- While it goes: the result's place, the header's, what is left. -/
structure PsK (W : World) (C : Array Value) (s : List UInt8) (e : Int) (w : World) : Prop where
  m : Below W.heap.size W w
  rs : ∃ Z : Array Value, Z.size = 5 ∧ w.heap[W.heap.size]? = some (.cells Z 25 (0, 0))
  bx : w.heap[W.heap.size + 1]? = some (.cells C 25 (0, 0))
  tk : w.heap[W.heap.size + 2]? = some (.cells (tkc s e) 77 (0, 0))
theorem PsK.grow {W w w' : World} {C : Array Value} {s : List UInt8} {e : Int} (h : PsK W C s e w) (hb : Below w.heap.size w w') : PsK W C s e w' := by
  obtain ⟨Z, hz, hZ⟩ := h.rs
  exact ⟨h.m.trans (hb.mono h.m.size), ⟨Z, hz, (hb.block _ (Array.getElem?_eq_some_iff.1 hZ).1).trans hZ⟩, (hb.block _ (Array.getElem?_eq_some_iff.1 h.bx).1).trans h.bx, (hb.block _ (Array.getElem?_eq_some_iff.1 h.tk).1).trans h.tk⟩
theorem PsK.kept {W w w' : World} {C : Array Value} {s : List UInt8} {e : Int} {S : Nat → Prop} (h : PsK W C s e w) (hm : Mod S w w') (hS : ∀ i, S i → W.heap.size + 2 < i) : PsK W C s e w' := by
  obtain ⟨Z, hz, hZ⟩ := h.rs
  exact ⟨h.m.trans (hm.to_below h.m.size (fun i hi e => by have := hS i e; omega)), ⟨Z, hz, (hm.block _ (Array.getElem?_eq_some_iff.1 hZ).1 (fun e => by have := hS _ e; omega)).trans hZ⟩, (hm.block _ (Array.getElem?_eq_some_iff.1 h.bx).1 (fun e => by have := hS _ e; omega)).trans h.bx, (hm.block _ (Array.getElem?_eq_some_iff.1 h.tk).1 (fun e => by have := hS _ e; omega)).trans h.tk⟩
theorem PsK.put {W w : World} {C : Array Value} {s : List UInt8} {e : Int} (h : PsK W C s e w) (k : Nat) (v : Value) : PsK W (C.setIfInBounds k v) s e (w.setCell ⟨W.heap.size + 1, k, none⟩ v) := by
  obtain ⟨Z, hz, hZ⟩ := h.rs
  refine ⟨h.m.trans (((Mod.refl (· = W.heap.size + 1) w).setCell (p := ⟨W.heap.size + 1, k, none⟩) (fun _ => rfl) v).to_below h.m.size (by intro i hi e; omega)), ⟨Z, hz, ?_⟩, heap_setCell_same w _ k C 25 v h.bx, ?_⟩
  · rw [Below.heap_setCell _ _ _ _ (by simp only; omega)]; exact hZ
  · rw [Below.heap_setCell _ _ _ _ (by simp only; omega)]; exact h.tk
theorem PsK.left {W w : World} {C : Array Value} {s : List UInt8} {e : Int} (h : PsK W C s e w) (s' : List UInt8) (e' : Int) : PsK W C s' e' (w.setRow (W.heap.size + 2) (tkc s' e')) := by
  obtain ⟨Z, hz, hZ⟩ := h.rs
  exact ⟨h.m.trans (((Mod.refl (fun _ => False) w).setRow (g := W.heap.size + 2) _).to_below h.m.size (by rintro i hi (e | e) <;> first | exact e | omega)), ⟨Z, hz, (setRow_other w _ _ _ (by omega)).trans hZ⟩, (setRow_other w _ _ _ (by omega)).trans h.bx, setRow_heap _ _ _ _ _ _ h.tk⟩
theorem PsK.cell {W w : World} {C : Array Value} {s : List UInt8} {e : Int} (h : PsK W C s e w) (k : Nat) : w.cell? ⟨W.heap.size + 1, k, none⟩ = C[k]? := cell_of_row w _ k C 25 (0, 0) h.bx
theorem PsK.froz {W w : World} {C : Array Value} {s : List UInt8} {e : Int} (h : PsK W C s e w) (k : Nat) : w.frozen? ⟨W.heap.size + 1, k, none⟩ = false := frozen_of_row w _ k C 25 h.bx
/-- What is taken, as a call. -/
def NumC (s : List UInt8) (e m : Int) (x : Value) (s' : List UInt8) (e' : Int) : Prop := ∀ w, Calls Tryd.prog 39 #[.agg (tkc s e), .int .i64 m] w fun r w' => r = .returned (.tuple #[.agg (tkc s' e'), x]) ∧ Below w.heap.size w w'
def RawC (s : List UInt8) (e n : Int) (x : Value) (s' : List UInt8) (e' : Int) : Prop := ∀ w, Calls Tryd.prog 40 #[.agg (tkc s e), .int .i64 n] w fun r w' => r = .returned (.tuple #[.agg (tkc s' e'), x]) ∧ Below w.heap.size w w'
theorem numC (s : List UInt8) (e m : Int) (hl : s.length ≤ 1099511627776) (h : e ≠ 0 → s = []) : NumC s e m (.int .i64 (numS s e m).1) (numS s e m).2.1 (numS s e m).2.2 := fun w => rtn_any s e m w hl h
theorem rawC (s : List UInt8) (e : Int) (n : Nat) (hl : s.length ≤ 1099511627776) (h : e ≠ 0 → s = []) : RawC s e n (.string ⟨(rawS s e n).1.toArray⟩) (rawS s e n).2.1 (rawS s e n).2.2 := fun w => rtr_any s e n w hl h


/-- The two lists while entries are taken: signers at p, entries at q; N parts their blocks. -/
structure Ls (W : World) (N : Nat) (p : Option Addr) (cp : Nat) (S : List Int) (q : Option Addr) (c : Nat) (D : List (Int × Int)) (w : World) : Prop where
  r1 : Rw encI 3 w p cp S
  r2 : Rw encP 75 w q c D
  fp : ∀ a, p = some a → W.heap.size + 2 < a.block ∧ a.block < N
  fq : ∀ a, q = some a → N ≤ a.block
  lo : W.heap.size + 2 < N
theorem Ls.kept {W : World} {N : Nat} {p : Option Addr} {cp : Nat} {S : List Int} {q : Option Addr} {c : Nat} {D : List (Int × Int)} {w w' : World} (h : Ls W N p cp S q c D w) {X : Nat → Prop} (hm : Mod X w w') (hX : ∀ i, X i → i ≤ W.heap.size + 2 ∨ ∀ a, (p = some a ∨ q = some a) → a.block ≠ i) : Ls W N p cp S q c D w' :=
  ⟨h.r1.kept hm (fun a e hx => by rcases hX _ hx with h1 | h1; (have := h.fp a e; omega); exact h1 a (.inl e) rfl), h.r2.kept hm (fun a e hx => by rcases hX _ hx with h1 | h1; (have := h.fq a e; have := h.lo; omega); exact h1 a (.inr e) rfl), h.fp, h.fq, h.lo⟩
theorem Ls.grow {W : World} {N : Nat} {p : Option Addr} {cp : Nat} {S : List Int} {q : Option Addr} {c : Nat} {D : List (Int × Int)} {w w' : World} (h : Ls W N p cp S q c D w) (hb : Below w.heap.size w w') : Ls W N p cp S q c D w' :=
  ⟨h.r1.old hb, h.r2.old hb, h.fp, h.fq, h.lo⟩
theorem Ls.push {W : World} {N : Nat} {p : Option Addr} {cp : Nat} {S : List Int} {q : Option Addr} {c : Nat} {D B : List (Int × Int)} {w w' : World} (h : Ls W N p cp S q c D w) (hN : N ≤ w.heap.size) {q' : Option Addr} {c' : Nat} (hP : PushR encP 75 w q B q' c' w') : Ls W N p cp S q' c' B w' := by
  obtain ⟨hR, hM, hor⟩ := hP
  refine ⟨h.r1.kept hM (fun a e hx => ?_), hR, h.fp, fun a e => ?_, h.lo⟩
  · obtain ⟨x, ex, hx⟩ := hx
    have h1 := h.fp a e
    have h2 := h.fq x ex
    omega
  · rcases hor a e with h1 | h1
    · exact h.fq a h1
    · omega
theorem PsK.pushQ {W w w' : World} {C : Array Value} {s : List UInt8} {e : Int} (h : PsK W C s e w) {N : Nat} (hlo : W.heap.size + 2 < N) {q : Option Addr} (hf : ∀ a, q = some a → N ≤ a.block) (hM : Mod (fun i => ∃ a, q = some a ∧ i = a.block) w w') : PsK W C s e w' :=
  h.kept hM (by rintro i ⟨a, e, rfl⟩; have := hf a e; omega)
/-- What the reference's Parse answers. -/
def RKPost (c : Ct) (e : Int) (w : World) (r : Ending) (w' : World) : Prop := ∃ p q cp cq, r = .returned (.tuple #[.agg (ctc c p q cp cq), .int .i64 e]) ∧ CtAt w' c p q ∧ Below w.heap.size w w'
theorem RKPost.of {c : Ct} {e : Int} {w w' : World} {r : Ending} (h : RKPost c e w r w') {P : Ending → World → Prop} (hP : P = RKPost c e w) : P r w' := by rw [hP]; exact h
end Go.Proofs.YtmodikcghlbigaaDoor

namespace Go.Proofs.YtmodikcghlbigaaDoor
open Go.RowKit

set_option maxRecDepth 20000 in
set_option maxHeartbeats 16000000 in
theorem rparse_any (s : List UInt8) (w : World) (hl : s.length ≤ 1000000) :
    Calls Tryd.prog 18 #[.string ⟨s.toArray⟩] w (RKPost (parC s) (parE s) w) := by
  have hfw := takeC_few s
  have hshort := takeC_lens s (by omega)
  have i0 : (0 : Int) ≠ 0 → s = [] := fun h => absurd rfl h
  obtain ⟨⟨x1, s1, e1⟩, h1⟩ : ∃ p, p = numS s 0 4611686018427387904 := ⟨_, rfl⟩
  have l1 : s1.length ≤ s.length := by have := numS_len s 0 4611686018427387904; rw [← h1] at this; exact this
  have i1 : e1 ≠ 0 → s1 = [] := by have := numS_inv s 0 4611686018427387904 i0; rw [← h1] at this; exact this
  have N1 : Hid (NumC s 0 4611686018427387904 (.int .i64 x1) s1 e1) := Lib.hid (by have := numC s 0 4611686018427387904 (by omega) i0; rw [← h1] at this; exact this)
  obtain ⟨⟨x2, s2, e2⟩, h2⟩ : ∃ p, p = numS s1 e1 160 := ⟨_, rfl⟩
  have l2 : s2.length ≤ s1.length := by have := numS_len s1 e1 160; rw [← h2] at this; exact this
  have i2 : e2 ≠ 0 → s2 = [] := by have := numS_inv s1 e1 160 i1; rw [← h2] at this; exact this
  have lo2 := numS_lo s1 e1 160
  rw [← h2] at lo2
  have hi2 := numS_hi s1 e1 160 (by decide)
  rw [← h2] at hi2
  obtain ⟨n2, rfl⟩ : ∃ n : Nat, x2 = n := ⟨x2.toNat, by simp only at lo2; omega⟩
  have N2 : Hid (NumC s1 e1 160 (.int .i64 (n2 : Int)) s2 e2) := Lib.hid (by have := numC s1 e1 160 (by omega) i1; rw [← h2] at this; exact this)
  obtain ⟨⟨x3, s3, e3⟩, h3⟩ : ∃ p, p = rawS s2 e2 (n2 : Int) := ⟨_, rfl⟩
  have l3 : s3.length ≤ s2.length := by have := rawS_len s2 e2 (n2 : Int); rw [← h3] at this; exact this
  have i3 : e3 ≠ 0 → s3 = [] := by have := rawS_inv s2 e2 (n2 : Int) i2; rw [← h3] at this; exact this
  have N3 : Hid (RawC s2 e2 n2 (.string ⟨x3.toArray⟩) s3 e3) := Lib.hid (by have := rawC s2 e2 n2 (by omega) i2; rw [← h3] at this; exact this)
  obtain ⟨⟨x4, s4, e4⟩, h4⟩ : ∃ p, p = numS s3 e3 160 := ⟨_, rfl⟩
  have l4 : s4.length ≤ s3.length := by have := numS_len s3 e3 160; rw [← h4] at this; exact this
  have i4 : e4 ≠ 0 → s4 = [] := by have := numS_inv s3 e3 160 i3; rw [← h4] at this; exact this
  have lo4 := numS_lo s3 e3 160
  rw [← h4] at lo4
  have hi4 := numS_hi s3 e3 160 (by decide)
  rw [← h4] at hi4
  obtain ⟨n4, rfl⟩ : ∃ n : Nat, x4 = n := ⟨x4.toNat, by simp only at lo4; omega⟩
  have N4 : Hid (NumC s3 e3 160 (.int .i64 (n4 : Int)) s4 e4) := Lib.hid (by have := numC s3 e3 160 (by omega) i3; rw [← h4] at this; exact this)
  obtain ⟨⟨x5, s5, e5⟩, h5⟩ : ∃ p, p = rawS s4 e4 (n4 : Int) := ⟨_, rfl⟩
  have l5 : s5.length ≤ s4.length := by have := rawS_len s4 e4 (n4 : Int); rw [← h5] at this; exact this
  have i5 : e5 ≠ 0 → s5 = [] := by have := rawS_inv s4 e4 (n4 : Int) i4; rw [← h5] at this; exact this
  have N5 : Hid (RawC s4 e4 n4 (.string ⟨x5.toArray⟩) s5 e5) := Lib.hid (by have := rawC s4 e4 n4 (by omega) i4; rw [← h5] at this; exact this)
  obtain ⟨⟨x6, s6, e6⟩, h6⟩ : ∃ p, p = numS s5 e5 64 := ⟨_, rfl⟩
  have l6 : s6.length ≤ s5.length := by have := numS_len s5 e5 64; rw [← h6] at this; exact this
  have i6 : e6 ≠ 0 → s6 = [] := by have := numS_inv s5 e5 64 i5; rw [← h6] at this; exact this
  have lo6 := numS_lo s5 e5 64
  rw [← h6] at lo6
  have hi6 := numS_hi s5 e5 64 (by decide)
  rw [← h6] at hi6
  obtain ⟨n6, rfl⟩ : ∃ n : Nat, x6 = n := ⟨x6.toNat, by simp only at lo6; omega⟩
  have N6 : Hid (NumC s5 e5 64 (.int .i64 (n6 : Int)) s6 e6) := Lib.hid (by have := numC s5 e5 64 (by omega) i5; rw [← h6] at this; exact this)
  have hn64 : n6 ≤ 64 := by simp only at hi6; omega
  have hnl := intS_short n6 s6 e6
  have hni := intS_inv n6 s6 e6 i6
  obtain ⟨⟨x7, s7, e7⟩, h7⟩ : ∃ p, p = numS (intS n6 s6 e6).2.1 (intS n6 s6 e6).2.2 64 := ⟨_, rfl⟩
  have l7 : s7.length ≤ s6.length := by have := numS_len (intS n6 s6 e6).2.1 (intS n6 s6 e6).2.2 64; rw [← h7] at this; exact Nat.le_trans this hnl
  have i7 : e7 ≠ 0 → s7 = [] := by have := numS_inv (intS n6 s6 e6).2.1 (intS n6 s6 e6).2.2 64 hni; rw [← h7] at this; exact this
  have lo7 := numS_lo (intS n6 s6 e6).2.1 (intS n6 s6 e6).2.2 64
  rw [← h7] at lo7
  have hi7 := numS_hi (intS n6 s6 e6).2.1 (intS n6 s6 e6).2.2 64 (by decide)
  rw [← h7] at hi7
  obtain ⟨m, rfl⟩ : ∃ n : Nat, x7 = n := ⟨x7.toNat, by simp only at lo7; omega⟩
  have hm64 : m ≤ 64 := by simp only at hi7; omega
  have N7 : Hid (NumC (intS n6 s6 e6).2.1 (intS n6 s6 e6).2.2 64 (.int .i64 (m : Int)) s7 e7) := Lib.hid (by have := numC (intS n6 s6 e6).2.1 (intS n6 s6 e6).2.2 64 (by omega) hni; rw [← h7] at this; exact this)
  have hT : takeC s = (⟨x1, x3, x5, (intS n6 s6 e6).1, (prS m s7 e7).1⟩, (prS m s7 e7).2) := by
    have ht1 : textS s1 e1 160 = (x3, s3, e3) := by
      unfold textS
      rw [show max (160 : Int) 0 = 160 from rfl, ← h2]
      simp only
      rw [← h3]
    have ht2 : textS s3 e3 160 = (x5, s5, e5) := by
      unfold textS
      rw [show max (160 : Int) 0 = 160 from rfl, ← h4]
      simp only
      rw [← h5]
    simp only [takeC, ← h1, ht1, ht2, ← h6, Int.toNat_natCast, ← h7]
  obtain ⟨H, hH⟩ : ∃ H : Ct, H = ⟨x1, x3, x5, (intS n6 s6 e6).1, (prS m s7 e7).1⟩ := ⟨_, rfl⟩
  have HH0 := Lib.hid hH
  rw [← hH] at hT
  rw [hT] at hfw hshort
  simp only at hfw hshort
  obtain ⟨E1, hE1⟩ : ∃ E1 : Int, E1 = ck H := ⟨_, rfl⟩
  obtain ⟨EE, hEE⟩ : ∃ EE, EE = parE s := ⟨_, rfl⟩
  obtain ⟨HH, hHH⟩ : ∃ HH, HH = parC s := ⟨_, rfl⟩
  rw [← hEE, ← hHH]
  have HHH : Hid (HH = if EE = 0 then H else zct) := Lib.hid (by rw [hHH, hEE]; unfold parC; rw [hT])
  have HEE : Hid (EE = if (prS m s7 e7).2.2 = 0 then (if (prS m s7 e7).2.1 = [] then E1 else 3) else (prS m s7 e7).2.2) := Lib.hid (by rw [hEE]; unfold parE; rw [hT, hE1])
  have HC : Hid (∀ p q cp cq w, CtAt w H p q → Calls Tryd.prog 10 #[.agg (ctc H p q cp cq)] w fun r w' => r = .returned (.int .i64 E1) ∧ Below w.heap.size w w') := Lib.hid (fun p q cp cq w h => by rw [hE1]; exact rcheck_any H p q cp cq w h (by omega) (by omega) hshort.1 hshort.2)
  have L6 : Hid (s6.length ≤ 1000000000) := Lib.hid (by omega)
  have I6 := Lib.hid i6
  have L7 : Hid (s7.length ≤ 1000000000) := Lib.hid (by omega)
  have I7 := Lib.hid i7
  obtain ⟨PP, hPP⟩ : ∃ P, P = RKPost HH EE w := ⟨_, rfl⟩
  rw [← hPP]
  have HPP := Lib.hid hPP
  obtain ⟨W0, hW0⟩ : ∃ W0, W0 = ((w.alloc (.cells #[.int .i64 0, .string ⟨#[]⟩, .string ⟨#[]⟩, .slice none 0 0, .slice none 0 0] 25)).alloc (.cells #[.int .i64 0, .string ⟨#[]⟩, .string ⟨#[]⟩, .slice none 0 0, .slice none 0 0] 25)).alloc (.cells #[.string ⟨s.toArray⟩, .int .i64 0] 77) := ⟨_, rfl⟩
  have S0 : PsK w #[.int .i64 0, .string ⟨#[]⟩, .string ⟨#[]⟩, .slice none 0 0, .slice none 0 0] s 0 W0 := by
    have a1 := heap_alloc_new w (.cells #[.int .i64 0, .string ⟨#[]⟩, .string ⟨#[]⟩, .slice none 0 0, .slice none 0 0] 25)
    have a2 := heap_alloc_new (w.alloc (.cells #[.int .i64 0, .string ⟨#[]⟩, .string ⟨#[]⟩, .slice none 0 0, .slice none 0 0] 25)) (.cells #[.int .i64 0, .string ⟨#[]⟩, .string ⟨#[]⟩, .slice none 0 0, .slice none 0 0] 25)
    have a3 := heap_alloc_new ((w.alloc (.cells #[.int .i64 0, .string ⟨#[]⟩, .string ⟨#[]⟩, .slice none 0 0, .slice none 0 0] 25)).alloc (.cells #[.int .i64 0, .string ⟨#[]⟩, .string ⟨#[]⟩, .slice none 0 0, .slice none 0 0] 25)) (.cells #[.string ⟨s.toArray⟩, .int .i64 0] 77)
    rw [hW0]
    refine ⟨(((Below.refl _ w).alloc (Nat.le_refl _) _).alloc (by simp) _).alloc (by simp; omega) _, ⟨#[.int .i64 0, .string ⟨#[]⟩, .string ⟨#[]⟩, .slice none 0 0, .slice none 0 0], rfl, ?_⟩, ?_, ?_⟩
    · rw [Below.heap_alloc _ _ _ (by simp; omega), Below.heap_alloc _ _ _ (by simp)]; exact a1
    · rw [Below.heap_alloc _ _ _ (by simp)]; simpa using a2
    · simpa [tkc] using a3
  have HW0 := Lib.hid hW0
  clear h1 h2 h3 h4 h5 h6 h7 hH hT hE1 hEE hHH l1 l2 l3 l4 l5 l6 l7 i0 i1 i2 i3 i4 i5 i6 i7 lo2 hi2 lo4 hi4 lo6 hi6 lo7 hi7 hnl hni hl hW0 hfw hshort hPP
  go_enter Tryd.func18, Tryd.ntmps18
  have tk0 : W0.heap[w.heap.size + 2]? = some (.cells (tkc s 0) 77 (0, 0)) := S0.tk
  go_wp2_with (rw [← HW0.out]; refine wpList_load_row rfl 77 (.tmp 5) rfl (w.heap.size + 2) rfl 77 (tkc s 0) (0, 0) _ tk0 Tryd.underlying77 rfl tkinfo ?_)
  clear tk0
  refine (N1.out W0).mono ?_
  rintro r w1 ⟨rfl, hb⟩
  have st1 := S0.grow hb
  obtain ⟨W1, hW⟩ : ∃ W, W = w1.setRow (w.heap.size + 2) (tkc s1 e1) := ⟨_, rfl⟩
  have st2 : PsK w #[.int .i64 0, .string ⟨#[]⟩, .string ⟨#[]⟩, .slice none 0 0, .slice none 0 0] s1 e1 W1 := by rw [hW]; exact st1.left s1 e1
  have htk := st1.tk
  have q4 := tkc_one s1 e1
  have HW := Lib.hid hW
  clear hb hW st1 S0 N1
  have c0 : W1.cell? ⟨w.heap.size + 1, 0, none⟩ = some (.int .i64 0) := st2.cell 0
  have f0 := st2.froz 0
  have S1 : PsK w #[.int .i64 x1, .string ⟨#[]⟩, .string ⟨#[]⟩, .slice none 0 0, .slice none 0 0] s1 e1 (W1.setCell ⟨w.heap.size + 1, 0, none⟩ (.int .i64 x1)) := st2.put 0 _
  have tk2 : (W1.setCell ⟨w.heap.size + 1, 0, none⟩ (.int .i64 x1)).heap[w.heap.size + 2]? = some (.cells (tkc s1 e1) 77 (0, 0)) := S1.tk
  clear st2
  go_wp2_with (first | (refine wpList_store_row rfl rfl 77 (.tmp 5) (.tmp 18) rfl (w.heap.size + 2) rfl 77 _ (tkc s1 e1) rfl htk rfl tkinfo q4 ?_; rw [← HW.out]) | (refine wpList_load_row rfl 77 (.tmp 5) rfl (w.heap.size + 2) rfl 77 (tkc s1 e1) (0, 0) _ tk2 Tryd.underlying77 rfl tkinfo ?_))
  generalize W1.setCell ⟨w.heap.size + 1, 0, none⟩ (.int .i64 x1) = V1 at S1 tk2 ⊢
  clear c0 f0 tk2 htk q4 HW
  refine (N2.out V1).mono ?_
  rintro r w2 ⟨rfl, hb⟩
  have st1 := S1.grow hb
  obtain ⟨W2, hW⟩ : ∃ W, W = w2.setRow (w.heap.size + 2) (tkc s2 e2) := ⟨_, rfl⟩
  have st2 : PsK w #[.int .i64 x1, .string ⟨#[]⟩, .string ⟨#[]⟩, .slice none 0 0, .slice none 0 0] s2 e2 W2 := by rw [hW]; exact st1.left s2 e2
  have htk := st1.tk
  have q4 := tkc_one s2 e2
  have HW := Lib.hid hW
  clear hb hW st1 S1 N2
  have S2 := st2
  have tk2 : W2.heap[w.heap.size + 2]? = some (.cells (tkc s2 e2) 77 (0, 0)) := S2.tk
  go_wp2_with (first | (refine wpList_store_row rfl rfl 77 (.tmp 5) (.tmp 24) rfl (w.heap.size + 2) rfl 77 _ (tkc s2 e2) rfl htk rfl tkinfo q4 ?_; rw [← HW.out]) | (refine wpList_load_row rfl 77 (.tmp 5) rfl (w.heap.size + 2) rfl 77 (tkc s2 e2) (0, 0) _ tk2 Tryd.underlying77 rfl tkinfo ?_))
  clear tk2 htk q4 HW
  refine (N3.out W2).mono ?_
  rintro r w3 ⟨rfl, hb⟩
  have st1 := S2.grow hb
  obtain ⟨W3, hW⟩ : ∃ W, W = w3.setRow (w.heap.size + 2) (tkc s3 e3) := ⟨_, rfl⟩
  have st2 : PsK w #[.int .i64 x1, .string ⟨#[]⟩, .string ⟨#[]⟩, .slice none 0 0, .slice none 0 0] s3 e3 W3 := by rw [hW]; exact st1.left s3 e3
  have htk := st1.tk
  have q4 := tkc_one s3 e3
  have HW := Lib.hid hW
  clear hb hW st1 S2 N3
  have c0 : W3.cell? ⟨w.heap.size + 1, 1, none⟩ = some (.string ⟨#[]⟩) := st2.cell 1
  have f0 := st2.froz 1
  have S3 : PsK w #[.int .i64 x1, .string ⟨x3.toArray⟩, .string ⟨#[]⟩, .slice none 0 0, .slice none 0 0] s3 e3 (W3.setCell ⟨w.heap.size + 1, 1, none⟩ (.string ⟨x3.toArray⟩)) := st2.put 1 _
  have tk2 : (W3.setCell ⟨w.heap.size + 1, 1, none⟩ (.string ⟨x3.toArray⟩)).heap[w.heap.size + 2]? = some (.cells (tkc s3 e3) 77 (0, 0)) := S3.tk
  clear st2
  go_wp2_with (first | (refine wpList_store_row rfl rfl 77 (.tmp 5) (.tmp 30) rfl (w.heap.size + 2) rfl 77 _ (tkc s3 e3) rfl htk rfl tkinfo q4 ?_; rw [← HW.out]) | (refine wpList_load_row rfl 77 (.tmp 5) rfl (w.heap.size + 2) rfl 77 (tkc s3 e3) (0, 0) _ tk2 Tryd.underlying77 rfl tkinfo ?_))
  generalize W3.setCell ⟨w.heap.size + 1, 1, none⟩ (.string ⟨x3.toArray⟩) = V3 at S3 tk2 ⊢
  clear c0 f0 tk2 htk q4 HW
  refine (N4.out V3).mono ?_
  rintro r w4 ⟨rfl, hb⟩
  have st1 := S3.grow hb
  obtain ⟨W4, hW⟩ : ∃ W, W = w4.setRow (w.heap.size + 2) (tkc s4 e4) := ⟨_, rfl⟩
  have st2 : PsK w #[.int .i64 x1, .string ⟨x3.toArray⟩, .string ⟨#[]⟩, .slice none 0 0, .slice none 0 0] s4 e4 W4 := by rw [hW]; exact st1.left s4 e4
  have htk := st1.tk
  have q4 := tkc_one s4 e4
  have HW := Lib.hid hW
  clear hb hW st1 S3 N4
  have S4 := st2
  have tk2 : W4.heap[w.heap.size + 2]? = some (.cells (tkc s4 e4) 77 (0, 0)) := S4.tk
  go_wp2_with (first | (refine wpList_store_row rfl rfl 77 (.tmp 5) (.tmp 36) rfl (w.heap.size + 2) rfl 77 _ (tkc s4 e4) rfl htk rfl tkinfo q4 ?_; rw [← HW.out]) | (refine wpList_load_row rfl 77 (.tmp 5) rfl (w.heap.size + 2) rfl 77 (tkc s4 e4) (0, 0) _ tk2 Tryd.underlying77 rfl tkinfo ?_))
  clear tk2 htk q4 HW
  refine (N5.out W4).mono ?_
  rintro r w5 ⟨rfl, hb⟩
  have st1 := S4.grow hb
  obtain ⟨W5, hW⟩ : ∃ W, W = w5.setRow (w.heap.size + 2) (tkc s5 e5) := ⟨_, rfl⟩
  have st2 : PsK w #[.int .i64 x1, .string ⟨x3.toArray⟩, .string ⟨#[]⟩, .slice none 0 0, .slice none 0 0] s5 e5 W5 := by rw [hW]; exact st1.left s5 e5
  have htk := st1.tk
  have q4 := tkc_one s5 e5
  have HW := Lib.hid hW
  clear hb hW st1 S4 N5
  have c0 : W5.cell? ⟨w.heap.size + 1, 2, none⟩ = some (.string ⟨#[]⟩) := st2.cell 2
  have f0 := st2.froz 2
  have S5 : PsK w #[.int .i64 x1, .string ⟨x3.toArray⟩, .string ⟨x5.toArray⟩, .slice none 0 0, .slice none 0 0] s5 e5 (W5.setCell ⟨w.heap.size + 1, 2, none⟩ (.string ⟨x5.toArray⟩)) := st2.put 2 _
  have tk2 : (W5.setCell ⟨w.heap.size + 1, 2, none⟩ (.string ⟨x5.toArray⟩)).heap[w.heap.size + 2]? = some (.cells (tkc s5 e5) 77 (0, 0)) := S5.tk
  clear st2
  go_wp2_with (first | (refine wpList_store_row rfl rfl 77 (.tmp 5) (.tmp 42) rfl (w.heap.size + 2) rfl 77 _ (tkc s5 e5) rfl htk rfl tkinfo q4 ?_; rw [← HW.out]) | (refine wpList_load_row rfl 77 (.tmp 5) rfl (w.heap.size + 2) rfl 77 (tkc s5 e5) (0, 0) _ tk2 Tryd.underlying77 rfl tkinfo ?_))
  generalize W5.setCell ⟨w.heap.size + 1, 2, none⟩ (.string ⟨x5.toArray⟩) = V5 at S5 tk2 ⊢
  clear c0 f0 tk2 htk q4 HW
  refine (N6.out V5).mono ?_
  rintro r w6 ⟨rfl, hb⟩
  have st1 := S5.grow hb
  obtain ⟨W6, hW⟩ : ∃ W, W = w6.setRow (w.heap.size + 2) (tkc s6 e6) := ⟨_, rfl⟩
  have st2 : PsK w #[.int .i64 x1, .string ⟨x3.toArray⟩, .string ⟨x5.toArray⟩, .slice none 0 0, .slice none 0 0] s6 e6 W6 := by rw [hW]; exact st1.left s6 e6
  have htk := st1.tk
  have q4 := tkc_one s6 e6
  have HW := Lib.hid hW
  clear hb hW st1 S5 N6
  have S6 := st2
  have tk2 : W6.heap[w.heap.size + 2]? = some (.cells (tkc s6 e6) 77 (0, 0)) := S6.tk
  go_wp2_with (refine wpList_store_row rfl rfl 77 (.tmp 5) (.tmp 48) rfl (w.heap.size + 2) rfl 77 _ (tkc s6 e6) rfl htk rfl tkinfo q4 ?_; rw [← HW.out])
  clear tk2 htk q4 HW
  have SS : Hid (PsK w #[.int .i64 x1, .string ⟨x3.toArray⟩, .string ⟨x5.toArray⟩, .slice none 0 0, .slice none 0 0] s6 e6 W6) := Lib.hid S6
  clear S6
  go_loopw [7] (fun s7' wr => ∃ (k : Nat) (q : Option Addr) (c : Nat), k ≤ n6 ∧ s7' = .int .i64 (k : Int) ∧ Hid (PsK w #[.int .i64 x1, .string ⟨x3.toArray⟩, .string ⟨x5.toArray⟩, .slice q k c, .slice none 0 0] (intS k s6 e6).2.1 (intS k s6 e6).2.2 wr ∧ Rw encI 3 wr q c (intS k s6 e6).1 ∧ ∀ a, q = some a → w.heap.size + 2 < a.block)) (fun i _ => n6 - (intOf i).toNat)
  case atStart => exact ⟨0, none, 0, Nat.zero_le _, rfl, Lib.hid ⟨SS.out, Rw.empty _ _, fun a e => by cases e⟩⟩
  case round =>
    clear SS
    obtain ⟨k, q, c, hk, rfl, hst⟩ := hrel
    by_cases hlt : k < n6
    · obtain ⟨st0, rw0, fr0⟩ := hst.out
      clear hst
      have hsk : (intS k s6 e6).2.1.length ≤ 1000000000 := Nat.le_trans (intS_short k s6 e6) L6.out
      have hik := intS_inv k s6 e6 I6.out
      have hDl := intS_len k s6 e6
      have Hnx : Hid (intS (k + 1) s6 e6 = ((intS k s6 e6).1 ++ [(numS (intS k s6 e6).2.1 (intS k s6 e6).2.2 4611686018427387904).1], (numS (intS k s6 e6).2.1 (intS k s6 e6).2.2 4611686018427387904).2)) := Lib.hid rfl
      generalize intS k s6 e6 = P at st0 rw0 hsk hik hDl Hnx
      obtain ⟨D, sk, ek⟩ := P
      simp only at st0 rw0 hsk hik hDl
      obtain ⟨⟨y, sk', ek'⟩, hrk⟩ : ∃ p, p = numS sk ek 4611686018427387904 := ⟨_, rfl⟩
      have hraw : Hid (NumC sk ek 4611686018427387904 (.int .i64 y) sk' ek') := Lib.hid (by have := numC sk ek 4611686018427387904 (by omega) hik; rw [← hrk] at this; exact this)
      have Hnx2 : Hid (intS (k + 1) s6 e6 = (D ++ [y], sk', ek')) := Lib.hid (by rw [Hnx.out]; simp only [← hrk])
      have HDl := Lib.hid hDl
      have tk0 := st0.tk
      have S0 := Lib.hid st0
      have R0 := Lib.hid rw0
      have Hfr := Lib.hid fr0
      have k1 : (k : Int) < n6 := by omega
      clear Hnx hrk hsk hik hDl st0 rw0 fr0
      go_wp2_with (refine wpList_load_row rfl 77 (.tmp 5) rfl (w.heap.size + 2) rfl 77 (tkc sk ek) (0, 0) _ tk0 Tryd.underlying77 rfl tkinfo ?_)
      clear tk0
      refine (hraw.out wr).mono ?_
      rintro r w1 ⟨rfl, hb⟩
      have st1 := S0.out.grow hb
      have rw1 := R0.out.old hb
      obtain ⟨W2, hW⟩ : ∃ W, W = w1.setRow (w.heap.size + 2) (tkc sk' ek') := ⟨_, rfl⟩
      have st2 : PsK w #[.int .i64 x1, .string ⟨x3.toArray⟩, .string ⟨x5.toArray⟩, .slice q k c, .slice none 0 0] sk' ek' W2 := by rw [hW]; exact st1.left sk' ek'
      have rw2 : Rw encI 3 W2 q c D := by rw [hW]; exact rw1.kept ((Mod.refl (fun _ => False) w1).setRow (g := w.heap.size + 2) _) (fun a e h => by have := Hfr.out a e; rcases h with h | h; exact h; omega)
      have htk := st1.tk
      have q4 := tkc_one sk' ek'
      have HW := Lib.hid hW
      have c5 : W2.cell? ⟨w.heap.size + 1, 3, none⟩ = some (.slice q k c) := st2.cell 3
      have hb3 : Below W2.heap.size W2 (W2.alloc (.cells #[.int .i64 y] 3)) := (Below.refl _ _).alloc (Nat.le_refl _) _
      have st3 := Lib.hid (st2.grow hb3)
      have rw3 := rw2.old hb3
      have hY : Rd encI (W2.alloc (.cells #[.int .i64 y] 3)) (some ⟨W2.heap.size, 0, none⟩) [y] := Rd.made encI W2 3 [y] (by simp [maxLen])
      clear hb hW st1 rw1 st2 rw2 hb3 S0 R0 hraw
      go_wp2_with (first | (refine wpList_store_row rfl rfl 77 (.tmp 5) (.tmp 58) rfl (w.heap.size + 2) rfl 77 _ (tkc sk' ek') rfl htk rfl tkinfo q4 ?_; rw [← HW.out]) | (at_builtin; refine wpList_pushR encI rfl _ _ 22 3 (.int .i64 0) 8 rfl Tryd.underlying22 info_intk rfl (by decide) q c k D HDl.out rfl rw3 (some ⟨W2.heap.size, 0, none⟩) 1 1 [y] rfl rfl hY (by omega) ?_; intro q' c' W5 hP; have S6 : Hid (PsK w #[.int .i64 x1, .string ⟨x3.toArray⟩, .string ⟨x5.toArray⟩, .slice q k c, .slice none 0 0] sk' ek' W5 ∧ Rw encI 3 W5 q' c' (D ++ [y]) ∧ ∀ a, q' = some a → w.heap.size + 2 < a.block) := Lib.hid (by obtain ⟨hR, hM, hor⟩ := hP; refine ⟨st3.out.kept hM (by rintro i ⟨a, e, rfl⟩; exact Hfr.out a e), hR, fun a e => ?_⟩; rcases hor a e with h1 | h1; exact Hfr.out a h1; have h9 := (Array.getElem?_eq_some_iff.1 st3.out.tk).1; exact Nat.lt_of_lt_of_le h9 h1); have c6 : W5.cell? ⟨w.heap.size + 1, 3, none⟩ = some (.slice q k c) := S6.out.1.cell 3; have f6 := S6.out.1.froz 3; clear hP))
      rename_i hK5
      have S9 : Hid (PsK w #[.int .i64 x1, .string ⟨x3.toArray⟩, .string ⟨x5.toArray⟩, .slice q' (k + 1) c', .slice none 0 0] sk' ek' (W5.setCell ⟨w.heap.size + 1, 3, none⟩ (.slice q' (k + 1) c')) ∧ Rw encI 3 (W5.setCell ⟨w.heap.size + 1, 3, none⟩ (.slice q' (k + 1) c')) q' c' (D ++ [y]) ∧ ∀ a, q' = some a → w.heap.size + 2 < a.block) := Lib.hid (by
        obtain ⟨h1, h2, h3⟩ := S6.out
        exact ⟨h1.put 3 _, h2.kept ((Mod.refl (· = w.heap.size + 1) W5).setCell (p := ⟨w.heap.size + 1, 3, none⟩) (fun _ => rfl) _) (fun a e h => by have := h3 a e; omega), h3⟩)
      go_roundw
      case rel => exact ⟨k + 1, q', c', by omega, by go_num, Lib.hid (by rw [Hnx2.out]; exact S9.out)⟩
      case measure => simp [intOf]; omega
    · have e : k = n6 := by omega
      obtain ⟨st0, rw0, fr0⟩ := hst.out
      clear hst
      have hSl := intS_len k s6 e6
      rw [← e] at N7 HH0
      obtain ⟨P, hP⟩ : ∃ P, P = intS k s6 e6 := ⟨_, rfl⟩
      rw [← hP] at st0 rw0 hSl N7 HH0
      obtain ⟨S, sk, ek⟩ := P
      simp only at st0 rw0 hSl N7 HH0
      have tk0 := st0.tk
      have S0 := Lib.hid st0
      have R0 := Lib.hid rw0
      have Hfr := Lib.hid fr0
      have HSl := Lib.hid hSl
      have k1 : ¬ (k : Int) < n6 := by omega
      clear hP hSl st0 rw0 fr0 e
      go_wp2_with (refine wpList_load_row rfl 77 (.tmp 5) rfl (w.heap.size + 2) rfl 77 (tkc sk ek) (0, 0) _ tk0 Tryd.underlying77 rfl tkinfo ?_)
      clear tk0
      refine (N7.out wr).mono ?_
      rintro r w1 ⟨rfl, hb⟩
      have st1 := S0.out.grow hb
      have rw1 := R0.out.old hb
      obtain ⟨W2, hW⟩ : ∃ W, W = w1.setRow (w.heap.size + 2) (tkc s7 e7) := ⟨_, rfl⟩
      have st2 : PsK w #[.int .i64 x1, .string ⟨x3.toArray⟩, .string ⟨x5.toArray⟩, .slice q k c, .slice none 0 0] s7 e7 W2 := by rw [hW]; exact st1.left s7 e7
      have rw2 : Rw encI 3 W2 q c S := by rw [hW]; exact rw1.kept ((Mod.refl (fun _ => False) w1).setRow (g := w.heap.size + 2) _) (fun a e h => by have := Hfr.out a e; rcases h with h | h; exact h; omega)
      have htk := st1.tk
      have q4 := tkc_one s7 e7
      have HW := Lib.hid hW
      obtain ⟨p, hpe⟩ : ∃ p, p = q := ⟨_, rfl⟩
      obtain ⟨cp, hce⟩ : ∃ p, p = c := ⟨_, rfl⟩
      obtain ⟨n, hne⟩ : ∃ p, p = k := ⟨_, rfl⟩
      have SS : Hid (PsK w #[.int .i64 x1, .string ⟨x3.toArray⟩, .string ⟨x5.toArray⟩, .slice p n cp, .slice none 0 0] s7 e7 W2) := Lib.hid (by rw [hpe, hce, hne]; exact st2)
      obtain ⟨N, hN⟩ : ∃ N, N = W2.heap.size := ⟨_, rfl⟩
      have LL : Hid (Ls w N p cp S none 0 [] W2 ∧ N ≤ W2.heap.size) := Lib.hid ⟨⟨by rw [hpe, hce]; exact rw2, Rw.empty _ _, (fun a e => by rw [hpe] at e; exact ⟨Hfr.out a e, by rw [hN]; subst e; exact rw2.lt⟩), (fun a e => by cases e), by rw [hN]; exact (Array.getElem?_eq_some_iff.1 st2.tk).1⟩, by omega⟩
      rw [← hne] at HSl
      clear hb hW st1 rw1 st2 rw2 S0 R0 Hfr hpe hce hne hN N7
      go_wp2_with (refine wpList_store_row rfl rfl 77 (.tmp 5) (.tmp 69) rfl (w.heap.size + 2) rfl 77 _ (tkc s7 e7) rfl htk rfl tkinfo q4 ?_; rw [← HW.out])
      clear htk q4 HW hk hlt k1
      go_loopw [9] (fun s9' wr => ∃ (k : Nat) (q : Option Addr) (c : Nat), k ≤ m ∧ s9' = .int .i64 (k : Int) ∧ Hid (PsK w #[.int .i64 x1, .string ⟨x3.toArray⟩, .string ⟨x5.toArray⟩, .slice p n cp, .slice q k c] (prS k s7 e7).2.1 (prS k s7 e7).2.2 wr ∧ Ls w N p cp S q c (prS k s7 e7).1 wr ∧ N ≤ wr.heap.size)) (fun i _ => m - (intOf i).toNat)
      case atStart => exact ⟨0, none, 0, Nat.zero_le _, rfl, Lib.hid ⟨SS.out, LL.out⟩⟩
      case round =>
        clear SS LL
        obtain ⟨k, q, c, hk, rfl, hst⟩ := hrel
        by_cases hlt : k < m
        · obtain ⟨st0, ls0, hN0⟩ := hst.out
          clear hst
          have hsk : (prS k s7 e7).2.1.length ≤ 1000000000 := Nat.le_trans (prS_short k s7 e7) L7.out
          have hik := prS_inv k s7 e7 I7.out
          have hDl := prS_len k s7 e7
          have Hnx : Hid (prS (k + 1) s7 e7 = ((prS k s7 e7).1 ++ [((numS (prS k s7 e7).2.1 (prS k s7 e7).2.2 4611686018427387904).1, (numS (numS (prS k s7 e7).2.1 (prS k s7 e7).2.2 4611686018427387904).2.1 (numS (prS k s7 e7).2.1 (prS k s7 e7).2.2 4611686018427387904).2.2 4611686018427387904).1)], (numS (numS (prS k s7 e7).2.1 (prS k s7 e7).2.2 4611686018427387904).2.1 (numS (prS k s7 e7).2.1 (prS k s7 e7).2.2 4611686018427387904).2.2 4611686018427387904).2)) := Lib.hid rfl
          generalize prS k s7 e7 = P at st0 ls0 hsk hik hDl Hnx
          obtain ⟨D, sk, ek⟩ := P
          simp only at st0 ls0 hsk hik hDl
          obtain ⟨⟨y1, sk1, ek1⟩, hr1⟩ : ∃ p, p = numS sk ek 4611686018427387904 := ⟨_, rfl⟩
          have hl1 : sk1.length ≤ 1000000000 := by have := numS_len sk ek 4611686018427387904; rw [← hr1] at this; exact Nat.le_trans this hsk
          have hi1 : ek1 ≠ 0 → sk1 = [] := by have := numS_inv sk ek 4611686018427387904 hik; rw [← hr1] at this; exact this
          have J1 : Hid (NumC sk ek 4611686018427387904 (.int .i64 y1) sk1 ek1) := Lib.hid (by have := numC sk ek 4611686018427387904 (by omega) hik; rw [← hr1] at this; exact this)
          obtain ⟨⟨y2, sk', ek'⟩, hr2⟩ : ∃ p, p = numS sk1 ek1 4611686018427387904 := ⟨_, rfl⟩
          have J2 : Hid (NumC sk1 ek1 4611686018427387904 (.int .i64 y2) sk' ek') := Lib.hid (by have := numC sk1 ek1 4611686018427387904 (by omega) hi1; rw [← hr2] at this; exact this)
          have Hnx2 : Hid (prS (k + 1) s7 e7 = (D ++ [(y1, y2)], sk', ek')) := Lib.hid (by rw [Hnx.out]; simp only [← hr1, ← hr2])
          have HDl := Lib.hid hDl
          have k1 : (k : Int) < m := by omega
          -- the entry's box
          obtain ⟨g, hg⟩ : ∃ g, g = wr.heap.size := ⟨_, rfl⟩
          obtain ⟨WA, hWA⟩ : ∃ W, W = (wr.alloc (.cells #[.int .i64 0, .int .i64 0] 75)).setRow wr.heap.size #[.int .i64 0, .int .i64 0] := ⟨_, rfl⟩
          have hbA : Below wr.heap.size wr WA := by rw [hWA]; exact stored_new wr _ _ _
          have hrA := heap_alloc_new wr (.cells #[.int .i64 0, .int .i64 0] 75)
          have hbx : WA.heap[g]? = some (.cells #[.int .i64 0, .int .i64 0] 75 (0, 0)) := by rw [hWA, hg]; exact setRow_heap _ _ _ _ _ _ hrA
          have stA := Lib.hid (st0.grow hbA)
          have lsA := Lib.hid (ls0.grow hbA)
          have hgq : Hid (∀ a, (p = some a ∨ q = some a) → a.block ≠ g) := Lib.hid (fun a e => by
            rw [hg]
            rcases e with e | e
            · have := ls0.fp a e; omega
            · subst e; have := ls0.r2.lt; omega)
          have hgl : Hid (w.heap.size + 2 < g ∧ N ≤ g ∧ N ≤ WA.heap.size) := Lib.hid ⟨by have := ls0.lo; omega, by omega, by have := hbA.size; omega⟩
          have tkA : WA.heap[w.heap.size + 2]? = some (.cells (tkc sk ek) 77 (0, 0)) := stA.out.tk
          have HWA := Lib.hid hWA
          have HG := Lib.hid hg
          clear Hnx hr1 hr2 hsk hik hDl st0 ls0 hi1 hl1 hbA hWA hg hN0
          go_wp2_with (first | (refine wpList_store_row rfl rfl 75 (.tmp 10) (.tmp 76) rfl wr.heap.size rfl 75 _ #[.int .i64 0, .int .i64 0] rfl hrA rfl (by kernel_rfl) (by intro v hv; simp only [List.mem_cons, List.not_mem_nil, or_false] at hv; rcases hv with rfl | rfl <;> rfl) ?_; rw [← HWA.out, ← HG.out]) | (refine wpList_load_row rfl 77 (.tmp 5) rfl (w.heap.size + 2) rfl 77 (tkc sk ek) (0, 0) _ tkA Tryd.underlying77 rfl tkinfo ?_))
          clear tkA hrA
          refine (J1.out WA).mono ?_
          rintro r w91 ⟨rfl, hb⟩
          have st1 := stA.out.grow hb
          have ls1 := lsA.out.grow hb
          have hb1 := (hb.block g (Array.getElem?_eq_some_iff.1 hbx).1).trans hbx
          have hn1 : N ≤ w91.heap.size := Nat.le_trans hgl.out.2.2 hb.size
          obtain ⟨X91, hW⟩ : ∃ W, W = w91.setRow (w.heap.size + 2) (tkc sk1 ek1) := ⟨_, rfl⟩
          have st2 : PsK w #[.int .i64 x1, .string ⟨x3.toArray⟩, .string ⟨x5.toArray⟩, .slice p n cp, .slice q k c] sk1 ek1 X91 := by rw [hW]; exact st1.left sk1 ek1
          have ls2 : Ls w N p cp S q c D X91 := by rw [hW]; exact ls1.kept ((Mod.refl (fun _ => False) w91).setRow (g := w.heap.size + 2) _) (fun i h => by rcases h with h | h; exact h.elim; exact .inl (by omega))
          have hb2 : X91.heap[g]? = some (.cells #[.int .i64 0, .int .i64 0] 75 (0, 0)) := by rw [hW, setRow_other _ _ _ _ (by have := hgl.out.1; omega)]; exact hb1
          have hn2 : N ≤ X91.heap.size := by rw [hW]; simpa using hn1
          have htk := st1.tk
          have q4 := tkc_one sk1 ek1
          have HW := Lib.hid hW
          have c0 : X91.cell? ⟨g, 0, none⟩ = some (.int .i64 0) := cell_of_row X91 g 0 _ 75 (0, 0) hb2
          have f0 : X91.frozen? ⟨g, 0, none⟩ = false := frozen_of_row X91 g 0 _ 75 hb2
          obtain ⟨Y91, hY⟩ : ∃ W, W = X91.setCell ⟨g, 0, none⟩ (.int .i64 y1) := ⟨_, rfl⟩
          have hm : Mod (· = g) X91 Y91 := by rw [hY]; exact (Mod.refl (· = g) X91).setCell (p := ⟨g, 0, none⟩) (fun _ => rfl) _
          have st3 := Lib.hid (st2.kept hm (by rintro i rfl; exact hgl.out.1))
          have ls3 := Lib.hid (ls2.kept hm (by rintro i rfl; exact .inr hgq.out))
          have hb3 : Y91.heap[g]? = some (.cells #[.int .i64 y1, .int .i64 0] 75 (0, 0)) := by rw [hY]; exact heap_setCell_same X91 g 0 _ 75 _ hb2
          have hn3 : N ≤ Y91.heap.size := by rw [hY]; simpa using hn2
          have HY := Lib.hid hY
          clear hb hW hY st1 ls1 st2 ls2 hb1 hb2 hn1 hn2 hm J1 stA lsA
          have tkB : Y91.heap[w.heap.size + 2]? = some (.cells (tkc sk1 ek1) 77 (0, 0)) := st3.out.tk
          have stB := st3
          have lsB := ls3
          have hbxB := hb3
          have hnB := hn3
          clear st3 ls3 hb3 hn3 hbx
          go_wp2_with (first | (refine wpList_store_row rfl rfl 77 (.tmp 5) (.tmp 80) rfl (w.heap.size + 2) rfl 77 _ (tkc sk1 ek1) rfl htk rfl tkinfo q4 ?_; rw [← HW.out]) | (rw [← HY.out]; refine wpList_load_row rfl 77 (.tmp 5) rfl (w.heap.size + 2) rfl 77 (tkc sk1 ek1) (0, 0) _ tkB Tryd.underlying77 rfl tkinfo ?_))
          clear tkB c0 f0 htk q4 HW HY
          refine (J2.out Y91).mono ?_
          rintro r w92 ⟨rfl, hb⟩
          have st1 := stB.out.grow hb
          have ls1 := lsB.out.grow hb
          have hb1 := (hb.block g (Array.getElem?_eq_some_iff.1 hbxB).1).trans hbxB
          have hn1 : N ≤ w92.heap.size := Nat.le_trans hnB hb.size
          obtain ⟨X92, hW⟩ : ∃ W, W = w92.setRow (w.heap.size + 2) (tkc sk' ek') := ⟨_, rfl⟩
          have st2 : PsK w #[.int .i64 x1, .string ⟨x3.toArray⟩, .string ⟨x5.toArray⟩, .slice p n cp, .slice q k c] sk' ek' X92 := by rw [hW]; exact st1.left sk' ek'
          have ls2 : Ls w N p cp S q c D X92 := by rw [hW]; exact ls1.kept ((Mod.refl (fun _ => False) w92).setRow (g := w.heap.size + 2) _) (fun i h => by rcases h with h | h; exact h.elim; exact .inl (by omega))
          have hb2 : X92.heap[g]? = some (.cells #[.int .i64 y1, .int .i64 0] 75 (0, 0)) := by rw [hW, setRow_other _ _ _ _ (by have := hgl.out.1; omega)]; exact hb1
          have hn2 : N ≤ X92.heap.size := by rw [hW]; simpa using hn1
          have htk := st1.tk
          have q4 := tkc_one sk' ek'
          have HW := Lib.hid hW
          have c0 : X92.cell? ⟨g, 1, none⟩ = some (.int .i64 0) := cell_of_row X92 g 1 _ 75 (0, 0) hb2
          have f0 : X92.frozen? ⟨g, 1, none⟩ = false := frozen_of_row X92 g 1 _ 75 hb2
          obtain ⟨Y92, hY⟩ : ∃ W, W = X92.setCell ⟨g, 1, none⟩ (.int .i64 y2) := ⟨_, rfl⟩
          have hm : Mod (· = g) X92 Y92 := by rw [hY]; exact (Mod.refl (· = g) X92).setCell (p := ⟨g, 1, none⟩) (fun _ => rfl) _
          have st3 := Lib.hid (st2.kept hm (by rintro i rfl; exact hgl.out.1))
          have ls3 := Lib.hid (ls2.kept hm (by rintro i rfl; exact .inr hgq.out))
          have hb3 : Y92.heap[g]? = some (.cells #[.int .i64 y1, .int .i64 y2] 75 (0, 0)) := by rw [hY]; exact heap_setCell_same X92 g 1 _ 75 _ hb2
          have hn3 : N ≤ Y92.heap.size := by rw [hY]; simpa using hn2
          have HY := Lib.hid hY
          clear hb hW hY st1 ls1 st2 ls2 hb1 hb2 hn1 hn2 hm J2 stB lsB
          have c5 : Y92.cell? ⟨w.heap.size + 1, 4, none⟩ = some (.slice q k c) := st3.out.cell 4
          have hb4 : Below Y92.heap.size Y92 (Y92.alloc (.cells #[.int .i64 y1, .int .i64 y2] 75)) := (Below.refl _ _).alloc (Nat.le_refl _) _
          have st4 := Lib.hid (st3.out.grow hb4)
          have ls4 := Lib.hid (ls3.out.grow hb4)
          have rw4 := ls4.out.r2
          have hn4 : Hid (N ≤ (Y92.alloc (.cells #[.int .i64 y1, .int .i64 y2] 75)).heap.size) := Lib.hid (by have := hb4.size; omega)
          have hYY : Rd encP (Y92.alloc (.cells #[.int .i64 y1, .int .i64 y2] 75)) (some ⟨Y92.heap.size, 0, none⟩) [(y1, y2)] := Rd.made encP Y92 75 [(y1, y2)] (by simp [maxLen])
          clear hb4 st3 ls3 hn3 hbxB hnB
          go_upto_region 23 with (refine wpList_store_row rfl rfl 77 (.tmp 5) (.tmp 86) rfl (w.heap.size + 2) rfl 77 _ (tkc sk' ek') rfl htk rfl tkinfo q4 ?_; rw [← HW.out])
          rw [← HY.out]
          clear c0 f0 htk q4 HW HY
          go_wp2_with (first | (refine wpList_load_row rfl 75 (.tmp 10) rfl g rfl 75 #[.int .i64 y1, .int .i64 y2] (0, 0) _ hb3 Tryd.underlying75 rfl (by kernel_rfl) ?_) | (at_builtin; refine wpList_pushR encP rfl _ _ 23 75 (.agg #[.int .i64 0, .int .i64 0]) 16 rfl Tryd.underlying23 info_rentk rfl (by decide) q c k D HDl.out rfl rw4 (some ⟨Y92.heap.size, 0, none⟩) 1 1 [(y1, y2)] rfl rfl hYY (by omega) ?_; intro q' c' W5 hP; have S6 : Hid (PsK w #[.int .i64 x1, .string ⟨x3.toArray⟩, .string ⟨x5.toArray⟩, .slice p n cp, .slice q k c] sk' ek' W5 ∧ Ls w N p cp S q' c' (D ++ [(y1, y2)]) W5 ∧ N ≤ W5.heap.size) := Lib.hid ⟨st4.out.pushQ ls4.out.lo ls4.out.fq hP.2.1, ls4.out.push hn4.out hP, Nat.le_trans hn4.out hP.2.1.size⟩; have c6 : W5.cell? ⟨w.heap.size + 1, 4, none⟩ = some (.slice q k c) := S6.out.1.cell 4; have f6 := S6.out.1.froz 4; clear hP))
          rename_i hK5
          have S9 : Hid (PsK w #[.int .i64 x1, .string ⟨x3.toArray⟩, .string ⟨x5.toArray⟩, .slice p n cp, .slice q' (k + 1) c'] sk' ek' (W5.setCell ⟨w.heap.size + 1, 4, none⟩ (.slice q' (k + 1) c')) ∧ Ls w N p cp S q' c' (D ++ [(y1, y2)]) (W5.setCell ⟨w.heap.size + 1, 4, none⟩ (.slice q' (k + 1) c')) ∧ N ≤ (W5.setCell ⟨w.heap.size + 1, 4, none⟩ (.slice q' (k + 1) c')).heap.size) := Lib.hid (by
            obtain ⟨h1, h2, h3⟩ := S6.out
            exact ⟨h1.put 4 _, h2.kept ((Mod.refl (· = w.heap.size + 1) W5).setCell (p := ⟨w.heap.size + 1, 4, none⟩) (fun _ => rfl) _) (fun i h => .inl (by omega)), by simpa using h3⟩)
          go_roundw
          case rel => exact ⟨k + 1, q', c', by omega, by go_num, Lib.hid (by rw [Hnx2.out]; exact S9.out)⟩
          case measure => simp [intOf]; omega
        · have e : k = m := by omega
          obtain ⟨st0, ls0, hN0⟩ := hst.out
          clear hst
          have hEl := prS_len k s7 e7
          rw [← e] at HEE HH0
          obtain ⟨P, hP⟩ : ∃ P, P = prS k s7 e7 := ⟨_, rfl⟩
          rw [← hP] at st0 ls0 hEl HEE HH0
          obtain ⟨D, s8, e8⟩ := P
          simp only at st0 ls0 hEl HEE HH0
          have k1 : ¬ (k : Int) < m := by omega
          have ce1 : wr.cell? ⟨w.heap.size + 2, 1, none⟩ = some (.int .i64 e8) := cell_of_row wr _ 1 (tkc s8 e8) 77 (0, 0) st0.tk
          have ce0 : wr.cell? ⟨w.heap.size + 2, 0, none⟩ = some (.string ⟨s8.toArray⟩) := cell_of_row wr _ 0 (tkc s8 e8) 77 (0, 0) st0.tk
          have hcf : #[.int .i64 x1, .string ⟨x3.toArray⟩, .string ⟨x5.toArray⟩, .slice p n cp, .slice q k c] = ctc H p q cp c := by rw [HH0.out]; unfold ctc; simp only [HSl.out, hEl]
          have hsg : H.sg = S := by rw [HH0.out]
          have hch : H.ch = D := by rw [HH0.out]
          rw [hcf] at st0
          obtain ⟨Z, hZs, hZ⟩ := st0.rs
          have hBV := st0.m
          have BX := Lib.hid st0.bx
          have HLS := Lib.hid ls0
          have HSG := Lib.hid hsg
          have HCH := Lib.hid hch
          have HBV := Lib.hid hBV
          have HZZ := Lib.hid hZ
          clear hcf hsg hch st0 ls0 HH0 hEl hP hN0 e HSl
          by_cases z8 : e8 = 0
          case neg =>
            have t1 : (e8 == 0) = false := by simp [z8]
            have e1 : EE = e8 := by rw [HEE.out, if_neg z8]
            have E1' := Lib.hid e1
            have E1n : EE ≠ 0 := by rw [e1]; exact z8
            clear e1
            have L0 := Lib.hid (setRow_heap wr w.heap.size Z zcc 25 (0, 0) hZ)
            have LB := Lib.hid (hBV.trans (((Mod.refl (fun _ => False) wr).setRow (g := w.heap.size) zcc).to_below hBV.size (by rintro k hk (h | h) <;> first | exact h | omega)))
            have E2' : Hid (HH = zct) := Lib.hid (by rw [HHH.out, if_neg E1n])
            unfold zcc at L0 LB
            clear hBV E1n z8
            go_wp2_with (refine wpList_store_row rfl rfl 25 (.tmp 2) (.tmp 110) rfl w.heap.size rfl 25 Z #[.int .i64 0, .string ⟨#[]⟩, .string ⟨#[]⟩, .slice none 0 0, .slice none 0 0] rfl hZ hZs rct_info zcc_one ?_)
            exact bodyPost_ret (v := .tuple #[.agg _, .int .i64 e8]) (results_row2 Tryd.results18 _ _ w.heap.size 25 _ (0, 0) _ _ rfl rfl L0.out Tryd.underlying25 rfl rct_info) rfl (RKPost.of ⟨none, none, 0, 0, by rw [E2'.out, E1'.out]; rfl, by rw [E2'.out]; exact ⟨Rd.nil _ _, Rd.nil _ _⟩, LB.out⟩ HPP.out)
          subst z8
          by_cases zs : s8 = []
          case neg =>
            have t1 : (s8 == []) = false := by simp [zs]
            have t2 : s8.isEmpty = false := by simp [zs]
            have e1 : EE = 3 := by rw [HEE.out, if_pos rfl, if_neg zs]
            have E1' := Lib.hid e1
            have E1n : EE ≠ 0 := by rw [e1]; decide
            clear e1
            have L0 := Lib.hid (setRow_heap wr w.heap.size Z zcc 25 (0, 0) hZ)
            have LB := Lib.hid (hBV.trans (((Mod.refl (fun _ => False) wr).setRow (g := w.heap.size) zcc).to_below hBV.size (by rintro k hk (h | h) <;> first | exact h | omega)))
            have E2' : Hid (HH = zct) := Lib.hid (by rw [HHH.out, if_neg E1n])
            unfold zcc at L0 LB
            clear hBV E1n
            go_wp2_with (refine wpList_store_row rfl rfl 25 (.tmp 2) (.tmp 110) rfl w.heap.size rfl 25 Z #[.int .i64 0, .string ⟨#[]⟩, .string ⟨#[]⟩, .slice none 0 0, .slice none 0 0] rfl hZ hZs rct_info zcc_one ?_)
            exact bodyPost_ret (v := .tuple #[.agg _, .int .i64 3]) (results_row2 Tryd.results18 _ _ w.heap.size 25 _ (0, 0) _ _ rfl rfl L0.out Tryd.underlying25 rfl rct_info) rfl (RKPost.of ⟨none, none, 0, 0, by rw [E2'.out, E1'.out]; rfl, by rw [E2'.out]; exact ⟨Rd.nil _ _, Rd.nil _ _⟩, LB.out⟩ HPP.out)
          subst zs
          have HEE2 : Hid (EE = E1) := Lib.hid (by rw [HEE.out, if_pos rfl, if_pos rfl])
          have lbx := BX.out
          have q7 : (Tryd.prog.info? 25).map (·.size) = some (ctc H p q cp c).size := rct_info
          have hck := Lib.hid (HC.out p q cp c wr ⟨by rw [HSG.out]; exact HLS.out.r1.rd, by rw [HCH.out]; exact HLS.out.r2.rd⟩)
          obtain ⟨Y, hY⟩ : ∃ Y, Y = ctc H p q cp c := ⟨_, rfl⟩
          rw [← hY] at lbx q7 hck
          have BX2 : Hid (wr.heap[w.heap.size + 1]? = some (.cells Y 25 (0, 0))) := Lib.hid lbx
          have q4 : ∀ v ∈ Y.toList, v.oneCell' = true := by rw [hY]; exact ctc_one _ _ _ _ _
          have hYs : Y.size = 5 := by rw [hY]; rfl
          have HY := Lib.hid hY
          clear hY hZ hBV
          go_wp2_with (refine wpList_load_row rfl 25 (.tmp 4) rfl (w.heap.size + 1) rfl 25 Y (0, 0) _ lbx Tryd.underlying25 rfl q7 ?_)
          refine hck.out.mono ?_
          rintro r w9 ⟨rfl, hb9⟩
          have hZ := (hb9.block _ (Array.getElem?_eq_some_iff.1 HZZ.out).1).trans HZZ.out
          have hbx := (hb9.block _ (Array.getElem?_eq_some_iff.1 BX2.out).1).trans BX2.out
          have hBV := HBV.out.trans (hb9.mono HBV.out.size)
          have R9 := Lib.hid (HLS.out.grow hb9)
          clear hb9 lbx ce0 ce1 hck
          by_cases z1 : E1 = 0
          case neg =>
            have t1 : (E1 == 0) = false := by simp [z1]
            have E1' := HEE2
            have E1n : EE ≠ 0 := by rw [HEE2.out]; exact z1
            have L0 := Lib.hid (setRow_heap w9 w.heap.size Z zcc 25 (0, 0) hZ)
            have LB := Lib.hid (hBV.trans (((Mod.refl (fun _ => False) w9).setRow (g := w.heap.size) zcc).to_below hBV.size (by rintro k hk (h | h) <;> first | exact h | omega)))
            have E2' : Hid (HH = zct) := Lib.hid (by rw [HHH.out, if_neg E1n])
            unfold zcc at L0 LB
            clear hBV E1n z1 hbx q4 q7
            go_wp2_with (refine wpList_store_row rfl rfl 25 (.tmp 2) (.tmp 110) rfl w.heap.size rfl 25 Z #[.int .i64 0, .string ⟨#[]⟩, .string ⟨#[]⟩, .slice none 0 0, .slice none 0 0] rfl hZ hZs rct_info zcc_one ?_)
            exact bodyPost_ret (v := .tuple #[.agg _, .int .i64 E1]) (results_row2 Tryd.results18 _ _ w.heap.size 25 _ (0, 0) _ _ rfl rfl L0.out Tryd.underlying25 rfl rct_info) rfl (RKPost.of ⟨none, none, 0, 0, by rw [E2'.out, E1'.out]; rfl, by rw [E2'.out]; exact ⟨Rd.nil _ _, Rd.nil _ _⟩, LB.out⟩ HPP.out)
          subst z1
          have e1 : Hid (EE = 0) := HEE2
          have e2 : Hid (HH = H) := Lib.hid (by rw [HHH.out, if_pos e1.out])
          have L0 := Lib.hid (setRow_heap w9 w.heap.size Z Y 25 (0, 0) hZ)
          have LB := Lib.hid (hBV.trans (((Mod.refl (fun _ => False) w9).setRow (g := w.heap.size) Y).to_below hBV.size (by rintro k hk (h | h) <;> first | exact h | omega)))
          have LR := Lib.hid (R9.out.kept ((Mod.refl (fun _ => False) w9).setRow (g := w.heap.size) Y) (fun i h => by rcases h with h | h; exact h.elim; exact .inl (by omega)))
          have hZY : Z.size = Y.size := by rw [hZs, hYs]
          clear hBV
          go_wp2_with (first | (refine wpList_load_row rfl 25 (.tmp 4) rfl (w.heap.size + 1) rfl 25 Y (0, 0) _ hbx Tryd.underlying25 rfl q7 ?_) | (refine wpList_store_row rfl rfl 25 (.tmp 2) (.tmp 112) rfl w.heap.size rfl 25 Z Y rfl hZ hZY q7 q4 ?_))
          exact bodyPost_ret (v := .tuple #[.agg Y, .int .i64 0]) (results_row2 Tryd.results18 _ _ w.heap.size 25 Y (0, 0) _ _ rfl rfl L0.out Tryd.underlying25 rfl q7) rfl (RKPost.of ⟨p, q, cp, c, by rw [e2.out, e1.out, HY.out], by rw [e2.out]; exact ⟨by rw [HSG.out]; exact LR.out.r1.rd, by rw [HCH.out]; exact LR.out.r2.rd⟩, LB.out⟩ HPP.out)
end Go.Proofs.YtmodikcghlbigaaDoor
