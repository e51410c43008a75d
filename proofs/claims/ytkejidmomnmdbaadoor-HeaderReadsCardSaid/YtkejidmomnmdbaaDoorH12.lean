/- Do texts rise? -/
import Derived.Test.YtkejidmomnmdbaaDoorH11
namespace Go.Proofs.YtkejidmomnmdbaaDoor
open Go.RowKit

theorem less_cmp : ∀ a b : List UInt8, Op.bytesLess a b = decide (Lib.compareBytes a b < 0)
  | [], [] => rfl
  | [], _ :: _ => rfl
  | _ :: _, [] => rfl
  | a :: x, b :: y => by
    have ih := less_cmp x y
    unfold Op.bytesLess Lib.compareBytes
    by_cases h1 : a < b
    · simp [h1]
    · by_cases h2 : b < a
      · have : ¬ a = b := by rintro rfl; exact absurd h2 h1
        simp [h1, h2, this]
      · have e : a = b := by
          rw [UInt8.lt_iff_toNat_lt] at h1 h2
          exact UInt8.toNat_inj.1 (by omega)
        subst e
        simp [h1, ih]
theorem binOp_geq_str (t : TypeId) (a b : ByteArray) : binOp .geq t (.string a) (.string b) = pure (.bool !(Op.bytesLess a.toList b.toList)) := by simp [binOp, Op.stringOp]

set_option maxRecDepth 20000 in
set_option maxHeartbeats 4000000 in
theorem rise_any (ao : Option Addr) (cap : Nat) (L : List (List UInt8)) (w : World) (hL : Rd encS w ao L) (hn : L.length ≤ 1000000) :
    Calls Tryd.prog 96 #[.slice ao L.length cap] w fun r w' => r = .returned (.bool (rs L (L.length - 1))) ∧ Below w.heap.size w w' := by
  obtain ⟨n, hnL⟩ : ∃ n, n = L.length := ⟨_, rfl⟩
  rw [← hnL] at hn ⊢
  obtain ⟨RR, hR⟩ : ∃ RR, RR = rs L (n - 1) := ⟨_, rfl⟩
  rw [← hR]
  have HR := Lib.hid hR
  have Hn := Lib.hid hnL
  have HL := Lib.hid hL
  have hB0 := Below.refl w.heap.size w
  clear hnL hL hR
  go_enter Tryd.func96, Tryd.ntmps96
  go_wp2_with fail
  go_loopw [6] (fun s6 wr => ∃ k : Nat, k ≤ n ∧ s6 = .int .i64 (k : Int) ∧ Hid (rs L (k - 1) = true) ∧ Below w.heap.size w wr) (fun i _ => n - (intOf i).toNat)
  case atStart => exact ⟨0, by omega, rfl, Lib.hid rfl, hB0⟩
  case round =>
    clear hB0
    obtain ⟨k, hk, rfl, hrs, hB⟩ := hrel
    by_cases hlt : k < n
    · by_cases hk0 : k = 0
      · subst hk0
        have HB := Lib.hid hB
        clear hB
        go_wp2_with fail
        refine wp_region_puts (fun t v w => VK (match t with
          | 9 => .eq (.int .i64 0)
          | 10 => .eq (Value.bool false)
          | 11 => .eq (Value.bool false)
          | 12 => .eq (undef)
          | 13 => .eq (undef)
          | 14 => .eq (undef)
          | 15 => .eq (undef)
          | 16 => .eq (undef)
          | 17 => .eq (undef)
          | 18 => .eq (undef)
          | 19 => .eq (undef)
          | 20 => .eq (undef)
          | 21 => .eq (undef)
          | 22 => .eq (Value.bool false)
          | _ => .any) v w) (fun w' => Below wr.heap.size wr w') 24 (by kernel_rfl) (by decide +kernel) rfl (Below.refl _ _).drew (by
          refine OweAll.cons (owesK rfl rfl fun a w1 ha hG hV => ?_) ?_
          · skip
            have h3 := ha.outer 3 (by decide +kernel)
            simp only [Act.eval] at h3
            exact ⟨.int .i64 0, w1, wanted_free rfl, by simp [execOp, go_sem, h3], Below.refl _ _, rfl⟩
          refine OweAll.cons (owesK rfl rfl fun a w1 ha hG hV => ?_) ?_
          · skip
            have h9 : a.tmps.getD 9 undef = .int .i64 0 := hV.get 9 (by decide +kernel)
            exact ⟨Value.bool false, w1, wanted_free rfl, by simp [execOp, go_sem, h9], Below.refl _ _, rfl⟩
          refine OweAll.cons (owesK rfl rfl fun a w1 ha hG hV => ?_) ?_
          · skip
            have h10 : a.tmps.getD 10 undef = Value.bool false := hV.get 10 (by decide +kernel)
            exact ⟨Value.bool false, w1, wanted_free rfl, by simp [execOp, go_sem, h10], Below.refl _ _, rfl⟩
          refine OweAll.cons (owesK_not rfl rfl fun a w1 ha hG hV => ⟨not_wanted (t := 11) rfl rfl (hV.get 11 (by decide +kernel)) (by simp), rfl⟩) ?_
          refine OweAll.cons (owesK_not rfl rfl fun a w1 ha hG hV => ⟨not_wanted (t := 11) rfl rfl (hV.get 11 (by decide +kernel)) (by simp), rfl⟩) ?_
          refine OweAll.cons (owesK_not rfl rfl fun a w1 ha hG hV => ⟨not_wanted (t := 11) rfl rfl (hV.get 11 (by decide +kernel)) (by simp), rfl⟩) ?_
          refine OweAll.cons (owesK_not rfl rfl fun a w1 ha hG hV => ⟨not_wanted (t := 11) rfl rfl (hV.get 11 (by decide +kernel)) (by simp), rfl⟩) ?_
          refine OweAll.cons (owesK_not rfl rfl fun a w1 ha hG hV => ⟨not_wanted (t := 11) rfl rfl (hV.get 11 (by decide +kernel)) (by simp), rfl⟩) ?_
          refine OweAll.cons (owesK_not rfl rfl fun a w1 ha hG hV => ⟨not_wanted (t := 11) rfl rfl (hV.get 11 (by decide +kernel)) (by simp), rfl⟩) ?_
          refine OweAll.cons (owesK_not rfl rfl fun a w1 ha hG hV => ⟨not_wanted (t := 11) rfl rfl (hV.get 11 (by decide +kernel)) (by simp), rfl⟩) ?_
          refine OweAll.cons (owesK_not rfl rfl fun a w1 ha hG hV => ⟨not_wanted (t := 11) rfl rfl (hV.get 11 (by decide +kernel)) (by simp), rfl⟩) ?_
          refine OweAll.cons (owesK_not rfl rfl fun a w1 ha hG hV => ⟨not_wanted (t := 11) rfl rfl (hV.get 11 (by decide +kernel)) (by simp), rfl⟩) ?_
          refine OweAll.cons (owesK_not rfl rfl fun a w1 ha hG hV => ⟨not_wanted (t := 11) rfl rfl (hV.get 11 (by decide +kernel)) (by simp), rfl⟩) ?_
          refine OweAll.cons (owesK rfl rfl fun a w1 ha hG hV => ?_) ?_
          · skip
            have h11 : a.tmps.getD 11 undef = Value.bool false := hV.get 11 (by decide +kernel)
            exact ⟨Value.bool false, w1, wanted_free rfl, by simp [execOp, go_sem, h11], Below.refl _ _, rfl⟩
          exact OweAll.nil
          ) ?_
        intro f wz hG hv
        have e22 : f 22 = Value.bool false := hv 13 _ 22 rfl rfl
        rename_i hK
        refine hK _ _ ?_
        clear hK hv
        simp only [dsts, puts, List.filterMap_cons, List.filterMap_nil, List.foldl_cons, List.foldl_nil, Act.put, List.setIfInBounds_toArray, List.set_cons_succ, List.set_cons_zero, e22]
        clear e22
        have HG := Lib.hid (HB.out.trans (hG.mono HB.out.size))
        clear hG
        go_wp2_with fail
        go_roundw
        case rel => exact ⟨1, by omega, by go_num, hrs, HG.out⟩
        case measure => simp [intOf]; omega
      · obtain ⟨i, rfl⟩ : ∃ i, k = i + 1 := ⟨k - 1, by omega⟩
        have h1 : i < L.length := by rw [← Hn.out]; omega
        have h2 : i + 1 < L.length := by rw [← Hn.out]; omega
        obtain ⟨bs, off, rfl, hbs, c1⟩ := (HL.out.old hB).str i h1
        obtain ⟨bs', off', e, _, c2⟩ := (HL.out.old hB).str (i + 1) h2
        cases e
        have C1 : Hid (∀ w', Below wr.heap.size wr w' → w'.cell? ⟨bs, off + i, none⟩ = some (.string ⟨L[i].toArray⟩)) := Lib.hid (fun w' hb => (World.cell?_of_block (hb.block bs hbs)).trans c1)
        have C2 : Hid (∀ w', Below wr.heap.size wr w' → w'.cell? ⟨bs, off + (i + 1), none⟩ = some (.string ⟨L[i + 1].toArray⟩)) := Lib.hid (fun w' hb => (World.cell?_of_block (hb.block bs hbs)).trans c2)
        have hsu := rs_succ L i
        have hgx : L.getD i [] = L[i] := by simp [List.getD, h1]
        have hgy : L.getD (i + 1) [] = L[i + 1] := by simp [List.getD, h2]
        rw [hgx, hgy, show rs L i = true from hrs.out, Bool.true_and, ← less_cmp] at hsu
        obtain ⟨x, hx⟩ : ∃ x, x = L[i] := ⟨_, rfl⟩
        obtain ⟨y, hy⟩ : ∃ y, y = L[i + 1] := ⟨_, rfl⟩
        rw [← hx] at C1 hsu
        rw [← hy] at C2 hsu
        obtain ⟨D, hD⟩ : ∃ D, D = Op.bytesLess x y := ⟨_, rfl⟩
        rw [← hD] at hsu
        have HD : Hid (Op.bytesLess x y = D) := Lib.hid hD.symm
        have Hsu := Lib.hid hsu
        have HB := Lib.hid hB
        have i0 : (0 : Int) ≤ i := by omega
        have i1 : (i : Int) < n := by omega
        have i2 : (i : Int) + 1 < n := by omega
        have e1 : IntKind.i64.wrap ((i : Int) + 1 - 1) = (i : Int) := by rw [IntWalk.i64_in _ (by omega)]; omega
        have e0 : IntKind.i64.wrap (i : Int) = (i : Int) := IntWalk.i64_in _ (by omega)
        have e2 : ((i : Int) + 1).toNat = i + 1 := by omega
        have e3 : (0 : Int) ≤ (i : Int) + 1 := by omega
        have e4 : (0 : Int) < (i : Int) + 1 := by omega
        have hrs1 := Lib.hid hk
        clear hx hy hgx hgy hsu c1 c2 hB hrs hD
        go_wp2_with fail
        refine wp_region_puts (fun t v w => VK (match t with
          | 9 => .eq (.int .i64 ((i : Int) + 1))
          | 10 => .eq (Value.bool true)
          | 11 => .eq (Value.bool true)
          | 12 => .eq (.slice (some ⟨bs, off, none⟩) n cap)
          | 13 => .eq (.int .i64 ((i : Int) + 1))
          | 14 => .eq (.int .i64 (i : Int))
          | 15 => .eq (.pointer (some ⟨bs, off + i, none⟩))
          | 16 => .eq (.string ⟨x.toArray⟩)
          | 17 => .eq (.slice (some ⟨bs, off, none⟩) n cap)
          | 18 => .eq (.int .i64 ((i : Int) + 1))
          | 19 => .eq (.pointer (some ⟨bs, off + (i + 1), none⟩))
          | 20 => .eq (.string ⟨y.toArray⟩)
          | 21 => .eq (.bool (!D))
          | 22 => .eq (.bool (!D))
          | _ => .any) v w) (fun w' => Below wr.heap.size wr w') 24 (by kernel_rfl) (by decide +kernel) rfl (Below.refl _ _).drew (by
          refine OweAll.cons (owesK rfl rfl fun a w1 ha hG hV => ?_) ?_
          · skip
            have h3 := ha.outer 3 (by decide +kernel)
            simp only [Act.eval] at h3
            exact ⟨.int .i64 ((i : Int) + 1), w1, wanted_free rfl, by simp [execOp, go_sem, h3], Below.refl _ _, rfl⟩
          refine OweAll.cons (owesK rfl rfl fun a w1 ha hG hV => ?_) ?_
          · skip
            have h9 : a.tmps.getD 9 undef = .int .i64 ((i : Int) + 1) := hV.get 9 (by decide +kernel)
            exact ⟨Value.bool true, w1, wanted_free rfl, by simp [execOp, go_sem, h9, e4], Below.refl _ _, rfl⟩
          refine OweAll.cons (owesK rfl rfl fun a w1 ha hG hV => ?_) ?_
          · skip
            have h10 : a.tmps.getD 10 undef = Value.bool true := hV.get 10 (by decide +kernel)
            exact ⟨Value.bool true, w1, wanted_free rfl, by simp [execOp, go_sem, h10], Below.refl _ _, rfl⟩
          refine OweAll.cons (owesK rfl rfl fun a w1 ha hG hV => ?_) ?_
          · skip
            have h0 := ha.outer 0 (by decide +kernel)
            simp only [Act.eval] at h0
            exact ⟨.slice (some ⟨bs, off, none⟩) n cap, w1, (wanted_of (t := 11) rfl rfl (hV.get 11 (by decide +kernel))), by simp [execOp, go_sem, h0], Below.refl _ _, rfl⟩
          refine OweAll.cons (owesK rfl rfl fun a w1 ha hG hV => ?_) ?_
          · skip
            have h3 := ha.outer 3 (by decide +kernel)
            simp only [Act.eval] at h3
            exact ⟨.int .i64 ((i : Int) + 1), w1, (wanted_of (t := 11) rfl rfl (hV.get 11 (by decide +kernel))), by simp [execOp, go_sem, h3], Below.refl _ _, rfl⟩
          refine OweAll.cons (owesK rfl rfl fun a w1 ha hG hV => ?_) ?_
          · skip
            have h13 : a.tmps.getD 13 undef = .int .i64 ((i : Int) + 1) := hV.get 13 (by decide +kernel)
            exact ⟨.int .i64 (i : Int), w1, (wanted_of (t := 11) rfl rfl (hV.get 11 (by decide +kernel))), by simp [execOp, go_sem, h13, e0], Below.refl _ _, rfl⟩
          refine OweAll.cons (owesK rfl rfl fun a w1 ha hG hV => ?_) ?_
          · skip
            have h12 : a.tmps.getD 12 undef = .slice (some ⟨bs, off, none⟩) n cap := hV.get 12 (by decide +kernel)
            have h14 : a.tmps.getD 14 undef = .int .i64 (i : Int) := hV.get 14 (by decide +kernel)
            exact ⟨.pointer (some ⟨bs, off + i, none⟩), w1, (wanted_of (t := 11) rfl rfl (hV.get 11 (by decide +kernel))), by simp [execOp, go_sem, h12, h14, i0, i1], Below.refl _ _, rfl⟩
          refine OweAll.cons (owesK rfl rfl fun a w1 ha hG hV => ?_) ?_
          · skip
            have h15 : a.tmps.getD 15 undef = .pointer (some ⟨bs, off + i, none⟩) := hV.get 15 (by decide +kernel)
            have cc := C1.out w1 hG
            exact ⟨.string ⟨x.toArray⟩, w1, (wanted_of (t := 11) rfl rfl (hV.get 11 (by decide +kernel))), by simp [execOp, go_sem, h15, cc], Below.refl _ _, rfl⟩
          refine OweAll.cons (owesK rfl rfl fun a w1 ha hG hV => ?_) ?_
          · skip
            have h0 := ha.outer 0 (by decide +kernel)
            simp only [Act.eval] at h0
            exact ⟨.slice (some ⟨bs, off, none⟩) n cap, w1, (wanted_of (t := 11) rfl rfl (hV.get 11 (by decide +kernel))), by simp [execOp, go_sem, h0], Below.refl _ _, rfl⟩
          refine OweAll.cons (owesK rfl rfl fun a w1 ha hG hV => ?_) ?_
          · skip
            have h3 := ha.outer 3 (by decide +kernel)
            simp only [Act.eval] at h3
            exact ⟨.int .i64 ((i : Int) + 1), w1, (wanted_of (t := 11) rfl rfl (hV.get 11 (by decide +kernel))), by simp [execOp, go_sem, h3], Below.refl _ _, rfl⟩
          refine OweAll.cons (owesK rfl rfl fun a w1 ha hG hV => ?_) ?_
          · skip
            have h17 : a.tmps.getD 17 undef = .slice (some ⟨bs, off, none⟩) n cap := hV.get 17 (by decide +kernel)
            have h18 : a.tmps.getD 18 undef = .int .i64 ((i : Int) + 1) := hV.get 18 (by decide +kernel)
            exact ⟨.pointer (some ⟨bs, off + (i + 1), none⟩), w1, (wanted_of (t := 11) rfl rfl (hV.get 11 (by decide +kernel))), by simp [execOp, go_sem, h17, h18, e2, e3, i2], Below.refl _ _, rfl⟩
          refine OweAll.cons (owesK rfl rfl fun a w1 ha hG hV => ?_) ?_
          · skip
            have h19 : a.tmps.getD 19 undef = .pointer (some ⟨bs, off + (i + 1), none⟩) := hV.get 19 (by decide +kernel)
            have cc := C2.out w1 hG
            exact ⟨.string ⟨y.toArray⟩, w1, (wanted_of (t := 11) rfl rfl (hV.get 11 (by decide +kernel))), by simp [execOp, go_sem, h19, cc], Below.refl _ _, rfl⟩
          refine OweAll.cons (owesK rfl rfl fun a w1 ha hG hV => ?_) ?_
          · skip
            have h16 : a.tmps.getD 16 undef = .string ⟨x.toArray⟩ := hV.get 16 (by decide +kernel)
            have h20 : a.tmps.getD 20 undef = .string ⟨y.toArray⟩ := hV.get 20 (by decide +kernel)
            exact ⟨.bool (!D), w1, (wanted_of (t := 11) rfl rfl (hV.get 11 (by decide +kernel))), by simp [execOp, go_sem, h16, h20, HD.out], Below.refl _ _, rfl⟩
          refine OweAll.cons (owesK rfl rfl fun a w1 ha hG hV => ?_) ?_
          · skip
            have h11 : a.tmps.getD 11 undef = Value.bool true := hV.get 11 (by decide +kernel)
            have h21 : a.tmps.getD 21 undef = .bool (!D) := hV.get 21 (by decide +kernel)
            exact ⟨.bool (!D), w1, wanted_free rfl, by simp [execOp, go_sem, h11, h21], Below.refl _ _, rfl⟩
          exact OweAll.nil
          ) ?_
        intro f wz hG hv
        have e22 : f 22 = .bool (!D) := hv 13 _ 22 rfl rfl
        rename_i hK
        refine hK _ _ ?_
        clear hK hv
        simp only [dsts, puts, List.filterMap_cons, List.filterMap_nil, List.foldl_cons, List.foldl_nil, Act.put, List.setIfInBounds_toArray, List.set_cons_succ, List.set_cons_zero, e22]
        clear e22
        have HG := Lib.hid (HB.out.trans (hG.mono HB.out.size))
        clear hG
        cases D with
        | true =>
          go_wp2_with fail
          go_roundw
          case rel => exact ⟨i + 2, by omega, by go_num, Hsu, HG.out⟩
          case measure => simp [intOf]; omega
        | false =>
          have hfin : Hid (RR = false) := Lib.hid (HR.out.trans (rs_stop Hsu.out (by omega)))
          go_wp2_with fail
          go_ret
          exact ⟨by rw [hfin.out]; rfl, HG.out⟩
    · have hfin : Hid (RR = true) := Lib.hid (by rw [HR.out]; have h := hrs.out; have e : k = n := (by omega); rw [← e]; exact h)
      go_wp2_with fail
      go_ret
      exact ⟨by rw [hfin.out]; rfl, hB⟩
end Go.Proofs.YtkejidmomnmdbaaDoor
