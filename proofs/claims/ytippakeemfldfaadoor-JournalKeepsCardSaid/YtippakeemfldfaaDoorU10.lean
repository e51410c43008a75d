/- Texts 10: what the laws lean on. -/
import Derived.Test.YtippakeemfldfaaDoorU4
import Derived.Test.YtippakeemfldfaaDoorU9
import Derived.Test.YtippakeemfldfaaDoorU5
import Derived.OwnWalk
import Derived.BigQuiet
import Derived.Test.YtippakeemfldfaaDoorU1
import Derived.ChangeArms
import Derived.Deep.SlicePairs
import Derived.Deep.Fields
namespace Go.Proofs.YtippakeemfldfaaDoor
open Go.RowKit

set_option maxRecDepth 20000 in
set_option maxHeartbeats 1000000 in
theorem jsize_any {w : World} {d : Nat} {S : St} {F : Nat → Prop} (h : DA w d S F) (hdn : S.dn = false) (j : Nat) (bj : Bx w j (.pointer (some ⟨d, 0, none⟩))) :
    Calls Tryd.prog 18 #[.pointer (some ⟨j, 0, none⟩)] w fun e w' => e = .returned (.int .i64 ((rdX S logN).1.length : Nat)) ∧ Below w.heap.size w w' := by
  have HR := Lib.hid (dkread_any h logN (by decide))
  have c0 := bj.cell
  obtain ⟨s, er, hr⟩ : ∃ s er, rdX S logN = (s, er) := ⟨_, _, rfl⟩
  have her : (er == 6) = false := by
    unfold rdX at hr
    rw [if_neg (by simp [hdn])] at hr
    by_cases hh : hasX logN S.X = true
    · rw [if_pos hh] at hr; rw [← (Prod.mk.inj hr).2]; rfl
    · rw [if_neg hh] at hr; rw [← (Prod.mk.inj hr).2]; rfl
  rw [hr] at HR ⊢
  clear h bj hr hdn
  go_enter Tryd.func18, Tryd.ntmps18
  go_wp2_with fail
  refine HR.out.mono ?_
  rintro e w1 ⟨rfl, hb⟩
  have HB := Lib.hid hb
  clear hb
  go_wp2_with fail
  go_ret
  exact ⟨rfl, HB.out⟩
end Go.Proofs.YtippakeemfldfaaDoor

namespace Go.Proofs.YtippakeemfldfaaDoor
open Go.RowKit

def rowY (L : List UInt8) : Stays := ⟨fun v w => ∃ p c, v = .slice p L.length c ∧ Rw encY 5 w p c L, fun ⟨p, c, e, h⟩ hb => ⟨p, c, e, h.old hb⟩⟩
theorem wrdB_sum (s : List UInt8) : wrdB (sumB s) = ((sha (nats s)).map UInt8.ofNat).take 4 := by
  obtain ⟨S, hS⟩ : ∃ S, S = sha (nats s) := ⟨_, rfl⟩
  have hl : S.length = 32 := by rw [hS]; exact sha_len _
  have hb : ∀ x ∈ S, x < 256 := by rw [hS]; exact sha_lt _
  have e : sumB s = S[0] * 16777216 + S[1] * 65536 + S[2] * 256 + S[3] := by
    unfold sumB w16; rw [← hS, getD_at _ _ (by omega), getD_at _ _ (by omega), getD_at _ _ (by omega), getD_at _ _ (by omega)]
  rw [← hS, e]
  have b0 := hb _ (List.getElem_mem (show 0 < S.length by omega))
  have b1 := hb _ (List.getElem_mem (show 1 < S.length by omega))
  have b2 := hb _ (List.getElem_mem (show 2 < S.length by omega))
  have b3 := hb _ (List.getElem_mem (show 3 < S.length by omega))
  have ht : (S.map UInt8.ofNat).take 4 = [UInt8.ofNat S[0], UInt8.ofNat S[1], UInt8.ofNat S[2], UInt8.ofNat S[3]] := by
    rw [List.take_succ_eq_append_getElem (by simp; omega), List.take_succ_eq_append_getElem (by simp; omega), List.take_succ_eq_append_getElem (by simp; omega), List.take_succ_eq_append_getElem (by simp; omega)]
    simp
  rw [ht]
  generalize S[0] = a at *
  generalize S[1] = b at *
  generalize S[2] = c at *
  generalize S[3] = d at *
  have key : ∀ x y : Nat, x % 256 = y % 256 → UInt8.ofNat x = UInt8.ofNat y := fun x y h => by apply UInt8.toNat_inj.1; rw [UInt8.toNat_ofNat', UInt8.toNat_ofNat']; exact h
  unfold wrdB
  have k1 := key ((a * 16777216 + b * 65536 + c * 256 + d) / 16777216) a (by omega)
  have k2 := key ((a * 16777216 + b * 65536 + c * 256 + d) / 65536) b (by omega)
  have k3 := key ((a * 16777216 + b * 65536 + c * 256 + d) / 256) c (by omega)
  have k4 := key (a * 16777216 + b * 65536 + c * 256 + d) d (by omega)
  rw [k1, k2, k3, k4]
set_option maxRecDepth 20000 in
set_option maxHeartbeats 1000000 in
theorem frame10_any (s : List UInt8) (w : World) (hs : s.length ≤ 1073741824) :
    Calls Tryd.prog 20 #[.string ⟨s.toArray⟩] w fun e w' => e = .returned (.string ⟨(frmB s).toArray⟩) ∧ Below w.heap.size w w' := by
  obtain ⟨n, hn⟩ : ∃ n, n = s.length := ⟨_, rfl⟩
  obtain ⟨tt, ht⟩ : ∃ t : List UInt8, t = (sha (nats s)).map UInt8.ofNat := ⟨_, rfl⟩
  have hxk : ∀ k : Nat, ((k : Nat) : Int) % 256 = (((UInt8.ofNat k).toNat : Nat) : Int) := fun k => by rw [UInt8.toNat_ofNat']; omega
  obtain ⟨x0, h0⟩ : ∃ x, x = UInt8.ofNat (n / 16777216) := ⟨_, rfl⟩
  obtain ⟨x1, h1⟩ : ∃ x, x = UInt8.ofNat (n / 65536) := ⟨_, rfl⟩
  obtain ⟨x2, h2⟩ : ∃ x, x = UInt8.ofNat (n / 256) := ⟨_, rfl⟩
  obtain ⟨x3, h3⟩ : ∃ x, x = UInt8.ofNat n := ⟨_, rfl⟩
  have E0 : Hid (IntKind.u8.wrap ((n : Int) / 16777216) = (x0.toNat : Int)) := Lib.hid (by rw [IntKind.wrap_u8, h0, ← hxk]; rfl)
  have E1 : Hid (IntKind.u8.wrap ((n : Int) / 65536) = (x1.toNat : Int)) := Lib.hid (by rw [IntKind.wrap_u8, h1, ← hxk]; rfl)
  have E2 : Hid (IntKind.u8.wrap ((n : Int) / 256) = (x2.toNat : Int)) := Lib.hid (by rw [IntKind.wrap_u8, h2, ← hxk]; rfl)
  have E3 : Hid (IntKind.u8.wrap (n : Int) = (x3.toNat : Int)) := Lib.hid (by rw [IntKind.wrap_u8, h3, ← hxk])
  have HTL : Hid (tt.length = 32) := Lib.hid (by rw [ht, List.length_map]; exact sha_len _)
  have HX : Hid ((⟨tt.toArray⟩ : ByteArray).extract 0 4 = ⟨(tt.take 4).toArray⟩) := Lib.hid (by apply ByteArray.ext; simp)
  have HRF : Hid (∀ w1, Calls Tryd.prog 45 #[.string ⟨s.toArray⟩] w1 fun r w' => r = .returned (.string ⟨tt.toArray⟩) ∧ Below w1.heap.size w1 w') := Lib.hid (fun w1 =>
    (refof_any s w1 hs).mono fun _ _ ⟨h1, h2⟩ => ⟨by rw [h1, ht]; rfl, h2.to_below (Nat.le_refl _) (fun _ _ h => h)⟩)
  obtain ⟨a1, ha1⟩ : ∃ a : ByteArray, a = (⟨#[x0, x1, x2, x3]⟩ : ByteArray) ++ (⟨(tt.take 4).toArray⟩ : ByteArray) := ⟨_, rfl⟩
  obtain ⟨a2, ha2⟩ : ∃ a : ByteArray, a = a1 ++ (⟨s.toArray⟩ : ByteArray) := ⟨_, rfl⟩
  have HA1 := Lib.hid ha1
  have HAL : Hid (a1.size ≤ 8) := Lib.hid (by
    rw [ha1, ByteArray.size_append]
    have h1 : (⟨#[x0, x1, x2, x3]⟩ : ByteArray).size = 4 := rfl
    have h2 : (⟨(tt.take 4).toArray⟩ : ByteArray).size = (tt.take 4).length := rfl
    rw [h1, h2, List.length_take]
    omega)
  have HA2 := Lib.hid ha2
  have HF : Hid (a2 = ⟨(frmB s).toArray⟩) := Lib.hid (by
    rw [ha2, ha1]
    unfold frmB
    rw [wrdB_sum, ← ht, ← hn, wrdB, ← h0, ← h1, ← h2, ← h3]
    apply ByteArray.ext
    simp)
  have HSL := Lib.hid hs
  clear ha1 ha2 hs ht h0 h1 h2 h3 hxk
  go_enter Tryd.func20, Tryd.ntmps20
  go_upto_region 2 with fail
  rw [← hn]
  clear hn
  refine wp_region_puts (fun t v w => VK (match t with
    | 6 => .eq (.int .i64 (n : Int))
    | 7 => .eq (.int .i64 ((n : Int) / 16777216))
    | 8 => .eq (.int .u8 (x0.toNat : Int))
    | 9 => .eq (.int .i64 (n : Int))
    | 10 => .eq (.int .i64 ((n : Int) / 65536))
    | 11 => .eq (.int .u8 (x1.toNat : Int))
    | 12 => .eq (.int .i64 (n : Int))
    | 13 => .eq (.int .i64 ((n : Int) / 256))
    | 14 => .eq (.int .u8 (x2.toNat : Int))
    | 15 => .eq (.int .i64 (n : Int))
    | 16 => .eq (.int .u8 (x3.toNat : Int))
    | 17 => .st (rowY [x0, x1, x2, x3])
    | 18 => .eq (.string ⟨#[x0, x1, x2, x3]⟩)
    | 19 => .eq (.string ⟨s.toArray⟩)
    | 20 => .eq (.string ⟨tt.toArray⟩)
    | 21 => .eq (.string ⟨(tt.take 4).toArray⟩)
    | 22 => .eq (.string a1)
    | 23 => .eq (.string ⟨s.toArray⟩)
    | 24 => .eq (.string a2)
    | 2 => .eq (.string a2)
    | _ => .any) v w) (fun w' => Below w.heap.size w w') 25 (by kernel_rfl) (by decide +kernel) rfl (Below.refl _ _).drew (by
    refine OweAll.cons (owesK rfl rfl fun a w1 ha hG hV => ?_) ?_
    · skip
      have h3 := ha.outer 3 (by decide +kernel)
      simp only [Act.eval] at h3
      exact ⟨.int .i64 (n : Int), w1, wanted_free rfl, by simp [execOp, go_sem, h3], Below.refl _ _, rfl⟩
    refine OweAll.cons (owesK rfl rfl fun a w1 ha hG hV => ?_) ?_
    · skip
      have h6 : a.tmps.getD 6 undef = .int .i64 (n : Int) := hV.get 6 (by decide +kernel)
      exact ⟨.int .i64 ((n : Int) / 16777216), w1, wanted_free rfl, by simp [execOp, go_sem, h6], Below.refl _ _, rfl⟩
    refine OweAll.cons (owesK rfl rfl fun a w1 ha hG hV => ?_) ?_
    · skip
      have h7 : a.tmps.getD 7 undef = .int .i64 ((n : Int) / 16777216) := hV.get 7 (by decide +kernel)
      have e := E0.out
      exact ⟨.int .u8 (x0.toNat : Int), w1, wanted_free rfl, by simp [execOp, go_sem, h7, e], Below.refl _ _, rfl⟩
    refine OweAll.cons (owesK rfl rfl fun a w1 ha hG hV => ?_) ?_
    · skip
      have h3 := ha.outer 3 (by decide +kernel)
      simp only [Act.eval] at h3
      exact ⟨.int .i64 (n : Int), w1, wanted_free rfl, by simp [execOp, go_sem, h3], Below.refl _ _, rfl⟩
    refine OweAll.cons (owesK rfl rfl fun a w1 ha hG hV => ?_) ?_
    · skip
      have h9 : a.tmps.getD 9 undef = .int .i64 (n : Int) := hV.get 9 (by decide +kernel)
      exact ⟨.int .i64 ((n : Int) / 65536), w1, wanted_free rfl, by simp [execOp, go_sem, h9], Below.refl _ _, rfl⟩
    refine OweAll.cons (owesK rfl rfl fun a w1 ha hG hV => ?_) ?_
    · skip
      have h10 : a.tmps.getD 10 undef = .int .i64 ((n : Int) / 65536) := hV.get 10 (by decide +kernel)
      have e := E1.out
      exact ⟨.int .u8 (x1.toNat : Int), w1, wanted_free rfl, by simp [execOp, go_sem, h10, e], Below.refl _ _, rfl⟩
    refine OweAll.cons (owesK rfl rfl fun a w1 ha hG hV => ?_) ?_
    · skip
      have h3 := ha.outer 3 (by decide +kernel)
      simp only [Act.eval] at h3
      exact ⟨.int .i64 (n : Int), w1, wanted_free rfl, by simp [execOp, go_sem, h3], Below.refl _ _, rfl⟩
    refine OweAll.cons (owesK rfl rfl fun a w1 ha hG hV => ?_) ?_
    · skip
      have h12 : a.tmps.getD 12 undef = .int .i64 (n : Int) := hV.get 12 (by decide +kernel)
      exact ⟨.int .i64 ((n : Int) / 256), w1, wanted_free rfl, by simp [execOp, go_sem, h12], Below.refl _ _, rfl⟩
    refine OweAll.cons (owesK rfl rfl fun a w1 ha hG hV => ?_) ?_
    · skip
      have h13 : a.tmps.getD 13 undef = .int .i64 ((n : Int) / 256) := hV.get 13 (by decide +kernel)
      have e := E2.out
      exact ⟨.int .u8 (x2.toNat : Int), w1, wanted_free rfl, by simp [execOp, go_sem, h13, e], Below.refl _ _, rfl⟩
    refine OweAll.cons (owesK rfl rfl fun a w1 ha hG hV => ?_) ?_
    · skip
      have h3 := ha.outer 3 (by decide +kernel)
      simp only [Act.eval] at h3
      exact ⟨.int .i64 (n : Int), w1, wanted_free rfl, by simp [execOp, go_sem, h3], Below.refl _ _, rfl⟩
    refine OweAll.cons (owesK rfl rfl fun a w1 ha hG hV => ?_) ?_
    · skip
      have h15 : a.tmps.getD 15 undef = .int .i64 (n : Int) := hV.get 15 (by decide +kernel)
      have e := E3.out
      exact ⟨.int .u8 (x3.toNat : Int), w1, wanted_free rfl, by simp [execOp, go_sem, h15, e], Below.refl _ _, rfl⟩
    refine OweAll.cons (owesK rfl rfl fun a w1 ha hG hV => ?_) ?_
    · skip
      have h8 : a.tmps.getD 8 undef = .int .u8 (x0.toNat : Int) := hV.get 8 (by decide +kernel)
      have h11 : a.tmps.getD 11 undef = .int .u8 (x1.toNat : Int) := hV.get 11 (by decide +kernel)
      have h14 : a.tmps.getD 14 undef = .int .u8 (x2.toNat : Int) := hV.get 14 (by decide +kernel)
      have h16 : a.tmps.getD 16 undef = .int .u8 (x3.toNat : Int) := hV.get 16 (by decide +kernel)
      have g8 : a.tmps[8]?.getD undef = .int .u8 (x0.toNat : Int) := by simpa using h8
      have g11 : a.tmps[11]?.getD undef = .int .u8 (x1.toNat : Int) := by simpa using h11
      have g14 : a.tmps[14]?.getD undef = .int .u8 (x2.toNat : Int) := by simpa using h14
      have g16 : a.tmps[16]?.getD undef = .int .u8 (x3.toNat : Int) := by simpa using h16
      exact ⟨.slice (some ⟨w1.heap.size, 0, none⟩) 4 4, w1.alloc (.cells #[.int .u8 (x0.toNat : Int), .int .u8 (x1.toNat : Int), .int .u8 (x2.toNat : Int), .int .u8 (x3.toNat : Int)] 5), wanted_free rfl, by simp [execOp, go_sem, h8, h11, h14, h16, g8, g11, g14, g16], (Below.refl _ _).alloc (Nat.le_refl _) _, ⟨_, _, rfl, Rw.made (E := encY) 5 w1 [x0, x1, x2, x3] (by simp [maxLen])⟩⟩
    refine OweAll.cons (owesK rfl rfl fun a w1 ha hG hV => ?_) ?_
    · skip
      have s17 : (rowY [x0, x1, x2, x3]).p (a.tmps.getD 17 undef) w1 := hV.get 17 (by decide +kernel)
      obtain ⟨p, c, hv0, hR⟩ := s17
      have hv : a.tmps.getD 17 undef = .slice p 4 c := hv0
      have hcv : (convert 50 9 (.slice p 4 c)).run Tryd.prog w1 = .ok (.string ⟨#[x0, x1, x2, x3]⟩) w1 := Rw.convY (P := Tryd.prog) hR 50 9 Tryd.underlying50 Tryd.underlying5 Tryd.underlying9
      have hv2 : a.tmps[17]?.getD undef = .slice p 4 c := by simpa using hv
      exact ⟨.string ⟨#[x0, x1, x2, x3]⟩, w1, wanted_free rfl, by simp [execOp, go_sem, hv, hv2, hcv], Below.refl _ _, rfl⟩
    refine OweAll.cons (owesK rfl rfl fun a w1 ha hG hV => ?_) ?_
    · skip
      have h0 := ha.outer 0 (by decide +kernel)
      simp only [Act.eval] at h0
      exact ⟨.string ⟨s.toArray⟩, w1, wanted_free rfl, by simp [execOp, go_sem, h0], Below.refl _ _, rfl⟩
    refine OweAll.cons (owesK_call rfl rfl 45 fun a w1 ha hG hV => ?_) ?_
    · skip
      have h19 : a.tmps.getD 19 undef = .string ⟨s.toArray⟩ := hV.get 19 (by decide +kernel)
      refine ⟨#[.string ⟨s.toArray⟩], wanted_free rfl, by simp [execOp, resolve, invoke, go_sem, h19], ?_⟩
      refine (HRF.out w1).mono ?_
      rintro r' u2 ⟨rfl, hb2⟩; exact ⟨_, rfl, rfl, hb2⟩
    refine OweAll.cons (owesK rfl rfl fun a w1 ha hG hV => ?_) ?_
    · skip
      have h20 : a.tmps.getD 20 undef = .string ⟨tt.toArray⟩ := hV.get 20 (by decide +kernel)
      have ht := HTL.out
      have hx := HX.out
      exact ⟨.string ⟨(tt.take 4).toArray⟩, w1, wanted_free rfl, by simp [execOp, go_sem, h20, ht, hx], Below.refl _ _, rfl⟩
    refine OweAll.cons (owesK rfl rfl fun a w1 ha hG hV => ?_) ?_
    · skip
      have h18 : a.tmps.getD 18 undef = .string ⟨#[x0, x1, x2, x3]⟩ := hV.get 18 (by decide +kernel)
      have h21 : a.tmps.getD 21 undef = .string ⟨(tt.take 4).toArray⟩ := hV.get 21 (by decide +kernel)
      have ht := HTL.out
      have e := HA1.out
      exact ⟨.string a1, w1, wanted_free rfl, by rw [e]; simp [execOp, go_sem, h18, h21]; omega, Below.refl _ _, rfl⟩
    refine OweAll.cons (owesK rfl rfl fun a w1 ha hG hV => ?_) ?_
    · skip
      have h0 := ha.outer 0 (by decide +kernel)
      simp only [Act.eval] at h0
      exact ⟨.string ⟨s.toArray⟩, w1, wanted_free rfl, by simp [execOp, go_sem, h0], Below.refl _ _, rfl⟩
    refine OweAll.cons (owesK rfl rfl fun a w1 ha hG hV => ?_) ?_
    · skip
      have h22 : a.tmps.getD 22 undef = .string a1 := hV.get 22 (by decide +kernel)
      have h23 : a.tmps.getD 23 undef = .string ⟨s.toArray⟩ := hV.get 23 (by decide +kernel)
      have ht := HTL.out
      have hsl := HSL.out
      have e1 := HAL.out
      have e := HA2.out
      exact ⟨.string a2, w1, wanted_free rfl, by rw [e]; simp [execOp, go_sem, h22, h23]; omega, Below.refl _ _, rfl⟩
    refine OweAll.cons (owesK rfl rfl fun a w1 ha hG hV => ?_) ?_
    · skip
      have h24 : a.tmps.getD 24 undef = .string a2 := hV.get 24 (by decide +kernel)
      exact ⟨.string a2, w1, wanted_free rfl, by simp [execOp, go_sem, h24], Below.refl _ _, rfl⟩
    exact OweAll.nil
    ) ?_
  intro f wz hG hv
  have e2 : f 2 = .string a2 := hv 19 _ 2 rfl rfl
  rename_i hK
  refine hK _ _ ?_
  clear hK hv
  simp only [dsts, puts, List.filterMap_cons, List.filterMap_nil, List.foldl_cons, List.foldl_nil, Act.put, List.setIfInBounds_toArray, List.set_cons_succ, List.set_cons_zero, e2]
  clear e2
  rw [HF.out]
  have HB := Lib.hid hG
  clear hG
  go_wp2_with fail
  go_ret
  exact ⟨rfl, HB.out⟩
end Go.Proofs.YtippakeemfldfaaDoor

namespace Go.Proofs.YtippakeemfldfaaDoor
open Go.RowKit

def JD (w0 w : World) (d j : Nat) (S : St) : Prop := ∃ F, DA w d S F ∧ (∀ i, F i → w0.heap.size ≤ i) ∧ Below w0.heap.size w0 w ∧ Bx w j (.pointer (some ⟨d, 0, none⟩)) ∧ ¬ F j ∧ w0.heap.size ≤ j
section
variable {w0 w w' : World} {d j n : Nat} {S : St}
theorem JD.b (h : JD w0 w d j S) : Below w0.heap.size w0 w := by obtain ⟨_, _, _, h, _⟩ := h; exact h
theorem JD.dk (h : JD w0 w d j S) : Dk w0 w d S := by obtain ⟨F, hA, hF, hB, _⟩ := h; exact ⟨F, hA, hF, hB⟩
theorem JD.old (h : JD w0 w d j S) (hb : Below w.heap.size w w') : JD w0 w' d j S := by
  obtain ⟨F, hA, hF, hB, hx, hj, hl⟩ := h
  exact ⟨F, hA.old hb, hF, hB.trans (hb.mono hB.size), hx.old hb, hj, hl⟩
theorem JD.append (h : JD w0 w d j S) (gd : Gd S n) (hn : n ≤ 90000) (s : List UInt8) (hs : s.length ≤ 1000000000) (hT : TabAt w0) :
    Calls Tryd.prog 13 #[.pointer (some ⟨j, 0, none⟩), .string ⟨s.toArray⟩] w fun e w' => e = .returned (.int .i64 (apdX S s).1) ∧ JD w0 w' d j (apdX S s).2 := by
  obtain ⟨F, hA, hF, hB, hx, hj, hl⟩ := h
  refine (jappend_any hA gd hn j hx hj s hs (TabJ.old hT hB)).mono ?_
  rintro e w' ⟨rfl, hE⟩
  have hE2 := hE
  obtain ⟨F', hA', hF', hm⟩ := hE
  refine ⟨rfl, F', hA', fun i hi => (hF' i hi).elim (hF i) (fun h => Nat.le_trans hB.size h), hB.trans (hm.to_below hB.size (fun k hk h => by have := hF k h; omega)), hE2.bx hx hj, fun hf => ?_, hl⟩
  rcases hF' j hf with h | h
  · exact hj h
  · have := hx.lt; omega
theorem JD.size (h : JD w0 w d j S) (hdn : S.dn = false) :
    Calls Tryd.prog 18 #[.pointer (some ⟨j, 0, none⟩)] w fun e w' => e = .returned (.int .i64 ((rdX S logN).1.length : Nat)) ∧ JD w0 w' d j S := by
  have h2 := h
  obtain ⟨F, hA, hF, hB, hx, hj, hl⟩ := h
  exact (jsize_any hA hdn j hx).mono (by rintro e w' ⟨rfl, hb⟩; exact ⟨rfl, h2.old hb⟩)
theorem JD.used (h : JD w0 w d j S) (ok : Ok S) : Calls Tryd.prog 10 #[.pointer (some ⟨d, 0, none⟩)] w fun e w' => e = .returned (.int .i64 (usedX S.X : Nat)) ∧ JD w0 w' d j S := by
  have h2 := h
  obtain ⟨F, hA, hF, hB, hx, hj, hl⟩ := h
  exact (dkused_any hA (Nat.le_trans ok.n (by decide)) ok.f).mono (by rintro e w' ⟨rfl, hE⟩; exact ⟨rfl, h2.old hE⟩)
theorem JD.read (h : JD w0 w d j S) (k : List UInt8) (hk : k.length ≤ maxLen) :
    Calls Tryd.prog 22 #[.pointer (some ⟨d, 0, none⟩), .string ⟨k.toArray⟩] w fun e w' => e = .returned (.tuple #[.string ⟨(rdX S k).1.toArray⟩, .int .i64 (rdX S k).2]) ∧ JD w0 w' d j S := by
  have h2 := h
  obtain ⟨F, hA, hF, hB, hx, hj, hl⟩ := h
  exact (dkread_any hA k hk).mono (by rintro e w' ⟨rfl, hE⟩; exact ⟨rfl, h2.old hE⟩)
/-- An opening that goes. -/
theorem Dk.jopen (h : Dk w0 w d S) (gd : Gd S n) (hn : n ≤ 90000) (hT : TabAt w0) (L : List (List UInt8)) (S' : St) (ho : opnX S = (some L, 0, S')) :
    Calls Tryd.prog 8 #[.pointer (some ⟨d, 0, none⟩)] w fun e w' => ∃ j p c, e = .returned (.tuple #[.pointer (some ⟨j, 0, none⟩), .slice p L.length c, .int .i64 0]) ∧ JD w0 w' d j S' ∧ Rw encS 9 w' p c L ∧ (∀ a, p = some a → w.heap.size ≤ a.block) ∧ w.heap.size ≤ j := by
  obtain ⟨F, hA, hF, hB⟩ := h
  refine (jopen_any hA gd hn (TabJ.old hT hB)).mono ?_
  rintro e w' ⟨F', hA', hF', hm, hp⟩
  rw [ho] at hp hA'
  obtain ⟨j, p, c, rfl, hx, hjl, hj, hR, hpn⟩ := hp
  have hb : Below w0.heap.size w0 w' := hB.trans (hm.to_below hB.size (fun k hk h => by have := hF k h; omega))
  have hF2 : ∀ i, F' i → w0.heap.size ≤ i := fun i hi => (hF' i hi).elim (hF i) (fun h => Nat.le_trans hB.size h)
  refine ⟨j, p, c, rfl, ⟨F', hA', hF2, hb, hx, hj, Nat.le_trans hB.size hjl⟩, hR, fun a e => (hpn a e).1, hjl⟩
/-- .. beside a journal of the same disk. -/
theorem JD.jopen {j0 : Nat} (h : JD w0 w d j0 S) (gd : Gd S n) (hn : n ≤ 90000) (hT : TabAt w0) (L : List (List UInt8)) (S' : St) (ho : opnX S = (some L, 0, S')) :
    Calls Tryd.prog 8 #[.pointer (some ⟨d, 0, none⟩)] w fun e w' => ∃ j p c, e = .returned (.tuple #[.pointer (some ⟨j, 0, none⟩), .slice p L.length c, .int .i64 0]) ∧ JD w0 w' d j0 S' ∧ Rw encS 9 w' p c L ∧ ∀ a, p = some a → w.heap.size ≤ a.block := by
  obtain ⟨F, hA, hF, hB, hx0, hj0, hl0⟩ := h
  refine (jopen_any hA gd hn (TabJ.old hT hB)).mono ?_
  rintro e w' ⟨F', hA', hF', hm, hp⟩
  rw [ho] at hp hA'
  obtain ⟨j, p, c, rfl, hx, hjl, hj, hR, hpn⟩ := hp
  have hb : Below w0.heap.size w0 w' := hB.trans (hm.to_below hB.size (fun k hk h => by have := hF k h; omega))
  have hF2 : ∀ i, F' i → w0.heap.size ≤ i := fun i hi => (hF' i hi).elim (hF i) (fun h => Nat.le_trans hB.size h)
  refine ⟨j, p, c, rfl, ⟨F', hA', hF2, hb, hx0.kept hm hj0, fun hf => ?_, hl0⟩, hR, fun a e => (hpn a e).1⟩
  rcases hF' _ hf with h | h
  · exact hj0 h
  · have := hx0.lt; omega
end
end Go.Proofs.YtippakeemfldfaaDoor

namespace Go.Proofs.YtippakeemfldfaaDoor
open Go.RowKit

theorem JS.new (rm : Int) : (⟨rm, 0, -1, false, []⟩ : St) = JS rm 0 [] false := rfl
set_option maxRecDepth 20000 in
set_option maxHeartbeats 1000000 in
theorem awake10_any (w : World) (hT : TabAt w) : Calls Tryd.prog 6 #[] w fun e w' => e = .returned (.bool true) ∧ Below w.heap.size w w' := by
  obtain ⟨S0, hS0⟩ : ∃ S, S = JS 100 0 [] false := ⟨_, rfl⟩
  obtain ⟨S1, hS1⟩ : ∃ S, S = JS 100 (0 + 2) ([] ++ [[97]]) true := ⟨_, rfl⟩
  have g0 : Gd S0 0 := by rw [hS0]; exact Gd.new 100 (by decide) (by decide)
  have e1 : apdX S0 [97] = (0, S1) := by rw [hS0, hS1]; exact JS.apd_fits (fun _ => rfl) [97] (by decide) (by decide)
  have g1 : Gd S1 2 := by have := g0.apd [97]; rwa [e1] at this
  have o0 : opnX S0 = (some [], 0, S0) := by rw [hS0]; exact JS.opn (fun _ => rfl) (fun x hx => by cases hx)
  have o1 : opnX S1 = (some [[97]], 0, S1) := by rw [hS1]; exact JS.opn (fun h => by cases h) (fun x hx => by simp at hx; rw [hx]; decide)
  obtain ⟨fb, hfb⟩ : ∃ fb, fb = frmB [97] := ⟨_, rfl⟩
  have hfl : fb.length = 9 := by rw [hfb, frmB_len]; rfl
  have hf4 : fb.take 4 = [0, 0, 0, 1] := by rw [hfb]; rfl
  have hr : rdX S1 logN = (fb, 0) := by
    rw [hS1, hfb]; simp [JS, LX, rdX, hasX, fiX, frmsB]
  have hd1 : S1.dn = false := by rw [hS1]; rfl
  have hx4 : (⟨fb.toArray⟩ : ByteArray).extract 0 4 = ⟨#[0, 0, 0, 1]⟩ := by
    apply ByteArray.ext
    have := congrArg List.toArray hf4
    simpa using this
  have HN := Lib.hid (Dk.new 100 100 100 w (by decide) (by decide))
  rw [JS.new, ← hS0] at HN
  have HO0 : Hid (∀ w1 p, Dk w w1 p S0 → Calls Tryd.prog 8 #[.pointer (some ⟨p, 0, none⟩)] w1 fun e w' => ∃ j q c, e = .returned (.tuple #[.pointer (some ⟨j, 0, none⟩), .slice q 0 c, .int .i64 0]) ∧ JD w w' p j S0) := Lib.hid (fun w1 p h => (h.jopen g0 (by decide) hT [] S0 o0).mono (by rintro e w' ⟨j, q, c, rfl, h, _⟩; exact ⟨j, q, c, rfl, h⟩))
  have HA : Hid (∀ w1 p j, JD w w1 p j S0 → Calls Tryd.prog 13 #[.pointer (some ⟨j, 0, none⟩), .string ⟨#[97]⟩] w1 fun e w' => e = .returned (.int .i64 0) ∧ JD w w' p j S1) := Lib.hid (fun w1 p j h => by have := h.append g0 (by decide) [97] (by decide) hT; rwa [e1] at this)
  have HR : Hid (∀ w1 p j, JD w w1 p j S1 → Calls Tryd.prog 22 #[.pointer (some ⟨p, 0, none⟩), .string ⟨#[108, 111, 103]⟩] w1 fun e w' => e = .returned (.tuple #[.string ⟨fb.toArray⟩, .int .i64 0]) ∧ JD w w' p j S1) := Lib.hid (fun w1 p j h => by have := h.read logN (by decide); rwa [hr] at this)
  have HO1 : Hid (∀ w1 p j, JD w w1 p j S1 → Calls Tryd.prog 8 #[.pointer (some ⟨p, 0, none⟩)] w1 fun e w' => ∃ j2 b c, e = .returned (.tuple #[.pointer (some ⟨j2, 0, none⟩), .slice (some ⟨b, 0, none⟩) 1 c, .int .i64 0]) ∧ JD w w' p j S1 ∧ b < w'.heap.size ∧ w'.cell? ⟨b, 0, none⟩ = some (.string ⟨#[97]⟩)) := Lib.hid (fun w1 p j h => (h.jopen g1 (by decide) hT [[97]] S1 o1).mono (by
    rintro e w' ⟨j2, q, c, rfl, h, hR, _⟩
    rcases hR.shape with ⟨_, e, _⟩ | ⟨b, rfl, _⟩
    · cases e
    · refine ⟨j2, b, c, rfl, h, hR.lt, ?_⟩
      obtain ⟨bs, off, e, _, hc⟩ := hR.rd 0 (by decide)
      cases e
      exact hc 0 _ rfl))
  have HS : Hid (∀ w1 p j, JD w w1 p j S1 → Calls Tryd.prog 18 #[.pointer (some ⟨j, 0, none⟩)] w1 fun e w' => e = .returned (.int .i64 9) ∧ Below w1.heap.size w1 w') := Lib.hid (fun w1 p j h => by
    obtain ⟨F, hA, hF, hB, hx, hj, hl⟩ := h
    have := jsize_any hA hd1 j hx
    rw [hr] at this
    exact this.mono (by rintro e w' ⟨rfl, hb⟩; exact ⟨by rw [hfl]; rfl, hb⟩))
  have HC : Hid (∀ w1, Calls Tryd.prog 17 #[.int .i64 1] w1 fun e w' => e = .returned (.int .i64 9) ∧ w1 = w') := Lib.hid (fun w1 => jcost_nat 1 w1 (by decide))
  clear g0 g1 e1 o0 o1 hr hd1 hfb hS0 hS1 hT
  go_enter Tryd.func6, Tryd.ntmps6
  go_wp2_with fail
  refine HN.out.mono ?_
  rintro e w1 ⟨p, rfl, hD⟩
  have HD := Lib.hid hD
  clear hD HN
  go_wp2_with fail
  refine (HO0.out _ _ HD.out).mono ?_
  rintro e w2 ⟨j, q, c, rfl, hJ⟩
  have HJ := Lib.hid hJ
  clear hJ HO0 HD
  go_wp2_with fail
  refine (HA.out _ _ _ HJ.out).mono ?_
  rintro e w3 ⟨rfl, hJ⟩
  have HJ := Lib.hid hJ
  clear hJ HA
  go_wp2_with fail
  refine (HR.out _ _ _ HJ.out).mono ?_
  rintro e w4 ⟨rfl, hJ⟩
  have HJ := Lib.hid hJ
  clear hJ HR
  go_wp2_with fail
  refine (HO1.out _ _ _ HJ.out).mono ?_
  rintro e w5 ⟨j2, b, c2, rfl, hJ, hbl, hcell⟩
  have HJ := Lib.hid hJ
  have HCE := Lib.hid hcell
  have HBL := Lib.hid hbl
  clear hJ HO1 hcell hbl
  go_wp2_with fail
  refine (HS.out _ _ _ HJ.out).mono ?_
  rintro e w6 ⟨rfl, hb⟩
  have HB := Lib.hid (HJ.out.b.trans (hb.mono HJ.out.b.size))
  have cc : w6.cell? ⟨b, 0, none⟩ = some (.string ⟨#[97]⟩) := (hb.cell HBL.out).trans HCE.out
  clear hb HS
  go_wp2_with fail
  refine (HC.out _).mono ?_
  rintro e w7 ⟨rfl, hww⟩
  have HB7 : Hid (Below w.heap.size w w7) := Lib.hid (hww ▸ HB.out)
  clear hww
  go_wp2_with fail
  go_ret
  exact ⟨rfl, HB7.out⟩
end Go.Proofs.YtippakeemfldfaaDoor

namespace Go.Proofs.YtippakeemfldfaaDoor
open Go.RowKit

/-- Is one of them no record? -/
def anyBig (l : List (List UInt8)) : Bool := l.any fun s => decide (s.length > 1048576)
theorem anyBig_false {l : List (List UInt8)} (h : anyBig l = false) : ∀ s ∈ l, s.length ≤ 1048576 := by
  intro s hs
  have := List.any_eq_false.1 h s hs
  simpa using this
set_option maxRecDepth 20000 in
set_option maxHeartbeats 1000000 in
theorem jindex_any (o : Option Addr) (cap : Nat) (l : List (List UInt8)) (w : World) (hv : StrsAt w (.slice o l.length cap) l) (hn : l.length ≤ 1000000) :
    Calls Tryd.prog 56 #[.slice o l.length cap, .func (.func 29) #[] #[]] w fun e w' => ∃ k : Int, e = .returned (.int .i64 k) ∧ decide (0 ≤ k) = anyBig l ∧ w = w' := by
  obtain ⟨o', cap', e, hc⟩ := hv
  obtain ⟨rfl, _, rfl⟩ := Value.slice.inj e
  have HC := Lib.hid hc
  have hn' : (l.length : Int) ≤ 1000000 := by omega
  clear hc e
  go_enter Tryd.func56, Tryd.ntmps56
  go_wp2_with fail
  go_loopw [8] (fun s8 wr => ∃ k : Nat, k ≤ l.length ∧ s8 = .int .i64 (k : Int) ∧ Hid (anyBig (l.take k) = false ∧ w = wr)) (fun s8 _ => l.length - (intOf s8).toNat)
  case atStart => exact ⟨0, by omega, rfl, Lib.hid ⟨rfl, rfl⟩⟩
  case round =>
    obtain ⟨k, hk, rfl, HR⟩ := hrel
    obtain ⟨hbig, hww⟩ := HR.out
    subst hww
    by_cases hlt : k < l.length
    · obtain ⟨bs, off, rfl, hbs, hcell⟩ := HC.out k hlt
      obtain ⟨s, hs⟩ : ∃ s, s = l[k] := ⟨_, rfl⟩
      rw [← hs] at hcell
      have HT := Lib.hid (fun w => jtooLong_any s w)
      have HS := Lib.hid hs
      have HB := Lib.hid hbig
      have he : ∀ w, (callFunc 29 #[.string ⟨s.toArray⟩]).run Tryd.prog w = .ok (.enter 29 #[.string ⟨s.toArray⟩]) w := fun w => enters_of Tryd.func29 (by kernel_rfl) rfl _ w
      clear hs hbs hbig HC HR
      go_wp2_with fail
      refine (HT.out _).mono ?_
      rintro e w1 ⟨rfl, hww⟩
      subst hww
      by_cases hb : (s.length : Int) > 1048576
      · have hd : decide ((s.length : Int) > 1048576) = true := by simpa using hb
        have hany : anyBig l = true := by
          unfold anyBig; rw [List.any_eq_true]
          exact ⟨s, HS.out ▸ List.getElem_mem _, by simp; omega⟩
        have HA := Lib.hid hany
        clear hany hb
        go_wp2_with fail
        go_ret
        exact ⟨_, rfl, by rw [HA.out]; simp, rfl⟩
      · have hd : decide ((s.length : Int) > 1048576) = false := by simpa using hb
        have HN : Hid (anyBig (l.take (k + 1)) = false) := Lib.hid (by
          have := HB.out
          unfold anyBig at this ⊢
          rw [List.take_succ_eq_append_getElem hlt, List.any_append, this, ← HS.out]
          simp; omega)
        clear hb
        go_wp2_with fail
        go_roundw
        case rel => exact ⟨k + 1, by omega, by go_num, Lib.hid ⟨HN.out, by first | trivial | rfl⟩⟩
        case measure => simp [intOf]; omega
    · obtain rfl : k = l.length := by omega
      rw [List.take_length] at hbig
      have HA := Lib.hid hbig
      clear hbig HC HR
      go_wp2_with fail
      go_ret
      exact ⟨-1, rfl, by rw [HA.out]; decide, rfl⟩
theorem jcontains_any (o : Option Addr) (cap : Nat) (l : List (List UInt8)) (w : World) (hv : StrsAt w (.slice o l.length cap) l) (hn : l.length ≤ 1000000) :
    Calls Tryd.prog 28 #[.slice o l.length cap, .func (.func 29) #[] #[]] w fun e w' => e = .returned (.bool (anyBig l)) ∧ w = w' := by
  have H := Lib.hid (jindex_any o cap l w hv hn)
  clear hv hn
  go_enter Tryd.func28, Tryd.ntmps28
  go_wp2_with fail
  refine H.out.mono ?_
  rintro e w1 ⟨k, rfl, hk, hww⟩
  have HK := Lib.hid hk
  clear hk
  subst hww
  go_wp2_with fail
  go_ret
  exact ⟨by rw [← HK.out]; rfl, rfl⟩
def app1 (S : St) (l : List (List UInt8)) : Int × St := (dedR S (wrA S (frmsB l)), dedS S (wrA S (frmsB l)) (apX S newN (frmsB l)))
def ren1 (S : St) : Int × St := (dedR S (wrN S newN), dedS S (wrN S newN) (rnX S newN logN))
/-- What a Rewrite answers, and leaves. -/
def rwtX (S : St) (l : List (List UInt8)) : Int × St :=
  if anyBig l then (1, S) else if (app1 S l).1 ≠ 0 then app1 S l else if (syn1 (app1 S l).2 newN).1 ≠ 0 then syn1 (app1 S l).2 newN else ren1 (syn1 (app1 S l).2 newN).2
section
variable {S : St} {n : Nat}
theorem Gd.app1 (h : Gd S n) (l : List (List UInt8)) : Gd (app1 S l).2 (n + 1) := h.app newN (frmsB l) (by decide)
theorem Gd.ren1 (h : Gd S n) : Gd (ren1 S).2 (n + 1) := h.ren newN logN (by decide)
theorem Gd.rwt (h : Gd S n) (l : List (List UInt8)) : Gd (rwtX S l).2 (n + 3) := by
  unfold rwtX
  split
  · exact h.more (by omega)
  · split
    · exact (h.app1 l).more (by omega)
    · split
      · exact ((h.app1 l).syn1 newN (by decide)).more (by omega)
      · exact ((h.app1 l).syn1 newN (by decide)).ren1
end
set_option maxRecDepth 20000 in
set_option maxHeartbeats 2000000 in
theorem jrewrite_any {w : World} {d : Nat} {S : St} {F : Nat → Prop} {n : Nat} (h : DA w d S F) (gd : Gd S n) (hn : n ≤ 90000) (j : Nat) (bj : Bx w j (.pointer (some ⟨d, 0, none⟩))) (hj : ¬ F j) (o : Option Addr) (cap : Nat) (l : List (List UInt8)) (hv : StrsAt w (.slice o l.length cap) l) (hlen : l.length ≤ 900) (hT : TabAt w) :
    Calls Tryd.prog 12 #[.pointer (some ⟨j, 0, none⟩), .slice o l.length cap] w fun e w' => e = .returned (.int .i64 (rwtX S l).1) ∧ Eff w w' d (rwtX S l).2 F := by
  obtain ⟨W0, hW0, b0, b1, hb0⟩ := boxes2 w (.pointer (some ⟨j, 0, none⟩)) (.slice o l.length cap) 26 27
  have hlt := h.lt
  have hsz := hb0.size
  have hsz2 : W0.heap.size = w.heap.size + 2 := by rw [hW0]; simp
  have ng : ∀ i, w.heap.size ≤ i → ¬ F i := fun i hi hf => by have := hlt i hf; omega
  have hv0 := StrsJ.old hv hb0
  have HTL := Lib.hid (jcontains_any o cap l W0 hv0 (by omega))
  have cs : W0.cell? ⟨w.heap.size + 1, 0, none⟩ = some (.slice o l.length cap) := b1.cell
  by_cases hbig : anyBig l = true
  · have e : rwtX S l = (1, S) := by unfold rwtX; rw [if_pos hbig]
    rw [hbig] at HTL
    rw [e]
    have HE : Hid (Eff w W0 d S F) := Lib.hid (Eff.of (h.old hb0) ((Mod.of_below hb0).mono (fun i hi h => by omega)))
    clear h gd bj hj hT b0 b1 hb0 hlt hsz hsz2 ng hbig e hv hv0
    go_enter Tryd.func12, Tryd.ntmps12
    go_upto_region 1 with fail
    rw [← hW0]
    clear hW0
    go_wp2_with fail
    refine HTL.out.mono ?_
    rintro e w1 ⟨rfl, hww⟩
    have HE1 : Hid (Eff w w1 d S F) := Lib.hid (hww ▸ HE.out)
    clear hww
    go_wp2_with fail
    go_ret
    exact ⟨rfl, HE1.out⟩
  have hbf : anyBig l = false := by simpa using hbig
  have hll := anyBig_false hbf
  rw [hbf] at HTL
  obtain ⟨A, hA⟩ : ∃ A : Array Value, A = #[.func (.func 31) #[] #[.pointer (some ⟨w.heap.size, 0, none⟩), .pointer (some ⟨w.heap.size + 1, 0, none⟩)], .func (.func 33) #[] #[.pointer (some ⟨w.heap.size, 0, none⟩)], .func (.func 35) #[] #[.pointer (some ⟨w.heap.size, 0, none⟩)]] := ⟨_, rfl⟩
  obtain ⟨W1, hW1⟩ : ∃ W, W = W0.alloc (.cells A 68) := ⟨_, rfl⟩
  have hb1 : Below W0.heap.size W0 W1 := by rw [hW1]; exact (Below.refl _ _).alloc (Nat.le_refl _) _
  have hrow : W1.heap[W0.heap.size]? = some (.cells A 68 (0, 0)) := by rw [hW1]; exact heap_alloc_new _ _
  have h1 : DA W1 d S F := (h.old hb0).old hb1
  have hm : Mod F w W1 := (Mod.of_below (hb0.trans (hb1.mono hsz))).mono (fun i hi h => by omega)
  have c0 := b0.old hb1
  have c1 := b1.old hb1
  have cj := (bj.old hb0).old hb1
  have hT1 := TabJ.old (TabJ.old hT hb0) hb1
  have hv1 := StrsJ.old hv0 hb1
  obtain ⟨D, hD⟩ : ∃ D : List (FuncId × Array Value), D = [(31, #[.pointer (some ⟨w.heap.size, 0, none⟩), .pointer (some ⟨w.heap.size + 1, 0, none⟩)]), (33, #[.pointer (some ⟨w.heap.size, 0, none⟩)]), (35, #[.pointer (some ⟨w.heap.size, 0, none⟩)])] := ⟨_, rfl⟩
  have hDl : D.length = 3 := by rw [hD]; rfl
  have ok0 : Ok S := gd.ok (by omega)
  have ok1 : Ok (app1 S l).2 := (gd.app1 l).ok (by omega)
  have ok2 : Ok (syn1 (app1 S l).2 newN).2 := ((gd.app1 l).syn1 newN (by decide)).ok (by omega)
  have HT := jinTurn_any W0.heap.size 3 D W1
    (fun i wi => (i = 0 → wi = W1) ∧ (i = 1 → Eff W1 wi d (app1 S l).2 F) ∧ (i = 2 → Eff W1 wi d (syn1 (app1 S l).2 newN).2 F) ∧ (i = 3 → Eff W1 wi d (ren1 (syn1 (app1 S l).2 newN).2).2 F) ∧ (1 ≤ i → (app1 S l).1 = 0) ∧ (2 ≤ i → (syn1 (app1 S l).2 newN).1 = 0) ∧ (3 ≤ i → (ren1 (syn1 (app1 S l).2 newN).2).1 = 0) ∧ wi.heap[W0.heap.size]? = some (.cells A 68 (0, 0)))
    (fun r w' => r = (rwtX S l).1 ∧ Eff W1 w' d (rwtX S l).2 F) (by omega)
    ⟨fun _ => rfl, fun h => absurd h (by omega), fun h => absurd h (by omega), fun h => absurd h (by omega), fun h => absurd h (by omega), fun h => absurd h (by omega), fun h => absurd h (by omega), hrow⟩
    ?c ?e ?d ?q
  case c =>
    rintro i hi wi ⟨_, _, _, _, _, _, _, hr⟩
    have : i = 0 ∨ i = 1 ∨ i = 2 := by omega
    subst hD
    rw [hA] at hr
    rcases this with rfl | rfl | rfl <;> (unfold World.cell?; rw [hr]; rfl)
  case e =>
    intro i hi w2
    have : i = 0 ∨ i = 1 ∨ i = 2 := by omega
    subst hD
    rcases this with rfl | rfl | rfl
    · exact enters_of Tryd.func31 (by kernel_rfl) rfl _ w2
    · exact enters_of Tryd.func33 (by kernel_rfl) rfl _ w2
    · exact enters_of Tryd.func35 (by kernel_rfl) rfl _ w2
  case d =>
    rintro i hi wi ⟨e0, e1, e2, _, z1, z2, _, hr⟩
    have hi3 : i = 0 ∨ i = 1 ∨ i = 2 := by omega
    subst hD
    rcases hi3 with rfl | rfl | rfl
    · obtain rfl := e0 rfl
      refine (jrewrite1_any h1 ok0 _ _ j c0 cj l o l.length cap c1 hv1 hlen hll hT1).mono ?_
      rintro e w' ⟨rfl, hE3⟩
      refine ⟨_, rfl, fun hz => ⟨fun h => absurd h (by omega), fun _ => hE3, fun h => absurd h (by omega), fun h => absurd h (by omega), fun _ => hz, fun h => absurd h (by omega), fun h => absurd h (by omega), Eff.row hE3 hrow (ng _ (by omega))⟩, fun hz => ?_⟩
      have e : rwtX S l = app1 S l := by unfold rwtX; rw [if_neg hbig, if_pos (show (app1 S l).1 ≠ 0 from hz)]
      rw [e]; exact ⟨rfl, hE3⟩
    · have hE := e1 rfl
      have k0 := hE.bx c0 (ng _ (by omega))
      have kj := hE.bx cj hj
      obtain ⟨F', hA', hF', hm'⟩ := hE
      refine (jsyncR_any hA' ok1 _ j k0 kj).mono ?_
      rintro e w' ⟨rfl, hE2⟩
      have hE3 : Eff W1 w' d (syn1 (app1 S l).2 newN).2 F := Eff.next hF' hm' hE2
      have z1 := z1 (by omega)
      refine ⟨_, rfl, fun hz => ⟨fun h => absurd h (by omega), fun h => absurd h (by omega), fun _ => hE3, fun h => absurd h (by omega), fun _ => z1, fun _ => hz, fun h => absurd h (by omega), hE3.row hrow (ng _ (by omega))⟩, fun hz => ?_⟩
      have e : rwtX S l = syn1 (app1 S l).2 newN := by unfold rwtX; rw [if_neg hbig, if_neg (by simp [z1]), if_pos (show (syn1 (app1 S l).2 newN).1 ≠ 0 from hz)]
      rw [e]; exact ⟨rfl, hE3⟩
    · have hE := e2 rfl
      have k0 := hE.bx c0 (ng _ (by omega))
      have kj := hE.bx cj hj
      obtain ⟨F', hA', hF', hm'⟩ := hE
      refine (jrenR_any hA' ok2 _ j k0 kj).mono ?_
      rintro e w' ⟨rfl, hE2⟩
      have hE3 : Eff W1 w' d (ren1 (syn1 (app1 S l).2 newN).2).2 F := Eff.next hF' hm' hE2
      have z1 := z1 (by omega)
      have z2 := z2 (by omega)
      have e : rwtX S l = ren1 (syn1 (app1 S l).2 newN).2 := by unfold rwtX; rw [if_neg hbig, if_neg (by simp [z1]), if_neg (by simp [z2])]
      refine ⟨_, rfl, fun hz => ⟨fun h => absurd h (by omega), fun h => absurd h (by omega), fun h => absurd h (by omega), fun _ => hE3, fun _ => z1, fun _ => z2, fun _ => hz, hE3.row hrow (ng _ (by omega))⟩, fun hz => ?_⟩
      rw [e]; exact ⟨rfl, hE3⟩
  case q =>
    rintro w' ⟨_, _, _, e3, z1, z2, z3, _⟩
    rw [hDl] at e3 z1 z2 z3
    have e : rwtX S l = ren1 (syn1 (app1 S l).2 newN).2 := by unfold rwtX; rw [if_neg hbig, if_neg (by simp [z1]), if_neg (by simp [z2])]
    rw [e]
    exact ⟨(z3 (by omega)).symm, e3 rfl⟩
  rw [hDl, hsz2] at HT
  have HQ := Lib.hid HT
  have HM := Lib.hid hm
  rw [hA] at hW1
  clear HT h gd b0 b1 hb0 hb1 hrow hlt ng h1 hm c0 c1 hD hDl ok0 ok1 ok2 hA bj hj cj hT hT1 hbig hbf hll hv hv0 hv1
  go_enter Tryd.func12, Tryd.ntmps12
  go_upto_region 1 with fail
  rw [← hW0]
  clear hW0
  go_wp2_with fail
  refine HTL.out.mono ?_
  rintro e w1 ⟨rfl, hww⟩
  subst hww
  go_wp2_with fail
  rw [← hW1]
  refine HQ.out.mono ?_
  rintro e w1 ⟨r, rfl, rfl, hE⟩
  have HE := Lib.hid (Eff.trans HM.out hE)
  clear hE hW1
  go_wp2_with fail
  go_ret
  exact ⟨rfl, HE.out⟩
end Go.Proofs.YtippakeemfldfaaDoor

namespace Go.Proofs.YtippakeemfldfaaDoor
open Go.RowKit

theorem new_lt_log : ¬ ((newN : List UInt8) < logN) := by decide
theorem JS.rwt {rm dd : Int} {l : List (List UInt8)} {b : Bool} (hb : b = false → l = []) (l' : List (List UInt8)) (hl : ∀ s ∈ l', s.length ≤ 1048576) (hf : ((frmsB l).length : Int) + (frmsB l').length ≤ rm) : rwtX (JS rm dd l b) l' = (0, JS rm (dd + 3) l' true) := by
  have hbig : anyBig l' = false := by
    unfold anyBig
    rw [List.any_eq_false]
    intro s hs
    have := hl s hs
    simp; omega
  have hw : wrA (JS rm dd l b) (frmsB l') = 0 := by unfold wrA; rw [JS.used hb, if_neg (by show ¬ (((frmsB l').length : Nat) : Int) > rm - _; omega)]
  obtain ⟨fr, hfr⟩ : ∃ fr, fr = frmsB l' := ⟨_, rfl⟩
  have e1 : app1 (JS rm dd l b) l' = (0, ⟨rm, dd + 1, -1, false, LX l b ++ [(newN, fr, 0)]⟩) := by
    unfold app1 dedR dedS
    rw [hw, ← hfr]
    cases b <;> simp [JS, LX, lfX, apX, fiX, withX, wo, insX, new_lt_log]
  have e2 : syn1 ⟨rm, dd + 1, -1, false, LX l b ++ [(newN, fr, 0)]⟩ newN = (0, ⟨rm, dd + 2, -1, false, LX l b ++ [(newN, fr, fr.length)]⟩) := by
    unfold syn1 dedR dedS wrN syX
    cases b <;> simp [LX, lfX, hasX, fiX, withX, wo, insX, new_lt_log] <;> omega
  have e3 : ren1 ⟨rm, dd + 2, -1, false, LX l b ++ [(newN, fr, fr.length)]⟩ = (0, JS rm (dd + 3) l' true) := by
    unfold ren1 dedR dedS wrN rnX
    cases b <;> simp [JS, LX, lfX, hasX, fiX, withX, wo, insX, hfr] <;> omega
  unfold rwtX
  rw [hbig, if_neg (by simp), e1, if_neg (by simp), e2, if_neg (by simp)]
  exact e3
theorem JS.rwt_big {S : St} {l' : List (List UInt8)} (h : anyBig l' = true) : rwtX S l' = (1, S) := by unfold rwtX; rw [if_pos h]
section
variable {w0 w w' : World} {d j n : Nat} {S : St}
theorem JD.rewrite (h : JD w0 w d j S) (gd : Gd S n) (hn : n ≤ 90000) (o : Option Addr) (cap : Nat) (l : List (List UInt8)) (hv : StrsAt w (.slice o l.length cap) l) (hlen : l.length ≤ 900) (hT : TabAt w0) :
    Calls Tryd.prog 12 #[.pointer (some ⟨j, 0, none⟩), .slice o l.length cap] w fun e w' => e = .returned (.int .i64 (rwtX S l).1) ∧ JD w0 w' d j (rwtX S l).2 := by
  obtain ⟨F, hA, hF, hB, hx, hj, hl⟩ := h
  refine (jrewrite_any hA gd hn j hx hj o cap l hv hlen (TabJ.old hT hB)).mono ?_
  rintro e w' ⟨rfl, hE⟩
  have hE2 := hE
  obtain ⟨F', hA', hF', hm⟩ := hE
  refine ⟨rfl, F', hA', fun i hi => (hF' i hi).elim (hF i) (fun h => Nat.le_trans hB.size h), hB.trans (hm.to_below hB.size (fun k hk h => by have := hF k h; omega)), hE2.bx hx hj, fun hf => ?_, hl⟩
  rcases hF' j hf with h | h
  · exact hj h
  · have := hx.lt; omega
end
end Go.Proofs.YtippakeemfldfaaDoor

namespace Go.Proofs.YtippakeemfldfaaDoor
open Go.RowKit

theorem opn_part {rm dd : Int} {A B : List UInt8} {l : List (List UInt8)} {m : Nat} (hw : whoB (A.length + 1) A = some (l, m)) (hm : m ≤ A.length) :
    ∃ dd', opnX ⟨rm, dd, -1, false, [(logN, A, 0), (newN, B, 0)]⟩ = (some l, 0, ⟨rm, dd', -1, false, [(logN, A.take m, m)]⟩) := by
  have hr : (rdX ⟨rm, dd, -1, false, [(logN, A, 0), (newN, B, 0)]⟩ logN).1 = A := by simp [rdX, hasX, fiX]
  have h1 : td1 ⟨rm, dd, -1, false, [(logN, A, 0), (newN, B, 0)]⟩ = (0, ⟨rm, dd + 1, -1, false, [(logN, A, 0)]⟩) := by
    unfold td1 dedR dedS wrN
    simp [hasX, lfX, wo]
  have h2 : ∃ d2, td2 ⟨rm, dd + 1, -1, false, [(logN, A, 0)]⟩ (m : Nat) (A.length : Nat) = (0, ⟨rm, d2, -1, false, [(logN, A.take m, 0)]⟩) := by
    by_cases he : m = A.length
    · refine ⟨dd + 1, ?_⟩
      unfold td2
      rw [if_pos (by rw [he]), he, List.take_length]
    · refine ⟨dd + 1 + 1, ?_⟩
      unfold td2
      rw [if_neg (by omega)]
      have hw1 : wrC ⟨rm, dd + 1, -1, false, [(logN, A, 0)]⟩ logN (m : Nat) = 0 := by
        unfold wrC
        simp [hasX, fiX]; omega
      unfold dedR dedS
      rw [hw1]
      simp [lfX, cuX, fiX, withX, wo, insX]
  obtain ⟨d2, h2⟩ := h2
  have h3 : ∃ d3, td3 ⟨rm, d2, -1, false, [(logN, A.take m, 0)]⟩ = (0, ⟨rm, d3, -1, false, [(logN, A.take m, m)]⟩) := by
    have hl : (A.take m).length = m := by rw [List.length_take]; omega
    by_cases h0 : m = 0
    · subst h0
      exact ⟨d2, by unfold td3; rw [if_pos (by simp [fiX])]⟩
    · refine ⟨d2 + 1, ?_⟩
      unfold td3
      have hf : fiX logN [(logN, A.take m, 0)] = (logN, A.take m, 0) := by simp [fiX]
      rw [show (⟨rm, d2, -1, false, [(logN, A.take m, 0)]⟩ : St).X = [(logN, A.take m, 0)] from rfl, hf, if_neg (by show ¬ ((A.take m).length - 0 = 0); omega)]
      unfold dedR dedS wrN syX
      simp [hasX, lfX, fiX, withX, wo, insX]
      omega
  obtain ⟨d3, h3⟩ := h3
  refine ⟨d3, ?_⟩
  unfold opnX
  rw [if_neg (by simp), hr, hw]
  simp only
  have ht : tidyX ⟨rm, dd, -1, false, [(logN, A, 0), (newN, B, 0)]⟩ (m : Nat) (A.length : Nat) = (0, ⟨rm, d3, -1, false, [(logN, A.take m, m)]⟩) := by
    unfold tidyX; rw [h1, if_neg (by simp), h2, if_neg (by simp)]; exact h3
  rw [ht, if_neg (by simp)]
theorem opn_bad {S : St} (hd : S.dn = false) (hw : whoB ((rdX S logN).1.length + 1) (rdX S logN).1 = none) : opnX S = (none, 19, S) := by
  unfold opnX
  rw [if_neg (by simp [hd]), hw]
end Go.Proofs.YtippakeemfldfaaDoor

namespace Go.Proofs.YtippakeemfldfaaDoor
open Go.RowKit

theorem frmsB_split (T : List (List UInt8)) (k : Nat) : frmsB T = frmsB (T.take k) ++ frmsB (T.drop k) := by
  unfold frmsB; rw [← List.flatMap_append, List.take_append_drop]
theorem frmsB_count (l : List (List UInt8)) : l.length ≤ (frmsB l).length := by
  induction l with
  | nil => exact Nat.le_refl _
  | cons s l ih =>
    have e : frmsB (s :: l) = frmB s ++ frmsB l := rfl
    rw [e, List.length_append, frmB_len, List.length_cons]; omega
/-- Of the first c bytes of T's frames, k whole ones. -/
theorem whoB_cut {T : List (List UInt8)} (hT : ∀ s ∈ T, s.length ≤ 1048576) (c k : Nat) (hc : c ≤ (frmsB T).length) (hk : k ≤ T.length) (h1 : (frmsB (T.take k)).length ≤ c) (h2 : k < T.length → c < (frmsB (T.take (k + 1))).length) :
    whoB (((frmsB T).take c).length + 1) ((frmsB T).take c) = some (T.take k, (frmsB (T.take k)).length) ∧ ((frmsB T).take c).take (frmsB (T.take k)).length = frmsB (T.take k) := by
  have hl : ((frmsB T).take c).length = c := by rw [List.length_take]; omega
  have hcnt := frmsB_count (T.take k)
  have hT2 : ∀ s ∈ T.take k, s.length ≤ 1048576 := fun s hs => hT s (List.mem_of_mem_take hs)
  have key : ∃ t, fstB t = ([], false, 0) ∧ (frmsB T).take c = frmsB (T.take k) ++ t := by
    by_cases hkt : k < T.length
    · have h2 := h2 hkt
      have hs : (T.take (k + 1)) = T.take k ++ [T[k]] := List.take_succ_eq_append_getElem hkt
      rw [hs, frmsB_snoc, List.length_append, frmB_len] at h2
      refine ⟨(frmB T[k]).take (c - (frmsB (T.take k)).length), fstB_part _ (hT _ (List.getElem_mem _)) _ (by omega), ?_⟩
      have hd : T.drop k = T[k] :: T.drop (k + 1) := List.drop_eq_getElem_cons hkt
      rw [frmsB_split T k, hd, show frmsB (T[k] :: T.drop (k + 1)) = frmB T[k] ++ frmsB (T.drop (k + 1)) from rfl, List.take_append, List.take_of_length_le h1, List.take_append]
      congr 1
      rw [show c - (frmsB (T.take k)).length - (frmB T[k]).length = 0 by rw [frmB_len]; omega, List.take_zero, List.append_nil]
    · have e : T.take k = T := List.take_of_length_le (by omega)
      rw [e] at h1 ⊢
      exact ⟨[], rfl, by rw [List.append_nil, List.take_of_length_le (by omega)]⟩
  obtain ⟨t, ht, e⟩ := key
  rw [hl, e]
  exact ⟨whoB_tail hT2 t ht _ (by omega), List.take_left' rfl⟩
end Go.Proofs.YtippakeemfldfaaDoor

namespace Go.Proofs.YtippakeemfldfaaDoor
open Go.RowKit

/-- A file, if it is there: its bytes, how many are synced. -/
abbrev FO := Option (List UInt8 × Nat)
def foX (k : List UInt8) : FO → List FX
  | none => []
  | some p => [(k, p.1, p.2)]
/-- The files of a disk that holds a journal, and what is to take its place. -/
def X2 (a b : FO) : List FX := foX logN a ++ foX newN b
def foD (a : FO) : List UInt8 × Nat := a.getD ([], 0)
theorem X2.hasL (a b : FO) : hasX logN (X2 a b) = a.isSome := by cases a <;> cases b <;> simp [X2, foX, hasX]
theorem X2.hasN (a b : FO) : hasX newN (X2 a b) = b.isSome := by cases a <;> cases b <;> simp [X2, foX, hasX]
theorem X2.fiL (a b : FO) : fiX logN (X2 a b) = (logN, (foD a).1, (foD a).2) := by cases a <;> cases b <;> simp [X2, foX, fiX, foD]
theorem X2.fiN (a b : FO) : fiX newN (X2 a b) = (newN, (foD b).1, (foD b).2) := by cases a <;> cases b <;> simp [X2, foX, fiX, foD]
theorem ln_lt : logN < newN := by decide
theorem ln_le : logN ≤ newN := by decide
theorem X2.withL (a b : FO) (A : List UInt8) (n : Nat) : withX (logN, A, n) (X2 a b) = X2 (some (A, n)) b := by
  cases a <;> cases b <;> simp [X2, foX, withX, wo, insX, ln_lt, ln_le]
theorem X2.withN (a b : FO) (A : List UInt8) (n : Nat) : withX (newN, A, n) (X2 a b) = X2 a (some (A, n)) := by
  cases a <;> cases b <;> simp [X2, foX, withX, wo, insX, ln_lt, ln_le]
theorem X2.woN (a b : FO) : wo newN (X2 a b) = X2 a none := by cases a <;> cases b <;> simp [X2, foX, wo]
theorem X2.used (a b : FO) : usedX (X2 a b) = (foD a).1.length + (foD b).1.length := by cases a <;> cases b <;> simp [X2, foX, usedX, foD]
theorem X2.nil : X2 none none = [] := rfl
theorem X2.lx (l : List (List UInt8)) : X2 (some (frmsB l, (frmsB l).length)) none = LX l true := rfl
def wfO (a : FO) : Prop := (foD a).2 ≤ (foD a).1.length
theorem wfO.none : wfO none := Nat.le_refl _
/-- What a crash leaves of a file. -/
def Crs (a a' : FO) : Prop := a'.isSome = a.isSome ∧ ∃ m, (foD a).2 ≤ m ∧ m ≤ (foD a).1.length ∧ foD a' = ((foD a).1.take m, m)
theorem crX_one (k : List UInt8) (a : FO) (h : wfO a) (ch : List Int) (Y : List FX) : ∃ a' ch', crX ch (foX k a ++ Y) = foX k a' ++ crX ch' Y ∧ Crs a a' := by
  cases a with
  | none => exact ⟨none, ch, rfl, rfl, 0, Nat.le_refl _, Nat.le_refl _, rfl⟩
  | some p =>
    obtain ⟨A, n⟩ := p
    have h' : n ≤ A.length := h
    by_cases h0 : A.length - n = 0
    · refine ⟨some (A, n), ch, ?_, rfl, n, Nat.le_refl _, h', ?_⟩
      · show crX ch ((k, A, n) :: Y) = _
        rw [crX, if_pos h0]; rfl
      · have : A.take n = A := List.take_of_length_le (by omega)
        simp [foD, this]
    · have hs := stN_le (k, A, n) (ch.headD 0)
      simp only at hs
      refine ⟨some (A.take (n + stN (k, A, n) (ch.headD 0)), n + stN (k, A, n) (ch.headD 0)), ch.tail, ?_, rfl, n + stN (k, A, n) (ch.headD 0), ?_, ?_, rfl⟩
      · show crX ch ((k, A, n) :: Y) = _
        rw [crX, if_neg h0]; rfl
      · show n ≤ _; omega
      · show _ ≤ A.length; omega
theorem X2.cr (a b : FO) (ha : wfO a) (hb : wfO b) (ch : List Int) : ∃ a' b', crX ch (X2 a b) = X2 a' b' ∧ Crs a a' ∧ Crs b b' := by
  obtain ⟨a', ch', e1, h1⟩ := crX_one logN a ha ch (foX newN b)
  obtain ⟨b', ch2, e2, h2⟩ := crX_one newN b hb ch' []
  refine ⟨a', b', ?_, h1, h2⟩
  unfold X2
  rw [e1]
  rw [List.append_nil] at e2
  rw [e2]
  simp [crX]
theorem Crs.wf {a a' : FO} (h : Crs a a') : wfO a' := by
  obtain ⟨_, m, h1, h2, h3⟩ := h
  unfold wfO
  rw [h3]
  simp only [List.length_take]; omega
/-- These bytes read as R, and are cut to R's frames. -/
def Rds (A : List UInt8) (R : List (List UInt8)) : Prop := whoB (A.length + 1) A = some (R, (frmsB R).length) ∧ A.take (frmsB R).length = frmsB R ∧ (frmsB R).length ≤ A.length
def Small (l : List (List UInt8)) : Prop := ∀ s ∈ l, s.length ≤ 1048576
theorem Rds.self {l : List (List UInt8)} (hl : Small l) : Rds (frmsB l) l := by
  refine ⟨whoB_frms hl _ ?_, List.take_length, Nat.le_refl _⟩
  have := frmsB_count l
  omega
/-- Whatever of what isn't synced stays: l or v is read. -/
structure Sf (l v : List (List UInt8)) (a : FO) : Prop where
  wf : wfO a
  rd : ∀ c, (foD a).2 ≤ c → c ≤ (foD a).1.length → ∃ R, (R = l ∨ R = v) ∧ Rds ((foD a).1.take c) R
section
variable {l v : List (List UInt8)}
theorem Sf.crash {a a' : FO} (h : Sf l v a) (hc : Crs a a') : Sf l v a' := by
  refine ⟨hc.wf, ?_⟩
  obtain ⟨_, m, h1, h2, h3⟩ := hc
  rw [h3]
  intro c c1 c2
  simp only [List.length_take] at c1 c2
  rw [List.take_take, show min c m = m by omega]
  exact h.rd m h1 h2
theorem Sf.good (hl : Small l) : Sf l v (some (frmsB l, (frmsB l).length)) := by
  refine ⟨Nat.le_refl _, fun c c1 c2 => ⟨l, .inl rfl, ?_⟩⟩
  have e : c = (frmsB l).length := Nat.le_antisymm c2 c1
  rw [e]
  show Rds ((frmsB l).take _) l
  rw [List.take_length]
  exact Rds.self hl
theorem Sf.goodR (hv : Small v) : Sf l v (some (frmsB v, (frmsB v).length)) := by
  have h : Sf v l (some (frmsB v, (frmsB v).length)) := Sf.good hv
  exact ⟨h.wf, fun c c1 c2 => by obtain ⟨R, h1, h2⟩ := h.rd c c1 c2; exact ⟨R, h1.symm, h2⟩⟩
theorem Sf.nil (hl : l = []) : Sf l v none := by
  refine ⟨Nat.le_refl _, fun c c1 c2 => ⟨l, .inl rfl, ?_⟩⟩
  subst hl
  have e : c = 0 := Nat.le_antisymm c2 (Nat.zero_le _)
  subst e
  exact ⟨rfl, rfl, Nat.le_refl _⟩
theorem Sf.tail {s : List UInt8} (hl : Small l) (hs : s.length ≤ 1048576) (n : Nat) (h1 : (frmsB l).length ≤ n) (h2 : n ≤ (frmsB l ++ frmB s).length) : Sf l (l ++ [s]) (some (frmsB l ++ frmB s, n)) := by
  have hT : ∀ x ∈ l ++ [s], x.length ≤ 1048576 := by
    intro x hx
    rcases List.mem_append.1 hx with hx | hx
    · exact hl x hx
    · rw [List.mem_singleton.1 hx]; exact hs
  have hfb := frmsB_snoc l s
  refine ⟨h2, fun c c1 c2 => ?_⟩
  simp only [foD, Option.getD_some] at c1 c2 ⊢
  rw [← hfb] at c2 ⊢
  by_cases hc : c = (frmsB (l ++ [s])).length
  · refine ⟨l ++ [s], .inr rfl, ?_⟩
    rw [hc, List.take_length]
    exact Rds.self hT
  · refine ⟨l, .inl rfl, ?_⟩
    have h := whoB_cut hT c l.length c2 (by simp) (by rw [List.take_left]; omega) (fun _ => by
      rw [List.take_of_length_le (by simp)]; omega)
    rw [List.take_left] at h
    exact ⟨h.1, h.2, by rw [List.length_take]; omega⟩
/-- Cut to the frames that are read. -/
theorem Sf.cut {A : List UInt8} {n : Nat} (h : Sf l v (some (A, n))) (hl : Small l) (hv : Small v) {R : List (List UInt8)} (hR : R = l ∨ R = v) (hr : Rds A R) : Sf l v (some (A.take (frmsB R).length, min n (frmsB R).length)) := by
  have hSR : Small R := by rcases hR with rfl | rfl <;> assumption
  have hw : n ≤ A.length := h.wf
  refine ⟨?_, fun c c1 c2 => ?_⟩
  · show min n _ ≤ (A.take _).length
    rw [hr.2.1]; omega
  simp only [foD, Option.getD_some] at c1 c2 ⊢
  rw [hr.2.1] at c2
  by_cases hn : n ≤ c
  · obtain ⟨R', h1, h2⟩ := h.rd c hn (by have := hr.2.2; show c ≤ A.length; omega)
    refine ⟨R', h1, ?_⟩
    rw [List.take_take, show min c (frmsB R).length = c by omega]
    exact h2
  · have e : c = (frmsB R).length := by omega
    refine ⟨R, hR, ?_⟩
    rw [e, List.take_take, Nat.min_self, hr.2.1]
    exact Rds.self hSR
theorem Sf.sync {A : List UInt8} {n : Nat} (h : Sf l v (some (A, n))) : Sf l v (some (A, A.length)) := by
  refine ⟨Nat.le_refl _, fun c c1 c2 => ?_⟩
  simp only [foD, Option.getD_some] at c1 c2 ⊢
  exact h.rd c (Nat.le_trans h.wf c1) c2
end
/-- The step of a deed. -/
theorem ded_cases (rm dd lf : Int) (X : List FX) (wr : Int) (X' : List FX) (hw : wr ≠ 6) :
    (wr ≠ 0 ∧ dedR ⟨rm, dd, lf, false, X⟩ wr = wr ∧ dedS ⟨rm, dd, lf, false, X⟩ wr X' = ⟨rm, dd, lf, false, X⟩) ∨
    (wr = 0 ∧ lf = 0 ∧ dedR ⟨rm, dd, lf, false, X⟩ wr = 6 ∧ dedS ⟨rm, dd, lf, false, X⟩ wr X' = ⟨rm, dd, lf, true, X⟩) ∨
    (wr = 0 ∧ lf ≠ 0 ∧ dedR ⟨rm, dd, lf, false, X⟩ wr = 0 ∧ dedS ⟨rm, dd, lf, false, X⟩ wr X' = ⟨rm, dd + 1, lfX lf, false, X'⟩) := by
  by_cases h0 : wr = 0
  · by_cases h1 : lf = 0
    · exact .inr (.inl ⟨h0, h1, by unfold dedR; simp [h0, h1], by unfold dedS; simp [h0, h1]⟩)
    · exact .inr (.inr ⟨h0, h1, by unfold dedR; simp [h0, h1], by unfold dedS; simp [h0, h1]⟩)
  · exact .inl ⟨h0, by unfold dedR; simp [h0], by unfold dedS; simp [h0]⟩
end Go.Proofs.YtippakeemfldfaaDoor

namespace Go.Proofs.YtippakeemfldfaaDoor
open Go.RowKit

theorem rd_log (rm dd lf : Int) (a b : FO) : (rdX ⟨rm, dd, lf, false, X2 a b⟩ logN).1 = (foD a).1 := by
  unfold rdX
  rw [if_neg (by simp), X2.hasL, X2.fiL]
  cases a <;> rfl
theorem td1_cases (rm dd lf : Int) (a b : FO) : (lf = 0 ∧ td1 ⟨rm, dd, lf, false, X2 a b⟩ = (6, ⟨rm, dd, lf, true, X2 a b⟩)) ∨ ∃ dd' lf', td1 ⟨rm, dd, lf, false, X2 a b⟩ = (0, ⟨rm, dd', lf', false, X2 a none⟩) ∧ (lf = -1 → lf' = -1) := by
  have hw : wrN ⟨rm, dd, lf, false, X2 a b⟩ newN = if b.isSome then 0 else 7 := by unfold wrN; rw [X2.hasN]
  unfold td1
  rw [hw, X2.woN]
  rcases ded_cases rm dd lf (X2 a b) (if b.isSome then 0 else 7) (X2 a none) (by split <;> decide) with ⟨h1, h2, h3⟩ | ⟨h1, h2, h3, h4⟩ | ⟨h1, h2, h3, h4⟩
  · have hb : b = none := by cases b with | none => rfl | some _ => exact absurd rfl h1
    subst hb
    rw [h2, h3]
    exact .inr ⟨dd, lf, rfl, fun h => h⟩
  · rw [h3, h4]
    exact .inl ⟨h2, rfl⟩
  · rw [h3, h4]
    exact .inr ⟨dd + 1, lfX lf, rfl, fun h => by rw [h]; rfl⟩
section
variable {l v : List (List UInt8)} {R : List (List UInt8)} {a : FO}
theorem td2_cases (rm dd lf : Int) (h : Sf l v a) (hl : Small l) (hv : Small v) (hR : R = l ∨ R = v) (hr : Rds (foD a).1 R) :
    (lf = 0 ∧ td2 ⟨rm, dd, lf, false, X2 a none⟩ ((frmsB R).length : Nat) ((foD a).1.length : Nat) = (6, ⟨rm, dd, lf, true, X2 a none⟩)) ∨
    ∃ a' dd' lf', td2 ⟨rm, dd, lf, false, X2 a none⟩ ((frmsB R).length : Nat) ((foD a).1.length : Nat) = (0, ⟨rm, dd', lf', false, X2 a' none⟩) ∧ Sf l v a' ∧ (foD a').1 = frmsB R ∧ a'.isSome = a.isSome ∧ (lf = -1 → lf' = -1) := by
  unfold td2
  by_cases he : (frmsB R).length = (foD a).1.length
  · rw [if_pos (by rw [he])]
    refine .inr ⟨a, dd, lf, rfl, h, ?_, rfl, fun h => h⟩
    rw [← hr.2.1, he, List.take_length]
  rw [if_neg (by omega)]
  cases a with
  | none => have := hr.2.2; exact absurd (Nat.le_antisymm this (Nat.zero_le _)) he
  | some p =>
    obtain ⟨A, n⟩ := p
    simp only [foD, Option.getD_some] at hr he ⊢
    have hle := hr.2.2
    have hw : wrC ⟨rm, dd, lf, false, X2 (some (A, n)) none⟩ logN ((frmsB R).length : Nat) = 0 := by
      unfold wrC
      rw [X2.hasL, X2.fiL]
      refine (if_pos (show (some (A, n)).isSome = true from rfl)).trans ?_
      exact if_neg (by show ¬ (((frmsB R).length : Int) < 0 ∨ (A.length : Int) < ((frmsB R).length : Int)); omega)
    have hx : cuX ⟨rm, dd, lf, false, X2 (some (A, n)) none⟩ logN (frmsB R).length = X2 (some (A.take (frmsB R).length, min n (frmsB R).length)) none := by
      unfold cuX
      rw [X2.fiL]
      exact X2.withL _ _ _ _
    rw [Int.toNat_natCast, hw, hx]
    rcases ded_cases rm dd lf (X2 (some (A, n)) none) 0 (X2 (some (A.take (frmsB R).length, min n (frmsB R).length)) none) (by decide) with ⟨h1, _, _⟩ | ⟨_, h2, h3, h4⟩ | ⟨_, h2, h3, h4⟩
    · exact absurd rfl h1
    · rw [h3, h4]
      exact .inl ⟨h2, rfl⟩
    · rw [h3, h4]
      exact .inr ⟨_, dd + 1, lfX lf, rfl, h.cut hl hv hR hr, hr.2.1, rfl, fun h => by rw [h]; rfl⟩
theorem td3_cases (rm dd lf : Int) (h : Sf l v a) (ha : (foD a).1 = frmsB R) :
    (lf = 0 ∧ td3 ⟨rm, dd, lf, false, X2 a none⟩ = (6, ⟨rm, dd, lf, true, X2 a none⟩)) ∨
    ∃ a' dd' lf', td3 ⟨rm, dd, lf, false, X2 a none⟩ = (0, ⟨rm, dd', lf', false, X2 a' none⟩) ∧ Sf l v a' ∧ foD a' = (frmsB R, (frmsB R).length) ∧ a'.isSome = a.isSome ∧ (lf = -1 → lf' = -1) := by
  unfold td3
  rw [X2.fiL]
  simp only
  by_cases he : (foD a).1.length - (foD a).2 = 0
  · rw [if_pos he]
    have hw : (foD a).2 ≤ (foD a).1.length := h.wf
    refine .inr ⟨a, dd, lf, rfl, h, ?_, rfl, fun h => h⟩
    rw [← ha]
    exact Prod.ext rfl (show (foD a).2 = (foD a).1.length by omega)
  rw [if_neg he]
  cases a with
  | none => exact absurd rfl he
  | some p =>
    obtain ⟨A, n⟩ := p
    simp only [foD, Option.getD_some] at ha he ⊢
    have hw : wrN ⟨rm, dd, lf, false, X2 (some (A, n)) none⟩ logN = 0 := by unfold wrN; rw [X2.hasL]; rfl
    have hx : syX ⟨rm, dd, lf, false, X2 (some (A, n)) none⟩ logN = X2 (some (A, A.length)) none := by
      unfold syX
      rw [X2.fiL]
      exact X2.withL _ _ _ _
    rw [hw, hx]
    rcases ded_cases rm dd lf (X2 (some (A, n)) none) 0 (X2 (some (A, A.length)) none) (by decide) with ⟨h1, _, _⟩ | ⟨_, h2, h3, h4⟩ | ⟨_, h2, h3, h4⟩
    · exact absurd rfl h1
    · rw [h3, h4]
      exact .inl ⟨h2, rfl⟩
    · rw [h3, h4]
      exact .inr ⟨_, dd + 1, lfX lf, rfl, h.sync, by rw [← ha]; rfl, rfl, fun h => by rw [h]; rfl⟩
theorem Sf.whole (h : Sf l v a) : ∃ R, (R = l ∨ R = v) ∧ Rds (foD a).1 R := by
  obtain ⟨R, h1, h2⟩ := h.rd (foD a).1.length h.wf (Nat.le_refl _)
  rw [List.take_length] at h2
  exact ⟨R, h1, h2⟩
/-- An opening, wherever it is broken off. -/
theorem opn_sf (rm dd lf : Int) (b : FO) (h : Sf l v a) (hb : wfO b) (hl : Small l) (hv : Small v) :
    ∃ a' b' dd' lf' dn', (opnX ⟨rm, dd, lf, false, X2 a b⟩).2.2 = ⟨rm, dd', lf', dn', X2 a' b'⟩ ∧ Sf l v a' ∧ wfO b' := by
  obtain ⟨R, hR, hr⟩ := h.whole
  have he : (opnX ⟨rm, dd, lf, false, X2 a b⟩).2.2 = (tidyX ⟨rm, dd, lf, false, X2 a b⟩ ((frmsB R).length : Nat) ((foD a).1.length : Nat)).2 := by
    unfold opnX
    rw [if_neg (by simp), rd_log, hr.1]
    simp only
    split <;> rfl
  rw [he]
  unfold tidyX
  rcases td1_cases rm dd lf a b with ⟨_, h1⟩ | ⟨d1, l1, h1, _⟩
  · rw [h1, if_pos (show (6 : Int) ≠ 0 by decide)]
    exact ⟨a, b, dd, lf, true, rfl, h, hb⟩
  rw [h1, if_neg (by simp)]
  rcases td2_cases rm d1 l1 h hl hv hR hr with ⟨_, h2⟩ | ⟨a2, d2, l2, h2, s2, e2, _, _⟩
  · rw [h2, if_pos (show (6 : Int) ≠ 0 by decide)]
    exact ⟨a, none, d1, l1, true, rfl, h, wfO.none⟩
  rw [h2, if_neg (by simp)]
  rcases td3_cases rm d2 l2 s2 e2 with ⟨_, h3⟩ | ⟨a3, d3, l3, h3, s3, _, _, _⟩
  · rw [h3]
    exact ⟨a2, none, d2, l2, true, rfl, s2, wfO.none⟩
  · rw [h3]
    exact ⟨a3, none, d3, l3, false, rfl, s3, wfO.none⟩
theorem JS.of (rm dd : Int) (l : List (List UInt8)) (a : FO) (h : foD a = (frmsB l, (frmsB l).length)) : (⟨rm, dd, -1, false, X2 a none⟩ : St) = JS rm dd l a.isSome := by
  cases a with
  | none => rfl
  | some p =>
    have h' : p = (frmsB l, (frmsB l).length) := h
    subst h'; rfl
theorem none_nil (l : List (List UInt8)) (a : FO) (h : foD a = (frmsB l, (frmsB l).length)) : a.isSome = false → l = [] := by
  intro h0
  cases a with
  | none =>
    have h1 := frmsB_count l
    have h2 : (0 : Nat) = (frmsB l).length := congrArg (·.2) h
    exact List.eq_nil_of_length_eq_zero (by omega)
  | some p => cases h0
/-- An opening that nothing breaks off. -/
theorem opn_up (rm dd : Int) (b : FO) (h : Sf l v a) (hl : Small l) (hv : Small v) :
    ∃ R dd' bb, (R = l ∨ R = v) ∧ opnX ⟨rm, dd, -1, false, X2 a b⟩ = (some R, 0, JS rm dd' R bb) ∧ (bb = false → R = []) := by
  obtain ⟨R, hR, hr⟩ := h.whole
  refine ⟨R, ?_⟩
  rcases td1_cases rm dd (-1) a b with ⟨h0, _⟩ | ⟨d1, l1, h1, e1⟩
  · exact absurd h0 (by decide)
  obtain rfl := e1 rfl
  rcases td2_cases rm d1 (-1) h hl hv hR hr with ⟨h0, _⟩ | ⟨a2, d2, l2, h2, s2, e2, i2, f2⟩
  · exact absurd h0 (by decide)
  obtain rfl := f2 rfl
  rcases td3_cases rm d2 (-1) s2 e2 with ⟨h0, _⟩ | ⟨a3, d3, l3, h3, s3, e3, i3, f3⟩
  · exact absurd h0 (by decide)
  obtain rfl := f3 rfl
  have ht : tidyX ⟨rm, dd, -1, false, X2 a b⟩ ((frmsB R).length : Nat) ((foD a).1.length : Nat) = (0, ⟨rm, d3, -1, false, X2 a3 none⟩) := by
    unfold tidyX
    rw [h1, if_neg (by simp), h2, if_neg (by simp)]
    exact h3
  unfold opnX
  rw [if_neg (by simp), rd_log, hr.1]
  simp only
  rw [ht, if_neg (by simp)]
  exact ⟨d3, a3.isSome, hR, by rw [JS.of rm d3 R a3 e3], none_nil R a3 e3⟩
end
section
variable {l : List (List UInt8)} {a : FO}
/-- An Append, wherever it is broken off. -/
theorem apd_sf (rm dd lf : Int) (s : List UInt8) (hs : s.length ≤ 1048576) (hl : Small l) (ha : foD a = (frmsB l, (frmsB l).length)) (hf : Sf l (l ++ [s]) a) :
    (∃ dd' lf', apdX ⟨rm, dd, lf, false, X2 a none⟩ s = (0, ⟨rm, dd', lf', false, X2 (some (frmsB (l ++ [s]), (frmsB (l ++ [s])).length)) none⟩)) ∨
    (rm < ((frmsB l).length + (8 + s.length) : Nat) ∧ apdX ⟨rm, dd, lf, false, X2 a none⟩ s = (5, ⟨rm, dd, lf, false, X2 a none⟩)) ∨
    ∃ a' dd' lf', apdX ⟨rm, dd, lf, false, X2 a none⟩ s = (6, ⟨rm, dd', lf', true, X2 a' none⟩) ∧ Sf l (l ++ [s]) a' := by
  unfold apdX
  rw [if_neg (by omega)]
  have hx : apX ⟨rm, dd, lf, false, X2 a none⟩ logN (frmB s) = X2 (some (frmsB l ++ frmB s, (frmsB l).length)) none := by
    unfold apX
    rw [X2.fiL, ha]
    exact X2.withL _ _ _ _
  have hw : wrA ⟨rm, dd, lf, false, X2 a none⟩ (frmB s) = 0 ∨ (rm < ((frmsB l).length + (8 + s.length) : Nat) ∧ wrA ⟨rm, dd, lf, false, X2 a none⟩ (frmB s) = 5) := by
    unfold wrA
    rw [X2.used, ha]
    split
    · rename_i h
      refine .inr ⟨?_, rfl⟩
      rw [frmB_len] at h
      simp only [foD, Option.getD_none, List.length_nil] at h
      omega
    · exact .inl rfl
  have h1 : apd1 ⟨rm, dd, lf, false, X2 a none⟩ s = (dedR ⟨rm, dd, lf, false, X2 a none⟩ (wrA ⟨rm, dd, lf, false, X2 a none⟩ (frmB s)), dedS ⟨rm, dd, lf, false, X2 a none⟩ (wrA ⟨rm, dd, lf, false, X2 a none⟩ (frmB s)) (X2 (some (frmsB l ++ frmB s, (frmsB l).length)) none)) := by
    unfold apd1; rw [hx]
  rw [h1]
  generalize wrA ⟨rm, dd, lf, false, X2 a none⟩ (frmB s) = wr at hw
  rcases ded_cases rm dd lf (X2 a none) wr (X2 (some (frmsB l ++ frmB s, (frmsB l).length)) none) (by rcases hw with rfl | ⟨_, rfl⟩ <;> decide) with ⟨q1, q2, q3⟩ | ⟨_, _, q3, q4⟩ | ⟨_, _, q3, q4⟩
  · rw [q2, q3, if_pos q1]
    rcases hw with rfl | ⟨hr, rfl⟩
    · exact absurd rfl q1
    · exact .inr (.inl ⟨hr, rfl⟩)
  · rw [q3, q4, if_pos (show (6 : Int) ≠ 0 by decide)]
    exact .inr (.inr ⟨a, dd, lf, rfl, hf⟩)
  rw [q3, q4, if_neg (by simp)]
  simp only
  unfold syn1
  have hw2 : wrN ⟨rm, dd + 1, lfX lf, false, X2 (some (frmsB l ++ frmB s, (frmsB l).length)) none⟩ logN = 0 := by unfold wrN; rw [X2.hasL]; rfl
  have hx2 : syX ⟨rm, dd + 1, lfX lf, false, X2 (some (frmsB l ++ frmB s, (frmsB l).length)) none⟩ logN = X2 (some (frmsB (l ++ [s]), (frmsB (l ++ [s])).length)) none := by
    unfold syX
    rw [X2.fiL, frmsB_snoc]
    exact X2.withL _ _ _ _
  rw [hw2, hx2]
  rcases ded_cases rm (dd + 1) (lfX lf) (X2 (some (frmsB l ++ frmB s, (frmsB l).length)) none) 0 (X2 (some (frmsB (l ++ [s]), (frmsB (l ++ [s])).length)) none) (by decide) with ⟨q1, _, _⟩ | ⟨_, _, q3, q4⟩ | ⟨_, _, q3, q4⟩
  · exact absurd rfl q1
  · rw [q3, q4]
    exact .inr (.inr ⟨_, dd + 1, lfX lf, rfl, Sf.tail hl hs _ (Nat.le_refl _) (by simp)⟩)
  · rw [q3, q4]
    exact .inl ⟨_, _, rfl⟩
/-- A Rewrite, wherever it is broken off. -/
theorem rwt_sf (rm dd lf : Int) (v : List (List UInt8)) (hv : Small v) (ha : foD a = (frmsB l, (frmsB l).length)) (hf : Sf l v a) :
    (∃ dd' lf', rwtX ⟨rm, dd, lf, false, X2 a none⟩ v = (0, ⟨rm, dd', lf', false, X2 (some (frmsB v, (frmsB v).length)) none⟩)) ∨
    (rm < ((frmsB l).length + (frmsB v).length : Nat) ∧ rwtX ⟨rm, dd, lf, false, X2 a none⟩ v = (5, ⟨rm, dd, lf, false, X2 a none⟩)) ∨
    ∃ a' b' dd' lf', rwtX ⟨rm, dd, lf, false, X2 a none⟩ v = (6, ⟨rm, dd', lf', true, X2 a' b'⟩) ∧ Sf l v a' ∧ wfO b' := by
  have hbig : anyBig v = false := by
    unfold anyBig
    rw [List.any_eq_false]
    intro x hx
    have := hv x hx
    simp only [decide_eq_true_eq]; omega
  unfold rwtX
  rw [hbig, if_neg (by simp)]
  have hx : apX ⟨rm, dd, lf, false, X2 a none⟩ newN (frmsB v) = X2 a (some (frmsB v, 0)) := by
    unfold apX
    rw [X2.fiN]
    exact X2.withN _ _ _ _
  have hw : wrA ⟨rm, dd, lf, false, X2 a none⟩ (frmsB v) = 0 ∨ (rm < ((frmsB l).length + (frmsB v).length : Nat) ∧ wrA ⟨rm, dd, lf, false, X2 a none⟩ (frmsB v) = 5) := by
    unfold wrA
    rw [X2.used, ha]
    split
    · rename_i h
      refine .inr ⟨?_, rfl⟩
      simp only [foD, Option.getD_none, List.length_nil] at h
      omega
    · exact .inl rfl
  have h1 : app1 ⟨rm, dd, lf, false, X2 a none⟩ v = (dedR ⟨rm, dd, lf, false, X2 a none⟩ (wrA ⟨rm, dd, lf, false, X2 a none⟩ (frmsB v)), dedS ⟨rm, dd, lf, false, X2 a none⟩ (wrA ⟨rm, dd, lf, false, X2 a none⟩ (frmsB v)) (X2 a (some (frmsB v, 0)))) := by
    unfold app1; rw [hx]
  rw [h1]
  generalize wrA ⟨rm, dd, lf, false, X2 a none⟩ (frmsB v) = wr at hw
  rcases ded_cases rm dd lf (X2 a none) wr (X2 a (some (frmsB v, 0))) (by rcases hw with rfl | ⟨_, rfl⟩ <;> decide) with ⟨q1, q2, q3⟩ | ⟨_, _, q3, q4⟩ | ⟨_, _, q3, q4⟩
  · rw [q2, q3, if_pos q1]
    rcases hw with rfl | ⟨hr, rfl⟩
    · exact absurd rfl q1
    · exact .inr (.inl ⟨hr, rfl⟩)
  · rw [q3, q4, if_pos (show (6 : Int) ≠ 0 by decide)]
    exact .inr (.inr ⟨a, none, dd, lf, rfl, hf, wfO.none⟩)
  rw [q3, q4, if_neg (by simp)]
  simp only
  have hw2 : wrN ⟨rm, dd + 1, lfX lf, false, X2 a (some (frmsB v, 0))⟩ newN = 0 := by unfold wrN; rw [X2.hasN]; rfl
  have hx2 : syX ⟨rm, dd + 1, lfX lf, false, X2 a (some (frmsB v, 0))⟩ newN = X2 a (some (frmsB v, (frmsB v).length)) := by
    unfold syX
    rw [X2.fiN]
    exact X2.withN _ _ _ _
  have h2 : syn1 ⟨rm, dd + 1, lfX lf, false, X2 a (some (frmsB v, 0))⟩ newN = (dedR ⟨rm, dd + 1, lfX lf, false, X2 a (some (frmsB v, 0))⟩ 0, dedS ⟨rm, dd + 1, lfX lf, false, X2 a (some (frmsB v, 0))⟩ 0 (X2 a (some (frmsB v, (frmsB v).length)))) := by
    unfold syn1; rw [hw2, hx2]
  rw [h2]
  rcases ded_cases rm (dd + 1) (lfX lf) (X2 a (some (frmsB v, 0))) 0 (X2 a (some (frmsB v, (frmsB v).length))) (by decide) with ⟨q1, _, _⟩ | ⟨_, _, q3, q4⟩ | ⟨_, _, q3, q4⟩
  · exact absurd rfl q1
  · rw [q3, q4, if_pos (show (6 : Int) ≠ 0 by decide)]
    exact .inr (.inr ⟨a, _, dd + 1, lfX lf, rfl, hf, Nat.zero_le _⟩)
  rw [q3, q4, if_neg (by simp)]
  simp only
  unfold ren1
  have hw3 : wrN ⟨rm, dd + 1 + 1, lfX (lfX lf), false, X2 a (some (frmsB v, (frmsB v).length))⟩ newN = 0 := by unfold wrN; rw [X2.hasN]; rfl
  have hx3 : rnX ⟨rm, dd + 1 + 1, lfX (lfX lf), false, X2 a (some (frmsB v, (frmsB v).length))⟩ newN logN = X2 (some (frmsB v, (frmsB v).length)) none := by
    unfold rnX
    rw [X2.fiN]
    simp only
    rw [X2.woN]
    exact X2.withL _ _ _ _
  rw [hw3, hx3]
  rcases ded_cases rm (dd + 1 + 1) (lfX (lfX lf)) (X2 a (some (frmsB v, (frmsB v).length))) 0 (X2 (some (frmsB v, (frmsB v).length)) none) (by decide) with ⟨q1, _, _⟩ | ⟨_, _, q3, q4⟩ | ⟨_, _, q3, q4⟩
  · exact absurd rfl q1
  · rw [q3, q4]
    exact .inr (.inr ⟨a, _, dd + 1 + 1, lfX (lfX lf), rfl, hf, Nat.le_refl _⟩)
  · rw [q3, q4]
    exact .inl ⟨_, _, rfl⟩
end
end Go.Proofs.YtippakeemfldfaaDoor

namespace Go.Proofs.YtippakeemfldfaaDoor
open Go.RowKit

theorem zeros_madeJ (n : Nat) : (madeCells (Value.int .u8 0).cells (n * 1)).toList = vals (List.replicate n 0) := by
  unfold madeCells vals
  rw [Nat.mul_one, Array.toList_map, Array.toList_range, List.map_replicate]
  apply List.ext_getElem?
  intro j
  by_cases h : j < n
  · simp [h, Value.cells, Nat.mod_one]
  · simp [h, Value.cells]
/-- A slice of n zero bytes. -/
theorem wpList_makeN {ops : Array Oper} {rest : List Oper} {o : Oper} {a : Act} {Q : Exit → Act → World → Prop} {w : World} (hgd : o.guard = none) (l c : Operand) (hop : o.op = Op.makeSlice 50 l c)
    (n : Nat) (hn : n ≤ 1000000000) (hl : a.eval l = .int .i64 (n : Int)) (hc : a.eval c = .int .i64 (n : Int))
    (hK : ∀ w', Rw encY 5 w' (some ⟨w.heap.size, 0, none⟩) n (List.replicate n 0) → Below w.heap.size w w' → wpList Tryd.prog ops Q rest (a.put o.dst (.slice (some ⟨w.heap.size, 0, none⟩) n n)) w') :
    wpList Tryd.prog ops Q (o :: rest) a w := by
  obtain ⟨i, hi, hzz⟩ := Option.map_eq_some_iff.1 info_u8
  simp only [Prod.mk.injEq] at hzz
  obtain ⟨hz, h1, h2⟩ := hzz
  refine wpList_make_full w hgd l c 50 hop 0 5 i (.int .u8 0) 1 Tryd.underlying50 hi hz h1 .i64 .i64 n n n hl hc rfl rfl (by rw [h2]; omega) (by unfold maxLen; omega) (Nat.zero_le _) ?_
  intro w' hown hgrow
  refine hK w' ?_ ((Below.refl _ _).grown hgrow (Nat.le_refl _) (by intro k h; cases h))
  unfold Rw
  rw [encY_all, List.length_replicate, ← zeros_madeJ]
  exact hown
end Go.Proofs.YtippakeemfldfaaDoor

namespace Go.Proofs.YtippakeemfldfaaDoor
open Go.RowKit

/-- At most six, of at most forty bytes. -/
def txtB (L : List (List UInt8)) : List (List UInt8) := (L.take 6).map fun s => s.take 40
theorem txtB_len (L : List (List UInt8)) : (txtB L).length ≤ 6 := by unfold txtB; rw [List.length_map, List.length_take]; omega
theorem txtB_each (L : List (List UInt8)) : ∀ s ∈ txtB L, s.length ≤ 40 := by
  intro s hs
  obtain ⟨x, _, rfl⟩ := List.mem_map.1 hs
  rw [List.length_take]; omega
theorem jcut40_any (s : List UInt8) (n : Nat) (w : World) (_hl : s.length ≤ maxLen) (_hn : n ≤ 1000000) :
    Calls Tryd.prog 19 #[.string ⟨s.toArray⟩, .int .i64 n] w fun r w' => r = .returned (.string ⟨(s.take n).toArray⟩) ∧ w' = w := by
  have h0 : (0 : Int) ≤ n := by omega
  by_cases h : n < s.length
  · have hx : (⟨s.toArray⟩ : ByteArray).extract 0 n = ⟨(s.take n).toArray⟩ := by apply ByteArray.ext; simp
    go_enter Tryd.func19, Tryd.ntmps19
    go_wp2_with fail
    go_ret
    exact ⟨rfl, rfl⟩
  · have e : s.take n = s := List.take_of_length_le (by omega)
    rw [e]
    clear e
    go_enter Tryd.func19, Tryd.ntmps19
    go_wp2_with fail
    go_ret
    exact ⟨rfl, rfl⟩
structure TxR (w wr : World) (L : List (List UInt8)) (i n : Nat) (p : Option Addr) (c : Nat) : Prop where
  b : Below w.heap.size w wr
  nw : ∀ a, p = some a → w.heap.size ≤ a.block
  n : n = i
  rw : Rw encS 9 wr p c ((L.take i).map fun s => s.take 40)
set_option maxRecDepth 20000 in
set_option maxHeartbeats 2000000 in
theorem texts10_any (k af : Int) (v3 v4 : Value) (o : Option Addr) (cap : Nat) (L : List (List UInt8)) (w : World) (h3 : v3.oneCell' = true) (h4 : v4.oneCell' = true) (hR : Rd encS w o L) (hz : ∀ s ∈ L, (s.length : Int) ≤ 9223372036854775807) (hn : L.length ≤ 9223372036854775807) :
    Calls Tryd.prog 11 #[.agg #[.int .i64 k, .int .i64 af, .slice o L.length cap, v3, v4]] w fun e w' => ∃ p c, e = .returned (.slice p (txtB L).length c) ∧ Rw encS 9 w' p c (txtB L) ∧ (∀ a, p = some a → w.heap.size ≤ a.block) ∧ Below w.heap.size w w' := by
  have HRD := Lib.hid hR
  have HZ := Lib.hid hz
  have hL : (L.length : Int) ≤ 9223372036854775807 := by omega
  clear hR hz
  go_enter Tryd.func11, Tryd.ntmps11
  go_wp2_with fail
  obtain ⟨W0, hW0⟩ : ∃ W, W = w.alloc (.cells #[.int .i64 k, .int .i64 af, .slice o L.length cap, v3, v4] 33) := ⟨_, rfl⟩
  have hb0 : Below w.heap.size w W0 := by rw [hW0]; exact (Below.refl _ w).alloc (Nat.le_refl _) _
  have hrow : W0.heap[w.heap.size]? = some (.cells #[.int .i64 k, .int .i64 af, .slice o L.length cap, v3, v4] 33 (0, 0)) := by rw [hW0]; exact heap_alloc_new _ _
  have HC2 : Hid (∀ wr, Below W0.heap.size W0 wr → wr.cell? ⟨w.heap.size, 2, none⟩ = some (.slice o L.length cap)) := Lib.hid (fun wr hb => by
    have hl := (Array.getElem?_eq_some_iff.1 hrow).1
    unfold World.cell?; rw [hb.block _ hl, hrow]; rfl)
  have H0 : Hid (TxR W0 W0 L 0 0 none 0) := Lib.hid ⟨Below.refl _ _, (fun a e => by cases e), rfl, Rw.empty _ _⟩
  have HB0 := Lib.hid hb0
  rw [← hW0]
  clear hW0 hb0 hrow h3 h4
  go_loopw [3, 4] (fun s3 s4 wr => ∃ (i n : Nat) (p : Option Addr) (c : Nat), i ≤ L.length ∧ i ≤ 6 ∧ s3 = .slice p n c ∧ s4 = .int .i64 (i : Int) ∧ Hid (TxR W0 wr L i n p c)) (fun _ s4 _ => 7 - (intOf s4).toNat)
  case atStart => exact ⟨0, 0, none, 0, by omega, by omega, rfl, rfl, H0⟩
  case round =>
    clear H0
    obtain ⟨i, n, p, c, hi, hi6, rfl, rfl, HR⟩ := hrel
    have cc := HC2.out wr HR.out.b
    have i0 : (0 : Int) ≤ i := by omega
    have i6 : (i : Int) ≤ 6 := by omega
    by_cases hlt : i < L.length ∧ i < 6
    · obtain ⟨hl1, hl2⟩ := hlt
      have hl1' : (i : Int) < L.length := by omega
      have hl2' : (i : Int) < 6 := by omega
      obtain ⟨bs, off, rfl, hbs, hc⟩ := HRD.out i hl1
      have ce : wr.cell? ⟨bs, off + i, none⟩ = some (.string ⟨(L[i]).toArray⟩) := ((HB0.out.trans (HR.out.b.mono HB0.out.size)).cell hbs).trans (by
        have := hc 0 (.string ⟨(L[i]).toArray⟩) rfl
        simpa [encS] using this)
      obtain ⟨x, hx⟩ : ∃ x, x = L[i] := ⟨_, rfl⟩
      rw [← hx] at ce
      have HX := Lib.hid hx
      have hxl : (x.length : Int) ≤ 9223372036854775807 := hx ▸ HZ.out _ (List.getElem_mem _)
      have HCU := Lib.hid (fun w => jcut40_any x 40 w (by unfold maxLen; omega) (by decide))
      obtain ⟨s, hs⟩ : ∃ s, s = x.take 40 := ⟨_, rfl⟩
      rw [← hs] at HCU
      have HS := Lib.hid hs
      obtain ⟨T, hT⟩ : ∃ T, T = (L.take i).map fun s => s.take 40 := ⟨_, rfl⟩
      have hTl : T.length = i := by rw [hT, List.length_map, List.length_take]; omega
      have hR := HR.out.rw
      rw [← hT] at hR
      have HT := Lib.hid hT
      have HTL : Hid (T.length = n) := Lib.hid (by rw [hTl, HR.out.n])
      have hb3 : Below wr.heap.size wr (wr.alloc (.cells #[.string ⟨s.toArray⟩] 9)) := (Below.refl _ wr).alloc (Nat.le_refl _) _
      have HS2 : Hid (Rw encS 9 (wr.alloc (.cells #[.string ⟨s.toArray⟩] 9)) p c T ∧ Below W0.heap.size W0 (wr.alloc (.cells #[.string ⟨s.toArray⟩] 9)) ∧ Rd encS (wr.alloc (.cells #[.string ⟨s.toArray⟩] 9)) (some ⟨wr.heap.size, 0, none⟩) [s]) := Lib.hid
        ⟨hR.old hb3, HR.out.b.trans (hb3.mono HR.out.b.size), Rd.made encS wr 9 [s] (by simp [maxLen])⟩
      have HNB : Hid (n + 1 ≤ 100000000000) := Lib.hid (by rw [HR.out.n]; omega)
      clear hx hs hT hTl hR hb3 hc hbs HRD
      go_wp2_with fail
      refine (HCU.out wr).mono ?_
      rintro e w1 ⟨rfl, hww⟩
      subst hww
      go_wp2_with (refine wpList_pushR encS rfl (.tmp 16) (.tmp 23) 27 9 (.string ⟨#[]⟩) 16 rfl Tryd.underlying27 info_str rfl (by decide) p c n T HTL.out rfl HS2.out.1 (some ⟨w1.heap.size, 0, none⟩) 1 1 [s] rfl rfl HS2.out.2.2 HNB.out ?_; intro q2 c2 w4 hP4; have HP4 := Lib.hid hP4; clear hP4; go_frame)
      go_roundw
      case rel =>
        obtain ⟨hRw4, hm4, hor4⟩ := HP4.out
        have h3 := HS2.out
        have hqn := HR.out.nw
        refine ⟨i + 1, n + 1, q2, c2, by omega, by omega, rfl, by go_num, Lib.hid ⟨?_, ?_, by rw [HR.out.n], ?_⟩⟩
        · exact h3.2.1.trans (hm4.to_below h3.2.1.size (by rintro k hk ⟨a, e, rfl⟩; have := hqn a e; omega))
        · intro a e
          rcases hor4 a e with h | h
          · exact hqn a h
          · exact Nat.le_trans h3.2.1.size h
        · have : ((L.take (i + 1)).map fun s => s.take 40) = T ++ [s] := by
            rw [List.take_succ_eq_append_getElem hl1, List.map_append, ← HT.out, List.map_cons, List.map_nil, ← HX.out, ← HS.out]
          rw [this]; exact hRw4
      case measure => simp [intOf]; omega
    · have HF : Hid (txtB L = (L.take i).map fun s => s.take 40) := Lib.hid (by
        unfold txtB
        congr 1
        by_cases h : i < L.length
        · rw [show i = 6 by omega]
        · rw [List.take_of_length_le (by omega), List.take_of_length_le (show L.length ≤ i by omega)])
      have HN : Hid (n = (txtB L).length) := Lib.hid (by rw [HF.out, List.length_map, List.length_take, HR.out.n]; omega)
      by_cases hl1 : i < L.length
      · obtain rfl : i = 6 := by omega
        have hl1' : (6 : Int) < L.length := by omega
        clear hlt
        go_wp2_with fail
        go_ret
        exact ⟨p, c, by rw [← HN.out]; rfl, by rw [HF.out]; exact HR.out.rw, (fun a e => Nat.le_trans HB0.out.size (HR.out.nw a e)), HB0.out.trans (HR.out.b.mono HB0.out.size)⟩
      · have hl1' : ¬ (i : Int) < L.length := by omega
        clear hlt
        go_wp2_with fail
        go_ret
        exact ⟨p, c, by rw [← HN.out]; rfl, by rw [HF.out]; exact HR.out.rw, (fun a e => Nat.le_trans HB0.out.size (HR.out.nw a e)), HB0.out.trans (HR.out.b.mono HB0.out.size)⟩
end Go.Proofs.YtippakeemfldfaaDoor

namespace Go.Proofs.YtippakeemfldfaaDoor
open Go.RowKit

set_option maxRecDepth 20000 in
set_option maxHeartbeats 2000000 in
theorem same10_any (o o2 : Option Addr) (cap cap2 : Nat) (A B : List (List UInt8)) (w : World) (hA : Rd encS w o A) (hB : Rd encS w o2 B) (hn : A.length ≤ 1000000) (hn2 : B.length ≤ 1000000) :
    Calls Tryd.prog 16 #[.slice o A.length cap, .slice o2 B.length cap2] w fun e w' => e = .returned (.bool (decide (A = B))) ∧ Below w.heap.size w w' := by
  have hn' : (A.length : Int) ≤ 1000000 := by omega
  by_cases hl : A.length = B.length
  · have hl2 : (A.length : Int) = B.length := by omega
    have HA := Lib.hid hA
    have HB := Lib.hid hB
    have HL := Lib.hid hl
    rw [← hl]
    clear hA hB hl hl2
    have H0 : Hid (Below w.heap.size w w ∧ A.take 0 = B.take 0) := Lib.hid ⟨Below.refl _ _, rfl⟩
    go_enter Tryd.func16, Tryd.ntmps16
    go_wp2_with fail
    go_loopw [13] (fun s13 wr => ∃ i : Nat, i ≤ A.length ∧ s13 = .int .i64 (i : Int) ∧ Hid (Below w.heap.size w wr ∧ A.take i = B.take i)) (fun s13 _ => A.length - (intOf s13).toNat)
    case atStart => exact ⟨0, by omega, rfl, H0⟩
    case round =>
      clear H0
      obtain ⟨i, hi, rfl, HR⟩ := hrel
      have i0 : (0 : Int) ≤ i := by omega
      by_cases hlt : i < A.length
      · have hlt' : (i : Int) < A.length := by omega
        have hltB : i < B.length := by have := HL.out; omega
        obtain ⟨bs, off, rfl, hbs, hc⟩ := HA.out i hlt
        obtain ⟨bs2, off2, rfl, hbs2, hc2⟩ := HB.out i hltB
        have ce : wr.cell? ⟨bs, off + i, none⟩ = some (.string ⟨(A[i]).toArray⟩) := (HR.out.1.cell hbs).trans (by
          have := hc 0 (.string ⟨(A[i]).toArray⟩) rfl
          simpa [encS] using this)
        have ce2 : wr.cell? ⟨bs2, off2 + i, none⟩ = some (.string ⟨(B[i]).toArray⟩) := (HR.out.1.cell hbs2).trans (by
          have := hc2 0 (.string ⟨(B[i]).toArray⟩) rfl
          simpa [encS] using this)
        obtain ⟨x, hx⟩ : ∃ x, x = A[i] := ⟨_, rfl⟩
        obtain ⟨y, hy⟩ : ∃ y, y = B[i] := ⟨_, rfl⟩
        rw [← hx] at ce
        rw [← hy] at ce2
        have HX := Lib.hid hx
        have HY := Lib.hid hy
        clear hx hy hc hc2 hbs hbs2
        go_wp2_with fail
        go_quiet (fail)
        have hb1 : Below w.heap.size w (wr.drewN nq) := HR.out.1.trans ((Mod.to_below ((Mod.refl (fun _ => False) wr).drewN nq) (Nat.le_refl _) (fun _ _ h => h)).mono HR.out.1.size)
        have HB1 := Lib.hid hb1
        generalize wr.drewN nq = w1 at HB1 ⊢
        clear hb1 ce ce2
        by_cases hxy : x = y
        · have hne : (@BEq.beq (List UInt8) (@List.instBEq UInt8 (@instBEqOfDecidableEq UInt8 instDecidableEqUInt8)) x y) = true := beq_iff_eq.2 hxy
          have HN : Hid (Below w.heap.size w w1 ∧ A.take (i + 1) = B.take (i + 1)) := Lib.hid ⟨HB1.out, by rw [List.take_succ_eq_append_getElem hlt, List.take_succ_eq_append_getElem hltB, HR.out.2, ← HX.out, ← HY.out, hxy]⟩
          clear HR HX HY hxy
          rw [hne, Bool.not_true]
          go_wp2_with fail
          go_roundw
          case rel => exact ⟨i + 1, by omega, by go_num, HN⟩
          case measure => simp [intOf]; omega
        · have hne : (@BEq.beq (List UInt8) (@List.instBEq UInt8 (@instBEqOfDecidableEq UInt8 instDecidableEqUInt8)) x y) = false := beq_eq_false_iff_ne.2 hxy
          have HF : Hid (decide (A = B) = false) := Lib.hid (by
            rw [decide_eq_false_iff_not]
            rintro rfl
            exact hxy (HX.out.trans HY.out.symm))
          clear HR HX HY hxy
          rw [hne, Bool.not_false]
          go_wp2_with fail
          go_ret
          exact ⟨by rw [HF.out]; rfl, HB1.out⟩
      · obtain rfl : i = A.length := by omega
        have HF : Hid (decide (A = B) = true) := Lib.hid (by
          have := HR.out.2
          rw [List.take_length, List.take_of_length_le (by have := HL.out; omega)] at this
          simp [this])
        have HB1 := Lib.hid HR.out.1
        clear HR hlt
        go_wp2_with fail
        go_ret
        exact ⟨by rw [HF.out]; rfl, HB1.out⟩
  · have hl2 : ((A.length : Int) != B.length) = true := by simp; omega
    have HF : Hid (decide (A = B) = false) := Lib.hid (by rw [decide_eq_false_iff_not]; rintro rfl; exact hl rfl)
    clear hA hB hl
    go_enter Tryd.func16, Tryd.ntmps16
    go_wp2_with fail
    go_ret
    exact ⟨by rw [HF.out]; rfl, Below.refl _ _⟩
end Go.Proofs.YtippakeemfldfaaDoor

namespace Go.Proofs.YtippakeemfldfaaDoor
open Go.RowKit

def JW (w0 w : World) (d j : Nat) (S : St) (p : Option Addr) (c : Nat) (T : List (List UInt8)) : Prop := ∃ F, DA w d S F ∧ (∀ i, F i → w0.heap.size ≤ i) ∧ Below w0.heap.size w0 w ∧ Bx w j (.pointer (some ⟨d, 0, none⟩)) ∧ ¬ F j ∧ w0.heap.size ≤ j ∧ Rw encS 9 w p c T ∧ ∀ a, p = some a → ¬ F a.block ∧ a.block ≠ j ∧ w0.heap.size ≤ a.block
section
variable {w0 w w' : World} {d j n : Nat} {S S' : St} {p : Option Addr} {c : Nat} {T : List (List UInt8)}
theorem JW.jd (h : JW w0 w d j S p c T) : JD w0 w d j S := by
  obtain ⟨F, h1, h2, h3, h4, h5, h6, _⟩ := h
  exact ⟨F, h1, h2, h3, h4, h5, h6⟩
theorem JW.b (h : JW w0 w d j S p c T) : Below w0.heap.size w0 w := h.jd.b
theorem JW.row (h : JW w0 w d j S p c T) : Rw encS 9 w p c T := by
  obtain ⟨F, _, _, _, _, _, _, h, _⟩ := h
  exact h
theorem JD.none (h : JD w0 w d j S) : JW w0 w d j S none 0 [] := by
  obtain ⟨F, h1, h2, h3, h4, h5, h6⟩ := h
  exact ⟨F, h1, h2, h3, h4, h5, h6, Rw.empty _ _, fun a e => by cases e⟩
theorem JD.made (h : JD w0 w d j S) (hb : Below w.heap.size w w') (hR : Rw encS 9 w' p c T) (hp : ∀ a, p = some a → w.heap.size ≤ a.block) : JW w0 w' d j S p c T := by
  obtain ⟨F, hA, hF, hB, hx, hj, hl⟩ := h
  exact ⟨F, hA.old hb, hF, hB.trans (hb.mono hB.size), hx.old hb, hj, hl, hR, fun a e => ⟨fun hf => by have := hA.lt _ hf; have := hp a e; omega, fun hh => by have := hx.lt; have := hp a e; omega, Nat.le_trans hB.size (hp a e)⟩⟩
theorem JW.old (h : JW w0 w d j S p c T) (hb : Below w.heap.size w w') : JW w0 w' d j S p c T := by
  obtain ⟨F, hA, hF, hB, hx, hj, hl, hR, hp⟩ := h
  exact ⟨F, hA.old hb, hF, hB.trans (hb.mono hB.size), hx.old hb, hj, hl, hR.old hb, hp⟩
/-- A call of the journal leaves the texts. -/
theorem JW.step (hB : Below w0.heap.size w0 w) {F : Nat → Prop} (hF : ∀ i, F i → w0.heap.size ≤ i) (hx : Bx w j (.pointer (some ⟨d, 0, none⟩))) (hj : ¬ F j) (hl : w0.heap.size ≤ j) (hR : Rw encS 9 w p c T) (hp : ∀ a, p = some a → ¬ F a.block ∧ a.block ≠ j ∧ w0.heap.size ≤ a.block) (hE : Eff w w' d S' F) : JW w0 w' d j S' p c T := by
  have hE2 := hE
  obtain ⟨F', hA', hF', hm⟩ := hE
  refine ⟨F', hA', fun i hi => (hF' i hi).elim (hF i) (fun h => Nat.le_trans hB.size h), hB.trans (hm.to_below hB.size (fun k hk h => by have := hF k h; omega)), hE2.bx hx hj, fun hf => ?_, hl, hR.kept hm (fun a e => (hp a e).1), fun a e => ⟨fun hf => ?_, (hp a e).2⟩⟩
  · rcases hF' j hf with h | h
    · exact hj h
    · have := hx.lt; omega
  · rcases hF' _ hf with h | h
    · exact (hp a e).1 h
    · subst e; have := hR.lt; omega
theorem JW.append (h : JW w0 w d j S p c T) (gd : Gd S n) (hn : n ≤ 90000) (s : List UInt8) (hs : s.length ≤ 1000000000) (hT : TabAt w0) :
    Calls Tryd.prog 13 #[.pointer (some ⟨j, 0, none⟩), .string ⟨s.toArray⟩] w fun e w' => e = .returned (.int .i64 (apdX S s).1) ∧ JW w0 w' d j (apdX S s).2 p c T := by
  obtain ⟨F, hA, hF, hB, hx, hj, hl, hR, hp⟩ := h
  exact (jappend_any hA gd hn j hx hj s hs (TabJ.old hT hB)).mono (by rintro e w' ⟨rfl, hE⟩; exact ⟨rfl, JW.step hB hF hx hj hl hR hp hE⟩)
theorem Rw.strs {m : Nat} (h : Rw encS 9 w p c T) (hm : m = T.length) : StrsAt w (.slice p m c) T := by
  refine ⟨p, c, by rw [hm], fun i hi => ?_⟩
  obtain ⟨bs, off, e, hl, hc⟩ := h.rd i hi
  refine ⟨bs, off, e, hl, ?_⟩
  have := hc 0 (.string ⟨(T[i]).toArray⟩) rfl
  simpa [encS] using this
theorem JW.rewrite (h : JW w0 w d j S p c T) (gd : Gd S n) (hn : n ≤ 90000) (hlen : T.length ≤ 900) (hT : TabAt w0) :
    Calls Tryd.prog 12 #[.pointer (some ⟨j, 0, none⟩), .slice p T.length c] w fun e w' => e = .returned (.int .i64 (rwtX S T).1) ∧ JW w0 w' d j (rwtX S T).2 p c T := by
  obtain ⟨F, hA, hF, hB, hx, hj, hl, hR, hp⟩ := h
  exact (jrewrite_any hA gd hn j hx hj p c T (Rw.strs hR rfl) hlen (TabJ.old hT hB)).mono (by rintro e w' ⟨rfl, hE⟩; exact ⟨rfl, JW.step hB hF hx hj hl hR hp hE⟩)
theorem JW.crash (h : JW w0 w d j S p c T) (ok : Ok S) :
    Calls Tryd.prog 14 #[.pointer (some ⟨d, 0, none⟩), .slice none 0 0] w fun e w' => e = .returned (.tuple #[]) ∧ JW w0 w' d j { S with X := crX [] S.X, lf := -1, dn := false } p c T := by
  obtain ⟨F, hA, hF, hB, hx, hj, hl, hR, hp⟩ := h
  exact (dkcrash_any hA ok none 0 [] (by decide) (Rd.nil _ _) (fun _ a e => by cases e)).mono (by rintro e w' ⟨rfl, hE⟩; exact ⟨rfl, JW.step hB hF hx hj hl hR hp hE⟩)
/-- An append to the texts. -/
theorem JW.push {q : Option Addr} {c2 : Nat} {T2 : List (List UInt8)} (h : JW w0 w d j S p c T) (hP : PushR encS 9 w p T2 q c2 w') : JW w0 w' d j S q c2 T2 := by
  obtain ⟨F, hA, hF, hB, hx, hj, hl, hR, hp⟩ := h
  obtain ⟨hR2, hm, hor⟩ := hP
  refine ⟨F, hA.kept hm (fun i hi ⟨a, e, he⟩ => (hp a e).1 (he ▸ hi)), hF, hB.trans (hm.to_below hB.size (by rintro k hk ⟨a, e, rfl⟩; have := (hp a e).2.2; omega)), hx.kept hm (fun ⟨a, e, he⟩ => (hp a e).2.1 he.symm), hj, hl, hR2, fun a e => ?_⟩
  rcases hor a e with h | h
  · exact hp a h
  · exact ⟨fun hf => by have := hA.lt _ hf; omega, fun hh => by have := hx.lt; omega, Nat.le_trans hB.size h⟩
end
theorem JS.crash {rm dd : Int} {l : List (List UInt8)} {b : Bool} : ({ JS rm dd l b with X := crX [] (JS rm dd l b).X, lf := -1, dn := false } : St) = JS rm dd l b := by
  cases b <;> simp [JS, LX, crX]
end Go.Proofs.YtippakeemfldfaaDoor

namespace Go.Proofs.YtippakeemfldfaaDoor
open Go.RowKit

/-- Texts as an element: where they lie, and their capacity. -/
structure TXs where
  o : Option Addr
  c : Nat
  l : List (List UInt8)
instance : Inhabited TXs := ⟨⟨none, 0, []⟩⟩
def encT : Enc TXs := ⟨fun x => [.slice x.o x.l.length x.c], 1, fun _ => rfl, fun _ v hv => by rw [List.mem_singleton.1 hv]; rfl, Nat.one_pos⟩
structure okT (W : World) (x : TXs) : Prop where
  rd : Rd encS W x.o x.l
  z : ∀ s ∈ x.l, (s.length : Int) ≤ 9223372036854775807
  n : x.l.length ≤ 9223372036854775807
theorem frms40 {l : List (List UInt8)} (h : ∀ s ∈ l, s.length ≤ 40) : (frmsB l).length ≤ l.length * 48 := by
  induction l with
  | nil => exact Nat.le_refl _
  | cons s l ih =>
    have h1 := ih (fun x hx => h x (List.mem_cons_of_mem _ hx))
    have h2 := h s (List.mem_cons_self ..)
    have : frmsB (s :: l) = frmB s ++ frmsB l := rfl
    rw [this, List.length_append, frmB_len, List.length_cons]
    omega
/-- What holds while m deeds are behind. -/
structure RwR (w1 wr : World) (d j : Nat) (p : Option Addr) (c n m k : Nat) : Prop where
  ex : ∃ dd l b, JW w1 wr d j (JS 65536 dd l b) p c l ∧ (b = false → l = []) ∧ n = l.length ∧ l.length ≤ k ∧ (∀ s ∈ l, s.length ≤ 40) ∧ Gd (JS 65536 dd l b) m
theorem RwR.b {w1 wr : World} {d j : Nat} {p : Option Addr} {c n m k : Nat} (h : RwR w1 wr d j p c n m k) : Below w1.heap.size w1 wr := by
  obtain ⟨_, _, _, h, _⟩ := h.ex
  exact h.b
theorem JW.jopen {w0 w : World} {d j n : Nat} {S : St} {p : Option Addr} {c : Nat} {T : List (List UInt8)} (h : JW w0 w d j S p c T) (gd : Gd S n) (hn : n ≤ 90000) (hT : TabAt w0) (L : List (List UInt8)) (S' : St) (ho : opnX S = (some L, 0, S')) :
    Calls Tryd.prog 8 #[.pointer (some ⟨d, 0, none⟩)] w fun e w' => ∃ j2 q c2, e = .returned (.tuple #[.pointer (some ⟨j2, 0, none⟩), .slice q L.length c2, .int .i64 0]) ∧ JW w0 w' d j S' p c T ∧ Rw encS 9 w' q c2 L := by
  obtain ⟨F, hA, hF, hB, hx, hj, hl, hR, hp⟩ := h
  refine (jopen_any hA gd hn (TabJ.old hT hB)).mono ?_
  intro e w' hP
  have hE := hP.eff
  obtain ⟨F', hA', hF', hm, hq⟩ := hP
  rw [ho] at hq hE
  obtain ⟨j2, q, c2, rfl, _, _, _, hR2, _⟩ := hq
  exact ⟨j2, q, c2, rfl, JW.step hB hF hx hj hl hR hp hE, hR2⟩
end Go.Proofs.YtippakeemfldfaaDoor

namespace Go.Proofs.YtippakeemfldfaaDoor
open Go.RowKit

set_option maxRecDepth 20000 in
set_option maxHeartbeats 1000000 in
theorem few09_any (co : Option Addr) (cc : Nat) (ch : List Int) (w : World) (hc : ch.length ≤ cc) (hl : (ch.length : Int) ≤ 9223372036854775807) :
    Calls Tryd.prog 15 #[.slice co ch.length cc] w fun r w' => r = .returned (.slice co (ch.take 20).length cc) ∧ w' = w := by
  obtain ⟨n, hn⟩ : ∃ n, n = ch.length := ⟨_, rfl⟩
  have HN := Lib.hid hn
  rw [← hn] at hc hl ⊢
  clear hn
  by_cases h : 20 < n
  · have e : (ch.take 20).length = 20 := by have := HN.out; rw [List.length_take]; omega
    rw [e]
    clear e
    go_enter Tryd.func15, Tryd.ntmps15
    go_wp2_with fail
    go_ret
    exact ⟨rfl, rfl⟩
  · have e : (ch.take 20).length = n := by have := HN.out; rw [List.length_take]; omega
    rw [e]
    clear e
    go_enter Tryd.func15, Tryd.ntmps15
    go_wp2_with fail
    go_ret
    exact ⟨rfl, rfl⟩

/-- Texts in a row: where, its capacity, they. -/
abbrev TR := Option Addr × Nat × List (List UInt8)
structure JVf (w0 w : World) (d j : Nat) (S : St) (F : Nat → Prop) (R : List TR) : Prop where
  a : DA w d S F
  f : ∀ i, F i → w0.heap.size ≤ i
  b : Below w0.heap.size w0 w
  x : Bx w j (.pointer (some ⟨d, 0, none⟩))
  nj : ¬ F j
  lj : w0.heap.size ≤ j
  r : ∀ x ∈ R, Rw encS 9 w x.1 x.2.1 x.2.2 ∧ ∀ a, x.1 = some a → ¬ F a.block
/-- A journal j on disk d, made since w0, with rows beside it. -/
def JV (w0 w : World) (d j : Nat) (S : St) (R : List TR) : Prop := ∃ F, JVf w0 w d j S F R
section
variable {w0 w w' : World} {d j n : Nat} {S S' : St} {F : Nat → Prop} {R R' : List TR}
theorem JVf.step (h : JVf w0 w d j S F R) (hE : Eff w w' d S' F) : JV w0 w' d j S' R := by
  have hE2 := hE
  obtain ⟨F', hA', hF', hm⟩ := hE
  refine ⟨F', hA', fun i hi => (hF' i hi).elim (h.f i) (fun q => Nat.le_trans h.b.size q), h.b.trans (hm.to_below h.b.size (fun k hk q => by have := h.f k q; omega)), hE2.bx h.x h.nj, fun hf => ?_, h.lj, fun x hx => ⟨(h.r x hx).1.kept hm (fun a e => (h.r x hx).2 a e), fun a e hf => ?_⟩⟩
  · rcases hF' j hf with q | q
    · exact h.nj q
    · have := h.x.lt; omega
  · rcases hF' _ hf with q | q
    · exact (h.r x hx).2 a e q
    · have h1 := (h.r x hx).1
      rw [e] at h1
      have := h1.lt; omega
theorem JV.b (h : JV w0 w d j S R) : Below w0.heap.size w0 w := by obtain ⟨_, h⟩ := h; exact h.b
theorem JV.jd (h : JV w0 w d j S R) : JD w0 w d j S := by obtain ⟨F, h⟩ := h; exact ⟨F, h.a, h.f, h.b, h.x, h.nj, h.lj⟩
theorem JD.jv (h : JD w0 w d j S) : JV w0 w d j S [] := by
  obtain ⟨F, h1, h2, h3, h4, h5, h6⟩ := h
  exact ⟨F, h1, h2, h3, h4, h5, h6, fun x hx => by cases hx⟩
theorem JV.row (h : JV w0 w d j S R) {p : Option Addr} {c : Nat} {L : List (List UInt8)} (hm : (p, c, L) ∈ R) : Rw encS 9 w p c L := by
  obtain ⟨_, h⟩ := h; exact (h.r _ hm).1
theorem JV.sub (h : JV w0 w d j S R) (hs : ∀ x ∈ R', x ∈ R) : JV w0 w d j S R' := by
  obtain ⟨F, h⟩ := h; exact ⟨F, h.a, h.f, h.b, h.x, h.nj, h.lj, fun x hx => h.r x (hs x hx)⟩
theorem JV.old (h : JV w0 w d j S R) (hb : Below w.heap.size w w') : JV w0 w' d j S R := by
  obtain ⟨F, h⟩ := h
  exact ⟨F, h.a.old hb, h.f, h.b.trans (hb.mono h.b.size), h.x.old hb, h.nj, h.lj, fun x hx => ⟨(h.r x hx).1.old hb, (h.r x hx).2⟩⟩
/-- A row that was made since stands beside, too. -/
theorem JV.made (h : JV w0 w d j S R) (hb : Below w.heap.size w w') {p : Option Addr} {c : Nat} {L : List (List UInt8)} (hR : Rw encS 9 w' p c L) (hp : ∀ a, p = some a → w.heap.size ≤ a.block) : JV w0 w' d j S ((p, c, L) :: R) := by
  have h2 := h.old hb
  obtain ⟨F0, h0⟩ := h
  refine ⟨F0, h0.a.old hb, h0.f, h0.b.trans (hb.mono h0.b.size), h0.x.old hb, h0.nj, h0.lj, fun x hx => ?_⟩
  rcases List.mem_cons.1 hx with rfl | hx
  · exact ⟨hR, fun a e hf => by have := h0.a.lt _ hf; have := hp a e; omega⟩
  · exact ⟨(h0.r x hx).1.old hb, (h0.r x hx).2⟩
/-- A row of before w0 stands beside, too. -/
theorem JV.old_row (h : JV w0 w d j S R) {p : Option Addr} {c : Nat} {L : List (List UInt8)} (hR : Rw encS 9 w0 p c L) : JV w0 w d j S ((p, c, L) :: R) := by
  obtain ⟨F0, h0⟩ := h
  refine ⟨F0, h0.a, h0.f, h0.b, h0.x, h0.nj, h0.lj, fun x hx => ?_⟩
  rcases List.mem_cons.1 hx with rfl | hx
  · refine ⟨hR.old h0.b, fun a e hf => ?_⟩
    simp only at e
    rw [e] at hR
    have := hR.lt; have := h0.f _ hf; omega
  · exact h0.r x hx
theorem JV.append (h : JV w0 w d j S R) (gd : Gd S n) (hn : n ≤ 90000) (s : List UInt8) (hs : s.length ≤ 1000000000) (hT : TabAt w0) :
    Calls Tryd.prog 13 #[.pointer (some ⟨j, 0, none⟩), .string ⟨s.toArray⟩] w fun e w' => e = .returned (.int .i64 (apdX S s).1) ∧ JV w0 w' d j (apdX S s).2 R := by
  obtain ⟨F, h⟩ := h
  exact (jappend_any h.a gd hn j h.x h.nj s hs (TabJ.old hT h.b)).mono (by rintro e w' ⟨rfl, hE⟩; exact ⟨rfl, h.step hE⟩)
theorem JV.rewrite (h : JV w0 w d j S R) (gd : Gd S n) (hn : n ≤ 90000) {p : Option Addr} {c : Nat} {L : List (List UInt8)} (hR : Rw encS 9 w p c L) (hlen : L.length ≤ 900) (hT : TabAt w0) :
    Calls Tryd.prog 12 #[.pointer (some ⟨j, 0, none⟩), .slice p L.length c] w fun e w' => e = .returned (.int .i64 (rwtX S L).1) ∧ JV w0 w' d j (rwtX S L).2 R := by
  obtain ⟨F, h⟩ := h
  exact (jrewrite_any h.a gd hn j h.x h.nj p c L (Rw.strs hR rfl) hlen (TabJ.old hT h.b)).mono (by rintro e w' ⟨rfl, hE⟩; exact ⟨rfl, h.step hE⟩)
theorem JV.halt (h : JV w0 w d j S R) (m : Int) :
    Calls Tryd.prog 9 #[.pointer (some ⟨d, 0, none⟩), .int .i64 m] w fun e w' => e = .returned (.tuple #[]) ∧ JV w0 w' d j { S with lf := max m (-1) } R := by
  obtain ⟨F, h⟩ := h
  exact (dkhalt_any h.a m).mono (by rintro e w' ⟨rfl, hE⟩; exact ⟨rfl, h.step hE⟩)
theorem JV.used (h : JV w0 w d j S R) (ok : Ok S) : Calls Tryd.prog 10 #[.pointer (some ⟨d, 0, none⟩)] w fun e w' => e = .returned (.int .i64 (usedX S.X : Nat)) ∧ JV w0 w' d j S R := by
  have h2 := h
  obtain ⟨F, h⟩ := h
  exact (dkused_any h.a (Nat.le_trans ok.n (by decide)) ok.f).mono (by rintro e w' ⟨rfl, hE⟩; exact ⟨rfl, h2.old hE⟩)
theorem JV.size (h : JV w0 w d j S R) (hdn : S.dn = false) :
    Calls Tryd.prog 18 #[.pointer (some ⟨j, 0, none⟩)] w fun e w' => e = .returned (.int .i64 ((rdX S logN).1.length : Nat)) ∧ JV w0 w' d j S R := by
  have h2 := h
  obtain ⟨F, h⟩ := h
  exact (jsize_any h.a hdn j h.x).mono (by rintro e w' ⟨rfl, hb⟩; exact ⟨rfl, h2.old hb⟩)
/-- A crash; its choices lie in a row of before w0, or in one that was made since w1. -/
theorem JV.crash {w1 : World} (h : JV w0 w1 d j S R) (hb : Below w1.heap.size w1 w) (ok : Ok S) (cp : Option Addr) (cc : Nat) (ch : List Int) (hcc : ch.length ≤ cc) (hrd : Rd encI w cp ch) (hcp : ch ≠ [] → ∀ a, cp = some a → a.block < w0.heap.size ∨ w1.heap.size ≤ a.block) :
    Calls Tryd.prog 14 #[.pointer (some ⟨d, 0, none⟩), .slice cp ch.length cc] w fun e w' => e = .returned (.tuple #[]) ∧ JV w0 w' d j { S with X := crX ch S.X, lf := -1, dn := false } R := by
  obtain ⟨F, h⟩ := h
  have h2 : JVf w0 w d j S F R := ⟨h.a.old hb, h.f, h.b.trans (hb.mono h.b.size), h.x.old hb, h.nj, h.lj, fun x hx => ⟨(h.r x hx).1.old hb, (h.r x hx).2⟩⟩
  exact (dkcrash_any h2.a ok cp cc ch hcc hrd (fun he a e hf => by
    rcases hcp he a e with q | q
    · have := h.f _ hf; omega
    · have := h.a.lt _ hf; omega)).mono (by rintro e w' ⟨rfl, hE⟩; exact ⟨rfl, h2.step hE⟩)
/-- Opened anew: another journal, and what it read. -/
theorem JV.jopen (h : JV w0 w d j S R) (gd : Gd S n) (hn : n ≤ 90000) (hT : TabAt w0) (L : List (List UInt8)) (S' : St) (ho : opnX S = (some L, 0, S')) :
    Calls Tryd.prog 8 #[.pointer (some ⟨d, 0, none⟩)] w fun e w' => ∃ j2 p c, e = .returned (.tuple #[.pointer (some ⟨j2, 0, none⟩), .slice p L.length c, .int .i64 0]) ∧ JV w0 w' d j2 S' ((p, c, L) :: R) := by
  obtain ⟨F, h⟩ := h
  refine (jopen_any h.a gd hn (TabJ.old hT h.b)).mono ?_
  rintro e w' ⟨F', hA', hF', hm, hp⟩
  rw [ho] at hp hA'
  obtain ⟨j2, p, c, rfl, hx, hjl, hj, hR, hpn⟩ := hp
  refine ⟨j2, p, c, rfl, F', hA', fun i hi => (hF' i hi).elim (h.f i) (fun q => Nat.le_trans h.b.size q), h.b.trans (hm.to_below h.b.size (fun k hk q => by have := h.f k q; omega)), hx, hj, Nat.le_trans h.b.size hjl, fun x hx => ?_⟩
  rcases List.mem_cons.1 hx with rfl | hx
  · exact ⟨hR, fun a e => (hpn a e).2⟩
  · refine ⟨(h.r x hx).1.kept hm (fun a e => (h.r x hx).2 a e), fun a e hf => ?_⟩
    rcases hF' _ hf with q | q
    · exact (h.r x hx).2 a e q
    · have h1 := (h.r x hx).1
      rw [e] at h1
      have := h1.lt; omega
/-- .. whatever it answers. -/
theorem JV.jopenX (h : JV w0 w d j S R) (gd : Gd S n) (hn : n ≤ 90000) (hT : TabAt w0) :
    Calls Tryd.prog 8 #[.pointer (some ⟨d, 0, none⟩)] w fun e w' => (∃ a b c, e = .returned (.tuple #[a, b, c])) ∧ JV w0 w' d j (opnX S).2.2 R := by
  obtain ⟨F, h⟩ := h
  refine (jopen_any h.a gd hn (TabJ.old hT h.b)).mono ?_
  intro e w' hP
  have hE := hP.eff
  obtain ⟨F', _, _, _, hp⟩ := hP
  refine ⟨?_, h.step hE⟩
  cases ho : (opnX S).1 with
  | none => rw [ho] at hp; exact ⟨_, _, _, hp.1⟩
  | some L =>
    rw [ho] at hp
    obtain ⟨j2, p, c, rfl, _⟩ := hp
    exact ⟨_, _, _, rfl⟩
end
end Go.Proofs.YtippakeemfldfaaDoor

namespace Go.Proofs.YtippakeemfldfaaDoor
open Go.RowKit

/-- l or v is read, whatever stays: broken off. -/
def Bk (rm : Int) (l v : List (List UInt8)) (S : St) : Prop := ∃ dd lf dn a b, S = ⟨rm, dd, lf, dn, X2 a b⟩ ∧ Sf l v a ∧ wfO b
/-- .. up, to be broken off. -/
def BkF (rm : Int) (l v : List (List UInt8)) (S : St) : Prop := ∃ dd lf a b, S = ⟨rm, dd, lf, false, X2 a b⟩ ∧ Sf l v a ∧ wfO b
/-- .. up. -/
def BkU (rm : Int) (l v : List (List UInt8)) (S : St) : Prop := ∃ dd a b, S = ⟨rm, dd, -1, false, X2 a b⟩ ∧ Sf l v a ∧ wfO b
section
variable {rm dd : Int} {l v : List (List UInt8)} {S : St} {b : Bool}
theorem Bk.crash (h : Bk rm l v S) (ch : List Int) : BkU rm l v { S with X := crX ch S.X, lf := -1, dn := false } := by
  obtain ⟨dd, lf, dn, a, b, rfl, h1, h2⟩ := h
  obtain ⟨a', b', e, c1, c2⟩ := X2.cr a b h1.wf h2 ch
  exact ⟨dd, a', b', by simp only [e], h1.crash c1, c2.wf⟩
theorem BkU.halt (h : BkU rm l v S) (m : Int) : BkF rm l v { S with lf := max m (-1) } := by
  obtain ⟨dd, a, b, rfl, h1, h2⟩ := h
  exact ⟨dd, _, a, b, rfl, h1, h2⟩
theorem BkF.open (h : BkF rm l v S) (hl : Small l) (hv : Small v) : Bk rm l v (opnX S).2.2 := by
  obtain ⟨dd, lf, a, b, rfl, h1, h2⟩ := h
  obtain ⟨a', b', dd', lf', dn', e, s1, s2⟩ := opn_sf rm dd lf b h1 h2 hl hv
  exact ⟨dd', lf', dn', a', b', e, s1, s2⟩
theorem BkU.open (h : BkU rm l v S) (hl : Small l) (hv : Small v) : ∃ R dd' bb, (R = l ∨ R = v) ∧ opnX S = (some R, 0, JS rm dd' R bb) ∧ (bb = false → R = []) := by
  obtain ⟨dd, a, b, rfl, h1, _⟩ := h
  exact opn_up rm dd b h1 hl hv
/-- The files of a journal alone. -/
def aOf (l : List (List UInt8)) (b : Bool) : FO := if b then some (frmsB l, (frmsB l).length) else none
theorem JS.x2 (rm dd : Int) (l : List (List UInt8)) (b : Bool) : JS rm dd l b = ⟨rm, dd, -1, false, X2 (aOf l b) none⟩ := by cases b <;> rfl
theorem aOf.d (hb : b = false → l = []) : foD (aOf l b) = (frmsB l, (frmsB l).length) := by
  cases b with
  | true => rfl
  | false => rw [hb rfl]; rfl
theorem aOf.sf (hb : b = false → l = []) (hl : Small l) : Sf l v (aOf l b) := by
  cases b with
  | true => exact Sf.good hl
  | false => exact Sf.nil (hb rfl)
theorem JS.bku (hb : b = false → l = []) (hl : Small l) : BkU rm l v (JS rm dd l b) := ⟨dd, aOf l b, none, JS.x2 rm dd l b, aOf.sf hb hl, wfO.none⟩
theorem X2.bk (hl : Small l) (dd lf : Int) (dn : Bool) : Bk rm l v ⟨rm, dd, lf, dn, X2 (some (frmsB l, (frmsB l).length)) none⟩ := ⟨dd, lf, dn, _, none, rfl, Sf.good hl, wfO.none⟩
/-- An Append behind which the disk may be down. -/
theorem JS.apdH (hb : b = false → l = []) (hl : Small l) (s : List UInt8) (hs : s.length ≤ 1048576) (m : Int) :
    (∃ dd' lf', apdX { JS rm dd l b with lf := m } s = (0, ⟨rm, dd', lf', false, X2 (some (frmsB (l ++ [s]), (frmsB (l ++ [s])).length)) none⟩)) ∨
    (rm < ((frmsB l).length + (8 + s.length) : Nat) ∧ apdX { JS rm dd l b with lf := m } s = (5, { JS rm dd l b with lf := m })) ∨
    ∃ S', apdX { JS rm dd l b with lf := m } s = (6, S') ∧ Bk rm l (l ++ [s]) S' := by
  rw [JS.x2]
  rcases apd_sf rm dd m s hs hl (aOf.d hb) (aOf.sf hb hl) with h | h | ⟨a', dd', lf', h, h2⟩
  · exact .inl h
  · exact .inr (.inl h)
  · exact .inr (.inr ⟨_, h, dd', lf', true, a', none, rfl, h2, wfO.none⟩)
/-- A Rewrite behind which the disk may be down. -/
theorem JS.rwtH (hb : b = false → l = []) (hl : Small l) (v : List (List UInt8)) (hv : Small v) (m : Int) :
    (∃ dd' lf', rwtX { JS rm dd l b with lf := m } v = (0, ⟨rm, dd', lf', false, X2 (some (frmsB v, (frmsB v).length)) none⟩)) ∨
    (rm < ((frmsB l).length + (frmsB v).length : Nat) ∧ rwtX { JS rm dd l b with lf := m } v = (5, { JS rm dd l b with lf := m })) ∨
    ∃ S', rwtX { JS rm dd l b with lf := m } v = (6, S') ∧ Bk rm l v S' := by
  rw [JS.x2]
  rcases rwt_sf rm dd m v hv (aOf.d hb) (aOf.sf hb hl) with h | h | ⟨a', b', dd', lf', h, h2, h3⟩
  · exact .inl h
  · exact .inr (.inl h)
  · exact .inr (.inr ⟨_, h, dd', lf', true, a', b', rfl, h2, h3⟩)
theorem Small.snoc (hl : Small l) {s : List UInt8} (hs : s.length ≤ 1048576) : Small (l ++ [s]) := by
  intro x hx
  rcases List.mem_append.1 hx with h | h
  · exact hl x h
  · rw [List.mem_singleton.1 h]; exact hs
end
end Go.Proofs.YtippakeemfldfaaDoor

namespace Go.Proofs.YtippakeemfldfaaDoor
open Go.RowKit

set_option maxRecDepth 20000 in
set_option maxHeartbeats 2000000 in
theorem tsame_any (o o2 : Option Addr) (cap cap2 : Nat) (A B : List (List UInt8)) (w : World) (hA : Rd encS w o A) (hB : Rd encS w o2 B) (hn : A.length ≤ 1000000) (hn2 : B.length ≤ 1000000) :
    Calls Tryd.prog 24 #[.slice o A.length cap, .slice o2 B.length cap2] w fun e w' => e = .returned (.bool (decide (A = B))) ∧ Below w.heap.size w w' := by
  have hn' : (A.length : Int) ≤ 1000000 := by omega
  by_cases hl : A.length = B.length
  · have HA := Lib.hid hA
    have HB := Lib.hid hB
    have HL := Lib.hid hl
    rw [← hl]
    clear hA hB hl
    have H0 : Hid (Below w.heap.size w w ∧ true = decide (A.take 0 = B.take 0)) := Lib.hid ⟨Below.refl _ _, by simp⟩
    go_enter Tryd.func24, Tryd.ntmps24
    go_wp2_with fail
    go_loopw [5, 6] (fun s5 s6 wr => ∃ (i : Nat) (ok : Bool), i ≤ A.length ∧ s5 = .bool ok ∧ s6 = .int .i64 (i : Int) ∧ Hid (Below w.heap.size w wr ∧ ok = decide (A.take i = B.take i))) (fun _ s6 _ => A.length - (intOf s6).toNat)
    case atStart => exact ⟨0, true, by omega, rfl, rfl, H0⟩
    case round =>
      clear H0
      obtain ⟨i, ok, hi, rfl, rfl, HR⟩ := hrel
      have i0 : (0 : Int) ≤ i := by omega
      cases ok with
      | false =>
        have HF : Hid (decide (A = B) = false) := Lib.hid (by
          rw [decide_eq_false_iff_not]
          rintro rfl
          exact absurd HR.out.2 (by simp))
        have HB1 := Lib.hid HR.out.1
        clear HR
        go_wp2_with fail
        go_ret
        exact ⟨by rw [HF.out]; rfl, HB1.out⟩
      | true =>
      by_cases hlt : i < A.length
      · have hlt' : (i : Int) < A.length := by omega
        have hltB : i < B.length := by have := HL.out; omega
        obtain ⟨bs, off, rfl, hbs, hc⟩ := HA.out i hlt
        obtain ⟨bs2, off2, rfl, hbs2, hc2⟩ := HB.out i hltB
        have ce : wr.cell? ⟨bs, off + i, none⟩ = some (.string ⟨(A[i]).toArray⟩) := (HR.out.1.cell hbs).trans (by
          have := hc 0 (.string ⟨(A[i]).toArray⟩) rfl
          simpa [encS] using this)
        have ce2 : wr.cell? ⟨bs2, off2 + i, none⟩ = some (.string ⟨(B[i]).toArray⟩) := (HR.out.1.cell hbs2).trans (by
          have := hc2 0 (.string ⟨(B[i]).toArray⟩) rfl
          simpa [encS] using this)
        obtain ⟨x, hx⟩ : ∃ x, x = A[i] := ⟨_, rfl⟩
        obtain ⟨y, hy⟩ : ∃ y, y = B[i] := ⟨_, rfl⟩
        rw [← hx] at ce
        rw [← hy] at ce2
        have HX := Lib.hid hx
        have HY := Lib.hid hy
        clear hx hy hc hc2 hbs hbs2
        go_wp2_with fail
        go_quiet (fail)
        have hb1 : Below w.heap.size w (wr.drewN nq) := HR.out.1.trans ((Mod.to_below ((Mod.refl (fun _ => False) wr).drewN nq) (Nat.le_refl _) (fun _ _ h => h)).mono HR.out.1.size)
        have HB1 := Lib.hid hb1
        generalize wr.drewN nq = w1 at HB1 ⊢
        clear hb1 ce ce2
        obtain ⟨z, hz⟩ : ∃ z, z = (@BEq.beq (List UInt8) (@List.instBEq UInt8 (@instBEqOfDecidableEq UInt8 instDecidableEqUInt8)) x y) := ⟨_, rfl⟩
        have HN : Hid (Below w.heap.size w w1 ∧ z = decide (A.take (i + 1) = B.take (i + 1))) := Lib.hid ⟨HB1.out, by
          have ht : A.take i = B.take i := by simpa using HR.out.2
          rw [List.take_succ_eq_append_getElem hlt, List.take_succ_eq_append_getElem hltB, ht, ← HX.out, ← HY.out, hz, Bool.eq_iff_iff]
          simp⟩
        rw [← hz]
        clear HR HX HY hz
        go_wp2_with fail
        go_roundw
        case rel => exact ⟨i + 1, z, by omega, rfl, by go_num, HN⟩
        case measure => simp [intOf]; omega
      · obtain rfl : i = A.length := by omega
        have HF : Hid (decide (A = B) = true) := Lib.hid (by
          have := HR.out.2
          rw [List.take_length, List.take_of_length_le (by have := HL.out; omega)] at this
          simpa using this.symm)
        have HB1 := Lib.hid HR.out.1
        clear HR hlt
        go_wp2_with fail
        go_ret
        exact ⟨by rw [HF.out]; rfl, HB1.out⟩
  · have hl2 : ((A.length : Int) == B.length) = false := by simp; omega
    have HF : Hid (decide (A = B) = false) := Lib.hid (by rw [decide_eq_false_iff_not]; rintro rfl; exact hl rfl)
    clear hA hB hl
    go_enter Tryd.func24, Tryd.ntmps24
    go_wp2_with fail
    go_loopw [5, 6] (fun s5 s6 wr => s5 = .bool false ∧ s6 = .int .i64 0 ∧ Hid (w = wr)) (fun _ _ _ => 0)
    case atStart => exact ⟨rfl, rfl, Lib.hid rfl⟩
    case round =>
      obtain ⟨rfl, rfl, HR⟩ := hrel
      have hr := HR.out
      subst hr
      go_wp2_with fail
      go_ret
      exact ⟨by rw [HF.out]; rfl, Below.refl _ _⟩
end Go.Proofs.YtippakeemfldfaaDoor

namespace Go.Proofs.YtippakeemfldfaaDoor
open Go.RowKit

theorem JW.jv {w0 w : World} {d j : Nat} {S : St} {p : Option Addr} {c : Nat} {T : List (List UInt8)} (h : JW w0 w d j S p c T) : JV w0 w d j S [(p, c, T)] := by
  obtain ⟨F, h1, h2, h3, h4, h5, h6, h7, h8⟩ := h
  refine ⟨F, h1, h2, h3, h4, h5, h6, fun x hx => ?_⟩
  rw [List.mem_singleton.1 hx]
  exact ⟨h7, fun a e => (h8 a e).1⟩
/-- Appended to a row of no cells. -/
theorem wpList_append0 {α : Type} {P : Program} {ops : Array Oper} {rest : List Oper} {o : Oper} {a : Act} {Q : Exit → Act → World → Prop} {w : World} (E : Enc α) (hgd : o.guard = none) (s x : Operand) (Ts T : TypeId) (z : Value) (by_ : Nat)
    (ho : o.op = .call { callee := .builtin .append, args := #[s, x], argTypes := #[Ts, Ts] }) (hT : P.underlying Ts = some (.slice T)) (hi : (P.info? T).map (fun i => (i.zero, i.size, i.bytes)) = some (some z, E.k, by_)) (hzs : z.cells.size = E.k) (hby : by_ ≤ 1024)
    (g9 : Nat) (hs : a.eval s = .slice (some ⟨g9, 0, none⟩) 0 0) (hg9 : w.heap[g9]? = some (.cells #[] T (0, 0))) (ao : Option Addr) (cx : Nat) (Y : List α) {m : Nat} (hm : Y.length = m) (hx : a.eval x = .slice ao m cx) (hY : Rd E w ao Y) (hl : m ≤ 1000000000)
    (h : ∀ q c w', Rw E T w' q c Y → Below w.heap.size w w' → (∀ a, q = some a → g9 ≤ a.block) → wpList P ops Q rest (a.put o.dst (.slice q m c)) w') : wpList P ops Q (o :: rest) a w := by
  refine wpList_plain hgd fun K hK => ?_
  subst hm
  cases hq : P.info? T with
  | none => rw [hq] at hi; cases hi
  | some i =>
    rw [hq] at hi
    simp only [Option.map_some, Option.some.injEq, Prod.mk.injEq] at hi
    obtain ⟨hz, h1, h2⟩ := hi
    by_cases h0 : 0 < Y.length
    · obtain ⟨bs, off, rfl, hbs, _⟩ := hY 0 h0
      have hmul : (0 + Y.length) * by_ ≤ 140737488355328 := Nat.le_trans (Nat.mul_le_mul (show 0 + Y.length ≤ 1000000000 by omega) hby) (by decide)
      obtain ⟨v', w', hrun, r1, r2⟩ := run_append_arg_grows (P := P) w Ts o.type T i z E.k by_ hT hq hz h1 h2 hzs E.pos ⟨g9, 0, none⟩ 0 0 [] (by simp) (by intro j u hj; simp at hj) ⟨bs, off, none⟩ Y.length cx (E.all Y) (E.all_len Y) (by
        intro j u hj
        have hjl : j < Y.length * E.k := by
          have := (List.getElem?_eq_some_iff.1 hj).1
          rwa [E.all_len] at this
        have hd : j / E.k < Y.length := by rw [Nat.div_lt_iff_lt_mul E.pos]; exact hjl
        have hr : j % E.k < E.k := Nat.mod_lt _ E.pos
        have he : j / E.k * E.k + j % E.k = j := by rw [Nat.mul_comm]; exact Nat.div_add_mod j E.k
        obtain ⟨bs', off', e, _, c1⟩ := hY (j / E.k) hd
        cases e
        have hadd : (⟨bs, off, none⟩ : Addr).add j = ⟨bs, off + j, none⟩ := by unfold Addr.add; split <;> simp_all
        rw [← he, E.all_get Y _ _ hd hr] at hj
        have := c1 _ _ hj
        rw [Nat.add_assoc, he] at this
        rw [hadd, this]) (by omega) (by unfold maxLen; omega) hmul
      unfold Oper.wp execOp
      simp only [ho, resolve, invoke, builtin, Sem.run_bind, Sem.run_pure, Result.andThen_ok, List.map_toArray, List.map_cons, List.map_nil, hs, hx, hrun]
      rw [List.nil_append, Nat.zero_add] at r1
      have hb : Below w.heap.size w w' := (Below.refl _ _).grown r2 (Nat.le_refl _) (by intro k hk; cases hk)
      rcases r1.2 with ⟨e, hn0⟩ | ⟨g, cap, cur, e, hge, hh, q1, q2, q3, q4⟩
      · omega
      · subst e
        refine hK _ _ (h (some ⟨g, 0, none⟩) cap w' (Rw.of_row hh q1 q2 q3 q4) hb (fun a' e' => ?_))
        cases e'
        have := (Array.getElem?_eq_some_iff.1 hg9).1
        simp only; omega
    · obtain rfl : Y = [] := List.eq_nil_of_length_eq_zero (by omega)
      have hrun := run_append_no (P := P) (w := w) Ts o.type T i hT hq (some ⟨g9, 0, none⟩) 0 0 (Nat.le_refl _) (fun e => by cases e) ao cx
      unfold Oper.wp execOp
      simp only [List.length_nil] at hx
      simp only [ho, resolve, invoke, builtin, Sem.run_bind, Sem.run_pure, Result.andThen_ok, List.map_toArray, List.map_cons, List.map_nil, hs, hx, hrun]
      exact hK _ _ (h (some ⟨g9, 0, none⟩) 0 w (Rw.of_row hg9 (Nat.le_refl _) (Nat.zero_le _) (by simp) (by simp [Enc.all])) (Below.refl _ _) (fun a' e' => by cases e'; exact Nat.le_refl _))
/-- What holds while i texts are behind. -/
structure TnR (W wr : World) (d j : Nat) (p : Option Addr) (c n i : Nat) : Prop where
  ex : ∃ dd T b, JW W wr d j (JS 16384 dd T b) p c T ∧ (b = false → T = []) ∧ n = T.length ∧ T.length ≤ i ∧ (∀ s ∈ T, s.length ≤ 20) ∧ Gd (JS 16384 dd T b) (2 * i)
theorem frms20 {l : List (List UInt8)} (h : ∀ s ∈ l, s.length ≤ 20) : (frmsB l).length ≤ l.length * 28 := by
  induction l with
  | nil => exact Nat.le_refl _
  | cons s l ih =>
    have h1 := ih (fun x hx => h x (List.mem_cons_of_mem _ hx))
    have h2 := h s (List.mem_cons_self ..)
    have : frmsB (s :: l) = frmB s ++ frmsB l := rfl
    rw [this, List.length_append, frmB_len, List.length_cons]
    omega
theorem build_nos {P : Program} {ops : Array Oper} {rest : List Oper} {o : Oper} {a : Act} {w : World} {Q : Exit → Act → World → Prop} (hg : o.guard = none) (Ts T : TypeId) (ho : o.op = .buildSlice Ts 0 #[]) (hT : P.underlying Ts = some (.slice T)) {sz : Nat} (hz : (sizeOf T).run P w = .ok sz w)
    (h : wpList P ops Q rest (a.put o.dst (.slice (some ⟨w.heap.size, 0, none⟩) 0 0)) (w.alloc (.cells #[] T))) : wpList P ops Q (o :: rest) a w := by
  refine wpList_plain hg fun K hK => ?_
  have hrun : (execOp a.eval o).run P w = .ok (.value (.slice (some ⟨w.heap.size, 0, none⟩) 0 0)) (w.alloc (.cells #[] T)) := by
    unfold execOp
    simp [ho, Instr.buildSlice, run_underlying hT, Instr.fill, newRow, hz]
    congr 2
    exact Array.eq_empty_of_size_eq_zero (by simp)
  unfold Oper.wp
  rw [hrun]
  exact hK _ _ h
/-- What is to be. -/
def toL (rw_ : Bool) (T : List (List UInt8)) (y : List UInt8) : List (List UInt8) := if rw_ then [y] else T ++ [y]
/-- What holds behind the making: the journal, what is to be and what was beside it. -/
structure TwR (W wx : World) (d j : Nat) (p : Option Addr) (c : Nat) (T V : List (List UInt8)) (tp : Option Addr) (tn tc : Nat) : Prop where
  ex : ∃ dd b, JV W wx d j (JS 16384 dd T b) [(tp, tc, V), (p, c, T)] ∧ (b = false → T = []) ∧ Gd (JS 16384 dd T b) 8
  n : tn = V.length
section
variable {W wr w : World} {d j d2 k : Nat} {p tp : Option Addr} {c tn tc : Nat} {T V : List (List UInt8)} {y : List UInt8} {dd : Int} {b : Bool} {S : St} {g : Int}
theorem TwR.old (h : TwR W wr d j p c T V tp tn tc) (hb : Below wr.heap.size wr w) : TwR W w d j p c T V tp tn tc := by
  obtain ⟨dd, b, h1, h2, h3⟩ := h.ex
  exact ⟨⟨dd, b, h1.old hb, h2, h3⟩, h.n⟩
theorem JV.clone {R : List TR} {n : Nat} (h : JV W wr d j S R) (gd : Gd S n) (hn : n ≤ 90000) : Calls Tryd.prog 25 #[.pointer (some ⟨d, 0, none⟩)] wr fun e w' => ∃ p, e = .returned (.pointer (some ⟨p, 0, none⟩)) ∧ Dk wr w' p S := by
  obtain ⟨F, h⟩ := h
  refine (dkclone_any h.a (gd.ok (by omega))).mono ?_
  rintro e w' ⟨p, F', rfl, hA, hF, hb⟩
  exact ⟨p, rfl, F', hA, hF, hb⟩
/-- Broken off, or not. -/
def TnB (wr w : World) (d2 k : Nat) (T V : List (List UInt8)) (g : Int) : Prop := ∃ S l, JV wr w d2 k S [(none, 0, [])] ∧ Gd S 12 ∧ Bk 16384 l V S ∧ Small l ∧ Small V ∧ (g = 0 ∧ l = V ∨ g = 6 ∧ l = T)
/-- Crashed. -/
def TnU (wr w : World) (d2 k : Nat) (T V : List (List UInt8)) (g : Int) : Prop := ∃ S l, JV wr w d2 k S [(none, 0, [])] ∧ Gd S 12 ∧ BkU 16384 l V S ∧ Small l ∧ Small V ∧ (g = 0 ∧ l = V ∨ g = 6 ∧ l = T)
theorem small20 (h : ∀ s ∈ T, s.length ≤ 20) : Small T := fun s hs => Nat.le_trans (h s hs) (by decide)
theorem torn_apd {m : Int} (h : JV wr w d2 k { JS 16384 dd T b with lf := max m (-1) } [(none, 0, [])]) (hb : b = false → T = []) (gd : Gd (JS 16384 dd T b) 8) (hm : m ≤ 9223372036854775807) (h20 : ∀ s ∈ T, s.length ≤ 20) (hT4 : T.length ≤ 4) (hy : y.length ≤ 20) (hT : TabAt wr) :
    Calls Tryd.prog 13 #[.pointer (some ⟨k, 0, none⟩), .string ⟨y.toArray⟩] w fun e w' => ∃ g, e = .returned (.int .i64 g) ∧ TnB wr w' d2 k T (T ++ [y]) g := by
  have hs := small20 h20
  have f1 := frms20 h20
  have gh := (gd.halt m hm)
  refine (h.append gh (by decide) y (by omega) hT).mono ?_
  rintro e w' ⟨rfl, hJ⟩
  have g2 := gh.apd y
  have hto : Small (T ++ [y]) := hs.snoc (by omega)
  rcases JS.apdH (rm := 16384) (dd := dd) hb hs y (by omega) (max m (-1)) with ⟨dd', lf', e⟩ | ⟨q, _⟩ | ⟨S', e, hB⟩
  · rw [e] at hJ g2 ⊢
    exact ⟨0, rfl, _, T ++ [y], hJ, g2.more (by decide), X2.bk hto _ _ _, hto, hto, .inl ⟨rfl, rfl⟩⟩
  · omega
  · rw [e] at hJ g2 ⊢
    exact ⟨6, rfl, S', T, hJ, g2.more (by decide), hB, hs, hto, .inr ⟨rfl, rfl⟩⟩
theorem torn_rwt {m : Int} (h : JV wr w d2 k { JS 16384 dd T b with lf := max m (-1) } [(none, 0, [])]) (hb : b = false → T = []) (gd : Gd (JS 16384 dd T b) 8) (hm : m ≤ 9223372036854775807) (h20 : ∀ s ∈ T, s.length ≤ 20) (hT4 : T.length ≤ 4) (hy : y.length ≤ 20) (hT : TabAt wr) :
    Calls Tryd.prog 12 #[.pointer (some ⟨k, 0, none⟩), .slice (some ⟨w.heap.size, 0, none⟩) 1 1] (w.alloc (.cells #[.string ⟨y.toArray⟩] 9)) fun e w' => ∃ g, e = .returned (.int .i64 g) ∧ TnB wr w' d2 k T [y] g := by
  have hs := small20 h20
  have f1 := frms20 h20
  have gh := (gd.halt m hm)
  have hb8 : Below w.heap.size w (w.alloc (.cells #[.string ⟨y.toArray⟩] 9)) := (Below.refl _ w).alloc (Nat.le_refl _) _
  refine ((h.old hb8).rewrite gh (by decide) (L := [y]) (Rw.made (E := encS) 9 w [y] (by simp [maxLen])) (by simp) hT).mono ?_
  rintro e w' ⟨rfl, hJ⟩
  have g2 := gh.rwt [y]
  have hto : Small [y] := fun x hx => by rw [List.mem_singleton.1 hx]; omega
  have f2 : (frmsB [y]).length = 8 + y.length := by
    have : frmsB [y] = frmB y ++ [] := rfl
    rw [this, List.append_nil, frmB_len]
  rcases JS.rwtH (rm := 16384) (dd := dd) hb hs [y] hto (max m (-1)) with ⟨dd', lf', e⟩ | ⟨q, _⟩ | ⟨S', e, hB⟩
  · rw [e] at hJ g2 ⊢
    exact ⟨0, rfl, _, [y], hJ, g2.more (by decide), X2.bk hto _ _ _, hto, hto, .inl ⟨rfl, rfl⟩⟩
  · omega
  · rw [e] at hJ g2 ⊢
    exact ⟨6, rfl, S', T, hJ, g2.more (by decide), hB, hs, hto, .inr ⟨rfl, rfl⟩⟩
theorem torn_crash (h : TnB wr w d2 k T V g) (x : Int) :
    Calls Tryd.prog 14 #[.pointer (some ⟨d2, 0, none⟩), .slice (some ⟨w.heap.size, 0, none⟩) 2 2] (w.alloc (.cells #[.int .i64 x, .int .i64 x] 3)) fun e w' => e = .returned (.tuple #[]) ∧ TnU wr w' d2 k T V g := by
  obtain ⟨S, l, hJ, hG, hB, h1, h2, h3⟩ := h
  have hb8 : Below w.heap.size w (w.alloc (.cells #[.int .i64 x, .int .i64 x] 3)) := (Below.refl _ w).alloc (Nat.le_refl _) _
  refine (hJ.crash hb8 (hG.ok (by decide)) (some ⟨w.heap.size, 0, none⟩) 2 [x, x] (Nat.le_refl _) (Rd.made encI w 3 [x, x] (by simp [maxLen])) (fun _ a e => by cases e; exact .inr (Nat.le_refl _))).mono ?_
  rintro e w' ⟨rfl, hJ'⟩
  exact ⟨rfl, _, l, hJ', hG.crash _, hB.crash _, h1, h2, h3⟩
theorem torn_open (h : TnU wr w d2 k T V g) (hT : TabAt wr) :
    Calls Tryd.prog 8 #[.pointer (some ⟨d2, 0, none⟩)] w fun e w' => ∃ j2 p c R, e = .returned (.tuple #[.pointer (some ⟨j2, 0, none⟩), .slice p R.length c, .int .i64 0]) ∧ Rw encS 9 w' p c R ∧ Below wr.heap.size wr w' ∧ (g = 0 ∧ R = V ∨ g = 6 ∧ (R = T ∨ R = V)) := by
  obtain ⟨S, l, hJ, hG, hB, h1, h2, h3⟩ := h
  obtain ⟨R, dd', bb, hR, ho, _⟩ := hB.open h1 h2
  refine (hJ.jopen hG (by decide) hT R _ ho).mono ?_
  rintro e w' ⟨j2, p, c, rfl, hJ'⟩
  refine ⟨j2, p, c, R, rfl, hJ'.row (List.mem_cons_self ..), ?_, ?_⟩
  · obtain ⟨F, hF⟩ := hJ'
    exact hF.b
  · rcases h3 with ⟨a, e⟩ | ⟨a, e⟩
    · exact .inl ⟨a, by rcases hR with q | q <;> rw [q]; exact e⟩
    · exact .inr ⟨a, by rw [← e]; exact hR⟩
end
end Go.Proofs.YtippakeemfldfaaDoor

namespace Go.Proofs.YtippakeemfldfaaDoor
open Go.ChangeShapes Go.WideShapes Go.ChangeAt Go.RowKit Go.Deep

theorem open_texts1 {H : Type} {enc : TypeId × Value → H} {W : World} {v : Value} {fuel : Nat} {x : DataW H × List MemPlace} (hf : DataW.trod enc Tryd.prog W 0 (fun _ => true) true fuel 27 [v] = some x) :
    ∃ ao cap L, v = .slice ao L.length cap ∧ Rd encS W ao L ∧ (∀ s ∈ L, (s.length : Int) ≤ 9223372036854775807) ∧ L.length ≤ 9223372036854775807 ∧ L.length ≤ cap := by
  rcases open_strings Tryd.underlying27 Tryd.underlying9 (by kernel_rfl) hf with ⟨hc, _⟩ | ⟨a', len', cap', ss, hc, _, hl, hm, hss, _, hcell, hsz⟩
  · have hc2 : [v] = [Value.slice none 0 0] := hc
    simp only [List.cons.injEq, and_true] at hc2
    subst hc2
    exact ⟨none, 0, [], rfl, Rd.nil _ _, fun s hs => by simp at hs, Nat.zero_le _, Nat.le_refl _⟩
  · have hc2 : [v] = [Value.slice (some a') len' cap'] := hc
    simp only [List.cons.injEq, and_true] at hc2
    subst hc2
    simp only [if_true] at hss
    have hlen : (ss.take len').length = len' := by rw [List.length_take]; omega
    refine ⟨some a', cap', (ss.take len').map (fun (b : ByteArray) => b.data.toList), by rw [List.length_map, hlen], ?_, ?_, ?_, ?_⟩
    · intro j hj
      have hjl : j < len' := by rw [List.length_map, hlen] at hj; exact hj
      have hc0 := hcell 0 (by omega)
      obtain ⟨bs, off, spot⟩ := a'
      have hspot : spot = none := by simpa [Addr.add] using World.cell?_spot hc0
      subst hspot
      have hcj := hcell j (by omega)
      refine ⟨bs, off, rfl, cell_block (by simpa [Addr.add_lit] using hcj), fun i u hu => ?_⟩
      have hi0 : i = 0 := by
        have := (List.getElem?_eq_some_iff.1 hu).1
        simp [encS] at this; exact this
      subst hi0
      simp only [encS, List.getElem?_cons_zero, Option.some.injEq] at hu
      subst hu
      have e : (ss.getD j ByteArray.empty) = ⟨(((ss.take len').map (fun (b : ByteArray) => b.data.toList))[j]'hj).toArray⟩ := by
        rw [List.getElem_map, List.getElem_take]
        simp [List.getD, List.getElem?_eq_getElem (show j < ss.length by omega)]
      rw [← e]
      simpa [Addr.add_lit, encS] using hcj
    · intro s hs
      obtain ⟨b, hb, rfl⟩ := List.mem_map.1 hs
      have := hsz b (List.mem_of_mem_take hb)
      unfold maxLen at this
      have e : b.data.toList.length = b.size := rfl
      omega
    · unfold maxLen at hm; rw [List.length_map, hlen]; omega
    · rw [List.length_map, hlen]; exact hl
set_option maxRecDepth 20000 in
theorem open_ints1 {H : Type} {enc : TypeId × Value → H} {W : World} {v : Value} {fuel : Nat} {x : DataW H × List MemPlace} (hf : DataW.trod enc Tryd.prog W 0 (fun _ => true) true fuel 31 [v] = some x) :
    ∃ ao cap S, v = .slice ao S.length cap ∧ Rd encI W ao S ∧ (∀ x ∈ S, -9223372036854775808 ≤ x ∧ x ≤ 9223372036854775807) ∧ S.length ≤ 9223372036854775807 ∧ S.length ≤ cap := by
  rcases open_slice1 Tryd.underlying31 (by kernel_rfl) hf with ⟨hc, _⟩ | ⟨a', len', cap', m, k, V, D, Pl, hc, _, hl, hm, hmm, _, hall⟩
  · have hc2 : [v] = [Value.slice none 0 0] := hc
    simp only [List.cons.injEq, and_true] at hc2
    subst hc2
    exact ⟨none, 0, [], rfl, Rd.nil _ _, (fun x hx => by simp at hx), Nat.zero_le _, Nat.le_refl _⟩
  · have hc2 : [v] = [Value.slice (some a') len' cap'] := hc
    simp only [List.cons.injEq, and_true] at hc2
    subst hc2
    simp only [if_true] at hmm
    subst hmm
    have hj : ∀ i, i < len' → ∃ s : Int, V i = .int .i64 s ∧ -9223372036854775808 ≤ s ∧ s ≤ 9223372036854775807 := by
      intro i hi
      obtain ⟨N, h1, _, hw⟩ := DataW.trod_int Tryd.underlying3 (hall i (by omega)).2
      simp only [List.cons.injEq, and_true] at h1
      have b := bounds_i64 hw
      exact ⟨N, h1, by omega, by omega⟩
    obtain ⟨f, hf2⟩ := choose_lt hj
    obtain ⟨bs, off, spot⟩ := a'
    by_cases h0 : 0 < m
    · have hspot : spot = none := by simpa [Addr.add] using World.cell?_spot (hall 0 (by omega)).1
      subst hspot
      refine ⟨some ⟨bs, off, none⟩, m, (List.range len').map f, by simp, ?_, ?_, by unfold maxLen at hm; rw [List.length_map, List.length_range]; omega, by rw [List.length_map, List.length_range]; exact hl⟩
      · intro j hjl
        have hjn : j < len' := by simpa using hjl
        have e0 := (hf2 j hjn).1
        obtain ⟨c0, _⟩ := hall j (by omega)
        rw [e0] at c0
        have c0' : W.cell? ⟨bs, off + j, none⟩ = some (.int .i64 (f j)) := by simpa [Addr.add_lit] using c0
        refine ⟨bs, off, rfl, cell_block c0', fun i u hu => ?_⟩
        have hi0 : i = 0 := by
          have := (List.getElem?_eq_some_iff.1 hu).1
          simp [encI] at this; exact this
        subst hi0
        simp only [encI, List.getElem?_cons_zero, Option.some.injEq] at hu
        subst hu
        simpa [encI] using c0'
      · intro x hx
        obtain ⟨i, hi, rfl⟩ := List.mem_map.1 hx
        exact (hf2 i (List.mem_range.1 hi)).2
    · have hl0 : len' = 0 := by omega
      subst hl0
      exact ⟨some ⟨bs, off, spot⟩, m, [], rfl, (fun j hj => by simp at hj), (fun x hx => by simp at hx), Nat.zero_le _, Nat.zero_le _⟩
def i64ok (x : Int) : Prop := -9223372036854775808 ≤ x ∧ x ≤ 9223372036854775807
/-- An act: its kind, its number, its texts, its choices, its halts (where they lie, and their capacities). -/
structure BX where
  kd : Int
  af : Int
  lo : Option Addr
  lc : Nat
  L : List (List UInt8)
  co : Option Addr
  cc : Nat
  ch : List Int
  ao : Option Addr
  ac : Nat
  ag : List Int
instance : Inhabited BX := ⟨⟨0, 0, none, 0, [], none, 0, [], none, 0, []⟩⟩
def BX.cells (x : BX) : List Value := [.int .i64 x.kd, .int .i64 x.af, .slice x.lo x.L.length x.lc, .slice x.co x.ch.length x.cc, .slice x.ao x.ag.length x.ac]
def encB : Enc BX := ⟨BX.cells, 5, fun _ => rfl, fun _ v hv => by simp [BX.cells] at hv; rcases hv with rfl | rfl | rfl | rfl | rfl <;> rfl, by decide⟩
structure okB (W : World) (x : BX) : Prop where
  kd : i64ok x.kd
  af : i64ok x.af
  rl : Rd encS W x.lo x.L
  zl : ∀ s ∈ x.L, (s.length : Int) ≤ 9223372036854775807
  nl : x.L.length ≤ 9223372036854775807
  rc : Rd encI W x.co x.ch
  cl : x.ch.length ≤ 9223372036854775807
  cc : x.ch.length ≤ x.cc
  ra : Rd encI W x.ao x.ag
  ab : ∀ z ∈ x.ag, i64ok z
  al : x.ag.length ≤ 9223372036854775807
theorem Rd.bx {w : World} {ao : Option Addr} {L : List BX} (h : Rd encB w ao L) (j : Nat) (hj : j < L.length) : ∃ bs off, ao = some ⟨bs, off, none⟩ ∧ bs < w.heap.size ∧
    ∀ i u, (L[j]).cells[i]? = some u → w.cell? ⟨bs, off + j * 5 + i, none⟩ = some u := h j hj
set_option maxRecDepth 20000 in
theorem open_bacts1 {H : Type} {enc : TypeId × Value → H} {W : World} {v : Value} {fuel : Nat} {x : DataW H × List MemPlace} (hf : DataW.trod enc Tryd.prog W 0 (fun _ => true) true fuel 22 [v] = some x) :
    ∃ ao cap L, v = .slice ao L.length cap ∧ Rd encB W ao L ∧ (∀ s ∈ L, okB W s) ∧ L.length ≤ 9223372036854775807 ∧ L.length ≤ cap := by
  have k5 : Tryd.prog.cellsOf 33 = 5 := by kernel_rfl
  have ki : Tryd.prog.cellsOf 3 = 1 := by kernel_rfl
  have ks : Tryd.prog.cellsOf 27 = 1 := by kernel_rfl
  have kt : Tryd.prog.cellsOf 31 = 1 := by kernel_rfl
  rcases open_slice Tryd.underlying22 hf with ⟨hc, _⟩ | ⟨a', len', cap', m, n, D, Pl, hc, _, hl, hm, hmm, _, hall⟩
  · have hc2 : [v] = [Value.slice none 0 0] := hc
    simp only [List.cons.injEq, and_true] at hc2
    subst hc2
    exact ⟨none, 0, [], rfl, Rd.nil _ _, fun s hs => by simp at hs, Nat.zero_le _, Nat.le_refl _⟩
  · have hc2 : [v] = [Value.slice (some a') len' cap'] := hc
    simp only [List.cons.injEq, and_true] at hc2
    subst hc2
    simp only [if_true] at hmm
    subst hmm
    have hj : ∀ i, i < len' → ∃ s : BX, okB W s ∧ ∀ t u, s.cells[t]? = some u → W.cell? ((a'.add (i * 5)).add t) = some u := by
      intro i hi
      obtain ⟨cs', h1, h2⟩ := hall i (by omega)
      rw [k5] at h1
      obtain ⟨_, hlen, hcell⟩ := World.cells?_some h1
      obtain ⟨xs, k, _, _, _, hxl, hg⟩ := DataW.trod_struct Tryd.underlying33 h2
      match xs, hxl, cs', hlen with
      | [y0, y1, y2, y3, y4], _, [v0, v1, v2, v3, v4], _ =>
        have g0 := hg 0 _ rfl
        have g1 := hg 1 _ rfl
        have g2 := hg 2 _ rfl
        have g3 := hg 3 _ rfl
        have g4 := hg 4 _ rfl
        simp [ki, ks, kt] at g0 g1 g2 g3 g4
        obtain ⟨n0, e0, _, w0⟩ := DataW.trod_int Tryd.underlying3 g0
        obtain ⟨n1, e1, _, w1⟩ := DataW.trod_int Tryd.underlying3 g1
        obtain ⟨lo, lc, L, rfl, hrl, hzl, hnl, _⟩ := open_texts1 g2
        obtain ⟨co, cc, ch, rfl, hrd, _, hcl, hcc⟩ := open_ints1 g3
        obtain ⟨ao, ac, ag, rfl, hra, hab, hal, _⟩ := open_ints1 g4
        simp only [List.cons.injEq, and_true] at e0 e1
        subst e0 e1
        refine ⟨⟨n0, n1, lo, lc, L, co, cc, ch, ao, ac, ag⟩, ⟨bounds_i64 w0, bounds_i64 w1, hrl, hzl, hnl, hrd, hcl, hcc, hra, hab, hal⟩, fun t u hu => ?_⟩
        have ht : t < 5 := by have := (List.getElem?_eq_some_iff.1 hu).1; simpa [BX.cells] using this
        have q := hcell t (by omega)
        rw [q, ← hu]
        match t, ht with
        | 0, _ => rfl
        | 1, _ => rfl
        | 2, _ => rfl
        | 3, _ => rfl
        | 4, _ => rfl
    obtain ⟨f, hf2⟩ := choose_lt hj
    refine ⟨some a', m, (List.range len').map f, by simp, ?_, ?_, by simp; unfold maxLen at hm; omega, by simpa using hl⟩
    · intro j hjl
      have hjn : j < len' := by simpa using hjl
      obtain ⟨bs, off, spot⟩ := a'
      obtain ⟨ho, hcs⟩ := hf2 j hjn
      have c0 := hcs 0 _ rfl
      have hspot : spot = none := by simpa [Addr.add] using World.cell?_spot ((hf2 0 (by omega)).2 0 _ rfl)
      subst hspot
      refine ⟨bs, off, rfl, by have := cell_block c0; simpa [Addr.add_lit] using this, fun i u hu => ?_⟩
      rw [List.getElem_map, List.getElem_range] at hu
      have := hcs i u hu
      simpa [Addr.add_lit, encB] using this
    · intro s hs
      obtain ⟨i, hi, rfl⟩ := List.mem_map.1 hs
      exact (hf2 i (List.mem_range.1 hi)).1
set_option maxRecDepth 20000 in
theorem open_bacts {H : Type} {enc : TypeId × Value → H} {W : World} {base : Nat} {v : Value} {d : DataW H} {ps : List MemPlace} (_hval : Value.okWide Tryd.prog W .any base 22 v) (h : DataW.Trod enc Tryd.prog W 0 (fun _ => true) true 22 v d ps) :
    ∃ ao cap L, v = .slice ao L.length cap ∧ Rd encB W ao L ∧ (∀ s ∈ L, okB W s) ∧ L.length ≤ 9223372036854775807 ∧ L.length ≤ cap := by
  obtain ⟨a, len, cap, rfl⟩ := okWide_slice Tryd.underlying22 _hval
  obtain ⟨fuel, hf⟩ := h
  exact open_bacts1 (by simpa [Value.cells] using hf)
end Go.Proofs.YtippakeemfldfaaDoor
