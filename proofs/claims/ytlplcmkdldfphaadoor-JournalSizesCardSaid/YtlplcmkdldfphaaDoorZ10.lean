/- Texts 10: what the laws lean on. -/
import Derived.Test.YtlplcmkdldfphaaDoorZ4
import Derived.Test.YtlplcmkdldfphaaDoorZ9
import Derived.Test.YtlplcmkdldfphaaDoorZ5
namespace Go.Proofs.YtlplcmkdldfphaaDoor
open Go.RowKit

set_option maxRecDepth 20000 in
set_option maxHeartbeats 1000000 in
theorem jsize_any {w : World} {d : Nat} {S : St} {F : Nat → Prop} (h : DA w d S F) (hdn : S.dn = false) (j : Nat) (bj : Bx w j (.pointer (some ⟨d, 0, none⟩))) :
    Calls Tryd.prog 21 #[.pointer (some ⟨j, 0, none⟩)] w fun e w' => e = .returned (.int .i64 ((rdX S logN).1.length : Nat)) ∧ Below w.heap.size w w' := by
  have HR := Lib.hid (dkread_any h logN (by decide))
  have c0 := bj.cell
  obtain ⟨s, er, hr⟩ : ∃ s er, rdX S logN = (s, er) := ⟨_, _, rfl⟩
  have her : (er == 6) = false := by
    unfold rdX at hr
    rw [if_neg (by simp [hdn])] at hr
    by_cases hh : hasX logN S.X = true
    · rw [if_pos hh] at hr; rw [← (Prod.mk.inj hr).2]; rfl
    · rw [if_neg hh] at hr; rw [← (Prod.mk.inj hr).2]; rfl
  rw [hr] at HR ⊢
  clear h bj hr hdn
  go_enter Tryd.func21, Tryd.ntmps21
  go_wp2_with fail
  refine HR.out.mono ?_
  rintro e w1 ⟨rfl, hb⟩
  have HB := Lib.hid hb
  clear hb
  go_wp2_with fail
  go_ret
  exact ⟨rfl, HB.out⟩
end Go.Proofs.YtlplcmkdldfphaaDoor

namespace Go.Proofs.YtlplcmkdldfphaaDoor
open Go.RowKit

def rowY (L : List UInt8) : Stays := ⟨fun v w => ∃ p c, v = .slice p L.length c ∧ Rw encY 5 w p c L, fun ⟨p, c, e, h⟩ hb => ⟨p, c, e, h.old hb⟩⟩
theorem wrdB_sum (s : List UInt8) : wrdB (sumB s) = ((sha (nats s)).map UInt8.ofNat).take 4 := by
  obtain ⟨S, hS⟩ : ∃ S, S = sha (nats s) := ⟨_, rfl⟩
  have hl : S.length = 32 := by rw [hS]; exact sha_len _
  have hb : ∀ x ∈ S, x < 256 := by rw [hS]; exact sha_lt _
  have e : sumB s = S[0] * 16777216 + S[1] * 65536 + S[2] * 256 + S[3] := by
    unfold sumB w16; rw [← hS, getD_at _ _ (by omega), getD_at _ _ (by omega), getD_at _ _ (by omega), getD_at _ _ (by omega)]
  rw [← hS, e]
  have b0 := hb _ (List.getElem_mem (show 0 < S.length by omega))
  have b1 := hb _ (List.getElem_mem (show 1 < S.length by omega))
  have b2 := hb _ (List.getElem_mem (show 2 < S.length by omega))
  have b3 := hb _ (List.getElem_mem (show 3 < S.length by omega))
  have ht : (S.map UInt8.ofNat).take 4 = [UInt8.ofNat S[0], UInt8.ofNat S[1], UInt8.ofNat S[2], UInt8.ofNat S[3]] := by
    rw [List.take_succ_eq_append_getElem (by simp; omega), List.take_succ_eq_append_getElem (by simp; omega), List.take_succ_eq_append_getElem (by simp; omega), List.take_succ_eq_append_getElem (by simp; omega)]
    simp
  rw [ht]
  generalize S[0] = a at *
  generalize S[1] = b at *
  generalize S[2] = c at *
  generalize S[3] = d at *
  have key : ∀ x y : Nat, x % 256 = y % 256 → UInt8.ofNat x = UInt8.ofNat y := fun x y h => by apply UInt8.toNat_inj.1; rw [UInt8.toNat_ofNat', UInt8.toNat_ofNat']; exact h
  unfold wrdB
  have k1 := key ((a * 16777216 + b * 65536 + c * 256 + d) / 16777216) a (by omega)
  have k2 := key ((a * 16777216 + b * 65536 + c * 256 + d) / 65536) b (by omega)
  have k3 := key ((a * 16777216 + b * 65536 + c * 256 + d) / 256) c (by omega)
  have k4 := key (a * 16777216 + b * 65536 + c * 256 + d) d (by omega)
  rw [k1, k2, k3, k4]
set_option maxRecDepth 20000 in
set_option maxHeartbeats 1000000 in
theorem frame10_any (s : List UInt8) (w : World) (hs : s.length ≤ 1073741824) :
    Calls Tryd.prog 23 #[.string ⟨s.toArray⟩] w fun e w' => e = .returned (.string ⟨(frmB s).toArray⟩) ∧ Below w.heap.size w w' := by
  obtain ⟨n, hn⟩ : ∃ n, n = s.length := ⟨_, rfl⟩
  obtain ⟨tt, ht⟩ : ∃ t : List UInt8, t = (sha (nats s)).map UInt8.ofNat := ⟨_, rfl⟩
  have hxk : ∀ k : Nat, ((k : Nat) : Int) % 256 = (((UInt8.ofNat k).toNat : Nat) : Int) := fun k => by rw [UInt8.toNat_ofNat']; omega
  obtain ⟨x0, h0⟩ : ∃ x, x = UInt8.ofNat (n / 16777216) := ⟨_, rfl⟩
  obtain ⟨x1, h1⟩ : ∃ x, x = UInt8.ofNat (n / 65536) := ⟨_, rfl⟩
  obtain ⟨x2, h2⟩ : ∃ x, x = UInt8.ofNat (n / 256) := ⟨_, rfl⟩
  obtain ⟨x3, h3⟩ : ∃ x, x = UInt8.ofNat n := ⟨_, rfl⟩
  have E0 : Hid (IntKind.u8.wrap ((n : Int) / 16777216) = (x0.toNat : Int)) := Lib.hid (by rw [IntKind.wrap_u8, h0, ← hxk]; rfl)
  have E1 : Hid (IntKind.u8.wrap ((n : Int) / 65536) = (x1.toNat : Int)) := Lib.hid (by rw [IntKind.wrap_u8, h1, ← hxk]; rfl)
  have E2 : Hid (IntKind.u8.wrap ((n : Int) / 256) = (x2.toNat : Int)) := Lib.hid (by rw [IntKind.wrap_u8, h2, ← hxk]; rfl)
  have E3 : Hid (IntKind.u8.wrap (n : Int) = (x3.toNat : Int)) := Lib.hid (by rw [IntKind.wrap_u8, h3, ← hxk])
  have HTL : Hid (tt.length = 32) := Lib.hid (by rw [ht, List.length_map]; exact sha_len _)
  have HX : Hid ((⟨tt.toArray⟩ : ByteArray).extract 0 4 = ⟨(tt.take 4).toArray⟩) := Lib.hid (by apply ByteArray.ext; simp)
  have HRF : Hid (∀ w1, Calls Tryd.prog 48 #[.string ⟨s.toArray⟩] w1 fun r w' => r = .returned (.string ⟨tt.toArray⟩) ∧ Below w1.heap.size w1 w') := Lib.hid (fun w1 =>
    (refof_any s w1 hs).mono fun _ _ ⟨h1, h2⟩ => ⟨by rw [h1, ht]; rfl, h2.to_below (Nat.le_refl _) (fun _ _ h => h)⟩)
  obtain ⟨a1, ha1⟩ : ∃ a : ByteArray, a = (⟨#[x0, x1, x2, x3]⟩ : ByteArray) ++ (⟨(tt.take 4).toArray⟩ : ByteArray) := ⟨_, rfl⟩
  obtain ⟨a2, ha2⟩ : ∃ a : ByteArray, a = a1 ++ (⟨s.toArray⟩ : ByteArray) := ⟨_, rfl⟩
  have HA1 := Lib.hid ha1
  have HAL : Hid (a1.size ≤ 8) := Lib.hid (by
    rw [ha1, ByteArray.size_append]
    have h1 : (⟨#[x0, x1, x2, x3]⟩ : ByteArray).size = 4 := rfl
    have h2 : (⟨(tt.take 4).toArray⟩ : ByteArray).size = (tt.take 4).length := rfl
    rw [h1, h2, List.length_take]
    omega)
  have HA2 := Lib.hid ha2
  have HF : Hid (a2 = ⟨(frmB s).toArray⟩) := Lib.hid (by
    rw [ha2, ha1]
    unfold frmB
    rw [wrdB_sum, ← ht, ← hn, wrdB, ← h0, ← h1, ← h2, ← h3]
    apply ByteArray.ext
    simp)
  have HSL := Lib.hid hs
  clear ha1 ha2 hs ht h0 h1 h2 h3 hxk
  go_enter Tryd.func23, Tryd.ntmps23
  go_upto_region 2 with fail
  rw [← hn]
  clear hn
  refine wp_region_puts (fun t v w => VK (match t with
    | 6 => .eq (.int .i64 (n : Int))
    | 7 => .eq (.int .i64 ((n : Int) / 16777216))
    | 8 => .eq (.int .u8 (x0.toNat : Int))
    | 9 => .eq (.int .i64 (n : Int))
    | 10 => .eq (.int .i64 ((n : Int) / 65536))
    | 11 => .eq (.int .u8 (x1.toNat : Int))
    | 12 => .eq (.int .i64 (n : Int))
    | 13 => .eq (.int .i64 ((n : Int) / 256))
    | 14 => .eq (.int .u8 (x2.toNat : Int))
    | 15 => .eq (.int .i64 (n : Int))
    | 16 => .eq (.int .u8 (x3.toNat : Int))
    | 17 => .st (rowY [x0, x1, x2, x3])
    | 18 => .eq (.string ⟨#[x0, x1, x2, x3]⟩)
    | 19 => .eq (.string ⟨s.toArray⟩)
    | 20 => .eq (.string ⟨tt.toArray⟩)
    | 21 => .eq (.string ⟨(tt.take 4).toArray⟩)
    | 22 => .eq (.string a1)
    | 23 => .eq (.string ⟨s.toArray⟩)
    | 24 => .eq (.string a2)
    | 2 => .eq (.string a2)
    | _ => .any) v w) (fun w' => Below w.heap.size w w') 25 (by kernel_rfl) (by decide +kernel) rfl (Below.refl _ _).drew (by
    refine OweAll.cons (owesK rfl rfl fun a w1 ha hG hV => ?_) ?_
    · skip
      have h3 := ha.outer 3 (by decide +kernel)
      simp only [Act.eval] at h3
      exact ⟨.int .i64 (n : Int), w1, wanted_free rfl, by simp [execOp, go_sem, h3], Below.refl _ _, rfl⟩
    refine OweAll.cons (owesK rfl rfl fun a w1 ha hG hV => ?_) ?_
    · skip
      have h6 : a.tmps.getD 6 undef = .int .i64 (n : Int) := hV.get 6 (by decide +kernel)
      exact ⟨.int .i64 ((n : Int) / 16777216), w1, wanted_free rfl, by simp [execOp, go_sem, h6], Below.refl _ _, rfl⟩
    refine OweAll.cons (owesK rfl rfl fun a w1 ha hG hV => ?_) ?_
    · skip
      have h7 : a.tmps.getD 7 undef = .int .i64 ((n : Int) / 16777216) := hV.get 7 (by decide +kernel)
      have e := E0.out
      exact ⟨.int .u8 (x0.toNat : Int), w1, wanted_free rfl, by simp [execOp, go_sem, h7, e], Below.refl _ _, rfl⟩
    refine OweAll.cons (owesK rfl rfl fun a w1 ha hG hV => ?_) ?_
    · skip
      have h3 := ha.outer 3 (by decide +kernel)
      simp only [Act.eval] at h3
      exact ⟨.int .i64 (n : Int), w1, wanted_free rfl, by simp [execOp, go_sem, h3], Below.refl _ _, rfl⟩
    refine OweAll.cons (owesK rfl rfl fun a w1 ha hG hV => ?_) ?_
    · skip
      have h9 : a.tmps.getD 9 undef = .int .i64 (n : Int) := hV.get 9 (by decide +kernel)
      exact ⟨.int .i64 ((n : Int) / 65536), w1, wanted_free rfl, by simp [execOp, go_sem, h9], Below.refl _ _, rfl⟩
    refine OweAll.cons (owesK rfl rfl fun a w1 ha hG hV => ?_) ?_
    · skip
      have h10 : a.tmps.getD 10 undef = .int .i64 ((n : Int) / 65536) := hV.get 10 (by decide +kernel)
      have e := E1.out
      exact ⟨.int .u8 (x1.toNat : Int), w1, wanted_free rfl, by simp [execOp, go_sem, h10, e], Below.refl _ _, rfl⟩
    refine OweAll.cons (owesK rfl rfl fun a w1 ha hG hV => ?_) ?_
    · skip
      have h3 := ha.outer 3 (by decide +kernel)
      simp only [Act.eval] at h3
      exact ⟨.int .i64 (n : Int), w1, wanted_free rfl, by simp [execOp, go_sem, h3], Below.refl _ _, rfl⟩
    refine OweAll.cons (owesK rfl rfl fun a w1 ha hG hV => ?_) ?_
    · skip
      have h12 : a.tmps.getD 12 undef = .int .i64 (n : Int) := hV.get 12 (by decide +kernel)
      exact ⟨.int .i64 ((n : Int) / 256), w1, wanted_free rfl, by simp [execOp, go_sem, h12], Below.refl _ _, rfl⟩
    refine OweAll.cons (owesK rfl rfl fun a w1 ha hG hV => ?_) ?_
    · skip
      have h13 : a.tmps.getD 13 undef = .int .i64 ((n : Int) / 256) := hV.get 13 (by decide +kernel)
      have e := E2.out
      exact ⟨.int .u8 (x2.toNat : Int), w1, wanted_free rfl, by simp [execOp, go_sem, h13, e], Below.refl _ _, rfl⟩
    refine OweAll.cons (owesK rfl rfl fun a w1 ha hG hV => ?_) ?_
    · skip
      have h3 := ha.outer 3 (by decide +kernel)
      simp only [Act.eval] at h3
      exact ⟨.int .i64 (n : Int), w1, wanted_free rfl, by simp [execOp, go_sem, h3], Below.refl _ _, rfl⟩
    refine OweAll.cons (owesK rfl rfl fun a w1 ha hG hV => ?_) ?_
    · skip
      have h15 : a.tmps.getD 15 undef = .int .i64 (n : Int) := hV.get 15 (by decide +kernel)
      have e := E3.out
      exact ⟨.int .u8 (x3.toNat : Int), w1, wanted_free rfl, by simp [execOp, go_sem, h15, e], Below.refl _ _, rfl⟩
    refine OweAll.cons (owesK rfl rfl fun a w1 ha hG hV => ?_) ?_
    · skip
      have h8 : a.tmps.getD 8 undef = .int .u8 (x0.toNat : Int) := hV.get 8 (by decide +kernel)
      have h11 : a.tmps.getD 11 undef = .int .u8 (x1.toNat : Int) := hV.get 11 (by decide +kernel)
      have h14 : a.tmps.getD 14 undef = .int .u8 (x2.toNat : Int) := hV.get 14 (by decide +kernel)
      have h16 : a.tmps.getD 16 undef = .int .u8 (x3.toNat : Int) := hV.get 16 (by decide +kernel)
      have g8 : a.tmps[8]?.getD undef = .int .u8 (x0.toNat : Int) := by simpa using h8
      have g11 : a.tmps[11]?.getD undef = .int .u8 (x1.toNat : Int) := by simpa using h11
      have g14 : a.tmps[14]?.getD undef = .int .u8 (x2.toNat : Int) := by simpa using h14
      have g16 : a.tmps[16]?.getD undef = .int .u8 (x3.toNat : Int) := by simpa using h16
      exact ⟨.slice (some ⟨w1.heap.size, 0, none⟩) 4 4, w1.alloc (.cells #[.int .u8 (x0.toNat : Int), .int .u8 (x1.toNat : Int), .int .u8 (x2.toNat : Int), .int .u8 (x3.toNat : Int)] 5), wanted_free rfl, by simp [execOp, go_sem, h8, h11, h14, h16, g8, g11, g14, g16], (Below.refl _ _).alloc (Nat.le_refl _) _, ⟨_, _, rfl, Rw.made (E := encY) 5 w1 [x0, x1, x2, x3] (by simp [maxLen])⟩⟩
    refine OweAll.cons (owesK rfl rfl fun a w1 ha hG hV => ?_) ?_
    · skip
      have s17 : (rowY [x0, x1, x2, x3]).p (a.tmps.getD 17 undef) w1 := hV.get 17 (by decide +kernel)
      obtain ⟨p, c, hv0, hR⟩ := s17
      have hv : a.tmps.getD 17 undef = .slice p 4 c := hv0
      have hcv : (convert 50 9 (.slice p 4 c)).run Tryd.prog w1 = .ok (.string ⟨#[x0, x1, x2, x3]⟩) w1 := Rw.convY (P := Tryd.prog) hR 50 9 Tryd.underlying50 Tryd.underlying5 Tryd.underlying9
      have hv2 : a.tmps[17]?.getD undef = .slice p 4 c := by simpa using hv
      exact ⟨.string ⟨#[x0, x1, x2, x3]⟩, w1, wanted_free rfl, by simp [execOp, go_sem, hv, hv2, hcv], Below.refl _ _, rfl⟩
    refine OweAll.cons (owesK rfl rfl fun a w1 ha hG hV => ?_) ?_
    · skip
      have h0 := ha.outer 0 (by decide +kernel)
      simp only [Act.eval] at h0
      exact ⟨.string ⟨s.toArray⟩, w1, wanted_free rfl, by simp [execOp, go_sem, h0], Below.refl _ _, rfl⟩
    refine OweAll.cons (owesK_call rfl rfl 48 fun a w1 ha hG hV => ?_) ?_
    · skip
      have h19 : a.tmps.getD 19 undef = .string ⟨s.toArray⟩ := hV.get 19 (by decide +kernel)
      refine ⟨#[.string ⟨s.toArray⟩], wanted_free rfl, by simp [execOp, resolve, invoke, go_sem, h19], ?_⟩
      refine (HRF.out w1).mono ?_
      rintro r' u2 ⟨rfl, hb2⟩; exact ⟨_, rfl, rfl, hb2⟩
    refine OweAll.cons (owesK rfl rfl fun a w1 ha hG hV => ?_) ?_
    · skip
      have h20 : a.tmps.getD 20 undef = .string ⟨tt.toArray⟩ := hV.get 20 (by decide +kernel)
      have ht := HTL.out
      have hx := HX.out
      exact ⟨.string ⟨(tt.take 4).toArray⟩, w1, wanted_free rfl, by simp [execOp, go_sem, h20, ht, hx], Below.refl _ _, rfl⟩
    refine OweAll.cons (owesK rfl rfl fun a w1 ha hG hV => ?_) ?_
    · skip
      have h18 : a.tmps.getD 18 undef = .string ⟨#[x0, x1, x2, x3]⟩ := hV.get 18 (by decide +kernel)
      have h21 : a.tmps.getD 21 undef = .string ⟨(tt.take 4).toArray⟩ := hV.get 21 (by decide +kernel)
      have ht := HTL.out
      have e := HA1.out
      exact ⟨.string a1, w1, wanted_free rfl, by rw [e]; simp [execOp, go_sem, h18, h21]; omega, Below.refl _ _, rfl⟩
    refine OweAll.cons (owesK rfl rfl fun a w1 ha hG hV => ?_) ?_
    · skip
      have h0 := ha.outer 0 (by decide +kernel)
      simp only [Act.eval] at h0
      exact ⟨.string ⟨s.toArray⟩, w1, wanted_free rfl, by simp [execOp, go_sem, h0], Below.refl _ _, rfl⟩
    refine OweAll.cons (owesK rfl rfl fun a w1 ha hG hV => ?_) ?_
    · skip
      have h22 : a.tmps.getD 22 undef = .string a1 := hV.get 22 (by decide +kernel)
      have h23 : a.tmps.getD 23 undef = .string ⟨s.toArray⟩ := hV.get 23 (by decide +kernel)
      have ht := HTL.out
      have hsl := HSL.out
      have e1 := HAL.out
      have e := HA2.out
      exact ⟨.string a2, w1, wanted_free rfl, by rw [e]; simp [execOp, go_sem, h22, h23]; omega, Below.refl _ _, rfl⟩
    refine OweAll.cons (owesK rfl rfl fun a w1 ha hG hV => ?_) ?_
    · skip
      have h24 : a.tmps.getD 24 undef = .string a2 := hV.get 24 (by decide +kernel)
      exact ⟨.string a2, w1, wanted_free rfl, by simp [execOp, go_sem, h24], Below.refl _ _, rfl⟩
    exact OweAll.nil
    ) ?_
  intro f wz hG hv
  have e2 : f 2 = .string a2 := hv 19 _ 2 rfl rfl
  rename_i hK
  refine hK _ _ ?_
  clear hK hv
  simp only [dsts, puts, List.filterMap_cons, List.filterMap_nil, List.foldl_cons, List.foldl_nil, Act.put, List.setIfInBounds_toArray, List.set_cons_succ, List.set_cons_zero, e2]
  clear e2
  rw [HF.out]
  have HB := Lib.hid hG
  clear hG
  go_wp2_with fail
  go_ret
  exact ⟨rfl, HB.out⟩
end Go.Proofs.YtlplcmkdldfphaaDoor

namespace Go.Proofs.YtlplcmkdldfphaaDoor
open Go.RowKit

def JD (w0 w : World) (d j : Nat) (S : St) : Prop := ∃ F, DA w d S F ∧ (∀ i, F i → w0.heap.size ≤ i) ∧ Below w0.heap.size w0 w ∧ Bx w j (.pointer (some ⟨d, 0, none⟩)) ∧ ¬ F j ∧ w0.heap.size ≤ j
section
variable {w0 w w' : World} {d j n : Nat} {S : St}
theorem JD.b (h : JD w0 w d j S) : Below w0.heap.size w0 w := by obtain ⟨_, _, _, h, _⟩ := h; exact h
theorem JD.dk (h : JD w0 w d j S) : Dk w0 w d S := by obtain ⟨F, hA, hF, hB, _⟩ := h; exact ⟨F, hA, hF, hB⟩
theorem JD.old (h : JD w0 w d j S) (hb : Below w.heap.size w w') : JD w0 w' d j S := by
  obtain ⟨F, hA, hF, hB, hx, hj, hl⟩ := h
  exact ⟨F, hA.old hb, hF, hB.trans (hb.mono hB.size), hx.old hb, hj, hl⟩
theorem JD.append (h : JD w0 w d j S) (gd : Gd S n) (hn : n ≤ 90000) (s : List UInt8) (hs : s.length ≤ 1000000000) (hT : TabAt w0) :
    Calls Tryd.prog 16 #[.pointer (some ⟨j, 0, none⟩), .string ⟨s.toArray⟩] w fun e w' => e = .returned (.int .i64 (apdX S s).1) ∧ JD w0 w' d j (apdX S s).2 := by
  obtain ⟨F, hA, hF, hB, hx, hj, hl⟩ := h
  refine (jappend_any hA gd hn j hx hj s hs (TabJ.old hT hB)).mono ?_
  rintro e w' ⟨rfl, hE⟩
  have hE2 := hE
  obtain ⟨F', hA', hF', hm⟩ := hE
  refine ⟨rfl, F', hA', fun i hi => (hF' i hi).elim (hF i) (fun h => Nat.le_trans hB.size h), hB.trans (hm.to_below hB.size (fun k hk h => by have := hF k h; omega)), hE2.bx hx hj, fun hf => ?_, hl⟩
  rcases hF' j hf with h | h
  · exact hj h
  · have := hx.lt; omega
theorem JD.size (h : JD w0 w d j S) (hdn : S.dn = false) :
    Calls Tryd.prog 21 #[.pointer (some ⟨j, 0, none⟩)] w fun e w' => e = .returned (.int .i64 ((rdX S logN).1.length : Nat)) ∧ JD w0 w' d j S := by
  have h2 := h
  obtain ⟨F, hA, hF, hB, hx, hj, hl⟩ := h
  exact (jsize_any hA hdn j hx).mono (by rintro e w' ⟨rfl, hb⟩; exact ⟨rfl, h2.old hb⟩)
theorem JD.used (h : JD w0 w d j S) (ok : Ok S) : Calls Tryd.prog 13 #[.pointer (some ⟨d, 0, none⟩)] w fun e w' => e = .returned (.int .i64 (usedX S.X : Nat)) ∧ JD w0 w' d j S := by
  have h2 := h
  obtain ⟨F, hA, hF, hB, hx, hj, hl⟩ := h
  exact (dkused_any hA (Nat.le_trans ok.n (by decide)) ok.f).mono (by rintro e w' ⟨rfl, hE⟩; exact ⟨rfl, h2.old hE⟩)
theorem JD.read (h : JD w0 w d j S) (k : List UInt8) (hk : k.length ≤ maxLen) :
    Calls Tryd.prog 25 #[.pointer (some ⟨d, 0, none⟩), .string ⟨k.toArray⟩] w fun e w' => e = .returned (.tuple #[.string ⟨(rdX S k).1.toArray⟩, .int .i64 (rdX S k).2]) ∧ JD w0 w' d j S := by
  have h2 := h
  obtain ⟨F, hA, hF, hB, hx, hj, hl⟩ := h
  exact (dkread_any hA k hk).mono (by rintro e w' ⟨rfl, hE⟩; exact ⟨rfl, h2.old hE⟩)
/-- An opening that goes. -/
theorem Dk.jopen (h : Dk w0 w d S) (gd : Gd S n) (hn : n ≤ 90000) (hT : TabAt w0) (L : List (List UInt8)) (S' : St) (ho : opnX S = (some L, 0, S')) :
    Calls Tryd.prog 11 #[.pointer (some ⟨d, 0, none⟩)] w fun e w' => ∃ j p c, e = .returned (.tuple #[.pointer (some ⟨j, 0, none⟩), .slice p L.length c, .int .i64 0]) ∧ JD w0 w' d j S' ∧ Rw encS 9 w' p c L ∧ (∀ a, p = some a → w.heap.size ≤ a.block) ∧ w.heap.size ≤ j := by
  obtain ⟨F, hA, hF, hB⟩ := h
  refine (jopen_any hA gd hn (TabJ.old hT hB)).mono ?_
  rintro e w' ⟨F', hA', hF', hm, hp⟩
  rw [ho] at hp hA'
  obtain ⟨j, p, c, rfl, hx, hjl, hj, hR, hpn⟩ := hp
  have hb : Below w0.heap.size w0 w' := hB.trans (hm.to_below hB.size (fun k hk h => by have := hF k h; omega))
  have hF2 : ∀ i, F' i → w0.heap.size ≤ i := fun i hi => (hF' i hi).elim (hF i) (fun h => Nat.le_trans hB.size h)
  refine ⟨j, p, c, rfl, ⟨F', hA', hF2, hb, hx, hj, Nat.le_trans hB.size hjl⟩, hR, fun a e => (hpn a e).1, hjl⟩
/-- .. beside a journal of the same disk. -/
theorem JD.jopen {j0 : Nat} (h : JD w0 w d j0 S) (gd : Gd S n) (hn : n ≤ 90000) (hT : TabAt w0) (L : List (List UInt8)) (S' : St) (ho : opnX S = (some L, 0, S')) :
    Calls Tryd.prog 11 #[.pointer (some ⟨d, 0, none⟩)] w fun e w' => ∃ j p c, e = .returned (.tuple #[.pointer (some ⟨j, 0, none⟩), .slice p L.length c, .int .i64 0]) ∧ JD w0 w' d j0 S' ∧ Rw encS 9 w' p c L ∧ ∀ a, p = some a → w.heap.size ≤ a.block := by
  obtain ⟨F, hA, hF, hB, hx0, hj0, hl0⟩ := h
  refine (jopen_any hA gd hn (TabJ.old hT hB)).mono ?_
  rintro e w' ⟨F', hA', hF', hm, hp⟩
  rw [ho] at hp hA'
  obtain ⟨j, p, c, rfl, hx, hjl, hj, hR, hpn⟩ := hp
  have hb : Below w0.heap.size w0 w' := hB.trans (hm.to_below hB.size (fun k hk h => by have := hF k h; omega))
  have hF2 : ∀ i, F' i → w0.heap.size ≤ i := fun i hi => (hF' i hi).elim (hF i) (fun h => Nat.le_trans hB.size h)
  refine ⟨j, p, c, rfl, ⟨F', hA', hF2, hb, hx0.kept hm hj0, fun hf => ?_, hl0⟩, hR, fun a e => (hpn a e).1⟩
  rcases hF' _ hf with h | h
  · exact hj0 h
  · have := hx0.lt; omega
end
end Go.Proofs.YtlplcmkdldfphaaDoor

namespace Go.Proofs.YtlplcmkdldfphaaDoor
open Go.RowKit

theorem JS.new (rm : Int) : (⟨rm, 0, -1, false, []⟩ : St) = JS rm 0 [] false := rfl
set_option maxRecDepth 20000 in
set_option maxHeartbeats 1000000 in
theorem awake10_any (w : World) (hT : TabAt w) : Calls Tryd.prog 9 #[] w fun e w' => e = .returned (.bool true) ∧ Below w.heap.size w w' := by
  obtain ⟨S0, hS0⟩ : ∃ S, S = JS 100 0 [] false := ⟨_, rfl⟩
  obtain ⟨S1, hS1⟩ : ∃ S, S = JS 100 (0 + 2) ([] ++ [[97]]) true := ⟨_, rfl⟩
  have g0 : Gd S0 0 := by rw [hS0]; exact Gd.new 100 (by decide) (by decide)
  have e1 : apdX S0 [97] = (0, S1) := by rw [hS0, hS1]; exact JS.apd_fits (fun _ => rfl) [97] (by decide) (by decide)
  have g1 : Gd S1 2 := by have := g0.apd [97]; rwa [e1] at this
  have o0 : opnX S0 = (some [], 0, S0) := by rw [hS0]; exact JS.opn (fun _ => rfl) (fun x hx => by cases hx)
  have o1 : opnX S1 = (some [[97]], 0, S1) := by rw [hS1]; exact JS.opn (fun h => by cases h) (fun x hx => by simp at hx; rw [hx]; decide)
  obtain ⟨fb, hfb⟩ : ∃ fb, fb = frmB [97] := ⟨_, rfl⟩
  have hfl : fb.length = 9 := by rw [hfb, frmB_len]; rfl
  have hf4 : fb.take 4 = [0, 0, 0, 1] := by rw [hfb]; rfl
  have hr : rdX S1 logN = (fb, 0) := by
    rw [hS1, hfb]; simp [JS, LX, rdX, hasX, fiX, frmsB]
  have hd1 : S1.dn = false := by rw [hS1]; rfl
  have hx4 : (⟨fb.toArray⟩ : ByteArray).extract 0 4 = ⟨#[0, 0, 0, 1]⟩ := by
    apply ByteArray.ext
    have := congrArg List.toArray hf4
    simpa using this
  have HN := Lib.hid (Dk.new 100 100 100 w (by decide) (by decide))
  rw [JS.new, ← hS0] at HN
  have HO0 : Hid (∀ w1 p, Dk w w1 p S0 → Calls Tryd.prog 11 #[.pointer (some ⟨p, 0, none⟩)] w1 fun e w' => ∃ j q c, e = .returned (.tuple #[.pointer (some ⟨j, 0, none⟩), .slice q 0 c, .int .i64 0]) ∧ JD w w' p j S0) := Lib.hid (fun w1 p h => (h.jopen g0 (by decide) hT [] S0 o0).mono (by rintro e w' ⟨j, q, c, rfl, h, _⟩; exact ⟨j, q, c, rfl, h⟩))
  have HA : Hid (∀ w1 p j, JD w w1 p j S0 → Calls Tryd.prog 16 #[.pointer (some ⟨j, 0, none⟩), .string ⟨#[97]⟩] w1 fun e w' => e = .returned (.int .i64 0) ∧ JD w w' p j S1) := Lib.hid (fun w1 p j h => by have := h.append g0 (by decide) [97] (by decide) hT; rwa [e1] at this)
  have HR : Hid (∀ w1 p j, JD w w1 p j S1 → Calls Tryd.prog 25 #[.pointer (some ⟨p, 0, none⟩), .string ⟨#[108, 111, 103]⟩] w1 fun e w' => e = .returned (.tuple #[.string ⟨fb.toArray⟩, .int .i64 0]) ∧ JD w w' p j S1) := Lib.hid (fun w1 p j h => by have := h.read logN (by decide); rwa [hr] at this)
  have HO1 : Hid (∀ w1 p j, JD w w1 p j S1 → Calls Tryd.prog 11 #[.pointer (some ⟨p, 0, none⟩)] w1 fun e w' => ∃ j2 b c, e = .returned (.tuple #[.pointer (some ⟨j2, 0, none⟩), .slice (some ⟨b, 0, none⟩) 1 c, .int .i64 0]) ∧ JD w w' p j S1 ∧ b < w'.heap.size ∧ w'.cell? ⟨b, 0, none⟩ = some (.string ⟨#[97]⟩)) := Lib.hid (fun w1 p j h => (h.jopen g1 (by decide) hT [[97]] S1 o1).mono (by
    rintro e w' ⟨j2, q, c, rfl, h, hR, _⟩
    rcases hR.shape with ⟨_, e, _⟩ | ⟨b, rfl, _⟩
    · cases e
    · refine ⟨j2, b, c, rfl, h, hR.lt, ?_⟩
      obtain ⟨bs, off, e, _, hc⟩ := hR.rd 0 (by decide)
      cases e
      exact hc 0 _ rfl))
  have HS : Hid (∀ w1 p j, JD w w1 p j S1 → Calls Tryd.prog 21 #[.pointer (some ⟨j, 0, none⟩)] w1 fun e w' => e = .returned (.int .i64 9) ∧ Below w1.heap.size w1 w') := Lib.hid (fun w1 p j h => by
    obtain ⟨F, hA, hF, hB, hx, hj, hl⟩ := h
    have := jsize_any hA hd1 j hx
    rw [hr] at this
    exact this.mono (by rintro e w' ⟨rfl, hb⟩; exact ⟨by rw [hfl]; rfl, hb⟩))
  have HC : Hid (∀ w1, Calls Tryd.prog 20 #[.int .i64 1] w1 fun e w' => e = .returned (.int .i64 9) ∧ w1 = w') := Lib.hid (fun w1 => jcost_nat 1 w1 (by decide))
  clear g0 g1 e1 o0 o1 hr hd1 hfb hS0 hS1 hT
  go_enter Tryd.func9, Tryd.ntmps9
  go_wp2_with fail
  refine HN.out.mono ?_
  rintro e w1 ⟨p, rfl, hD⟩
  have HD := Lib.hid hD
  clear hD HN
  go_wp2_with fail
  refine (HO0.out _ _ HD.out).mono ?_
  rintro e w2 ⟨j, q, c, rfl, hJ⟩
  have HJ := Lib.hid hJ
  clear hJ HO0 HD
  go_wp2_with fail
  refine (HA.out _ _ _ HJ.out).mono ?_
  rintro e w3 ⟨rfl, hJ⟩
  have HJ := Lib.hid hJ
  clear hJ HA
  go_wp2_with fail
  refine (HR.out _ _ _ HJ.out).mono ?_
  rintro e w4 ⟨rfl, hJ⟩
  have HJ := Lib.hid hJ
  clear hJ HR
  go_wp2_with fail
  refine (HO1.out _ _ _ HJ.out).mono ?_
  rintro e w5 ⟨j2, b, c2, rfl, hJ, hbl, hcell⟩
  have HJ := Lib.hid hJ
  have HCE := Lib.hid hcell
  have HBL := Lib.hid hbl
  clear hJ HO1 hcell hbl
  go_wp2_with fail
  refine (HS.out _ _ _ HJ.out).mono ?_
  rintro e w6 ⟨rfl, hb⟩
  have HB := Lib.hid (HJ.out.b.trans (hb.mono HJ.out.b.size))
  have cc : w6.cell? ⟨b, 0, none⟩ = some (.string ⟨#[97]⟩) := (hb.cell HBL.out).trans HCE.out
  clear hb HS
  go_wp2_with fail
  refine (HC.out _).mono ?_
  rintro e w7 ⟨rfl, hww⟩
  have HB7 : Hid (Below w.heap.size w w7) := Lib.hid (hww ▸ HB.out)
  clear hww
  go_wp2_with fail
  go_ret
  exact ⟨rfl, HB7.out⟩
end Go.Proofs.YtlplcmkdldfphaaDoor
