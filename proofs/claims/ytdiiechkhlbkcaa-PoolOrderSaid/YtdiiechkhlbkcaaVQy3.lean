/- Texts 3: what the laws lean on. -/
import Derived.Test.YtdiiechkhlbkcaaVQy2
import Derived.Test.YtdiiechkhlbkcaaRows
import Derived.WalkKit
import Derived.ProofKit
import Derived.OpenShut
import Derived.ChangeArms
import Derived.Deep.SlicePairs
import Derived.Test.YtdiiechkhlbkcaaVQy1
namespace Go.Proofs.Ytdiiechkhlbkcaa.PI
open Go.RowKit Go.Sort Go.Proofs.Ytdiiechkhlbkcaa

set_option maxRecDepth 20000 in
set_option maxHeartbeats 1000000 in
theorem put_fits (p b : Nat) (M : Int) (L : List It) (w : World) (h : PoolAt 72 w p b M L) (hn : L.length ≤ 100000) (k : List UInt8) (hk : k.length ≤ 1000000) (r : Int) (tb : Int)
    (hf : ((putI (k, r, (Value.int .i64 tb)) L).length : Int) ≤ M) :
    Calls Try.prog 23 #[.pointer (some ⟨p, 0, none⟩), .string ⟨k.toArray⟩, .int .i64 r, (Value.int .i64 tb)] w fun e w' => e = .returned (.tuple #[.string ⟨#[]⟩, .bool false]) ∧ PoolAt 72 w' p b M (putI (k, r, (Value.int .i64 tb)) L) ∧ Mod (fun i => i = b) w w' := by
  have hset := set_any p b M L w h (by omega) k hk r (Value.int .i64 tb) rfl
  have hpp := putI_perm (k, r, (Value.int .i64 tb)) L
  have HPP := Lib.hid hpp
  have HSET := Lib.hid hset
  obtain ⟨n, hnn⟩ : ∃ n, n = (putI (k, r, (Value.int .i64 tb)) L).length := ⟨_, rfl⟩
  rw [← hnn] at hf
  have HNN := Lib.hid hnn
  clear h hn hk hset hpp hnn
  go_enter Try.func23, Try.ntmps23
  go_wp2_with fail
  refine HSET.out.mono ?_
  rintro e W1 ⟨rfl, hP1, hm1⟩
  have hP2 : PoolAt 72 W1 p b M (putI (k, r, (Value.int .i64 tb)) L) := hP1.perm HPP.out.symm
  have HP := Lib.hid hP2
  have HM := Lib.hid hm1
  have HL : Hid (∀ w', Below W1.heap.size W1 w' → Calls Try.prog 25 #[.pointer (some ⟨p, 0, none⟩)] w' fun r w'' => r = .returned (.int .i64 (n : Int)) ∧ w'' = w') := Lib.hid (by
    intro w' hb
    have := len_any p b M _ w' (HP.out.old hb)
    rw [← HNN.out] at this; exact this)
  clear hP1 hP2 hm1
  go_wp2_with fail
  refine wp_region_puts (fun t v w => VK (match t with
    | 18 => .eq (.pointer (some ⟨p, 0, none⟩))
    | 19 => .eq (.int .i64 (n : Int))
    | 20 => .eq (.pointer (some ⟨p, 0, none⟩))
    | 21 => .eq (.pointer (some ⟨p, 0, none⟩))
    | 22 => .eq (.pointer (some ⟨p, 0, none⟩))
    | 23 => .eq (.int .i64 M)
    | 24 => .eq (Value.bool true)
    | _ => .any) v w) (fun w' => Below W1.heap.size W1 w') 37 (by kernel_rfl) (by decide +kernel) rfl (Below.refl _ _).drew (by
    refine OweAll.cons (owesK rfl rfl fun a w1 ha hG hV => ?_) ?_
    · skip
      have h0 := ha.outer 0 (by decide +kernel)
      simp only [Act.eval] at h0
      exact ⟨.pointer (some ⟨p, 0, none⟩), w1, wanted_free rfl, by simp [execOp, go_sem, h0], Below.refl _ _, rfl⟩
    refine OweAll.cons (owesK_call rfl rfl 25 fun a w1 ha hG hV => ?_) ?_
    · skip
      have h18 : a.tmps.getD 18 undef = .pointer (some ⟨p, 0, none⟩) := hV.get 18 (by decide +kernel)
      refine ⟨#[.pointer (some ⟨p, 0, none⟩)], wanted_free rfl, by simp [execOp, resolve, invoke, go_sem, h18], ?_⟩
      refine (HL.out w1 hG).mono ?_
      rintro e u2 ⟨rfl, rfl⟩; exact ⟨_, rfl, rfl, Below.refl _ _⟩
    refine OweAll.cons (owesK rfl rfl fun a w1 ha hG hV => ?_) ?_
    · skip
      have h0 := ha.outer 0 (by decide +kernel)
      simp only [Act.eval] at h0
      exact ⟨.pointer (some ⟨p, 0, none⟩), w1, wanted_free rfl, by simp [execOp, go_sem, h0], Below.refl _ _, rfl⟩
    refine OweAll.cons (owesK rfl rfl fun a w1 ha hG hV => ?_) ?_
    · skip
      have h20 : a.tmps.getD 20 undef = .pointer (some ⟨p, 0, none⟩) := hV.get 20 (by decide +kernel)
      exact ⟨.pointer (some ⟨p, 0, none⟩), w1, wanted_free rfl, by simp [execOp, go_sem, h20], Below.refl _ _, rfl⟩
    refine OweAll.cons (owesK rfl rfl fun a w1 ha hG hV => ?_) ?_
    · skip
      have h21 : a.tmps.getD 21 undef = .pointer (some ⟨p, 0, none⟩) := hV.get 21 (by decide +kernel)
      exact ⟨.pointer (some ⟨p, 0, none⟩), w1, wanted_free rfl, by simp [execOp, go_sem, h21], Below.refl _ _, rfl⟩
    refine OweAll.cons (owesK rfl rfl fun a w1 ha hG hV => ?_) ?_
    · skip
      have h22 : a.tmps.getD 22 undef = .pointer (some ⟨p, 0, none⟩) := hV.get 22 (by decide +kernel)
      have cc : w1.cell? ⟨p, 0, none⟩ = some (.int .i64 M) := (HP.out.old hG).c0
      exact ⟨.int .i64 M, w1, wanted_free rfl, by simp [execOp, go_sem, h22, cc], Below.refl _ _, rfl⟩
    refine OweAll.cons (owesK rfl rfl fun a w1 ha hG hV => ?_) ?_
    · skip
      have h19 : a.tmps.getD 19 undef = .int .i64 (n : Int) := hV.get 19 (by decide +kernel)
      have h23 : a.tmps.getD 23 undef = .int .i64 M := hV.get 23 (by decide +kernel)
      exact ⟨Value.bool true, w1, wanted_free rfl, by simp [execOp, go_sem, h19, h23, hf], Below.refl _ _, rfl⟩
    exact OweAll.nil
    ) ?_
  intro f wz hG hv
  have e24 : f 24 = Value.bool true := hv 6 _ 24 rfl rfl
  rename_i hK
  refine hK _ _ ?_
  clear hK hv
  simp only [dsts, puts, List.filterMap_cons, List.filterMap_nil, List.foldl_cons, List.foldl_nil, Act.put, List.setIfInBounds_toArray, List.set_cons_succ, List.set_cons_zero, e24]
  clear e24
  have HE : Hid (Below W1.heap.size W1 wz) := Lib.hid hG
  clear hG
  go_wp2_with fail
  go_ret2
  exact ⟨rfl, HP.out.old HE.out, HM.out.trans (Mod.of_below HE.out |>.mono (fun i hi h => by omega)) (fun _ _ h => h)⟩

set_option maxRecDepth 20000 in
set_option maxHeartbeats 2000000 in
theorem put_goes (p b : Nat) (M : Int) (L : List It) (w : World) (h : PoolAt 72 w p b M L) (hn : L.length ≤ 90000) (hkL : ∀ x ∈ L, x.1.length ≤ 1000000) (hoL : ∀ x ∈ L, x.2.2.oneCell' = true) (hs : Srt L) (k : List UInt8) (hk : k.length ≤ 1000000) (r : Int) (tb : Int)
    (F : List It) (z : It) (hz : putI (k, r, (Value.int .i64 tb)) L = F ++ [z]) (hf : M < ((putI (k, r, (Value.int .i64 tb)) L).length : Int)) :
    Calls Try.prog 23 #[.pointer (some ⟨p, 0, none⟩), .string ⟨k.toArray⟩, .int .i64 r, (Value.int .i64 tb)] w fun e w' => e = .returned (.tuple #[.string ⟨z.1.toArray⟩, .bool true]) ∧ PoolAt 72 w' p b M F ∧ Mod (fun i => i = b) w w' := by
  have hset := set_any p b M L w h (by omega) k hk r (Value.int .i64 tb) rfl
  have hpp := putI_perm (k, r, (Value.int .i64 tb)) L
  have hall : ∀ x ∈ putI (k, r, (Value.int .i64 tb)) L, x.1.length ≤ 1000000 ∧ x.2.2.oneCell' = true := by
    intro x hx
    rcases List.mem_cons.1 (hpp.mem_iff.1 hx) with rfl | hx
    · exact ⟨hk, rfl⟩
    · exact ⟨hkL x (List.mem_filter.1 hx).1, hoL x (List.mem_filter.1 hx).1⟩
  have hsr := putI_srt hs (k, r, (Value.int .i64 tb))
  have hln : (putI (k, r, (Value.int .i64 tb)) L).length ≤ 100000 := by
    have := hpp.length_eq; simp at this
    have h2 : (dropL k L).length ≤ L.length := List.length_filter_le _ _
    omega
  have HPP := Lib.hid hpp
  have HSET := Lib.hid hset
  have HA := Lib.hid hall
  have HSR := Lib.hid hsr
  have HLN := Lib.hid hln
  have HZ := Lib.hid hz
  obtain ⟨n, hnn⟩ : ∃ n, n = (putI (k, r, (Value.int .i64 tb)) L).length := ⟨_, rfl⟩
  rw [← hnn] at hf
  have hf2 : ¬ (n : Int) ≤ M := by omega
  have HNN := Lib.hid hnn
  have hnF : n = F.length + 1 := by rw [hnn, hz]; simp
  have HNF := Lib.hid hnF
  clear h hn hk hset hpp hnn hall hsr hln hz hkL hoL hs hf hnF
  go_enter Try.func23, Try.ntmps23
  go_wp2_with fail
  refine HSET.out.mono ?_
  rintro e W1 ⟨rfl, hP1, hm1⟩
  have hP2 : PoolAt 72 W1 p b M (putI (k, r, (Value.int .i64 tb)) L) := hP1.perm HPP.out.symm
  have HP := Lib.hid hP2
  have HM := Lib.hid hm1
  have HL : Hid (∀ w', Below W1.heap.size W1 w' → Calls Try.prog 25 #[.pointer (some ⟨p, 0, none⟩)] w' fun r w'' => r = .returned (.int .i64 (n : Int)) ∧ w'' = w') := Lib.hid (by
    intro w' hb
    have := len_any p b M _ w' (HP.out.old hb)
    rw [← HNN.out] at this; exact this)
  clear hP1 hP2 hm1
  go_wp2_with fail
  refine wp_region_puts (fun t v w => VK (match t with
    | 18 => .eq (.pointer (some ⟨p, 0, none⟩))
    | 19 => .eq (.int .i64 (n : Int))
    | 20 => .eq (.pointer (some ⟨p, 0, none⟩))
    | 21 => .eq (.pointer (some ⟨p, 0, none⟩))
    | 22 => .eq (.pointer (some ⟨p, 0, none⟩))
    | 23 => .eq (.int .i64 M)
    | 24 => .eq (Value.bool false)
    | _ => .any) v w) (fun w' => Below W1.heap.size W1 w') 37 (by kernel_rfl) (by decide +kernel) rfl (Below.refl _ _).drew (by
    refine OweAll.cons (owesK rfl rfl fun a w1 ha hG hV => ?_) ?_
    · skip
      have h0 := ha.outer 0 (by decide +kernel)
      simp only [Act.eval] at h0
      exact ⟨.pointer (some ⟨p, 0, none⟩), w1, wanted_free rfl, by simp [execOp, go_sem, h0], Below.refl _ _, rfl⟩
    refine OweAll.cons (owesK_call rfl rfl 25 fun a w1 ha hG hV => ?_) ?_
    · skip
      have h18 : a.tmps.getD 18 undef = .pointer (some ⟨p, 0, none⟩) := hV.get 18 (by decide +kernel)
      refine ⟨#[.pointer (some ⟨p, 0, none⟩)], wanted_free rfl, by simp [execOp, resolve, invoke, go_sem, h18], ?_⟩
      refine (HL.out w1 hG).mono ?_
      rintro e u2 ⟨rfl, rfl⟩; exact ⟨_, rfl, rfl, Below.refl _ _⟩
    refine OweAll.cons (owesK rfl rfl fun a w1 ha hG hV => ?_) ?_
    · skip
      have h0 := ha.outer 0 (by decide +kernel)
      simp only [Act.eval] at h0
      exact ⟨.pointer (some ⟨p, 0, none⟩), w1, wanted_free rfl, by simp [execOp, go_sem, h0], Below.refl _ _, rfl⟩
    refine OweAll.cons (owesK rfl rfl fun a w1 ha hG hV => ?_) ?_
    · skip
      have h20 : a.tmps.getD 20 undef = .pointer (some ⟨p, 0, none⟩) := hV.get 20 (by decide +kernel)
      exact ⟨.pointer (some ⟨p, 0, none⟩), w1, wanted_free rfl, by simp [execOp, go_sem, h20], Below.refl _ _, rfl⟩
    refine OweAll.cons (owesK rfl rfl fun a w1 ha hG hV => ?_) ?_
    · skip
      have h21 : a.tmps.getD 21 undef = .pointer (some ⟨p, 0, none⟩) := hV.get 21 (by decide +kernel)
      exact ⟨.pointer (some ⟨p, 0, none⟩), w1, wanted_free rfl, by simp [execOp, go_sem, h21], Below.refl _ _, rfl⟩
    refine OweAll.cons (owesK rfl rfl fun a w1 ha hG hV => ?_) ?_
    · skip
      have h22 : a.tmps.getD 22 undef = .pointer (some ⟨p, 0, none⟩) := hV.get 22 (by decide +kernel)
      have cc : w1.cell? ⟨p, 0, none⟩ = some (.int .i64 M) := (HP.out.old hG).c0
      exact ⟨.int .i64 M, w1, wanted_free rfl, by simp [execOp, go_sem, h22, cc], Below.refl _ _, rfl⟩
    refine OweAll.cons (owesK rfl rfl fun a w1 ha hG hV => ?_) ?_
    · skip
      have h19 : a.tmps.getD 19 undef = .int .i64 (n : Int) := hV.get 19 (by decide +kernel)
      have h23 : a.tmps.getD 23 undef = .int .i64 M := hV.get 23 (by decide +kernel)
      exact ⟨Value.bool false, w1, wanted_free rfl, by simp [execOp, go_sem, h19, h23, hf2], Below.refl _ _, rfl⟩
    exact OweAll.nil
    ) ?_
  intro f wz hG hv
  have e24 : f 24 = Value.bool false := hv 6 _ 24 rfl rfl
  rename_i hK
  refine hK _ _ ?_
  clear hK hv
  simp only [dsts, puts, List.filterMap_cons, List.filterMap_nil, List.foldl_cons, List.foldl_nil, Act.put, List.setIfInBounds_toArray, List.set_cons_succ, List.set_cons_zero, e24]
  clear e24
  have HE : Hid (Below W1.heap.size W1 wz) := Lib.hid hG
  have hP3 := HP.out.old HE.out
  have hkeys := keys_any p b M _ wz hP3 HLN.out (fun x hx => (HA.out x hx).1) HSR.out
  rw [← HNN.out] at hkeys
  have HK := Lib.hid hkeys
  clear hG hP3 hkeys hf2
  go_wp2_with fail
  refine HK.out.mono ?_
  rintro e W2 ⟨q, c, rfl, hR2, hq2, hb2⟩
  have hP4 := (HP.out.old HE.out).old hb2
  have hap := apart_it hP4.2.ap
  have hzm : z ∈ putI (k, r, (Value.int .i64 tb)) L := by rw [HZ.out]; simp
  have hlast : ∃ g, q = some ⟨g, 0, none⟩ ∧ W2.cell? ⟨g, F.length, none⟩ = some (.string ⟨z.1.toArray⟩) := by
    have hFl : F.length < ((putI (k, r, (Value.int .i64 tb)) L).map (·.1)).length := by rw [List.length_map, HZ.out]; simp
    obtain ⟨bs, off, e1, _, hc⟩ := hR2.rd.str F.length hFl
    rcases hR2.shape with ⟨e, e0, _⟩ | ⟨g, e, _⟩
    · rw [e] at e1; cases e1
    · rw [e] at e1; cases e1
      refine ⟨_, e, ?_⟩
      have e2 : ((putI (k, r, (Value.int .i64 tb)) L).map (·.1))[F.length]'hFl = z.1 := by
        simp only [List.getElem_map, HZ.out]
        simp
      rw [e2, Nat.zero_add] at hc; exact hc
  obtain ⟨g, rfl, hcl⟩ := hlast
  have hdrop := drop_any p b M _ W2 hP4 z.1 (HA.out z hzm).1 (by rw [th_mem hap hzm]; exact (HA.out z hzm).2)
  have e3 : ((putI (k, r, (Value.int .i64 tb)) L).filter fun x => x.1 != z.1) = F := by have := srt_last (L := F) (x := z) (by rw [← HZ.out]; exact hap); rw [← HZ.out] at this; exact this
  rw [any_mem hzm, e3] at hdrop
  have HD := Lib.hid hdrop
  have HB := Lib.hid (HE.out.trans (hb2.mono HE.out.size))
  obtain rfl := HNF.out
  clear hR2 hq2 hb2 hP4 hap hzm hdrop e3 HK
  have j1 : ((F.length + 1 : Nat) : Int) - 1 = (F.length : Int) := by omega
  have j2 : (F.length : Int) < ((F.length + 1 : Nat) : Int) := by omega
  have j3 : (0 : Int) ≤ (F.length : Int) := by omega
  have j4 : IntKind.i64.wrap (F.length : Int) = (F.length : Int) := IntWalk.i64_in _ (by have := HLN.out; have := HNN.out; omega)
  go_wp2_with fail

  refine HD.out.mono ?_
  rintro e W3 ⟨rfl, hP5, hm5⟩
  have HP5 := Lib.hid hP5
  have HM5 := Lib.hid hm5
  clear hP5 hm5
  go_wp2_with fail
  go_ret2
  exact ⟨rfl, HP5.out, (HM.out.trans (Mod.of_below HB.out |>.mono (fun i hi h => by omega)) (fun _ _ h => h)).trans HM5.out (fun _ _ h => h)⟩
end Go.Proofs.Ytdiiechkhlbkcaa.PI

namespace Go.Proofs.Ytdiiechkhlbkcaa
open Go.RowKit

set_option maxRecDepth 20000 in
set_option maxHeartbeats 1000000 in
theorem awake_any (w : World) : Calls Try.prog 6 #[] w fun r w' => r = .returned (.bool true) ∧ Below w.heap.size w w' := by
  have H1 := Lib.hid (PI.new_any 1 w (by decide) (by decide))
  have H2 := Lib.hid (fun (p b : Nat) (w : World) h => PI.put_fits p b 1 [] w h (by decide) [98] (by decide) 2 7 (by decide))
  have H3 := Lib.hid (fun (p b : Nat) (w : World) h => PI.put_goes p b 1 (putI ([98], 2, .int .i64 7) []) w h (by decide) (by decide) (by intro x hx; have : x = ([98], 2, .int .i64 7) := (by simpa [putI, dropL, insI] using hx); rw [this]; rfl) (List.pairwise_singleton _ _) [97] (by decide) 2 8 [([97], 2, .int .i64 8)] ([98], 2, .int .i64 7) (by rfl) (by decide))
  have h4 : ∀ (p b : Nat) (w : World), PoolAt 72 w p b 1 [([97], 2, .int .i64 8)] → Calls Try.prog 24 #[.pointer (some ⟨p, 0, none⟩), .string ⟨#[97]⟩] w fun r w' => r = .returned (.tuple #[.int .i64 8, .bool true]) ∧ Below w.heap.size w w' := by
    intro p b w h
    exact PI.get_any p b 1 [([97], 2, .int .i64 8)] w h [97] (by decide) rfl
  have H4 := Lib.hid h4
  clear h4
  have H5 := Lib.hid (fun (p b : Nat) (w : World) h => PI.len_any p b 1 [([97], 2, .int .i64 8)] w h)
  go_enter Try.func6, Try.ntmps6
  go_wp2_with fail
  refine H1.out.mono ?_
  rintro r w1 ⟨p, b, rfl, hP, hb, hp1, hb1⟩
  have HP := Lib.hid hP
  have HB := Lib.hid hb
  have HL := Lib.hid (And.intro hp1 hb1)
  clear hP hb hp1 hb1
  go_wp2_with fail
  refine (H2.out p b w1 HP.out).mono ?_
  rintro r w2 ⟨rfl, hP2, hm2⟩
  have HP2 := Lib.hid hP2
  have HM2 := Lib.hid hm2
  clear hP2 hm2
  go_wp2_with fail
  refine (H3.out p b w2 HP2.out).mono ?_
  rintro r w3 ⟨rfl, hP3, hm3⟩
  have HP3 := Lib.hid hP3
  have HM3 := Lib.hid hm3
  clear hP3 hm3
  go_wp2_with fail
  refine (H4.out p b w3 HP3.out).mono ?_
  rintro r w4 ⟨rfl, hb4⟩
  have HP4 := Lib.hid (HP3.out.old hb4)
  have HB4 := Lib.hid hb4
  clear hb4
  go_wp2_with fail
  refine (H5.out p b w4 HP4.out).mono ?_
  rintro r w5 ⟨rfl, rfl⟩
  go_wp2_with fail
  go_ret
  have h1 : Below w.heap.size w w2 := HB.out.trans (HM2.out.to_below HB.out.size (by rintro k hk rfl; have := HL.out; omega))
  have h2 : Below w.heap.size w w3 := h1.trans (HM3.out.to_below h1.size (by rintro k hk rfl; have := HL.out; omega))
  exact ⟨rfl, h2.trans (HB4.out.mono h2.size)⟩
end Go.Proofs.Ytdiiechkhlbkcaa

namespace Go.Proofs.Ytdiiechkhlbkcaa
open Go.RowKit PS

/-- What waits behind Put, which key goes, does one? -/
def putM (M : Int) (x : SI) (L : List SI) : List SI × List UInt8 × Bool :=
  if ((putS x L).length : Int) ≤ M then (putS x L, [], false) else ((putS x L).dropLast, ((putS x L).getLast?.getD ([], 0, [])).1, true)
theorem putS_ne (x : SI) (L : List SI) : putS x L ≠ [] := by
  intro h
  have := insS_len x (dropS x.1 L)
  unfold putS at h
  rw [h] at this; simp at this
theorem putS_len (x : SI) (L : List SI) : (putS x L).length ≤ L.length + 1 := by
  unfold putS
  rw [insS_len]
  have := dropS_len x.1 L; omega
theorem putM_len (M : Int) (x : SI) (L : List SI) (h : (L.length : Int) ≤ M) : ((putM M x L).1.length : Int) ≤ M := by
  unfold putM
  split
  · assumption
  · have := putS_len x L
    rw [List.length_dropLast]
    omega
theorem putS_split (x : SI) (L : List SI) : putS x L = (putS x L).dropLast ++ [(putS x L).getLast?.getD ([], 0, [])] := by
  have h := putS_ne x L
  rw [List.getLast?_eq_some_getLast h]
  exact (List.dropLast_concat_getLast h).symm
theorem putS_mem {x y : SI} {L : List SI} (h : y ∈ putS x L) : y = x ∨ y ∈ L := by
  unfold putS at h
  have hp : ∀ l : List SI, y ∈ insS x l → y = x ∨ y ∈ l := by
    intro l
    induction l with
    | nil => intro h; left; simpa [insS] using h
    | cons z l ih =>
      intro h
      rw [insS] at h
      split at h
      · rcases List.mem_cons.1 h with h | h
        · exact .inl h
        · exact .inr h
      · rcases List.mem_cons.1 h with h | h
        · exact .inr (by rw [h]; simp)
        · rcases ih h with h | h
          · exact .inl h
          · exact .inr (List.mem_cons_of_mem _ h)
  rcases hp _ h with h | h
  · exact .inl h
  · exact .inr (List.mem_filter.1 h).1
theorem putM_mem {M : Int} {x y : SI} {L : List SI} (h : y ∈ (putM M x L).1) : y = x ∨ y ∈ L := by
  unfold putM at h
  split at h
  · exact putS_mem h
  · exact putS_mem ((List.dropLast_sublist _).subset h)
theorem Same.kept {w w' : World} {p b : Nat} {M : Int} {L : List SI} {S : Nat → Prop} (h : Same w p b M L) (hm : Mod S w w') (hp : ¬ S p) (hb : ¬ S b) : Same w' p b M L := ⟨h.at_.kept hm hp hb, h.srt, h.keys, h.few⟩
theorem Same.putC {w : World} {p b : Nat} {M : Int} {L : List SI} (h : Same w p b M L) (hM : (L.length : Int) ≤ M) (h64 : M ≤ 64) (k : List UInt8) (hk : k.length ≤ 1000000) (r : Int) (v : List UInt8) :
    Calls Try.prog 18 #[.pointer (some ⟨p, 0, none⟩), .string ⟨k.toArray⟩, .int .i64 r, .string ⟨v.toArray⟩] w fun e w' => e = .returned (.tuple #[.string ⟨(putM M (k, r, v) L).2.1.toArray⟩, .bool (putM M (k, r, v) L).2.2]) ∧ Same w' p b M (putM M (k, r, v) L).1 ∧ Mod (fun i => i = b) w w' := by
  have hpi : (putS (k, r, v) L).map toI = putI (k, r, .string ⟨v.toArray⟩) (L.map toI) := putS_toI _ _
  have hsrt : Srt ((putS (k, r, v) L).map toI) := by rw [hpi]; exact putI_srt h.srt _
  have hkeys : ∀ x ∈ putS (k, r, v) L, x.1.length ≤ 1000000 := by
    intro x hx
    rcases putS_mem hx with rfl | hx
    · exact hk
    · exact h.keys x hx
  have hfew : (putS (k, r, v) L).length ≤ 1000 := by have := putS_len (k, r, v) L; omega
  have hlen : (putI (k, r, .string ⟨v.toArray⟩) (L.map toI)).length = (putS (k, r, v) L).length := by rw [← hpi, List.length_map]
  unfold putM
  by_cases hf : ((putS (k, r, v) L).length : Int) ≤ M
  · rw [if_pos hf]
    refine (put_fits p b M _ w h.at_ (by rw [List.length_map]; have := h.few; omega) k hk r ⟨v.toArray⟩ (by rw [hlen]; exact hf)).mono ?_
    rintro e w' ⟨rfl, hP, hm⟩
    exact ⟨rfl, ⟨by rw [hpi]; exact hP, hsrt, hkeys, hfew⟩, hm⟩
  · rw [if_neg hf]
    have hsp := putS_split (k, r, v) L
    have hz : putI (k, r, .string ⟨v.toArray⟩) (L.map toI) = ((putS (k, r, v) L).dropLast.map toI) ++ [toI ((putS (k, r, v) L).getLast?.getD ([], 0, []))] := by
      rw [← hpi]
      conv => lhs; rw [hsp]
      rw [List.map_append]; rfl
    refine (put_goes p b M _ w h.at_ (by rw [List.length_map]; have := h.few; omega) h.keys' (by intro x hx; obtain ⟨y, _, rfl⟩ := List.mem_map.1 hx; rfl) h.srt k hk r ⟨v.toArray⟩ _ _ hz (by rw [hlen]; omega)).mono ?_
    rintro e w' ⟨rfl, hP, hm⟩
    refine ⟨rfl, ⟨hP, ?_, fun x hx => hkeys x ((List.dropLast_sublist _).subset hx), by rw [List.length_dropLast]; omega⟩, hm⟩
    rw [hsp, List.map_append] at hsrt
    exact (List.pairwise_append.1 hsrt).1
theorem hasS_toI (k : List UInt8) (L : List SI) : ((L.map toI).any fun x => x.1 == k) = hasS k L := by
  unfold hasS; rw [List.any_map]; rfl
theorem thL_str (k : List UInt8) (L : List SI) : ∃ s : ByteArray, thL k (L.map toI) (.string ⟨#[]⟩) = .string s ∧ (hasS k L = false → s = ⟨#[]⟩) := by
  unfold thL
  cases h : (L.map toI).find? fun x => x.1 == k with
  | none => exact ⟨_, rfl, fun _ => rfl⟩
  | some x =>
    have hx := List.mem_of_find?_eq_some h
    obtain ⟨y, hy, rfl⟩ := List.mem_map.1 hx
    refine ⟨_, rfl, fun hn => ?_⟩
    have h2 := List.find?_some h
    have : hasS k L = true := by unfold hasS; rw [List.any_eq_true]; exact ⟨y, hy, h2⟩
    rw [hn] at this; cases this
theorem rkL_no {k : List UInt8} {L : List SI} (h : hasS k L = false) : rkL k (L.map toI) = 0 := by
  unfold rkL
  cases h2 : (L.map toI).find? fun x => x.1 == k with
  | none => rfl
  | some x =>
    have hx := List.mem_of_find?_eq_some h2
    obtain ⟨y, hy, rfl⟩ := List.mem_map.1 hx
    have h3 := List.find?_some h2
    have : hasS k L = true := by unfold hasS; rw [List.any_eq_true]; exact ⟨y, hy, h3⟩
    rw [h] at this; cases this
theorem Same.dropC {w : World} {p b : Nat} {M : Int} {L : List SI} (h : Same w p b M L) (k : List UInt8) (hk : k.length ≤ 1000000) :
    Calls Try.prog 12 #[.pointer (some ⟨p, 0, none⟩), .string ⟨k.toArray⟩] w fun e w' => e = .returned (.bool (hasS k L)) ∧ Same w' p b M (dropS k L) ∧ Mod (fun i => i = b) w w' := by
  obtain ⟨s, hs, _⟩ := thL_str k L
  refine (drop_any p b M _ w h.at_ k hk (by rw [hs]; rfl)).mono ?_
  rintro e w' ⟨rfl, hP, hm⟩
  have e1 : (L.map toI).filter (fun x => x.1 != k) = (dropS k L).map toI := (dropS_toI k L).symm
  rw [e1] at hP
  refine ⟨by rw [hasS_toI], ⟨hP, ?_, fun x hx => h.keys x (List.mem_filter.1 hx).1, Nat.le_trans (dropS_len k L) h.few⟩, hm⟩
  rw [dropS_toI]
  exact dropL_srt h.srt k
/-- Of a key that is there, or isn't. -/
theorem Same.getC2 {w : World} {p b : Nat} {M : Int} {L : List SI} (h : Same w p b M L) (k : List UInt8) (hk : k.length ≤ 1000000) :
    Calls Try.prog 10 #[.pointer (some ⟨p, 0, none⟩), .string ⟨k.toArray⟩] w fun e w' => ∃ s : ByteArray, e = .returned (.tuple #[.string s, .bool (hasS k L)]) ∧ (hasS k L = false → s = ⟨#[]⟩) ∧ Below w.heap.size w w' := by
  obtain ⟨s, hs, hs2⟩ := thL_str k L
  refine (get_any p b M _ w h.at_ k (by simp [maxLen]; omega) (by rw [hs]; rfl)).mono ?_
  rintro e w' ⟨rfl, hb⟩
  exact ⟨s, by rw [hs, hasS_toI], hs2, hb⟩
theorem Same.rankC0 {w : World} {p b : Nat} {M : Int} {L : List SI} (h : Same w p b M L) (k : List UInt8) (hk : k.length ≤ 1000000) (hn : hasS k L = false) :
    Calls Try.prog 11 #[.pointer (some ⟨p, 0, none⟩), .string ⟨k.toArray⟩] w fun e w' => e = .returned (.int .i64 0) ∧ w' = w := by
  have := rank_any p b M _ w h.at_ k (by simp [maxLen]; omega)
  rw [rkL_no hn] at this
  exact this
theorem newS (m a M : Int) (w : World) (ha : max m 0 = a) (hM : min a 64 = M) :
    Calls Try.prog 7 #[.int .i64 m] w fun r w' => ∃ p b, r = .returned (.pointer (some ⟨p, 0, none⟩)) ∧ Same w' p b M [] ∧ Below w.heap.size w w' ∧ w.heap.size ≤ p ∧ w.heap.size ≤ b := by
  have hP : PoolAt 60 ((w.alloc (.map #[] 0)).alloc (.cells #[.int .i64 M, .map (some w.heap.size)] 60)) (w.heap.size + 1) w.heap.size M [] := by
    refine ⟨?_, ?_⟩
    · have := heap_alloc_new (w.alloc (.map #[] 0)) (.cells #[.int .i64 M, .map (some w.heap.size)] 60)
      simpa using this
    · exact (MapAt.made _ _ w).same (Below.heap_alloc _ _ _ (by simp))
  have HP := Lib.hid hP
  clear hP
  have hmk : (Instr.makeMap 58 none).run Try.prog w = .ok (.map (some w.heap.size)) (w.alloc (.map #[] 0)) := run_makeMap _ _
  go_enter Try.func7, Try.ntmps7
  go_wp2_with fail
  go_ret
  exact ⟨_, _, rfl, ⟨HP.out, List.Pairwise.nil, (fun x hx => by cases hx), Nat.zero_le _⟩, ((Below.refl _ w).alloc (Nat.le_refl _) _).alloc (by simp) _, by omega, Nat.le_refl _⟩
/-- Rows of cells aren't a map. -/
theorem Rd.mapMod {α : Type} {E : Enc α} {w w' : World} {q : Option Addr} {l : List α} {P : Program} {K : TypeId} {b : Nat} {L : List Ent} (h : Rd E w q l) (hM : MapAt P K w b L) (hm : Mod (fun i => i = b) w w') : Rd E w' q l := by
  intro j hj
  obtain ⟨bs, off, e, hlt, hc⟩ := h j hj
  have hne : bs ≠ b := by
    rintro rfl
    obtain ⟨es, ck, hh, _⟩ := hM.own
    have hk : 0 < (E.f l[j]).length := by rw [E.len]; exact E.pos
    have := hc 0 _ (List.getElem?_eq_getElem hk)
    unfold World.cell? at this
    rw [hh] at this
    cases this
  have hb := hm.block bs hlt hne
  exact ⟨bs, off, e, Nat.lt_of_lt_of_le hlt hm.size, fun i u hu => (World.cell?_of_block hb).trans (hc i u hu)⟩
end Go.Proofs.Ytdiiechkhlbkcaa

namespace Go.Proofs.Ytdiiechkhlbkcaa
open Go.RowKit

def ApS (X : List SI) : Prop := X.Pairwise fun x y => x.1 ≠ y.1
def sortS (X : List SI) : List SI := X.foldl (fun L x => insS x L) []
def fewS (M : Int) (X : List SI) : List SI := X.foldl (fun L x => (putM M x L).1) []
theorem insS_permS (x : SI) : ∀ L, (insS x L).Perm (x :: L)
  | [] => .refl _
  | y :: l => by
    unfold insS
    split
    · exact .refl _
    · exact ((insS_permS x l).cons y).trans (List.Perm.swap x y l)
theorem sortS_snoc (X : List SI) (x : SI) : sortS (X ++ [x]) = insS x (sortS X) := by simp [sortS, List.foldl_append]
theorem fewS_snoc (M : Int) (X : List SI) (x : SI) : fewS M (X ++ [x]) = (putM M x (fewS M X)).1 := by simp [fewS, List.foldl_append]
theorem snoc_ind {P : List SI → Prop} (h0 : P []) (h1 : ∀ X x, P X → P (X ++ [x])) (X : List SI) : P X := by
  have : ∀ n (X : List SI), X.length = n → P X := by
    intro n
    induction n with
    | zero => intro X h; rw [List.eq_nil_of_length_eq_zero h]; exact h0
    | succ n ih =>
      intro X h
      have hne : X ≠ [] := by intro e; rw [e] at h; simp at h
      rw [← List.dropLast_concat_getLast hne]
      exact h1 _ _ (ih _ (by rw [List.length_dropLast, h]; rfl))
  exact this _ X rfl
theorem sortS_perm (X : List SI) : (sortS X).Perm X := by
  refine snoc_ind (P := fun X => (sortS X).Perm X) (.refl _) (fun X x ih => ?_) X
  rw [sortS_snoc]
  exact (insS_permS x _).trans ((ih.cons x).trans (List.perm_append_singleton x X).symm)
theorem dropS_none {k : List UInt8} {L : List SI} (h : ∀ y ∈ L, y.1 ≠ k) : dropS k L = L := List.filter_eq_self.2 (fun y hy => by simpa using h y hy)
theorem apS_snoc {X : List SI} {x : SI} (h : ApS (X ++ [x])) : ApS X ∧ ∀ y ∈ X, y.1 ≠ x.1 := by
  obtain ⟨h1, _, h3⟩ := List.pairwise_append.1 h
  exact ⟨h1, fun y hy => h3 y hy x (by simp)⟩
theorem sortS_srt (X : List SI) (h : ApS X) : Srt ((sortS X).map toI) := by
  revert h
  refine snoc_ind (P := fun X => ApS X → Srt ((sortS X).map toI)) (fun _ => List.Pairwise.nil) (fun X x ih h => ?_) X
  obtain ⟨h1, h2⟩ := apS_snoc h
  rw [sortS_snoc, insS_toI]
  refine insI_srt _ _ (ih h1) ?_
  intro y hy
  obtain ⟨z, hz, rfl⟩ := List.mem_map.1 hy
  exact h2 z ((sortS_perm X).mem_iff.1 hz)
theorem ltI_irr (x : It) : ¬ ltI x x := by
  unfold ltI; rw [cmpB_self]; omega
theorem toI_inj {x y : SI} (h : toI x = toI y) : x = y := by
  obtain ⟨a, b, c⟩ := x
  obtain ⟨a', b', c'⟩ := y
  simp [toI] at h
  obtain ⟨rfl, rfl, rfl⟩ := h; rfl
theorem sortS_eq {X Y : List SI} (hp : X.Perm Y) (hX : ApS X) : sortS X = sortS Y := by
  have hY : ApS Y := (hp.pairwise_iff (fun {_ _} h => Ne.symm h)).1 hX
  have h1 := sortS_srt X hX
  have h2 := sortS_srt Y hY
  unfold Srt at h1 h2
  rw [List.pairwise_map] at h1 h2
  refine List.Perm.eq_of_pairwise (le := fun a b => ltI (toI a) (toI b)) (fun a b _ _ h1 h2 => ?_) h1 h2 ((sortS_perm X).trans (hp.trans (sortS_perm Y).symm))
  exact absurd (ltI_trans h1 h2) (ltI_irr _)
theorem take_cons_take (y : SI) : ∀ (l : List SI) (m : Nat), (y :: l.take m).take m = (y :: l).take m
  | _, 0 => rfl
  | l, m + 1 => by rw [List.take_succ_cons, List.take_succ_cons, List.take_take, Nat.min_eq_left (Nat.le_succ m)]
theorem insS_take (x : SI) : ∀ (S : List SI) (m : Nat), (insS x (S.take m)).take m = (insS x S).take m
  | _, 0 => rfl
  | [], m + 1 => rfl
  | y :: l, m + 1 => by
    rw [List.take_succ_cons, insS, insS]
    split
    · rw [List.take_succ_cons, List.take_succ_cons, take_cons_take]
    · rw [List.take_succ_cons, List.take_succ_cons, insS_take x l m]
theorem fewS_eq (M : Int) (hM : 0 ≤ M) (X : List SI) (h : ApS X) : fewS M X = (sortS X).take M.toNat := by
  revert h
  refine snoc_ind (P := fun X => ApS X → fewS M X = (sortS X).take M.toNat) (fun _ => by simp [fewS, sortS]) (fun X x ih h => ?_) X
  obtain ⟨h1, h2⟩ := apS_snoc h
  have ih := ih h1
  have hd : dropS x.1 (fewS M X) = fewS M X := dropS_none (fun y hy => h2 y ((sortS_perm X).mem_iff.1 (List.mem_of_mem_take (by rw [ih] at hy; exact hy))))
  rw [fewS_snoc, sortS_snoc, ← insS_take, ← ih]
  unfold putM putS
  rw [hd]
  have hl : (fewS M X).length ≤ M.toNat := by rw [ih, List.length_take]; exact Nat.min_le_left _ _
  have hs := insS_len x (fewS M X)
  by_cases hf : ((insS x (fewS M X)).length : Int) ≤ M
  · rw [if_pos hf, List.take_of_length_le (by omega)]
  · have e : (insS x (fewS M X)).length - 1 = M.toNat := by omega
    rw [if_neg hf, List.dropLast_eq_take, e]
/-- Without a bound all are there. -/
theorem put100 {X : List SI} {x : SI} (h : ApS (X ++ [x])) (hn : X.length ≤ 40) : putM 100 x (sortS X) = (sortS (X ++ [x]), [], false) := by
  obtain ⟨_, h2⟩ := apS_snoc h
  have hd : dropS x.1 (sortS X) = sortS X := dropS_none (fun y hy => h2 y ((sortS_perm X).mem_iff.1 hy))
  unfold putM putS
  rw [hd, sortS_snoc]
  have := insS_len x (sortS X)
  have := (sortS_perm X).length_eq
  rw [if_pos (by omega)]
/-- The other order. -/
def turnI (n t i : Nat) : Nat := (n - 1 - i + t) % n
theorem turnI_lt {n t i : Nat} (h : 0 < n) : turnI n t i < n := Nat.mod_lt _ h
theorem turnI_eq {n t i : Nat} (ht : t < n) (hi : i < n) : turnI n t i = if n - 1 - i + t < n then n - 1 - i + t else n - 1 - i + t - n := by
  unfold turnI
  split
  · exact Nat.mod_eq_of_lt (by assumption)
  · rw [Nat.mod_eq_sub_mod (by omega), Nat.mod_eq_of_lt (by omega)]
def turnL (X : List SI) (t i : Nat) : List SI := (List.range i).map fun j => X.getD (turnI X.length t j) ([], 0, [])
theorem turnL_succ (X : List SI) (t i : Nat) : turnL X t (i + 1) = turnL X t i ++ [X.getD (turnI X.length t i) ([], 0, [])] := by simp [turnL, List.range_succ]
theorem getD_eq (X : List SI) (k : Nat) (h : k < X.length) : X.getD k ([], 0, []) = X[k] := by simp [List.getD, h]
theorem turnL_perm {X : List SI} {t : Nat} (hX : ApS X) (ht : t < X.length) : (turnL X t X.length).Perm X := by
  have hn : X.Nodup := hX.imp (fun h e => h (by rw [e]))
  refine (List.perm_ext_iff_of_nodup ?_ hn).2 fun y => ?_
  · unfold turnL
    refine List.pairwise_map.2 ?_
    refine List.Pairwise.imp_of_mem ?_ (List.pairwise_lt_range (n := X.length))
    intro a b ha hb hlt e
    have ha := List.mem_range.1 ha
    have hb := List.mem_range.1 hb
    have h0 : 0 < X.length := by omega
    rw [getD_eq _ _ (turnI_lt h0), getD_eq _ _ (turnI_lt h0)] at e
    have e2 := (List.getElem_inj hn).1 e
    rw [turnI_eq ht ha, turnI_eq ht hb] at e2
    split at e2 <;> split at e2 <;> omega
  · constructor
    · intro h
      obtain ⟨j, hj, rfl⟩ := List.mem_map.1 h
      have h0 : 0 < X.length := by omega
      rw [getD_eq _ _ (turnI_lt h0)]
      exact List.getElem_mem _
    · intro h
      obtain ⟨k, hk, rfl⟩ := List.getElem_of_mem h
      have h0 : 0 < X.length := by omega
      refine List.mem_map.2 ⟨turnI X.length t k, List.mem_range.2 (turnI_lt h0), ?_⟩
      have e : turnI X.length t (turnI X.length t k) = k := by
        rw [turnI_eq ht (turnI_lt h0), turnI_eq ht hk]
        split <;> split <;> omega
      rw [e, getD_eq _ _ hk]
theorem turnL_apart {X : List SI} {t i : Nat} (hX : ApS X) (ht : t < X.length) (hi : i ≤ X.length) : ApS (turnL X t i) := by
  have h := ((turnL_perm hX ht).symm.pairwise_iff (fun {_ _} h => Ne.symm h)).1 hX
  have e : turnL X t i = (turnL X t X.length).take i := by unfold turnL; rw [← List.map_take, List.take_range, Nat.min_eq_left hi]
  unfold ApS
  rw [e]
  exact h.sublist (List.take_sublist _ _)
theorem apS_take {X : List SI} (h : ApS X) (i : Nat) : ApS (X.take i) := h.sublist (List.take_sublist _ _)
end Go.Proofs.Ytdiiechkhlbkcaa

namespace Go.Proofs.Ytdiiechkhlbkcaa
open Go.ChangeShapes Go.WideShapes Go.ChangeAt Go.RowKit Go.Deep

theorem cell_block {w : World} {a : Addr} {v : Value} (h : w.cell? a = some v) : a.block < w.heap.size := by
  unfold World.cell? at h
  apply Nat.lt_of_not_le; intro hle
  rw [Array.getElem?_eq_none hle] at h
  simp at h
def i64ok (x : Int) : Prop := -9223372036854775808 ≤ x ∧ x ≤ 9223372036854775807
/-- A call: its kind, its rank, its key, its thing. -/
abbrev AC := Int × Int × List UInt8 × List UInt8
def encA : Enc AC := ⟨fun x => [.int .i64 x.1, .int .i64 x.2.1, .string ⟨x.2.2.1.toArray⟩, .string ⟨x.2.2.2.toArray⟩], 4, fun _ => rfl, fun _ v hv => by simp at hv; rcases hv with rfl | rfl | rfl | rfl <;> rfl, by decide⟩
def okA (x : AC) : Prop := i64ok x.1 ∧ i64ok x.2.1 ∧ x.2.2.1.length ≤ maxLen ∧ x.2.2.2.length ≤ maxLen
def okT (x : SI) : Prop := x.1.length ≤ maxLen ∧ i64ok x.2.1 ∧ x.2.2.length ≤ maxLen
theorem Rd.ac {w : World} {ao : Option Addr} {L : List AC} (h : Rd encA w ao L) (j : Nat) (hj : j < L.length) : ∃ bs off, ao = some ⟨bs, off, none⟩ ∧ bs < w.heap.size ∧
    w.cell? ⟨bs, off + j * 4, none⟩ = some (.int .i64 (L[j]).1) ∧ w.cell? ⟨bs, off + j * 4 + 1, none⟩ = some (.int .i64 (L[j]).2.1) ∧ w.cell? ⟨bs, off + j * 4 + 2, none⟩ = some (.string ⟨(L[j]).2.2.1.toArray⟩) ∧ w.cell? ⟨bs, off + j * 4 + 3, none⟩ = some (.string ⟨(L[j]).2.2.2.toArray⟩) := by
  obtain ⟨bs, off, e, hlt, hc⟩ := h j hj
  exact ⟨bs, off, e, hlt, hc 0 _ rfl, hc 1 _ rfl, hc 2 _ rfl, hc 3 _ rfl⟩

set_option maxRecDepth 20000 in
theorem open_acts1 {H : Type} {enc : TypeId × Value → H} {W : World} {v : Value} {fuel : Nat} {x : DataW H × List MemPlace} (hf : DataW.trod enc Try.prog W 0 (fun _ => true) true fuel 22 [v] = some x) :
    ∃ ao cap L, v = .slice ao L.length cap ∧ Rd encA W ao L ∧ (∀ s ∈ L, okA s) ∧ L.length ≤ 9223372036854775807 ∧ L.length ≤ cap := by
  have k4 : Try.prog.cellsOf 28 = 4 := by kernel_rfl
  have ki : Try.prog.cellsOf 3 = 1 := by kernel_rfl
  have ks : Try.prog.cellsOf 9 = 1 := by kernel_rfl
  rcases open_slice Try.underlying22 hf with ⟨hc, _⟩ | ⟨a', len', cap', m, n, D, Pl, hc, _, hl, hm, hmm, _, hall⟩
  · have hc2 : [v] = [Value.slice none 0 0] := hc
    simp only [List.cons.injEq, and_true] at hc2
    subst hc2
    exact ⟨none, 0, [], rfl, Rd.nil _ _, fun s hs => by simp at hs, Nat.zero_le _, Nat.le_refl _⟩
  · have hc2 : [v] = [Value.slice (some a') len' cap'] := hc
    simp only [List.cons.injEq, and_true] at hc2
    subst hc2
    simp only [if_true] at hmm
    subst hmm
    have hj : ∀ i, i < len' → ∃ s : AC, okA s ∧ W.cell? (a'.add (i * 4)) = some (.int .i64 s.1) ∧ W.cell? ((a'.add (i * 4)).add 1) = some (.int .i64 s.2.1) ∧ W.cell? ((a'.add (i * 4)).add 2) = some (.string ⟨s.2.2.1.toArray⟩) ∧ W.cell? ((a'.add (i * 4)).add 3) = some (.string ⟨s.2.2.2.toArray⟩) := by
      intro i hi
      obtain ⟨cs', h1, h2⟩ := hall i (by omega)
      rw [k4] at h1
      obtain ⟨_, hlen, hcell⟩ := World.cells?_some h1
      obtain ⟨xs, k, _, _, _, hxl, hg⟩ := DataW.trod_struct Try.underlying28 h2
      match xs, hxl, cs', hlen with
      | [y0, y1, y2, y3], _, [v0, v1, v2, v3], _ =>
        have g0 := hg 0 _ rfl
        have g1 := hg 1 _ rfl
        have g2 := hg 2 _ rfl
        have g3 := hg 3 _ rfl
        simp [ki, ks] at g0 g1 g2 g3
        obtain ⟨n0, e0, _, w0⟩ := DataW.trod_int Try.underlying3 g0
        obtain ⟨n1, e1, _, w1⟩ := DataW.trod_int Try.underlying3 g1
        obtain ⟨s2, e2, _, w2⟩ := DataW.trod_string Try.underlying9 g2
        obtain ⟨s3, e3, _, w3⟩ := DataW.trod_string Try.underlying9 g3
        simp only [List.cons.injEq, and_true] at e0 e1 e2 e3
        subst e0 e1 e2 e3
        have q0 := hcell 0 (by omega)
        rw [show ∀ z : Addr, z.add 0 = z from fun z => by unfold Addr.add; simp] at q0
        have q1 := hcell 1 (by omega)
        have q2 := hcell 2 (by omega)
        have q3 := hcell 3 (by omega)
        exact ⟨(n0, n1, s2.data.toList, s3.data.toList), ⟨bounds_i64 w0, bounds_i64 w1, w2, w3⟩, by simpa using q0, by simpa using q1, by simpa using q2, by simpa using q3⟩
    obtain ⟨f, hf2⟩ := choose_lt hj
    refine ⟨some a', m, (List.range len').map f, by simp, ?_, ?_, by simp; unfold maxLen at hm; omega, by simpa using hl⟩
    · intro j hjl
      have hjn : j < len' := by simpa using hjl
      obtain ⟨bs, off, spot⟩ := a'
      obtain ⟨ho, c0, c1, c2, c3⟩ := hf2 j hjn
      have hspot : spot = none := by simpa [Addr.add] using World.cell?_spot (hf2 0 (by omega)).2.1
      subst hspot
      refine ⟨bs, off, rfl, by have := cell_block c0; simpa [Addr.add_lit] using this, fun i u hu => ?_⟩
      rw [List.getElem_map, List.getElem_range] at hu
      have hi : i < 4 := by have := (List.getElem?_eq_some_iff.1 hu).1; simpa [encA] using this
      match i, hi with
      | 0, _ => simp [encA] at hu; subst hu; simpa [Addr.add_lit, encA] using c0
      | 1, _ => simp [encA] at hu; subst hu; simpa [Addr.add_lit, encA] using c1
      | 2, _ => simp [encA] at hu; subst hu; simpa [Addr.add_lit, encA] using c2
      | 3, _ => simp [encA] at hu; subst hu; simpa [Addr.add_lit, encA] using c3
    · intro s hs
      obtain ⟨i, hi, rfl⟩ := List.mem_map.1 hs
      exact (hf2 i (List.mem_range.1 hi)).1
theorem open_acts {H : Type} {enc : TypeId × Value → H} {W : World} {base : Nat} {v : Value} {d : DataW H} {ps : List MemPlace} (_hval : Value.okWide Try.prog W .any base 22 v) (h : DataW.Trod enc Try.prog W 0 (fun _ => true) true 22 v d ps) :
    ∃ ao cap L, v = .slice ao L.length cap ∧ Rd encA W ao L ∧ (∀ s ∈ L, okA s) ∧ L.length ≤ 9223372036854775807 ∧ L.length ≤ cap := by
  obtain ⟨a, len, cap, rfl⟩ := okWide_slice Try.underlying22 _hval
  obtain ⟨fuel, hf⟩ := h
  exact open_acts1 (by simpa [Value.cells] using hf)

set_option maxRecDepth 20000 in
theorem open_items {H : Type} {enc : TypeId × Value → H} {W : World} {base : Nat} {v : Value} {d : DataW H} {ps : List MemPlace} (_hval : Value.okWide Try.prog W .any base 26 v) (h : DataW.Trod enc Try.prog W 0 (fun _ => true) true 26 v d ps) :
    ∃ ao cap L, v = .slice ao L.length cap ∧ Rd encT W ao L ∧ (∀ s ∈ L, okT s) ∧ L.length ≤ 9223372036854775807 ∧ L.length ≤ cap := by
  obtain ⟨a, len, cap, rfl⟩ := okWide_slice Try.underlying26 _hval
  obtain ⟨fuel, hf⟩ := h
  have k3 : Try.prog.cellsOf 38 = 3 := by kernel_rfl
  have ki : Try.prog.cellsOf 3 = 1 := by kernel_rfl
  have ks : Try.prog.cellsOf 9 = 1 := by kernel_rfl
  rcases open_slice Try.underlying26 hf with ⟨hc, _⟩ | ⟨a', len', cap', m, n, D, Pl, hc, _, hl, hm, hmm, _, hall⟩
  · have hc2 : [Value.slice a len cap] = [Value.slice none 0 0] := hc
    simp only [List.cons.injEq, Value.slice.injEq, and_true] at hc2
    obtain ⟨rfl, rfl, rfl⟩ := hc2
    exact ⟨none, 0, [], rfl, Rd.nil _ _, fun s hs => by simp at hs, Nat.zero_le _, Nat.le_refl _⟩
  · have hc2 : [Value.slice a len cap] = [Value.slice (some a') len' cap'] := hc
    simp only [List.cons.injEq, Value.slice.injEq, and_true] at hc2
    obtain ⟨rfl, rfl, rfl⟩ := hc2
    simp only [if_true] at hmm
    subst hmm
    have hj : ∀ i, i < len → ∃ s : SI, okT s ∧ W.cell? (a'.add (i * 3)) = some (.string ⟨s.1.toArray⟩) ∧ W.cell? ((a'.add (i * 3)).add 1) = some (.int .i64 s.2.1) ∧ W.cell? ((a'.add (i * 3)).add 2) = some (.string ⟨s.2.2.toArray⟩) := by
      intro i hi
      obtain ⟨cs', h1, h2⟩ := hall i (by omega)
      rw [k3] at h1
      obtain ⟨_, hlen, hcell⟩ := World.cells?_some h1
      obtain ⟨xs, k, _, _, _, hxl, hg⟩ := DataW.trod_struct Try.underlying38 h2
      match xs, hxl, cs', hlen with
      | [y0, y1, y2], _, [v0, v1, v2], _ =>
        have g0 := hg 0 _ rfl
        have g1 := hg 1 _ rfl
        have g2 := hg 2 _ rfl
        simp [ki, ks] at g0 g1 g2
        obtain ⟨s0, e0, _, w0⟩ := DataW.trod_string Try.underlying9 g0
        obtain ⟨n1, e1, _, w1⟩ := DataW.trod_int Try.underlying3 g1
        obtain ⟨s2, e2, _, w2⟩ := DataW.trod_string Try.underlying9 g2
        simp only [List.cons.injEq, and_true] at e0 e1 e2
        subst e0 e1 e2
        have q0 := hcell 0 (by omega)
        rw [show ∀ z : Addr, z.add 0 = z from fun z => by unfold Addr.add; simp] at q0
        have q1 := hcell 1 (by omega)
        have q2 := hcell 2 (by omega)
        exact ⟨(s0.data.toList, n1, s2.data.toList), ⟨w0, bounds_i64 w1, w2⟩, by simpa using q0, by simpa using q1, by simpa using q2⟩
    obtain ⟨f, hf2⟩ := choose_lt hj
    refine ⟨some a', m, (List.range len).map f, by simp, ?_, ?_, by simp; unfold maxLen at hm; omega, by simpa using hl⟩
    · intro j hjl
      have hjn : j < len := by simpa using hjl
      obtain ⟨bs, off, spot⟩ := a'
      obtain ⟨ho, c0, c1, c2⟩ := hf2 j hjn
      have hspot : spot = none := by simpa [Addr.add] using World.cell?_spot (hf2 0 (by omega)).2.1
      subst hspot
      refine ⟨bs, off, rfl, by have := cell_block c0; simpa [Addr.add_lit] using this, fun i u hu => ?_⟩
      rw [List.getElem_map, List.getElem_range] at hu
      have hi : i < 3 := by have := (List.getElem?_eq_some_iff.1 hu).1; simpa [encT] using this
      match i, hi with
      | 0, _ => simp [encT] at hu; subst hu; simpa [Addr.add_lit, encT] using c0
      | 1, _ => simp [encT] at hu; subst hu; simpa [Addr.add_lit, encT] using c1
      | 2, _ => simp [encT] at hu; subst hu; simpa [Addr.add_lit, encT] using c2
    · intro s hs
      obtain ⟨i, hi, rfl⟩ := List.mem_map.1 hs
      exact (hf2 i (List.mem_range.1 hi)).1
end Go.Proofs.Ytdiiechkhlbkcaa

namespace Go.Proofs.Ytdiiechkhlbkcaa
open Go

def waitsI (md : Region.Mode) (o : Oper) : List Nat := (o.after.toList.filter (Region.binds md)).map (·.on)
def AllU {Γ : Type} (U : Nat → Γ → World → Prop) (γ : Γ) (w : World) (l : List Nat) : Prop := ∀ j, l.contains j = true → U j γ w

/-- As drawOk, of the edges that bind. -/
def drawOk2 (md : Region.Mode) (ops : Array Oper) (N : Nat) : Bool :=
  (List.range ops.size).all fun i => match ops[i]? with
    | none => true
    | some o => o.after.all (fun e => !Region.binds md e || decide (e.on < i)) && (match o.dst with
      | none => true
      | some d => decide (d < N) && (List.range ops.size).all fun j => j == i || (match ops[j]? with | some p => p.dst != some d | none => true))
structure DrawOk2 (md : Region.Mode) (ops : Array Oper) (N : Nat) : Prop where
  before : ∀ (i : Nat) (o : Oper), ops[i]? = some o → ∀ e ∈ o.after, Region.binds md e = true → e.on < i
  room : ∀ (i : Nat) (o : Oper) (d : Tmp), ops[i]? = some o → o.dst = some d → d < N
  apart : ∀ (i j : Nat) (o p : Oper) (d : Tmp), ops[i]? = some o → ops[j]? = some p → j ≠ i → o.dst = some d → p.dst ≠ some d
theorem drawOk2_spec {md : Region.Mode} {ops : Array Oper} {N : Nat} (h : drawOk2 md ops N = true) : DrawOk2 md ops N := by
  have key : ∀ (i : Nat) (o : Oper), ops[i]? = some o → o.after.all (fun e => !Region.binds md e || decide (e.on < i)) = true ∧ (match o.dst with
      | none => true
      | some d => decide (d < N) && (List.range ops.size).all fun j => j == i || (match ops[j]? with | some p => p.dst != some d | none => true)) = true := by
    intro i o ho
    have hlt : i < ops.size := (Array.getElem?_eq_some_iff.1 ho).1
    have := List.all_eq_true.1 h i (List.mem_range.2 hlt)
    simp only [ho, Bool.and_eq_true] at this
    exact this
  refine ⟨fun i o ho e he hb => ?_, fun i o d ho hd => ?_, fun i j o p d ho hp hj hd hpd => ?_⟩
  · have := Array.all_eq_true_iff_forall_mem.1 (key i o ho).1 e he
    rw [hb] at this
    simpa using this
  · have := (key i o ho).2
    rw [hd] at this
    simp only [Bool.and_eq_true] at this
    exact of_decide_eq_true this.1
  · have := (key i o ho).2
    rw [hd] at this
    simp only [Bool.and_eq_true] at this
    have h2 := List.all_eq_true.1 this.2 j (List.mem_range.2 (Array.getElem?_eq_some_iff.1 hp).1)
    simp only [hp, Bool.or_eq_true, beq_iff_eq, hj, false_or, bne_iff_ne, ne_eq] at h2
    exact h2 hpd
theorem ready_some2 {ops : Array Oper} {md : Region.Mode} {N : Nat} (hok : DrawOk2 md ops N) {L : Array Bool} (hL : L.size = ops.size) : ∀ i, i < ops.size → L.getD i true = false → ∃ j, j ∈ Region.ready md ops L := by
  intro i
  induction i using Nat.strongRecOn with
  | ind i ih =>
    intro hi hun
    have ho : ops[i]? = some ops[i] := Array.getElem?_eq_getElem hi
    by_cases h : ∀ e ∈ ops[i].after, Region.binds md e = true → L.getD e.on false = true
    · exact ⟨i, mem_ready.2 ⟨hun, _, ho, h⟩⟩
    · have ⟨e, he⟩ := Classical.not_forall.1 h
      have ⟨he1, he2⟩ := Classical.not_imp.1 he
      have ⟨hb, hf⟩ := Classical.not_imp.1 he2
      have hlt := hok.before i _ ho e he1 hb
      have hel : e.on < L.size := by omega
      refine ih e.on hlt (by omega) ?_
      simp [hel] at hf ⊢
      exact hf
theorem agree_puts2 {ops : Array Oper} {a0 a : Act} (ha : Agree ops a0 a) (room : ∀ (i : Nat) (o : Oper) (d : Tmp), ops[i]? = some o → o.dst = some d → d < a0.tmps.size) : a = puts (fun t => a.eval (.tmp t)) (dsts ops) a0 := by
  have hm : ∀ t ∈ dsts ops, ∃ (i : Nat) (o : Oper), ops[i]? = some o ∧ o.dst = some t := by
    intro t ht
    obtain ⟨o, ho, hd⟩ := List.mem_filterMap.1 ht
    obtain ⟨i, hi, e⟩ := List.getElem_of_mem ho
    refine ⟨i, o, ?_, hd⟩
    rw [← e]
    simp at hi
    simp [hi]
  have hp := puts_spec (fun t => a.eval (.tmp t)) (dsts ops) a0 (fun t ht => by obtain ⟨i, o, hi, hd⟩ := hm t ht; exact room i o t hi hd)
  refine act_ext (ha.size.trans hp.1.symm) (ha.defers.trans hp.2.1.symm) (fun t => ?_)
  rw [hp.2.2 t]
  by_cases h : t ∈ dsts ops
  · rw [if_pos h]
  · rw [if_neg h]
    refine ha.same t (fun i o hi hd => h ?_)
    exact List.mem_filterMap.2 ⟨o, by simpa using Array.mem_of_getElem? hi, hd⟩

section
variable {P : Program} {ops : Array Oper} {Q : Exit → Act → World → Prop} {md : Region.Mode} {Γ : Type} {V : Tmp → Value → Γ → World → Prop} {U : Nat → Γ → World → Prop} {G : Γ → World → Prop} {a0 : Act}

/-- What one operation owes. -/
def Owes2 (P : Program) (md : Region.Mode) (ops : Array Oper) (Q : Exit → Act → World → Prop) (V : Tmp → Value → Γ → World → Prop) (U : Nat → Γ → World → Prop) (G : Γ → World → Prop) (a0 : Act) (i : Nat) (o : Oper) : Prop :=
  ∀ γ a w, Agree ops a0 a → G γ w → AllV (fun t v w => V t v γ w) a w (waits md ops o) → AllU U γ w (waitsI md o) →
    wpOp P ops Q i (fun a' w' => ∃ v γ', a' = a.put o.dst v ∧ (∀ t, o.dst = some t → V t v γ' w') ∧ U i γ' w' ∧ G γ' w' ∧
      ∀ j p, ops[j]? = some p → j ≠ i → (∀ e ∈ p.after, Region.binds md e = true → e.on ≠ i) → (∀ t x, p.dst = some t → V t x γ w → V t x γ' w') ∧ (U j γ w → U j γ' w')) a w

theorem wpAny_vals2 (hok : DrawOk2 md ops a0.tmps.size) (step : ∀ (i : Nat) (o : Oper), ops[i]? = some o → Owes2 P md ops Q V U G a0 i o)
    (fin : ∀ γ a w, Agree ops a0 a → G γ w → (∀ (i : Nat) (o : Oper) (t : Tmp), ops[i]? = some o → o.dst = some t → V t (a.eval (.tmp t)) γ w) → (∀ (i : Nat) (o : Oper), ops[i]? = some o → U i γ w) → Q .normal a w) :
    ∀ (fuel : Nat) (γ : Γ) (L : Array Bool) (a : Act) (w : World), unl L ops.size ≤ fuel → L.size = ops.size → Agree ops a0 a → G γ w →
      (∀ (j : Nat) (p : Oper), ops[j]? = some p → L.getD j true = true → ∀ e ∈ p.after, Region.binds md e = true → L.getD e.on true = true) →
      (∀ (i : Nat) (o : Oper) (t : Tmp), ops[i]? = some o → L.getD i true = true → o.dst = some t → V t (a.eval (.tmp t)) γ w) →
      (∀ (i : Nat) (o : Oper), ops[i]? = some o → L.getD i true = true → U i γ w) → wpAny P md ops Q fuel L a w := by
  have allL : ∀ L : Array Bool, L.size = ops.size → Region.ready md ops L = [] → ∀ (i : Nat) (o : Oper), ops[i]? = some o → L.getD i true = true := by
    intro L hL hr i o ho
    cases hc : L.getD i true with
    | true => rfl
    | false =>
      obtain ⟨j, hj⟩ := ready_some2 hok hL i (Array.getElem?_eq_some_iff.1 ho).1 hc
      rw [hr] at hj; cases hj
  intro fuel
  induction fuel with
  | zero =>
    intro γ L a w hu hL ha hG _ hv hU
    have hr : Region.ready md ops L = [] := by
      apply List.eq_nil_iff_forall_not_mem.2
      intro j hj
      obtain ⟨hun, o, ho, _⟩ := mem_ready.1 hj
      have := unl_pos L ops.size j (Array.getElem?_eq_some_iff.1 ho).1 hun
      omega
    exact ⟨hr, fin γ a w ha hG (fun i o t ho ht => hv i o t ho (allL L hL hr i o ho) ht) (fun i o ho => hU i o ho (allL L hL hr i o ho))⟩
  | succ fuel ih =>
    intro γ L a w hu hL ha hG hcl hv hU
    refine ⟨fun hr => fin γ a w ha hG (fun i o t ho ht => hv i o t ho (allL L hL hr i o ho) ht) (fun i o ho => hU i o ho (allL L hL hr i o ho)), fun i hi => ?_⟩
    obtain ⟨hun, o, ho, hall⟩ := mem_ready.1 hi
    have hil : i < ops.size := (Array.getElem?_eq_some_iff.1 ho).1
    have up : ∀ k, k < ops.size → L.getD k false = true → L.getD k true = true := by
      intro k hk h
      have hkl : k < L.size := by omega
      simp [hkl] at h ⊢; exact h
    have hw : AllV (fun t v w => V t v γ w) a w (waits md ops o) := AllV.of (by
      intro t ht
      unfold waits at ht
      obtain ⟨e, he, hd⟩ := List.mem_filterMap.1 ht
      obtain ⟨he1, he2⟩ := List.mem_filter.1 he
      cases hj : ops[e.on]? with
      | none => rw [hj] at hd; cases hd
      | some p =>
        rw [hj] at hd
        exact hv e.on p t hj (up _ (Array.getElem?_eq_some_iff.1 hj).1 (hall e (by simpa using he1) he2)) hd)
    have hwU : AllU U γ w (waitsI md o) := by
      intro j hj
      have hj2 : j ∈ waitsI md o := by simpa using hj
      obtain ⟨e, he, rfl⟩ := List.mem_map.1 hj2
      obtain ⟨he1, he2⟩ := List.mem_filter.1 he
      have hlt := hok.before i o ho e (by simpa using he1) he2
      have hes : e.on < ops.size := by omega
      exact hU e.on _ (Array.getElem?_eq_getElem hes) (up _ hes (hall e (by simpa using he1) he2))
    refine wpOp_mono (fun a' w' h => ?_) (step i o ho γ a w ha hG hw hwU)
    obtain ⟨v, γ', rfl, hvi, hUi, hG', hst⟩ := h
    have notOn : ∀ (j : Nat) (p : Oper), ops[j]? = some p → L.getD j true = true → ∀ e ∈ p.after, Region.binds md e = true → e.on ≠ i := by
      intro j p hp hl e he hb heq
      have := hcl j p hp hl e he hb
      rw [heq, hun] at this; cases this
    refine ih γ' _ _ _ ?_ (by simpa using hL) ?_ hG' ?_ ?_ ?_
    · have := unl_set L i hun ops.size
      rw [if_pos hil] at this; omega
    · refine ⟨by rw [size_put]; exact ha.size, by rw [defers_put]; exact ha.defers, fun t ht => ?_⟩
      rw [Act.eval_put (fun d hd e => ht i o ho (by cases e; exact hd))]
      exact ha.same t ht
    · intro j p hp hl e he hb
      by_cases e1 : e.on = i
      · rw [e1]; exact set_self L i
      · rw [getD_set_ne true (Ne.symm e1)]
        by_cases e2 : j = i
        · subst e2
          rw [ho] at hp; cases hp
          have hlt := hok.before j o ho e he hb
          exact up _ (by omega) (hall e he hb)
        · rw [getD_set_ne true (Ne.symm e2)] at hl
          exact hcl j p hp hl e he hb
    · intro j p t hp hl ht
      by_cases e : j = i
      · subst e
        rw [ho] at hp; cases hp
        rw [ht, eval_put_same (by rw [ha.size]; exact hok.room j o t ho ht)]
        exact hvi t ht
      · rw [Act.eval_put (fun d hd e2 => by cases e2; exact hok.apart i j o p t ho hp e hd ht)]
        rw [getD_set_ne true (Ne.symm e)] at hl
        exact (hst j p hp e (notOn j p hp hl)).1 t _ ht (hv j p t hp hl ht)
    · intro j p hp hl
      by_cases e : j = i
      · subst e; exact hUi
      · rw [getD_set_ne true (Ne.symm e)] at hl
        exact (hst j p hp e (notOn j p hp hl)).2 (hU j p hp hl)

def OweAll2 (P : Program) (md : Region.Mode) (ops : Array Oper) (Q : Exit → Act → World → Prop) (V : Tmp → Value → Γ → World → Prop) (U : Nat → Γ → World → Prop) (G : Γ → World → Prop) (a0 : Act) : Nat → List Oper → Prop
  | _, [] => True
  | k, o :: r => Owes2 P md ops Q V U G a0 k o ∧ OweAll2 P md ops Q V U G a0 (k + 1) r
theorem OweAll2.get : ∀ {l : List Oper} {k : Nat}, OweAll2 P md ops Q V U G a0 k l → ∀ (i : Nat) (o : Oper), l[i]? = some o → Owes2 P md ops Q V U G a0 (k + i) o
  | _ :: _, k, h, 0, o, hi => by cases hi; exact h.1
  | _ :: r, k, h, i + 1, o, hi => by
    have := OweAll2.get h.2 i o (by simpa using hi)
    rwa [show k + 1 + i = k + (i + 1) by omega] at this
  | [], _, _, i, o, hi => by simp at hi
theorem OweAll2.cons {k : Nat} {o : Oper} {r : List Oper} (h : Owes2 P md ops Q V U G a0 k o) (h2 : OweAll2 P md ops Q V U G a0 (k + 1) r) : OweAll2 P md ops Q V U G a0 k (o :: r) := ⟨h, h2⟩
theorem OweAll2.nil {k : Nat} : OweAll2 P md ops Q V U G a0 k [] := trivial

/-- A region that draws its order, with a ghost. -/
theorem wp_region_vals2 {id : Nat} {w : World} (γ0 : Γ) (V : Tmp → Value → Γ → World → Prop) (U : Nat → Γ → World → Prop) (G : Γ → World → Prop) (N : Nat) (hm : P.follows .mixedOrders = true) (hok : drawOk2 .any ops N = true) (hN : a0.tmps.size = N) (hG : G γ0 w.drew)
    (step : OweAll2 P .any ops Q V U G a0 0 ops.toList)
    (fin : ∀ γ a w, Agree ops a0 a → G γ w → (∀ (i : Nat) (o : Oper) (t : Tmp), ops[i]? = some o → o.dst = some t → V t (a.eval (.tmp t)) γ w) → (∀ (i : Nat) (o : Oper), ops[i]? = some o → U i γ w) → Q .normal a w) : (Code.region id ops true).wp P Q a0 w := by
  subst hN
  have hok := drawOk2_spec hok
  have hrep : ∀ (i : Nat) (o : Oper), ops[i]? = some o → (Array.replicate ops.size false).getD i true = true → False := by
    intro i o ho hl
    have hlt := (Array.getElem?_eq_some_iff.1 ho).1
    simp [hlt] at hl
  refine wp_region_any hm (wpAny_vals2 hok (V := V) (U := U) (G := G) (fun i o ho => ?_) fin ops.size γ0 _ a0 _ (unl_le _ _) (by simp) ⟨rfl, rfl, fun _ _ => rfl⟩ hG ?_ ?_ ?_)
  · have := step.get i o (by simpa using ho)
    rwa [Nat.zero_add] at this
  · intro j p hp hl; exact (hrep j p hp hl).elim
  · intro j p t hp hl; exact (hrep j p hp hl).elim
  · intro j p hp hl; exact (hrep j p hp hl).elim
/-- .. what follows it at a known frame. -/
theorem wp_region_puts2 {id : Nat} {w : World} (γ0 : Γ) (V : Tmp → Value → Γ → World → Prop) (U : Nat → Γ → World → Prop) (G : Γ → World → Prop) (N : Nat) (hm : P.follows .mixedOrders = true) (hok : drawOk2 .any ops N = true) (hN : a0.tmps.size = N) (hG : G γ0 w.drew)
    (step : OweAll2 P .any ops Q V U G a0 0 ops.toList)
    (fin : ∀ f γ w, G γ w → (∀ (i : Nat) (o : Oper) (t : Tmp), ops[i]? = some o → o.dst = some t → V t (f t) γ w) → (∀ (i : Nat) (o : Oper), ops[i]? = some o → U i γ w) → Q .normal (puts f (dsts ops) a0) w) : (Code.region id ops true).wp P Q a0 w :=
  wp_region_vals2 γ0 V U G N hm hok hN hG step (fun γ a w ha hG hv hU => by
    subst hN
    rw [agree_puts2 ha (drawOk2_spec hok).room]
    exact fin _ γ w hG hv hU)
end
end Go.Proofs.Ytdiiechkhlbkcaa

namespace Go.Proofs.Ytdiiechkhlbkcaa
open Go

section
variable {P : Program} {ops : Array Oper} {Q : Exit → Act → World → Prop} {md : Region.Mode} {Γ : Type} {V : Tmp → Value → Γ → World → Prop} {U : Nat → Γ → World → Prop} {G : Γ → World → Prop} {a0 : Act}
/-- Only operation i writes slot t. -/
def oneDst (ops : Array Oper) (i t : Nat) : Bool := (List.range ops.size).all fun j => j == i || (ops[j]?.bind (·.dst)) != some t
theorem oneDst_spec {i t j : Nat} {p : Oper} (h : oneDst ops i t = true) (hp : ops[j]? = some p) (hj : j ≠ i) : p.dst ≠ some t := by
  intro e
  have hlt := (Array.getElem?_eq_some_iff.1 hp).1
  have := List.all_eq_true.1 h j (List.mem_range.2 hlt)
  rw [hp] at this
  simp [hj, e] at this
/-- These wait for operation i. -/
def allWait (md : Region.Mode) (ops : Array Oper) (i : Nat) (J : List Nat) : Bool := J.all fun j => match ops[j]? with | some p => p.after.any (fun e => Region.binds md e && e.on == i) | none => false
theorem allWait_spec {i j : Nat} {J : List Nat} {p : Oper} (h : allWait md ops i J = true) (hp : ops[j]? = some p) (hw : ∀ e ∈ p.after, Region.binds md e = true → e.on ≠ i) : j ∉ J := by
  intro hj
  have := List.all_eq_true.1 h j hj
  rw [hp] at this
  obtain ⟨k, hk, h1⟩ := Array.any_iff_exists.1 this
  obtain ⟨_, _, h2⟩ := h1
  rw [Bool.and_eq_true, beq_iff_eq] at h2
  exact hw _ (Array.getElem_mem _) h2.1 h2.2
/-- An operation that yields a value and turns nothing. -/
theorem owes2_val {i : Nat} {o : Oper} {t : Tmp} (hi : ops[i]? = some o) (ht : o.dst = some t) (hU : ∀ γ w, U i γ w)
    (h : ∀ γ a w, Agree ops a0 a → G γ w → AllV (fun t v w => V t v γ w) a w (waits md ops o) → ∃ v, Region.wanted o (yielded ops a.tmps) = true ∧ (execOp a.eval o).run P w = .ok (.value v) w ∧ V t v γ w) : Owes2 P md ops Q V U G a0 i o := by
  intro γ a w ha hG hV _
  obtain ⟨v, hw, hr, hv⟩ := h γ a w ha hG hV
  unfold wpOp
  rw [hi]
  simp only [hw, if_true, Oper.wp, hr, Oper.upon]
  exact .inl ⟨v, γ, rfl, fun u hu => by rw [ht] at hu; cases hu; exact hv, hU _ _, hG, fun _ _ _ _ _ => ⟨fun _ _ _ h => h, fun h => h⟩⟩
/-- A call. -/
theorem owes2_call {i : Nat} {o : Oper} {t : Tmp} (hi : ops[i]? = some o) (ht : o.dst = some t) (f : FuncId) (hU : ∀ γ w, U i γ w)
    (h : ∀ γ a w, Agree ops a0 a → G γ w → AllV (fun t v w => V t v γ w) a w (waits md ops o) → ∃ args, Region.wanted o (yielded ops a.tmps) = true ∧ (execOp a.eval o).run P w = .ok (.enter f args) w ∧
      Calls P f args w fun e w' => ∃ v, e = .returned v ∧ V t v γ w' ∧ G γ w' ∧ (∀ t u, V t u γ w → V t u γ w') ∧ ∀ j, U j γ w → U j γ w') : Owes2 P md ops Q V U G a0 i o := by
  intro γ a w ha hG hV _
  obtain ⟨args, hw, hr, hc⟩ := h γ a w ha hG hV
  unfold wpOp
  rw [hi]
  simp only [hw, if_true, Oper.wp, hr, Oper.upon]
  refine .inl (hc.mono ?_)
  rintro e w' ⟨v, rfl, h1, h2, h3, h4⟩
  exact ⟨v, γ, rfl, fun u hu => by rw [ht] at hu; cases hu; exact h1, hU _ _, h2, fun j _ _ _ _ => ⟨fun t x _ hx => h3 t x hx, h4 j⟩⟩
/-- An operation that makes memory. -/
theorem owes2_mem {i : Nat} {o : Oper} {t : Tmp} (J : List Nat) (hone : oneDst ops i t = true) (hJ : allWait md ops i J = true) (hi : ops[i]? = some o) (ht : o.dst = some t)
    (h : ∀ γ a w, Agree ops a0 a → G γ w → AllV (fun t v w => V t v γ w) a w (waits md ops o) → ∃ v w' γ', Region.wanted o (yielded ops a.tmps) = true ∧ (execOp a.eval o).run P w = .ok (.value v) w' ∧ V t v γ' w' ∧ U i γ' w' ∧ G γ' w' ∧
      (∀ t' x, t' ≠ t → V t' x γ w → V t' x γ' w') ∧ ∀ j, j ∉ J → j ≠ i → U j γ w → U j γ' w') : Owes2 P md ops Q V U G a0 i o := by
  intro γ a w ha hG hV _
  obtain ⟨v, w', γ', hw, hr, h1, h2, h3, h4, h5⟩ := h γ a w ha hG hV
  unfold wpOp
  rw [hi]
  simp only [hw, if_true, Oper.wp, hr, Oper.upon]
  exact .inl ⟨v, γ', rfl, fun u hu => by rw [ht] at hu; cases hu; exact h1, h2, h3, fun j p hp hj hwt => ⟨fun t' x hd hx => h4 t' x (fun e => oneDst_spec hone hp hj (by rw [hd, e])) hx, h5 j (allWait_spec hJ hp hwt) hj⟩⟩
/-- A store. -/
theorem owes2_store {i : Nat} {o : Oper} (J : List Nat) (hJ : allWait md ops i J = true) (hi : ops[i]? = some o) (ht : o.dst = none)
    (h : ∀ γ a w, Agree ops a0 a → G γ w → AllV (fun t v w => V t v γ w) a w (waits md ops o) → ∃ w' γ', Region.wanted o (yielded ops a.tmps) = true ∧ (execOp a.eval o).run P w = .ok .skip w' ∧ U i γ' w' ∧ G γ' w' ∧
      (∀ t' x, V t' x γ w → V t' x γ' w') ∧ ∀ j, j ∉ J → j ≠ i → U j γ w → U j γ' w') : Owes2 P md ops Q V U G a0 i o := by
  intro γ a w ha hG hV _
  obtain ⟨w', γ', hw, hr, h2, h3, h4, h5⟩ := h γ a w ha hG hV
  unfold wpOp
  rw [hi]
  simp only [hw, if_true, Oper.wp, hr, Oper.upon]
  exact .inl ⟨undef, γ', rfl, fun u hu => (by rw [ht] at hu; cases hu), h2, h3, fun j p hp hj hwt => ⟨fun t' x _ hx => h4 t' x hx, h5 j (allWait_spec hJ hp hwt) hj⟩⟩
end
end Go.Proofs.Ytdiiechkhlbkcaa
