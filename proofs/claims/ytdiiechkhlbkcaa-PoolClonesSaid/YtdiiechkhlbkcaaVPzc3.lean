/- Texts 3: what the laws lean on. -/
import Derived.Test.YtdiiechkhlbkcaaVPzc2
import Derived.Test.YtdiiechkhlbkcaaRows
import Derived.WalkKit
import Derived.ProofKit
import Derived.OpenShut
import Derived.ChangeArms
import Derived.Deep.SlicePairs
namespace Go.Proofs.Ytdiiechkhlbkcaa.PI
open Go.RowKit Go.Sort Go.Proofs.Ytdiiechkhlbkcaa

set_option maxRecDepth 20000 in
set_option maxHeartbeats 1000000 in
theorem put_fits (p b : Nat) (M : Int) (L : List It) (w : World) (h : PoolAt 72 w p b M L) (hn : L.length ≤ 100000) (k : List UInt8) (hk : k.length ≤ 1000000) (r : Int) (tb : Int)
    (hf : ((putI (k, r, (Value.int .i64 tb)) L).length : Int) ≤ M) :
    Calls Try.prog 23 #[.pointer (some ⟨p, 0, none⟩), .string ⟨k.toArray⟩, .int .i64 r, (Value.int .i64 tb)] w fun e w' => e = .returned (.tuple #[.string ⟨#[]⟩, .bool false]) ∧ PoolAt 72 w' p b M (putI (k, r, (Value.int .i64 tb)) L) ∧ Mod (fun i => i = b) w w' := by
  have hset := set_any p b M L w h (by omega) k hk r (Value.int .i64 tb) rfl
  have hpp := putI_perm (k, r, (Value.int .i64 tb)) L
  have HPP := Lib.hid hpp
  have HSET := Lib.hid hset
  obtain ⟨n, hnn⟩ : ∃ n, n = (putI (k, r, (Value.int .i64 tb)) L).length := ⟨_, rfl⟩
  rw [← hnn] at hf
  have HNN := Lib.hid hnn
  clear h hn hk hset hpp hnn
  go_enter Try.func23, Try.ntmps23
  go_wp2_with fail
  refine HSET.out.mono ?_
  rintro e W1 ⟨rfl, hP1, hm1⟩
  have hP2 : PoolAt 72 W1 p b M (putI (k, r, (Value.int .i64 tb)) L) := hP1.perm HPP.out.symm
  have HP := Lib.hid hP2
  have HM := Lib.hid hm1
  have HL : Hid (∀ w', Below W1.heap.size W1 w' → Calls Try.prog 25 #[.pointer (some ⟨p, 0, none⟩)] w' fun r w'' => r = .returned (.int .i64 (n : Int)) ∧ w'' = w') := Lib.hid (by
    intro w' hb
    have := len_any p b M _ w' (HP.out.old hb)
    rw [← HNN.out] at this; exact this)
  clear hP1 hP2 hm1
  go_wp2_with fail
  refine wp_region_puts (fun t v w => VK (match t with
    | 18 => .eq (.pointer (some ⟨p, 0, none⟩))
    | 19 => .eq (.int .i64 (n : Int))
    | 20 => .eq (.pointer (some ⟨p, 0, none⟩))
    | 21 => .eq (.pointer (some ⟨p, 0, none⟩))
    | 22 => .eq (.pointer (some ⟨p, 0, none⟩))
    | 23 => .eq (.int .i64 M)
    | 24 => .eq (Value.bool true)
    | _ => .any) v w) (fun w' => Below W1.heap.size W1 w') 37 (by kernel_rfl) (by decide +kernel) rfl (Below.refl _ _).drew (by
    refine OweAll.cons (owesK rfl rfl fun a w1 ha hG hV => ?_) ?_
    · skip
      have h0 := ha.outer 0 (by decide +kernel)
      simp only [Act.eval] at h0
      exact ⟨.pointer (some ⟨p, 0, none⟩), w1, wanted_free rfl, by simp [execOp, go_sem, h0], Below.refl _ _, rfl⟩
    refine OweAll.cons (owesK_call rfl rfl 25 fun a w1 ha hG hV => ?_) ?_
    · skip
      have h18 : a.tmps.getD 18 undef = .pointer (some ⟨p, 0, none⟩) := hV.get 18 (by decide +kernel)
      refine ⟨#[.pointer (some ⟨p, 0, none⟩)], wanted_free rfl, by simp [execOp, resolve, invoke, go_sem, h18], ?_⟩
      refine (HL.out w1 hG).mono ?_
      rintro e u2 ⟨rfl, rfl⟩; exact ⟨_, rfl, rfl, Below.refl _ _⟩
    refine OweAll.cons (owesK rfl rfl fun a w1 ha hG hV => ?_) ?_
    · skip
      have h0 := ha.outer 0 (by decide +kernel)
      simp only [Act.eval] at h0
      exact ⟨.pointer (some ⟨p, 0, none⟩), w1, wanted_free rfl, by simp [execOp, go_sem, h0], Below.refl _ _, rfl⟩
    refine OweAll.cons (owesK rfl rfl fun a w1 ha hG hV => ?_) ?_
    · skip
      have h20 : a.tmps.getD 20 undef = .pointer (some ⟨p, 0, none⟩) := hV.get 20 (by decide +kernel)
      exact ⟨.pointer (some ⟨p, 0, none⟩), w1, wanted_free rfl, by simp [execOp, go_sem, h20], Below.refl _ _, rfl⟩
    refine OweAll.cons (owesK rfl rfl fun a w1 ha hG hV => ?_) ?_
    · skip
      have h21 : a.tmps.getD 21 undef = .pointer (some ⟨p, 0, none⟩) := hV.get 21 (by decide +kernel)
      exact ⟨.pointer (some ⟨p, 0, none⟩), w1, wanted_free rfl, by simp [execOp, go_sem, h21], Below.refl _ _, rfl⟩
    refine OweAll.cons (owesK rfl rfl fun a w1 ha hG hV => ?_) ?_
    · skip
      have h22 : a.tmps.getD 22 undef = .pointer (some ⟨p, 0, none⟩) := hV.get 22 (by decide +kernel)
      have cc : w1.cell? ⟨p, 0, none⟩ = some (.int .i64 M) := (HP.out.old hG).c0
      exact ⟨.int .i64 M, w1, wanted_free rfl, by simp [execOp, go_sem, h22, cc], Below.refl _ _, rfl⟩
    refine OweAll.cons (owesK rfl rfl fun a w1 ha hG hV => ?_) ?_
    · skip
      have h19 : a.tmps.getD 19 undef = .int .i64 (n : Int) := hV.get 19 (by decide +kernel)
      have h23 : a.tmps.getD 23 undef = .int .i64 M := hV.get 23 (by decide +kernel)
      exact ⟨Value.bool true, w1, wanted_free rfl, by simp [execOp, go_sem, h19, h23, hf], Below.refl _ _, rfl⟩
    exact OweAll.nil
    ) ?_
  intro f wz hG hv
  have e24 : f 24 = Value.bool true := hv 6 _ 24 rfl rfl
  rename_i hK
  refine hK _ _ ?_
  clear hK hv
  simp only [dsts, puts, List.filterMap_cons, List.filterMap_nil, List.foldl_cons, List.foldl_nil, Act.put, List.setIfInBounds_toArray, List.set_cons_succ, List.set_cons_zero, e24]
  clear e24
  have HE : Hid (Below W1.heap.size W1 wz) := Lib.hid hG
  clear hG
  go_wp2_with fail
  go_ret2
  exact ⟨rfl, HP.out.old HE.out, HM.out.trans (Mod.of_below HE.out |>.mono (fun i hi h => by omega)) (fun _ _ h => h)⟩

set_option maxRecDepth 20000 in
set_option maxHeartbeats 2000000 in
theorem put_goes (p b : Nat) (M : Int) (L : List It) (w : World) (h : PoolAt 72 w p b M L) (hn : L.length ≤ 90000) (hkL : ∀ x ∈ L, x.1.length ≤ 1000000) (hoL : ∀ x ∈ L, x.2.2.oneCell' = true) (hs : Srt L) (k : List UInt8) (hk : k.length ≤ 1000000) (r : Int) (tb : Int)
    (F : List It) (z : It) (hz : putI (k, r, (Value.int .i64 tb)) L = F ++ [z]) (hf : M < ((putI (k, r, (Value.int .i64 tb)) L).length : Int)) :
    Calls Try.prog 23 #[.pointer (some ⟨p, 0, none⟩), .string ⟨k.toArray⟩, .int .i64 r, (Value.int .i64 tb)] w fun e w' => e = .returned (.tuple #[.string ⟨z.1.toArray⟩, .bool true]) ∧ PoolAt 72 w' p b M F ∧ Mod (fun i => i = b) w w' := by
  have hset := set_any p b M L w h (by omega) k hk r (Value.int .i64 tb) rfl
  have hpp := putI_perm (k, r, (Value.int .i64 tb)) L
  have hall : ∀ x ∈ putI (k, r, (Value.int .i64 tb)) L, x.1.length ≤ 1000000 ∧ x.2.2.oneCell' = true := by
    intro x hx
    rcases List.mem_cons.1 (hpp.mem_iff.1 hx) with rfl | hx
    · exact ⟨hk, rfl⟩
    · exact ⟨hkL x (List.mem_filter.1 hx).1, hoL x (List.mem_filter.1 hx).1⟩
  have hsr := putI_srt hs (k, r, (Value.int .i64 tb))
  have hln : (putI (k, r, (Value.int .i64 tb)) L).length ≤ 100000 := by
    have := hpp.length_eq; simp at this
    have h2 : (dropL k L).length ≤ L.length := List.length_filter_le _ _
    omega
  have HPP := Lib.hid hpp
  have HSET := Lib.hid hset
  have HA := Lib.hid hall
  have HSR := Lib.hid hsr
  have HLN := Lib.hid hln
  have HZ := Lib.hid hz
  obtain ⟨n, hnn⟩ : ∃ n, n = (putI (k, r, (Value.int .i64 tb)) L).length := ⟨_, rfl⟩
  rw [← hnn] at hf
  have hf2 : ¬ (n : Int) ≤ M := by omega
  have HNN := Lib.hid hnn
  have hnF : n = F.length + 1 := by rw [hnn, hz]; simp
  have HNF := Lib.hid hnF
  clear h hn hk hset hpp hnn hall hsr hln hz hkL hoL hs hf hnF
  go_enter Try.func23, Try.ntmps23
  go_wp2_with fail
  refine HSET.out.mono ?_
  rintro e W1 ⟨rfl, hP1, hm1⟩
  have hP2 : PoolAt 72 W1 p b M (putI (k, r, (Value.int .i64 tb)) L) := hP1.perm HPP.out.symm
  have HP := Lib.hid hP2
  have HM := Lib.hid hm1
  have HL : Hid (∀ w', Below W1.heap.size W1 w' → Calls Try.prog 25 #[.pointer (some ⟨p, 0, none⟩)] w' fun r w'' => r = .returned (.int .i64 (n : Int)) ∧ w'' = w') := Lib.hid (by
    intro w' hb
    have := len_any p b M _ w' (HP.out.old hb)
    rw [← HNN.out] at this; exact this)
  clear hP1 hP2 hm1
  go_wp2_with fail
  refine wp_region_puts (fun t v w => VK (match t with
    | 18 => .eq (.pointer (some ⟨p, 0, none⟩))
    | 19 => .eq (.int .i64 (n : Int))
    | 20 => .eq (.pointer (some ⟨p, 0, none⟩))
    | 21 => .eq (.pointer (some ⟨p, 0, none⟩))
    | 22 => .eq (.pointer (some ⟨p, 0, none⟩))
    | 23 => .eq (.int .i64 M)
    | 24 => .eq (Value.bool false)
    | _ => .any) v w) (fun w' => Below W1.heap.size W1 w') 37 (by kernel_rfl) (by decide +kernel) rfl (Below.refl _ _).drew (by
    refine OweAll.cons (owesK rfl rfl fun a w1 ha hG hV => ?_) ?_
    · skip
      have h0 := ha.outer 0 (by decide +kernel)
      simp only [Act.eval] at h0
      exact ⟨.pointer (some ⟨p, 0, none⟩), w1, wanted_free rfl, by simp [execOp, go_sem, h0], Below.refl _ _, rfl⟩
    refine OweAll.cons (owesK_call rfl rfl 25 fun a w1 ha hG hV => ?_) ?_
    · skip
      have h18 : a.tmps.getD 18 undef = .pointer (some ⟨p, 0, none⟩) := hV.get 18 (by decide +kernel)
      refine ⟨#[.pointer (some ⟨p, 0, none⟩)], wanted_free rfl, by simp [execOp, resolve, invoke, go_sem, h18], ?_⟩
      refine (HL.out w1 hG).mono ?_
      rintro e u2 ⟨rfl, rfl⟩; exact ⟨_, rfl, rfl, Below.refl _ _⟩
    refine OweAll.cons (owesK rfl rfl fun a w1 ha hG hV => ?_) ?_
    · skip
      have h0 := ha.outer 0 (by decide +kernel)
      simp only [Act.eval] at h0
      exact ⟨.pointer (some ⟨p, 0, none⟩), w1, wanted_free rfl, by simp [execOp, go_sem, h0], Below.refl _ _, rfl⟩
    refine OweAll.cons (owesK rfl rfl fun a w1 ha hG hV => ?_) ?_
    · skip
      have h20 : a.tmps.getD 20 undef = .pointer (some ⟨p, 0, none⟩) := hV.get 20 (by decide +kernel)
      exact ⟨.pointer (some ⟨p, 0, none⟩), w1, wanted_free rfl, by simp [execOp, go_sem, h20], Below.refl _ _, rfl⟩
    refine OweAll.cons (owesK rfl rfl fun a w1 ha hG hV => ?_) ?_
    · skip
      have h21 : a.tmps.getD 21 undef = .pointer (some ⟨p, 0, none⟩) := hV.get 21 (by decide +kernel)
      exact ⟨.pointer (some ⟨p, 0, none⟩), w1, wanted_free rfl, by simp [execOp, go_sem, h21], Below.refl _ _, rfl⟩
    refine OweAll.cons (owesK rfl rfl fun a w1 ha hG hV => ?_) ?_
    · skip
      have h22 : a.tmps.getD 22 undef = .pointer (some ⟨p, 0, none⟩) := hV.get 22 (by decide +kernel)
      have cc : w1.cell? ⟨p, 0, none⟩ = some (.int .i64 M) := (HP.out.old hG).c0
      exact ⟨.int .i64 M, w1, wanted_free rfl, by simp [execOp, go_sem, h22, cc], Below.refl _ _, rfl⟩
    refine OweAll.cons (owesK rfl rfl fun a w1 ha hG hV => ?_) ?_
    · skip
      have h19 : a.tmps.getD 19 undef = .int .i64 (n : Int) := hV.get 19 (by decide +kernel)
      have h23 : a.tmps.getD 23 undef = .int .i64 M := hV.get 23 (by decide +kernel)
      exact ⟨Value.bool false, w1, wanted_free rfl, by simp [execOp, go_sem, h19, h23, hf2], Below.refl _ _, rfl⟩
    exact OweAll.nil
    ) ?_
  intro f wz hG hv
  have e24 : f 24 = Value.bool false := hv 6 _ 24 rfl rfl
  rename_i hK
  refine hK _ _ ?_
  clear hK hv
  simp only [dsts, puts, List.filterMap_cons, List.filterMap_nil, List.foldl_cons, List.foldl_nil, Act.put, List.setIfInBounds_toArray, List.set_cons_succ, List.set_cons_zero, e24]
  clear e24
  have HE : Hid (Below W1.heap.size W1 wz) := Lib.hid hG
  have hP3 := HP.out.old HE.out
  have hkeys := keys_any p b M _ wz hP3 HLN.out (fun x hx => (HA.out x hx).1) HSR.out
  rw [← HNN.out] at hkeys
  have HK := Lib.hid hkeys
  clear hG hP3 hkeys hf2
  go_wp2_with fail
  refine HK.out.mono ?_
  rintro e W2 ⟨q, c, rfl, hR2, hq2, hb2⟩
  have hP4 := (HP.out.old HE.out).old hb2
  have hap := apart_it hP4.2.ap
  have hzm : z ∈ putI (k, r, (Value.int .i64 tb)) L := by rw [HZ.out]; simp
  have hlast : ∃ g, q = some ⟨g, 0, none⟩ ∧ W2.cell? ⟨g, F.length, none⟩ = some (.string ⟨z.1.toArray⟩) := by
    have hFl : F.length < ((putI (k, r, (Value.int .i64 tb)) L).map (·.1)).length := by rw [List.length_map, HZ.out]; simp
    obtain ⟨bs, off, e1, _, hc⟩ := hR2.rd.str F.length hFl
    rcases hR2.shape with ⟨e, e0, _⟩ | ⟨g, e, _⟩
    · rw [e] at e1; cases e1
    · rw [e] at e1; cases e1
      refine ⟨_, e, ?_⟩
      have e2 : ((putI (k, r, (Value.int .i64 tb)) L).map (·.1))[F.length]'hFl = z.1 := by
        simp only [List.getElem_map, HZ.out]
        simp
      rw [e2, Nat.zero_add] at hc; exact hc
  obtain ⟨g, rfl, hcl⟩ := hlast
  have hdrop := drop_any p b M _ W2 hP4 z.1 (HA.out z hzm).1 (by rw [th_mem hap hzm]; exact (HA.out z hzm).2)
  have e3 : ((putI (k, r, (Value.int .i64 tb)) L).filter fun x => x.1 != z.1) = F := by have := srt_last (L := F) (x := z) (by rw [← HZ.out]; exact hap); rw [← HZ.out] at this; exact this
  rw [any_mem hzm, e3] at hdrop
  have HD := Lib.hid hdrop
  have HB := Lib.hid (HE.out.trans (hb2.mono HE.out.size))
  obtain rfl := HNF.out
  clear hR2 hq2 hb2 hP4 hap hzm hdrop e3 HK
  have j1 : ((F.length + 1 : Nat) : Int) - 1 = (F.length : Int) := by omega
  have j2 : (F.length : Int) < ((F.length + 1 : Nat) : Int) := by omega
  have j3 : (0 : Int) ≤ (F.length : Int) := by omega
  have j4 : IntKind.i64.wrap (F.length : Int) = (F.length : Int) := IntWalk.i64_in _ (by have := HLN.out; have := HNN.out; omega)
  go_wp2_with fail

  refine HD.out.mono ?_
  rintro e W3 ⟨rfl, hP5, hm5⟩
  have HP5 := Lib.hid hP5
  have HM5 := Lib.hid hm5
  clear hP5 hm5
  go_wp2_with fail
  go_ret2
  exact ⟨rfl, HP5.out, (HM.out.trans (Mod.of_below HB.out |>.mono (fun i hi h => by omega)) (fun _ _ h => h)).trans HM5.out (fun _ _ h => h)⟩
end Go.Proofs.Ytdiiechkhlbkcaa.PI

namespace Go.Proofs.Ytdiiechkhlbkcaa
open Go.RowKit

set_option maxRecDepth 20000 in
set_option maxHeartbeats 1000000 in
theorem awake_any (w : World) : Calls Try.prog 6 #[] w fun r w' => r = .returned (.bool true) ∧ Below w.heap.size w w' := by
  have H1 := Lib.hid (PI.new_any 1 w (by decide) (by decide))
  have H2 := Lib.hid (fun (p b : Nat) (w : World) h => PI.put_fits p b 1 [] w h (by decide) [98] (by decide) 2 7 (by decide))
  have H3 := Lib.hid (fun (p b : Nat) (w : World) h => PI.put_goes p b 1 (putI ([98], 2, .int .i64 7) []) w h (by decide) (by decide) (by intro x hx; have : x = ([98], 2, .int .i64 7) := (by simpa [putI, dropL, insI] using hx); rw [this]; rfl) (List.pairwise_singleton _ _) [97] (by decide) 2 8 [([97], 2, .int .i64 8)] ([98], 2, .int .i64 7) (by rfl) (by decide))
  have h4 : ∀ (p b : Nat) (w : World), PoolAt 72 w p b 1 [([97], 2, .int .i64 8)] → Calls Try.prog 24 #[.pointer (some ⟨p, 0, none⟩), .string ⟨#[97]⟩] w fun r w' => r = .returned (.tuple #[.int .i64 8, .bool true]) ∧ Below w.heap.size w w' := by
    intro p b w h
    exact PI.get_any p b 1 [([97], 2, .int .i64 8)] w h [97] (by decide) rfl
  have H4 := Lib.hid h4
  clear h4
  have H5 := Lib.hid (fun (p b : Nat) (w : World) h => PI.len_any p b 1 [([97], 2, .int .i64 8)] w h)
  go_enter Try.func6, Try.ntmps6
  go_wp2_with fail
  refine H1.out.mono ?_
  rintro r w1 ⟨p, b, rfl, hP, hb, hp1, hb1⟩
  have HP := Lib.hid hP
  have HB := Lib.hid hb
  have HL := Lib.hid (And.intro hp1 hb1)
  clear hP hb hp1 hb1
  go_wp2_with fail
  refine (H2.out p b w1 HP.out).mono ?_
  rintro r w2 ⟨rfl, hP2, hm2⟩
  have HP2 := Lib.hid hP2
  have HM2 := Lib.hid hm2
  clear hP2 hm2
  go_wp2_with fail
  refine (H3.out p b w2 HP2.out).mono ?_
  rintro r w3 ⟨rfl, hP3, hm3⟩
  have HP3 := Lib.hid hP3
  have HM3 := Lib.hid hm3
  clear hP3 hm3
  go_wp2_with fail
  refine (H4.out p b w3 HP3.out).mono ?_
  rintro r w4 ⟨rfl, hb4⟩
  have HP4 := Lib.hid (HP3.out.old hb4)
  have HB4 := Lib.hid hb4
  clear hb4
  go_wp2_with fail
  refine (H5.out p b w4 HP4.out).mono ?_
  rintro r w5 ⟨rfl, rfl⟩
  go_wp2_with fail
  go_ret
  have h1 : Below w.heap.size w w2 := HB.out.trans (HM2.out.to_below HB.out.size (by rintro k hk rfl; have := HL.out; omega))
  have h2 : Below w.heap.size w w3 := h1.trans (HM3.out.to_below h1.size (by rintro k hk rfl; have := HL.out; omega))
  exact ⟨rfl, h2.trans (HB4.out.mono h2.size)⟩
end Go.Proofs.Ytdiiechkhlbkcaa

namespace Go.Proofs.Ytdiiechkhlbkcaa
open Go.RowKit PS

/-- What waits behind Put, which key goes, does one? -/
def putM (M : Int) (x : SI) (L : List SI) : List SI × List UInt8 × Bool :=
  if ((putS x L).length : Int) ≤ M then (putS x L, [], false) else ((putS x L).dropLast, ((putS x L).getLast?.getD ([], 0, [])).1, true)
theorem putS_ne (x : SI) (L : List SI) : putS x L ≠ [] := by
  intro h
  have := insS_len x (dropS x.1 L)
  unfold putS at h
  rw [h] at this; simp at this
theorem putS_len (x : SI) (L : List SI) : (putS x L).length ≤ L.length + 1 := by
  unfold putS
  rw [insS_len]
  have := dropS_len x.1 L; omega
theorem putM_len (M : Int) (x : SI) (L : List SI) (h : (L.length : Int) ≤ M) : ((putM M x L).1.length : Int) ≤ M := by
  unfold putM
  split
  · assumption
  · have := putS_len x L
    rw [List.length_dropLast]
    omega
theorem putS_split (x : SI) (L : List SI) : putS x L = (putS x L).dropLast ++ [(putS x L).getLast?.getD ([], 0, [])] := by
  have h := putS_ne x L
  rw [List.getLast?_eq_some_getLast h]
  exact (List.dropLast_concat_getLast h).symm
theorem putS_mem {x y : SI} {L : List SI} (h : y ∈ putS x L) : y = x ∨ y ∈ L := by
  unfold putS at h
  have hp : ∀ l : List SI, y ∈ insS x l → y = x ∨ y ∈ l := by
    intro l
    induction l with
    | nil => intro h; left; simpa [insS] using h
    | cons z l ih =>
      intro h
      rw [insS] at h
      split at h
      · rcases List.mem_cons.1 h with h | h
        · exact .inl h
        · exact .inr h
      · rcases List.mem_cons.1 h with h | h
        · exact .inr (by rw [h]; simp)
        · rcases ih h with h | h
          · exact .inl h
          · exact .inr (List.mem_cons_of_mem _ h)
  rcases hp _ h with h | h
  · exact .inl h
  · exact .inr (List.mem_filter.1 h).1
theorem putM_mem {M : Int} {x y : SI} {L : List SI} (h : y ∈ (putM M x L).1) : y = x ∨ y ∈ L := by
  unfold putM at h
  split at h
  · exact putS_mem h
  · exact putS_mem ((List.dropLast_sublist _).subset h)
theorem Same.kept {w w' : World} {p b : Nat} {M : Int} {L : List SI} {S : Nat → Prop} (h : Same w p b M L) (hm : Mod S w w') (hp : ¬ S p) (hb : ¬ S b) : Same w' p b M L := ⟨h.at_.kept hm hp hb, h.srt, h.keys, h.few⟩
theorem Same.putC {w : World} {p b : Nat} {M : Int} {L : List SI} (h : Same w p b M L) (hM : (L.length : Int) ≤ M) (h64 : M ≤ 64) (k : List UInt8) (hk : k.length ≤ 1000000) (r : Int) (v : List UInt8) :
    Calls Try.prog 18 #[.pointer (some ⟨p, 0, none⟩), .string ⟨k.toArray⟩, .int .i64 r, .string ⟨v.toArray⟩] w fun e w' => e = .returned (.tuple #[.string ⟨(putM M (k, r, v) L).2.1.toArray⟩, .bool (putM M (k, r, v) L).2.2]) ∧ Same w' p b M (putM M (k, r, v) L).1 ∧ Mod (fun i => i = b) w w' := by
  have hpi : (putS (k, r, v) L).map toI = putI (k, r, .string ⟨v.toArray⟩) (L.map toI) := putS_toI _ _
  have hsrt : Srt ((putS (k, r, v) L).map toI) := by rw [hpi]; exact putI_srt h.srt _
  have hkeys : ∀ x ∈ putS (k, r, v) L, x.1.length ≤ 1000000 := by
    intro x hx
    rcases putS_mem hx with rfl | hx
    · exact hk
    · exact h.keys x hx
  have hfew : (putS (k, r, v) L).length ≤ 1000 := by have := putS_len (k, r, v) L; omega
  have hlen : (putI (k, r, .string ⟨v.toArray⟩) (L.map toI)).length = (putS (k, r, v) L).length := by rw [← hpi, List.length_map]
  unfold putM
  by_cases hf : ((putS (k, r, v) L).length : Int) ≤ M
  · rw [if_pos hf]
    refine (put_fits p b M _ w h.at_ (by rw [List.length_map]; have := h.few; omega) k hk r ⟨v.toArray⟩ (by rw [hlen]; exact hf)).mono ?_
    rintro e w' ⟨rfl, hP, hm⟩
    exact ⟨rfl, ⟨by rw [hpi]; exact hP, hsrt, hkeys, hfew⟩, hm⟩
  · rw [if_neg hf]
    have hsp := putS_split (k, r, v) L
    have hz : putI (k, r, .string ⟨v.toArray⟩) (L.map toI) = ((putS (k, r, v) L).dropLast.map toI) ++ [toI ((putS (k, r, v) L).getLast?.getD ([], 0, []))] := by
      rw [← hpi]
      conv => lhs; rw [hsp]
      rw [List.map_append]; rfl
    refine (put_goes p b M _ w h.at_ (by rw [List.length_map]; have := h.few; omega) h.keys' (by intro x hx; obtain ⟨y, _, rfl⟩ := List.mem_map.1 hx; rfl) h.srt k hk r ⟨v.toArray⟩ _ _ hz (by rw [hlen]; omega)).mono ?_
    rintro e w' ⟨rfl, hP, hm⟩
    refine ⟨rfl, ⟨hP, ?_, fun x hx => hkeys x ((List.dropLast_sublist _).subset hx), by rw [List.length_dropLast]; omega⟩, hm⟩
    rw [hsp, List.map_append] at hsrt
    exact (List.pairwise_append.1 hsrt).1
theorem hasS_toI (k : List UInt8) (L : List SI) : ((L.map toI).any fun x => x.1 == k) = hasS k L := by
  unfold hasS; rw [List.any_map]; rfl
theorem thL_str (k : List UInt8) (L : List SI) : ∃ s : ByteArray, thL k (L.map toI) (.string ⟨#[]⟩) = .string s ∧ (hasS k L = false → s = ⟨#[]⟩) := by
  unfold thL
  cases h : (L.map toI).find? fun x => x.1 == k with
  | none => exact ⟨_, rfl, fun _ => rfl⟩
  | some x =>
    have hx := List.mem_of_find?_eq_some h
    obtain ⟨y, hy, rfl⟩ := List.mem_map.1 hx
    refine ⟨_, rfl, fun hn => ?_⟩
    have h2 := List.find?_some h
    have : hasS k L = true := by unfold hasS; rw [List.any_eq_true]; exact ⟨y, hy, h2⟩
    rw [hn] at this; cases this
theorem rkL_no {k : List UInt8} {L : List SI} (h : hasS k L = false) : rkL k (L.map toI) = 0 := by
  unfold rkL
  cases h2 : (L.map toI).find? fun x => x.1 == k with
  | none => rfl
  | some x =>
    have hx := List.mem_of_find?_eq_some h2
    obtain ⟨y, hy, rfl⟩ := List.mem_map.1 hx
    have h3 := List.find?_some h2
    have : hasS k L = true := by unfold hasS; rw [List.any_eq_true]; exact ⟨y, hy, h3⟩
    rw [h] at this; cases this
theorem Same.dropC {w : World} {p b : Nat} {M : Int} {L : List SI} (h : Same w p b M L) (k : List UInt8) (hk : k.length ≤ 1000000) :
    Calls Try.prog 12 #[.pointer (some ⟨p, 0, none⟩), .string ⟨k.toArray⟩] w fun e w' => e = .returned (.bool (hasS k L)) ∧ Same w' p b M (dropS k L) ∧ Mod (fun i => i = b) w w' := by
  obtain ⟨s, hs, _⟩ := thL_str k L
  refine (drop_any p b M _ w h.at_ k hk (by rw [hs]; rfl)).mono ?_
  rintro e w' ⟨rfl, hP, hm⟩
  have e1 : (L.map toI).filter (fun x => x.1 != k) = (dropS k L).map toI := (dropS_toI k L).symm
  rw [e1] at hP
  refine ⟨by rw [hasS_toI], ⟨hP, ?_, fun x hx => h.keys x (List.mem_filter.1 hx).1, Nat.le_trans (dropS_len k L) h.few⟩, hm⟩
  rw [dropS_toI]
  exact dropL_srt h.srt k
/-- Of a key that is there, or isn't. -/
theorem Same.getC2 {w : World} {p b : Nat} {M : Int} {L : List SI} (h : Same w p b M L) (k : List UInt8) (hk : k.length ≤ 1000000) :
    Calls Try.prog 10 #[.pointer (some ⟨p, 0, none⟩), .string ⟨k.toArray⟩] w fun e w' => ∃ s : ByteArray, e = .returned (.tuple #[.string s, .bool (hasS k L)]) ∧ (hasS k L = false → s = ⟨#[]⟩) ∧ Below w.heap.size w w' := by
  obtain ⟨s, hs, hs2⟩ := thL_str k L
  refine (get_any p b M _ w h.at_ k (by simp [maxLen]; omega) (by rw [hs]; rfl)).mono ?_
  rintro e w' ⟨rfl, hb⟩
  exact ⟨s, by rw [hs, hasS_toI], hs2, hb⟩
theorem Same.rankC0 {w : World} {p b : Nat} {M : Int} {L : List SI} (h : Same w p b M L) (k : List UInt8) (hk : k.length ≤ 1000000) (hn : hasS k L = false) :
    Calls Try.prog 11 #[.pointer (some ⟨p, 0, none⟩), .string ⟨k.toArray⟩] w fun e w' => e = .returned (.int .i64 0) ∧ w' = w := by
  have := rank_any p b M _ w h.at_ k (by simp [maxLen]; omega)
  rw [rkL_no hn] at this
  exact this
theorem newS (m a M : Int) (w : World) (ha : max m 0 = a) (hM : min a 64 = M) :
    Calls Try.prog 7 #[.int .i64 m] w fun r w' => ∃ p b, r = .returned (.pointer (some ⟨p, 0, none⟩)) ∧ Same w' p b M [] ∧ Below w.heap.size w w' ∧ w.heap.size ≤ p ∧ w.heap.size ≤ b := by
  have hP : PoolAt 60 ((w.alloc (.map #[] 0)).alloc (.cells #[.int .i64 M, .map (some w.heap.size)] 60)) (w.heap.size + 1) w.heap.size M [] := by
    refine ⟨?_, ?_⟩
    · have := heap_alloc_new (w.alloc (.map #[] 0)) (.cells #[.int .i64 M, .map (some w.heap.size)] 60)
      simpa using this
    · exact (MapAt.made _ _ w).same (Below.heap_alloc _ _ _ (by simp))
  have HP := Lib.hid hP
  clear hP
  have hmk : (Instr.makeMap 58 none).run Try.prog w = .ok (.map (some w.heap.size)) (w.alloc (.map #[] 0)) := run_makeMap _ _
  go_enter Try.func7, Try.ntmps7
  go_wp2_with fail
  go_ret
  exact ⟨_, _, rfl, ⟨HP.out, List.Pairwise.nil, (fun x hx => by cases hx), Nat.zero_le _⟩, ((Below.refl _ w).alloc (Nat.le_refl _) _).alloc (by simp) _, by omega, Nat.le_refl _⟩
/-- Rows of cells aren't a map. -/
theorem Rd.mapMod {α : Type} {E : Enc α} {w w' : World} {q : Option Addr} {l : List α} {P : Program} {K : TypeId} {b : Nat} {L : List Ent} (h : Rd E w q l) (hM : MapAt P K w b L) (hm : Mod (fun i => i = b) w w') : Rd E w' q l := by
  intro j hj
  obtain ⟨bs, off, e, hlt, hc⟩ := h j hj
  have hne : bs ≠ b := by
    rintro rfl
    obtain ⟨es, ck, hh, _⟩ := hM.own
    have hk : 0 < (E.f l[j]).length := by rw [E.len]; exact E.pos
    have := hc 0 _ (List.getElem?_eq_getElem hk)
    unfold World.cell? at this
    rw [hh] at this
    cases this
  have hb := hm.block bs hlt hne
  exact ⟨bs, off, e, Nat.lt_of_lt_of_le hlt hm.size, fun i u hu => (World.cell?_of_block hb).trans (hc i u hu)⟩
end Go.Proofs.Ytdiiechkhlbkcaa

namespace Go.Proofs.Ytdiiechkhlbkcaa
open Go.ChangeShapes Go.WideShapes Go.ChangeAt Go.RowKit Go.Deep

theorem cell_block {w : World} {a : Addr} {v : Value} (h : w.cell? a = some v) : a.block < w.heap.size := by
  unfold World.cell? at h
  apply Nat.lt_of_not_le; intro hle
  rw [Array.getElem?_eq_none hle] at h
  simp at h
def i64ok (x : Int) : Prop := -9223372036854775808 ≤ x ∧ x ≤ 9223372036854775807
/-- A call: its kind, its rank, its key, its thing. -/
abbrev AC := Int × Int × List UInt8 × List UInt8
def encA : Enc AC := ⟨fun x => [.int .i64 x.1, .int .i64 x.2.1, .string ⟨x.2.2.1.toArray⟩, .string ⟨x.2.2.2.toArray⟩], 4, fun _ => rfl, fun _ v hv => by simp at hv; rcases hv with rfl | rfl | rfl | rfl <;> rfl, by decide⟩
def okA (x : AC) : Prop := i64ok x.1 ∧ i64ok x.2.1 ∧ x.2.2.1.length ≤ maxLen ∧ x.2.2.2.length ≤ maxLen
def okT (x : SI) : Prop := x.1.length ≤ maxLen ∧ i64ok x.2.1 ∧ x.2.2.length ≤ maxLen
theorem Rd.ac {w : World} {ao : Option Addr} {L : List AC} (h : Rd encA w ao L) (j : Nat) (hj : j < L.length) : ∃ bs off, ao = some ⟨bs, off, none⟩ ∧ bs < w.heap.size ∧
    w.cell? ⟨bs, off + j * 4, none⟩ = some (.int .i64 (L[j]).1) ∧ w.cell? ⟨bs, off + j * 4 + 1, none⟩ = some (.int .i64 (L[j]).2.1) ∧ w.cell? ⟨bs, off + j * 4 + 2, none⟩ = some (.string ⟨(L[j]).2.2.1.toArray⟩) ∧ w.cell? ⟨bs, off + j * 4 + 3, none⟩ = some (.string ⟨(L[j]).2.2.2.toArray⟩) := by
  obtain ⟨bs, off, e, hlt, hc⟩ := h j hj
  exact ⟨bs, off, e, hlt, hc 0 _ rfl, hc 1 _ rfl, hc 2 _ rfl, hc 3 _ rfl⟩

set_option maxRecDepth 20000 in
theorem open_acts1 {H : Type} {enc : TypeId × Value → H} {W : World} {v : Value} {fuel : Nat} {x : DataW H × List MemPlace} (hf : DataW.trod enc Try.prog W 0 (fun _ => true) true fuel 22 [v] = some x) :
    ∃ ao cap L, v = .slice ao L.length cap ∧ Rd encA W ao L ∧ (∀ s ∈ L, okA s) ∧ L.length ≤ 9223372036854775807 ∧ L.length ≤ cap := by
  have k4 : Try.prog.cellsOf 28 = 4 := by kernel_rfl
  have ki : Try.prog.cellsOf 3 = 1 := by kernel_rfl
  have ks : Try.prog.cellsOf 9 = 1 := by kernel_rfl
  rcases open_slice Try.underlying22 hf with ⟨hc, _⟩ | ⟨a', len', cap', m, n, D, Pl, hc, _, hl, hm, hmm, _, hall⟩
  · have hc2 : [v] = [Value.slice none 0 0] := hc
    simp only [List.cons.injEq, and_true] at hc2
    subst hc2
    exact ⟨none, 0, [], rfl, Rd.nil _ _, fun s hs => by simp at hs, Nat.zero_le _, Nat.le_refl _⟩
  · have hc2 : [v] = [Value.slice (some a') len' cap'] := hc
    simp only [List.cons.injEq, and_true] at hc2
    subst hc2
    simp only [if_true] at hmm
    subst hmm
    have hj : ∀ i, i < len' → ∃ s : AC, okA s ∧ W.cell? (a'.add (i * 4)) = some (.int .i64 s.1) ∧ W.cell? ((a'.add (i * 4)).add 1) = some (.int .i64 s.2.1) ∧ W.cell? ((a'.add (i * 4)).add 2) = some (.string ⟨s.2.2.1.toArray⟩) ∧ W.cell? ((a'.add (i * 4)).add 3) = some (.string ⟨s.2.2.2.toArray⟩) := by
      intro i hi
      obtain ⟨cs', h1, h2⟩ := hall i (by omega)
      rw [k4] at h1
      obtain ⟨_, hlen, hcell⟩ := World.cells?_some h1
      obtain ⟨xs, k, _, _, _, hxl, hg⟩ := DataW.trod_struct Try.underlying28 h2
      match xs, hxl, cs', hlen with
      | [y0, y1, y2, y3], _, [v0, v1, v2, v3], _ =>
        have g0 := hg 0 _ rfl
        have g1 := hg 1 _ rfl
        have g2 := hg 2 _ rfl
        have g3 := hg 3 _ rfl
        simp [ki, ks] at g0 g1 g2 g3
        obtain ⟨n0, e0, _, w0⟩ := DataW.trod_int Try.underlying3 g0
        obtain ⟨n1, e1, _, w1⟩ := DataW.trod_int Try.underlying3 g1
        obtain ⟨s2, e2, _, w2⟩ := DataW.trod_string Try.underlying9 g2
        obtain ⟨s3, e3, _, w3⟩ := DataW.trod_string Try.underlying9 g3
        simp only [List.cons.injEq, and_true] at e0 e1 e2 e3
        subst e0 e1 e2 e3
        have q0 := hcell 0 (by omega)
        rw [show ∀ z : Addr, z.add 0 = z from fun z => by unfold Addr.add; simp] at q0
        have q1 := hcell 1 (by omega)
        have q2 := hcell 2 (by omega)
        have q3 := hcell 3 (by omega)
        exact ⟨(n0, n1, s2.data.toList, s3.data.toList), ⟨bounds_i64 w0, bounds_i64 w1, w2, w3⟩, by simpa using q0, by simpa using q1, by simpa using q2, by simpa using q3⟩
    obtain ⟨f, hf2⟩ := choose_lt hj
    refine ⟨some a', m, (List.range len').map f, by simp, ?_, ?_, by simp; unfold maxLen at hm; omega, by simpa using hl⟩
    · intro j hjl
      have hjn : j < len' := by simpa using hjl
      obtain ⟨bs, off, spot⟩ := a'
      obtain ⟨ho, c0, c1, c2, c3⟩ := hf2 j hjn
      have hspot : spot = none := by simpa [Addr.add] using World.cell?_spot (hf2 0 (by omega)).2.1
      subst hspot
      refine ⟨bs, off, rfl, by have := cell_block c0; simpa [Addr.add_lit] using this, fun i u hu => ?_⟩
      rw [List.getElem_map, List.getElem_range] at hu
      have hi : i < 4 := by have := (List.getElem?_eq_some_iff.1 hu).1; simpa [encA] using this
      match i, hi with
      | 0, _ => simp [encA] at hu; subst hu; simpa [Addr.add_lit, encA] using c0
      | 1, _ => simp [encA] at hu; subst hu; simpa [Addr.add_lit, encA] using c1
      | 2, _ => simp [encA] at hu; subst hu; simpa [Addr.add_lit, encA] using c2
      | 3, _ => simp [encA] at hu; subst hu; simpa [Addr.add_lit, encA] using c3
    · intro s hs
      obtain ⟨i, hi, rfl⟩ := List.mem_map.1 hs
      exact (hf2 i (List.mem_range.1 hi)).1
theorem open_acts {H : Type} {enc : TypeId × Value → H} {W : World} {base : Nat} {v : Value} {d : DataW H} {ps : List MemPlace} (_hval : Value.okWide Try.prog W .any base 22 v) (h : DataW.Trod enc Try.prog W 0 (fun _ => true) true 22 v d ps) :
    ∃ ao cap L, v = .slice ao L.length cap ∧ Rd encA W ao L ∧ (∀ s ∈ L, okA s) ∧ L.length ≤ 9223372036854775807 ∧ L.length ≤ cap := by
  obtain ⟨a, len, cap, rfl⟩ := okWide_slice Try.underlying22 _hval
  obtain ⟨fuel, hf⟩ := h
  exact open_acts1 (by simpa [Value.cells] using hf)

set_option maxRecDepth 20000 in
theorem open_items {H : Type} {enc : TypeId × Value → H} {W : World} {base : Nat} {v : Value} {d : DataW H} {ps : List MemPlace} (_hval : Value.okWide Try.prog W .any base 26 v) (h : DataW.Trod enc Try.prog W 0 (fun _ => true) true 26 v d ps) :
    ∃ ao cap L, v = .slice ao L.length cap ∧ Rd encT W ao L ∧ (∀ s ∈ L, okT s) ∧ L.length ≤ 9223372036854775807 ∧ L.length ≤ cap := by
  obtain ⟨a, len, cap, rfl⟩ := okWide_slice Try.underlying26 _hval
  obtain ⟨fuel, hf⟩ := h
  have k3 : Try.prog.cellsOf 38 = 3 := by kernel_rfl
  have ki : Try.prog.cellsOf 3 = 1 := by kernel_rfl
  have ks : Try.prog.cellsOf 9 = 1 := by kernel_rfl
  rcases open_slice Try.underlying26 hf with ⟨hc, _⟩ | ⟨a', len', cap', m, n, D, Pl, hc, _, hl, hm, hmm, _, hall⟩
  · have hc2 : [Value.slice a len cap] = [Value.slice none 0 0] := hc
    simp only [List.cons.injEq, Value.slice.injEq, and_true] at hc2
    obtain ⟨rfl, rfl, rfl⟩ := hc2
    exact ⟨none, 0, [], rfl, Rd.nil _ _, fun s hs => by simp at hs, Nat.zero_le _, Nat.le_refl _⟩
  · have hc2 : [Value.slice a len cap] = [Value.slice (some a') len' cap'] := hc
    simp only [List.cons.injEq, Value.slice.injEq, and_true] at hc2
    obtain ⟨rfl, rfl, rfl⟩ := hc2
    simp only [if_true] at hmm
    subst hmm
    have hj : ∀ i, i < len → ∃ s : SI, okT s ∧ W.cell? (a'.add (i * 3)) = some (.string ⟨s.1.toArray⟩) ∧ W.cell? ((a'.add (i * 3)).add 1) = some (.int .i64 s.2.1) ∧ W.cell? ((a'.add (i * 3)).add 2) = some (.string ⟨s.2.2.toArray⟩) := by
      intro i hi
      obtain ⟨cs', h1, h2⟩ := hall i (by omega)
      rw [k3] at h1
      obtain ⟨_, hlen, hcell⟩ := World.cells?_some h1
      obtain ⟨xs, k, _, _, _, hxl, hg⟩ := DataW.trod_struct Try.underlying38 h2
      match xs, hxl, cs', hlen with
      | [y0, y1, y2], _, [v0, v1, v2], _ =>
        have g0 := hg 0 _ rfl
        have g1 := hg 1 _ rfl
        have g2 := hg 2 _ rfl
        simp [ki, ks] at g0 g1 g2
        obtain ⟨s0, e0, _, w0⟩ := DataW.trod_string Try.underlying9 g0
        obtain ⟨n1, e1, _, w1⟩ := DataW.trod_int Try.underlying3 g1
        obtain ⟨s2, e2, _, w2⟩ := DataW.trod_string Try.underlying9 g2
        simp only [List.cons.injEq, and_true] at e0 e1 e2
        subst e0 e1 e2
        have q0 := hcell 0 (by omega)
        rw [show ∀ z : Addr, z.add 0 = z from fun z => by unfold Addr.add; simp] at q0
        have q1 := hcell 1 (by omega)
        have q2 := hcell 2 (by omega)
        exact ⟨(s0.data.toList, n1, s2.data.toList), ⟨w0, bounds_i64 w1, w2⟩, by simpa using q0, by simpa using q1, by simpa using q2⟩
    obtain ⟨f, hf2⟩ := choose_lt hj
    refine ⟨some a', m, (List.range len).map f, by simp, ?_, ?_, by simp; unfold maxLen at hm; omega, by simpa using hl⟩
    · intro j hjl
      have hjn : j < len := by simpa using hjl
      obtain ⟨bs, off, spot⟩ := a'
      obtain ⟨ho, c0, c1, c2⟩ := hf2 j hjn
      have hspot : spot = none := by simpa [Addr.add] using World.cell?_spot (hf2 0 (by omega)).2.1
      subst hspot
      refine ⟨bs, off, rfl, by have := cell_block c0; simpa [Addr.add_lit] using this, fun i u hu => ?_⟩
      rw [List.getElem_map, List.getElem_range] at hu
      have hi : i < 3 := by have := (List.getElem?_eq_some_iff.1 hu).1; simpa [encT] using this
      match i, hi with
      | 0, _ => simp [encT] at hu; subst hu; simpa [Addr.add_lit, encT] using c0
      | 1, _ => simp [encT] at hu; subst hu; simpa [Addr.add_lit, encT] using c1
      | 2, _ => simp [encT] at hu; subst hu; simpa [Addr.add_lit, encT] using c2
    · intro s hs
      obtain ⟨i, hi, rfl⟩ := List.mem_map.1 hs
      exact (hf2 i (List.mem_range.1 hi)).1
end Go.Proofs.Ytdiiechkhlbkcaa

namespace Go.Proofs.Ytdiiechkhlbkcaa
open Go.RowKit PS

/-- What waits behind a call: of kind 2 a key goes, else it is put. -/
def actS (M : Int) (L : List SI) (a : AC) : List SI := if a.1 = 2 then dropS (a.2.2.1.take 4) L else (putM M (a.2.2.1.take 4, a.2.1, a.2.2.2) L).1
def playS (M : Int) (L : List SI) (A : List AC) : List SI := A.foldl (actS M) L
theorem playS_succ (M : Int) (L : List SI) (A : List AC) (i : Nat) (h : i < A.length) : playS M L (A.take (i + 1)) = actS M (playS M L (A.take i)) A[i] := by
  unfold playS; rw [List.take_succ_eq_append_getElem h, List.foldl_append]; rfl
theorem actS_len (M : Int) (L : List SI) (a : AC) (h : (L.length : Int) ≤ M) : ((actS M L a).length : Int) ≤ M := by
  unfold actS
  split
  · have := dropS_len (a.2.2.1.take 4) L; omega
  · exact putM_len M _ L h
theorem playS_len (M : Int) (A : List AC) : ∀ (L : List SI), (L.length : Int) ≤ M → ((playS M L A).length : Int) ≤ M := by
  induction A with
  | nil => intro L h; exact h
  | cons a A ih => intro L h; exact ih _ (actS_len M L a h)

set_option maxRecDepth 20000 in
set_option maxHeartbeats 4000000 in
theorem play_any (p b : Nat) (M : Int) (L : List SI) (ao : Option Addr) (c : Nat) (A : List AC) (w : World) (h : Same w p b M L) (hM : (L.length : Int) ≤ M) (h64 : M ≤ 64) (hA : Rd encA w ao A) (hok : ∀ a ∈ A, okA a) (hn : A.length ≤ 9223372036854775807) :
    Calls Try.prog 20 #[.pointer (some ⟨p, 0, none⟩), .slice ao A.length c] w fun r w' => r = .returned (.tuple #[]) ∧ Same w' p b M (playS M L (A.take 20)) ∧ Mod (fun i => i = b) w w' := by
  obtain ⟨n, hnA⟩ : ∃ n, n = A.length := ⟨_, rfl⟩
  have h63 : (n : Int) ≤ 9223372036854775807 := by omega
  rw [← hnA]
  have HN := Lib.hid hnA
  have HA := Lib.hid hA
  have HOK := Lib.hid hok
  have HM := Lib.hid hM
  have H64 := Lib.hid h64
  have HP := Lib.hid h
  have HST : Hid (∀ i (h : i < A.length), playS M L (A.take (i + 1)) = actS M (playS M L (A.take i)) A[i]) := Lib.hid (playS_succ M L A)
  have H0 : Hid (Same w p b M (playS M L (A.take 0)) ∧ Mod (fun i => i = b) w w) := Lib.hid ⟨h, Mod.refl _ _⟩
  clear hnA hA hok hM h64 h hn
  go_enter Try.func20, Try.ntmps20
  go_wp2_with fail
  go_loopw [4] (fun s4 wr => ∃ i : Nat, i ≤ n ∧ i ≤ 20 ∧ s4 = .int .i64 (i : Int) ∧ Hid (Same wr p b M (playS M L (A.take i)) ∧ Mod (fun i => i = b) w wr)) (fun i _ => n - (intOf i).toNat)
  case atStart => exact ⟨0, Nat.zero_le _, Nat.zero_le _, rfl, H0⟩
  case round =>
    obtain ⟨i, hi, hi20, rfl, HR⟩ := hrel
    by_cases hin : i < n ∧ i < 20
    · obtain ⟨hin, hi2⟩ := hin
      have hil : i < A.length := by rw [← HN.out]; exact hin
      obtain ⟨bs, off, rfl, hbs, c0, c1, c2, c3⟩ := (HA.out.mapMod HP.out.at_.2 HR.out.2).ac i hil
      have hnx := HST.out i hil
      have hka := HOK.out A[i] (List.getElem_mem hil)
      obtain ⟨y, hy⟩ : ∃ y, y = A[i] := ⟨_, rfl⟩
      rw [← hy] at c0 c1 c2 c3 hnx hka
      obtain ⟨ad, ar, ak, av⟩ := y
      simp only at c0 c1 c2 c3
      obtain ⟨D, hD⟩ : ∃ D, D = playS M L (A.take i) := ⟨_, rfl⟩
      rw [← hD] at HR hnx
      have hDM : (D.length : Int) ≤ M := by rw [hD]; exact playS_len M _ L HM.out
      have i0 : (0 : Int) ≤ i := by omega
      have i1 : (i : Int) < n := by omega
      have i2 : (i : Int) < 20 := by omega
      have HCUT : Hid (∀ w1, Calls Try.prog 8 #[.string ⟨ak.toArray⟩, .int .i64 4] w1 fun r w' => r = .returned (.string ⟨(ak.take 4).toArray⟩) ∧ w' = w1) := Lib.hid (fun w1 => cut_any ak 4 w1 hka.2.2.1 (by decide))
      have hk4 : (ak.take 4).length ≤ 1000000 := by rw [List.length_take]; omega
      by_cases hd : ad = 2
      · subst hd
        have HNX : Hid (playS M L (A.take (i + 1)) = dropS (ak.take 4) D) := Lib.hid (by rw [hnx]; rfl)
        have HDR := Lib.hid (HR.out.1.dropC (ak.take 4) hk4)
        clear hil hnx hka hy hD hDM hin hi2 hk4
        go_wp2_with fail
        refine (HCUT.out wr).mono ?_
        rintro e w1 ⟨rfl, rfl⟩
        go_wp2_with fail
        refine HDR.out.mono ?_
        rintro e w2 ⟨rfl, hS, hm⟩
        have HS := Lib.hid hS
        have HMM := Lib.hid (HR.out.2.trans hm (fun _ _ h => h))
        clear hS hm HDR HR
        go_wp2_with fail
        go_roundw
        case rel => exact ⟨i + 1, by omega, by omega, by go_num, Lib.hid ⟨by rw [HNX.out]; exact HS.out, HMM.out⟩⟩
        case measure => simp [intOf]; omega
      · have hde : (ad == 2) = false := by simpa using hd
        have HNX : Hid (playS M L (A.take (i + 1)) = (putM M (ak.take 4, ar, av) D).1) := Lib.hid (by rw [hnx]; unfold actS; rw [if_neg hd])
        have HPUT : Hid (∀ w1, Below wr.heap.size wr w1 → Calls Try.prog 18 #[.pointer (some ⟨p, 0, none⟩), .string ⟨(ak.take 4).toArray⟩, .int .i64 ar, .string ⟨av.toArray⟩] w1 fun e w' => e = .returned (.tuple #[.string ⟨(putM M (ak.take 4, ar, av) D).2.1.toArray⟩, .bool (putM M (ak.take 4, ar, av) D).2.2]) ∧ Same w' p b M (putM M (ak.take 4, ar, av) D).1 ∧ Mod (fun i => i = b) w1 w') := Lib.hid (fun w1 hb => (HR.out.1.old hb).putC hDM H64.out (ak.take 4) hk4 ar av)
        have HBS := Lib.hid hbs
        have HC1 := Lib.hid c1
        have HC2 := Lib.hid c2
        have HC3 := Lib.hid c3
        have ksz : (Try.prog.info? 28).map (·.size) = some 4 := by kernel_rfl
        clear hil hnx hka hy hD hDM hin hi2 hk4 hd
        go_wp2_with fail
        have HG0 : Hid ((fun (j : Nat) (_ : Value) (w' : World) => (j = 0 → Below wr.heap.size wr w') ∧ (j = 1 → Same w' p b M (putM M (ak.take 4, ar, av) D).1 ∧ Mod (fun i => i = b) wr w')) 0 undef wr.drew) := Lib.hid ⟨(fun _ => (Below.refl _ _).drew), (fun h => absurd h (by omega))⟩
        refine wp_region_chain (fun t v => match t with
          | 29 => v = .pointer (some ⟨p, 0, none⟩)
          | 30 => v = .slice (some ⟨bs, off, none⟩) n c
          | 31 => v = .int .i64 (i : Int)
          | 32 => v = .pointer (some ⟨bs, off + i * 4, none⟩)
          | 33 => v = .pointer (some ⟨bs, off + i * 4 + 2, none⟩)
          | 34 => v = .string ⟨ak.toArray⟩
          | 35 => v = .string ⟨(ak.take 4).toArray⟩
          | 36 => v = .slice (some ⟨bs, off, none⟩) n c
          | 37 => v = .int .i64 (i : Int)
          | 38 => v = .pointer (some ⟨bs, off + i * 4, none⟩)
          | 39 => v = .pointer (some ⟨bs, off + i * 4 + 1, none⟩)
          | 40 => v = .int .i64 ar
          | 41 => v = .slice (some ⟨bs, off, none⟩) n c
          | 42 => v = .int .i64 (i : Int)
          | 43 => v = .pointer (some ⟨bs, off + i * 4, none⟩)
          | 44 => v = .pointer (some ⟨bs, off + i * 4 + 3, none⟩)
          | 45 => v = .string ⟨av.toArray⟩
          | 46 => v = .tuple #[.string ⟨(putM M (ak.take 4, ar, av) D).2.1.toArray⟩, .bool (putM M (ak.take 4, ar, av) D).2.2]
          | _ => True) (fun (j : Nat) (_ : Value) (w' : World) => (j = 0 → Below wr.heap.size wr w') ∧ (j = 1 → Same w' p b M (putM M (ak.take 4, ar, av) D).1 ∧ Mod (fun i => i = b) wr w')) [17] 47 (by kernel_rfl) (by decide +kernel) rfl (by decide +kernel) (by decide) (by decide) HG0.out (by
          refine OweAllC.cons (owesC_val 0 (by decide +kernel) (by decide) rfl rfl fun k' a w1 x hk ha hG hV => ?_) ?_
          · skip
            have h0 := ha.outer 0 (by decide +kernel)
            simp only [Act.eval] at h0
            exact ⟨.pointer (some ⟨p, 0, none⟩), wanted_free rfl, by simp [execOp, go_sem, h0], rfl⟩
          refine OweAllC.cons (owesC_val 0 (by decide +kernel) (by decide) rfl rfl fun k' a w1 x hk ha hG hV => ?_) ?_
          · skip
            have h1 := ha.outer 1 (by decide +kernel)
            simp only [Act.eval] at h1
            exact ⟨.slice (some ⟨bs, off, none⟩) n c, wanted_free rfl, by simp [execOp, go_sem, h1], rfl⟩
          refine OweAllC.cons (owesC_val 0 (by decide +kernel) (by decide) rfl rfl fun k' a w1 x hk ha hG hV => ?_) ?_
          · skip
            have h4 := ha.outer 4 (by decide +kernel)
            simp only [Act.eval] at h4
            exact ⟨.int .i64 (i : Int), wanted_free rfl, by simp [execOp, go_sem, h4], rfl⟩
          refine OweAllC.cons (owesC_val 0 (by decide +kernel) (by decide) rfl rfl fun k' a w1 x hk ha hG hV => ?_) ?_
          · skip
            have h30 : a.tmps.getD 30 undef = .slice (some ⟨bs, off, none⟩) n c := hV.get 30 (by decide +kernel)
            have h31 : a.tmps.getD 31 undef = .int .i64 (i : Int) := hV.get 31 (by decide +kernel)
            exact ⟨.pointer (some ⟨bs, off + i * 4, none⟩), wanted_free rfl, by simp [execOp, go_sem, h30, h31, Try.underlying22, i0, i1, ksz], rfl⟩
          refine OweAllC.cons (owesC_val 0 (by decide +kernel) (by decide) rfl rfl fun k' a w1 x hk ha hG hV => ?_) ?_
          · skip
            have h32 : a.tmps.getD 32 undef = .pointer (some ⟨bs, off + i * 4, none⟩) := hV.get 32 (by decide +kernel)
            exact ⟨.pointer (some ⟨bs, off + i * 4 + 2, none⟩), wanted_free rfl, by simp [execOp, go_sem, h32], rfl⟩
          refine OweAllC.cons (owesC_val 0 (by decide +kernel) (by decide) rfl rfl fun k' a w1 x hk ha hG hV => ?_) ?_
          · skip
            have h33 : a.tmps.getD 33 undef = .pointer (some ⟨bs, off + i * 4 + 2, none⟩) := hV.get 33 (by decide +kernel)
            have cc := (World.cell?_of_block ((hG.1 (by omega)).block bs HBS.out)).trans HC2.out
            exact ⟨.string ⟨ak.toArray⟩, wanted_free rfl, by simp [execOp, go_sem, h33, cc], rfl⟩
          refine OweAllC.cons (owesC_side 0 (by decide +kernel) (by decide) rfl rfl 8 fun k' a w1 x hk ha hG hV => ?_) ?_
          · skip
            have h34 : a.tmps.getD 34 undef = .string ⟨ak.toArray⟩ := hV.get 34 (by decide +kernel)
            refine ⟨#[.string ⟨ak.toArray⟩, .int .i64 4], wanted_free rfl, by simp [execOp, resolve, invoke, go_sem, h34], ?_⟩
            refine (HCUT.out w1).mono ?_
            rintro e u2 ⟨rfl, rfl⟩; exact ⟨_, rfl, rfl, hG⟩
          refine OweAllC.cons (owesC_val 0 (by decide +kernel) (by decide) rfl rfl fun k' a w1 x hk ha hG hV => ?_) ?_
          · skip
            have h1 := ha.outer 1 (by decide +kernel)
            simp only [Act.eval] at h1
            exact ⟨.slice (some ⟨bs, off, none⟩) n c, wanted_free rfl, by simp [execOp, go_sem, h1], rfl⟩
          refine OweAllC.cons (owesC_val 0 (by decide +kernel) (by decide) rfl rfl fun k' a w1 x hk ha hG hV => ?_) ?_
          · skip
            have h4 := ha.outer 4 (by decide +kernel)
            simp only [Act.eval] at h4
            exact ⟨.int .i64 (i : Int), wanted_free rfl, by simp [execOp, go_sem, h4], rfl⟩
          refine OweAllC.cons (owesC_val 0 (by decide +kernel) (by decide) rfl rfl fun k' a w1 x hk ha hG hV => ?_) ?_
          · skip
            have h36 : a.tmps.getD 36 undef = .slice (some ⟨bs, off, none⟩) n c := hV.get 36 (by decide +kernel)
            have h37 : a.tmps.getD 37 undef = .int .i64 (i : Int) := hV.get 37 (by decide +kernel)
            exact ⟨.pointer (some ⟨bs, off + i * 4, none⟩), wanted_free rfl, by simp [execOp, go_sem, h36, h37, Try.underlying22, i0, i1, ksz], rfl⟩
          refine OweAllC.cons (owesC_val 0 (by decide +kernel) (by decide) rfl rfl fun k' a w1 x hk ha hG hV => ?_) ?_
          · skip
            have h38 : a.tmps.getD 38 undef = .pointer (some ⟨bs, off + i * 4, none⟩) := hV.get 38 (by decide +kernel)
            exact ⟨.pointer (some ⟨bs, off + i * 4 + 1, none⟩), wanted_free rfl, by simp [execOp, go_sem, h38], rfl⟩
          refine OweAllC.cons (owesC_val 0 (by decide +kernel) (by decide) rfl rfl fun k' a w1 x hk ha hG hV => ?_) ?_
          · skip
            have h39 : a.tmps.getD 39 undef = .pointer (some ⟨bs, off + i * 4 + 1, none⟩) := hV.get 39 (by decide +kernel)
            have cc := (World.cell?_of_block ((hG.1 (by omega)).block bs HBS.out)).trans HC1.out
            exact ⟨.int .i64 ar, wanted_free rfl, by simp [execOp, go_sem, h39, cc], rfl⟩
          refine OweAllC.cons (owesC_val 0 (by decide +kernel) (by decide) rfl rfl fun k' a w1 x hk ha hG hV => ?_) ?_
          · skip
            have h1 := ha.outer 1 (by decide +kernel)
            simp only [Act.eval] at h1
            exact ⟨.slice (some ⟨bs, off, none⟩) n c, wanted_free rfl, by simp [execOp, go_sem, h1], rfl⟩
          refine OweAllC.cons (owesC_val 0 (by decide +kernel) (by decide) rfl rfl fun k' a w1 x hk ha hG hV => ?_) ?_
          · skip
            have h4 := ha.outer 4 (by decide +kernel)
            simp only [Act.eval] at h4
            exact ⟨.int .i64 (i : Int), wanted_free rfl, by simp [execOp, go_sem, h4], rfl⟩
          refine OweAllC.cons (owesC_val 0 (by decide +kernel) (by decide) rfl rfl fun k' a w1 x hk ha hG hV => ?_) ?_
          · skip
            have h41 : a.tmps.getD 41 undef = .slice (some ⟨bs, off, none⟩) n c := hV.get 41 (by decide +kernel)
            have h42 : a.tmps.getD 42 undef = .int .i64 (i : Int) := hV.get 42 (by decide +kernel)
            exact ⟨.pointer (some ⟨bs, off + i * 4, none⟩), wanted_free rfl, by simp [execOp, go_sem, h41, h42, Try.underlying22, i0, i1, ksz], rfl⟩
          refine OweAllC.cons (owesC_val 0 (by decide +kernel) (by decide) rfl rfl fun k' a w1 x hk ha hG hV => ?_) ?_
          · skip
            have h43 : a.tmps.getD 43 undef = .pointer (some ⟨bs, off + i * 4, none⟩) := hV.get 43 (by decide +kernel)
            exact ⟨.pointer (some ⟨bs, off + i * 4 + 3, none⟩), wanted_free rfl, by simp [execOp, go_sem, h43], rfl⟩
          refine OweAllC.cons (owesC_val 0 (by decide +kernel) (by decide) rfl rfl fun k' a w1 x hk ha hG hV => ?_) ?_
          · skip
            have h44 : a.tmps.getD 44 undef = .pointer (some ⟨bs, off + i * 4 + 3, none⟩) := hV.get 44 (by decide +kernel)
            have cc := (World.cell?_of_block ((hG.1 (by omega)).block bs HBS.out)).trans HC3.out
            exact ⟨.string ⟨av.toArray⟩, wanted_free rfl, by simp [execOp, go_sem, h44, cc], rfl⟩
          refine OweAllC.cons (owesC_call 0 rfl rfl rfl 18 fun a w1 x ha hG hx hV => ?_) ?_
          · skip
            have h29 : a.tmps.getD 29 undef = .pointer (some ⟨p, 0, none⟩) := hV.get 29 (by decide +kernel)
            have h35 : a.tmps.getD 35 undef = .string ⟨(ak.take 4).toArray⟩ := hV.get 35 (by decide +kernel)
            have h40 : a.tmps.getD 40 undef = .int .i64 ar := hV.get 40 (by decide +kernel)
            have h45 : a.tmps.getD 45 undef = .string ⟨av.toArray⟩ := hV.get 45 (by decide +kernel)
            have hb := hG.1 (by omega)
            refine ⟨#[.pointer (some ⟨p, 0, none⟩), .string ⟨(ak.take 4).toArray⟩, .int .i64 ar, .string ⟨av.toArray⟩], wanted_free rfl, by simp [execOp, resolve, invoke, go_sem, h29, h35, h40, h45], ?_⟩
            refine (HPUT.out w1 hb).mono ?_
            rintro e u2 ⟨rfl, hS, hm⟩
            exact ⟨_, rfl, rfl, (fun h => absurd h (by omega)), fun _ => ⟨hS, (Mod.of_below hb |>.mono (fun i hi h => by omega)).trans hm (fun _ _ h => h)⟩⟩
          exact OweAllC.nil
          ) ?_
        intro f wz xz hG hx hv
        first | (rename_i hK; refine hK _ _ ?_; clear hK) | (rename_i hK _; refine hK _ _ ?_; clear hK) | (rename_i hK _ _; refine hK _ _ ?_; clear hK) | (rename_i hK _ _ _; refine hK _ _ ?_; clear hK)
        clear hv hx
        simp only [dsts, puts, List.filterMap_cons, List.filterMap_nil, List.foldl_cons, List.foldl_nil, Act.put, List.setIfInBounds_toArray, List.set_cons_succ, List.set_cons_zero]
        have HE := Lib.hid (hG.2 rfl)
        clear hG ksz
        go_wp2_with fail
        go_roundw
        case rel => exact ⟨i + 1, by omega, by omega, by go_num, Lib.hid ⟨by rw [HNX.out]; exact HE.out.1, HR.out.2.trans HE.out.2 (fun _ _ h => h)⟩⟩
        case measure => simp [intOf]; omega
    · have HF : Hid (Same wr p b M (playS M L (A.take 20)) ∧ Mod (fun i => i = b) w wr) := Lib.hid (by
        by_cases h20 : i = 20
        · subst h20; exact HR.out
        · have e : i = n := by omega
          have e1 : A.take 20 = A.take i := by rw [List.take_of_length_le (by rw [← HN.out]; omega), List.take_of_length_le (by rw [← HN.out]; omega)]
          rw [e1]; exact HR.out)
      by_cases hn2 : i < n
      · obtain rfl : i = 20 := by omega
        have i1 : ((20 : Nat) : Int) < n := by omega
        clear hin
        go_wp2_with fail
        go_end0
        exact ⟨rfl, HF.out⟩
      · obtain rfl : i = n := by omega
        clear hin
        go_wp2_with fail
        go_end0
        exact ⟨rfl, HF.out⟩
end Go.Proofs.Ytdiiechkhlbkcaa

namespace Go.Proofs.Ytdiiechkhlbkcaa
open Go.RowKit PS

structure Arg (w : World) (ao : Option Addr) (A : List AC) : Prop where
  r : Rd encA w ao A
  ok : ∀ a ∈ A, okA a
  n : A.length ≤ 9223372036854775807
theorem Arg.old {w w' : World} {ao : Option Addr} {A : List AC} (h : Arg w ao A) (hb : Below w.heap.size w w') : Arg w' ao A := ⟨h.r.old hb, h.ok, h.n⟩
/-- The closure, where what has turned is new. -/
theorem play_new {p b : Nat} {M : Int} {L : List SI} {ao : Option Addr} {c : Nat} {A : List AC} {w0 w : World} (h : Same w p b M L) (hM : (L.length : Int) ≤ M) (h64 : M ≤ 64) (hA : Arg w0 ao A) (hb : Below w0.heap.size w0 w) :
    Calls Try.prog 20 #[.pointer (some ⟨p, 0, none⟩), .slice ao A.length c] w fun r w' => r = .returned (.tuple #[]) ∧ Same w' p b M (playS M L (A.take 20)) ∧ Mod (fun i => i = b) w w' :=
  play_any p b M L ao c A w h hM h64 (hA.r.old hb) hA.ok hA.n

set_option maxRecDepth 20000 in
set_option maxHeartbeats 8000000 in
theorem clones_walk (most : Int) (a0 : Option Addr) (c0 : Nat) (A0 : List AC) (a1 : Option Addr) (c1 : Nat) (A1 : List AC) (a2 : Option Addr) (c2 : Nat) (A2 : List AC) (w : World) (h0 : Arg w a0 A0) (h1 : Arg w a1 A1) (h2 : Arg w a2 A2) :
    Calls Try.prog 5 #[.agg #[.int .i64 most, .slice a0 A0.length c0, .slice a1 A1.length c1, .slice a2 A2.length c2]] w fun e w' => e = .returned (.bool true) ∧ Below w.heap.size w w' := by
  obtain ⟨m1, e1⟩ : ∃ m, min most 20 = m := ⟨_, rfl⟩
  obtain ⟨M, e2⟩ : ∃ m, max 0 m1 = m := ⟨_, rfl⟩
  have hM0 : 0 ≤ M := by omega
  have hM20 : M ≤ 20 := by omega
  have E0 : Hid (max M 0 = M ∧ min M 64 = M ∧ 0 ≤ M ∧ M ≤ 64) := Lib.hid (by omega)
  have H0 := Lib.hid h0
  have H1 := Lib.hid h1
  have H2 := Lib.hid h2
  obtain ⟨W, hW⟩ : ∃ W, W = w.alloc (.cells #[.int .i64 most, .slice a0 A0.length c0, .slice a1 A1.length c1, .slice a2 A2.length c2] 48) := ⟨_, rfl⟩
  have hbW : Below w.heap.size w W := by rw [hW]; exact (Below.refl _ _).alloc (Nat.le_refl _) _
  have hgW : W.heap[w.heap.size]? = some (.cells #[.int .i64 most, .slice a0 A0.length c0, .slice a1 A1.length c1, .slice a2 A2.length c2] 48 (0, 0)) := by rw [hW]; exact heap_alloc_new w _
  have HBW := Lib.hid hbW
  have HGW := Lib.hid hgW
  have HAW := Lib.hid (awake_any W)
  clear h0 h1 h2 hM0 hM20 hbW hgW
  go_enter Try.func5, Try.ntmps5
  go_wp2_with fail
  rw [← hW]
  clear hW
  refine HAW.out.mono ?_
  rintro r w1 ⟨rfl, hb1⟩
  have hg1 := (hb1.block w.heap.size (Array.getElem?_eq_some_iff.1 HGW.out).1).trans HGW.out
  have HB1 := Lib.hid (HBW.out.trans (hb1.mono HBW.out.size))
  have k0 : w1.cell? ⟨w.heap.size, 0, none⟩ = some (.int .i64 most) := by unfold World.cell?; rw [hg1]; rfl
  have k1 : w1.cell? ⟨w.heap.size, 1, none⟩ = some (.slice a0 A0.length c0) := by unfold World.cell?; rw [hg1]; rfl
  have k2 : w1.cell? ⟨w.heap.size, 2, none⟩ = some (.slice a1 A1.length c1) := by unfold World.cell?; rw [hg1]; rfl
  have k3 : w1.cell? ⟨w.heap.size, 3, none⟩ = some (.slice a2 A2.length c2) := by unfold World.cell?; rw [hg1]; rfl
  clear hb1 hg1
  go_wp2_with fail
  go_quiet (fail)
  have HBQ : Hid (Below w.heap.size w (w1.drewN nq)) := Lib.hid (HB1.out.trans (show Below w.heap.size w1 (w1.drewN nq) from ⟨rfl, rfl, rfl, Nat.le_refl _, fun _ _ => rfl⟩))
  generalize w1.drewN nq = w2 at HBQ ⊢
  clear k0 k1 k2 k3 HB1 HAW HGW HBW
  have HNEW := Lib.hid (newS M M M w2 E0.out.1 E0.out.2.1)
  go_wp2_with fail
  refine HNEW.out.mono ?_
  rintro r w3 ⟨p, b, rfl, hS3, hb3, hp3, hbb3⟩
  have HS3 := Lib.hid hS3
  have HB3 := Lib.hid (HBQ.out.trans (hb3.mono HBQ.out.size))
  have HLO3 : Hid (w.heap.size ≤ p ∧ w.heap.size ≤ b) := Lib.hid (by have := HBQ.out.size; omega)
  have HC3 := Lib.hid (play_new (c := c0) hS3 (by simpa using E0.out.2.2.1) E0.out.2.2.2 H0.out HB3.out)
  clear hS3 hb3 hp3 hbb3 HNEW HBQ
  go_wp2_with fail
  refine HC3.out.mono ?_
  rintro r w4 ⟨rfl, hS4, hm4⟩
  obtain ⟨L1, hL1⟩ : ∃ L, L = playS M [] (A0.take 20) := ⟨_, rfl⟩
  rw [← hL1] at hS4
  have HL1 : Hid ((L1.length : Int) ≤ M) := Lib.hid (by rw [hL1]; exact playS_len M _ _ (by simpa using E0.out.2.2.1))
  have HS4 := Lib.hid hS4
  have HB4 : Hid (Below w.heap.size w w4) := Lib.hid (HB3.out.trans (hm4.to_below HB3.out.size (by rintro k hk rfl; have := HLO3.out; omega)))
  have HCL := Lib.hid (clone_any p b M L1 w4 hS4 E0.out.2.2.1 E0.out.2.2.2)
  clear hS4 hm4 hL1 HC3
  go_wp2_with fail
  refine HCL.out.mono ?_
  rintro r w5 ⟨q, bq, rfl, hSq, hb5, hq5, hbq5⟩
  have HS5 := Lib.hid (HS4.out.old hb5)
  have HSq := Lib.hid hSq
  have HB5 : Hid (Below w.heap.size w w5) := Lib.hid (HB4.out.trans (hb5.mono HB4.out.size))
  have HLOq : Hid (w4.heap.size ≤ q ∧ w4.heap.size ≤ bq) := Lib.hid ⟨hq5, hbq5⟩
  have HCL5 := Lib.hid (clone_any p b M L1 w5 HS5.out E0.out.2.2.1 E0.out.2.2.2)
  clear hSq hb5 hq5 hbq5 HCL
  go_wp2_with fail
  refine HCL5.out.mono ?_
  rintro r w6 ⟨o, bo, rfl, hSo, hb6, hq6, hbq6⟩
  have HS6 := Lib.hid (HS5.out.old hb6)
  have HSq6 := Lib.hid (HSq.out.old hb6)
  have HSo6 := Lib.hid hSo
  have HB6 : Hid (Below w.heap.size w w6) := Lib.hid (HB5.out.trans (hb6.mono HB5.out.size))
  have HNE : Hid (p ≠ bq ∧ p ≠ bo ∧ b ≠ bq ∧ b ≠ bo ∧ q ≠ b ∧ q ≠ bo ∧ bq ≠ bo ∧ o ≠ b ∧ o ≠ bq ∧ w.heap.size ≤ bq ∧ w.heap.size ≤ bo) := Lib.hid (by
    have g1 := HS4.out.at_.plt
    have g2 := HS4.out.at_.blt
    have g3 := HSq.out.at_.plt
    have g4 := HSq.out.at_.blt
    have g5 := HLOq.out
    have g6 := HB4.out.size
    have g7 := HB5.out.size
    have g8 := HS5.out.at_.blt
    have g9 := HS5.out.at_.plt
    refine ⟨?_, ?_, ?_, ?_, ?_, ?_, ?_, ?_, ?_, ?_, ?_⟩ <;> omega)
  have HC6 := Lib.hid (play_new (c := c1) HS6.out HL1.out E0.out.2.2.2 H1.out HB6.out)
  clear hSo hb6 hq6 hbq6 HCL5 HSq HS5
  go_wp2_with fail
  refine HC6.out.mono ?_
  rintro r w7 ⟨rfl, hS7, hm7⟩
  obtain ⟨L2, hL2⟩ : ∃ L, L = playS M L1 (A1.take 20) := ⟨_, rfl⟩
  rw [← hL2] at hS7
  have HS7 := Lib.hid hS7
  have HSq7 := Lib.hid (HSq6.out.kept hm7 HNE.out.2.2.2.2.1 (fun e => HNE.out.2.2.1 e.symm))
  have HSo7 := Lib.hid (HSo6.out.kept hm7 HNE.out.2.2.2.2.2.2.2.1 (fun e => HNE.out.2.2.2.1 e.symm))
  have HB7 : Hid (Below w.heap.size w w7) := Lib.hid (HB6.out.trans (hm7.to_below HB6.out.size (by rintro k hk rfl; have := HLO3.out; omega)))
  have HL2 := Lib.hid hL2
  have HC7 := Lib.hid (play_new (c := c2) HSq7.out HL1.out E0.out.2.2.2 H2.out HB7.out)
  clear hS7 hm7 hL2 HC6 HS6 HSq6 HSo6
  go_wp2_with fail
  refine HC7.out.mono ?_
  rintro r w8 ⟨rfl, hS8, hm8⟩
  have HS8 := Lib.hid (HS7.out.kept hm8 HNE.out.1 HNE.out.2.2.1)
  have HSq8 : Hid (∃ Lq, Same w8 q bq M Lq) := Lib.hid ⟨_, hS8⟩
  have HSo8 := Lib.hid (HSo7.out.kept hm8 HNE.out.2.2.2.2.2.2.2.2.1 (fun e => HNE.out.2.2.2.2.2.2.1 e.symm))
  have HB8 : Hid (Below w.heap.size w w8) := Lib.hid (HB7.out.trans (hm8.to_below HB7.out.size (by rintro k hk rfl; have := HNE.out; omega)))
  have HC8 := Lib.hid (play_new (c := c1) HSo8.out HL1.out E0.out.2.2.2 H1.out HB8.out)
  clear hS8 hm8 HC7 HS7 HSq7 HSo7
  go_wp2_with fail
  refine HC8.out.mono ?_
  rintro r w9 ⟨rfl, hS9, hm9⟩
  rw [← HL2.out] at hS9
  have HS9 := Lib.hid (HS8.out.kept hm9 HNE.out.2.1 HNE.out.2.2.2.1)
  have HSq9 : Hid (∃ Lq, Same w9 q bq M Lq) := Lib.hid (by obtain ⟨Lq, h⟩ := HSq8.out; exact ⟨Lq, h.kept hm9 HNE.out.2.2.2.2.2.1 HNE.out.2.2.2.2.2.2.1⟩)
  have HSo9 := Lib.hid hS9
  have HB9 : Hid (Below w.heap.size w w9) := Lib.hid (HB8.out.trans (hm9.to_below HB8.out.size (by rintro k hk rfl; have := HNE.out; omega)))
  have HK9 := Lib.hid HS9.out.keysC
  clear hS9 hm9 HC8 HS8 HSq8 HSo8
  go_wp2_with fail
  refine HK9.out.mono ?_
  rintro r wa ⟨qk, ck, rfl, hRk, hqk, hba⟩
  have HRk := Lib.hid hRk
  have HBa := Lib.hid hba
  have HKo := Lib.hid ((HSo9.out.old hba).keysC)
  clear hRk hqk hba HK9
  go_wp2_with fail
  refine HKo.out.mono ?_
  rintro r wb ⟨qo, co, rfl, hRo, hqo, hbb⟩
  have HRo := Lib.hid hRo
  have HRk2 := Lib.hid (HRk.out.old hbb)
  have HBb := Lib.hid (HBa.out.trans (hbb.mono HBa.out.size))
  have HMq : Hid (∀ w', Below w9.heap.size w9 w' → Calls Try.prog 17 #[.pointer (some ⟨q, 0, none⟩)] w' fun r w'' => r = .returned (.int .i64 M) ∧ w'' = w') := Lib.hid (fun w' hb => by obtain ⟨Lq, h⟩ := HSq9.out; exact most_any q bq M _ w' (h.at_.old hb))
  have HMp : Hid (∀ w', Below w9.heap.size w9 w' → Calls Try.prog 17 #[.pointer (some ⟨p, 0, none⟩)] w' fun r w'' => r = .returned (.int .i64 M) ∧ w'' = w') := Lib.hid (fun w' hb => most_any p b M _ w' (HS9.out.at_.old hb))
  clear hRo hqo hbb HKo HRk HBa
  obtain ⟨n, hn⟩ : ∃ n, n = L2.length := ⟨_, rfl⟩
  rw [← hn]
  have HN := Lib.hid hn
  clear hn
  go_wp2_with fail
  refine (HMq.out wb HBb.out).mono ?_
  rintro r wb' ⟨rfl, rfl⟩
  go_wp2_with fail
  refine (HMp.out wb' HBb.out).mono ?_
  rintro r wb ⟨rfl, rfl⟩
  go_wp2_with fail
  have HB0 : Hid (Below w9.heap.size w9 wb) := HBb
  have hnb : n ≤ 1000 := by rw [HN.out]; exact HS9.out.few
  go_loopw [13, 14, 15, 16, 17, 18, 73] (fun _ _ _ _ _ _ s73 wr => ∃ j : Nat, j ≤ n ∧ s73 = .int .i64 (j : Int) ∧ Hid (Below wb.heap.size wb wr)) (fun _ _ _ _ _ _ j _ => n - (intOf j).toNat)
  case atStart => exact ⟨0, Nat.zero_le _, rfl, Lib.hid (Below.refl _ _)⟩
  case round =>
    obtain ⟨j, hj, rfl, HB⟩ := hrel
    by_cases hjn : j < n
    · have hjl : j < L2.length := by rw [← HN.out]; exact hjn
      have hjm : j < (L2.map (·.1)).length := by rw [List.length_map]; exact hjl
      obtain ⟨b1, o1, rfl, hb1, d1⟩ := (HRk2.out.old HB.out).rd.str j hjm
      obtain ⟨b2, o2, rfl, hb2, d2⟩ := (HRo.out.old HB.out).rd.str j hjm
      rw [List.getElem_map] at d1 d2
      have hmem : L2[j] ∈ L2 := List.getElem_mem hjl
      obtain ⟨y, hy⟩ : ∃ y, y = L2[j] := ⟨_, rfl⟩
      rw [← hy] at d1 d2 hmem
      obtain ⟨yk, yr, yv⟩ := y
      simp only at d1 d2
      have hw9 : Below w9.heap.size w9 wr := HB0.out.trans (HB.out.mono HB0.out.size)
      have HG1 := Lib.hid ((HS9.out.old hw9).getC _ hmem)
      have HG2 : Hid (∀ w', Below w9.heap.size w9 w' → Calls Try.prog 10 #[.pointer (some ⟨o, 0, none⟩), .string ⟨yk.toArray⟩] w' fun r w'' => r = .returned (.tuple #[.string ⟨yv.toArray⟩, .bool true]) ∧ Below w'.heap.size w' w'') := Lib.hid (fun w' hb => (HSo9.out.old hb).getC _ hmem)
      have HR1 : Hid (∀ w', Below w9.heap.size w9 w' → Calls Try.prog 11 #[.pointer (some ⟨p, 0, none⟩), .string ⟨yk.toArray⟩] w' fun r w'' => r = .returned (.int .i64 yr) ∧ w'' = w') := Lib.hid (fun w' hb => (HS9.out.old hb).rankC _ hmem)
      have HR2 : Hid (∀ w', Below w9.heap.size w9 w' → Calls Try.prog 11 #[.pointer (some ⟨o, 0, none⟩), .string ⟨yk.toArray⟩] w' fun r w'' => r = .returned (.int .i64 yr) ∧ w'' = w') := Lib.hid (fun w' hb => (HSo9.out.old hb).rankC _ hmem)
      have HW9 := Lib.hid hw9
      have HD2 := Lib.hid d2
      have HB2 := Lib.hid hb2
      have j0 : (0 : Int) ≤ j := by omega
      have j1 : (j : Int) < n := by omega
      have HJ := Lib.hid hjn
      clear hjl hjm hmem hy hw9 d2 hb2 hjn
      go_wp2_with fail
      refine HG1.out.mono ?_
      rintro r u1 ⟨rfl, v1⟩
      have HV1 := Lib.hid (HB.out.trans (v1.mono HB.out.size))
      have HU1 := Lib.hid (HW9.out.trans (v1.mono HW9.out.size))
      have HX1 := Lib.hid v1
      clear v1 d1
      go_wp2_with fail
      refine (HG2.out u1 HU1.out).mono ?_
      rintro r u2 ⟨rfl, v2⟩
      have HV2 : Hid (Below wb.heap.size wb u2) := Lib.hid (HV1.out.trans (v2.mono HV1.out.size))
      have HU2 : Hid (Below w9.heap.size w9 u2) := Lib.hid (HU1.out.trans (v2.mono HU1.out.size))
      have d3 : u2.cell? ⟨b2, o2 + j, none⟩ = some (.string ⟨yk.toArray⟩) := (World.cell?_of_block ((v2.block b2 (Nat.lt_of_lt_of_le HB2.out HX1.out.size)).trans (HX1.out.block b2 HB2.out))).trans HD2.out
      clear v2
      go_wp2_with fail
      refine (HR1.out u2 HU2.out).mono ?_
      rintro r u3 ⟨rfl, rfl⟩
      go_wp2_with fail
      refine (HR2.out u3 HU2.out).mono ?_
      rintro r u2 ⟨rfl, rfl⟩
      go_wp2_with fail
      have hjn := HJ.out
      go_roundw
      case rel => exact ⟨j + 1, by omega, by go_num, HV2⟩
      case measure => simp [intOf]; omega
    · obtain rfl : j = n := by omega
      have HFIN : Hid (Below w.heap.size w wr) := Lib.hid (by
        have h1 := HB9.out.trans (HB0.out.mono HB9.out.size)
        exact h1.trans (HB.out.mono h1.size))
      go_wp2_with fail
      go_ret
      exact ⟨rfl, HFIN.out⟩
end Go.Proofs.Ytdiiechkhlbkcaa
