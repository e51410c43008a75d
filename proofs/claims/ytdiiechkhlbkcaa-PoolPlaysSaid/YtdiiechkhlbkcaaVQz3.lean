/- Texts 3: what the laws lean on. -/
import Derived.Test.YtdiiechkhlbkcaaVQz2
import Derived.Test.YtdiiechkhlbkcaaRows
import Derived.WalkKit
import Derived.ProofKit
import Derived.OpenShut
import Derived.ChangeArms
import Derived.Deep.SlicePairs
import Derived.BigQuiet
namespace Go.Proofs.Ytdiiechkhlbkcaa.PI
open Go.RowKit Go.Sort Go.Proofs.Ytdiiechkhlbkcaa

set_option maxRecDepth 20000 in
set_option maxHeartbeats 1000000 in
theorem put_fits (p b : Nat) (M : Int) (L : List It) (w : World) (h : PoolAt 72 w p b M L) (hn : L.length ≤ 100000) (k : List UInt8) (hk : k.length ≤ 1000000) (r : Int) (tb : Int)
    (hf : ((putI (k, r, (Value.int .i64 tb)) L).length : Int) ≤ M) :
    Calls Try.prog 23 #[.pointer (some ⟨p, 0, none⟩), .string ⟨k.toArray⟩, .int .i64 r, (Value.int .i64 tb)] w fun e w' => e = .returned (.tuple #[.string ⟨#[]⟩, .bool false]) ∧ PoolAt 72 w' p b M (putI (k, r, (Value.int .i64 tb)) L) ∧ Mod (fun i => i = b) w w' := by
  have hset := set_any p b M L w h (by omega) k hk r (Value.int .i64 tb) rfl
  have hpp := putI_perm (k, r, (Value.int .i64 tb)) L
  have HPP := Lib.hid hpp
  have HSET := Lib.hid hset
  obtain ⟨n, hnn⟩ : ∃ n, n = (putI (k, r, (Value.int .i64 tb)) L).length := ⟨_, rfl⟩
  rw [← hnn] at hf
  have HNN := Lib.hid hnn
  clear h hn hk hset hpp hnn
  go_enter Try.func23, Try.ntmps23
  go_wp2_with fail
  refine HSET.out.mono ?_
  rintro e W1 ⟨rfl, hP1, hm1⟩
  have hP2 : PoolAt 72 W1 p b M (putI (k, r, (Value.int .i64 tb)) L) := hP1.perm HPP.out.symm
  have HP := Lib.hid hP2
  have HM := Lib.hid hm1
  have HL : Hid (∀ w', Below W1.heap.size W1 w' → Calls Try.prog 25 #[.pointer (some ⟨p, 0, none⟩)] w' fun r w'' => r = .returned (.int .i64 (n : Int)) ∧ w'' = w') := Lib.hid (by
    intro w' hb
    have := len_any p b M _ w' (HP.out.old hb)
    rw [← HNN.out] at this; exact this)
  clear hP1 hP2 hm1
  go_wp2_with fail
  refine wp_region_puts (fun t v w => VK (match t with
    | 18 => .eq (.pointer (some ⟨p, 0, none⟩))
    | 19 => .eq (.int .i64 (n : Int))
    | 20 => .eq (.pointer (some ⟨p, 0, none⟩))
    | 21 => .eq (.pointer (some ⟨p, 0, none⟩))
    | 22 => .eq (.pointer (some ⟨p, 0, none⟩))
    | 23 => .eq (.int .i64 M)
    | 24 => .eq (Value.bool true)
    | _ => .any) v w) (fun w' => Below W1.heap.size W1 w') 37 (by kernel_rfl) (by decide +kernel) rfl (Below.refl _ _).drew (by
    refine OweAll.cons (owesK rfl rfl fun a w1 ha hG hV => ?_) ?_
    · skip
      have h0 := ha.outer 0 (by decide +kernel)
      simp only [Act.eval] at h0
      exact ⟨.pointer (some ⟨p, 0, none⟩), w1, wanted_free rfl, by simp [execOp, go_sem, h0], Below.refl _ _, rfl⟩
    refine OweAll.cons (owesK_call rfl rfl 25 fun a w1 ha hG hV => ?_) ?_
    · skip
      have h18 : a.tmps.getD 18 undef = .pointer (some ⟨p, 0, none⟩) := hV.get 18 (by decide +kernel)
      refine ⟨#[.pointer (some ⟨p, 0, none⟩)], wanted_free rfl, by simp [execOp, resolve, invoke, go_sem, h18], ?_⟩
      refine (HL.out w1 hG).mono ?_
      rintro e u2 ⟨rfl, rfl⟩; exact ⟨_, rfl, rfl, Below.refl _ _⟩
    refine OweAll.cons (owesK rfl rfl fun a w1 ha hG hV => ?_) ?_
    · skip
      have h0 := ha.outer 0 (by decide +kernel)
      simp only [Act.eval] at h0
      exact ⟨.pointer (some ⟨p, 0, none⟩), w1, wanted_free rfl, by simp [execOp, go_sem, h0], Below.refl _ _, rfl⟩
    refine OweAll.cons (owesK rfl rfl fun a w1 ha hG hV => ?_) ?_
    · skip
      have h20 : a.tmps.getD 20 undef = .pointer (some ⟨p, 0, none⟩) := hV.get 20 (by decide +kernel)
      exact ⟨.pointer (some ⟨p, 0, none⟩), w1, wanted_free rfl, by simp [execOp, go_sem, h20], Below.refl _ _, rfl⟩
    refine OweAll.cons (owesK rfl rfl fun a w1 ha hG hV => ?_) ?_
    · skip
      have h21 : a.tmps.getD 21 undef = .pointer (some ⟨p, 0, none⟩) := hV.get 21 (by decide +kernel)
      exact ⟨.pointer (some ⟨p, 0, none⟩), w1, wanted_free rfl, by simp [execOp, go_sem, h21], Below.refl _ _, rfl⟩
    refine OweAll.cons (owesK rfl rfl fun a w1 ha hG hV => ?_) ?_
    · skip
      have h22 : a.tmps.getD 22 undef = .pointer (some ⟨p, 0, none⟩) := hV.get 22 (by decide +kernel)
      have cc : w1.cell? ⟨p, 0, none⟩ = some (.int .i64 M) := (HP.out.old hG).c0
      exact ⟨.int .i64 M, w1, wanted_free rfl, by simp [execOp, go_sem, h22, cc], Below.refl _ _, rfl⟩
    refine OweAll.cons (owesK rfl rfl fun a w1 ha hG hV => ?_) ?_
    · skip
      have h19 : a.tmps.getD 19 undef = .int .i64 (n : Int) := hV.get 19 (by decide +kernel)
      have h23 : a.tmps.getD 23 undef = .int .i64 M := hV.get 23 (by decide +kernel)
      exact ⟨Value.bool true, w1, wanted_free rfl, by simp [execOp, go_sem, h19, h23, hf], Below.refl _ _, rfl⟩
    exact OweAll.nil
    ) ?_
  intro f wz hG hv
  have e24 : f 24 = Value.bool true := hv 6 _ 24 rfl rfl
  rename_i hK
  refine hK _ _ ?_
  clear hK hv
  simp only [dsts, puts, List.filterMap_cons, List.filterMap_nil, List.foldl_cons, List.foldl_nil, Act.put, List.setIfInBounds_toArray, List.set_cons_succ, List.set_cons_zero, e24]
  clear e24
  have HE : Hid (Below W1.heap.size W1 wz) := Lib.hid hG
  clear hG
  go_wp2_with fail
  go_ret2
  exact ⟨rfl, HP.out.old HE.out, HM.out.trans (Mod.of_below HE.out |>.mono (fun i hi h => by omega)) (fun _ _ h => h)⟩

set_option maxRecDepth 20000 in
set_option maxHeartbeats 2000000 in
theorem put_goes (p b : Nat) (M : Int) (L : List It) (w : World) (h : PoolAt 72 w p b M L) (hn : L.length ≤ 90000) (hkL : ∀ x ∈ L, x.1.length ≤ 1000000) (hoL : ∀ x ∈ L, x.2.2.oneCell' = true) (hs : Srt L) (k : List UInt8) (hk : k.length ≤ 1000000) (r : Int) (tb : Int)
    (F : List It) (z : It) (hz : putI (k, r, (Value.int .i64 tb)) L = F ++ [z]) (hf : M < ((putI (k, r, (Value.int .i64 tb)) L).length : Int)) :
    Calls Try.prog 23 #[.pointer (some ⟨p, 0, none⟩), .string ⟨k.toArray⟩, .int .i64 r, (Value.int .i64 tb)] w fun e w' => e = .returned (.tuple #[.string ⟨z.1.toArray⟩, .bool true]) ∧ PoolAt 72 w' p b M F ∧ Mod (fun i => i = b) w w' := by
  have hset := set_any p b M L w h (by omega) k hk r (Value.int .i64 tb) rfl
  have hpp := putI_perm (k, r, (Value.int .i64 tb)) L
  have hall : ∀ x ∈ putI (k, r, (Value.int .i64 tb)) L, x.1.length ≤ 1000000 ∧ x.2.2.oneCell' = true := by
    intro x hx
    rcases List.mem_cons.1 (hpp.mem_iff.1 hx) with rfl | hx
    · exact ⟨hk, rfl⟩
    · exact ⟨hkL x (List.mem_filter.1 hx).1, hoL x (List.mem_filter.1 hx).1⟩
  have hsr := putI_srt hs (k, r, (Value.int .i64 tb))
  have hln : (putI (k, r, (Value.int .i64 tb)) L).length ≤ 100000 := by
    have := hpp.length_eq; simp at this
    have h2 : (dropL k L).length ≤ L.length := List.length_filter_le _ _
    omega
  have HPP := Lib.hid hpp
  have HSET := Lib.hid hset
  have HA := Lib.hid hall
  have HSR := Lib.hid hsr
  have HLN := Lib.hid hln
  have HZ := Lib.hid hz
  obtain ⟨n, hnn⟩ : ∃ n, n = (putI (k, r, (Value.int .i64 tb)) L).length := ⟨_, rfl⟩
  rw [← hnn] at hf
  have hf2 : ¬ (n : Int) ≤ M := by omega
  have HNN := Lib.hid hnn
  have hnF : n = F.length + 1 := by rw [hnn, hz]; simp
  have HNF := Lib.hid hnF
  clear h hn hk hset hpp hnn hall hsr hln hz hkL hoL hs hf hnF
  go_enter Try.func23, Try.ntmps23
  go_wp2_with fail
  refine HSET.out.mono ?_
  rintro e W1 ⟨rfl, hP1, hm1⟩
  have hP2 : PoolAt 72 W1 p b M (putI (k, r, (Value.int .i64 tb)) L) := hP1.perm HPP.out.symm
  have HP := Lib.hid hP2
  have HM := Lib.hid hm1
  have HL : Hid (∀ w', Below W1.heap.size W1 w' → Calls Try.prog 25 #[.pointer (some ⟨p, 0, none⟩)] w' fun r w'' => r = .returned (.int .i64 (n : Int)) ∧ w'' = w') := Lib.hid (by
    intro w' hb
    have := len_any p b M _ w' (HP.out.old hb)
    rw [← HNN.out] at this; exact this)
  clear hP1 hP2 hm1
  go_wp2_with fail
  refine wp_region_puts (fun t v w => VK (match t with
    | 18 => .eq (.pointer (some ⟨p, 0, none⟩))
    | 19 => .eq (.int .i64 (n : Int))
    | 20 => .eq (.pointer (some ⟨p, 0, none⟩))
    | 21 => .eq (.pointer (some ⟨p, 0, none⟩))
    | 22 => .eq (.pointer (some ⟨p, 0, none⟩))
    | 23 => .eq (.int .i64 M)
    | 24 => .eq (Value.bool false)
    | _ => .any) v w) (fun w' => Below W1.heap.size W1 w') 37 (by kernel_rfl) (by decide +kernel) rfl (Below.refl _ _).drew (by
    refine OweAll.cons (owesK rfl rfl fun a w1 ha hG hV => ?_) ?_
    · skip
      have h0 := ha.outer 0 (by decide +kernel)
      simp only [Act.eval] at h0
      exact ⟨.pointer (some ⟨p, 0, none⟩), w1, wanted_free rfl, by simp [execOp, go_sem, h0], Below.refl _ _, rfl⟩
    refine OweAll.cons (owesK_call rfl rfl 25 fun a w1 ha hG hV => ?_) ?_
    · skip
      have h18 : a.tmps.getD 18 undef = .pointer (some ⟨p, 0, none⟩) := hV.get 18 (by decide +kernel)
      refine ⟨#[.pointer (some ⟨p, 0, none⟩)], wanted_free rfl, by simp [execOp, resolve, invoke, go_sem, h18], ?_⟩
      refine (HL.out w1 hG).mono ?_
      rintro e u2 ⟨rfl, rfl⟩; exact ⟨_, rfl, rfl, Below.refl _ _⟩
    refine OweAll.cons (owesK rfl rfl fun a w1 ha hG hV => ?_) ?_
    · skip
      have h0 := ha.outer 0 (by decide +kernel)
      simp only [Act.eval] at h0
      exact ⟨.pointer (some ⟨p, 0, none⟩), w1, wanted_free rfl, by simp [execOp, go_sem, h0], Below.refl _ _, rfl⟩
    refine OweAll.cons (owesK rfl rfl fun a w1 ha hG hV => ?_) ?_
    · skip
      have h20 : a.tmps.getD 20 undef = .pointer (some ⟨p, 0, none⟩) := hV.get 20 (by decide +kernel)
      exact ⟨.pointer (some ⟨p, 0, none⟩), w1, wanted_free rfl, by simp [execOp, go_sem, h20], Below.refl _ _, rfl⟩
    refine OweAll.cons (owesK rfl rfl fun a w1 ha hG hV => ?_) ?_
    · skip
      have h21 : a.tmps.getD 21 undef = .pointer (some ⟨p, 0, none⟩) := hV.get 21 (by decide +kernel)
      exact ⟨.pointer (some ⟨p, 0, none⟩), w1, wanted_free rfl, by simp [execOp, go_sem, h21], Below.refl _ _, rfl⟩
    refine OweAll.cons (owesK rfl rfl fun a w1 ha hG hV => ?_) ?_
    · skip
      have h22 : a.tmps.getD 22 undef = .pointer (some ⟨p, 0, none⟩) := hV.get 22 (by decide +kernel)
      have cc : w1.cell? ⟨p, 0, none⟩ = some (.int .i64 M) := (HP.out.old hG).c0
      exact ⟨.int .i64 M, w1, wanted_free rfl, by simp [execOp, go_sem, h22, cc], Below.refl _ _, rfl⟩
    refine OweAll.cons (owesK rfl rfl fun a w1 ha hG hV => ?_) ?_
    · skip
      have h19 : a.tmps.getD 19 undef = .int .i64 (n : Int) := hV.get 19 (by decide +kernel)
      have h23 : a.tmps.getD 23 undef = .int .i64 M := hV.get 23 (by decide +kernel)
      exact ⟨Value.bool false, w1, wanted_free rfl, by simp [execOp, go_sem, h19, h23, hf2], Below.refl _ _, rfl⟩
    exact OweAll.nil
    ) ?_
  intro f wz hG hv
  have e24 : f 24 = Value.bool false := hv 6 _ 24 rfl rfl
  rename_i hK
  refine hK _ _ ?_
  clear hK hv
  simp only [dsts, puts, List.filterMap_cons, List.filterMap_nil, List.foldl_cons, List.foldl_nil, Act.put, List.setIfInBounds_toArray, List.set_cons_succ, List.set_cons_zero, e24]
  clear e24
  have HE : Hid (Below W1.heap.size W1 wz) := Lib.hid hG
  have hP3 := HP.out.old HE.out
  have hkeys := keys_any p b M _ wz hP3 HLN.out (fun x hx => (HA.out x hx).1) HSR.out
  rw [← HNN.out] at hkeys
  have HK := Lib.hid hkeys
  clear hG hP3 hkeys hf2
  go_wp2_with fail
  refine HK.out.mono ?_
  rintro e W2 ⟨q, c, rfl, hR2, hq2, hb2⟩
  have hP4 := (HP.out.old HE.out).old hb2
  have hap := apart_it hP4.2.ap
  have hzm : z ∈ putI (k, r, (Value.int .i64 tb)) L := by rw [HZ.out]; simp
  have hlast : ∃ g, q = some ⟨g, 0, none⟩ ∧ W2.cell? ⟨g, F.length, none⟩ = some (.string ⟨z.1.toArray⟩) := by
    have hFl : F.length < ((putI (k, r, (Value.int .i64 tb)) L).map (·.1)).length := by rw [List.length_map, HZ.out]; simp
    obtain ⟨bs, off, e1, _, hc⟩ := hR2.rd.str F.length hFl
    rcases hR2.shape with ⟨e, e0, _⟩ | ⟨g, e, _⟩
    · rw [e] at e1; cases e1
    · rw [e] at e1; cases e1
      refine ⟨_, e, ?_⟩
      have e2 : ((putI (k, r, (Value.int .i64 tb)) L).map (·.1))[F.length]'hFl = z.1 := by
        simp only [List.getElem_map, HZ.out]
        simp
      rw [e2, Nat.zero_add] at hc; exact hc
  obtain ⟨g, rfl, hcl⟩ := hlast
  have hdrop := drop_any p b M _ W2 hP4 z.1 (HA.out z hzm).1 (by rw [th_mem hap hzm]; exact (HA.out z hzm).2)
  have e3 : ((putI (k, r, (Value.int .i64 tb)) L).filter fun x => x.1 != z.1) = F := by have := srt_last (L := F) (x := z) (by rw [← HZ.out]; exact hap); rw [← HZ.out] at this; exact this
  rw [any_mem hzm, e3] at hdrop
  have HD := Lib.hid hdrop
  have HB := Lib.hid (HE.out.trans (hb2.mono HE.out.size))
  obtain rfl := HNF.out
  clear hR2 hq2 hb2 hP4 hap hzm hdrop e3 HK
  have j1 : ((F.length + 1 : Nat) : Int) - 1 = (F.length : Int) := by omega
  have j2 : (F.length : Int) < ((F.length + 1 : Nat) : Int) := by omega
  have j3 : (0 : Int) ≤ (F.length : Int) := by omega
  have j4 : IntKind.i64.wrap (F.length : Int) = (F.length : Int) := IntWalk.i64_in _ (by have := HLN.out; have := HNN.out; omega)
  go_wp2_with fail

  refine HD.out.mono ?_
  rintro e W3 ⟨rfl, hP5, hm5⟩
  have HP5 := Lib.hid hP5
  have HM5 := Lib.hid hm5
  clear hP5 hm5
  go_wp2_with fail
  go_ret2
  exact ⟨rfl, HP5.out, (HM.out.trans (Mod.of_below HB.out |>.mono (fun i hi h => by omega)) (fun _ _ h => h)).trans HM5.out (fun _ _ h => h)⟩
end Go.Proofs.Ytdiiechkhlbkcaa.PI

namespace Go.Proofs.Ytdiiechkhlbkcaa
open Go.RowKit

set_option maxRecDepth 20000 in
set_option maxHeartbeats 1000000 in
theorem awake_any (w : World) : Calls Try.prog 6 #[] w fun r w' => r = .returned (.bool true) ∧ Below w.heap.size w w' := by
  have H1 := Lib.hid (PI.new_any 1 w (by decide) (by decide))
  have H2 := Lib.hid (fun (p b : Nat) (w : World) h => PI.put_fits p b 1 [] w h (by decide) [98] (by decide) 2 7 (by decide))
  have H3 := Lib.hid (fun (p b : Nat) (w : World) h => PI.put_goes p b 1 (putI ([98], 2, .int .i64 7) []) w h (by decide) (by decide) (by intro x hx; have : x = ([98], 2, .int .i64 7) := (by simpa [putI, dropL, insI] using hx); rw [this]; rfl) (List.pairwise_singleton _ _) [97] (by decide) 2 8 [([97], 2, .int .i64 8)] ([98], 2, .int .i64 7) (by rfl) (by decide))
  have h4 : ∀ (p b : Nat) (w : World), PoolAt 72 w p b 1 [([97], 2, .int .i64 8)] → Calls Try.prog 24 #[.pointer (some ⟨p, 0, none⟩), .string ⟨#[97]⟩] w fun r w' => r = .returned (.tuple #[.int .i64 8, .bool true]) ∧ Below w.heap.size w w' := by
    intro p b w h
    exact PI.get_any p b 1 [([97], 2, .int .i64 8)] w h [97] (by decide) rfl
  have H4 := Lib.hid h4
  clear h4
  have H5 := Lib.hid (fun (p b : Nat) (w : World) h => PI.len_any p b 1 [([97], 2, .int .i64 8)] w h)
  go_enter Try.func6, Try.ntmps6
  go_wp2_with fail
  refine H1.out.mono ?_
  rintro r w1 ⟨p, b, rfl, hP, hb, hp1, hb1⟩
  have HP := Lib.hid hP
  have HB := Lib.hid hb
  have HL := Lib.hid (And.intro hp1 hb1)
  clear hP hb hp1 hb1
  go_wp2_with fail
  refine (H2.out p b w1 HP.out).mono ?_
  rintro r w2 ⟨rfl, hP2, hm2⟩
  have HP2 := Lib.hid hP2
  have HM2 := Lib.hid hm2
  clear hP2 hm2
  go_wp2_with fail
  refine (H3.out p b w2 HP2.out).mono ?_
  rintro r w3 ⟨rfl, hP3, hm3⟩
  have HP3 := Lib.hid hP3
  have HM3 := Lib.hid hm3
  clear hP3 hm3
  go_wp2_with fail
  refine (H4.out p b w3 HP3.out).mono ?_
  rintro r w4 ⟨rfl, hb4⟩
  have HP4 := Lib.hid (HP3.out.old hb4)
  have HB4 := Lib.hid hb4
  clear hb4
  go_wp2_with fail
  refine (H5.out p b w4 HP4.out).mono ?_
  rintro r w5 ⟨rfl, rfl⟩
  go_wp2_with fail
  go_ret
  have h1 : Below w.heap.size w w2 := HB.out.trans (HM2.out.to_below HB.out.size (by rintro k hk rfl; have := HL.out; omega))
  have h2 : Below w.heap.size w w3 := h1.trans (HM3.out.to_below h1.size (by rintro k hk rfl; have := HL.out; omega))
  exact ⟨rfl, h2.trans (HB4.out.mono h2.size)⟩
end Go.Proofs.Ytdiiechkhlbkcaa

namespace Go.Proofs.Ytdiiechkhlbkcaa
open Go.RowKit PS

/-- What waits behind Put, which key goes, does one? -/
def putM (M : Int) (x : SI) (L : List SI) : List SI × List UInt8 × Bool :=
  if ((putS x L).length : Int) ≤ M then (putS x L, [], false) else ((putS x L).dropLast, ((putS x L).getLast?.getD ([], 0, [])).1, true)
theorem putS_ne (x : SI) (L : List SI) : putS x L ≠ [] := by
  intro h
  have := insS_len x (dropS x.1 L)
  unfold putS at h
  rw [h] at this; simp at this
theorem putS_len (x : SI) (L : List SI) : (putS x L).length ≤ L.length + 1 := by
  unfold putS
  rw [insS_len]
  have := dropS_len x.1 L; omega
theorem putM_len (M : Int) (x : SI) (L : List SI) (h : (L.length : Int) ≤ M) : ((putM M x L).1.length : Int) ≤ M := by
  unfold putM
  split
  · assumption
  · have := putS_len x L
    rw [List.length_dropLast]
    omega
theorem putS_split (x : SI) (L : List SI) : putS x L = (putS x L).dropLast ++ [(putS x L).getLast?.getD ([], 0, [])] := by
  have h := putS_ne x L
  rw [List.getLast?_eq_some_getLast h]
  exact (List.dropLast_concat_getLast h).symm
theorem putS_mem {x y : SI} {L : List SI} (h : y ∈ putS x L) : y = x ∨ y ∈ L := by
  unfold putS at h
  have hp : ∀ l : List SI, y ∈ insS x l → y = x ∨ y ∈ l := by
    intro l
    induction l with
    | nil => intro h; left; simpa [insS] using h
    | cons z l ih =>
      intro h
      rw [insS] at h
      split at h
      · rcases List.mem_cons.1 h with h | h
        · exact .inl h
        · exact .inr h
      · rcases List.mem_cons.1 h with h | h
        · exact .inr (by rw [h]; simp)
        · rcases ih h with h | h
          · exact .inl h
          · exact .inr (List.mem_cons_of_mem _ h)
  rcases hp _ h with h | h
  · exact .inl h
  · exact .inr (List.mem_filter.1 h).1
theorem putM_mem {M : Int} {x y : SI} {L : List SI} (h : y ∈ (putM M x L).1) : y = x ∨ y ∈ L := by
  unfold putM at h
  split at h
  · exact putS_mem h
  · exact putS_mem ((List.dropLast_sublist _).subset h)
theorem Same.kept {w w' : World} {p b : Nat} {M : Int} {L : List SI} {S : Nat → Prop} (h : Same w p b M L) (hm : Mod S w w') (hp : ¬ S p) (hb : ¬ S b) : Same w' p b M L := ⟨h.at_.kept hm hp hb, h.srt, h.keys, h.few⟩
theorem Same.putC {w : World} {p b : Nat} {M : Int} {L : List SI} (h : Same w p b M L) (hM : (L.length : Int) ≤ M) (h64 : M ≤ 64) (k : List UInt8) (hk : k.length ≤ 1000000) (r : Int) (v : List UInt8) :
    Calls Try.prog 18 #[.pointer (some ⟨p, 0, none⟩), .string ⟨k.toArray⟩, .int .i64 r, .string ⟨v.toArray⟩] w fun e w' => e = .returned (.tuple #[.string ⟨(putM M (k, r, v) L).2.1.toArray⟩, .bool (putM M (k, r, v) L).2.2]) ∧ Same w' p b M (putM M (k, r, v) L).1 ∧ Mod (fun i => i = b) w w' := by
  have hpi : (putS (k, r, v) L).map toI = putI (k, r, .string ⟨v.toArray⟩) (L.map toI) := putS_toI _ _
  have hsrt : Srt ((putS (k, r, v) L).map toI) := by rw [hpi]; exact putI_srt h.srt _
  have hkeys : ∀ x ∈ putS (k, r, v) L, x.1.length ≤ 1000000 := by
    intro x hx
    rcases putS_mem hx with rfl | hx
    · exact hk
    · exact h.keys x hx
  have hfew : (putS (k, r, v) L).length ≤ 1000 := by have := putS_len (k, r, v) L; omega
  have hlen : (putI (k, r, .string ⟨v.toArray⟩) (L.map toI)).length = (putS (k, r, v) L).length := by rw [← hpi, List.length_map]
  unfold putM
  by_cases hf : ((putS (k, r, v) L).length : Int) ≤ M
  · rw [if_pos hf]
    refine (put_fits p b M _ w h.at_ (by rw [List.length_map]; have := h.few; omega) k hk r ⟨v.toArray⟩ (by rw [hlen]; exact hf)).mono ?_
    rintro e w' ⟨rfl, hP, hm⟩
    exact ⟨rfl, ⟨by rw [hpi]; exact hP, hsrt, hkeys, hfew⟩, hm⟩
  · rw [if_neg hf]
    have hsp := putS_split (k, r, v) L
    have hz : putI (k, r, .string ⟨v.toArray⟩) (L.map toI) = ((putS (k, r, v) L).dropLast.map toI) ++ [toI ((putS (k, r, v) L).getLast?.getD ([], 0, []))] := by
      rw [← hpi]
      conv => lhs; rw [hsp]
      rw [List.map_append]; rfl
    refine (put_goes p b M _ w h.at_ (by rw [List.length_map]; have := h.few; omega) h.keys' (by intro x hx; obtain ⟨y, _, rfl⟩ := List.mem_map.1 hx; rfl) h.srt k hk r ⟨v.toArray⟩ _ _ hz (by rw [hlen]; omega)).mono ?_
    rintro e w' ⟨rfl, hP, hm⟩
    refine ⟨rfl, ⟨hP, ?_, fun x hx => hkeys x ((List.dropLast_sublist _).subset hx), by rw [List.length_dropLast]; omega⟩, hm⟩
    rw [hsp, List.map_append] at hsrt
    exact (List.pairwise_append.1 hsrt).1
theorem hasS_toI (k : List UInt8) (L : List SI) : ((L.map toI).any fun x => x.1 == k) = hasS k L := by
  unfold hasS; rw [List.any_map]; rfl
theorem thL_str (k : List UInt8) (L : List SI) : ∃ s : ByteArray, thL k (L.map toI) (.string ⟨#[]⟩) = .string s ∧ (hasS k L = false → s = ⟨#[]⟩) := by
  unfold thL
  cases h : (L.map toI).find? fun x => x.1 == k with
  | none => exact ⟨_, rfl, fun _ => rfl⟩
  | some x =>
    have hx := List.mem_of_find?_eq_some h
    obtain ⟨y, hy, rfl⟩ := List.mem_map.1 hx
    refine ⟨_, rfl, fun hn => ?_⟩
    have h2 := List.find?_some h
    have : hasS k L = true := by unfold hasS; rw [List.any_eq_true]; exact ⟨y, hy, h2⟩
    rw [hn] at this; cases this
theorem rkL_no {k : List UInt8} {L : List SI} (h : hasS k L = false) : rkL k (L.map toI) = 0 := by
  unfold rkL
  cases h2 : (L.map toI).find? fun x => x.1 == k with
  | none => rfl
  | some x =>
    have hx := List.mem_of_find?_eq_some h2
    obtain ⟨y, hy, rfl⟩ := List.mem_map.1 hx
    have h3 := List.find?_some h2
    have : hasS k L = true := by unfold hasS; rw [List.any_eq_true]; exact ⟨y, hy, h3⟩
    rw [h] at this; cases this
theorem Same.dropC {w : World} {p b : Nat} {M : Int} {L : List SI} (h : Same w p b M L) (k : List UInt8) (hk : k.length ≤ 1000000) :
    Calls Try.prog 12 #[.pointer (some ⟨p, 0, none⟩), .string ⟨k.toArray⟩] w fun e w' => e = .returned (.bool (hasS k L)) ∧ Same w' p b M (dropS k L) ∧ Mod (fun i => i = b) w w' := by
  obtain ⟨s, hs, _⟩ := thL_str k L
  refine (drop_any p b M _ w h.at_ k hk (by rw [hs]; rfl)).mono ?_
  rintro e w' ⟨rfl, hP, hm⟩
  have e1 : (L.map toI).filter (fun x => x.1 != k) = (dropS k L).map toI := (dropS_toI k L).symm
  rw [e1] at hP
  refine ⟨by rw [hasS_toI], ⟨hP, ?_, fun x hx => h.keys x (List.mem_filter.1 hx).1, Nat.le_trans (dropS_len k L) h.few⟩, hm⟩
  rw [dropS_toI]
  exact dropL_srt h.srt k
/-- Of a key that is there, or isn't. -/
theorem Same.getC2 {w : World} {p b : Nat} {M : Int} {L : List SI} (h : Same w p b M L) (k : List UInt8) (hk : k.length ≤ 1000000) :
    Calls Try.prog 10 #[.pointer (some ⟨p, 0, none⟩), .string ⟨k.toArray⟩] w fun e w' => ∃ s : ByteArray, e = .returned (.tuple #[.string s, .bool (hasS k L)]) ∧ (hasS k L = false → s = ⟨#[]⟩) ∧ Below w.heap.size w w' := by
  obtain ⟨s, hs, hs2⟩ := thL_str k L
  refine (get_any p b M _ w h.at_ k (by simp [maxLen]; omega) (by rw [hs]; rfl)).mono ?_
  rintro e w' ⟨rfl, hb⟩
  exact ⟨s, by rw [hs, hasS_toI], hs2, hb⟩
theorem Same.rankC0 {w : World} {p b : Nat} {M : Int} {L : List SI} (h : Same w p b M L) (k : List UInt8) (hk : k.length ≤ 1000000) (hn : hasS k L = false) :
    Calls Try.prog 11 #[.pointer (some ⟨p, 0, none⟩), .string ⟨k.toArray⟩] w fun e w' => e = .returned (.int .i64 0) ∧ w' = w := by
  have := rank_any p b M _ w h.at_ k (by simp [maxLen]; omega)
  rw [rkL_no hn] at this
  exact this
theorem newS (m a M : Int) (w : World) (ha : max m 0 = a) (hM : min a 64 = M) :
    Calls Try.prog 7 #[.int .i64 m] w fun r w' => ∃ p b, r = .returned (.pointer (some ⟨p, 0, none⟩)) ∧ Same w' p b M [] ∧ Below w.heap.size w w' ∧ w.heap.size ≤ p ∧ w.heap.size ≤ b := by
  have hP : PoolAt 60 ((w.alloc (.map #[] 0)).alloc (.cells #[.int .i64 M, .map (some w.heap.size)] 60)) (w.heap.size + 1) w.heap.size M [] := by
    refine ⟨?_, ?_⟩
    · have := heap_alloc_new (w.alloc (.map #[] 0)) (.cells #[.int .i64 M, .map (some w.heap.size)] 60)
      simpa using this
    · exact (MapAt.made _ _ w).same (Below.heap_alloc _ _ _ (by simp))
  have HP := Lib.hid hP
  clear hP
  have hmk : (Instr.makeMap 58 none).run Try.prog w = .ok (.map (some w.heap.size)) (w.alloc (.map #[] 0)) := run_makeMap _ _
  go_enter Try.func7, Try.ntmps7
  go_wp2_with fail
  go_ret
  exact ⟨_, _, rfl, ⟨HP.out, List.Pairwise.nil, (fun x hx => by cases hx), Nat.zero_le _⟩, ((Below.refl _ w).alloc (Nat.le_refl _) _).alloc (by simp) _, by omega, Nat.le_refl _⟩
/-- Rows of cells aren't a map. -/
theorem Rd.mapMod {α : Type} {E : Enc α} {w w' : World} {q : Option Addr} {l : List α} {P : Program} {K : TypeId} {b : Nat} {L : List Ent} (h : Rd E w q l) (hM : MapAt P K w b L) (hm : Mod (fun i => i = b) w w') : Rd E w' q l := by
  intro j hj
  obtain ⟨bs, off, e, hlt, hc⟩ := h j hj
  have hne : bs ≠ b := by
    rintro rfl
    obtain ⟨es, ck, hh, _⟩ := hM.own
    have hk : 0 < (E.f l[j]).length := by rw [E.len]; exact E.pos
    have := hc 0 _ (List.getElem?_eq_getElem hk)
    unfold World.cell? at this
    rw [hh] at this
    cases this
  have hb := hm.block bs hlt hne
  exact ⟨bs, off, e, Nat.lt_of_lt_of_le hlt hm.size, fun i u hu => (World.cell?_of_block hb).trans (hc i u hu)⟩
end Go.Proofs.Ytdiiechkhlbkcaa

namespace Go.Proofs.Ytdiiechkhlbkcaa
open Go.ChangeShapes Go.WideShapes Go.ChangeAt Go.RowKit Go.Deep

theorem cell_block {w : World} {a : Addr} {v : Value} (h : w.cell? a = some v) : a.block < w.heap.size := by
  unfold World.cell? at h
  apply Nat.lt_of_not_le; intro hle
  rw [Array.getElem?_eq_none hle] at h
  simp at h
def i64ok (x : Int) : Prop := -9223372036854775808 ≤ x ∧ x ≤ 9223372036854775807
/-- A call: its kind, its rank, its key, its thing. -/
abbrev AC := Int × Int × List UInt8 × List UInt8
def encA : Enc AC := ⟨fun x => [.int .i64 x.1, .int .i64 x.2.1, .string ⟨x.2.2.1.toArray⟩, .string ⟨x.2.2.2.toArray⟩], 4, fun _ => rfl, fun _ v hv => by simp at hv; rcases hv with rfl | rfl | rfl | rfl <;> rfl, by decide⟩
def okA (x : AC) : Prop := i64ok x.1 ∧ i64ok x.2.1 ∧ x.2.2.1.length ≤ maxLen ∧ x.2.2.2.length ≤ maxLen
def okT (x : SI) : Prop := x.1.length ≤ maxLen ∧ i64ok x.2.1 ∧ x.2.2.length ≤ maxLen
theorem Rd.ac {w : World} {ao : Option Addr} {L : List AC} (h : Rd encA w ao L) (j : Nat) (hj : j < L.length) : ∃ bs off, ao = some ⟨bs, off, none⟩ ∧ bs < w.heap.size ∧
    w.cell? ⟨bs, off + j * 4, none⟩ = some (.int .i64 (L[j]).1) ∧ w.cell? ⟨bs, off + j * 4 + 1, none⟩ = some (.int .i64 (L[j]).2.1) ∧ w.cell? ⟨bs, off + j * 4 + 2, none⟩ = some (.string ⟨(L[j]).2.2.1.toArray⟩) ∧ w.cell? ⟨bs, off + j * 4 + 3, none⟩ = some (.string ⟨(L[j]).2.2.2.toArray⟩) := by
  obtain ⟨bs, off, e, hlt, hc⟩ := h j hj
  exact ⟨bs, off, e, hlt, hc 0 _ rfl, hc 1 _ rfl, hc 2 _ rfl, hc 3 _ rfl⟩

set_option maxRecDepth 20000 in
theorem open_acts1 {H : Type} {enc : TypeId × Value → H} {W : World} {v : Value} {fuel : Nat} {x : DataW H × List MemPlace} (hf : DataW.trod enc Try.prog W 0 (fun _ => true) true fuel 22 [v] = some x) :
    ∃ ao cap L, v = .slice ao L.length cap ∧ Rd encA W ao L ∧ (∀ s ∈ L, okA s) ∧ L.length ≤ 9223372036854775807 ∧ L.length ≤ cap := by
  have k4 : Try.prog.cellsOf 28 = 4 := by kernel_rfl
  have ki : Try.prog.cellsOf 3 = 1 := by kernel_rfl
  have ks : Try.prog.cellsOf 9 = 1 := by kernel_rfl
  rcases open_slice Try.underlying22 hf with ⟨hc, _⟩ | ⟨a', len', cap', m, n, D, Pl, hc, _, hl, hm, hmm, _, hall⟩
  · have hc2 : [v] = [Value.slice none 0 0] := hc
    simp only [List.cons.injEq, and_true] at hc2
    subst hc2
    exact ⟨none, 0, [], rfl, Rd.nil _ _, fun s hs => by simp at hs, Nat.zero_le _, Nat.le_refl _⟩
  · have hc2 : [v] = [Value.slice (some a') len' cap'] := hc
    simp only [List.cons.injEq, and_true] at hc2
    subst hc2
    simp only [if_true] at hmm
    subst hmm
    have hj : ∀ i, i < len' → ∃ s : AC, okA s ∧ W.cell? (a'.add (i * 4)) = some (.int .i64 s.1) ∧ W.cell? ((a'.add (i * 4)).add 1) = some (.int .i64 s.2.1) ∧ W.cell? ((a'.add (i * 4)).add 2) = some (.string ⟨s.2.2.1.toArray⟩) ∧ W.cell? ((a'.add (i * 4)).add 3) = some (.string ⟨s.2.2.2.toArray⟩) := by
      intro i hi
      obtain ⟨cs', h1, h2⟩ := hall i (by omega)
      rw [k4] at h1
      obtain ⟨_, hlen, hcell⟩ := World.cells?_some h1
      obtain ⟨xs, k, _, _, _, hxl, hg⟩ := DataW.trod_struct Try.underlying28 h2
      match xs, hxl, cs', hlen with
      | [y0, y1, y2, y3], _, [v0, v1, v2, v3], _ =>
        have g0 := hg 0 _ rfl
        have g1 := hg 1 _ rfl
        have g2 := hg 2 _ rfl
        have g3 := hg 3 _ rfl
        simp [ki, ks] at g0 g1 g2 g3
        obtain ⟨n0, e0, _, w0⟩ := DataW.trod_int Try.underlying3 g0
        obtain ⟨n1, e1, _, w1⟩ := DataW.trod_int Try.underlying3 g1
        obtain ⟨s2, e2, _, w2⟩ := DataW.trod_string Try.underlying9 g2
        obtain ⟨s3, e3, _, w3⟩ := DataW.trod_string Try.underlying9 g3
        simp only [List.cons.injEq, and_true] at e0 e1 e2 e3
        subst e0 e1 e2 e3
        have q0 := hcell 0 (by omega)
        rw [show ∀ z : Addr, z.add 0 = z from fun z => by unfold Addr.add; simp] at q0
        have q1 := hcell 1 (by omega)
        have q2 := hcell 2 (by omega)
        have q3 := hcell 3 (by omega)
        exact ⟨(n0, n1, s2.data.toList, s3.data.toList), ⟨bounds_i64 w0, bounds_i64 w1, w2, w3⟩, by simpa using q0, by simpa using q1, by simpa using q2, by simpa using q3⟩
    obtain ⟨f, hf2⟩ := choose_lt hj
    refine ⟨some a', m, (List.range len').map f, by simp, ?_, ?_, by simp; unfold maxLen at hm; omega, by simpa using hl⟩
    · intro j hjl
      have hjn : j < len' := by simpa using hjl
      obtain ⟨bs, off, spot⟩ := a'
      obtain ⟨ho, c0, c1, c2, c3⟩ := hf2 j hjn
      have hspot : spot = none := by simpa [Addr.add] using World.cell?_spot (hf2 0 (by omega)).2.1
      subst hspot
      refine ⟨bs, off, rfl, by have := cell_block c0; simpa [Addr.add_lit] using this, fun i u hu => ?_⟩
      rw [List.getElem_map, List.getElem_range] at hu
      have hi : i < 4 := by have := (List.getElem?_eq_some_iff.1 hu).1; simpa [encA] using this
      match i, hi with
      | 0, _ => simp [encA] at hu; subst hu; simpa [Addr.add_lit, encA] using c0
      | 1, _ => simp [encA] at hu; subst hu; simpa [Addr.add_lit, encA] using c1
      | 2, _ => simp [encA] at hu; subst hu; simpa [Addr.add_lit, encA] using c2
      | 3, _ => simp [encA] at hu; subst hu; simpa [Addr.add_lit, encA] using c3
    · intro s hs
      obtain ⟨i, hi, rfl⟩ := List.mem_map.1 hs
      exact (hf2 i (List.mem_range.1 hi)).1
theorem open_acts {H : Type} {enc : TypeId × Value → H} {W : World} {base : Nat} {v : Value} {d : DataW H} {ps : List MemPlace} (_hval : Value.okWide Try.prog W .any base 22 v) (h : DataW.Trod enc Try.prog W 0 (fun _ => true) true 22 v d ps) :
    ∃ ao cap L, v = .slice ao L.length cap ∧ Rd encA W ao L ∧ (∀ s ∈ L, okA s) ∧ L.length ≤ 9223372036854775807 ∧ L.length ≤ cap := by
  obtain ⟨a, len, cap, rfl⟩ := okWide_slice Try.underlying22 _hval
  obtain ⟨fuel, hf⟩ := h
  exact open_acts1 (by simpa [Value.cells] using hf)

set_option maxRecDepth 20000 in
theorem open_items {H : Type} {enc : TypeId × Value → H} {W : World} {base : Nat} {v : Value} {d : DataW H} {ps : List MemPlace} (_hval : Value.okWide Try.prog W .any base 26 v) (h : DataW.Trod enc Try.prog W 0 (fun _ => true) true 26 v d ps) :
    ∃ ao cap L, v = .slice ao L.length cap ∧ Rd encT W ao L ∧ (∀ s ∈ L, okT s) ∧ L.length ≤ 9223372036854775807 ∧ L.length ≤ cap := by
  obtain ⟨a, len, cap, rfl⟩ := okWide_slice Try.underlying26 _hval
  obtain ⟨fuel, hf⟩ := h
  have k3 : Try.prog.cellsOf 38 = 3 := by kernel_rfl
  have ki : Try.prog.cellsOf 3 = 1 := by kernel_rfl
  have ks : Try.prog.cellsOf 9 = 1 := by kernel_rfl
  rcases open_slice Try.underlying26 hf with ⟨hc, _⟩ | ⟨a', len', cap', m, n, D, Pl, hc, _, hl, hm, hmm, _, hall⟩
  · have hc2 : [Value.slice a len cap] = [Value.slice none 0 0] := hc
    simp only [List.cons.injEq, Value.slice.injEq, and_true] at hc2
    obtain ⟨rfl, rfl, rfl⟩ := hc2
    exact ⟨none, 0, [], rfl, Rd.nil _ _, fun s hs => by simp at hs, Nat.zero_le _, Nat.le_refl _⟩
  · have hc2 : [Value.slice a len cap] = [Value.slice (some a') len' cap'] := hc
    simp only [List.cons.injEq, Value.slice.injEq, and_true] at hc2
    obtain ⟨rfl, rfl, rfl⟩ := hc2
    simp only [if_true] at hmm
    subst hmm
    have hj : ∀ i, i < len → ∃ s : SI, okT s ∧ W.cell? (a'.add (i * 3)) = some (.string ⟨s.1.toArray⟩) ∧ W.cell? ((a'.add (i * 3)).add 1) = some (.int .i64 s.2.1) ∧ W.cell? ((a'.add (i * 3)).add 2) = some (.string ⟨s.2.2.toArray⟩) := by
      intro i hi
      obtain ⟨cs', h1, h2⟩ := hall i (by omega)
      rw [k3] at h1
      obtain ⟨_, hlen, hcell⟩ := World.cells?_some h1
      obtain ⟨xs, k, _, _, _, hxl, hg⟩ := DataW.trod_struct Try.underlying38 h2
      match xs, hxl, cs', hlen with
      | [y0, y1, y2], _, [v0, v1, v2], _ =>
        have g0 := hg 0 _ rfl
        have g1 := hg 1 _ rfl
        have g2 := hg 2 _ rfl
        simp [ki, ks] at g0 g1 g2
        obtain ⟨s0, e0, _, w0⟩ := DataW.trod_string Try.underlying9 g0
        obtain ⟨n1, e1, _, w1⟩ := DataW.trod_int Try.underlying3 g1
        obtain ⟨s2, e2, _, w2⟩ := DataW.trod_string Try.underlying9 g2
        simp only [List.cons.injEq, and_true] at e0 e1 e2
        subst e0 e1 e2
        have q0 := hcell 0 (by omega)
        rw [show ∀ z : Addr, z.add 0 = z from fun z => by unfold Addr.add; simp] at q0
        have q1 := hcell 1 (by omega)
        have q2 := hcell 2 (by omega)
        exact ⟨(s0.data.toList, n1, s2.data.toList), ⟨w0, bounds_i64 w1, w2⟩, by simpa using q0, by simpa using q1, by simpa using q2⟩
    obtain ⟨f, hf2⟩ := choose_lt hj
    refine ⟨some a', m, (List.range len).map f, by simp, ?_, ?_, by simp; unfold maxLen at hm; omega, by simpa using hl⟩
    · intro j hjl
      have hjn : j < len := by simpa using hjl
      obtain ⟨bs, off, spot⟩ := a'
      obtain ⟨ho, c0, c1, c2⟩ := hf2 j hjn
      have hspot : spot = none := by simpa [Addr.add] using World.cell?_spot (hf2 0 (by omega)).2.1
      subst hspot
      refine ⟨bs, off, rfl, by have := cell_block c0; simpa [Addr.add_lit] using this, fun i u hu => ?_⟩
      rw [List.getElem_map, List.getElem_range] at hu
      have hi : i < 3 := by have := (List.getElem?_eq_some_iff.1 hu).1; simpa [encT] using this
      match i, hi with
      | 0, _ => simp [encT] at hu; subst hu; simpa [Addr.add_lit, encT] using c0
      | 1, _ => simp [encT] at hu; subst hu; simpa [Addr.add_lit, encT] using c1
      | 2, _ => simp [encT] at hu; subst hu; simpa [Addr.add_lit, encT] using c2
    · intro s hs
      obtain ⟨i, hi, rfl⟩ := List.mem_map.1 hs
      exact (hf2 i (List.mem_range.1 hi)).1
end Go.Proofs.Ytdiiechkhlbkcaa

namespace Go.Proofs.Ytdiiechkhlbkcaa
open Go.RowKit PS

/-- What waits behind a call: of kind 2 a key goes, else it is put. -/
def actS (M : Int) (L : List SI) (a : AC) : List SI := if a.1 = 2 then dropS (a.2.2.1.take 4) L else (putM M (a.2.2.1.take 4, a.2.1, a.2.2.2) L).1
def playS (M : Int) (L : List SI) (A : List AC) : List SI := A.foldl (actS M) L
theorem playS_succ (M : Int) (L : List SI) (A : List AC) (i : Nat) (h : i < A.length) : playS M L (A.take (i + 1)) = actS M (playS M L (A.take i)) A[i] := by
  unfold playS; rw [List.take_succ_eq_append_getElem h, List.foldl_append]; rfl
theorem actS_len (M : Int) (L : List SI) (a : AC) (h : (L.length : Int) ≤ M) : ((actS M L a).length : Int) ≤ M := by
  unfold actS
  split
  · have := dropS_len (a.2.2.1.take 4) L; omega
  · exact putM_len M _ L h
theorem playS_len (M : Int) (A : List AC) : ∀ (L : List SI), (L.length : Int) ≤ M → ((playS M L A).length : Int) ≤ M := by
  induction A with
  | nil => intro L h; exact h
  | cons a A ih => intro L h; exact ih _ (actS_len M L a h)

set_option maxRecDepth 20000 in
set_option maxHeartbeats 4000000 in
theorem play_any (p b : Nat) (M : Int) (L : List SI) (ao : Option Addr) (c : Nat) (A : List AC) (w : World) (h : Same w p b M L) (hM : (L.length : Int) ≤ M) (h64 : M ≤ 64) (hA : Rd encA w ao A) (hok : ∀ a ∈ A, okA a) (hn : A.length ≤ 9223372036854775807) :
    Calls Try.prog 20 #[.pointer (some ⟨p, 0, none⟩), .slice ao A.length c] w fun r w' => r = .returned (.tuple #[]) ∧ Same w' p b M (playS M L (A.take 20)) ∧ Mod (fun i => i = b) w w' := by
  obtain ⟨n, hnA⟩ : ∃ n, n = A.length := ⟨_, rfl⟩
  have h63 : (n : Int) ≤ 9223372036854775807 := by omega
  rw [← hnA]
  have HN := Lib.hid hnA
  have HA := Lib.hid hA
  have HOK := Lib.hid hok
  have HM := Lib.hid hM
  have H64 := Lib.hid h64
  have HP := Lib.hid h
  have HST : Hid (∀ i (h : i < A.length), playS M L (A.take (i + 1)) = actS M (playS M L (A.take i)) A[i]) := Lib.hid (playS_succ M L A)
  have H0 : Hid (Same w p b M (playS M L (A.take 0)) ∧ Mod (fun i => i = b) w w) := Lib.hid ⟨h, Mod.refl _ _⟩
  clear hnA hA hok hM h64 h hn
  go_enter Try.func20, Try.ntmps20
  go_wp2_with fail
  go_loopw [4] (fun s4 wr => ∃ i : Nat, i ≤ n ∧ i ≤ 20 ∧ s4 = .int .i64 (i : Int) ∧ Hid (Same wr p b M (playS M L (A.take i)) ∧ Mod (fun i => i = b) w wr)) (fun i _ => n - (intOf i).toNat)
  case atStart => exact ⟨0, Nat.zero_le _, Nat.zero_le _, rfl, H0⟩
  case round =>
    obtain ⟨i, hi, hi20, rfl, HR⟩ := hrel
    by_cases hin : i < n ∧ i < 20
    · obtain ⟨hin, hi2⟩ := hin
      have hil : i < A.length := by rw [← HN.out]; exact hin
      obtain ⟨bs, off, rfl, hbs, c0, c1, c2, c3⟩ := (HA.out.mapMod HP.out.at_.2 HR.out.2).ac i hil
      have hnx := HST.out i hil
      have hka := HOK.out A[i] (List.getElem_mem hil)
      obtain ⟨y, hy⟩ : ∃ y, y = A[i] := ⟨_, rfl⟩
      rw [← hy] at c0 c1 c2 c3 hnx hka
      obtain ⟨ad, ar, ak, av⟩ := y
      simp only at c0 c1 c2 c3
      obtain ⟨D, hD⟩ : ∃ D, D = playS M L (A.take i) := ⟨_, rfl⟩
      rw [← hD] at HR hnx
      have hDM : (D.length : Int) ≤ M := by rw [hD]; exact playS_len M _ L HM.out
      have i0 : (0 : Int) ≤ i := by omega
      have i1 : (i : Int) < n := by omega
      have i2 : (i : Int) < 20 := by omega
      have HCUT : Hid (∀ w1, Calls Try.prog 8 #[.string ⟨ak.toArray⟩, .int .i64 4] w1 fun r w' => r = .returned (.string ⟨(ak.take 4).toArray⟩) ∧ w' = w1) := Lib.hid (fun w1 => cut_any ak 4 w1 hka.2.2.1 (by decide))
      have hk4 : (ak.take 4).length ≤ 1000000 := by rw [List.length_take]; omega
      by_cases hd : ad = 2
      · subst hd
        have HNX : Hid (playS M L (A.take (i + 1)) = dropS (ak.take 4) D) := Lib.hid (by rw [hnx]; rfl)
        have HDR := Lib.hid (HR.out.1.dropC (ak.take 4) hk4)
        clear hil hnx hka hy hD hDM hin hi2 hk4
        go_wp2_with fail
        refine (HCUT.out wr).mono ?_
        rintro e w1 ⟨rfl, rfl⟩
        go_wp2_with fail
        refine HDR.out.mono ?_
        rintro e w2 ⟨rfl, hS, hm⟩
        have HS := Lib.hid hS
        have HMM := Lib.hid (HR.out.2.trans hm (fun _ _ h => h))
        clear hS hm HDR HR
        go_wp2_with fail
        go_roundw
        case rel => exact ⟨i + 1, by omega, by omega, by go_num, Lib.hid ⟨by rw [HNX.out]; exact HS.out, HMM.out⟩⟩
        case measure => simp [intOf]; omega
      · have hde : (ad == 2) = false := by simpa using hd
        have HNX : Hid (playS M L (A.take (i + 1)) = (putM M (ak.take 4, ar, av) D).1) := Lib.hid (by rw [hnx]; unfold actS; rw [if_neg hd])
        have HPUT : Hid (∀ w1, Below wr.heap.size wr w1 → Calls Try.prog 18 #[.pointer (some ⟨p, 0, none⟩), .string ⟨(ak.take 4).toArray⟩, .int .i64 ar, .string ⟨av.toArray⟩] w1 fun e w' => e = .returned (.tuple #[.string ⟨(putM M (ak.take 4, ar, av) D).2.1.toArray⟩, .bool (putM M (ak.take 4, ar, av) D).2.2]) ∧ Same w' p b M (putM M (ak.take 4, ar, av) D).1 ∧ Mod (fun i => i = b) w1 w') := Lib.hid (fun w1 hb => (HR.out.1.old hb).putC hDM H64.out (ak.take 4) hk4 ar av)
        have HBS := Lib.hid hbs
        have HC1 := Lib.hid c1
        have HC2 := Lib.hid c2
        have HC3 := Lib.hid c3
        have ksz : (Try.prog.info? 28).map (·.size) = some 4 := by kernel_rfl
        clear hil hnx hka hy hD hDM hin hi2 hk4 hd
        go_wp2_with fail
        have HG0 : Hid ((fun (j : Nat) (_ : Value) (w' : World) => (j = 0 → Below wr.heap.size wr w') ∧ (j = 1 → Same w' p b M (putM M (ak.take 4, ar, av) D).1 ∧ Mod (fun i => i = b) wr w')) 0 undef wr.drew) := Lib.hid ⟨(fun _ => (Below.refl _ _).drew), (fun h => absurd h (by omega))⟩
        refine wp_region_chain (fun t v => match t with
          | 29 => v = .pointer (some ⟨p, 0, none⟩)
          | 30 => v = .slice (some ⟨bs, off, none⟩) n c
          | 31 => v = .int .i64 (i : Int)
          | 32 => v = .pointer (some ⟨bs, off + i * 4, none⟩)
          | 33 => v = .pointer (some ⟨bs, off + i * 4 + 2, none⟩)
          | 34 => v = .string ⟨ak.toArray⟩
          | 35 => v = .string ⟨(ak.take 4).toArray⟩
          | 36 => v = .slice (some ⟨bs, off, none⟩) n c
          | 37 => v = .int .i64 (i : Int)
          | 38 => v = .pointer (some ⟨bs, off + i * 4, none⟩)
          | 39 => v = .pointer (some ⟨bs, off + i * 4 + 1, none⟩)
          | 40 => v = .int .i64 ar
          | 41 => v = .slice (some ⟨bs, off, none⟩) n c
          | 42 => v = .int .i64 (i : Int)
          | 43 => v = .pointer (some ⟨bs, off + i * 4, none⟩)
          | 44 => v = .pointer (some ⟨bs, off + i * 4 + 3, none⟩)
          | 45 => v = .string ⟨av.toArray⟩
          | 46 => v = .tuple #[.string ⟨(putM M (ak.take 4, ar, av) D).2.1.toArray⟩, .bool (putM M (ak.take 4, ar, av) D).2.2]
          | _ => True) (fun (j : Nat) (_ : Value) (w' : World) => (j = 0 → Below wr.heap.size wr w') ∧ (j = 1 → Same w' p b M (putM M (ak.take 4, ar, av) D).1 ∧ Mod (fun i => i = b) wr w')) [17] 47 (by kernel_rfl) (by decide +kernel) rfl (by decide +kernel) (by decide) (by decide) HG0.out (by
          refine OweAllC.cons (owesC_val 0 (by decide +kernel) (by decide) rfl rfl fun k' a w1 x hk ha hG hV => ?_) ?_
          · skip
            have h0 := ha.outer 0 (by decide +kernel)
            simp only [Act.eval] at h0
            exact ⟨.pointer (some ⟨p, 0, none⟩), wanted_free rfl, by simp [execOp, go_sem, h0], rfl⟩
          refine OweAllC.cons (owesC_val 0 (by decide +kernel) (by decide) rfl rfl fun k' a w1 x hk ha hG hV => ?_) ?_
          · skip
            have h1 := ha.outer 1 (by decide +kernel)
            simp only [Act.eval] at h1
            exact ⟨.slice (some ⟨bs, off, none⟩) n c, wanted_free rfl, by simp [execOp, go_sem, h1], rfl⟩
          refine OweAllC.cons (owesC_val 0 (by decide +kernel) (by decide) rfl rfl fun k' a w1 x hk ha hG hV => ?_) ?_
          · skip
            have h4 := ha.outer 4 (by decide +kernel)
            simp only [Act.eval] at h4
            exact ⟨.int .i64 (i : Int), wanted_free rfl, by simp [execOp, go_sem, h4], rfl⟩
          refine OweAllC.cons (owesC_val 0 (by decide +kernel) (by decide) rfl rfl fun k' a w1 x hk ha hG hV => ?_) ?_
          · skip
            have h30 : a.tmps.getD 30 undef = .slice (some ⟨bs, off, none⟩) n c := hV.get 30 (by decide +kernel)
            have h31 : a.tmps.getD 31 undef = .int .i64 (i : Int) := hV.get 31 (by decide +kernel)
            exact ⟨.pointer (some ⟨bs, off + i * 4, none⟩), wanted_free rfl, by simp [execOp, go_sem, h30, h31, Try.underlying22, i0, i1, ksz], rfl⟩
          refine OweAllC.cons (owesC_val 0 (by decide +kernel) (by decide) rfl rfl fun k' a w1 x hk ha hG hV => ?_) ?_
          · skip
            have h32 : a.tmps.getD 32 undef = .pointer (some ⟨bs, off + i * 4, none⟩) := hV.get 32 (by decide +kernel)
            exact ⟨.pointer (some ⟨bs, off + i * 4 + 2, none⟩), wanted_free rfl, by simp [execOp, go_sem, h32], rfl⟩
          refine OweAllC.cons (owesC_val 0 (by decide +kernel) (by decide) rfl rfl fun k' a w1 x hk ha hG hV => ?_) ?_
          · skip
            have h33 : a.tmps.getD 33 undef = .pointer (some ⟨bs, off + i * 4 + 2, none⟩) := hV.get 33 (by decide +kernel)
            have cc := (World.cell?_of_block ((hG.1 (by omega)).block bs HBS.out)).trans HC2.out
            exact ⟨.string ⟨ak.toArray⟩, wanted_free rfl, by simp [execOp, go_sem, h33, cc], rfl⟩
          refine OweAllC.cons (owesC_side 0 (by decide +kernel) (by decide) rfl rfl 8 fun k' a w1 x hk ha hG hV => ?_) ?_
          · skip
            have h34 : a.tmps.getD 34 undef = .string ⟨ak.toArray⟩ := hV.get 34 (by decide +kernel)
            refine ⟨#[.string ⟨ak.toArray⟩, .int .i64 4], wanted_free rfl, by simp [execOp, resolve, invoke, go_sem, h34], ?_⟩
            refine (HCUT.out w1).mono ?_
            rintro e u2 ⟨rfl, rfl⟩; exact ⟨_, rfl, rfl, hG⟩
          refine OweAllC.cons (owesC_val 0 (by decide +kernel) (by decide) rfl rfl fun k' a w1 x hk ha hG hV => ?_) ?_
          · skip
            have h1 := ha.outer 1 (by decide +kernel)
            simp only [Act.eval] at h1
            exact ⟨.slice (some ⟨bs, off, none⟩) n c, wanted_free rfl, by simp [execOp, go_sem, h1], rfl⟩
          refine OweAllC.cons (owesC_val 0 (by decide +kernel) (by decide) rfl rfl fun k' a w1 x hk ha hG hV => ?_) ?_
          · skip
            have h4 := ha.outer 4 (by decide +kernel)
            simp only [Act.eval] at h4
            exact ⟨.int .i64 (i : Int), wanted_free rfl, by simp [execOp, go_sem, h4], rfl⟩
          refine OweAllC.cons (owesC_val 0 (by decide +kernel) (by decide) rfl rfl fun k' a w1 x hk ha hG hV => ?_) ?_
          · skip
            have h36 : a.tmps.getD 36 undef = .slice (some ⟨bs, off, none⟩) n c := hV.get 36 (by decide +kernel)
            have h37 : a.tmps.getD 37 undef = .int .i64 (i : Int) := hV.get 37 (by decide +kernel)
            exact ⟨.pointer (some ⟨bs, off + i * 4, none⟩), wanted_free rfl, by simp [execOp, go_sem, h36, h37, Try.underlying22, i0, i1, ksz], rfl⟩
          refine OweAllC.cons (owesC_val 0 (by decide +kernel) (by decide) rfl rfl fun k' a w1 x hk ha hG hV => ?_) ?_
          · skip
            have h38 : a.tmps.getD 38 undef = .pointer (some ⟨bs, off + i * 4, none⟩) := hV.get 38 (by decide +kernel)
            exact ⟨.pointer (some ⟨bs, off + i * 4 + 1, none⟩), wanted_free rfl, by simp [execOp, go_sem, h38], rfl⟩
          refine OweAllC.cons (owesC_val 0 (by decide +kernel) (by decide) rfl rfl fun k' a w1 x hk ha hG hV => ?_) ?_
          · skip
            have h39 : a.tmps.getD 39 undef = .pointer (some ⟨bs, off + i * 4 + 1, none⟩) := hV.get 39 (by decide +kernel)
            have cc := (World.cell?_of_block ((hG.1 (by omega)).block bs HBS.out)).trans HC1.out
            exact ⟨.int .i64 ar, wanted_free rfl, by simp [execOp, go_sem, h39, cc], rfl⟩
          refine OweAllC.cons (owesC_val 0 (by decide +kernel) (by decide) rfl rfl fun k' a w1 x hk ha hG hV => ?_) ?_
          · skip
            have h1 := ha.outer 1 (by decide +kernel)
            simp only [Act.eval] at h1
            exact ⟨.slice (some ⟨bs, off, none⟩) n c, wanted_free rfl, by simp [execOp, go_sem, h1], rfl⟩
          refine OweAllC.cons (owesC_val 0 (by decide +kernel) (by decide) rfl rfl fun k' a w1 x hk ha hG hV => ?_) ?_
          · skip
            have h4 := ha.outer 4 (by decide +kernel)
            simp only [Act.eval] at h4
            exact ⟨.int .i64 (i : Int), wanted_free rfl, by simp [execOp, go_sem, h4], rfl⟩
          refine OweAllC.cons (owesC_val 0 (by decide +kernel) (by decide) rfl rfl fun k' a w1 x hk ha hG hV => ?_) ?_
          · skip
            have h41 : a.tmps.getD 41 undef = .slice (some ⟨bs, off, none⟩) n c := hV.get 41 (by decide +kernel)
            have h42 : a.tmps.getD 42 undef = .int .i64 (i : Int) := hV.get 42 (by decide +kernel)
            exact ⟨.pointer (some ⟨bs, off + i * 4, none⟩), wanted_free rfl, by simp [execOp, go_sem, h41, h42, Try.underlying22, i0, i1, ksz], rfl⟩
          refine OweAllC.cons (owesC_val 0 (by decide +kernel) (by decide) rfl rfl fun k' a w1 x hk ha hG hV => ?_) ?_
          · skip
            have h43 : a.tmps.getD 43 undef = .pointer (some ⟨bs, off + i * 4, none⟩) := hV.get 43 (by decide +kernel)
            exact ⟨.pointer (some ⟨bs, off + i * 4 + 3, none⟩), wanted_free rfl, by simp [execOp, go_sem, h43], rfl⟩
          refine OweAllC.cons (owesC_val 0 (by decide +kernel) (by decide) rfl rfl fun k' a w1 x hk ha hG hV => ?_) ?_
          · skip
            have h44 : a.tmps.getD 44 undef = .pointer (some ⟨bs, off + i * 4 + 3, none⟩) := hV.get 44 (by decide +kernel)
            have cc := (World.cell?_of_block ((hG.1 (by omega)).block bs HBS.out)).trans HC3.out
            exact ⟨.string ⟨av.toArray⟩, wanted_free rfl, by simp [execOp, go_sem, h44, cc], rfl⟩
          refine OweAllC.cons (owesC_call 0 rfl rfl rfl 18 fun a w1 x ha hG hx hV => ?_) ?_
          · skip
            have h29 : a.tmps.getD 29 undef = .pointer (some ⟨p, 0, none⟩) := hV.get 29 (by decide +kernel)
            have h35 : a.tmps.getD 35 undef = .string ⟨(ak.take 4).toArray⟩ := hV.get 35 (by decide +kernel)
            have h40 : a.tmps.getD 40 undef = .int .i64 ar := hV.get 40 (by decide +kernel)
            have h45 : a.tmps.getD 45 undef = .string ⟨av.toArray⟩ := hV.get 45 (by decide +kernel)
            have hb := hG.1 (by omega)
            refine ⟨#[.pointer (some ⟨p, 0, none⟩), .string ⟨(ak.take 4).toArray⟩, .int .i64 ar, .string ⟨av.toArray⟩], wanted_free rfl, by simp [execOp, resolve, invoke, go_sem, h29, h35, h40, h45], ?_⟩
            refine (HPUT.out w1 hb).mono ?_
            rintro e u2 ⟨rfl, hS, hm⟩
            exact ⟨_, rfl, rfl, (fun h => absurd h (by omega)), fun _ => ⟨hS, (Mod.of_below hb |>.mono (fun i hi h => by omega)).trans hm (fun _ _ h => h)⟩⟩
          exact OweAllC.nil
          ) ?_
        intro f wz xz hG hx hv
        first | (rename_i hK; refine hK _ _ ?_; clear hK) | (rename_i hK _; refine hK _ _ ?_; clear hK) | (rename_i hK _ _; refine hK _ _ ?_; clear hK) | (rename_i hK _ _ _; refine hK _ _ ?_; clear hK)
        clear hv hx
        simp only [dsts, puts, List.filterMap_cons, List.filterMap_nil, List.foldl_cons, List.foldl_nil, Act.put, List.setIfInBounds_toArray, List.set_cons_succ, List.set_cons_zero]
        have HE := Lib.hid (hG.2 rfl)
        clear hG ksz
        go_wp2_with fail
        go_roundw
        case rel => exact ⟨i + 1, by omega, by omega, by go_num, Lib.hid ⟨by rw [HNX.out]; exact HE.out.1, HR.out.2.trans HE.out.2 (fun _ _ h => h)⟩⟩
        case measure => simp [intOf]; omega
    · have HF : Hid (Same wr p b M (playS M L (A.take 20)) ∧ Mod (fun i => i = b) w wr) := Lib.hid (by
        by_cases h20 : i = 20
        · subst h20; exact HR.out
        · have e : i = n := by omega
          have e1 : A.take 20 = A.take i := by rw [List.take_of_length_le (by rw [← HN.out]; omega), List.take_of_length_le (by rw [← HN.out]; omega)]
          rw [e1]; exact HR.out)
      by_cases hn2 : i < n
      · obtain rfl : i = 20 := by omega
        have i1 : ((20 : Nat) : Int) < n := by omega
        clear hin
        go_wp2_with fail
        go_end0
        exact ⟨rfl, HF.out⟩
      · obtain rfl : i = n := by omega
        clear hin
        go_wp2_with fail
        go_end0
        exact ⟨rfl, HF.out⟩
end Go.Proofs.Ytdiiechkhlbkcaa

namespace Go.Proofs.Ytdiiechkhlbkcaa
open Go.RowKit PS

theorem rputM {ao : Option Addr} {c : Nat} {L : List SI} {M : Int} (xk : List UInt8) (xr : Int) (xv : List UInt8) {w : World} (hL : Rd encT w ao L) (hn : L.length ≤ 100000) (hM : 0 ≤ M) :
    Calls Try.prog 19 #[.slice ao L.length c, .int .i64 M, .agg #[.string ⟨xk.toArray⟩, .int .i64 xr, .string ⟨xv.toArray⟩]] w fun r w' => ∃ q c', r = .returned (.tuple #[.slice q (putM M (xk, xr, xv) L).1.length c', .string ⟨(putM M (xk, xr, xv) L).2.1.toArray⟩, .bool (putM M (xk, xr, xv) L).2.2]) ∧ Rd encT w' q (putM M (xk, xr, xv) L).1 ∧ Below w.heap.size w w' := by
  refine (rput_any ao c L M xk xr xv w hL hn hM).mono ?_
  rintro r w' ⟨h1, h2, hb⟩
  unfold putM
  by_cases hf : ((putS (xk, xr, xv) L).length : Int) ≤ M
  · obtain ⟨q, c', rfl, hR⟩ := h1 hf
    rw [if_pos hf]
    exact ⟨q, c', rfl, hR, hb⟩
  · obtain ⟨q, c', rfl, hR⟩ := h2 (by omega) _ _ (putS_split (xk, xr, xv) L)
    rw [if_neg hf]
    exact ⟨q, c', rfl, hR, hb⟩
theorem isM {p b : Nat} {M : Int} {L : List SI} {ao : Option Addr} {c m : Nat} {w : World} (hm : m = L.length) (h : Same w p b M L) (hL : Rd encT w ao L) :
    Calls Try.prog 16 #[.pointer (some ⟨p, 0, none⟩), .slice ao m c] w fun r w' => r = .returned (.bool true) ∧ Below w.heap.size w w' := by
  rw [hm]; exact is_any p b M L ao c w h hL
/-- What stands behind i calls. -/
structure PlR (w wr : World) (p b : Nat) (M : Int) (L : List SI) (q : Option Addr) (m : Nat) : Prop where
  s : Same wr p b M L
  le : (L.length : Int) ≤ M
  r : Rd encT wr q L
  len : m = L.length
  m : Below w.heap.size w wr
  lo : w.heap.size ≤ p ∧ w.heap.size ≤ b
theorem PlR.old {w wr w' : World} {p b : Nat} {M : Int} {L : List SI} {q : Option Addr} {m : Nat} (h : PlR w wr p b M L q m) (hb : Below wr.heap.size wr w') : PlR w w' p b M L q m :=
  ⟨h.s.old hb, h.le, h.r.old hb, h.len, h.m.trans (hb.mono h.m.size), h.lo⟩

set_option maxRecDepth 20000 in
set_option maxHeartbeats 16000000 in
theorem plays_walk (most : Int) (ao : Option Addr) (c : Nat) (A : List AC) (w : World) (hA : Rd encA w ao A) (hok : ∀ a ∈ A, okA a) (hn : A.length ≤ 9223372036854775807) :
    Calls Try.prog 3 #[.int .i64 most, .slice ao A.length c] w fun e w' => e = .returned (.bool true) ∧ Below w.heap.size w w' := by
  obtain ⟨m1, e1⟩ : ∃ m, min most 70 = m := ⟨_, rfl⟩
  obtain ⟨m2, e2⟩ : ∃ m, max (-2) m1 = m := ⟨_, rfl⟩
  obtain ⟨m3, e3⟩ : ∃ m, min m2 64 = m := ⟨_, rfl⟩
  obtain ⟨M, e4⟩ : ∃ m, max 0 m3 = m := ⟨_, rfl⟩
  have E0 : Hid (0 ≤ M ∧ M ≤ 64) := Lib.hid (by omega)
  have HNEW : Hid (∀ w1 : World, Calls Try.prog 7 #[.int .i64 m2] w1 fun r w' => ∃ p b, r = .returned (.pointer (some ⟨p, 0, none⟩)) ∧ Same w' p b M [] ∧ Below w1.heap.size w1 w' ∧ w1.heap.size ≤ p ∧ w1.heap.size ≤ b) := Lib.hid (fun w1 => newS m2 (max m2 0) M w1 rfl (by omega))
  obtain ⟨n, hnA⟩ : ∃ n, n = A.length := ⟨_, rfl⟩
  have h63 : (n : Int) ≤ 9223372036854775807 := by omega
  rw [← hnA]
  have HN := Lib.hid hnA
  have HA := Lib.hid hA
  have HOK := Lib.hid hok
  have HAW := Lib.hid (awake_any w)
  clear hnA hA hok hn
  go_enter Try.func3, Try.ntmps3
  go_wp2_with fail
  refine HAW.out.mono ?_
  rintro r w1 ⟨rfl, hb1⟩
  have HB1 := Lib.hid hb1
  clear hb1 HAW
  go_wp2_with fail
  refine (HNEW.out w1).mono ?_
  rintro r w2 ⟨p, b, rfl, hS, hb2, hp, hb⟩
  have HR0 : Hid (PlR w w2 p b M [] none 0) := Lib.hid ⟨hS, by simpa using E0.out.1, Rd.nil _ _, rfl, HB1.out.trans (hb2.mono HB1.out.size), by have := HB1.out.size; omega⟩
  clear hS hb2 hp hb HB1 HNEW
  go_wp2_with fail
  clear e1 e2 e3 e4
  go_loopw [6, 7] (fun s6 s7 wr => ∃ (i m : Nat) (L : List SI) (q : Option Addr) (cq : Nat), i ≤ n ∧ i ≤ 100 ∧ s7 = .int .i64 (i : Int) ∧ s6 = .slice q m cq ∧ Hid (PlR w wr p b M L q m)) (fun _ i _ => n - (intOf i).toNat)
  case atStart => exact ⟨0, 0, [], none, 0, Nat.zero_le _, Nat.zero_le _, rfl, rfl, HR0⟩
  case round =>
    clear HR0
    obtain ⟨i, m, L, q, cq, hi, hi100, rfl, rfl, HR⟩ := hrel
    by_cases hin : i < n ∧ i < 100
    · obtain ⟨hin, hi2⟩ := hin
      have hil : i < A.length := by rw [← HN.out]; exact hin
      obtain ⟨bs, off, rfl, hbs, c0, c1, c2, c3⟩ := (HA.out.old HR.out.m).ac i hil
      have hka := HOK.out A[i] (List.getElem_mem hil)
      obtain ⟨y, hy⟩ : ∃ y, y = A[i] := ⟨_, rfl⟩
      rw [← hy] at c0 c1 c2 c3 hka
      obtain ⟨ad, ar, ak, av⟩ := y
      simp only at c0 c1 c2 c3
      have i0 : (0 : Int) ≤ i := by omega
      have i1 : (i : Int) < n := by omega
      have i2 : (i : Int) < 100 := by omega
      obtain ⟨kk, hkk⟩ : ∃ kk, kk = ak.take 4 := ⟨_, rfl⟩
      have HCUT : Hid (∀ w1, Calls Try.prog 8 #[.string ⟨ak.toArray⟩, .int .i64 4] w1 fun r w' => r = .returned (.string ⟨kk.toArray⟩) ∧ w' = w1) := Lib.hid (fun w1 => by rw [hkk]; exact cut_any ak 4 w1 hka.2.2.1 (by decide))
      have HKK : Hid (kk.length ≤ 1000000) := Lib.hid (by rw [hkk, List.length_take]; omega)
      have hba : Below wr.heap.size wr (wr.alloc (.cells #[.int .i64 ad, .int .i64 ar, .string ⟨ak.toArray⟩, .string ⟨av.toArray⟩] 28)) := (Below.refl _ _).alloc (Nat.le_refl _) _
      have hga := heap_alloc_new wr (.cells #[.int .i64 ad, .int .i64 ar, .string ⟨ak.toArray⟩, .string ⟨av.toArray⟩] 28)
      have HRA := Lib.hid (HR.out.old hba)
      have HGA := Lib.hid hga
      have HI := Lib.hid (And.intro hin hi2)
      have hget := rget_any q cq L kk _ HRA.out.r (by have := HRA.out.s.few; omega)
      rw [← HRA.out.len] at hget
      have HGET := Lib.hid hget
      clear hil hka hy hkk hba hga hget hin hi2 HR
      go_wp2_with fail
      refine (HCUT.out _).mono ?_
      rintro e u1 ⟨rfl, rfl⟩
      go_wp2_with fail
      generalize wr.alloc (.cells #[.int .i64 ad, .int .i64 ar, .string ⟨ak.toArray⟩, .string ⟨av.toArray⟩] 28) = wa at HRA HGA HGET ⊢
      refine HGET.out.mono ?_
      rintro e u2 ⟨⟨z, rfl, hz1, hz2⟩, hb2⟩
      have HR2 := Lib.hid (HRA.out.old hb2)
      have hg2 := (hb2.block _ (Array.getElem?_eq_some_iff.1 HGA.out).1).trans HGA.out
      have d0 : u2.cell? ⟨wr.heap.size, 0, none⟩ = some (.int .i64 ad) := by unfold World.cell?; rw [hg2]; rfl
      have HG2 := Lib.hid hg2
      have HZ := Lib.hid (And.intro hz1 hz2)
      clear hb2 hg2 hz1 hz2 HRA HGA HGET HCUT c0 c1 c2 c3
      generalize wr.heap.size = g at d0 HG2 ⊢
      by_cases k1 : ad = 1
      · subst k1
        have hget := HR2.out.s.getC2 kk HKK.out
        have HGT := Lib.hid hget
        clear hget
        cases hh : hasS kk L with
        | true =>
          rw [hh] at HGT
          have z0 : (0 : Int) ≤ z := HZ.out.1 hh
          have HHH := Lib.hid hh
          clear hh
          go_wp2_with fail
          refine HGT.out.mono ?_
          rintro e u3 ⟨s, rfl, _, hb3⟩
          have HR3 := Lib.hid (HR2.out.old hb3)
          clear hb3 d0
          have HIS := Lib.hid (isM (c := cq) HR3.out.len HR3.out.s HR3.out.r)
          go_wp2_with fail
          refine HIS.out.mono ?_
          rintro r uz ⟨rfl, hbz⟩
          have HRZ := Lib.hid (HR3.out.old hbz)
          clear hbz HIS
          go_wp2_with fail
          have hin := HI.out
          go_roundw
          case rel => exact ⟨i + 1, m, L, q, cq, by omega, by omega, by go_num, rfl, HRZ⟩
          case measure => simp [intOf]; omega
        | false =>
          rw [hh] at HGT
          have z0 : ¬ (0 : Int) ≤ z := by have := HZ.out.2 hh; omega
          have HHH := Lib.hid hh
          clear hh
          go_wp2_with fail
          refine HGT.out.mono ?_
          rintro e u3 ⟨s, rfl, hs, hb3⟩
          obtain rfl := hs (by first | trivial | rfl)
          have HR3 := Lib.hid (HR2.out.old hb3)
          have HRK := Lib.hid (HR3.out.s.rankC0 kk HKK.out HHH.out)
          clear hb3 d0 hs
          go_wp2_with fail
          refine HRK.out.mono ?_
          rintro e u4 ⟨rfl, rfl⟩
          have HIS := Lib.hid (isM (c := cq) HR3.out.len HR3.out.s HR3.out.r)
          go_wp2_with fail
          refine HIS.out.mono ?_
          rintro r uz ⟨rfl, hbz⟩
          have HRZ := Lib.hid (HR3.out.old hbz)
          clear hbz HIS
          go_wp2_with fail
          have hin := HI.out
          go_roundw
          case rel => exact ⟨i + 1, m, L, q, cq, by omega, by omega, by go_num, rfl, HRZ⟩
          case measure => simp [intOf]; omega
      · have x1 : (ad == 1) = false := by simpa using k1
        by_cases k2 : ad = 2
        · subst k2
          have HDR := Lib.hid (HR2.out.s.dropC kk HKK.out)
          have z0 : decide ((0 : Int) ≤ z) = hasS kk L := by
            cases hh : hasS kk L with
            | true => simpa using HZ.out.1 hh
            | false => have := HZ.out.2 hh; simp; omega
          generalize hasS kk L = B at z0 HDR
          cases B with
          | true =>
            have z1 : (0 : Int) ≤ z := by simpa using z0
            clear z0
            go_wp2_with fail
            refine HDR.out.mono ?_
            rintro e u3 ⟨rfl, hS3, hm3⟩
            have hr3 := HR2.out.r.mapMod HR2.out.s.at_.2 hm3
            have HB3 := Lib.hid (HR2.out.m.trans (hm3.to_below HR2.out.m.size (by rintro k hk rfl; have := HR2.out.lo; omega)))
            have hrd := rdrop_any q cq L kk u3 hr3 (by have := HR2.out.s.few; omega)
            rw [← HR2.out.len] at hrd
            have HRD := Lib.hid hrd
            have HS3 := Lib.hid hS3
            clear hS3 hm3 hr3 hrd d0
            go_wp2_with fail
            refine HRD.out.mono ?_
            rintro e u4 ⟨q4, c4, rfl, hq4, hlo4, hb4⟩
            have HR4 : Hid (PlR w u4 p b M (dropS kk L) q4 (dropS kk L).length) := Lib.hid ⟨HS3.out.old hb4, by have h1 := dropS_len kk L; have h2 := HR2.out.le; omega, hq4.rd, rfl, HB3.out.trans (hb4.mono HB3.out.size), HR2.out.lo⟩
            clear hq4 hlo4 hb4 HRD HS3
            have HIS := Lib.hid (isM (c := c4) HR4.out.len HR4.out.s HR4.out.r)
            go_wp2_with fail
            refine HIS.out.mono ?_
            rintro r uz ⟨rfl, hbz⟩
            have HRZ := Lib.hid (HR4.out.old hbz)
            clear hbz HIS
            go_wp2_with fail
            have hin := HI.out
            go_roundw
            case rel => exact ⟨i + 1, (dropS kk L).length, (dropS kk L), q4, c4, by omega, by omega, by go_num, rfl, HRZ⟩
            case measure => simp [intOf]; omega
          | false =>
            have z1 : ¬ (0 : Int) ≤ z := by simpa using z0
            clear z0
            go_wp2_with fail
            refine HDR.out.mono ?_
            rintro e u3 ⟨rfl, hS3, hm3⟩
            have hr3 := HR2.out.r.mapMod HR2.out.s.at_.2 hm3
            have HB3 := Lib.hid (HR2.out.m.trans (hm3.to_below HR2.out.m.size (by rintro k hk rfl; have := HR2.out.lo; omega)))
            have hrd := rdrop_any q cq L kk u3 hr3 (by have := HR2.out.s.few; omega)
            rw [← HR2.out.len] at hrd
            have HRD := Lib.hid hrd
            have HS3 := Lib.hid hS3
            clear hS3 hm3 hr3 hrd d0
            go_wp2_with fail
            refine HRD.out.mono ?_
            rintro e u4 ⟨q4, c4, rfl, hq4, hlo4, hb4⟩
            have HR4 : Hid (PlR w u4 p b M (dropS kk L) q4 (dropS kk L).length) := Lib.hid ⟨HS3.out.old hb4, by have h1 := dropS_len kk L; have h2 := HR2.out.le; omega, hq4.rd, rfl, HB3.out.trans (hb4.mono HB3.out.size), HR2.out.lo⟩
            clear hq4 hlo4 hb4 HRD HS3
            have HIS := Lib.hid (isM (c := c4) HR4.out.len HR4.out.s HR4.out.r)
            go_wp2_with fail
            refine HIS.out.mono ?_
            rintro r uz ⟨rfl, hbz⟩
            have HRZ := Lib.hid (HR4.out.old hbz)
            clear hbz HIS
            go_wp2_with fail
            have hin := HI.out
            go_roundw
            case rel => exact ⟨i + 1, (dropS kk L).length, (dropS kk L), q4, c4, by omega, by omega, by go_num, rfl, HRZ⟩
            case measure => simp [intOf]; omega
        · have x2 : (ad == 2) = false := by simpa using k2
          by_cases k3 : ad = 3
          · subst k3
            have d1 : u2.cell? ⟨g, 1, none⟩ = some (.int .i64 ar) := by unfold World.cell?; rw [HG2.out]; rfl
            have HFI := Lib.hid (first_any p b M L ar u2 HR2.out.s)
            cases L with
            | nil =>
              unfold firstL at HFI
              obtain rfl : m = 0 := HR2.out.len
              go_wp2_with fail
              refine HFI.out.mono ?_
              rintro e u3 ⟨rfl, hb3⟩
              have HR3 := Lib.hid (HR2.out.old hb3)
              have hg3 := (hb3.block g (Array.getElem?_eq_some_iff.1 HG2.out).1).trans HG2.out
              have f1 : u3.cell? ⟨g, 1, none⟩ = some (.int .i64 ar) := by unfold World.cell?; rw [hg3]; rfl
              clear hb3 d0 d1 hg3
              go_wp2_with fail
              go_quiet (fail)
              have HR4 : Hid (PlR w (u3.drewN nq) p b M [] q 0) := Lib.hid (HR3.out.old ⟨rfl, rfl, rfl, Nat.le_refl _, fun _ _ => rfl⟩)
              generalize u3.drewN nq = u4 at HR4 ⊢
              clear f1
              have HIS := Lib.hid (isM (c := cq) HR4.out.len HR4.out.s HR4.out.r)
              go_wp2_with fail
              refine HIS.out.mono ?_
              rintro r uz ⟨rfl, hbz⟩
              have HRZ := Lib.hid (HR4.out.old hbz)
              clear hbz HIS
              go_wp2_with fail
              have hin := HI.out
              go_roundw
              case rel => exact ⟨i + 1, 0, [], q, cq, by omega, by omega, by go_num, rfl, HRZ⟩
              case measure => simp [intOf]; omega
            | cons x l =>
              obtain ⟨xk, xr, xv⟩ := x
              obtain ⟨bq, oq, hqe, hbq, l0, l1, l2⟩ := HR2.out.r.it 0 (by simp)
              subst hqe
              simp only [List.getElem_cons_zero, Nat.zero_mul, Nat.add_zero] at l0 l1 l2
              have m0 : (0 : Int) < m := by have := HR2.out.len; simp at this; omega
              have m00 : 0 < m := by omega
              by_cases hxm : xr ≤ ar
              · rw [show firstL ar ((xk, xr, xv) :: l) = (xk, true) by simp [firstL, hxm]] at HFI
                go_wp2_with fail
                refine HFI.out.mono ?_
                rintro e u3 ⟨rfl, hb3⟩
                have HR3 := Lib.hid (HR2.out.old hb3)
                have hg3 := (hb3.block g (Array.getElem?_eq_some_iff.1 HG2.out).1).trans HG2.out
                have f1 : u3.cell? ⟨g, 1, none⟩ = some (.int .i64 ar) := by unfold World.cell?; rw [hg3]; rfl
                have f2 : u3.cell? ⟨bq, oq, none⟩ = some (.string ⟨xk.toArray⟩) := (World.cell?_of_block (hb3.block bq hbq)).trans l0
                have f3 : u3.cell? ⟨bq, oq + 1, none⟩ = some (.int .i64 xr) := (World.cell?_of_block (hb3.block bq hbq)).trans l1
                clear hb3 d0 d1 hg3 l0 l1 l2 hbq
                go_wp2_with fail
                go_quiet (fail)
                have HR4 : Hid (PlR w (u3.drewN nq) p b M ((xk, xr, xv) :: l) (some ⟨bq, oq, none⟩) m) := Lib.hid (HR3.out.old ⟨rfl, rfl, rfl, Nat.le_refl _, fun _ _ => rfl⟩)
                have f4 : (u3.drewN nq).cell? ⟨bq, oq, none⟩ = some (.string ⟨xk.toArray⟩) := f2
                generalize u3.drewN nq = u4 at HR4 f4 ⊢
                clear f1 f2 f3
                have HIS := Lib.hid (isM (c := cq) HR4.out.len HR4.out.s HR4.out.r)
                go_wp2_with fail
                refine HIS.out.mono ?_
                rintro r uz ⟨rfl, hbz⟩
                have HRZ := Lib.hid (HR4.out.old hbz)
                clear hbz HIS
                go_wp2_with fail
                have hin := HI.out
                go_roundw
                case rel => exact ⟨i + 1, m, ((xk, xr, xv) :: l), some ⟨bq, oq, none⟩, cq, by omega, by omega, by go_num, rfl, HRZ⟩
                case measure => simp [intOf]; omega
              · rw [show firstL ar ((xk, xr, xv) :: l) = ([], false) by simp [firstL, hxm]] at HFI
                go_wp2_with fail
                refine HFI.out.mono ?_
                rintro e u3 ⟨rfl, hb3⟩
                have HR3 := Lib.hid (HR2.out.old hb3)
                have hg3 := (hb3.block g (Array.getElem?_eq_some_iff.1 HG2.out).1).trans HG2.out
                have f1 : u3.cell? ⟨g, 1, none⟩ = some (.int .i64 ar) := by unfold World.cell?; rw [hg3]; rfl
                have f2 : u3.cell? ⟨bq, oq, none⟩ = some (.string ⟨xk.toArray⟩) := (World.cell?_of_block (hb3.block bq hbq)).trans l0
                have f3 : u3.cell? ⟨bq, oq + 1, none⟩ = some (.int .i64 xr) := (World.cell?_of_block (hb3.block bq hbq)).trans l1
                clear hb3 d0 d1 hg3 l0 l1 l2 hbq
                go_wp2_with fail
                go_quiet (fail)
                have HR4 : Hid (PlR w (u3.drewN nq) p b M ((xk, xr, xv) :: l) (some ⟨bq, oq, none⟩) m) := Lib.hid (HR3.out.old ⟨rfl, rfl, rfl, Nat.le_refl _, fun _ _ => rfl⟩)
                have f4 : (u3.drewN nq).cell? ⟨bq, oq, none⟩ = some (.string ⟨xk.toArray⟩) := f2
                generalize u3.drewN nq = u4 at HR4 f4 ⊢
                clear f1 f2 f3
                have HIS := Lib.hid (isM (c := cq) HR4.out.len HR4.out.s HR4.out.r)
                go_wp2_with fail
                refine HIS.out.mono ?_
                rintro r uz ⟨rfl, hbz⟩
                have HRZ := Lib.hid (HR4.out.old hbz)
                clear hbz HIS
                go_wp2_with fail
                have hin := HI.out
                go_roundw
                case rel => exact ⟨i + 1, m, ((xk, xr, xv) :: l), some ⟨bq, oq, none⟩, cq, by omega, by omega, by go_num, rfl, HRZ⟩
                case measure => simp [intOf]; omega
          · have x3 : (ad == 3) = false := by simpa using k3
            by_cases k4 : ad = 4
            · subst k4
              have HCL := Lib.hid (clone_any p b M L u2 HR2.out.s E0.out.1 E0.out.2)
              go_wp2_with fail
              refine HCL.out.mono ?_
              rintro e u3 ⟨p2, b2, rfl, hS3, hb3, hp3, hbb3⟩
              have HR3 := Lib.hid (HR2.out.old hb3)
              have HS3 := Lib.hid hS3
              have HLO3 : Hid (p ≠ b2 ∧ b ≠ b2 ∧ w.heap.size ≤ b2) := Lib.hid (by have h1 := HR2.out.s.at_.plt; have h2 := HR2.out.s.at_.blt; have h3 := HR2.out.m.size; omega)
              have HIQ := Lib.hid (isM (c := cq) HR3.out.len hS3 HR3.out.r)
              clear hS3 hb3 hp3 hbb3 d0 HCL
              go_wp2_with fail
              refine HIQ.out.mono ?_
              rintro e u4 ⟨rfl, hb4⟩
              have HR4 := Lib.hid (HR3.out.old hb4)
              have HS4 := Lib.hid (HS3.out.old hb4)
              have HMO := Lib.hid (most_any p2 b2 M _ u4 HS4.out.at_)
              clear hb4 HIQ HS3 HR3
              go_wp2_with fail
              refine HMO.out.mono ?_
              rintro e u5 ⟨rfl, rfl⟩
              have HPU := Lib.hid (HS4.out.putC HR4.out.le E0.out.2 [111, 116, 104, 101, 114] (by decide) 0 [120])
              go_wp2_with fail
              refine HPU.out.mono ?_
              rintro e u6 ⟨rfl, hS6, hm6⟩
              have HR6 : Hid (PlR w u6 p b M L q m) := Lib.hid ⟨HR4.out.s.kept hm6 HLO3.out.1 HLO3.out.2.1, HR4.out.le, HR4.out.r.mapMod HS4.out.at_.2 hm6, HR4.out.len, HR4.out.m.trans (hm6.to_below HR4.out.m.size (by rintro k hk rfl; have := HLO3.out; omega)), HR4.out.lo⟩
              have HDR := Lib.hid (hS6.dropC kk HKK.out)
              have HS6 := Lib.hid hS6
              clear hS6 hm6 HPU HMO
              go_wp2_with fail
              refine HDR.out.mono ?_
              rintro e u7 ⟨rfl, hS7, hm7⟩
              have HR7 : Hid (PlR w u7 p b M L q m) := Lib.hid ⟨HR6.out.s.kept hm7 HLO3.out.1 HLO3.out.2.1, HR6.out.le, HR6.out.r.mapMod HS6.out.at_.2 hm7, HR6.out.len, HR6.out.m.trans (hm7.to_below HR6.out.m.size (by rintro k hk rfl; have := HLO3.out; omega)), HR6.out.lo⟩
              clear hS7 hm7 HDR
              have HIS := Lib.hid (isM (c := cq) HR7.out.len HR7.out.s HR7.out.r)
              go_wp2_with fail
              refine HIS.out.mono ?_
              rintro r uz ⟨rfl, hbz⟩
              have HRZ := Lib.hid (HR7.out.old hbz)
              clear hbz HIS
              go_wp2_with fail
              have hin := HI.out
              go_roundw
              case rel => exact ⟨i + 1, m, L, q, cq, by omega, by omega, by go_num, rfl, HRZ⟩
              case measure => simp [intOf]; omega
            · have x4 : (ad == 4) = false := by simpa using k4
              clear k1 k2 k3 k4
              have d1 : u2.cell? ⟨g, 1, none⟩ = some (.int .i64 ar) := by unfold World.cell?; rw [HG2.out]; rfl
              have d3 : u2.cell? ⟨g, 3, none⟩ = some (.string ⟨av.toArray⟩) := by unfold World.cell?; rw [HG2.out]; rfl
              have hrp := rputM (c := cq) kk ar av HR2.out.r (by have := HR2.out.s.few; omega) E0.out.1
              rw [← HR2.out.len] at hrp
              obtain ⟨L', hL'⟩ : ∃ L', L' = (putM M (kk, ar, av) L).1 := ⟨_, rfl⟩
              obtain ⟨gk, hgk⟩ : ∃ s, s = (putM M (kk, ar, av) L).2.1 := ⟨_, rfl⟩
              obtain ⟨gb, hgb⟩ : ∃ s, s = (putM M (kk, ar, av) L).2.2 := ⟨_, rfl⟩
              rw [← hL', ← hgk, ← hgb] at hrp
              have HRP := Lib.hid hrp
              have HPU : Hid (∀ u3, Below u2.heap.size u2 u3 → Calls Try.prog 18 #[.pointer (some ⟨p, 0, none⟩), .string ⟨kk.toArray⟩, .int .i64 ar, .string ⟨av.toArray⟩] u3 fun e w' => e = .returned (.tuple #[.string ⟨gk.toArray⟩, .bool gb]) ∧ Same w' p b M L' ∧ Mod (fun i => i = b) u3 w') := Lib.hid (fun u3 hb => by
                have := (HR2.out.s.old hb).putC HR2.out.le E0.out.2 kk HKK.out ar av
                rw [← hL', ← hgk, ← hgb] at this; exact this)
              have HLE : Hid ((L'.length : Int) ≤ M) := Lib.hid (by rw [hL']; exact putM_len M _ L HR2.out.le)
              clear hrp hL' hgk hgb
              obtain ⟨m', hm'⟩ : ∃ m', m' = L'.length := ⟨_, rfl⟩
              rw [← hm'] at HRP
              have HM' := Lib.hid hm'
              clear hm'
              go_wp2_with fail
              refine HRP.out.mono ?_
              rintro e u3 ⟨q3, c3, rfl, hr3, hb3⟩
              have hg3 := (hb3.block g (Array.getElem?_eq_some_iff.1 HG2.out).1).trans HG2.out
              have f1 : u3.cell? ⟨g, 1, none⟩ = some (.int .i64 ar) := by unfold World.cell?; rw [hg3]; rfl
              have f3 : u3.cell? ⟨g, 3, none⟩ = some (.string ⟨av.toArray⟩) := by unfold World.cell?; rw [hg3]; rfl
              have HP3 := Lib.hid (HPU.out u3 hb3)
              have HR3 := Lib.hid hr3
              have HO3 := Lib.hid (HR2.out.old hb3)
              clear hr3 hb3 hg3 d0 d1 d3 HRP HPU
              go_wp2_with fail
              refine HP3.out.mono ?_
              rintro e u4 ⟨rfl, hS4, hm4⟩
              have HR4 : Hid (PlR w u4 p b M L' q3 m') := Lib.hid ⟨hS4, HLE.out, HR3.out.mapMod HO3.out.s.at_.2 hm4, HM'.out, HO3.out.m.trans (hm4.to_below HO3.out.m.size (by rintro k hk rfl; have := HO3.out.lo; omega)), HO3.out.lo⟩
              clear hS4 hm4 HP3 HR3 HO3 f1 f3
              have HIS := Lib.hid (isM (c := c3) HR4.out.len HR4.out.s HR4.out.r)
              go_wp2_with fail
              refine HIS.out.mono ?_
              rintro r uz ⟨rfl, hbz⟩
              have HRZ := Lib.hid (HR4.out.old hbz)
              clear hbz HIS
              go_wp2_with fail
              have hin := HI.out
              go_roundw
              case rel => exact ⟨i + 1, m', L', q3, c3, by omega, by omega, by go_num, rfl, HRZ⟩
              case measure => simp [intOf]; omega
    · have HM := Lib.hid (most_any p b M _ wr HR.out.s.at_)
      have HB := Lib.hid HR.out.m
      by_cases hn2 : i < n
      · obtain rfl : i = 100 := by omega
        have i1 : ((100 : Nat) : Int) < n := by omega
        clear hin HR
        go_wp2_with fail
        refine HM.out.mono ?_
        rintro r u1 ⟨rfl, rfl⟩
        go_wp2_with fail
        go_ret
        exact ⟨rfl, HB.out⟩
      · obtain rfl : i = n := by omega
        clear hin HR
        go_wp2_with fail
        refine HM.out.mono ?_
        rintro r u1 ⟨rfl, rfl⟩
        go_wp2_with fail
        go_ret
        exact ⟨rfl, HB.out⟩
end Go.Proofs.Ytdiiechkhlbkcaa
