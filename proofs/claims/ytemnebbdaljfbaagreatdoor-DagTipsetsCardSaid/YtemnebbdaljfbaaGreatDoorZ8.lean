/- Texts 8: what the laws lean on. -/
import Derived.Test.YtemnebbdaljfbaaGreatDoorZ7
import Derived.Test.YtemnebbdaljfbaaGreatDoorZ4
import Derived.Test.YtemnebbdaljfbaaGreatDoorZ6
import Derived.ChangeArms
import Derived.Deep.SlicePairs
import Derived.Test.YtemnebbdaljfbaaGreatDoorZ3
import Derived.Test.YtemnebbdaljfbaaGreatDoorZ1
import Derived.Deep.AppendLies
import Derived.Deep.RegionLaw
import Derived.Deep.DeepCutAuto
import Derived.Deep.CutBlock
import Derived.Deep.QuietTactic
import Derived.BigQuiet
import Derived.StillTailTactics
import Derived.BigRegion
set_option linter.unusedVariables false
set_option linter.unusedSimpArgs false
namespace Go.Proofs.YtemnebbdaljfbaaGreatDoor
open Go.RowKit

/-- Behind a header that came in. -/
def AddP (S R : Nat → Prop) (w : World) (a : Nat) (X : DD) (H : Hd Nm) (w' : World) : Prop :=
  ∃ (S' R' : Nat → Prop) (F' : List Fam) (b : Blk), b.is = (nmH H, H) ∧ DG S' R' w' a ⟨X.m1, X.m2, b :: X.K, F'⟩ ∧ Mod S w w' ∧ (∀ k, S' k → S k ∨ w.heap.size ≤ k) ∧ (∀ k, R' k → R k ∨ w.heap.size ≤ k)
section
variable {S R : Nat → Prop} {w : World} {da : Nat} {X : DD}
theorem chkP_zero {K : List Blk} {H : Hd Nm} (h : ChkP K H 0) : HOkay H ∧ hasE (nmH H) (kE K) = false := by
  rcases h with ⟨h1, h2⟩ | ⟨_, _, h2⟩ | ⟨h1, h2, _⟩
  · exact absurd h2.symm h1
  · cases h2
  · exact ⟨chkH_ok h1, h2⟩
set_option maxRecDepth 20000 in
set_option maxHeartbeats 4000000 in
theorem dgadd_any (h : DG S R w da X) (H : Hd Nm) (ao : Option Addr) (cap : Nat) (hL : Rd encN w ao H.ps) (hao : ao = none ∨ ∃ b off, ao = some ⟨b, off, none⟩) (ok : HOk H) (hlen : X.K.length < 100000) (hT : TabAt w) :
    Calls Tryz.prog 15 #[.pointer (some ⟨da, 0, none⟩), .agg (hcells H ao cap)] w fun r w' => ∃ e, r = .returned (.int .i64 e) ∧ ChkP X.K H e ∧ ((e ≠ 0 ∧ Below w.heap.size w w') ∨ (e = 0 ∧ AddP S R w da X H w')) := by
  obtain ⟨F, hF⟩ : ∃ F : Ending → World → Prop, F = fun r w' => ∃ e, r = .returned (.int .i64 e) ∧ ChkP X.K H e ∧ ((e ≠ 0 ∧ Below w.heap.size w w') ∨ (e = 0 ∧ AddP S R w da X H w')) := ⟨_, rfl⟩
  rw [← hF]
  have HF := Lib.hid hF
  have HDG := Lib.hid h
  have HL := Lib.hid hL
  have HAO := Lib.hid hao
  have HT := Lib.hid hT
  have HOK := Lib.hid ok
  have HLEN := Lib.hid hlen
  obtain ⟨HC, hHC⟩ : ∃ HC, HC = hcells H ao cap := ⟨_, rfl⟩
  have HHC := Lib.hid hHC
  rw [← hHC]
  have hsz : (Tryz.prog.info? 41).map (·.size) = some HC.size := by rw [hHC]; show _ = some 7; kernel_rfl
  have HSZ := Lib.hid hsz
  obtain ⟨W1, hW1⟩ : ∃ W1, W1 = w.alloc (.cells HC 41) := ⟨_, rfl⟩
  obtain ⟨g, hg⟩ : ∃ g, g = w.heap.size := ⟨_, rfl⟩
  have hb1 : Below w.heap.size w W1 := by rw [hW1]; exact alloc1 _ _
  have hrow : W1.heap[g]? = some (.cells HC 41 (0, 0)) := by rw [hW1, hg]; exact heap_alloc_new w _
  have HW1 := Lib.hid hW1
  have HGE := Lib.hid hg
  have HB1 := Lib.hid hb1
  have HROW := Lib.hid hrow
  have HCK : Hid (Calls Tryz.prog 12 #[.pointer (some ⟨da, 0, none⟩), .agg HC] W1 fun r w' => ∃ e, r = .returned (.int .i64 e) ∧ ChkP X.K H e ∧ Below W1.heap.size W1 w') := Lib.hid (by rw [hHC]; exact dgcheck_any (h.old hb1) H ao cap (hL.old hb1) hao ok (hT.old hb1))
  clear h hL hao ok hT hF hHC hsz hW1 hg hb1 hrow hlen
  go_enter Tryz.func15, Tryz.ntmps15
  go_upto_region 1 with fail
  rw [← HW1.out, ← HGE.out]
  go_upto_region 2 with (refine wpList_exec rfl (exec_load_row 41 (.tmp 3) rfl g rfl 41 HC (0, 0) _ HROW.out Tryz.underlying41 rfl HSZ.out) ?_)
  refine HCK.out.mono ?_
  rintro r W2 ⟨e, rfl, hp, hb2⟩
  have hr2 := (hb2.block g (Array.getElem?_eq_some_iff.1 HROW.out).1).trans HROW.out
  have HR2 := Lib.hid hr2
  have HP := Lib.hid hp
  have HB2 := Lib.hid (HB1.out.trans (hb2.mono HB1.out.size))
  clear hb2 hr2 HCK hp
  by_cases he : e = 0
  · subst he
    have HMK : Hid (Calls Tryz.prog 40 #[.agg HC] W2 fun r w' => ∃ q c, r = .returned (.agg (⟨nmH H, H, q, c⟩ : Blk).cells.toArray) ∧ Rw encN 70 w' q c H.ps ∧ (∀ a, q = some a → W2.heap.size ≤ a.block) ∧ Below W2.heap.size W2 w') := Lib.hid (by
      rw [HHC.out]; exact tsmake_any H ao cap W2 (HL.out.old HB2.out) HAO.out HOK.out (HT.out.old HB2.out))
    go_upto_region 4 with (refine wpList_exec rfl (exec_load_row 41 (.tmp 3) rfl g rfl 41 HC (0, 0) _ HR2.out Tryz.underlying41 rfl HSZ.out) ?_)
    refine HMK.out.mono ?_
    rintro r W3 ⟨q, c, rfl, hq, hf, hb3⟩
    have hdg := HDG.out.old (HB2.out.trans (hb3.mono HB2.out.size))
    have hz := chkP_zero HP.out
    have hqs : ∀ x, q = some x → ¬ S x.block := fun x e hs => by
      have h1 := HDG.out.rl _ (HDG.out.rs _ hs)
      have h2 := hf x e
      have h3 := HB2.out.size
      omega
    have HPUT := Lib.hid (dgput_any (b := ⟨nmH H, H, q, c⟩) hdg hq hqs ⟨HOK.out, hz.1.2.2.2.2.2.1.2, hz.1.2.2.1.2⟩ hz.2 HLEN.out)
    have HB3 := Lib.hid (HB2.out.trans (hb3.mono HB2.out.size))
    have HFQ : Hid (∀ x, q = some x → w.heap.size ≤ x.block) := Lib.hid (fun x e => Nat.le_trans HB2.out.size (hf x e))
    obtain ⟨BC, hBC⟩ : ∃ BC, BC = (⟨nmH H, H, q, c⟩ : Blk).cells.toArray := ⟨_, rfl⟩
    rw [← hBC] at HPUT
    rw [← hBC]
    clear hdg hz hqs hq hf hb3 HMK hBC
    go_upto_region 4 with fail
    refine HPUT.out.mono ?_
    rintro r W4 ⟨rfl, hpp⟩
    have HPP := Lib.hid hpp
    clear hpp HPUT
    go_wp2_with fail
    rw [HF.out]
    obtain ⟨S', R', F', h1, h2, h3, h4⟩ := HPP.out
    refine ⟨0, rfl, HP.out, .inr ⟨rfl, S', R', F', ⟨nmH H, H, q, c⟩, rfl, h1, ((Mod.of_below HB3.out).mono (fun k h1 h2 => absurd h2 (by omega))).trans h2 (fun _ _ h => h), fun k hk => (h3 k hk).imp id (fun h => Nat.le_trans HB3.out.size h), fun k hk => ?_⟩⟩
    rcases h4 k hk with h | h | ⟨x, e, rfl⟩
    · exact .inl h
    · exact .inr (Nat.le_trans HB3.out.size h)
    · exact .inr (HFQ.out x e)
  · have HE := Lib.hid he
    go_wp2_with fail
    rw [HF.out]
    exact ⟨e, rfl, HP.out, .inl ⟨HE.out, HB2.out⟩⟩
end
theorem DG.empty (w : World) (a m1 m2 : Nat) (h1 : MapK Tryz.prog 70 keyN w m1 []) (h2 : MapK Tryz.prog 9 keyS w m2 []) (h3 : w.heap[a]? = some (.cells #[.map (some m1), .map (some m2)] 82 (0, 0))) (hne : m1 ≠ m2) :
    DG (fun k => k = m1 ∨ k = m2) (fun k => k = m1 ∨ k = m2 ∨ k = a) w a ⟨m1, m2, [], []⟩ := by
  have ha : a < w.heap.size := (Array.getElem?_eq_some_iff.1 h3).1
  refine ⟨h3, h1, h2, fun b hb => (by cases hb), fun b hb => (by cases hb), fun b hb => (by cases hb), .inl rfl, .inr rfl, fun b hb => (by cases hb), List.Pairwise.nil, fun b hb => (by cases hb), ?_, hne, .inr (.inr rfl), fun b hb => (by cases hb), fun k hk => by rcases hk with h | h; exact .inl h; exact .inr (.inl h), ?_, fun b hb => (by cases hb), fun b hb => (by cases hb), fun b hb => (by cases hb), Nat.le_refl _, Nat.zero_le _, fun f hf => (by cases hf)⟩
  · rintro (e | e)
    · exact h1.notCells h3 e
    · exact h2.notCells h3 e
  · rintro k (rfl | rfl | rfl)
    · exact h1.lt
    · exact h2.lt
    · exact ha
/-- A new dag. -/
def NewD (w : World) (da : Nat) (w' : World) : Prop :=
  ∃ (S R : Nat → Prop) (X : DD), DG S R w' da X ∧ X.K.map Blk.is = genX ∧ (∀ k, R k → w.heap.size ≤ k) ∧ Below w.heap.size w w'
set_option maxRecDepth 20000 in
set_option maxHeartbeats 4000000 in
theorem dgnew_any (w : World) (hT : TabAt w) : Calls Tryz.prog 8 #[] w fun r w' => ∃ da, r = .returned (.pointer (some ⟨da, 0, none⟩)) ∧ NewD w da w' := by
  obtain ⟨F, hF⟩ : ∃ F : Ending → World → Prop, F = fun r w' => ∃ da, r = .returned (.pointer (some ⟨da, 0, none⟩)) ∧ NewD w da w' := ⟨_, rfl⟩
  rw [← hF]
  have HF := Lib.hid hF
  have HT := Lib.hid hT
  obtain ⟨W1, hW1⟩ : ∃ W1, W1 = ((w.alloc (.map #[] 0)).alloc (.map #[] 0)).alloc (.cells #[.map (some w.heap.size), .map (some (w.heap.size + 1))] 82) := ⟨_, rfl⟩
  obtain ⟨m1, hm1⟩ : ∃ m1, m1 = w.heap.size := ⟨_, rfl⟩
  have hb1 : Below w.heap.size w W1 := by rw [hW1]; exact ((alloc1 _ _).alloc (by simp) _).alloc (by simp; omega) _
  have hdg : DG (fun k => k = m1 ∨ k = m1 + 1) (fun k => k = m1 ∨ k = m1 + 1 ∨ k = m1 + 1 + 1) W1 (m1 + 1 + 1) ⟨m1, m1 + 1, [], []⟩ := by
    obtain ⟨u1, hu1⟩ : ∃ u1, u1 = w.alloc (.map #[] 0) := ⟨_, rfl⟩
    have s1 : u1.heap.size = m1 + 1 := by rw [hu1, hm1]; simp
    obtain ⟨u2, hu2⟩ : ∃ u2, u2 = u1.alloc (.map #[] 0) := ⟨_, rfl⟩
    have s2 : u2.heap.size = m1 + 1 + 1 := by rw [hu2]; simp [s1]
    have k1 : MapK Tryz.prog 70 keyN u1 m1 [] := by rw [hu1, hm1]; exact MapK.made _ _ _ _
    have k2 : MapK Tryz.prog 9 keyS u2 (m1 + 1) [] := by rw [hu2, ← s1]; exact MapK.made _ _ _ _
    have e1 : W1 = u2.alloc (.cells #[.map (some m1), .map (some (m1 + 1))] 82) := by rw [hW1, hu2, hu1, hm1]
    have b2 : Below u1.heap.size u1 u2 := by rw [hu2]; exact alloc1 _ _
    have b3 : Below u2.heap.size u2 W1 := by rw [e1]; exact alloc1 _ _
    exact DG.empty W1 (m1 + 1 + 1) m1 (m1 + 1) ((k1.old b2).old b3) (k2.old b3) (by rw [e1, ← s2]; exact heap_alloc_new u2 _) (by omega)
  have HW1 := Lib.hid hW1
  have HM1 := Lib.hid hm1
  have HB1 := Lib.hid hb1
  have HDG := Lib.hid hdg
  clear hT hF hW1 hm1 hb1 hdg
  have hmk1 : ∀ w, (Instr.makeMap 79 none).run Tryz.prog w = .ok (.map (some w.heap.size)) (w.alloc (.map #[] 0)) := fun w => rfl
  have hmk2 : ∀ w, (Instr.makeMap 80 none).run Tryz.prog w = .ok (.map (some w.heap.size)) (w.alloc (.map #[] 0)) := fun w => rfl
  go_enter Tryz.func8, Tryz.ntmps8
  go_upto_region 2 with fail
  rw [← HW1.out, ← HM1.out]
  go_upto_region 3 with fail
  refine (genesis_any W1).mono ?_
  rintro r W2 ⟨rfl, hb2⟩
  have HB2 := Lib.hid (HB1.out.trans (hb2.mono HB1.out.size))
  have HDG2 := Lib.hid (HDG.out.old hb2)
  have HMK := Lib.hid (tsmake_any ghd none 0 W2 (Rd.nil _ _) (.inl rfl) ghd_ok (HT.out.old HB2.out))
  clear hb2
  go_upto_region 3 with fail
  refine HMK.out.mono ?_
  rintro r W3 ⟨q, c, rfl, hq, hf, hb3⟩
  have hqs : ∀ x, q = some x → ¬ (x.block = m1 ∨ x.block = m1 + 1) := fun x e hs => by
    have h1 := HDG2.out.rl _ (HDG2.out.rs _ hs)
    have h2 := hf x e
    omega
  have HPUT := Lib.hid (dgput_any (b := ⟨nmH ghd, ghd, q, c⟩) (HDG2.out.old hb3) hq hqs ⟨ghd_ok, Nat.zero_le 5, Nat.zero_le 8⟩ rfl (by show 0 < 100000; decide))
  have HB3 := Lib.hid (HB2.out.trans (hb3.mono HB2.out.size))
  have HFQ : Hid (∀ x, q = some x → w.heap.size ≤ x.block) := Lib.hid (fun x e => Nat.le_trans HB2.out.size (hf x e))
  obtain ⟨BC, hBC⟩ : ∃ BC, BC = (⟨nmH ghd, ghd, q, c⟩ : Blk).cells.toArray := ⟨_, rfl⟩
  rw [← hBC] at HPUT
  rw [← hBC]
  clear hqs hq hf hb3 HMK hBC
  go_upto_region 3 with fail
  refine HPUT.out.mono ?_
  rintro r W4 ⟨rfl, hpp⟩
  have HPP := Lib.hid hpp
  clear hpp HPUT
  go_wp2_with fail
  rw [HF.out]
  obtain ⟨S', R', F', h1, h2, h3, h4⟩ := HPP.out
  refine ⟨m1 + 1 + 1, rfl, S', R', _, h1, rfl, fun k hk => ?_, HB3.out.trans (h2.to_below HB3.out.size (fun k hk hs => by have := HM1.out; rcases hs with rfl | rfl <;> omega))⟩
  rcases h4 k hk with h | h | ⟨x, e, rfl⟩
  · have := HM1.out; rcases h with rfl | rfl | rfl <;> omega
  · exact Nat.le_trans HB3.out.size h
  · exact HFQ.out x e
end Go.Proofs.YtemnebbdaljfbaaGreatDoor

namespace Go.Proofs.YtemnebbdaljfbaaGreatDoor
open Go.ChangeShapes Go.WideShapes Go.ChangeAt Go.RowKit Go.Deep

set_option maxRecDepth 20000 in
theorem open_ints1 {H : Type} {enc : TypeId × Value → H} {W : World} {v : Value} {fuel : Nat} {x : DataW H × List MemPlace} (hf : DataW.trod enc Tryz.prog W 0 (fun _ => true) true fuel 48 [v] = some x) :
    ∃ ao cap S, v = .slice ao S.length cap ∧ Rd encI W ao S ∧ (∀ x ∈ S, -9223372036854775808 ≤ x ∧ x ≤ 9223372036854775807) ∧ S.length ≤ 9223372036854775807 ∧ S.length ≤ cap := by
  rcases open_slice1 Tryz.underlying48 (by kernel_rfl) hf with ⟨hc, _⟩ | ⟨a', len', cap', m, k, V, D, Pl, hc, _, hl, hm, hmm, _, hall⟩
  · have hc2 : [v] = [Value.slice none 0 0] := hc
    simp only [List.cons.injEq, and_true] at hc2
    subst hc2
    exact ⟨none, 0, [], rfl, Rd.nil _ _, (fun x hx => by simp at hx), Nat.zero_le _, Nat.le_refl _⟩
  · have hc2 : [v] = [Value.slice (some a') len' cap'] := hc
    simp only [List.cons.injEq, and_true] at hc2
    subst hc2
    simp only [if_true] at hmm
    subst hmm
    have hj : ∀ i, i < len' → ∃ s : Int, V i = .int .i64 s ∧ -9223372036854775808 ≤ s ∧ s ≤ 9223372036854775807 := by
      intro i hi
      obtain ⟨N, h1, _, hw⟩ := DataW.trod_int Tryz.underlying3 (hall i (by omega)).2
      simp only [List.cons.injEq, and_true] at h1
      have b := bounds_i64 hw
      exact ⟨N, h1, by omega, by omega⟩
    obtain ⟨f, hf2⟩ := choose_lt hj
    obtain ⟨bs, off, spot⟩ := a'
    by_cases h0 : 0 < m
    · have hspot : spot = none := by simpa [Addr.add] using World.cell?_spot (hall 0 (by omega)).1
      subst hspot
      refine ⟨some ⟨bs, off, none⟩, m, (List.range len').map f, by simp, ?_, ?_, by unfold maxLen at hm; rw [List.length_map, List.length_range]; omega, by rw [List.length_map, List.length_range]; exact hl⟩
      · intro j hjl
        have hjn : j < len' := by simpa using hjl
        have e0 := (hf2 j hjn).1
        obtain ⟨c0, _⟩ := hall j (by omega)
        rw [e0] at c0
        have c0' : W.cell? ⟨bs, off + j, none⟩ = some (.int .i64 (f j)) := by simpa [Addr.add_lit] using c0
        refine ⟨bs, off, rfl, cell_block c0', fun i u hu => ?_⟩
        have hi0 : i = 0 := by
          have := (List.getElem?_eq_some_iff.1 hu).1
          simp [encI] at this; exact this
        subst hi0
        simp only [encI, List.getElem?_cons_zero, Option.some.injEq] at hu
        subst hu
        simpa [encI] using c0'
      · intro x hx
        obtain ⟨i, hi, rfl⟩ := List.mem_map.1 hx
        exact (hf2 i (List.mem_range.1 hi)).2
    · have hl0 : len' = 0 := by omega
      subst hl0
      exact ⟨some ⟨bs, off, spot⟩, m, [], rfl, (fun j hj => by simp at hj), (fun x hx => by simp at hx), Nat.zero_le _, Nat.zero_le _⟩
def i64ok (x : Int) : Prop := -9223372036854775808 ≤ x ∧ x ≤ 9223372036854775807

def I6 (x : Int) : Prop := -9223372036854775808 ≤ x ∧ x ≤ 9223372036854775807
/-- A header of the reference's in memory, whatever it says. -/
structure argH (w : World) (x : RH) : Prop where
  rd : Rd encS w x.q x.h.ps
  k : (x.h.tk.length : Int) ≤ 9223372036854775807
  pw : x.h.pw < 18446744073709551616
  b1 : I6 x.h.ht
  b2 : I6 x.h.mi
  b3 : I6 x.h.wi
  b4 : I6 x.h.sa
theorem argH.old {w w' : World} {x : RH} (h : argH w x) (hb : Below w.heap.size w w') : argH w' x := ⟨h.rd.old hb, h.k, h.pw, h.b1, h.b2, h.b3, h.b4⟩
/-- A seed. -/
structure SD where
  oL : List Int
  oq : Option Addr
  oc : Nat
  up : Int
  mi : Int
  wi : Int
  pw : Int
  tk : List UInt8
  sa : Int
  raw : Bool
  x : RH
instance : Inhabited SD := ⟨⟨[], none, 0, 0, 0, 0, 0, [], 0, false, default⟩⟩
def SD.cells (s : SD) : List Value := [.slice s.oq s.oL.length s.oc, .int .i64 s.up, .int .i64 s.mi, .int .i64 s.wi, .int .i64 s.pw, .string ⟨s.tk.toArray⟩, .int .i64 s.sa, .bool s.raw] ++ s.x.cells
theorem SD.len (s : SD) : s.cells.length = 15 := rfl
theorem SD.one (s : SD) : ∀ v ∈ s.cells, v.oneCell' = true := by
  intro v hv
  rcases List.mem_append.1 hv with h | h
  · simp only [List.mem_cons, List.not_mem_nil, or_false] at h
    rcases h with rfl | rfl | rfl | rfl | rfl | rfl | rfl | rfl <;> rfl
  · exact s.x.one v h
def encSD : Enc SD := ⟨SD.cells, 15, SD.len, SD.one, by decide⟩
structure argS (w : World) (s : SD) : Prop where
  rd : Rd encI w s.oq s.oL
  oi : ∀ z ∈ s.oL, I6 z
  ol : s.oL.length ≤ 9223372036854775807
  b1 : I6 s.up
  b2 : I6 s.mi
  b3 : I6 s.wi
  b4 : I6 s.pw
  b5 : I6 s.sa
  k : (s.tk.length : Int) ≤ 9223372036854775807
  x : argH w s.x
theorem argS.old {w w' : World} {s : SD} (h : argS w s) (hb : Below w.heap.size w w') : argS w' s := ⟨h.rd.old hb, h.oi, h.ol, h.b1, h.b2, h.b3, h.b4, h.b5, h.k, h.x.old hb⟩
set_option maxRecDepth 20000 in
set_option maxHeartbeats 2000000 in
theorem open_seeds {H : Type} {enc : TypeId × Value → H} {W : World} {base : Nat} {v : Value} {d : DataW H} {ps : List MemPlace} (hval : Value.okWide Tryz.prog W .any base 22 v) (h : DataW.Trod enc Tryz.prog W 0 (fun _ => true) true 22 v d ps) :
    ∃ ao cap L, v = .slice ao L.length cap ∧ Rd encSD W ao L ∧ (∀ s ∈ L, argS W s) ∧ L.length ≤ 9223372036854775807 := by
  obtain ⟨a, len, cap, rfl⟩ := okWide_slice Tryz.underlying22 hval
  obtain ⟨fuel, hf⟩ := h
  have hf : DataW.trod enc Tryz.prog W 0 (fun _ => true) true fuel 22 [Value.slice a len cap] = some (d, ps) := by simpa [Value.cells] using hf
  have h15 : Tryz.prog.cellsOf 88 = 15 := by kernel_rfl
  have h7 : Tryz.prog.cellsOf 29 = 7 := by kernel_rfl
  have ki : Tryz.prog.cellsOf 3 = 1 := by kernel_rfl
  have kii : Tryz.prog.cellsOf 48 = 1 := by kernel_rfl
  have kb : Tryz.prog.cellsOf 4 = 1 := by kernel_rfl
  have ks : Tryz.prog.cellsOf 9 = 1 := by kernel_rfl
  have ku : Tryz.prog.cellsOf 26 = 1 := by kernel_rfl
  have kt : Tryz.prog.cellsOf 27 = 1 := by kernel_rfl
  rcases open_slice Tryz.underlying22 hf with ⟨hc, _⟩ | ⟨a', len', cap', m, n, D, Pl, hc, _, hl, hm, hmm, _, hall⟩
  · have hc2 : [Value.slice a len cap] = [Value.slice none 0 0] := hc
    simp only [List.cons.injEq, and_true] at hc2
    rw [hc2]
    exact ⟨none, 0, [], rfl, Rd.nil _ _, fun s hs => by simp at hs, Nat.zero_le _⟩
  · have hc2 : [Value.slice a len cap] = [Value.slice (some a') len' cap'] := hc
    simp only [List.cons.injEq, and_true] at hc2
    rw [hc2]
    simp only [if_true] at hmm
    subst hmm
    have hj : ∀ i, i < len' → ∃ s : SD, argS W s ∧ ∀ t u, s.cells[t]? = some u → W.cell? ((a'.add (i * 15)).add t) = some u := by
      intro i hi
      obtain ⟨cs', h1, h2⟩ := hall i (by omega)
      rw [h15] at h1
      obtain ⟨_, hlen, hcell⟩ := World.cells?_some h1
      obtain ⟨xs, k, _, _, _, hxl, hg⟩ := DataW.trod_struct Tryz.underlying88 h2
      match xs, hxl, cs', hlen with
      | [y0, y1, y2, y3, y4, y5, y6, y7, y8], _, [v0, v1, v2, v3, v4, v5, v6, v7, v8, v9, v10, v11, v12, v13, v14], _ =>
        have g0 := hg 0 _ rfl
        have g1 := hg 1 _ rfl
        have g2 := hg 2 _ rfl
        have g3 := hg 3 _ rfl
        have g4 := hg 4 _ rfl
        have g5 := hg 5 _ rfl
        have g6 := hg 6 _ rfl
        have g7 := hg 7 _ rfl
        have g8 := hg 8 _ rfl
        simp [ki, kii, kb, ks, h7] at g0 g1 g2 g3 g4 g5 g6 g7 g8
        obtain ⟨oq, oc, oL, rfl, hO, hoi, hol, _⟩ := open_ints1 g0
        obtain ⟨n1, e1, _, w1⟩ := DataW.trod_int Tryz.underlying3 g1
        obtain ⟨n2, e2, _, w2⟩ := DataW.trod_int Tryz.underlying3 g2
        obtain ⟨n3, e3, _, w3⟩ := DataW.trod_int Tryz.underlying3 g3
        obtain ⟨n4, e4, _, w4⟩ := DataW.trod_int Tryz.underlying3 g4
        obtain ⟨s5, e5, _, w5⟩ := DataW.trod_string Tryz.underlying9 g5
        obtain ⟨n6, e6, _, w6⟩ := DataW.trod_int Tryz.underlying3 g6
        obtain ⟨b7, e7, _⟩ := DataW.trod_bool Tryz.underlying4 g7
        simp only [List.cons.injEq, and_true] at e1 e2 e3 e4 e5 e6 e7
        subst e1 e2 e3 e4 e5 e6 e7
        obtain ⟨xs2, k2, _, _, _, hxl2, hg2⟩ := DataW.trod_struct Tryz.underlying29 g8
        match xs2, hxl2 with
        | [z0, z1, z2, z3, z4, z5, z6], _ =>
          have q0 := hg2 0 _ rfl
          have q1 := hg2 1 _ rfl
          have q2 := hg2 2 _ rfl
          have q3 := hg2 3 _ rfl
          have q4 := hg2 4 _ rfl
          have q5 := hg2 5 _ rfl
          have q6 := hg2 6 _ rfl
          simp [ki, ks, ku, kt] at q0 q1 q2 q3 q4 q5 q6
          obtain ⟨m0, e0, _, x0⟩ := DataW.trod_int Tryz.underlying3 q0
          obtain ⟨m1, e1, _, x1⟩ := DataW.trod_int Tryz.underlying3 q1
          obtain ⟨s2, e2, _, x2⟩ := DataW.trod_string Tryz.underlying9 q2
          obtain ⟨m3, e3, _, x3⟩ := DataW.trod_int Tryz.underlying3 q3
          obtain ⟨m4, e4, _, x4⟩ := DataW.trod_int Tryz.underlying26 q4
          obtain ⟨ao, cap2, L, rfl, hR, _, _, _⟩ := open_texts1 q5
          obtain ⟨m6, e6, _, x6⟩ := DataW.trod_int Tryz.underlying3 q6
          simp only [List.cons.injEq, and_true] at e0 e1 e2 e3 e4 e6
          subst e0 e1 e2 e3 e4 e6
          have b4 := bounds_u64 x4
          have l5 : s5.data.toList.length = s5.size := rfl
          have l2 : s2.data.toList.length = s2.size := rfl
          unfold maxLen at w5 x2
          refine ⟨⟨oL, oq, oc, n1, n2, n3, n4, s5.data.toList, n6, b7, ⟨⟨m0, m1, s2.data.toList, m3, m4.toNat, L, m6⟩, ao, cap2⟩⟩, ⟨hO, hoi, hol, bounds_i64 w1, bounds_i64 w2, bounds_i64 w3, bounds_i64 w4, bounds_i64 w6, by simp only; omega, ⟨hR, by simp only; omega, by simp only; omega, bounds_i64 x0, bounds_i64 x1, bounds_i64 x3, bounds_i64 x6⟩⟩, fun t u hu => ?_⟩
          have ht : t < 15 := by have := (List.getElem?_eq_some_iff.1 hu).1; rwa [SD.len] at this
          have q := hcell t (by omega)
          rw [q, ← hu]
          match t, ht with
          | 0, _ => rfl
          | 1, _ => rfl
          | 2, _ => rfl
          | 3, _ => rfl
          | 4, _ => rfl
          | 5, _ => simp [SD.cells]
          | 6, _ => rfl
          | 7, _ => rfl
          | 8, _ => rfl
          | 9, _ => rfl
          | 10, _ => simp [SD.cells, RH.cells, hcells]
          | 11, _ => rfl
          | 12, _ => simp [SD.cells, RH.cells, hcells, Int.toNat_of_nonneg b4.1]
          | 13, _ => rfl
          | 14, _ => rfl
    obtain ⟨f, hf2⟩ := choose_lt hj
    refine ⟨some a', m, (List.range len').map f, by simp, ?_, ?_, by simp; unfold maxLen at hm; omega⟩
    · intro j hjl
      have hjn : j < len' := by simpa using hjl
      obtain ⟨bs, off, spot⟩ := a'
      obtain ⟨ho, hcs⟩ := hf2 j hjn
      have c0 := hcs 0 _ rfl
      have hspot : spot = none := by simpa [Addr.add] using World.cell?_spot ((hf2 0 (by omega)).2 0 _ rfl)
      subst hspot
      refine ⟨bs, off, rfl, by have := cell_block c0; simpa [Addr.add_lit] using this, fun i u hu => ?_⟩
      rw [List.getElem_map, List.getElem_range] at hu
      have := hcs i u hu
      simpa [Addr.add_lit, encSD] using this
    · intro s hs
      obtain ⟨i, hi, rfl⟩ := List.mem_map.1 hs
      exact (hf2 i (List.mem_range.1 hi)).1
end Go.Proofs.YtemnebbdaljfbaaGreatDoor

namespace Go.Proofs.YtemnebbdaljfbaaGreatDoor
open Go.RowKit
set_option maxRecDepth 100000 in
theorem one_ne : nmH oneHd ≠ nmH ghd := by
  intro h
  have : shaB (hbytes (·.1) oneHd) = shaB (hbytes (·.1) ghd) := congrArg (·.1) h
  revert this
  decide +kernel
end Go.Proofs.YtemnebbdaljfbaaGreatDoor

namespace Go.Proofs.YtemnebbdaljfbaaGreatDoor
open Go.RowKit

set_option maxHeartbeats 400000 in
theorem turn_any (x n : Nat) (w : World) (hx : x < 4294967296) (hn : n ≤ 32) :
    Calls Tryz.prog 117 #[.int .u64 x, .int .i64 (n : Int)] w fun r w' => r = .returned (.int .u64 (rotr x n : Int)) ∧ w = w' := by
  obtain ⟨x0, hx0⟩ : ∃ x0, x0 = x := ⟨_, rfl⟩
  have hs : x = rotr x0 0 := by rw [hx0, rotr_zero]
  rw [← hx0] at hx ⊢
  go_enter Tryz.func117, Tryz.ntmps117
  go_wp2_with fail
  go_loopw [0, 5] (fun y i wr => ∃ k : Nat, k ≤ n ∧ y = .int .u64 (rotr x0 k : Int) ∧ i = .int .i64 k ∧ w = wr) (fun _ i _ => n - (intOf i).toNat)
  case atStart => exact ⟨0, by omega, by rw [rotr_zero], rfl, rfl⟩
  case round =>
    obtain ⟨k, hk, rfl, rfl, rfl⟩ := hrel
    by_cases hlt : k < n
    · have hsu := rotr_succ x0 k (by omega)
      have hr1 := rotr_lt x0 k hx (by omega)
      generalize rotr x0 k = y at hsu hr1
      have H := Lib.hid hsu
      have h1 : (k : Int) < n := by omega
      have y0 : (0 : Int) ≤ y := by omega
      have d1 : (y : Int).tdiv 2 = ((y / 2 : Nat) : Int) := by rw [Int.tdiv_eq_ediv_of_nonneg y0]; omega
      have d2 : (y : Int).tmod 2 = ((y % 2 : Nat) : Int) := by rw [Int.tmod_eq_emod_of_nonneg y0]; omega
      have b1 : y / 2 < 2147483648 := by omega
      have b2 : y % 2 < 2 := by omega
      generalize y / 2 = p at *
      generalize y % 2 = q at *
      clear hsu
      go_wp2_with fail
      go_roundw
      case rel => exact ⟨k + 1, by omega, by rw [H.out]; go_num, by go_num, trivial⟩
      case measure => simp [intOf]; omega
    · obtain rfl : k = n := by omega
      go_wp2_with fail
      go_ret
      exact ⟨rfl, rfl⟩
theorem div_pow_succ (x k : Nat) : x / 2 ^ (k + 1) = x / 2 ^ k / 2 := by rw [Nat.pow_succ, Nat.div_div_eq_div_mul]

set_option maxHeartbeats 400000 in
theorem down_any (x n : Nat) (w : World) (hx : x < 4294967296) (hn : n ≤ 32) :
    Calls Tryz.prog 118 #[.int .u64 x, .int .i64 (n : Int)] w fun r w' => r = .returned (.int .u64 ((x / 2 ^ n : Nat) : Int)) ∧ w = w' := by
  obtain ⟨f, hf⟩ : ∃ f : Nat → Nat, f = fun k => x / 2 ^ k := ⟨_, rfl⟩
  have f0 : x = f 0 := by rw [hf]; simp
  have fs : ∀ k, f (k + 1) = f k / 2 := by intro k; rw [hf]; exact div_pow_succ x k
  have fl : ∀ k, f k < 4294967296 := by intro k; rw [hf]; exact Nat.lt_of_le_of_lt (Nat.div_le_self _ _) hx
  have fn : x / 2 ^ n = f n := by rw [hf]
  rw [fn]
  have F0 := Lib.hid f0
  have Fs := Lib.hid fs
  clear hf f0 fs fn
  go_enter Tryz.func118, Tryz.ntmps118
  go_wp2_with fail
  go_loopw [0, 5] (fun y i wr => ∃ k : Nat, k ≤ n ∧ y = .int .u64 (f k : Int) ∧ i = .int .i64 k ∧ w = wr) (fun _ i _ => n - (intOf i).toNat)
  case atStart => exact ⟨0, by omega, by rw [← F0.out], rfl, rfl⟩
  case round =>
    obtain ⟨k, hk, rfl, rfl, rfl⟩ := hrel
    by_cases hlt : k < n
    · have hsu := Fs.out k
      have hr1 := fl k
      generalize f k = y at hsu hr1
      have H := Lib.hid hsu
      have h1 : (k : Int) < n := by omega
      have y0 : (0 : Int) ≤ y := by omega
      have d1 : (y : Int).tdiv 2 = ((y / 2 : Nat) : Int) := by rw [Int.tdiv_eq_ediv_of_nonneg y0]; omega
      have b1 : y / 2 < 2147483648 := by omega
      generalize y / 2 = p at *
      clear hsu
      go_wp2_with fail
      go_roundw
      case rel => exact ⟨k + 1, by omega, by rw [H.out], by go_num, trivial⟩
      case measure => simp [intOf]; omega
    · obtain rfl : k = n := by omega
      go_wp2_with fail
      go_ret
      exact ⟨rfl, rfl⟩

set_option maxHeartbeats 400000 in
set_option maxRecDepth 100000 in
theorem keys_any (w : World) :
    Calls Tryz.prog 116 #[] w fun r w' => r = .returned (.slice (some ⟨w.heap.size, 0, none⟩) 64 64) ∧ Mod (fun _ => False) w w' ∧ RowAt .u64 26 w' w.heap.size kTab := by
  go_enter Tryz.func116, Tryz.ntmps116
  go_wp2_with fail
  generalize hW : w.alloc _ = W
  have h1 : Mod (fun _ => False) w W ∧ RowAt .u64 26 W w.heap.size kTab := by rw [← hW]; exact ⟨(Mod.refl _ _).alloc _, heap_alloc_new _ _⟩
  clear hW
  go_ret
  exact ⟨rfl, h1⟩
end Go.Proofs.YtemnebbdaljfbaaGreatDoor

namespace Go.Proofs.YtemnebbdaljfbaaGreatDoor

theorem absorb_app (a b : List Nat) : absorb (a ++ b) = b.foldl absorb1 (absorb a) := by simp [absorb]

theorem fold_part (b : List Nat) (s : List Nat × List Nat) (h : s.2.length + b.length < 64) : b.foldl absorb1 s = (s.1, s.2 ++ b) := by
  induction b generalizing s with
  | nil => simp
  | cons x b ih =>
    rw [List.length_cons] at h
    rw [List.foldl_cons, absorb1, if_neg (by omega), ih _ (by simp; omega)]
    simp

/-- A whole block more. -/
theorem fold_block (b H : List Nat) (h : b.length = 64) : b.foldl absorb1 (H, []) = (block H b, []) := by
  have hne : b ≠ [] := by intro e; rw [e] at h; simp at h
  obtain ⟨c, x, rfl⟩ : ∃ c x, b = c ++ [x] := ⟨b.dropLast, b.getLast hne, (List.dropLast_concat_getLast hne).symm⟩
  have hl : c.length = 63 := by simp at h; omega
  rw [List.foldl_append, fold_part c (H, []) (by simp; omega), List.nil_append, List.foldl_cons, List.foldl_nil, absorb1, if_pos (by simp; omega)]

theorem absorb_whole (m : List Nat) (h : m.length % 64 = 0) : (absorb m).2 = [] := by
  have := absorb_buf m; rw [h] at this; exact List.eq_nil_of_length_eq_zero this

/-- The words behind j blocks. -/
def wordsAt (m : List Nat) (j : Nat) : List Nat := (absorb (m.take (64 * j))).1
theorem wordsAt_zero (m : List Nat) : wordsAt m 0 = hTab := by simp [wordsAt, absorb]
def chunk (m : List Nat) (j : Nat) : List Nat := (m.drop (64 * j)).take 64
theorem chunk_len (m : List Nat) (j : Nat) (h : 64 * (j + 1) ≤ m.length) : (chunk m j).length = 64 := by simp [chunk]; omega
theorem chunk_at (m : List Nat) (j i : Nat) (hi : i < 64) : (chunk m j).getD i 0 = m.getD (64 * j + i) 0 := by
  simp [chunk, List.getD, List.getElem?_drop, hi]
theorem wordsAt_succ (m : List Nat) (j : Nat) (h : 64 * (j + 1) ≤ m.length) : wordsAt m (j + 1) = block (wordsAt m j) (chunk m j) := by
  have e : m.take (64 * (j + 1)) = m.take (64 * j) ++ chunk m j := by
    rw [chunk, show 64 * (j + 1) = 64 * j + 64 by omega, List.take_add]
  have hb : (absorb (m.take (64 * j))).2 = [] := absorb_whole _ (by rw [List.length_take]; omega)
  unfold wordsAt
  rw [e, absorb_app, show absorb (m.take (64 * j)) = ((absorb (m.take (64 * j))).1, []) by rw [← hb], fold_block _ _ (chunk_len m j h)]
theorem wordsAt_len (m : List Nat) (j : Nat) : (wordsAt m j).length = 8 := absorb_words _
theorem wordsAt_lt (m : List Nat) (j : Nat) : ∀ x ∈ wordsAt m j, x < 4294967296 := absorb_lt _
theorem wordsAt_end (m : List Nat) (j : Nat) (h : 64 * j = m.length) : (absorb m).1 = wordsAt m j := by
  unfold wordsAt; rw [List.take_of_length_le (by omega)]

theorem padded_len (m : List Nat) : (padded m).length % 64 = 0 := by
  simp only [padded, List.length_append, List.length_singleton, List.length_replicate, lenBytes_len, zeros]
  omega
theorem padded_lt (m : List Nat) (h : ∀ x ∈ m, x < 256) : ∀ x ∈ padded m, x < 256 := by
  intro x hx
  simp only [padded, List.mem_append, List.mem_singleton] at hx
  rcases hx with ((hx | hx) | hx) | hx
  · exact h x hx
  · omega
  · rw [List.eq_of_mem_replicate hx]; omega
  · obtain ⟨i, _, rfl⟩ := List.mem_map.1 hx; exact Nat.mod_lt _ (by decide)

/-- The length's bytes from behind. -/
theorem lenBytes_from (n k : Nat) (hk : k < 8) : (lenBytes n 8).drop (7 - k) = (n * 8 / 256 ^ k % 256) :: (lenBytes n 8).drop (8 - k) := by
  have hl := lenBytes_len n 8
  rw [List.drop_eq_getElem_cons (by omega), show 7 - k + 1 = 8 - k by omega]
  congr 1
  simp only [lenBytes, List.getElem_map, List.getElem_range]
  rw [show 7 - (7 - k) = k by omega, Nat.pow_mul]

/-- The words of a block by one sum. -/
theorem sched_next (L : List Nat) (n : Nat) (h : 16 ≤ n) : schedTo L (n + 1) = schedTo L n ++ [((schedTo L n).getD (n - 16) 0 + s0 ((schedTo L n).getD (n - 15) 0) + (schedTo L n).getD (n - 7) 0 + s1 ((schedTo L n).getD (n - 2) 0)) % 4294967296] := by
  show schedTo L n ++ [_] = _
  rw [if_neg (by omega)]
  congr 2
  generalize (schedTo L n).getD (n - 16) 0 = a
  generalize s0 _ = b
  generalize (schedTo L n).getD (n - 7) 0 = c
  generalize s1 _ = d
  omega
theorem sched_first (L : List Nat) (n : Nat) (h : n < 16) : schedTo L (n + 1) = schedTo L n ++ [w16 L n] := by
  show schedTo L n ++ [_] = _
  rw [if_pos h]

theorem tOf_sum (v : V) (k w : Nat) : tOf v k w = (v.h + S1 v.e + ch v.e v.f v.g + k + w) % 4294967296 := by
  unfold tOf
  generalize S1 _ = a
  generalize ch _ _ _ = b
  omega

/-- A word's four bytes. -/
def four (x : Nat) : List Nat := [x / 16777216 % 256, x / 65536 % 256, x / 256 % 256, x % 256]
theorem outTo_four (H : List Nat) (k : Nat) : outTo H (4 * (k + 1)) = outTo H (4 * k) ++ four (H.getD k 0) := by
  rw [show 4 * (k + 1) = 4 * k + 1 + 1 + 1 + 1 by omega, outTo_succ, outTo_succ, outTo_succ, outTo_succ]
  rw [show (4 * k + 1 + 1 + 1) / 4 = k by omega, show (4 * k + 1 + 1) / 4 = k by omega, show (4 * k + 1) / 4 = k by omega, show 4 * k / 4 = k by omega,
    show (4 * k + 1 + 1 + 1) % 4 = 3 by omega, show (4 * k + 1 + 1) % 4 = 2 by omega, show (4 * k + 1) % 4 = 1 by omega, show 4 * k % 4 = 0 by omega]
  simp [four]
end Go.Proofs.YtemnebbdaljfbaaGreatDoor

namespace Go.Proofs.YtemnebbdaljfbaaGreatDoor
open Go.RowKit

/-- A row of words, owned, from B on. -/
def W64 (B : Nat) (w : World) (g cap : Nat) (A : List Nat) : Prop := w.ownsRow B 26 1 (.slice (some ⟨g, 0, none⟩) A.length cap) A.length (nums .u64 A)

theorem W64.row {B : Nat} {w : World} {g cap : Nat} {A : List Nat} (h : W64 B w g cap A) :
    B ≤ g ∧ ∃ cur, w.heap[g]? = some (.cells cur 26 (0, 0)) ∧ A.length ≤ cap ∧ cap ≤ maxLen ∧ cur.size = cap ∧ cur.toList.take A.length = nums .u64 A := by
  rcases h.2 with ⟨h, _⟩ | ⟨g', cap', cur, e, hb, hh, h1, h2, h3, h4⟩
  · cases h
  · simp only [Value.slice.injEq, Option.some.injEq, Addr.mk.injEq] at e
    obtain ⟨⟨rfl, _, _⟩, _, rfl⟩ := e
    exact ⟨hb, cur, hh, h1, h2, by simpa using h3, by simpa using h4⟩
theorem W64.lo {B : Nat} {w : World} {g cap : Nat} {A : List Nat} (h : W64 B w g cap A) : B ≤ g := h.row.1
theorem W64.lt {B : Nat} {w : World} {g cap : Nat} {A : List Nat} (h : W64 B w g cap A) : g < w.heap.size := by
  obtain ⟨_, cur, hh, _⟩ := h.row; exact (Array.getElem?_eq_some_iff.1 hh).1
theorem W64.cell {B : Nat} {w : World} {g cap : Nat} {A : List Nat} (h : W64 B w g cap A) (i : Nat) (hi : i < A.length) : w.cell? ⟨g, i, none⟩ = some (.int .u64 (A[i]'hi)) := by
  obtain ⟨_, cur, hh, _, _, _, ht⟩ := h.row
  rw [cell_of_row w g i _ 26 (0, 0) hh]
  have := nums_get .u64 A i hi
  rw [← ht, List.getElem?_take_of_lt hi] at this
  simpa using this
theorem W64.kept {B : Nat} {w w' : World} {g cap : Nat} {A : List Nat} {S : Nat → Prop} (h : W64 B w g cap A) (hm : Mod S w w') (hg : ¬ S g) : W64 B w' g cap A := by
  obtain ⟨hb, cur, hh, h1, h2, h3, h4⟩ := h.row
  exact ⟨h.1, .inr ⟨g, cap, cur, rfl, hb, (hm.block g h.lt hg).trans hh, h1, h2, by simpa using h3, by simpa using h4⟩⟩
theorem W64.fresh {B : Nat} (w : World) (A : List Nat) (hB : B ≤ w.heap.size) (hl : A.length ≤ maxLen) : W64 B (w.alloc (.cells (nums .u64 A).toArray 26 (0, 0))) w.heap.size A.length A :=
  ⟨by simp [nums_len], .inr ⟨_, _, _, rfl, hB, heap_alloc_new _ _, Nat.le_refl _, hl, by simp [nums_len], by simp [nums, List.take_of_length_le]⟩⟩

/-- What the document's own answer has laid by: its words, and the rounds' words. -/
structure RefAt (w : World) (gh gk B : Nat) (H : List Nat) (wr : World) : Prop where
  m : Mod (fun _ => False) w wr
  h : RowAt .u64 26 wr gh H
  k : RowAt .u64 26 wr gk kTab
  lo : w.heap.size ≤ gh
  hb : gh < B
  kb : gk < B
  ne : gh ≠ gk
  b : B ≤ wr.heap.size
theorem RefAt.step {w : World} {gh gk B : Nat} {H : List Nat} {wr w' : World} (r : RefAt w gh gk B H wr) (hm : Mod (fun i => B ≤ i) wr w') : RefAt w gh gk B H w' :=
  ⟨r.m.trans hm (by intro i hi h; have := r.lo; have := r.hb; omega), r.h.kept hm (by have := r.hb; omega), r.k.kept hm (by have := r.kb; omega), r.lo, r.hb, r.kb, r.ne, Nat.le_trans r.b hm.size⟩
theorem RefAt.set {w : World} {gh gk B : Nat} {H : List Nat} {wr : World} (r : RefAt w gh gk B H wr) (i x : Nat) : RefAt w gh gk B (H.set i x) (wr.setCell ⟨gh, i, none⟩ (.int .u64 x)) := by
  have hm : Mod (· = gh) wr (wr.setCell ⟨gh, i, none⟩ (.int .u64 x)) := (Mod.refl (· = gh) _).setCell (p := ⟨gh, i, none⟩) (fun _ => rfl) _
  have := r.lo; have := r.ne
  exact ⟨r.m.trans hm (by intro i hi h; omega), r.h.set i x, r.k.kept hm (by omega), r.lo, r.hb, r.kb, r.ne, Nat.le_trans r.b hm.size⟩
/-- A word more behind an owned row. -/
theorem W64.push {B : Nat} {w w' : World} {g g' cap cap' : Nat} {A : List Nat} {x : Nat} (_ : W64 B w g cap A)
    (ho : w'.ownsRow B 26 1 (.slice (some ⟨g', 0, none⟩) (A.length + 1) cap') (A.length + 1) (nums .u64 A ++ [.int .u64 x])) : W64 B w' g' cap' (A ++ [x]) := by
  unfold W64
  rw [List.length_append, List.length_singleton, show nums .u64 (A ++ [x]) = nums .u64 A ++ [.int .u64 x] by simp [nums]]
  exact ho
/-- A word while it is read. -/
def wpart (L : List Nat) (i : Nat) : Nat → Nat
  | 0 => 0
  | t + 1 => wpart L i t * 256 + L.getD (4 * i + t) 0
theorem wpart_four (L : List Nat) (i : Nat) : wpart L i 4 = w16 L i := by
  simp only [wpart, Nat.add_zero, Nat.zero_mul, Nat.zero_add]; unfold w16; omega
theorem wpart_lt (L : List Nat) (hL : ∀ x ∈ L, x < 256) (i t : Nat) (ht : t ≤ 4) : wpart L i t < 256 ^ t := by
  induction t with
  | zero => exact Nat.one_pos
  | succ t ih =>
    have h := ih (by omega)
    have hd : L.getD (4 * i + t) 0 < 256 := by
      by_cases hj : 4 * i + t < L.length
      · rw [getD_at _ _ hj]; exact hL _ (List.getElem_mem _)
      · simp [List.getD, List.getElem?_eq_none (Nat.le_of_not_lt hj)]
    show wpart L i t * 256 + _ < _
    rw [Nat.pow_succ]; omega

theorem str_index (A : List Nat) (hA : ∀ x ∈ A, x < 256) (n : Nat) (hn : n < A.length) (z : Int) (hz : z = (n : Int)) (w : World) :
    (Instr.index 9 (.string (bytesOf A)) (.int .i64 z)).run Tryz.prog w = .ok (.int .u8 ((A.getD n 0 : Nat) : Int)) w := by
  subst hz
  have h1 : (0 : Int) ≤ n ∧ (n : Int) < ((bytesOf A).size : Nat) := by rw [bytesOf_size]; omega
  have e : (bytesOf A).data[n]? = some (UInt8.ofNat A[n]) := by simp [bytesOf, hn]
  have hb : A[n] < 256 := hA _ (List.getElem_mem _)
  unfold Instr.index
  simp only [asIntOf, Sem.run_bind, Sem.run_pure, Result.andThen_ok]
  rw [getD_at _ _ hn]
  have h0 : (0 : Int) ≤ n := by omega
  have e' : (bytesOf A)[n]? = some (UInt8.ofNat A[n]) := e
  rw [run_underlying Tryz.underlying9]
  simp only [Result.andThen_ok, if_pos h0, Int.toNat_natCast]
  rw [e']
  simp only [Sem.run_pure]
  rw [UInt8.toNat_ofNat_of_lt' hb]

set_option maxRecDepth 100000 in
theorem info39 : ∃ i z, Tryz.prog.info? 26 = some i ∧ i.zero = some z ∧ i.size = 1 ∧ i.bytes = 8 ∧ z.cells.size = 1 := by
  refine ⟨_, _, rfl, rfl, ?_, ?_, ?_⟩ <;> kernel_rfl

/-- An append of one word. -/
theorem wpList_push64 {ops : Array Oper} {rest : List Oper} {o : Oper} {a : Act} {Q : Exit → Act → World → Prop} {w : World} (hgd : o.guard = none) (s x : Operand)
    (ho : o.op = .call { callee := .builtin .append, args := #[s, x], argTypes := #[154, 154] }) (B g cap n y : Nat) (A : List Nat) (hn : A.length = n)
    (hs : a.eval s = .slice (some ⟨g, 0, none⟩) n cap) (hV : W64 B w g cap A) (hx : a.eval x = .slice (some ⟨w.heap.size, 0, none⟩) 1 1) (hl : n ≤ 1000) (hB : B ≤ w.heap.size)
    (h : ∀ g' cap' w', W64 B w' g' cap' (A ++ [y]) → Mod (fun i => B ≤ i) w w' → wpList Tryz.prog ops Q rest (a.put o.dst (.slice (some ⟨g', 0, none⟩) (n + 1) cap')) w') :
    wpList Tryz.prog ops Q (o :: rest) a (w.alloc (.cells #[.int .u64 (y : Int)] 26)) := by
  obtain ⟨i, z, hi, hz, h1, h2, h3⟩ := info39
  subst hn
  have hVo := (hV.kept ((Mod.refl (fun _ => False) w).alloc (.cells #[.int .u64 (y : Int)] 26)) (fun h => h))
  refine wpList_append_lies _ hgd s x 154 ho B 26 i z 1 8 Tryz.underlying154 hi hz h1 h2 h3 (by decide) _ A.length (nums .u64 A) hs hVo ⟨w.heap.size, 0, none⟩ 1 1 [.int .u64 (y : Int)] hx rfl (cell_one_new _ _ _) (by intro u hu; simp at hu; subst hu; rfl) (by omega) (by unfold maxLen; omega) (by omega) (by simp; omega) _ rfl ?_
  intro g' cap' w' hown hgrow hg' hlt
  have hlo := hV.lo
  refine h g' cap' w' (hV.push hown) (((Mod.refl (fun i => B ≤ i) w).alloc _).grown hgrow ?_)
  intro k hk _
  simp [Value.ownBlock] at hk
  omega

theorem turn_q (x n : Nat) (w : World) (hx : x < 4294967296) (h2 : n ≤ 32) :
    Calls Tryz.prog 117 #[.int .u64 x, .int .i64 (n : Int)] w fun r w' => r = .returned (.int .u64 (rotr x n : Int)) ∧ w' = w :=
  (turn_any x n w hx h2).mono fun _ _ ⟨a, b⟩ => ⟨a, b.symm⟩
theorem down3_q (x : Nat) (w : World) (hx : x < 4294967296) :
    Calls Tryz.prog 118 #[.int .u64 x, .int .i64 3] w fun r w' => r = .returned (.int .u64 ((x / 8 : Nat) : Int)) ∧ w' = w :=
  (down_any x 3 w hx (by omega)).mono fun _ _ ⟨a, b⟩ => ⟨a, b.symm⟩
theorem down10_q (x : Nat) (w : World) (hx : x < 4294967296) :
    Calls Tryz.prog 118 #[.int .u64 x, .int .i64 10] w fun r w' => r = .returned (.int .u64 ((x / 1024 : Nat) : Int)) ∧ w' = w :=
  (down_any x 10 w hx (by omega)).mono fun _ _ ⟨a, b⟩ => ⟨a, b.symm⟩

theorem x64 (a b : Nat) (ha : a < 4294967296) (hb : b < 4294967296) : bits BinOp.xor IntKind.u64 (a : Int) (b : Int) = ((a ^^^ b : Nat) : Int) := u64_xor_nat _ _ (by omega) (by omega)
theorem n64 (a b : Nat) (ha : a < 4294967296) (hb : b < 4294967296) : bits BinOp.and IntKind.u64 (a : Int) (b : Int) = ((a &&& b : Nat) : Int) := u64_and_nat _ _ (by omega) (by omega)
theorem s0_facts (x : Nat) (hx : x < 4294967296) : ∃ r z : Nat, Hid (z = s0 x) ∧ z < 4294967296 ∧ bits BinOp.xor IntKind.u64 (rotr x 7 : Int) (rotr x 18 : Int) = (r : Int) ∧ bits BinOp.xor IntKind.u64 (r : Int) ((x : Int) / 8) = (z : Int) :=
  ⟨rotr x 7 ^^^ rotr x 18, _, rfl, s0_lt x hx, x64 _ _ (rotr_lt x 7 hx (by decide)) (rotr_lt x 18 hx (by decide)), by rw [show (x : Int) / 8 = ((x / 8 : Nat) : Int) by omega]; exact x64 _ _ (xor_lt _ _ (rotr_lt x 7 hx (by decide)) (rotr_lt x 18 hx (by decide))) (by omega)⟩
theorem s1_facts (x : Nat) (hx : x < 4294967296) : ∃ r z : Nat, Hid (z = s1 x) ∧ z < 4294967296 ∧ bits BinOp.xor IntKind.u64 (rotr x 17 : Int) (rotr x 19 : Int) = (r : Int) ∧ bits BinOp.xor IntKind.u64 (r : Int) ((x : Int) / 1024) = (z : Int) :=
  ⟨rotr x 17 ^^^ rotr x 19, _, rfl, s1_lt x hx, x64 _ _ (rotr_lt x 17 hx (by decide)) (rotr_lt x 19 hx (by decide)), by rw [show (x : Int) / 1024 = ((x / 1024 : Nat) : Int) by omega]; exact x64 _ _ (xor_lt _ _ (rotr_lt x 17 hx (by decide)) (rotr_lt x 19 hx (by decide))) (by omega)⟩

theorem step_push64 {ops : Array Oper} {o : Oper} {a : Act} {K : Act → World → Prop} {Q : Exit → Act → World → Prop} {E : Prop} {w : World} (hgd : o.guard = none) (s x : Operand)
    (ho : o.op = .call { callee := .builtin .append, args := #[s, x], argTypes := #[154, 154] }) (B g cap n y : Nat) (A : List Nat) (hn : A.length = n)
    (hs : a.eval s = .slice (some ⟨g, 0, none⟩) n cap) (hV : W64 B w g cap A) (hx : a.eval x = .slice (some ⟨w.heap.size, 0, none⟩) 1 1) (hl : n ≤ 1000) (hB : B ≤ w.heap.size)
    (h : ∀ g' cap' w', W64 B w' g' cap' (A ++ [y]) → Mod (fun i => B ≤ i) w w' → K (a.put o.dst (.slice (some ⟨g', 0, none⟩) (n + 1) cap')) w') :
    if Region.wanted o (yielded ops a.tmps) = true then Oper.wp Tryz.prog o a (w.alloc (.cells #[.int .u64 (y : Int)] 26)) K Q else E := by
  obtain ⟨i, z, hi, hz, h1, h2, h3⟩ := info39
  subst hn
  have hVo := (hV.kept ((Mod.refl (fun _ => False) w).alloc (.cells #[.int .u64 (y : Int)] 26)) (fun h => h))
  refine step_append_lies _ hgd s x 154 ho B 26 i z 1 8 Tryz.underlying154 hi hz h1 h2 h3 (by decide) _ A.length (nums .u64 A) hs hVo ⟨w.heap.size, 0, none⟩ 1 1 [.int .u64 (y : Int)] hx rfl (cell_one_new _ _ _) (by intro u hu; simp at hu; subst hu; rfl) (by omega) (by unfold maxLen; omega) (by omega) (by simp; omega) _ rfl ?_
  intro g' cap' w' hown hgrow hg' hlt
  have hlo := hV.lo
  refine h g' cap' w' (hV.push hown) (((Mod.refl (fun i => B ≤ i) w).alloc _).grown hgrow ?_)
  intro k hk _
  simp [Value.ownBlock] at hk
  omega

end Go.Proofs.YtemnebbdaljfbaaGreatDoor

namespace Go.Proofs.YtemnebbdaljfbaaGreatDoor
open Go.RowKit

/-- A row of words appended to an owned empty row. -/
theorem wpList_clone64 {ops : Array Oper} {rest : List Oper} {o : Oper} {a : Act} {Q : Exit → Act → World → Prop} {w : World} (hgd : o.guard = none) (s x : Operand)
    (ho : o.op = .call { callee := .builtin .append, args := #[s, x], argTypes := #[154, 154] }) (B g cap gh m c : Nat) (A : List Nat) (hm : A.length = m) (h0 : 0 < m)
    (hs : a.eval s = .slice (some ⟨g, 0, none⟩) 0 cap) (hV : W64 B w g cap []) (hR : RowAt .u64 26 w gh A) (hx : a.eval x = .slice (some ⟨gh, 0, none⟩) m c) (hl : m ≤ 1000) (hB : B ≤ w.heap.size)
    (h : ∀ g' cap' w', W64 B w' g' cap' A → Mod (· = g) w w' → wpList Tryz.prog ops Q rest (a.put o.dst (.slice (some ⟨g', 0, none⟩) m cap')) w') :
    wpList Tryz.prog ops Q (o :: rest) a w := by
  obtain ⟨i, z, hi, hz, h1, h2, h3⟩ := info39
  subst hm
  have hlo := hV.lo
  have hV0 : w.ownsRow B 26 1 (.slice (some ⟨g, 0, none⟩) 0 cap) 0 [] := hV
  refine wpList_append_lies _ hgd s x 154 ho B 26 i z 1 8 Tryz.underlying154 hi hz h1 h2 h3 (by decide) _ 0 [] hs hV0 ⟨gh, 0, none⟩ A.length c (nums .u64 A) hx (by simp [nums_len]) ?_ (nums_one _ _) h0 (by unfold maxLen; omega) (by omega) hB _ rfl ?_
  · intro j u hj
    have hjl : j < A.length := by
      have := List.getElem?_eq_some_iff.1 hj
      obtain ⟨hlt, _⟩ := this
      rwa [nums_len] at hlt
    rw [nums_get .u64 A j hjl] at hj
    cases hj
    have hadd : (⟨gh, 0, none⟩ : Addr).add j = ⟨gh, j, none⟩ := by unfold Addr.add; split <;> simp_all
    rw [hadd]
    exact hR.cell j hjl
  · intro g' cap' w' hown hgrow _ _
    have e0 : 0 + A.length = A.length := Nat.zero_add _
    rw [e0, List.nil_append] at hown
    rw [e0]
    refine h g' cap' w' hown ((Mod.refl (· = g) w).grown hgrow ?_)
    intro k hk _
    simp [Value.ownBlock] at hk
    exact hk.symm

/-- An append of one word that lies somewhere. -/
theorem push64_wp {o : Oper} {a : Act} {K : Act → World → Prop} {Q : Exit → Act → World → Prop} {w : World} (s x : Operand)
    (ho : o.op = .call { callee := .builtin .append, args := #[s, x], argTypes := #[154, 154] }) (B g cap n y b : Nat) (A : List Nat) (hn : A.length = n)
    (hs : a.eval s = .slice (some ⟨g, 0, none⟩) n cap) (hV : W64 B w g cap A) (hx : a.eval x = .slice (some ⟨b, 0, none⟩) 1 1) (hc : w.cell? ⟨b, 0, none⟩ = some (.int .u64 (y : Int))) (hl : n ≤ 1000) (hB : B ≤ w.heap.size)
    (h : ∀ g' cap' w', W64 B w' g' cap' (A ++ [y]) → Mod (fun i => B ≤ i) w w' → K (a.put o.dst (.slice (some ⟨g', 0, none⟩) (n + 1) cap')) w') : o.wp Tryz.prog a w K Q := by
  obtain ⟨i, z, hi, hz, h1, h2, h3⟩ := info39
  subst hn
  have hVo : w.ownsRow B 26 1 (.slice (some ⟨g, 0, none⟩) A.length cap) A.length (nums .u64 A) := hV
  refine wp_append_lies w s x 154 ho B 26 i z 1 8 Tryz.underlying154 hi hz h1 h2 h3 (by decide) _ A.length (nums .u64 A) hs hVo ⟨b, 0, none⟩ 1 1 [.int .u64 (y : Int)] hx rfl ?_ (by intro u hu; simp at hu; subst hu; rfl) (by omega) (by unfold maxLen; omega) (by omega) hB _ rfl ?_
  · intro j u hj
    match j, hj with
    | 0, hj =>
      simp only [List.getElem?_cons_zero, Option.some.injEq] at hj
      subst hj
      exact hc
  · intro g' cap' w' hown hgrow hg' hlt
    have hlo := hV.lo
    refine h g' cap' w' (hV.push hown) ((Mod.refl (fun i => B ≤ i) w).grown hgrow ?_)
    intro k hk _
    simp [Value.ownBlock] at hk
    omega

theorem S1_facts (e : Nat) (he : e < 4294967296) : ∃ r z : Nat, Hid (z = S1 e) ∧ z < 4294967296 ∧ bits BinOp.xor IntKind.u64 (rotr e 6 : Int) (rotr e 11 : Int) = (r : Int) ∧ bits BinOp.xor IntKind.u64 (r : Int) (rotr e 25 : Int) = (z : Int) :=
  ⟨_, _, rfl, S1_lt e he, x64 _ _ (rotr_lt e 6 he (by decide)) (rotr_lt e 11 he (by decide)), x64 _ _ (xor_lt _ _ (rotr_lt e 6 he (by decide)) (rotr_lt e 11 he (by decide))) (rotr_lt e 25 he (by decide))⟩
theorem S0_facts (a : Nat) (ha : a < 4294967296) : ∃ r z : Nat, Hid (z = S0 a) ∧ z < 4294967296 ∧ bits BinOp.xor IntKind.u64 (rotr a 2 : Int) (rotr a 13 : Int) = (r : Int) ∧ bits BinOp.xor IntKind.u64 (r : Int) (rotr a 22 : Int) = (z : Int) :=
  ⟨_, _, rfl, S0_lt a ha, x64 _ _ (rotr_lt a 2 ha (by decide)) (rotr_lt a 13 ha (by decide)), x64 _ _ (xor_lt _ _ (rotr_lt a 2 ha (by decide)) (rotr_lt a 13 ha (by decide))) (rotr_lt a 22 ha (by decide))⟩
theorem ch_facts (e f g : Nat) (be : e < 4294967296) (bf : f < 4294967296) (bg : g < 4294967296) : ∃ n1 ne n2 z : Nat, Hid (z = ch e f g) ∧ z < 4294967296 ∧ bits BinOp.and IntKind.u64 (e : Int) (f : Int) = (n1 : Int) ∧
    (4294967295 - (e : Int)) = (ne : Int) ∧ IntKind.u64.wrap (4294967295 - (e : Int)) = (ne : Int) ∧ bits BinOp.and IntKind.u64 (ne : Int) (g : Int) = (n2 : Int) ∧ bits BinOp.xor IntKind.u64 (n1 : Int) (n2 : Int) = (z : Int) :=
  ⟨_, 4294967295 - e, _, _, rfl, ch_lt e f g bf bg, n64 _ _ be bf, by omega, by rw [IntKind.wrap_u64]; omega, n64 _ _ (by omega) bg, x64 _ _ (and_lt _ _ bf) (and_lt _ _ bg)⟩
theorem maj_facts (a b c : Nat) (ba : a < 4294967296) (bb : b < 4294967296) (bc : c < 4294967296) : ∃ p q r s z : Nat, Hid (z = maj a b c) ∧ z < 4294967296 ∧ bits BinOp.and IntKind.u64 (a : Int) (b : Int) = (p : Int) ∧
    bits BinOp.and IntKind.u64 (a : Int) (c : Int) = (q : Int) ∧ bits BinOp.and IntKind.u64 (b : Int) (c : Int) = (r : Int) ∧ bits BinOp.xor IntKind.u64 (p : Int) (q : Int) = (s : Int) ∧ bits BinOp.xor IntKind.u64 (s : Int) (r : Int) = (z : Int) :=
  ⟨_, _, _, _, _, rfl, maj_lt a b c bb bc, n64 _ _ ba bb, n64 _ _ ba bc, n64 _ _ bb bc, x64 _ _ (and_lt _ _ bb) (and_lt _ _ bc), x64 _ _ (xor_lt _ _ (and_lt _ _ bb) (and_lt _ _ bc)) (and_lt _ _ bc)⟩

theorem toV_list (H : List Nat) (h : H.length = 8) : (toV H).list = H := by
  apply List.ext_getElem
  · rw [h]; rfl
  · intro i h1 h2
    have hi : i < 8 := by rw [← h]; exact h2
    have key : ∀ j, j < 8 → (toV H).list[j]? = some (H.getD j 0) := by
      intro j hj
      match j, hj with
      | 0, _ => rfl
      | 1, _ => rfl
      | 2, _ => rfl
      | 3, _ => rfl
      | 4, _ => rfl
      | 5, _ => rfl
      | 6, _ => rfl
      | 7, _ => rfl
    have k := key i hi
    rw [List.getElem?_eq_getElem h1, getD_at _ _ h2] at k
    exact Option.some.inj k
theorem toV_ok (H : List Nat) (h : H.length = 8) (hb : ∀ x ∈ H, x < 4294967296) : (toV H).ok := by
  have key : ∀ j, j < 8 → H.getD j 0 < 4294967296 := by
    intro j hj; rw [getD_at _ _ (by omega)]; exact hb _ (List.getElem_mem _)
  exact ⟨key 0 (by decide), key 1 (by decide), key 2 (by decide), key 3 (by decide), key 4 (by decide), key 5 (by decide), key 6 (by decide), key 7 (by decide)⟩

/-- A round's memory. -/
structure Rel7 (w : World) (gh gk B : Nat) (HH SL : List Nat) (g2 cap2 gv capv : Nat) (v : V) (wr : World) : Prop where
  r : RefAt w gh gk B HH wr
  s : W64 B wr g2 cap2 SL
  v : W64 B wr gv capv v.list
theorem Rel7.drewN {w : World} {gh gk B : Nat} {HH SL : List Nat} {g2 cap2 gv capv : Nat} {v : V} {wr : World} (h : Rel7 w gh gk B HH SL g2 cap2 gv capv v wr) (n : Nat) : Rel7 w gh gk B HH SL g2 cap2 gv capv v (wr.drewN n) :=
  ⟨h.r.step (Mod.drewN (Mod.refl _ _) n), h.s.kept (S := fun _ => False) (Mod.drewN (Mod.refl _ _) n) (fun h => h), h.v.kept (S := fun _ => False) (Mod.drewN (Mod.refl _ _) n) (fun h => h)⟩
theorem Rel7.next {w : World} {gh gk B : Nat} {HH SL : List Nat} {g2 cap2 gv capv : Nat} {v u : V} {wr : World} (h : Rel7 w gh gk B HH SL g2 cap2 gv capv v wr) (a : List Nat) (ha : a = u.list) :
    Rel7 w gh gk B HH SL g2 cap2 wr.heap.size 8 u (wr.alloc (.cells (nums .u64 a).toArray 26 (0, 0))) := by
  subst ha
  have hm : Mod (fun i => B ≤ i) wr (wr.alloc (.cells (nums .u64 u.list).toArray 26 (0, 0))) := (Mod.refl _ _).alloc _
  exact ⟨h.r.step hm, h.s.kept (S := fun _ => False) ((Mod.refl _ _).alloc _) (fun h => h), W64.fresh wr u.list h.r.b (by simp [V.list, maxLen])⟩

theorem Rel7.cells {w : World} {gh gk B : Nat} {HH SL : List Nat} {g2 cap2 gv capv a b c d e f g h : Nat} {wr : World} (hX : Rel7 w gh gk B HH SL g2 cap2 gv capv ⟨a, b, c, d, e, f, g, h⟩ wr) :
    wr.cell? ⟨gv, 0, none⟩ = some (.int .u64 (a : Int)) ∧ wr.cell? ⟨gv, 1, none⟩ = some (.int .u64 (b : Int)) ∧ wr.cell? ⟨gv, 2, none⟩ = some (.int .u64 (c : Int)) ∧ wr.cell? ⟨gv, 3, none⟩ = some (.int .u64 (d : Int)) ∧
    wr.cell? ⟨gv, 4, none⟩ = some (.int .u64 (e : Int)) ∧ wr.cell? ⟨gv, 5, none⟩ = some (.int .u64 (f : Int)) ∧ wr.cell? ⟨gv, 6, none⟩ = some (.int .u64 (g : Int)) ∧ wr.cell? ⟨gv, 7, none⟩ = some (.int .u64 (h : Int)) :=
  ⟨hX.v.cell 0 (by simp [V.list]), hX.v.cell 1 (by simp [V.list]), hX.v.cell 2 (by simp [V.list]), hX.v.cell 3 (by simp [V.list]), hX.v.cell 4 (by simp [V.list]), hX.v.cell 5 (by simp [V.list]), hX.v.cell 6 (by simp [V.list]), hX.v.cell 7 (by simp [V.list])⟩

/-- The sum of a round. -/
theorem t_sum (e f g h k w z1 z2 : Nat) (h1 : z1 = S1 e) (h2 : z2 = ch e f g) (a b c d : Nat) : (h + z1 + z2 + k + w) % 4294967296 = tOf ⟨a, b, c, d, e, f, g, h⟩ k w := by
  rw [tOf_sum, h1, h2]
theorem u_sum (a b c z1 z2 d e f g h : Nat) (h1 : z1 = S0 a) (h2 : z2 = maj a b c) : (z1 + z2) % 4294967296 = uOf ⟨a, b, c, d, e, f, g, h⟩ := by
  simp only [uOf]; rw [h1, h2]
end Go.Proofs.YtemnebbdaljfbaaGreatDoor

namespace Go.Proofs.YtemnebbdaljfbaaGreatDoor
open Go.RowKit

theorem lit_str {P : Program} (x : Nat) (w : World) (hs : P.underlying 68 = some (.slice 5)) (he : P.underlying 5 = some (.int .u8)) (hd : P.underlying 9 = some .string) :
    (convert 68 9 (.slice (some ⟨w.heap.size, 0, none⟩) 1 1)).run P (w.alloc (.cells #[.int .u8 (x : Int)] 5)) = .ok (.string (bytesOf [x])) (w.alloc (.cells #[.int .u8 (x : Int)] 5)) := by
  rw [convLit1 68 9 5 hs he hd]; simp [bytesOf]
theorem lit_str4 {P : Program} (a b c d : Nat) (w : World) (hs : P.underlying 68 = some (.slice 5)) (he : P.underlying 5 = some (.int .u8)) (hd : P.underlying 9 = some .string) :
    (convert 68 9 (.slice (some ⟨w.heap.size, 0, none⟩) 4 4)).run P (w.alloc (.cells #[.int .u8 (a : Int), .int .u8 (b : Int), .int .u8 (c : Int), .int .u8 (d : Int)] 5)) = .ok (.string (bytesOf [a, b, c, d])) (w.alloc (.cells #[.int .u8 (a : Int), .int .u8 (b : Int), .int .u8 (c : Int), .int .u8 (d : Int)] 5)) := by
  have h := run_convert_bytes_arg (P := P) (w.alloc (.cells #[.int .u8 (a : Int), .int .u8 (b : Int), .int .u8 (c : Int), .int .u8 (d : Int)] 5)) 68 5 hs he w.heap.size 0 4 4 [(a : Int), (b : Int), (c : Int), (d : Int)] rfl (fun i hi => by
    unfold World.cell?
    rw [heap_alloc_new]
    match i, hi with
    | 0, _ => rfl
    | 1, _ => rfl
    | 2, _ => rfl
    | 3, _ => rfl) 9 hd
  rw [h]; simp [strOfNums, bytesOf]
/-- While the block's words are added. -/
def HRel (w : World) (gh gk B : Nat) (HH BL : List Nat) (k : Nat) (wr : World) : Prop := ∃ Hp, RefAt w gh gk B Hp wr ∧ Hp.length = 8 ∧ Hp.take k = BL.take k ∧ Hp.drop k = HH.drop k
theorem bytesOf_app (a b : List Nat) : bytesOf a ++ bytesOf b = bytesOf (a ++ b) := by
  apply ByteArray.ext; simp [bytesOf]
theorem bytesOf_nats (s : List UInt8) : bytesOf (nats s) = ⟨s.toArray⟩ := by simp [bytesOf, nats, Function.comp_def]

/-- While it is padded. -/
def Pad (m : List Nat) (k : Nat) : List Nat := m ++ [128] ++ List.replicate k 0
theorem Pad_len (m : List Nat) (k : Nat) : (Pad m k).length = m.length + 1 + k := by simp [Pad]; omega
theorem Pad_succ (m : List Nat) (k : Nat) : Pad m (k + 1) = Pad m k ++ [0] := by simp [Pad, List.replicate_succ']

theorem cut_bytes (N k : Nat) (hk : k < 8) : bytesOf [N * 8 / 256 ^ k % 256] ++ bytesOf ((lenBytes N 8).drop (8 - k)) = bytesOf ((lenBytes N 8).drop (8 - (k + 1))) := by
  rw [bytesOf_app, show 8 - (k + 1) = 7 - k by omega, lenBytes_from N k hk]; rfl
theorem lenBytes_drop (N k : Nat) (hk : k ≤ 8) : ((lenBytes N 8).drop (8 - k)).length = k := by rw [List.length_drop, lenBytes_len]; omega

/-- Block n of a text. -/
def blk (n : Nat) : Code → Option Code
  | .block m c => if m = n then some (.block m c) else blk n c
  | .loop c => blk n c
  | .seq a b => match blk n a with
    | some c => some c
    | none => blk n b
  | .scope c => blk n c
  | .cond _ a b => match blk n a with
    | some c => some c
    | none => blk n b
  | _ => none
noncomputable def blkOf (n : Nat) : Code := (Tryz.f86.body.bind (blk n)).getD .skip
end Go.Proofs.YtemnebbdaljfbaaGreatDoor
