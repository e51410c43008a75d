/- Texts 3: what the laws lean on. -/
import Derived.Test.YtambljnmaibdmaaM2
import Derived.Laws.StructEq
import Derived.Stop.Asserts
import Derived.Stop.IfaceNil
import Derived.Recover
import Derived.ProofKit
import Derived.Deep.Fields
import Derived.OpenShut
import Derived.Carry
namespace Go.Proofs.Ytambljnmaibdmaa
open Go.RowKit

theorem cmOf_other {k : Int} (s : List UInt8) (r : Bool) (n : Int) (h0 : k ≠ 0) (h1 : k ≠ 1) (h2 : k ≠ 2) (h3 : k ≠ 3) (h4 : k ≠ 4) (h5 : k ≠ 5) : cmOf k s r n = .other := by simp [cmOf, h0, h1, h2, h3, h4, h5]
set_option maxRecDepth 20000 in
set_option maxHeartbeats 2000000 in
theorem own20_any (k : Int) (s : List UInt8) (r : Bool) (n : Int) (w : World) : Calls Try.prog 11 #[.agg (rcm k s r n)] w fun e w' => e = .returned (cmV (cmOf k s r n)) ∧ Below w.heap.size w w' := by
  unfold rcm
  by_cases k0 : k = 0
  · subst k0
    rw [show cmOf 0 s r n = .none by simp [cmOf]]
    simp only [cmV]
    go_enter Try.func11, Try.ntmps11
    go_wp2_with fail
    go_ret
    exact ⟨rfl, (Below.refl _ _).alloc (Nat.le_refl _) _⟩
  by_cases k1 : k = 1
  · subst k1
    rw [show cmOf 1 s r n = .block s r by simp [cmOf]]
    simp only [cmV]
    go_enter Try.func11, Try.ntmps11
    go_wp2_with fail
    go_ret
    exact ⟨rfl, (Below.refl _ _).alloc (Nat.le_refl _) _⟩
  by_cases k2 : k = 2
  · subst k2
    rw [show cmOf 2 s r n = .cert s r by simp [cmOf]]
    simp only [cmV]
    go_enter Try.func11, Try.ntmps11
    go_wp2_with fail
    go_ret
    exact ⟨rfl, (Below.refl _ _).alloc (Nat.le_refl _) _⟩
  by_cases k3 : k = 3
  · subst k3
    rw [show cmOf 3 s r n = .clock n by simp [cmOf]]
    simp only [cmV]
    go_enter Try.func11, Try.ntmps11
    go_wp2_with fail
    go_ret
    exact ⟨rfl, (Below.refl _ _).alloc (Nat.le_refl _) _⟩
  by_cases k4 : k = 4
  · subst k4
    rw [show cmOf 4 s r n = .mark s by simp [cmOf]]
    simp only [cmV]
    go_enter Try.func11, Try.ntmps11
    go_wp2_with fail
    go_ret
    exact ⟨rfl, (Below.refl _ _).alloc (Nat.le_refl _) _⟩
  by_cases k5 : k = 5
  · subst k5
    rw [show cmOf 5 s r n = .unmark by simp [cmOf]]
    simp only [cmV]
    go_enter Try.func11, Try.ntmps11
    go_wp2_with fail
    go_ret
    exact ⟨rfl, (Below.refl _ _).alloc (Nat.le_refl _) _⟩
  rw [cmOf_other s r n k0 k1 k2 k3 k4 k5]
  simp only [cmV]
  have t0 : (k == 0) = false := beq_eq_false_iff_ne.2 k0
  have t1 : (k == 1) = false := beq_eq_false_iff_ne.2 k1
  have t2 : (k == 2) = false := beq_eq_false_iff_ne.2 k2
  have t3 : (k == 3) = false := beq_eq_false_iff_ne.2 k3
  have t4 : (k == 4) = false := beq_eq_false_iff_ne.2 k4
  have t5 : (k == 5) = false := beq_eq_false_iff_ne.2 k5
  clear k0 k1 k2 k3 k4 k5
  go_enter Try.func11, Try.ntmps11
  go_wp2_with fail
  go_ret
  exact ⟨rfl, (Below.refl _ _).alloc (Nat.le_refl _) _⟩
/-- What bare leaves of four fields. -/
def barE (k : Int) (s : List UInt8) (r : Bool) (n : Int) : List UInt8 × Bool × Int :=
  if k = 1 ∨ k = 2 then (s.take 4100, r, 0) else if k = 3 then ([], false, n) else if k = 4 then (s.take 4100, false, 0) else ([], false, 0)
def barR (k : Int) (s : List UInt8) (r : Bool) (n : Int) : Array Value := rcm k (barE k s r n).1 (barE k s r n).2.1 (barE k s r n).2.2
def barC (k : Int) (s : List UInt8) (r : Bool) (n : Int) : Cm := cmOf k (barE k s r n).1 (barE k s r n).2.1 (barE k s r n).2.2
theorem rcm_one (k : Int) (s : List UInt8) (r : Bool) (n : Int) : ∀ v ∈ (rcm k s r n).toList, v.oneCell' = true := by
  unfold rcm; intro v hv
  simp only [List.mem_cons, List.not_mem_nil, or_false] at hv
  rcases hv with rfl | rfl | rfl | rfl <;> rfl
theorem rcm_info (k : Int) (s : List UInt8) (r : Bool) (n : Int) : (Try.prog.info? 30).map (·.size) = some (rcm k s r n).size := by
  rw [show (rcm k s r n).size = 4 from rfl]; kernel_rfl
theorem two_new (w : World) (A B : Obj) : ((w.alloc A).alloc B).heap[w.heap.size + 1]? = some B := by
  have := heap_alloc_new (w.alloc A) B
  rwa [show (w.alloc A).heap.size = w.heap.size + 1 by simp] at this
theorem two_below (w : World) (A B : Obj) : Below w.heap.size w ((w.alloc A).alloc B) := ((Below.refl _ _).alloc (Nat.le_refl _) _).alloc (by simp) _
def zrc : Array Value := #[.int .i64 0, .string ⟨#[]⟩, .bool false, .int .i64 0]
set_option maxRecDepth 20000 in
set_option maxHeartbeats 2000000 in
theorem bare20_any (k : Int) (s : List UInt8) (r : Bool) (n : Int) (w : World) (hl : (s.length : Int) ≤ 9223372036854775807) : Calls Try.prog 14 #[.agg (rcm k s r n)] w fun e w' => e = .returned (.agg (barR k s r n)) ∧ Below w.heap.size w w' := by
  have Hcut := Lib.hid (fun w' => cut_any s 4100 w' hl (by decide))
  obtain ⟨c, hc⟩ : ∃ c, c = s.take 4100 := ⟨_, rfl⟩
  rw [← hc] at Hcut
  have HR : ∀ (s' : List UInt8) (r' : Bool) (n' : Int), barE k s r n = (s', r', n') → barR k s r n = rcm k s' r' n' := fun s' r' n' h => by unfold barR; rw [h]
  unfold rcm
  clear hl
  by_cases k1 : k = 1
  · subst k1
    rw [HR _ _ _ (show barE 1 s r n = (c, r, 0) by first | (rw [hc]; simp [barE]; done) | simp [barE])]
    unfold rcm
    clear hc HR
    go_enter Try.func14, Try.ntmps14
    go_wp2_with fail
    refine (Hcut.out _).mono ?_
    rintro e w1 ⟨rfl, rfl⟩
    clear Hcut
    go_wp2_with fail
    exact bodyPost_ret (v := .agg _) (results_cell_row Try.results14 _ _ (w.heap.size + 1) 30 _ (0, 0) _ rfl (two_new _ _ _) Try.underlying30 rfl (rcm_info 0 [] false 0)) rfl ⟨rfl, two_below _ _ _⟩
  by_cases k2 : k = 2
  · subst k2
    rw [HR _ _ _ (show barE 2 s r n = (c, r, 0) by first | (rw [hc]; simp [barE]; done) | simp [barE])]
    unfold rcm
    clear hc HR
    go_enter Try.func14, Try.ntmps14
    go_wp2_with fail
    refine (Hcut.out _).mono ?_
    rintro e w1 ⟨rfl, rfl⟩
    clear Hcut
    go_wp2_with fail
    exact bodyPost_ret (v := .agg _) (results_cell_row Try.results14 _ _ (w.heap.size + 1) 30 _ (0, 0) _ rfl (two_new _ _ _) Try.underlying30 rfl (rcm_info 0 [] false 0)) rfl ⟨rfl, two_below _ _ _⟩
  by_cases k3 : k = 3
  · subst k3
    rw [HR _ _ _ (show barE 3 s r n = ([], false, n) by first | (rw [hc]; simp [barE]; done) | simp [barE])]
    unfold rcm
    clear hc HR
    go_enter Try.func14, Try.ntmps14
    go_wp2_with fail
    refine (Hcut.out _).mono ?_
    rintro e w1 ⟨rfl, rfl⟩
    clear Hcut
    go_wp2_with fail
    exact bodyPost_ret (v := .agg _) (results_cell_row Try.results14 _ _ (w.heap.size + 1) 30 _ (0, 0) _ rfl (two_new _ _ _) Try.underlying30 rfl (rcm_info 0 [] false 0)) rfl ⟨rfl, two_below _ _ _⟩
  by_cases k4 : k = 4
  · subst k4
    rw [HR _ _ _ (show barE 4 s r n = (c, false, 0) by first | (rw [hc]; simp [barE]; done) | simp [barE])]
    unfold rcm
    clear hc HR
    go_enter Try.func14, Try.ntmps14
    go_wp2_with fail
    refine (Hcut.out _).mono ?_
    rintro e w1 ⟨rfl, rfl⟩
    clear Hcut
    go_wp2_with fail
    exact bodyPost_ret (v := .agg _) (results_cell_row Try.results14 _ _ (w.heap.size + 1) 30 _ (0, 0) _ rfl (two_new _ _ _) Try.underlying30 rfl (rcm_info 0 [] false 0)) rfl ⟨rfl, two_below _ _ _⟩
  rw [HR _ _ _ (show barE k s r n = ([], false, 0) by simp [barE, k1, k2, k3, k4])]
  unfold rcm
  have t1 : (k == 1) = false := beq_eq_false_iff_ne.2 k1
  have t2 : (k == 2) = false := beq_eq_false_iff_ne.2 k2
  have t3 : (k == 3) = false := beq_eq_false_iff_ne.2 k3
  have t4 : (k == 4) = false := beq_eq_false_iff_ne.2 k4
  clear hc HR k1 k2 k3 k4
  go_enter Try.func14, Try.ntmps14
  go_wp2_with fail
  refine (Hcut.out _).mono ?_
  rintro e w1 ⟨rfl, rfl⟩
  clear Hcut
  go_wp2_with fail
  exact bodyPost_ret (v := .agg _) (results_cell_row Try.results14 _ _ (w.heap.size + 1) 30 _ (0, 0) _ rfl (two_new _ _ _) Try.underlying30 rfl (rcm_info 0 [] false 0)) rfl ⟨rfl, two_below _ _ _⟩
set_option maxRecDepth 20000 in
set_option maxHeartbeats 4000000 in
theorem rcheck20_any (k : Int) (s : List UInt8) (r : Bool) (n : Int) (w : World) (hl : s.length ≤ 1000000) : Calls Try.prog 17 #[.agg (rcm k s r n)] w fun e w' => e = .returned (.int .i64 (cmCk (cmOf k s r n))) ∧ Below w.heap.size w w' := by
  unfold rcm
  have HK := Lib.hid (fun w => rkey_any s w hl)
  obtain ⟨b, hb⟩ : ∃ b, b = nmsOk s := ⟨_, rfl⟩
  rw [← hb] at HK
  by_cases k1 : k = 1
  · subst k1
    rw [show cmOf 1 s r n = .block s r by simp [cmOf]]
    clear hb HK
    by_cases h : 4096 < s.length
    · have h1 : (4096 : Int) < s.length := by omega
      rw [show cmCk (.block s r) = 4 by simp [cmCk, tooBig, h]]
      clear h
      go_enter Try.func17, Try.ntmps17
      go_wp2_with fail
      go_ret
      exact ⟨rfl, (Below.refl _ _).alloc (Nat.le_refl _) _⟩
    · have h1 : ¬ (4096 : Int) < s.length := by omega
      rw [show cmCk (.block s r) = 0 by simp [cmCk, tooBig, h]]
      clear h
      go_enter Try.func17, Try.ntmps17
      go_wp2_with fail
      go_ret
      exact ⟨rfl, (Below.refl _ _).alloc (Nat.le_refl _) _⟩
  by_cases k2 : k = 2
  · subst k2
    rw [show cmOf 2 s r n = .cert s r by simp [cmOf]]
    clear hb HK
    by_cases h : 4096 < s.length
    · have h1 : (4096 : Int) < s.length := by omega
      rw [show cmCk (.cert s r) = 4 by simp [cmCk, tooBig, h]]
      clear h
      go_enter Try.func17, Try.ntmps17
      go_wp2_with fail
      go_ret
      exact ⟨rfl, (Below.refl _ _).alloc (Nat.le_refl _) _⟩
    · have h1 : ¬ (4096 : Int) < s.length := by omega
      rw [show cmCk (.cert s r) = 0 by simp [cmCk, tooBig, h]]
      clear h
      go_enter Try.func17, Try.ntmps17
      go_wp2_with fail
      go_ret
      exact ⟨rfl, (Below.refl _ _).alloc (Nat.le_refl _) _⟩
  by_cases k3 : k = 3
  · subst k3
    rw [show cmOf 3 s r n = .clock n by simp [cmOf]]
    simp only [cmCk]
    clear hb HK
    by_cases h : n < 0
    · rw [if_pos (.inl h)]
      go_enter Try.func17, Try.ntmps17
      go_wp2_with fail
      go_ret
      exact ⟨rfl, (Below.refl _ _).alloc (Nat.le_refl _) _⟩
    by_cases h1 : 1073741824 < n
    · rw [if_pos (.inr h1)]
      go_enter Try.func17, Try.ntmps17
      go_wp2_with fail
      go_ret
      exact ⟨rfl, (Below.refl _ _).alloc (Nat.le_refl _) _⟩
    rw [if_neg (by omega)]
    go_enter Try.func17, Try.ntmps17
    go_wp2_with fail
    go_ret
    exact ⟨rfl, (Below.refl _ _).alloc (Nat.le_refl _) _⟩
  by_cases k4 : k = 4
  · subst k4
    rw [show cmOf 4 s r n = .mark s by simp [cmOf]]
    by_cases h : 4096 < s.length
    · have h1 : (4096 : Int) < s.length := by omega
      rw [show cmCk (.mark s) = 4 by simp [cmCk, tooBig, h]]
      clear h HK hb
      go_enter Try.func17, Try.ntmps17
      go_wp2_with fail
      go_ret
      exact ⟨rfl, (Below.refl _ _).alloc (Nat.le_refl _) _⟩
    · have h1 : ¬ (4096 : Int) < s.length := by omega
      rw [show cmCk (.mark s) = (if b then 0 else 1) by simp [cmCk, tooBig, h, hb]]
      clear h hb
      obtain ⟨z, hz⟩ : ∃ z, (!b) = z := ⟨_, rfl⟩
      have hb0 : Below w.heap.size w (w.alloc (.cells #[.int .i64 4, .string ⟨s.toArray⟩, .bool r, .int .i64 n] 30)) := (Below.refl _ _).alloc (Nat.le_refl _) _
      have HB0 := Lib.hid hb0
      clear hb0 hz z
      go_enter Try.func17, Try.ntmps17
      go_wp2_with fail
      refine (HK.out _).mono ?_
      rintro e w1 ⟨rfl, hb1⟩
      have HB1 := Lib.hid (HB0.out.trans (hb1.mono HB0.out.size))
      clear hb1 HK HB0
      cases b
      · go_wp2_with fail
        go_ret
        exact ⟨rfl, HB1.out⟩
      · go_wp2_with fail
        go_ret
        exact ⟨rfl, HB1.out⟩
  by_cases k5 : k = 5
  · subst k5
    rw [show cmOf 5 s r n = .unmark by simp [cmOf]]
    simp only [cmCk]
    clear hb HK
    go_enter Try.func17, Try.ntmps17
    go_wp2_with fail
    go_ret
    exact ⟨rfl, (Below.refl _ _).alloc (Nat.le_refl _) _⟩
  have hck : cmCk (cmOf k s r n) = 18 := by
    by_cases k0 : k = 0
    · subst k0; rfl
    · rw [cmOf_other s r n k0 k1 k2 k3 k4 k5]; rfl
  rw [hck]
  clear hb HK hck
  by_cases h : k < 1
  · clear k1 k2 k3 k4 k5
    go_enter Try.func17, Try.ntmps17
    go_wp2_with fail
    go_ret
    exact ⟨rfl, (Below.refl _ _).alloc (Nat.le_refl _) _⟩
  · have h1 : 5 < k := by omega
    clear k1 k2 k3 k4 k5
    go_enter Try.func17, Try.ntmps17
    go_wp2_with fail
    go_ret
    exact ⟨rfl, (Below.refl _ _).alloc (Nat.le_refl _) _⟩
/-- A kind's word. -/
def cmNm : Cm → List UInt8
  | .none => []
  | .other => []
  | .block _ _ => [98, 108, 111, 99, 107]
  | .cert _ _ => [99, 101, 114, 116]
  | .clock _ => [99, 108, 111, 99, 107]
  | .mark _ => [109, 97, 114, 107]
  | .unmark => [117, 110, 109, 97, 114, 107]
set_option maxRecDepth 20000 in
set_option maxHeartbeats 2000000 in
theorem cmword_any (c : Cm) (w : World) : Calls Try.prog 27 #[cmV c] w fun r w' => r = .returned (.string ⟨(cmNm c).toArray⟩) ∧ w = w' := by
  cases c with
  | none =>
    simp only [cmV, cmNm]
    have a0 := taNilBlock
    have a1 := taNilCert
    have a2 := taNilClock
    have a3 := taNilMark
    have a4 := taNilUnmark
    go_enter Try.func27, Try.ntmps27
    go_wp2_with fail
    go_ret
    exact ⟨rfl, rfl⟩
  | other =>
    simp only [cmV, cmNm]
    have a0 := taOtherBlock
    have a1 := taOtherCert
    have a2 := taOtherClock
    have a3 := taOtherMark
    have a4 := taOtherUnmark
    go_enter Try.func27, Try.ntmps27
    go_wp2_with fail
    go_ret
    exact ⟨rfl, rfl⟩
  | block s r =>
    simp only [cmV, cmNm]
    have a0 := taBlockBlock
    have a1 := taBlockCert
    have a2 := taBlockClock
    have a3 := taBlockMark
    have a4 := taBlockUnmark
    go_enter Try.func27, Try.ntmps27
    go_wp2_with fail
    go_ret
    exact ⟨rfl, rfl⟩
  | cert s r =>
    simp only [cmV, cmNm]
    have a0 := taCertBlock
    have a1 := taCertCert
    have a2 := taCertClock
    have a3 := taCertMark
    have a4 := taCertUnmark
    go_enter Try.func27, Try.ntmps27
    go_wp2_with fail
    go_ret
    exact ⟨rfl, rfl⟩
  | clock n =>
    simp only [cmV, cmNm]
    have a0 := taClockBlock
    have a1 := taClockCert
    have a2 := taClockClock
    have a3 := taClockMark
    have a4 := taClockUnmark
    go_enter Try.func27, Try.ntmps27
    go_wp2_with fail
    go_ret
    exact ⟨rfl, rfl⟩
  | mark k =>
    simp only [cmV, cmNm]
    have a0 := taMarkBlock
    have a1 := taMarkCert
    have a2 := taMarkClock
    have a3 := taMarkMark
    have a4 := taMarkUnmark
    go_enter Try.func27, Try.ntmps27
    go_wp2_with fail
    go_ret
    exact ⟨rfl, rfl⟩
  | unmark =>
    simp only [cmV, cmNm]
    have a0 := taUnmarkBlock
    have a1 := taUnmarkCert
    have a2 := taUnmarkClock
    have a3 := taUnmarkMark
    have a4 := taUnmarkUnmark
    go_enter Try.func27, Try.ntmps27
    go_wp2_with fail
    go_ret
    exact ⟨rfl, rfl⟩
theorem cmname_any (c : Cm) (w : World) : Calls Try.prog 16 #[cmV c] w fun r w' => r = .returned (.string ⟨(cmNm c).toArray⟩) ∧ w = w' := by
  have H := Lib.hid (cmword_any c w)
  generalize cmV c = V at H ⊢
  generalize cmNm c = n at H ⊢
  go_enter Try.func16, Try.ntmps16
  go_wp2_with fail
  refine H.out.mono ?_
  rintro r w1 ⟨rfl, rfl⟩
  clear H
  go_wp2_with fail
  go_ret
  exact ⟨rfl, rfl⟩
end Go.Proofs.Ytambljnmaibdmaa

namespace Go.Proofs.Ytambljnmaibdmaa
open Go.RowKit

/-- While it goes: the result's box, the empty one's. -/
structure P0 (W w : World) : Prop where
  m : Below W.heap.size W w
  rs : w.heap[W.heap.size]? = some (.cells zrc 30 (0, 0))
  no : w.heap[W.heap.size + 1]? = some (.cells zrc 30 (0, 0))
/-- .. and the command's. -/
structure Pc (W : World) (g : Nat) (C : Array Value) (w : World) : Prop where
  p : P0 W w
  bx : w.heap[g]? = some (.cells C 30 (0, 0))
  lt : W.heap.size + 1 < g
theorem old_block {w w' : World} {g : Nat} {o : Obj} (h : w.heap[g]? = some o) (hb : Below w.heap.size w w') : w'.heap[g]? = some o := (hb.block g (Array.getElem?_eq_some_iff.1 h).1).trans h
theorem P0.grow {W w w' : World} (h : P0 W w) (hb : Below w.heap.size w w') : P0 W w' := ⟨h.m.trans (hb.mono h.m.size), old_block h.rs hb, old_block h.no hb⟩
theorem Pc.grow {W w w' : World} {g : Nat} {C : Array Value} (h : Pc W g C w) (hb : Below w.heap.size w w') : Pc W g C w' := ⟨h.p.grow hb, old_block h.bx hb, h.lt⟩
theorem P0.box {W w : World} (h : P0 W w) (C : Array Value) : Pc W w.heap.size C (w.alloc (.cells C 30)) :=
  ⟨h.grow ((Below.refl _ _).alloc (Nat.le_refl _) _), heap_alloc_new w _, (Array.getElem?_eq_some_iff.1 h.no).1⟩
theorem Pc.put {W w : World} {g : Nat} {C : Array Value} (h : Pc W g C w) (k : Nat) (v : Value) : Pc W g (C.setIfInBounds k v) (w.setCell ⟨g, k, none⟩ v) := by
  have hl := h.lt
  refine ⟨⟨h.p.m.setCell (show W.heap.size ≤ g by omega) v, ?_, ?_⟩, heap_setCell_same w g k C 30 v h.bx, h.lt⟩
  · exact (Below.heap_setCell _ _ _ _ (show W.heap.size ≠ g by omega)).trans h.p.rs
  · exact (Below.heap_setCell _ _ _ _ (show W.heap.size + 1 ≠ g by omega)).trans h.p.no
theorem Pc.cell {W w : World} {g : Nat} {C : Array Value} (h : Pc W g C w) (k : Nat) : w.cell? ⟨g, k, none⟩ = C[k]? := cell_of_row w g k C 30 (0, 0) h.bx
theorem Pc.froz {W w : World} {g : Nat} {C : Array Value} (h : Pc W g C w) (k : Nat) : w.frozen? ⟨g, k, none⟩ = false := frozen_of_row w g k C 30 h.bx
theorem P0.start (W : World) : P0 W ((W.alloc (.cells zrc 30)).alloc (.cells zrc 30)) :=
  ⟨two_below W _ _, by rw [Below.heap_alloc _ _ _ (by simp)]; exact heap_alloc_new W _, two_new W _ _⟩
theorem P0.done {W w : World} (h : P0 W w) (C : Array Value) : (w.setRow W.heap.size C).heap[W.heap.size]? = some (.cells C 30 (0, 0)) ∧ Below W.heap.size W (w.setRow W.heap.size C) :=
  ⟨setRow_heap w W.heap.size zrc C 30 (0, 0) h.rs, h.m.trans (((Mod.refl (fun _ => False) w).setRow (g := W.heap.size) C).to_below h.m.size (by rintro k hk (h | h) <;> first | exact h | omega))⟩
theorem zrc_one : ∀ v ∈ zrc.toList, v.oneCell' = true := rcm_one 0 [] false 0
theorem zrc_info : (Try.prog.info? 30).map (·.size) = some zrc.size := rcm_info 0 [] false 0
def RcP (c : Cm) (e : Int) (w : World) (r : Ending) (w' : World) : Prop := r = .returned (.tuple #[.agg (rcmC c), .int .i64 e]) ∧ Below w.heap.size w w'
theorem RcP.of {c : Cm} {e : Int} {w w' : World} {r : Ending} (h : RcP c e w r w') {P : Ending → World → Prop} (hP : P = RcP c e w) : P r w' := by rw [hP]; exact h
theorem numS_bad (e m : Int) (h : e ≠ 0) : (numS [] e m).2.2 = e ∧ (numS [] e m).2.1 = [] := by rw [numS_err e m h]; exact ⟨rfl, rfl⟩
theorem textS_bad (e m : Int) (h : e ≠ 0) : (textS [] e m).2.2 = e := by unfold textS; rw [numS_err _ _ h]; simp only; rw [rawS_err _ _ h]
theorem bodyS_bad (k e : Int) (h : e ≠ 0) : (bodyS k [] e).2.2 = e := by
  unfold bodyS vdS
  split
  · simp only; rw [numS_err _ _ h]; exact textS_bad _ _ h
  split
  · simp only; rw [numS_err _ _ h]; exact textS_bad _ _ h
  split
  · simp only; rw [numS_err _ _ h]
  split
  · exact textS_bad _ _ h
  split
  · rfl
  · unfold failS; simp [h]
theorem cmE_err {s : List UInt8} {e : Int} (h : (takeM s).2.2 = e) (he : e ≠ 0) : cmE s = e ∧ cmC s = .none := by
  have h1 : cmE s = e := by unfold cmE; rw [h, if_neg he]
  exact ⟨h1, by unfold cmC; rw [h1, if_neg he]⟩
theorem cmE_rest {s : List UInt8} (h : (takeM s).2.2 = 0) (hr : (takeM s).2.1 ≠ []) : cmE s = 3 ∧ cmC s = .none := by
  have h1 : cmE s = 3 := by unfold cmE; rw [h, if_pos rfl, if_neg hr]
  exact ⟨h1, by unfold cmC; rw [h1]; rfl⟩
theorem cmE_end {s : List UInt8} {c : Cm} (h : takeM s = (c, [], 0)) : cmE s = cmCk c ∧ cmC s = if cmCk c = 0 then c else .none := by
  have h1 : cmE s = cmCk c := by unfold cmE; rw [h]; simp
  exact ⟨h1, by unfold cmC; rw [h1, h]⟩
set_option maxRecDepth 20000 in
set_option maxHeartbeats 16000000 in
theorem rparse20_any (s : List UInt8) (w : World) (hl : s.length ≤ 1000000) : Calls Try.prog 10 #[.string ⟨s.toArray⟩] w (RcP (cmC s) (cmE s) w) := by
  have N1 := Lib.hid (fun w => r20num_any s 255 w (by omega))
  have l1 := Nat.le_trans (numS_len s 0 255) hl
  have i1 := numS_inv s 0 255 (fun h => absurd rfl h)
  have HT : Hid (takeM s = bodyS (numS s 0 255).1 (numS s 0 255).2.1 (numS s 0 255).2.2) := Lib.hid rfl
  obtain ⟨⟨k, t, f⟩, hp⟩ : ∃ p, p = numS s 0 255 := ⟨_, rfl⟩
  rw [← hp] at N1 l1 i1 HT
  simp only at N1 l1 i1 HT
  obtain ⟨PP, hPP⟩ : ∃ P, P = RcP (cmC s) (cmE s) w := ⟨_, rfl⟩
  rw [← hPP]
  have HPP := Lib.hid hPP
  obtain ⟨W0, hW0⟩ : ∃ W, W = (w.alloc (.cells zrc 30)).alloc (.cells zrc 30) := ⟨_, rfl⟩
  have HS0 : Hid (P0 w W0) := Lib.hid (by rw [hW0]; exact P0.start w)
  have HW0 := Lib.hid hW0
  unfold zrc at HW0
  clear hp hPP hW0 hl
  go_enter Try.func10, Try.ntmps10
  go_wp2_with fail
  rw [← HW0.out]
  refine (N1.out W0).mono ?_
  rintro r w1 ⟨rfl, hb⟩
  have HS := Lib.hid (HS0.out.grow hb)
  clear hb HS0 HW0 N1
  by_cases hf : f = 0
  case neg =>
    obtain rfl := i1 hf
    have t1 : (f != 0) = true := by rw [bne_iff_ne]; exact hf
    have t2 : (f == 0) = false := beq_eq_false_iff_ne.2 hf
    have HX := Lib.hid (cmE_err (s := s) (by rw [HT.out]; exact bodyS_bad k f hf) hf)
    have hq : PP = RcP .none (f) w := by rw [HPP.out, (HX.out).1, (HX.out).2]
    have HQ := Lib.hid hq
    have h5 := HS.out.no
    have h6 := HS.out.rs
    have HD := Lib.hid (HS.out.done zrc)
    clear hq
    go_wp2_with (first | (refine wpList_load_row rfl 30 (.tmp 4) rfl (w.heap.size + 1) rfl 30 zrc (0, 0) _ h5 Try.underlying30 rfl zrc_info ?_) | (refine wpList_store_row rfl rfl 30 (.tmp 2) (.tmp 27) rfl w.heap.size rfl 30 zrc zrc rfl h6 rfl zrc_info zrc_one ?_))
    exact bodyPost_ret (v := .tuple #[.agg zrc, .int .i64 (f)]) (results_row2 Try.results10 _ _ w.heap.size 30 zrc (0, 0) _ _ rfl rfl HD.out.1 Try.underlying30 rfl zrc_info) rfl (RcP.of ⟨rfl, HD.out.2⟩ HQ.out)
  subst hf
  by_cases hk : k < 1 ∨ 5 < k
  · have HX : Hid (cmE s = 18 ∧ cmC s = .none) := Lib.hid (cmE_err (s := s) (e := 18) (by rw [HT.out]; unfold bodyS; rw [if_neg (by omega), if_neg (by omega), if_neg (by omega), if_neg (by omega), if_neg (by omega)]; rfl) (by decide))
    rcases hk with h1 | h1
    · skip
      have hq : PP = RcP .none (18) w := by rw [HPP.out, (HX.out).1, (HX.out).2]
      have HQ := Lib.hid hq
      have h5 := HS.out.no
      have h6 := HS.out.rs
      have HD := Lib.hid (HS.out.done zrc)
      clear hq
      go_wp2_with (first | (refine wpList_load_row rfl 30 (.tmp 4) rfl (w.heap.size + 1) rfl 30 zrc (0, 0) _ h5 Try.underlying30 rfl zrc_info ?_) | (refine wpList_store_row rfl rfl 30 (.tmp 2) (.tmp 35) rfl w.heap.size rfl 30 zrc zrc rfl h6 rfl zrc_info zrc_one ?_))
      exact bodyPost_ret (v := .tuple #[.agg zrc, .int .i64 (18)]) (results_row2 Try.results10 _ _ w.heap.size 30 zrc (0, 0) _ _ rfl rfl HD.out.1 Try.underlying30 rfl zrc_info) rfl (RcP.of ⟨rfl, HD.out.2⟩ HQ.out)
    · have h0 : ¬ k < 1 := by omega
      have hq : PP = RcP .none (18) w := by rw [HPP.out, (HX.out).1, (HX.out).2]
      have HQ := Lib.hid hq
      have h5 := HS.out.no
      have h6 := HS.out.rs
      have HD := Lib.hid (HS.out.done zrc)
      clear hq
      go_wp2_with (first | (refine wpList_load_row rfl 30 (.tmp 4) rfl (w.heap.size + 1) rfl 30 zrc (0, 0) _ h5 Try.underlying30 rfl zrc_info ?_) | (refine wpList_store_row rfl rfl 30 (.tmp 2) (.tmp 35) rfl w.heap.size rfl 30 zrc zrc rfl h6 rfl zrc_info zrc_one ?_))
      exact bodyPost_ret (v := .tuple #[.agg zrc, .int .i64 (18)]) (results_row2 Try.results10 _ _ w.heap.size 30 zrc (0, 0) _ _ rfl rfl HD.out.1 Try.underlying30 rfl zrc_info) rfl (RcP.of ⟨rfl, HD.out.2⟩ HQ.out)
  have lt := l1
  clear l1 i1
  have hk5 : k = 1 ∨ k = 2 ∨ k = 3 ∨ k = 4 ∨ k = 5 := by omega
  clear hk
  rcases hk5 with rfl | rfl | rfl | rfl | rfl
  · have HT2 : Hid (takeM s = (.block (vdS t 0).2.1 (vdS t 0).1, (vdS t 0).2.2)) := Lib.hid (by rw [HT.out]; simp [bodyS])
    obtain ⟨g, hg⟩ : ∃ g, g = w1.heap.size := ⟨_, rfl⟩
    obtain ⟨W2, hW2⟩ : ∃ W, W = w1.alloc (.cells #[.int .i64 1, .string ⟨#[]⟩, .bool false, .int .i64 0] 30) := ⟨_, rfl⟩
    have HC : Hid (Pc w g (rcm 1 [] false 0) W2) := Lib.hid (by rw [hW2, hg]; exact HS.out.box _)
    have HW2 := Lib.hid hW2
    have Hg := Lib.hid hg
    clear hW2 hg HS

    have N2 := Lib.hid (fun w => r20num_any t 1 w (by omega))
    have l2 := Nat.le_trans (numS_len t 0 1) lt
    have lo2 := numS_lo t 0 1
    obtain ⟨⟨x, u, e⟩, hp2⟩ : ∃ p, p = numS t 0 1 := ⟨_, rfl⟩
    rw [← hp2] at N2 l2 lo2
    simp only at N2 l2 lo2
    have HP2 := Lib.hid hp2
    clear hp2
    go_wp2_with fail
    rw [← HW2.out, ← Hg.out]
    clear HW2

    refine (N2.out W2).mono ?_
    rintro r w2 ⟨rfl, hb⟩
    have HC := Lib.hid (HC.out.grow hb)
    clear hb N2

    have I2 : Hid (e ≠ 0 → u = []) := Lib.hid (by have := numS_inv t 0 1 (fun h => absurd rfl h); rw [← HP2.out] at this; exact this)
    have HV : Hid (vdS t 0 = (x == 1, textS u e 4096)) := Lib.hid (by unfold vdS; rw [← HP2.out])

    by_cases hze : e = 0
    case neg =>
      have t1 : (e != 0) = true := by rw [bne_iff_ne]; exact hze
      have t2 : (e == 0) = false := beq_eq_false_iff_ne.2 hze
      have HX := Lib.hid (cmE_err (s := s) (by rw [HT2.out, HV.out, I2.out hze]; exact textS_bad _ _ hze) hze)
      have HS := Lib.hid HC.out.p
      clear hze
      have hq : PP = RcP .none (e) w := by rw [HPP.out, (HX.out).1, (HX.out).2]
      have HQ := Lib.hid hq
      have h5 := HS.out.no
      have h6 := HS.out.rs
      have HD := Lib.hid (HS.out.done zrc)
      clear hq
      go_wp2_with (first | (refine wpList_load_row rfl 30 (.tmp 4) rfl (w.heap.size + 1) rfl 30 zrc (0, 0) _ h5 Try.underlying30 rfl zrc_info ?_) | (refine wpList_store_row rfl rfl 30 (.tmp 2) (.tmp 48) rfl w.heap.size rfl 30 zrc zrc rfl h6 rfl zrc_info zrc_one ?_))
      exact bodyPost_ret (v := .tuple #[.agg zrc, .int .i64 (e)]) (results_row2 Try.results10 _ _ w.heap.size 30 zrc (0, 0) _ _ rfl rfl HD.out.1 Try.underlying30 rfl zrc_info) rfl (RcP.of ⟨rfl, HD.out.2⟩ HQ.out)

    subst hze

    obtain ⟨z, hz⟩ : ∃ z, (x == 1) = z := ⟨_, rfl⟩
    have HTX : Hid (∀ p, textS u 0 4096 = p → takeM s = (.block p.1 z, p.2)) := Lib.hid (fun p hp => by rw [HT2.out, HV.out, hp, hz])
    have lu := l2
    clear l2 lo2
    have f2 := HC.out.froz 2
    have c2 : w2.cell? ⟨g, 2, none⟩ = some (.bool false) := HC.out.cell 2
    obtain ⟨W3, hW3⟩ : ∃ W, W = w2.setCell ⟨g, 2, none⟩ (.bool z) := ⟨_, rfl⟩
    have HC : Hid (Pc w g (rcm 1 [] z 0) W3) := Lib.hid (by rw [hW3]; exact HC.out.put 2 (.bool z))
    have HW3 := Lib.hid hW3
    clear hW3

    have N3 := Lib.hid (fun w => r20num_any u 4096 w (by omega))
    have l3 := Nat.le_trans (numS_len u 0 4096) lu
    have lo3 := numS_lo u 0 4096
    obtain ⟨⟨m, v, h⟩, hp3⟩ : ∃ p, p = numS u 0 4096 := ⟨_, rfl⟩
    rw [← hp3] at N3 l3 lo3
    simp only at N3 l3 lo3
    have HP3 := Lib.hid hp3
    clear hp3
    go_wp2_with fail
    rw [← HW3.out]
    clear f2 c2 HW3

    refine (N3.out W3).mono ?_
    rintro r w3 ⟨rfl, hb⟩
    have HC := Lib.hid (HC.out.grow hb)
    clear hb N3

    have HT3 : Hid (textS u 0 4096 = rawS v h m) := Lib.hid (by have h1 : textS u 0 4096 = rawS (numS u 0 4096).2.1 (numS u 0 4096).2.2 (numS u 0 4096).1 := rfl; rw [h1, ← HP3.out])
    have I3 : Hid (h ≠ 0 → v = []) := Lib.hid (by have := numS_inv u 0 4096 (fun h => absurd rfl h); rw [← HP3.out] at this; exact this)

    by_cases hzh : h = 0
    case neg =>
      have t1 : (h != 0) = true := by rw [bne_iff_ne]; exact hzh
      have t2 : (h == 0) = false := beq_eq_false_iff_ne.2 hzh
      have HX := Lib.hid (cmE_err (s := s) (by rw [HTX.out _ rfl, HT3.out, I3.out hzh, rawS_err _ _ hzh]) hzh)
      have HS := Lib.hid HC.out.p
      clear hzh
      have hq : PP = RcP .none (h) w := by rw [HPP.out, (HX.out).1, (HX.out).2]
      have HQ := Lib.hid hq
      have h5 := HS.out.no
      have h6 := HS.out.rs
      have HD := Lib.hid (HS.out.done zrc)
      clear hq
      go_wp2_with (first | (refine wpList_load_row rfl 30 (.tmp 4) rfl (w.heap.size + 1) rfl 30 zrc (0, 0) _ h5 Try.underlying30 rfl zrc_info ?_) | (refine wpList_store_row rfl rfl 30 (.tmp 2) (.tmp 83) rfl w.heap.size rfl 30 zrc zrc rfl h6 rfl zrc_info zrc_one ?_))
      exact bodyPost_ret (v := .tuple #[.agg zrc, .int .i64 (h)]) (results_row2 Try.results10 _ _ w.heap.size 30 zrc (0, 0) _ _ rfl rfl HD.out.1 Try.underlying30 rfl zrc_info) rfl (RcP.of ⟨rfl, HD.out.2⟩ HQ.out)

    subst hzh

    obtain ⟨m', rfl⟩ : ∃ n : Nat, m = n := ⟨m.toNat, by omega⟩
    clear lo3
    obtain ⟨n, hn⟩ : ∃ n, n = v.length := ⟨_, rfl⟩
    have hsz : (ByteArray.mk v.toArray).size = n := by rw [hn]; rfl
    by_cases hm : n < m'
    case pos =>
      have hm' : (n : Int) < m' := by omega
      have HX := Lib.hid (cmE_err (s := s) (e := 2) (by rw [HTX.out _ rfl, HT3.out]; unfold rawS; rw [if_pos (by omega)]; rfl) (by decide))
      have HS := Lib.hid HC.out.p
      clear hm hn l3
      have hq : PP = RcP .none (2) w := by rw [HPP.out, (HX.out).1, (HX.out).2]
      have HQ := Lib.hid hq
      have h5 := HS.out.no
      have h6 := HS.out.rs
      have HD := Lib.hid (HS.out.done zrc)
      clear hq
      go_wp2_with (first | (refine wpList_load_row rfl 30 (.tmp 4) rfl (w.heap.size + 1) rfl 30 zrc (0, 0) _ h5 Try.underlying30 rfl zrc_info ?_) | (refine wpList_store_row rfl rfl 30 (.tmp 2) (.tmp 89) rfl w.heap.size rfl 30 zrc zrc rfl h6 rfl zrc_info zrc_one ?_))
      exact bodyPost_ret (v := .tuple #[.agg zrc, .int .i64 (2)]) (results_row2 Try.results10 _ _ w.heap.size 30 zrc (0, 0) _ _ rfl rfl HD.out.1 Try.underlying30 rfl zrc_info) rfl (RcP.of ⟨rfl, HD.out.2⟩ HQ.out)

    have hm' : ¬ (n : Int) < m' := by omega
    obtain ⟨y, hy⟩ : ∃ y, y = v.take m' := ⟨_, rfl⟩
    obtain ⟨R, hR0⟩ : ∃ R, R = v.drop m' := ⟨_, rfl⟩
    have HTK : Hid (takeM s = (.block y z, R, 0)) := Lib.hid (by rw [HTX.out _ rfl, HT3.out]; unfold rawS; rw [if_neg (by omega), hy, hR0, Int.toNat_natCast])
    have x1 : (ByteArray.mk v.toArray).extract 0 m' = ⟨y.toArray⟩ := by rw [extract_head, hy]
    have x2 : (ByteArray.mk v.toArray).extract m' n = ⟨R.toArray⟩ := by rw [drop_bytesW v m' n hn, hR0]
    have yl : y.length ≤ 1000000 := by rw [hy, List.length_take]; omega
    have i0 : (0 : Int) ≤ m' := by omega
    have i1 : (m' : Int) ≤ n := by omega
    have f1 := HC.out.froz 1
    have c1 : w3.cell? ⟨g, 1, none⟩ = some (.string ⟨#[]⟩) := HC.out.cell 1
    obtain ⟨W4, hW4⟩ : ∃ W, W = w3.setCell ⟨g, 1, none⟩ (.string ⟨y.toArray⟩) := ⟨_, rfl⟩
    have HC : Hid (Pc w g (rcm 1 y z 0) W4) := Lib.hid (by rw [hW4]; exact HC.out.put 1 (.string ⟨y.toArray⟩))
    have HW4 := Lib.hid hW4
    have YL := Lib.hid yl
    clear hy hR0 hn hW4 hm l3 yl
    go_upto_region 28 with fail
    rw [← HW4.out]
    have yl := YL.out
    clear f1 c1 x1 x2 i0 i1 hm' hsz YL HW4

    by_cases hR : R = []
    case neg =>
      have t2 : R.isEmpty = false := by
        cases R with
        | nil => exact absurd rfl hR
        | cons a l => rfl
      have HX := Lib.hid (cmE_rest (s := s) (by rw [HTK.out]) (by rw [HTK.out]; exact hR))
      have HS := Lib.hid HC.out.p
      clear hR
      have hq : PP = RcP .none (3) w := by rw [HPP.out, (HX.out).1, (HX.out).2]
      have HQ := Lib.hid hq
      have h5 := HS.out.no
      have h6 := HS.out.rs
      have HD := Lib.hid (HS.out.done zrc)
      clear hq
      go_wp2_with (first | (refine wpList_load_row rfl 30 (.tmp 4) rfl (w.heap.size + 1) rfl 30 zrc (0, 0) _ h5 Try.underlying30 rfl zrc_info ?_) | (refine wpList_store_row rfl rfl 30 (.tmp 2) (.tmp 99) rfl w.heap.size rfl 30 zrc zrc rfl h6 rfl zrc_info zrc_one ?_))
      exact bodyPost_ret (v := .tuple #[.agg zrc, .int .i64 (3)]) (results_row2 Try.results10 _ _ w.heap.size 30 zrc (0, 0) _ _ rfl rfl HD.out.1 Try.underlying30 rfl zrc_info) rfl (RcP.of ⟨rfl, HD.out.2⟩ HQ.out)

    have HR := Lib.hid hR
    rw [hR] at HTK ⊢
    clear hR
    have HX := Lib.hid (cmE_end HTK.out)
    have HCK := Lib.hid (fun w' => rcheck20_any 1 y z 0 w' (by first | (simp; done) | omega))
    rw [show cmOf 1 y z 0 = .block y z by simp [cmOf]] at HCK
    obtain ⟨ek, hek⟩ : ∃ ek, ek = cmCk (.block y z) := ⟨_, rfl⟩
    rw [← hek] at HCK HX
    have h7 := HC.out.bx
    clear hek
    go_wp2_with (refine wpList_load_row rfl 30 (.tmp 7) rfl g rfl 30 (rcm 1 y z 0) (0, 0) _ h7 Try.underlying30 rfl (rcm_info 0 [] false 0) ?_)
    refine (HCK.out _).mono ?_
    rintro r w9 ⟨rfl, hb9⟩
    have HC9 := Lib.hid (HC.out.grow hb9)
    have HS := Lib.hid HC9.out.p
    clear hb9 HCK h7
    by_cases he : ek = 0
    case neg =>
      have t1 : (ek != 0) = true := by rw [bne_iff_ne]; exact he
      have t2 : (ek == 0) = false := beq_eq_false_iff_ne.2 he
      have HX2 : Hid (cmE s = ek ∧ cmC s = .none) := Lib.hid ⟨HX.out.1, by rw [HX.out.2, if_neg he]⟩
      clear he
      have hq : PP = RcP .none (ek) w := by rw [HPP.out, (HX2.out).1, (HX2.out).2]
      have HQ := Lib.hid hq
      have h5 := HS.out.no
      have h6 := HS.out.rs
      have HD := Lib.hid (HS.out.done zrc)
      clear hq
      go_wp2_with (first | (refine wpList_load_row rfl 30 (.tmp 4) rfl (w.heap.size + 1) rfl 30 zrc (0, 0) _ h5 Try.underlying30 rfl zrc_info ?_) | (refine wpList_store_row rfl rfl 30 (.tmp 2) (.tmp 104) rfl w.heap.size rfl 30 zrc zrc rfl h6 rfl zrc_info zrc_one ?_))
      exact bodyPost_ret (v := .tuple #[.agg zrc, .int .i64 (ek)]) (results_row2 Try.results10 _ _ w.heap.size 30 zrc (0, 0) _ _ rfl rfl HD.out.1 Try.underlying30 rfl zrc_info) rfl (RcP.of ⟨rfl, HD.out.2⟩ HQ.out)

    subst he
    have hq : PP = RcP (.block y z) 0 w := by rw [HPP.out, HX.out.1, HX.out.2, if_pos rfl]
    have HQ := Lib.hid hq
    have h6 := HS.out.rs
    have h7 := HC9.out.bx
    have HD := Lib.hid (HS.out.done (rcm 1 y z 0))
    clear hq
    go_wp2_with (first | (refine wpList_load_row rfl 30 (.tmp 7) rfl g rfl 30 (rcm 1 y z 0) (0, 0) _ h7 Try.underlying30 rfl (rcm_info 0 [] false 0) ?_) | (refine wpList_store_row rfl rfl 30 (.tmp 2) (.tmp 106) rfl w.heap.size rfl 30 zrc (rcm 1 y z 0) rfl h6 rfl (rcm_info 0 [] false 0) (rcm_one _ _ _ _) ?_))
    exact bodyPost_ret (v := .tuple #[.agg (rcm 1 y z 0), .int .i64 0]) (results_row2 Try.results10 _ _ w.heap.size 30 (rcm 1 y z 0) (0, 0) _ _ rfl rfl HD.out.1 Try.underlying30 rfl (rcm_info 0 [] false 0)) rfl (RcP.of ⟨rfl, HD.out.2⟩ HQ.out)
  · have HT2 : Hid (takeM s = (.cert (vdS t 0).2.1 (vdS t 0).1, (vdS t 0).2.2)) := Lib.hid (by rw [HT.out]; simp [bodyS])
    obtain ⟨g, hg⟩ : ∃ g, g = w1.heap.size := ⟨_, rfl⟩
    obtain ⟨W2, hW2⟩ : ∃ W, W = w1.alloc (.cells #[.int .i64 2, .string ⟨#[]⟩, .bool false, .int .i64 0] 30) := ⟨_, rfl⟩
    have HC : Hid (Pc w g (rcm 2 [] false 0) W2) := Lib.hid (by rw [hW2, hg]; exact HS.out.box _)
    have HW2 := Lib.hid hW2
    have Hg := Lib.hid hg
    clear hW2 hg HS

    have N2 := Lib.hid (fun w => r20num_any t 1 w (by omega))
    have l2 := Nat.le_trans (numS_len t 0 1) lt
    have lo2 := numS_lo t 0 1
    obtain ⟨⟨x, u, e⟩, hp2⟩ : ∃ p, p = numS t 0 1 := ⟨_, rfl⟩
    rw [← hp2] at N2 l2 lo2
    simp only at N2 l2 lo2
    have HP2 := Lib.hid hp2
    clear hp2
    go_wp2_with fail
    rw [← HW2.out, ← Hg.out]
    clear HW2

    refine (N2.out W2).mono ?_
    rintro r w2 ⟨rfl, hb⟩
    have HC := Lib.hid (HC.out.grow hb)
    clear hb N2

    have I2 : Hid (e ≠ 0 → u = []) := Lib.hid (by have := numS_inv t 0 1 (fun h => absurd rfl h); rw [← HP2.out] at this; exact this)
    have HV : Hid (vdS t 0 = (x == 1, textS u e 4096)) := Lib.hid (by unfold vdS; rw [← HP2.out])

    by_cases hze : e = 0
    case neg =>
      have t1 : (e != 0) = true := by rw [bne_iff_ne]; exact hze
      have t2 : (e == 0) = false := beq_eq_false_iff_ne.2 hze
      have HX := Lib.hid (cmE_err (s := s) (by rw [HT2.out, HV.out, I2.out hze]; exact textS_bad _ _ hze) hze)
      have HS := Lib.hid HC.out.p
      clear hze
      have hq : PP = RcP .none (e) w := by rw [HPP.out, (HX.out).1, (HX.out).2]
      have HQ := Lib.hid hq
      have h5 := HS.out.no
      have h6 := HS.out.rs
      have HD := Lib.hid (HS.out.done zrc)
      clear hq
      go_wp2_with (first | (refine wpList_load_row rfl 30 (.tmp 4) rfl (w.heap.size + 1) rfl 30 zrc (0, 0) _ h5 Try.underlying30 rfl zrc_info ?_) | (refine wpList_store_row rfl rfl 30 (.tmp 2) (.tmp 48) rfl w.heap.size rfl 30 zrc zrc rfl h6 rfl zrc_info zrc_one ?_))
      exact bodyPost_ret (v := .tuple #[.agg zrc, .int .i64 (e)]) (results_row2 Try.results10 _ _ w.heap.size 30 zrc (0, 0) _ _ rfl rfl HD.out.1 Try.underlying30 rfl zrc_info) rfl (RcP.of ⟨rfl, HD.out.2⟩ HQ.out)

    subst hze

    obtain ⟨z, hz⟩ : ∃ z, (x == 1) = z := ⟨_, rfl⟩
    have HTX : Hid (∀ p, textS u 0 4096 = p → takeM s = (.cert p.1 z, p.2)) := Lib.hid (fun p hp => by rw [HT2.out, HV.out, hp, hz])
    have lu := l2
    clear l2 lo2
    have f2 := HC.out.froz 2
    have c2 : w2.cell? ⟨g, 2, none⟩ = some (.bool false) := HC.out.cell 2
    obtain ⟨W3, hW3⟩ : ∃ W, W = w2.setCell ⟨g, 2, none⟩ (.bool z) := ⟨_, rfl⟩
    have HC : Hid (Pc w g (rcm 2 [] z 0) W3) := Lib.hid (by rw [hW3]; exact HC.out.put 2 (.bool z))
    have HW3 := Lib.hid hW3
    clear hW3

    have N3 := Lib.hid (fun w => r20num_any u 4096 w (by omega))
    have l3 := Nat.le_trans (numS_len u 0 4096) lu
    have lo3 := numS_lo u 0 4096
    obtain ⟨⟨m, v, h⟩, hp3⟩ : ∃ p, p = numS u 0 4096 := ⟨_, rfl⟩
    rw [← hp3] at N3 l3 lo3
    simp only at N3 l3 lo3
    have HP3 := Lib.hid hp3
    clear hp3
    go_wp2_with fail
    rw [← HW3.out]
    clear f2 c2 HW3

    refine (N3.out W3).mono ?_
    rintro r w3 ⟨rfl, hb⟩
    have HC := Lib.hid (HC.out.grow hb)
    clear hb N3

    have HT3 : Hid (textS u 0 4096 = rawS v h m) := Lib.hid (by have h1 : textS u 0 4096 = rawS (numS u 0 4096).2.1 (numS u 0 4096).2.2 (numS u 0 4096).1 := rfl; rw [h1, ← HP3.out])
    have I3 : Hid (h ≠ 0 → v = []) := Lib.hid (by have := numS_inv u 0 4096 (fun h => absurd rfl h); rw [← HP3.out] at this; exact this)

    by_cases hzh : h = 0
    case neg =>
      have t1 : (h != 0) = true := by rw [bne_iff_ne]; exact hzh
      have t2 : (h == 0) = false := beq_eq_false_iff_ne.2 hzh
      have HX := Lib.hid (cmE_err (s := s) (by rw [HTX.out _ rfl, HT3.out, I3.out hzh, rawS_err _ _ hzh]) hzh)
      have HS := Lib.hid HC.out.p
      clear hzh
      have hq : PP = RcP .none (h) w := by rw [HPP.out, (HX.out).1, (HX.out).2]
      have HQ := Lib.hid hq
      have h5 := HS.out.no
      have h6 := HS.out.rs
      have HD := Lib.hid (HS.out.done zrc)
      clear hq
      go_wp2_with (first | (refine wpList_load_row rfl 30 (.tmp 4) rfl (w.heap.size + 1) rfl 30 zrc (0, 0) _ h5 Try.underlying30 rfl zrc_info ?_) | (refine wpList_store_row rfl rfl 30 (.tmp 2) (.tmp 83) rfl w.heap.size rfl 30 zrc zrc rfl h6 rfl zrc_info zrc_one ?_))
      exact bodyPost_ret (v := .tuple #[.agg zrc, .int .i64 (h)]) (results_row2 Try.results10 _ _ w.heap.size 30 zrc (0, 0) _ _ rfl rfl HD.out.1 Try.underlying30 rfl zrc_info) rfl (RcP.of ⟨rfl, HD.out.2⟩ HQ.out)

    subst hzh

    obtain ⟨m', rfl⟩ : ∃ n : Nat, m = n := ⟨m.toNat, by omega⟩
    clear lo3
    obtain ⟨n, hn⟩ : ∃ n, n = v.length := ⟨_, rfl⟩
    have hsz : (ByteArray.mk v.toArray).size = n := by rw [hn]; rfl
    by_cases hm : n < m'
    case pos =>
      have hm' : (n : Int) < m' := by omega
      have HX := Lib.hid (cmE_err (s := s) (e := 2) (by rw [HTX.out _ rfl, HT3.out]; unfold rawS; rw [if_pos (by omega)]; rfl) (by decide))
      have HS := Lib.hid HC.out.p
      clear hm hn l3
      have hq : PP = RcP .none (2) w := by rw [HPP.out, (HX.out).1, (HX.out).2]
      have HQ := Lib.hid hq
      have h5 := HS.out.no
      have h6 := HS.out.rs
      have HD := Lib.hid (HS.out.done zrc)
      clear hq
      go_wp2_with (first | (refine wpList_load_row rfl 30 (.tmp 4) rfl (w.heap.size + 1) rfl 30 zrc (0, 0) _ h5 Try.underlying30 rfl zrc_info ?_) | (refine wpList_store_row rfl rfl 30 (.tmp 2) (.tmp 89) rfl w.heap.size rfl 30 zrc zrc rfl h6 rfl zrc_info zrc_one ?_))
      exact bodyPost_ret (v := .tuple #[.agg zrc, .int .i64 (2)]) (results_row2 Try.results10 _ _ w.heap.size 30 zrc (0, 0) _ _ rfl rfl HD.out.1 Try.underlying30 rfl zrc_info) rfl (RcP.of ⟨rfl, HD.out.2⟩ HQ.out)

    have hm' : ¬ (n : Int) < m' := by omega
    obtain ⟨y, hy⟩ : ∃ y, y = v.take m' := ⟨_, rfl⟩
    obtain ⟨R, hR0⟩ : ∃ R, R = v.drop m' := ⟨_, rfl⟩
    have HTK : Hid (takeM s = (.cert y z, R, 0)) := Lib.hid (by rw [HTX.out _ rfl, HT3.out]; unfold rawS; rw [if_neg (by omega), hy, hR0, Int.toNat_natCast])
    have x1 : (ByteArray.mk v.toArray).extract 0 m' = ⟨y.toArray⟩ := by rw [extract_head, hy]
    have x2 : (ByteArray.mk v.toArray).extract m' n = ⟨R.toArray⟩ := by rw [drop_bytesW v m' n hn, hR0]
    have yl : y.length ≤ 1000000 := by rw [hy, List.length_take]; omega
    have i0 : (0 : Int) ≤ m' := by omega
    have i1 : (m' : Int) ≤ n := by omega
    have f1 := HC.out.froz 1
    have c1 : w3.cell? ⟨g, 1, none⟩ = some (.string ⟨#[]⟩) := HC.out.cell 1
    obtain ⟨W4, hW4⟩ : ∃ W, W = w3.setCell ⟨g, 1, none⟩ (.string ⟨y.toArray⟩) := ⟨_, rfl⟩
    have HC : Hid (Pc w g (rcm 2 y z 0) W4) := Lib.hid (by rw [hW4]; exact HC.out.put 1 (.string ⟨y.toArray⟩))
    have HW4 := Lib.hid hW4
    have YL := Lib.hid yl
    clear hy hR0 hn hW4 hm l3 yl
    go_upto_region 28 with fail
    rw [← HW4.out]
    have yl := YL.out
    clear f1 c1 x1 x2 i0 i1 hm' hsz YL HW4

    by_cases hR : R = []
    case neg =>
      have t2 : R.isEmpty = false := by
        cases R with
        | nil => exact absurd rfl hR
        | cons a l => rfl
      have HX := Lib.hid (cmE_rest (s := s) (by rw [HTK.out]) (by rw [HTK.out]; exact hR))
      have HS := Lib.hid HC.out.p
      clear hR
      have hq : PP = RcP .none (3) w := by rw [HPP.out, (HX.out).1, (HX.out).2]
      have HQ := Lib.hid hq
      have h5 := HS.out.no
      have h6 := HS.out.rs
      have HD := Lib.hid (HS.out.done zrc)
      clear hq
      go_wp2_with (first | (refine wpList_load_row rfl 30 (.tmp 4) rfl (w.heap.size + 1) rfl 30 zrc (0, 0) _ h5 Try.underlying30 rfl zrc_info ?_) | (refine wpList_store_row rfl rfl 30 (.tmp 2) (.tmp 99) rfl w.heap.size rfl 30 zrc zrc rfl h6 rfl zrc_info zrc_one ?_))
      exact bodyPost_ret (v := .tuple #[.agg zrc, .int .i64 (3)]) (results_row2 Try.results10 _ _ w.heap.size 30 zrc (0, 0) _ _ rfl rfl HD.out.1 Try.underlying30 rfl zrc_info) rfl (RcP.of ⟨rfl, HD.out.2⟩ HQ.out)

    have HR := Lib.hid hR
    rw [hR] at HTK ⊢
    clear hR
    have HX := Lib.hid (cmE_end HTK.out)
    have HCK := Lib.hid (fun w' => rcheck20_any 2 y z 0 w' (by first | (simp; done) | omega))
    rw [show cmOf 2 y z 0 = .cert y z by simp [cmOf]] at HCK
    obtain ⟨ek, hek⟩ : ∃ ek, ek = cmCk (.cert y z) := ⟨_, rfl⟩
    rw [← hek] at HCK HX
    have h7 := HC.out.bx
    clear hek
    go_wp2_with (refine wpList_load_row rfl 30 (.tmp 7) rfl g rfl 30 (rcm 2 y z 0) (0, 0) _ h7 Try.underlying30 rfl (rcm_info 0 [] false 0) ?_)
    refine (HCK.out _).mono ?_
    rintro r w9 ⟨rfl, hb9⟩
    have HC9 := Lib.hid (HC.out.grow hb9)
    have HS := Lib.hid HC9.out.p
    clear hb9 HCK h7
    by_cases he : ek = 0
    case neg =>
      have t1 : (ek != 0) = true := by rw [bne_iff_ne]; exact he
      have t2 : (ek == 0) = false := beq_eq_false_iff_ne.2 he
      have HX2 : Hid (cmE s = ek ∧ cmC s = .none) := Lib.hid ⟨HX.out.1, by rw [HX.out.2, if_neg he]⟩
      clear he
      have hq : PP = RcP .none (ek) w := by rw [HPP.out, (HX2.out).1, (HX2.out).2]
      have HQ := Lib.hid hq
      have h5 := HS.out.no
      have h6 := HS.out.rs
      have HD := Lib.hid (HS.out.done zrc)
      clear hq
      go_wp2_with (first | (refine wpList_load_row rfl 30 (.tmp 4) rfl (w.heap.size + 1) rfl 30 zrc (0, 0) _ h5 Try.underlying30 rfl zrc_info ?_) | (refine wpList_store_row rfl rfl 30 (.tmp 2) (.tmp 104) rfl w.heap.size rfl 30 zrc zrc rfl h6 rfl zrc_info zrc_one ?_))
      exact bodyPost_ret (v := .tuple #[.agg zrc, .int .i64 (ek)]) (results_row2 Try.results10 _ _ w.heap.size 30 zrc (0, 0) _ _ rfl rfl HD.out.1 Try.underlying30 rfl zrc_info) rfl (RcP.of ⟨rfl, HD.out.2⟩ HQ.out)

    subst he
    have hq : PP = RcP (.cert y z) 0 w := by rw [HPP.out, HX.out.1, HX.out.2, if_pos rfl]
    have HQ := Lib.hid hq
    have h6 := HS.out.rs
    have h7 := HC9.out.bx
    have HD := Lib.hid (HS.out.done (rcm 2 y z 0))
    clear hq
    go_wp2_with (first | (refine wpList_load_row rfl 30 (.tmp 7) rfl g rfl 30 (rcm 2 y z 0) (0, 0) _ h7 Try.underlying30 rfl (rcm_info 0 [] false 0) ?_) | (refine wpList_store_row rfl rfl 30 (.tmp 2) (.tmp 106) rfl w.heap.size rfl 30 zrc (rcm 2 y z 0) rfl h6 rfl (rcm_info 0 [] false 0) (rcm_one _ _ _ _) ?_))
    exact bodyPost_ret (v := .tuple #[.agg (rcm 2 y z 0), .int .i64 0]) (results_row2 Try.results10 _ _ w.heap.size 30 (rcm 2 y z 0) (0, 0) _ _ rfl rfl HD.out.1 Try.underlying30 rfl (rcm_info 0 [] false 0)) rfl (RcP.of ⟨rfl, HD.out.2⟩ HQ.out)
  · have HT2 : Hid (takeM s = (.clock (numS t 0 4611686018427387904).1, (numS t 0 4611686018427387904).2)) := Lib.hid (by rw [HT.out]; simp [bodyS])
    obtain ⟨g, hg⟩ : ∃ g, g = w1.heap.size := ⟨_, rfl⟩
    obtain ⟨W2, hW2⟩ : ∃ W, W = w1.alloc (.cells #[.int .i64 3, .string ⟨#[]⟩, .bool false, .int .i64 0] 30) := ⟨_, rfl⟩
    have HC : Hid (Pc w g (rcm 3 [] false 0) W2) := Lib.hid (by rw [hW2, hg]; exact HS.out.box _)
    have HW2 := Lib.hid hW2
    have Hg := Lib.hid hg
    clear hW2 hg HS

    have N2 := Lib.hid (fun w => r20num_any t 4611686018427387904 w (by omega))
    have l2 := Nat.le_trans (numS_len t 0 4611686018427387904) lt
    have lo2 := numS_lo t 0 4611686018427387904
    obtain ⟨⟨x, u, e⟩, hp2⟩ : ∃ p, p = numS t 0 4611686018427387904 := ⟨_, rfl⟩
    rw [← hp2] at N2 l2 lo2
    simp only at N2 l2 lo2
    have HP2 := Lib.hid hp2
    clear hp2
    go_wp2_with fail
    rw [← HW2.out, ← Hg.out]
    clear HW2

    refine (N2.out W2).mono ?_
    rintro r w2 ⟨rfl, hb⟩
    have HC := Lib.hid (HC.out.grow hb)
    clear hb N2

    have HT4 : Hid (takeM s = (.clock x, u, e)) := Lib.hid (by rw [HT2.out, ← HP2.out])

    by_cases hze : e = 0
    case neg =>
      have t1 : (e != 0) = true := by rw [bne_iff_ne]; exact hze
      have t2 : (e == 0) = false := beq_eq_false_iff_ne.2 hze
      have HX := Lib.hid (cmE_err (s := s) (by rw [HT4.out]) hze)
      have HS := Lib.hid HC.out.p
      clear hze
      have hq : PP = RcP .none (e) w := by rw [HPP.out, (HX.out).1, (HX.out).2]
      have HQ := Lib.hid hq
      have h5 := HS.out.no
      have h6 := HS.out.rs
      have HD := Lib.hid (HS.out.done zrc)
      clear hq
      go_wp2_with (first | (refine wpList_load_row rfl 30 (.tmp 4) rfl (w.heap.size + 1) rfl 30 zrc (0, 0) _ h5 Try.underlying30 rfl zrc_info ?_) | (refine wpList_store_row rfl rfl 30 (.tmp 2) (.tmp 64) rfl w.heap.size rfl 30 zrc zrc rfl h6 rfl zrc_info zrc_one ?_))
      exact bodyPost_ret (v := .tuple #[.agg zrc, .int .i64 (e)]) (results_row2 Try.results10 _ _ w.heap.size 30 zrc (0, 0) _ _ rfl rfl HD.out.1 Try.underlying30 rfl zrc_info) rfl (RcP.of ⟨rfl, HD.out.2⟩ HQ.out)

    subst hze

    clear l2 lo2
    have f2 := HC.out.froz 3
    have c2 : w2.cell? ⟨g, 3, none⟩ = some (.int .i64 0) := HC.out.cell 3
    obtain ⟨W3, hW3⟩ : ∃ W, W = w2.setCell ⟨g, 3, none⟩ (.int .i64 x) := ⟨_, rfl⟩
    have HC : Hid (Pc w g (rcm 3 [] false x) W3) := Lib.hid (by rw [hW3]; exact HC.out.put 3 (.int .i64 x))
    have HW3 := Lib.hid hW3
    have HTK := HT4
    clear hW3
    go_upto_region 28 with fail
    rw [← HW3.out]
    clear f2 c2 HW3

    by_cases hR : u = []
    case neg =>
      have t2 : u.isEmpty = false := by
        cases u with
        | nil => exact absurd rfl hR
        | cons a l => rfl
      have HX := Lib.hid (cmE_rest (s := s) (by rw [HTK.out]) (by rw [HTK.out]; exact hR))
      have HS := Lib.hid HC.out.p
      clear hR
      have hq : PP = RcP .none (3) w := by rw [HPP.out, (HX.out).1, (HX.out).2]
      have HQ := Lib.hid hq
      have h5 := HS.out.no
      have h6 := HS.out.rs
      have HD := Lib.hid (HS.out.done zrc)
      clear hq
      go_wp2_with (first | (refine wpList_load_row rfl 30 (.tmp 4) rfl (w.heap.size + 1) rfl 30 zrc (0, 0) _ h5 Try.underlying30 rfl zrc_info ?_) | (refine wpList_store_row rfl rfl 30 (.tmp 2) (.tmp 99) rfl w.heap.size rfl 30 zrc zrc rfl h6 rfl zrc_info zrc_one ?_))
      exact bodyPost_ret (v := .tuple #[.agg zrc, .int .i64 (3)]) (results_row2 Try.results10 _ _ w.heap.size 30 zrc (0, 0) _ _ rfl rfl HD.out.1 Try.underlying30 rfl zrc_info) rfl (RcP.of ⟨rfl, HD.out.2⟩ HQ.out)

    have HR := Lib.hid hR
    rw [hR] at HTK ⊢
    clear hR
    have HX := Lib.hid (cmE_end HTK.out)
    have HCK := Lib.hid (fun w' => rcheck20_any 3 [] false x w' (by first | (simp; done) | omega))
    rw [show cmOf 3 [] false x = .clock x by simp [cmOf]] at HCK
    obtain ⟨ek, hek⟩ : ∃ ek, ek = cmCk (.clock x) := ⟨_, rfl⟩
    rw [← hek] at HCK HX
    have h7 := HC.out.bx
    clear hek
    go_wp2_with (refine wpList_load_row rfl 30 (.tmp 7) rfl g rfl 30 (rcm 3 [] false x) (0, 0) _ h7 Try.underlying30 rfl (rcm_info 0 [] false 0) ?_)
    refine (HCK.out _).mono ?_
    rintro r w9 ⟨rfl, hb9⟩
    have HC9 := Lib.hid (HC.out.grow hb9)
    have HS := Lib.hid HC9.out.p
    clear hb9 HCK h7
    by_cases he : ek = 0
    case neg =>
      have t1 : (ek != 0) = true := by rw [bne_iff_ne]; exact he
      have t2 : (ek == 0) = false := beq_eq_false_iff_ne.2 he
      have HX2 : Hid (cmE s = ek ∧ cmC s = .none) := Lib.hid ⟨HX.out.1, by rw [HX.out.2, if_neg he]⟩
      clear he
      have hq : PP = RcP .none (ek) w := by rw [HPP.out, (HX2.out).1, (HX2.out).2]
      have HQ := Lib.hid hq
      have h5 := HS.out.no
      have h6 := HS.out.rs
      have HD := Lib.hid (HS.out.done zrc)
      clear hq
      go_wp2_with (first | (refine wpList_load_row rfl 30 (.tmp 4) rfl (w.heap.size + 1) rfl 30 zrc (0, 0) _ h5 Try.underlying30 rfl zrc_info ?_) | (refine wpList_store_row rfl rfl 30 (.tmp 2) (.tmp 104) rfl w.heap.size rfl 30 zrc zrc rfl h6 rfl zrc_info zrc_one ?_))
      exact bodyPost_ret (v := .tuple #[.agg zrc, .int .i64 (ek)]) (results_row2 Try.results10 _ _ w.heap.size 30 zrc (0, 0) _ _ rfl rfl HD.out.1 Try.underlying30 rfl zrc_info) rfl (RcP.of ⟨rfl, HD.out.2⟩ HQ.out)

    subst he
    have hq : PP = RcP (.clock x) 0 w := by rw [HPP.out, HX.out.1, HX.out.2, if_pos rfl]
    have HQ := Lib.hid hq
    have h6 := HS.out.rs
    have h7 := HC9.out.bx
    have HD := Lib.hid (HS.out.done (rcm 3 [] false x))
    clear hq
    go_wp2_with (first | (refine wpList_load_row rfl 30 (.tmp 7) rfl g rfl 30 (rcm 3 [] false x) (0, 0) _ h7 Try.underlying30 rfl (rcm_info 0 [] false 0) ?_) | (refine wpList_store_row rfl rfl 30 (.tmp 2) (.tmp 106) rfl w.heap.size rfl 30 zrc (rcm 3 [] false x) rfl h6 rfl (rcm_info 0 [] false 0) (rcm_one _ _ _ _) ?_))
    exact bodyPost_ret (v := .tuple #[.agg (rcm 3 [] false x), .int .i64 0]) (results_row2 Try.results10 _ _ w.heap.size 30 (rcm 3 [] false x) (0, 0) _ _ rfl rfl HD.out.1 Try.underlying30 rfl (rcm_info 0 [] false 0)) rfl (RcP.of ⟨rfl, HD.out.2⟩ HQ.out)
  · have HTX : Hid (∀ p, textS t 0 4096 = p → takeM s = (.mark p.1, p.2)) := Lib.hid (fun p hp => by rw [HT.out]; simp [bodyS, hp])
    obtain ⟨g, hg⟩ : ∃ g, g = w1.heap.size := ⟨_, rfl⟩
    obtain ⟨W2, hW2⟩ : ∃ W, W = w1.alloc (.cells #[.int .i64 4, .string ⟨#[]⟩, .bool false, .int .i64 0] 30) := ⟨_, rfl⟩
    have HC : Hid (Pc w g (rcm 4 [] false 0) W2) := Lib.hid (by rw [hW2, hg]; exact HS.out.box _)
    have HW2 := Lib.hid hW2
    have Hg := Lib.hid hg
    clear hW2 hg HS

    have N3 := Lib.hid (fun w => r20num_any t 4096 w (by omega))
    have l3 := Nat.le_trans (numS_len t 0 4096) lt
    have lo3 := numS_lo t 0 4096
    obtain ⟨⟨m, v, h⟩, hp3⟩ : ∃ p, p = numS t 0 4096 := ⟨_, rfl⟩
    rw [← hp3] at N3 l3 lo3
    simp only at N3 l3 lo3
    have HP3 := Lib.hid hp3
    clear hp3
    go_wp2_with fail
    rw [← HW2.out, ← Hg.out]
    clear HW2

    refine (N3.out W2).mono ?_
    rintro r w3 ⟨rfl, hb⟩
    have HC := Lib.hid (HC.out.grow hb)
    clear hb N3

    have HT3 : Hid (textS t 0 4096 = rawS v h m) := Lib.hid (by have h1 : textS t 0 4096 = rawS (numS t 0 4096).2.1 (numS t 0 4096).2.2 (numS t 0 4096).1 := rfl; rw [h1, ← HP3.out])
    have I3 : Hid (h ≠ 0 → v = []) := Lib.hid (by have := numS_inv t 0 4096 (fun h => absurd rfl h); rw [← HP3.out] at this; exact this)

    by_cases hzh : h = 0
    case neg =>
      have t1 : (h != 0) = true := by rw [bne_iff_ne]; exact hzh
      have t2 : (h == 0) = false := beq_eq_false_iff_ne.2 hzh
      have HX := Lib.hid (cmE_err (s := s) (by rw [HTX.out _ rfl, HT3.out, I3.out hzh, rawS_err _ _ hzh]) hzh)
      have HS := Lib.hid HC.out.p
      clear hzh
      have hq : PP = RcP .none (h) w := by rw [HPP.out, (HX.out).1, (HX.out).2]
      have HQ := Lib.hid hq
      have h5 := HS.out.no
      have h6 := HS.out.rs
      have HD := Lib.hid (HS.out.done zrc)
      clear hq
      go_wp2_with (first | (refine wpList_load_row rfl 30 (.tmp 4) rfl (w.heap.size + 1) rfl 30 zrc (0, 0) _ h5 Try.underlying30 rfl zrc_info ?_) | (refine wpList_store_row rfl rfl 30 (.tmp 2) (.tmp 83) rfl w.heap.size rfl 30 zrc zrc rfl h6 rfl zrc_info zrc_one ?_))
      exact bodyPost_ret (v := .tuple #[.agg zrc, .int .i64 (h)]) (results_row2 Try.results10 _ _ w.heap.size 30 zrc (0, 0) _ _ rfl rfl HD.out.1 Try.underlying30 rfl zrc_info) rfl (RcP.of ⟨rfl, HD.out.2⟩ HQ.out)

    subst hzh

    obtain ⟨m', rfl⟩ : ∃ n : Nat, m = n := ⟨m.toNat, by omega⟩
    clear lo3
    obtain ⟨n, hn⟩ : ∃ n, n = v.length := ⟨_, rfl⟩
    have hsz : (ByteArray.mk v.toArray).size = n := by rw [hn]; rfl
    by_cases hm : n < m'
    case pos =>
      have hm' : (n : Int) < m' := by omega
      have HX := Lib.hid (cmE_err (s := s) (e := 2) (by rw [HTX.out _ rfl, HT3.out]; unfold rawS; rw [if_pos (by omega)]; rfl) (by decide))
      have HS := Lib.hid HC.out.p
      clear hm hn l3
      have hq : PP = RcP .none (2) w := by rw [HPP.out, (HX.out).1, (HX.out).2]
      have HQ := Lib.hid hq
      have h5 := HS.out.no
      have h6 := HS.out.rs
      have HD := Lib.hid (HS.out.done zrc)
      clear hq
      go_wp2_with (first | (refine wpList_load_row rfl 30 (.tmp 4) rfl (w.heap.size + 1) rfl 30 zrc (0, 0) _ h5 Try.underlying30 rfl zrc_info ?_) | (refine wpList_store_row rfl rfl 30 (.tmp 2) (.tmp 89) rfl w.heap.size rfl 30 zrc zrc rfl h6 rfl zrc_info zrc_one ?_))
      exact bodyPost_ret (v := .tuple #[.agg zrc, .int .i64 (2)]) (results_row2 Try.results10 _ _ w.heap.size 30 zrc (0, 0) _ _ rfl rfl HD.out.1 Try.underlying30 rfl zrc_info) rfl (RcP.of ⟨rfl, HD.out.2⟩ HQ.out)

    have hm' : ¬ (n : Int) < m' := by omega
    obtain ⟨y, hy⟩ : ∃ y, y = v.take m' := ⟨_, rfl⟩
    obtain ⟨R, hR0⟩ : ∃ R, R = v.drop m' := ⟨_, rfl⟩
    have HTK : Hid (takeM s = (.mark y, R, 0)) := Lib.hid (by rw [HTX.out _ rfl, HT3.out]; unfold rawS; rw [if_neg (by omega), hy, hR0, Int.toNat_natCast])
    have x1 : (ByteArray.mk v.toArray).extract 0 m' = ⟨y.toArray⟩ := by rw [extract_head, hy]
    have x2 : (ByteArray.mk v.toArray).extract m' n = ⟨R.toArray⟩ := by rw [drop_bytesW v m' n hn, hR0]
    have yl : y.length ≤ 1000000 := by rw [hy, List.length_take]; omega
    have i0 : (0 : Int) ≤ m' := by omega
    have i1 : (m' : Int) ≤ n := by omega
    have f1 := HC.out.froz 1
    have c1 : w3.cell? ⟨g, 1, none⟩ = some (.string ⟨#[]⟩) := HC.out.cell 1
    obtain ⟨W4, hW4⟩ : ∃ W, W = w3.setCell ⟨g, 1, none⟩ (.string ⟨y.toArray⟩) := ⟨_, rfl⟩
    have HC : Hid (Pc w g (rcm 4 y false 0) W4) := Lib.hid (by rw [hW4]; exact HC.out.put 1 (.string ⟨y.toArray⟩))
    have HW4 := Lib.hid hW4
    have YL := Lib.hid yl
    clear hy hR0 hn hW4 hm l3 yl
    go_upto_region 28 with fail
    rw [← HW4.out]
    have yl := YL.out
    clear f1 c1 x1 x2 i0 i1 hm' hsz YL HW4

    by_cases hR : R = []
    case neg =>
      have t2 : R.isEmpty = false := by
        cases R with
        | nil => exact absurd rfl hR
        | cons a l => rfl
      have HX := Lib.hid (cmE_rest (s := s) (by rw [HTK.out]) (by rw [HTK.out]; exact hR))
      have HS := Lib.hid HC.out.p
      clear hR
      have hq : PP = RcP .none (3) w := by rw [HPP.out, (HX.out).1, (HX.out).2]
      have HQ := Lib.hid hq
      have h5 := HS.out.no
      have h6 := HS.out.rs
      have HD := Lib.hid (HS.out.done zrc)
      clear hq
      go_wp2_with (first | (refine wpList_load_row rfl 30 (.tmp 4) rfl (w.heap.size + 1) rfl 30 zrc (0, 0) _ h5 Try.underlying30 rfl zrc_info ?_) | (refine wpList_store_row rfl rfl 30 (.tmp 2) (.tmp 99) rfl w.heap.size rfl 30 zrc zrc rfl h6 rfl zrc_info zrc_one ?_))
      exact bodyPost_ret (v := .tuple #[.agg zrc, .int .i64 (3)]) (results_row2 Try.results10 _ _ w.heap.size 30 zrc (0, 0) _ _ rfl rfl HD.out.1 Try.underlying30 rfl zrc_info) rfl (RcP.of ⟨rfl, HD.out.2⟩ HQ.out)

    have HR := Lib.hid hR
    rw [hR] at HTK ⊢
    clear hR
    have HX := Lib.hid (cmE_end HTK.out)
    have HCK := Lib.hid (fun w' => rcheck20_any 4 y false 0 w' (by first | (simp; done) | omega))
    rw [show cmOf 4 y false 0 = .mark y by simp [cmOf]] at HCK
    obtain ⟨ek, hek⟩ : ∃ ek, ek = cmCk (.mark y) := ⟨_, rfl⟩
    rw [← hek] at HCK HX
    have h7 := HC.out.bx
    clear hek
    go_wp2_with (refine wpList_load_row rfl 30 (.tmp 7) rfl g rfl 30 (rcm 4 y false 0) (0, 0) _ h7 Try.underlying30 rfl (rcm_info 0 [] false 0) ?_)
    refine (HCK.out _).mono ?_
    rintro r w9 ⟨rfl, hb9⟩
    have HC9 := Lib.hid (HC.out.grow hb9)
    have HS := Lib.hid HC9.out.p
    clear hb9 HCK h7
    by_cases he : ek = 0
    case neg =>
      have t1 : (ek != 0) = true := by rw [bne_iff_ne]; exact he
      have t2 : (ek == 0) = false := beq_eq_false_iff_ne.2 he
      have HX2 : Hid (cmE s = ek ∧ cmC s = .none) := Lib.hid ⟨HX.out.1, by rw [HX.out.2, if_neg he]⟩
      clear he
      have hq : PP = RcP .none (ek) w := by rw [HPP.out, (HX2.out).1, (HX2.out).2]
      have HQ := Lib.hid hq
      have h5 := HS.out.no
      have h6 := HS.out.rs
      have HD := Lib.hid (HS.out.done zrc)
      clear hq
      go_wp2_with (first | (refine wpList_load_row rfl 30 (.tmp 4) rfl (w.heap.size + 1) rfl 30 zrc (0, 0) _ h5 Try.underlying30 rfl zrc_info ?_) | (refine wpList_store_row rfl rfl 30 (.tmp 2) (.tmp 104) rfl w.heap.size rfl 30 zrc zrc rfl h6 rfl zrc_info zrc_one ?_))
      exact bodyPost_ret (v := .tuple #[.agg zrc, .int .i64 (ek)]) (results_row2 Try.results10 _ _ w.heap.size 30 zrc (0, 0) _ _ rfl rfl HD.out.1 Try.underlying30 rfl zrc_info) rfl (RcP.of ⟨rfl, HD.out.2⟩ HQ.out)

    subst he
    have hq : PP = RcP (.mark y) 0 w := by rw [HPP.out, HX.out.1, HX.out.2, if_pos rfl]
    have HQ := Lib.hid hq
    have h6 := HS.out.rs
    have h7 := HC9.out.bx
    have HD := Lib.hid (HS.out.done (rcm 4 y false 0))
    clear hq
    go_wp2_with (first | (refine wpList_load_row rfl 30 (.tmp 7) rfl g rfl 30 (rcm 4 y false 0) (0, 0) _ h7 Try.underlying30 rfl (rcm_info 0 [] false 0) ?_) | (refine wpList_store_row rfl rfl 30 (.tmp 2) (.tmp 106) rfl w.heap.size rfl 30 zrc (rcm 4 y false 0) rfl h6 rfl (rcm_info 0 [] false 0) (rcm_one _ _ _ _) ?_))
    exact bodyPost_ret (v := .tuple #[.agg (rcm 4 y false 0), .int .i64 0]) (results_row2 Try.results10 _ _ w.heap.size 30 (rcm 4 y false 0) (0, 0) _ _ rfl rfl HD.out.1 Try.underlying30 rfl (rcm_info 0 [] false 0)) rfl (RcP.of ⟨rfl, HD.out.2⟩ HQ.out)
  · have HTK : Hid (takeM s = (.unmark, t, 0)) := Lib.hid (by rw [HT.out]; simp [bodyS])
    obtain ⟨g, hg⟩ : ∃ g, g = w1.heap.size := ⟨_, rfl⟩
    obtain ⟨W2, hW2⟩ : ∃ W, W = w1.alloc (.cells #[.int .i64 5, .string ⟨#[]⟩, .bool false, .int .i64 0] 30) := ⟨_, rfl⟩
    have HC : Hid (Pc w g (rcm 5 [] false 0) W2) := Lib.hid (by rw [hW2, hg]; exact HS.out.box _)
    have HW2 := Lib.hid hW2
    have Hg := Lib.hid hg
    clear hW2 hg HS
    go_upto_region 28 with fail
    rw [← HW2.out, ← Hg.out]
    clear HW2

    by_cases hR : t = []
    case neg =>
      have t2 : t.isEmpty = false := by
        cases t with
        | nil => exact absurd rfl hR
        | cons a l => rfl
      have HX := Lib.hid (cmE_rest (s := s) (by rw [HTK.out]) (by rw [HTK.out]; exact hR))
      have HS := Lib.hid HC.out.p
      clear hR
      have hq : PP = RcP .none (3) w := by rw [HPP.out, (HX.out).1, (HX.out).2]
      have HQ := Lib.hid hq
      have h5 := HS.out.no
      have h6 := HS.out.rs
      have HD := Lib.hid (HS.out.done zrc)
      clear hq
      go_wp2_with (first | (refine wpList_load_row rfl 30 (.tmp 4) rfl (w.heap.size + 1) rfl 30 zrc (0, 0) _ h5 Try.underlying30 rfl zrc_info ?_) | (refine wpList_store_row rfl rfl 30 (.tmp 2) (.tmp 99) rfl w.heap.size rfl 30 zrc zrc rfl h6 rfl zrc_info zrc_one ?_))
      exact bodyPost_ret (v := .tuple #[.agg zrc, .int .i64 (3)]) (results_row2 Try.results10 _ _ w.heap.size 30 zrc (0, 0) _ _ rfl rfl HD.out.1 Try.underlying30 rfl zrc_info) rfl (RcP.of ⟨rfl, HD.out.2⟩ HQ.out)

    have HR := Lib.hid hR
    rw [hR] at HTK ⊢
    clear hR
    have HX := Lib.hid (cmE_end HTK.out)
    have HCK := Lib.hid (fun w' => rcheck20_any 5 [] false 0 w' (by first | (simp; done) | omega))
    rw [show cmOf 5 [] false 0 = .unmark by simp [cmOf]] at HCK
    obtain ⟨ek, hek⟩ : ∃ ek, ek = cmCk (.unmark) := ⟨_, rfl⟩
    rw [← hek] at HCK HX
    have h7 := HC.out.bx
    clear hek
    go_wp2_with (refine wpList_load_row rfl 30 (.tmp 7) rfl g rfl 30 (rcm 5 [] false 0) (0, 0) _ h7 Try.underlying30 rfl (rcm_info 0 [] false 0) ?_)
    refine (HCK.out _).mono ?_
    rintro r w9 ⟨rfl, hb9⟩
    have HC9 := Lib.hid (HC.out.grow hb9)
    have HS := Lib.hid HC9.out.p
    clear hb9 HCK h7
    by_cases he : ek = 0
    case neg =>
      have t1 : (ek != 0) = true := by rw [bne_iff_ne]; exact he
      have t2 : (ek == 0) = false := beq_eq_false_iff_ne.2 he
      have HX2 : Hid (cmE s = ek ∧ cmC s = .none) := Lib.hid ⟨HX.out.1, by rw [HX.out.2, if_neg he]⟩
      clear he
      have hq : PP = RcP .none (ek) w := by rw [HPP.out, (HX2.out).1, (HX2.out).2]
      have HQ := Lib.hid hq
      have h5 := HS.out.no
      have h6 := HS.out.rs
      have HD := Lib.hid (HS.out.done zrc)
      clear hq
      go_wp2_with (first | (refine wpList_load_row rfl 30 (.tmp 4) rfl (w.heap.size + 1) rfl 30 zrc (0, 0) _ h5 Try.underlying30 rfl zrc_info ?_) | (refine wpList_store_row rfl rfl 30 (.tmp 2) (.tmp 104) rfl w.heap.size rfl 30 zrc zrc rfl h6 rfl zrc_info zrc_one ?_))
      exact bodyPost_ret (v := .tuple #[.agg zrc, .int .i64 (ek)]) (results_row2 Try.results10 _ _ w.heap.size 30 zrc (0, 0) _ _ rfl rfl HD.out.1 Try.underlying30 rfl zrc_info) rfl (RcP.of ⟨rfl, HD.out.2⟩ HQ.out)

    subst he
    have hq : PP = RcP (.unmark) 0 w := by rw [HPP.out, HX.out.1, HX.out.2, if_pos rfl]
    have HQ := Lib.hid hq
    have h6 := HS.out.rs
    have h7 := HC9.out.bx
    have HD := Lib.hid (HS.out.done (rcm 5 [] false 0))
    clear hq
    go_wp2_with (first | (refine wpList_load_row rfl 30 (.tmp 7) rfl g rfl 30 (rcm 5 [] false 0) (0, 0) _ h7 Try.underlying30 rfl (rcm_info 0 [] false 0) ?_) | (refine wpList_store_row rfl rfl 30 (.tmp 2) (.tmp 106) rfl w.heap.size rfl 30 zrc (rcm 5 [] false 0) rfl h6 rfl (rcm_info 0 [] false 0) (rcm_one _ _ _ _) ?_))
    exact bodyPost_ret (v := .tuple #[.agg (rcm 5 [] false 0), .int .i64 0]) (results_row2 Try.results10 _ _ w.heap.size 30 (rcm 5 [] false 0) (0, 0) _ _ rfl rfl HD.out.1 Try.underlying30 rfl (rcm_info 0 [] false 0)) rfl (RcP.of ⟨rfl, HD.out.2⟩ HQ.out)
end Go.Proofs.Ytambljnmaibdmaa

namespace Go.Proofs.Ytambljnmaibdmaa
open Go.RowKit

set_option maxRecDepth 20000 in
set_option maxHeartbeats 4000000 in
theorem awake20_any (w : World) : Calls Try.prog 7 #[] w fun r w' => r = .returned (.bool true) ∧ Below w.heap.size w w' := by
  have hE : cmE [1, 3, 1, 5] = 0 := by decide +kernel
  obtain ⟨_, hB, hC⟩ := cmE_ok hE
  have hT : (takeM [1, 3, 1, 5]).1 = .clock 5 := by kernel_rfl
  rw [hT] at hB hC
  have HP := cmparse_any [1, 3, 1, 5] w (by decide)
  rw [hE, hC] at HP
  have HP := Lib.hid HP
  have HBY := Lib.hid (fun w => cmbytes_any (.clock 5) w trivial)
  rw [show cmCk (.clock 5) = 0 from by decide, if_pos rfl, hB] at HBY
  have HN := Lib.hid (fun w => cmname_any (.clock 5) w)
  have HK := Lib.hid (fun w => cmkClock_any (.int .i64 5) w)
  unfold cmV at HP HBY HN
  unfold cmNm at HN
  simp only at HP HBY HN
  have hta := taClockClock
  clear hE hB hC hT
  go_enter Try.func7, Try.ntmps7
  go_wp2_with fail
  refine HP.out.mono ?_
  rintro r w1 ⟨rfl, hb1⟩
  have hb2 : Below w1.heap.size w1 (w1.alloc (.cells #[.int .i64 5] 45)) := (Below.refl _ _).alloc (Nat.le_refl _) _
  have HB := Lib.hid (hb1.trans (hb2.mono hb1.size))
  have HBX : Hid (∀ w', Below (w1.alloc (.cells #[.int .i64 5] 45)).heap.size (w1.alloc (.cells #[.int .i64 5] 45)) w' → w'.cell? ⟨w1.heap.size, 0, none⟩ = some (.int .i64 5)) := Lib.hid (fun w' h => by
    have := old_block (heap_alloc_new w1 (.cells #[.int .i64 5] 45)) h
    exact cell_of_row w' _ 0 _ _ _ this)
  obtain ⟨W2, hW2⟩ : ∃ W, W = w1.alloc (.cells #[.int .i64 5] 45) := ⟨_, rfl⟩
  rw [← hW2] at HB HBX
  have HW2 := Lib.hid hW2
  clear hb1 hb2 hW2 HP
  go_wp2_with fail
  rw [← HW2.out]
  generalize w1.heap.size = g at HBX ⊢
  clear HW2
  refine (HBY.out W2).mono ?_
  rintro r w3 ⟨rfl, hb3⟩
  have cc := HBX.out w3 hb3
  have HB3 := Lib.hid hb3
  clear hb3 HBY
  go_wp2_with fail
  refine (HN.out w3).mono ?_
  rintro r w4 ⟨rfl, rfl⟩
  clear HN
  go_wp2_with fail
  refine (HK.out w3).mono ?_
  rintro r w5 ⟨rfl, hb5⟩
  have HF := Lib.hid (HB.out.trans ((HB3.out.trans (hb5.mono HB3.out.size)).mono HB.out.size))
  clear cc hb5 HK
  go_wp2_with fail
  go_ret
  exact ⟨rfl, HF.out⟩
end Go.Proofs.Ytambljnmaibdmaa

namespace Go.Proofs.Ytambljnmaibdmaa
open Go.RowKit

section
variable {P : Program} (w : World)
theorem iface_dyn {t tx : TypeId} {ms : Array (String × TypeId)} {vx vy : Value} {b : Bool} (ht : P.underlying t = some (.interface ms)) (hc : (P.info? tx).map (·.comparable) = some true) (h : ∀ d, (Op.equalIn (d + 2) tx vx vy).run P w = .ok b w) :
    (binOp .eql t (.iface tx vx) (.iface tx vy)).run P w = .ok (.bool b) w := by
  cases hi : P.info? tx with
  | none => simp [hi] at hc
  | some i =>
    have hcc : i.comparable = true := by simpa [hi] using hc
    have h : ∀ d : Nat, (Op.equalIn (d + 3) t (.iface tx vx) (.iface tx vy)).run P w = .ok b w := fun d => by
      rw [Op.equalIn]
      simp [run_underlying ht, typeInfo, hi, hcc, h d]
    simp only [binOp]
    simp [Op.equal, Op.maxDepth, h 9997]
theorem fields_none {t : TypeId} (ht : P.underlying t = some (.struct (P.fieldsOf t))) (hp : P.stoodInHeld t = false) (hl : (P.fieldsOf t).toList.map (fun f => (f.name, f.type, f.offset)) = []) (xs ys : Array Value) (d : Nat) :
    (Op.equalIn (d + 2) t (.agg xs) (.agg ys)).run P w = .ok true w := by
  rw [run_equalIn_struct (w := w) (d + 1) t _ _ ht hp]
  generalize (P.fieldsOf t).toList = L at hl ⊢
  match L, hl with
  | [], _ => simp [Op.eqFields]
theorem fields_str {t u : TypeId} {nm : String} (ht : P.underlying t = some (.struct (P.fieldsOf t))) (hp : P.stoodInHeld t = false) (hl : (P.fieldsOf t).toList.map (fun f => (f.name, f.type, f.offset)) = [(nm, u, 0)]) (hnm : nm ≠ "_") (hu : P.underlying u = some .string) (a b : ByteArray) (d : Nat) :
    (Op.equalIn (d + 2) t (.agg #[.string a]) (.agg #[.string b])).run P w = .ok (a.toList == b.toList) w := by
  have hs : ∀ z : ByteArray, (part u #[.string z] 0).run P w = .ok (.string z) w := fun z => by simp [part, isAgg, run_underlying hu]
  rw [run_equalIn_struct (w := w) (d + 1) t _ _ ht hp]
  generalize (P.fieldsOf t).toList = L at hl ⊢
  match L, hl with
  | [], hl => cases hl
  | _ :: _ :: _, hl => simp at hl
  | [f], hl =>
    simp only [List.map_cons, List.map_nil, List.cons.injEq, Prod.mk.injEq, and_true] at hl
    obtain ⟨h1, h2, h3⟩ := hl
    simp only [Op.eqFields, h1, h2, h3]
    rw [if_pos hnm]
    simp only [Sem.run_bind, hs, Result.andThen_ok, run_equalIn_string w d u a b hu]
    cases a.toList == b.toList <;> simp
theorem fields_int {t u : TypeId} {nm : String} (ht : P.underlying t = some (.struct (P.fieldsOf t))) (hp : P.stoodInHeld t = false) (hl : (P.fieldsOf t).toList.map (fun f => (f.name, f.type, f.offset)) = [(nm, u, 0)]) (hnm : nm ≠ "_") (hu : P.underlying u = some (.int .i64)) (a b : Int) (d : Nat) :
    (Op.equalIn (d + 2) t (.agg #[.int .i64 a]) (.agg #[.int .i64 b])).run P w = .ok (a == b) w := by
  have hs : ∀ z : Int, (part u #[.int .i64 z] 0).run P w = .ok (.int .i64 z) w := fun z => by simp [part, isAgg, run_underlying hu]
  rw [run_equalIn_struct (w := w) (d + 1) t _ _ ht hp]
  generalize (P.fieldsOf t).toList = L at hl ⊢
  match L, hl with
  | [], hl => cases hl
  | _ :: _ :: _, hl => simp at hl
  | [f], hl =>
    simp only [List.map_cons, List.map_nil, List.cons.injEq, Prod.mk.injEq, and_true] at hl
    obtain ⟨h1, h2, h3⟩ := hl
    simp only [Op.eqFields, h1, h2, h3]
    rw [if_pos hnm]
    simp only [Sem.run_bind, hs, Result.andThen_ok, run_equalIn_int w d u .i64 .i64 a b hu]
    cases a == b <;> simp
theorem fields_strbool {t u v : TypeId} {nm nn : String} (ht : P.underlying t = some (.struct (P.fieldsOf t))) (hp : P.stoodInHeld t = false) (hl : (P.fieldsOf t).toList.map (fun f => (f.name, f.type, f.offset)) = [(nm, u, 0), (nn, v, 1)]) (hnm : nm ≠ "_") (hnn : nn ≠ "_") (hu : P.underlying u = some .string) (hv : P.underlying v = some .bool) (a b : ByteArray) (p q : Bool) (d : Nat) :
    (Op.equalIn (d + 2) t (.agg #[.string a, .bool p]) (.agg #[.string b, .bool q])).run P w = .ok (a.toList == b.toList && p == q) w := by
  have hs : ∀ (z : ByteArray) (y : Bool), (part u #[.string z, .bool y] 0).run P w = .ok (.string z) w := fun z y => by simp [part, isAgg, run_underlying hu]
  have hs2 : ∀ (z : ByteArray) (y : Bool), (part v #[.string z, .bool y] 1).run P w = .ok (.bool y) w := fun z y => by simp [part, isAgg, run_underlying hv]
  rw [run_equalIn_struct (w := w) (d + 1) t _ _ ht hp]
  generalize (P.fieldsOf t).toList = L at hl ⊢
  match L, hl with
  | [], hl => cases hl
  | [_], hl => simp at hl
  | _ :: _ :: _ :: _, hl => simp at hl
  | [f, g], hl =>
    simp only [List.map_cons, List.map_nil, List.cons.injEq, Prod.mk.injEq, and_true] at hl
    obtain ⟨⟨h1, h2, h3⟩, h4, h5, h6⟩ := hl
    simp only [Op.eqFields, h1, h2, h3, h4, h5, h6]
    rw [if_pos hnm, if_pos hnn]
    simp only [Sem.run_bind, hs, hs2, Result.andThen_ok, run_equalIn_string w d u a b hu]
    cases a.toList == b.toList
    · simp
    · simp only [Bool.not_true, Bool.false_eq_true, if_false, Sem.run_bind, hs2, Result.andThen_ok, run_equalIn_bool w d v p q hv]
      cases p == q <;> simp
end
/-- Are two commands one? -/
def cmEq : Cm → Cm → Bool
  | .none, .none => true
  | .other, .other => true
  | .block s r, .block t q => s == t && r == q
  | .cert s r, .cert t q => s == t && r == q
  | .clock n, .clock m => n == m
  | .mark s, .mark t => s == t
  | .unmark, .unmark => true
  | _, _ => false
theorem cmEq_iff (c d : Cm) : cmEq c d = true ↔ c = d := by
  cases c <;> cases d <;> simp [cmEq]
theorem cm_if : Try.prog.isIface 25 = true := by kernel_rfl
theorem cmBlock_u : Try.prog.underlying 55 = some (.struct (Try.prog.fieldsOf 55)) := by kernel_rfl
theorem cmBlock_p : Try.prog.stoodInHeld 55 = false := by kernel_rfl
theorem cmBlock_l : (Try.prog.fieldsOf 55).toList.map (fun f => (f.name, f.type, f.offset)) = [("Bytes", 9, 0), ("Right", 4, 1)] := by kernel_rfl
theorem cmBlock_c : (Try.prog.info? 55).map (·.comparable) = some true := by kernel_rfl
theorem cmCert_u : Try.prog.underlying 56 = some (.struct (Try.prog.fieldsOf 56)) := by kernel_rfl
theorem cmCert_p : Try.prog.stoodInHeld 56 = false := by kernel_rfl
theorem cmCert_l : (Try.prog.fieldsOf 56).toList.map (fun f => (f.name, f.type, f.offset)) = [("Bytes", 9, 0), ("Right", 4, 1)] := by kernel_rfl
theorem cmCert_c : (Try.prog.info? 56).map (·.comparable) = some true := by kernel_rfl
theorem cmClock_u : Try.prog.underlying 45 = some (.struct (Try.prog.fieldsOf 45)) := by kernel_rfl
theorem cmClock_p : Try.prog.stoodInHeld 45 = false := by kernel_rfl
theorem cmClock_l : (Try.prog.fieldsOf 45).toList.map (fun f => (f.name, f.type, f.offset)) = [("Epoch", 3, 0)] := by kernel_rfl
theorem cmClock_c : (Try.prog.info? 45).map (·.comparable) = some true := by kernel_rfl
theorem cmMark_u : Try.prog.underlying 58 = some (.struct (Try.prog.fieldsOf 58)) := by kernel_rfl
theorem cmMark_p : Try.prog.stoodInHeld 58 = false := by kernel_rfl
theorem cmMark_l : (Try.prog.fieldsOf 58).toList.map (fun f => (f.name, f.type, f.offset)) = [("Key", 9, 0)] := by kernel_rfl
theorem cmMark_c : (Try.prog.info? 58).map (·.comparable) = some true := by kernel_rfl
theorem cmUnmark_u : Try.prog.underlying 60 = some (.struct (Try.prog.fieldsOf 60)) := by kernel_rfl
theorem cmUnmark_p : Try.prog.stoodInHeld 60 = false := by kernel_rfl
theorem cmUnmark_l : (Try.prog.fieldsOf 60).toList.map (fun f => (f.name, f.type, f.offset)) = [] := by kernel_rfl
theorem cmUnmark_c : (Try.prog.info? 60).map (·.comparable) = some true := by kernel_rfl
theorem cmOther_u : Try.prog.underlying 61 = some (.struct (Try.prog.fieldsOf 61)) := by kernel_rfl
theorem cmOther_p : Try.prog.stoodInHeld 61 = false := by kernel_rfl
theorem cmOther_l : (Try.prog.fieldsOf 61).toList.map (fun f => (f.name, f.type, f.offset)) = [] := by kernel_rfl
theorem cmOther_c : (Try.prog.info? 61).map (·.comparable) = some true := by kernel_rfl
theorem cm_eql (c d : Cm) (w : World) : (binOp .eql 25 (cmV c) (cmV d)).run Try.prog w = .ok (.bool (cmEq c d)) w := by
  have tl : ∀ s : List UInt8, (⟨s.toArray⟩ : ByteArray).toList = s := fun s => by simp
  have e1 : ∀ (s t : List UInt8), (s == t) = ((⟨s.toArray⟩ : ByteArray).toList == (⟨t.toArray⟩ : ByteArray).toList) := fun s t => by rw [tl, tl]
  cases c <;> cases d
  case none.none => exact run_eql_nil_nil_at w 25 cm_if
  case none.other => exact run_eql_iface_nil_left w _ _ Try.underlying25
  case none.block s2 r2 => exact run_eql_iface_nil_left w _ _ Try.underlying25
  case none.cert s2 r2 => exact run_eql_iface_nil_left w _ _ Try.underlying25
  case none.clock n2 => exact run_eql_iface_nil_left w _ _ Try.underlying25
  case none.mark k2 => exact run_eql_iface_nil_left w _ _ Try.underlying25
  case none.unmark => exact run_eql_iface_nil_left w _ _ Try.underlying25
  case other.none => exact run_eql_iface_nil w 25 cm_if _ _
  case other.other => exact iface_dyn w Try.underlying25 cmOther_c (fun d => fields_none w cmOther_u cmOther_p cmOther_l _ _ d)
  case other.block s2 r2 => exact run_eql_iface_types _ _ _ _ Try.underlying25 (by decide) w
  case other.cert s2 r2 => exact run_eql_iface_types _ _ _ _ Try.underlying25 (by decide) w
  case other.clock n2 => exact run_eql_iface_types _ _ _ _ Try.underlying25 (by decide) w
  case other.mark k2 => exact run_eql_iface_types _ _ _ _ Try.underlying25 (by decide) w
  case other.unmark => exact run_eql_iface_types _ _ _ _ Try.underlying25 (by decide) w
  case block.none s1 r1 => exact run_eql_iface_nil w 25 cm_if _ _
  case block.other s1 r1 => exact run_eql_iface_types _ _ _ _ Try.underlying25 (by decide) w
  case block.block s1 r1 s2 r2 => rw [show cmEq (.block s1 r1) (.block s2 r2) = (s1 == s2 && r1 == r2) from rfl, e1]; exact iface_dyn w Try.underlying25 cmBlock_c (fun d => fields_strbool w cmBlock_u cmBlock_p cmBlock_l (by decide) (by decide) Try.underlying9 Try.underlying4 _ _ _ _ d)
  case block.cert s1 r1 s2 r2 => exact run_eql_iface_types _ _ _ _ Try.underlying25 (by decide) w
  case block.clock s1 r1 n2 => exact run_eql_iface_types _ _ _ _ Try.underlying25 (by decide) w
  case block.mark s1 r1 k2 => exact run_eql_iface_types _ _ _ _ Try.underlying25 (by decide) w
  case block.unmark s1 r1 => exact run_eql_iface_types _ _ _ _ Try.underlying25 (by decide) w
  case cert.none s1 r1 => exact run_eql_iface_nil w 25 cm_if _ _
  case cert.other s1 r1 => exact run_eql_iface_types _ _ _ _ Try.underlying25 (by decide) w
  case cert.block s1 r1 s2 r2 => exact run_eql_iface_types _ _ _ _ Try.underlying25 (by decide) w
  case cert.cert s1 r1 s2 r2 => rw [show cmEq (.cert s1 r1) (.cert s2 r2) = (s1 == s2 && r1 == r2) from rfl, e1]; exact iface_dyn w Try.underlying25 cmCert_c (fun d => fields_strbool w cmCert_u cmCert_p cmCert_l (by decide) (by decide) Try.underlying9 Try.underlying4 _ _ _ _ d)
  case cert.clock s1 r1 n2 => exact run_eql_iface_types _ _ _ _ Try.underlying25 (by decide) w
  case cert.mark s1 r1 k2 => exact run_eql_iface_types _ _ _ _ Try.underlying25 (by decide) w
  case cert.unmark s1 r1 => exact run_eql_iface_types _ _ _ _ Try.underlying25 (by decide) w
  case clock.none n1 => exact run_eql_iface_nil w 25 cm_if _ _
  case clock.other n1 => exact run_eql_iface_types _ _ _ _ Try.underlying25 (by decide) w
  case clock.block n1 s2 r2 => exact run_eql_iface_types _ _ _ _ Try.underlying25 (by decide) w
  case clock.cert n1 s2 r2 => exact run_eql_iface_types _ _ _ _ Try.underlying25 (by decide) w
  case clock.clock n1 n2 => exact iface_dyn w Try.underlying25 cmClock_c (fun d => fields_int w cmClock_u cmClock_p cmClock_l (by decide) Try.underlying3 _ _ d)
  case clock.mark n1 k2 => exact run_eql_iface_types _ _ _ _ Try.underlying25 (by decide) w
  case clock.unmark n1 => exact run_eql_iface_types _ _ _ _ Try.underlying25 (by decide) w
  case mark.none k1 => exact run_eql_iface_nil w 25 cm_if _ _
  case mark.other k1 => exact run_eql_iface_types _ _ _ _ Try.underlying25 (by decide) w
  case mark.block k1 s2 r2 => exact run_eql_iface_types _ _ _ _ Try.underlying25 (by decide) w
  case mark.cert k1 s2 r2 => exact run_eql_iface_types _ _ _ _ Try.underlying25 (by decide) w
  case mark.clock k1 n2 => exact run_eql_iface_types _ _ _ _ Try.underlying25 (by decide) w
  case mark.mark k1 k2 => rw [show cmEq (.mark k1) (.mark k2) = (k1 == k2) from rfl, e1]; exact iface_dyn w Try.underlying25 cmMark_c (fun d => fields_str w cmMark_u cmMark_p cmMark_l (by decide) Try.underlying9 _ _ d)
  case mark.unmark k1 => exact run_eql_iface_types _ _ _ _ Try.underlying25 (by decide) w
  case unmark.none => exact run_eql_iface_nil w 25 cm_if _ _
  case unmark.other => exact run_eql_iface_types _ _ _ _ Try.underlying25 (by decide) w
  case unmark.block s2 r2 => exact run_eql_iface_types _ _ _ _ Try.underlying25 (by decide) w
  case unmark.cert s2 r2 => exact run_eql_iface_types _ _ _ _ Try.underlying25 (by decide) w
  case unmark.clock n2 => exact run_eql_iface_types _ _ _ _ Try.underlying25 (by decide) w
  case unmark.mark k2 => exact run_eql_iface_types _ _ _ _ Try.underlying25 (by decide) w
  case unmark.unmark => exact iface_dyn w Try.underlying25 cmUnmark_c (fun d => fields_none w cmUnmark_u cmUnmark_p cmUnmark_l _ _ d)
end Go.Proofs.Ytambljnmaibdmaa

namespace Go.Proofs.Ytambljnmaibdmaa
open Go.RowKit

theorem cm_iface {c : Cm} (h : cmCk c = 0) : ∃ d u, cmV c = .iface d u := by
  cases c with
  | none => exact absurd h (by decide)
  | _ => exact ⟨_, _, rfl⟩
set_option maxRecDepth 20000 in
set_option maxHeartbeats 8000000 in
theorem commandReads_any (s0 : List UInt8) (w : World) (hl : (s0.length : Int) ≤ 9223372036854775807) :
    Calls Try.prog 3 #[.string ⟨s0.toArray⟩] w fun r w' => r = .returned (.bool true) ∧ Below w.heap.size w w' := by
  have HAW := Lib.hid (awake20_any w)
  obtain ⟨s, hs⟩ : ∃ s, s = s0.take 300 := ⟨_, rfl⟩
  have hsl : s.length ≤ 300 := by rw [hs, List.length_take]; omega
  have Hcut := Lib.hid (fun w' => cut_any s0 300 w' hl (by decide))
  rw [← hs] at Hcut
  have Hpar := Lib.hid (fun w' => cmparse_any s w' (by omega))
  have Href := Lib.hid (fun w' => rparse20_any s w' (by omega))
  have hok : cmE s = 0 → cmCk (cmC s) = 0 ∧ cmB (cmC s) = s := fun h => by
    obtain ⟨h1, h2, h3⟩ := cmE_ok h
    rw [h3]; exact ⟨h1, h2⟩
  have hno : cmE s ≠ 0 → cmC s = .none := fun h => by unfold cmC; rw [if_neg h]
  have hfit : cmFit (cmC s) := by
    unfold cmC; split
    · exact takeM_fit s (by omega)
    · trivial
  obtain ⟨C, hC⟩ : ∃ C, C = cmC s := ⟨_, rfl⟩
  obtain ⟨E, hE⟩ : ∃ E, E = cmE s := ⟨_, rfl⟩
  unfold RcP rcmC at Href
  rw [← hC, ← hE] at Hpar Href
  rw [← hC] at hfit
  rw [← hC, ← hE] at hok hno
  have HO : Hid (∀ w, Calls Try.prog 11 #[.agg (rcm C.flds.1 C.flds.2.1 C.flds.2.2.1 C.flds.2.2.2)] w fun e w' => e = .returned (cmV C) ∧ Below w.heap.size w w') := Lib.hid (fun w => by have := own20_any C.flds.1 C.flds.2.1 C.flds.2.2.1 C.flds.2.2.2 w; rwa [cmOf_flds] at this)
  have HN := Lib.hid (fun w => cm_eql C .none w)
  have HS := Lib.hid (fun w => cm_eql C C w)
  rw [show cmEq C C = true from (cmEq_iff C C).2 rfl] at HS
  have HBY := Lib.hid (fun w => cmbytes_any C w hfit)
  have HCK := Lib.hid (fun w => cmcheck_any C w hfit)
  have Hok := Lib.hid hok
  have Hno := Lib.hid hno
  generalize C.flds = fl at Href HO
  obtain ⟨k, S, r, n⟩ := fl
  unfold rcm at Href HO
  simp only at Href HO
  clear hs hl hC hE hok hno hfit hsl
  go_enter Try.func3, Try.ntmps3
  go_wp2_with fail
  refine HAW.out.mono ?_
  rintro e w1 ⟨rfl, hb1⟩
  have HB1 := Lib.hid hb1
  clear hb1 HAW
  go_wp2_with fail
  refine (Hcut.out w1).mono ?_
  rintro e w2 ⟨rfl, hww⟩
  subst hww
  clear Hcut
  go_wp2_with fail
  refine (Hpar.out w1).mono ?_
  rintro e w3 ⟨rfl, hb3⟩
  have HB3 := Lib.hid (HB1.out.trans (hb3.mono HB1.out.size))
  clear hb3 Hpar HB1
  go_wp2_with fail
  refine (Href.out w3).mono ?_
  rintro e w4 ⟨rfl, hb4⟩
  have HB4 := Lib.hid (HB3.out.trans (hb4.mono HB3.out.size))
  clear hb4 Href HB3
  have hb5 : Below w4.heap.size w4 (w4.alloc (.cells #[.int .i64 k, .string ⟨S.toArray⟩, .bool r, .int .i64 n] 30)) := (Below.refl _ _).alloc (Nat.le_refl _) _
  have HB5 := Lib.hid (HB4.out.trans (hb5.mono HB4.out.size))
  clear hb5
  by_cases hE0 : E = 0
  · obtain ⟨hck, hB⟩ := Hok.out hE0
    have hnn : cmEq C .none = false := by
      cases h : cmEq C .none with
      | false => rfl
      | true => rw [(cmEq_iff _ _).1 h] at hck; exact absurd hck (by decide)
    rw [hnn] at HN
    rw [hck, if_pos rfl, hB] at HBY
    rw [hck] at HCK
    rw [show cmV Cm.none = Value.nilIface from rfl] at HN
    obtain ⟨dt, du, hV⟩ := cm_iface hck
    rw [hV] at HO HN HS HBY HCK ⊢
    have q1 := HN.out
    have q2 := HS.out
    subst hE0
    clear hck hB hnn Hok Hno hV
    go_wp2_with fail
    refine (HO.out _).mono ?_
    rintro e w6 ⟨rfl, hb6⟩
    have HB6 := Lib.hid (HB5.out.trans (hb6.mono HB5.out.size))
    clear hb6 HO HB5 HB4
    go_wp2_with fail
    refine (HBY.out _).mono ?_
    rintro e w7 ⟨rfl, hb7⟩
    have HB7 := Lib.hid (HB6.out.trans (hb7.mono HB6.out.size))
    clear hb7 HBY HB6
    go_wp2_with fail
    refine (HCK.out _).mono ?_
    rintro e w8 ⟨rfl, hb8⟩
    have HB8 := Lib.hid (HB7.out.trans (hb8.mono HB7.out.size))
    clear hb8 HCK HB7
    go_wp2_with fail
    go_ret
    exact ⟨rfl, HB8.out⟩
  · obtain rfl := Hno.out hE0
    rw [show cmV Cm.none = Value.nilIface from rfl] at HN ⊢
    have q1 := HN.out
    have t1 : (E != 0) = true := by rw [bne_iff_ne]; exact hE0
    have t2 : (E == 0) = false := beq_eq_false_iff_ne.2 hE0
    rw [show cmEq .none .none = true from rfl] at q1
    clear Hok Hno hE0 HO HN HS HBY HCK
    go_wp2_with fail
    go_ret
    exact ⟨rfl, HB5.out⟩
/-- As the row asks it. -/
theorem commandReads_row (a0 : ByteArray) (w : World) (h : a0.size ≤ maxLen) : Calls Try.prog 3 #[.string a0] w fun r w' => r = .returned (.bool true) ∧ Below w.heap.size w w' := by
  have e : a0 = ⟨a0.data.toList.toArray⟩ := by cases a0; simp
  have hl : (a0.data.toList.length : Int) ≤ 9223372036854775807 := by
    have : a0.data.toList.length = a0.size := by cases a0; simp [ByteArray.size]
    rw [this]; unfold maxLen at h; omega
  rw [e]
  exact commandReads_any a0.data.toList w hl
end Go.Proofs.Ytambljnmaibdmaa

namespace Go.Proofs.Ytambljnmaibdmaa
open Go.RowKit

theorem barC_nm (k : Int) (s : List UInt8) (r : Bool) (n : Int) : cmNm (barC k s r n) = cmNm (cmOf k [] false 0) := by
  unfold barC cmOf
  by_cases k0 : k = 0
  · simp [k0]
  by_cases k1 : k = 1
  · simp [k1, cmNm]
  by_cases k2 : k = 2
  · simp [k2, cmNm]
  by_cases k3 : k = 3
  · simp [k3, cmNm]
  by_cases k4 : k = 4
  · simp [k4, cmNm]
  by_cases k5 : k = 5
  · simp [k5]
  simp [k0, k1, k2, k3, k4, k5]
set_option maxRecDepth 20000 in
set_option maxHeartbeats 8000000 in
theorem commandNames_any (k : Int) (s : List UInt8) (r : Bool) (n : Int) (w : World) (hl : (s.length : Int) ≤ 9223372036854775807) :
    Calls Try.prog 5 #[.agg (rcm k s r n)] w fun r w' => r = .returned (.bool true) ∧ Below w.heap.size w w' := by
  have HAW := Lib.hid (fun w => awake20_any w)
  have HBR := Lib.hid (fun w => bare20_any k s r n w hl)
  have HO : Hid (∀ w, Calls Try.prog 11 #[.agg (barR k s r n)] w fun e w' => e = .returned (cmV (barC k s r n)) ∧ Below w.heap.size w w') := Lib.hid (fun w => own20_any k _ _ _ w)
  have HN := Lib.hid (fun w => cmname_any (barC k s r n) w)
  rw [barC_nm] at HN
  generalize cmV (barC k s r n) = V at HO HN
  obtain ⟨g, hg⟩ : ∃ g, g = w.heap.size := ⟨_, rfl⟩
  obtain ⟨W0, hW0⟩ : ∃ W, W = w.alloc (.cells (rcm k s r n) 30) := ⟨_, rfl⟩
  have HX0 : Hid (W0.heap[g]? = some (.cells (rcm k s r n) 30 (0, 0))) := Lib.hid (by rw [hW0, hg]; exact heap_alloc_new w _)
  have HB0 : Hid (Below w.heap.size w W0) := Lib.hid (by rw [hW0]; exact (Below.refl _ _).alloc (Nat.le_refl _) _)
  have HW0 := Lib.hid hW0
  have Hg := Lib.hid hg
  have e0 : (rcm k s r n).size = 4 := rfl
  obtain ⟨X0, hX0⟩ : ∃ X, X = rcm k s r n := ⟨_, rfl⟩
  clear hl hW0 hg hX0 e0 X0
  by_cases k1 : k = 1
  · subst k1
    go_enter Try.func5, Try.ntmps5
    go_wp2_with fail
    rw [← HW0.out, ← Hg.out]
    refine (HAW.out W0).mono ?_
    rintro e w1 ⟨rfl, hb1⟩
    have h1 := old_block HX0.out hb1
    have HB1 := Lib.hid (HB0.out.trans (hb1.mono HB0.out.size))
    clear hb1 HAW HX0 HB0 HW0
    go_wp2_with (refine wpList_load_row rfl 30 (.tmp 1) rfl g rfl 30 (rcm 1 s r n) (0, 0) _ h1 Try.underlying30 rfl (rcm_info _ _ _ _) ?_)
    refine (HBR.out w1).mono ?_
    rintro e w2 ⟨rfl, hb2⟩
    have h2 := old_block h1 hb2
    have h3 := setRow_heap w2 g (rcm 1 s r n) (barR 1 s r n) 30 (0, 0) h2
    obtain ⟨W3, hW3⟩ : ∃ W, W = w2.setRow g (barR 1 s r n) := ⟨_, rfl⟩
    rw [← hW3] at h3
    have HB3 : Hid (Below w.heap.size w W3) := Lib.hid (by
      have hb12 := HB1.out.trans (hb2.mono HB1.out.size)
      rw [hW3]
      exact hb12.trans (((Mod.refl (fun _ => False) w2).setRow (g := g) (barR 1 s r n)).to_below hb12.size (by rintro i hi (h | h) <;> first | exact h | (have := Hg.out; omega))))
    have HW3 := Lib.hid hW3
    clear hb2 HB1 hW3 h1 HBR
    have c0 : (w2.setRow g (barR 1 s r n)).cell? ⟨g, 0, none⟩ = some (.int .i64 1) := by rw [← HW3.out]; exact cell_of_row W3 g 0 _ 30 (0, 0) h3
    go_upto_region 6 with (refine wpList_store_row rfl rfl 30 (.tmp 1) (.tmp 7) rfl g rfl 30 (rcm 1 s r n) (barR 1 s r n) rfl h2 rfl (rcm_info _ _ _ _) (rcm_one _ _ _ _) ?_)
    rw [← HW3.out] at c0 ⊢
    clear h2 HW3
    obtain ⟨W4, hW4⟩ : ∃ W, W = W3.alloc (.cells #[.string ⟨#[98, 108, 111, 99, 107]⟩, .string ⟨#[99, 101, 114, 116]⟩, .string ⟨#[99, 108, 111, 99, 107]⟩, .string ⟨#[109, 97, 114, 107]⟩, .string ⟨#[117, 110, 109, 97, 114, 107]⟩] 9) := ⟨_, rfl⟩
    have hb4 : Below W3.heap.size W3 W4 := by rw [hW4]; exact (Below.refl _ _).alloc (Nat.le_refl _) _
    have h4 := old_block h3 hb4
    have HB4 := Lib.hid (HB3.out.trans (hb4.mono HB3.out.size))
    have c1 : W4.cell? ⟨g, 0, none⟩ = some (.int .i64 1) := cell_of_row W4 g 0 _ 30 (0, 0) h4
    have HW4 := Lib.hid hW4
    rw [hW4] at c1
    clear hb4 hW4 h3 HB3 c0
    go_upto_region 7 with fail
    rw [← HW4.out]
    clear c1 HW4
    go_wp2_with (refine wpList_load_row rfl 30 (.tmp 1) rfl g rfl 30 (barR 1 s r n) (0, 0) _ h4 Try.underlying30 rfl (rcm_info _ _ _ _) ?_)

    refine (HO.out _).mono ?_
    rintro e w5 ⟨rfl, hb5⟩
    have HB5 := Lib.hid (HB4.out.trans (hb5.mono HB4.out.size))
    clear hb5 HO HB4
    go_wp2_with fail
    refine (HN.out w5).mono ?_
    rintro e w6 ⟨rfl, rfl⟩
    clear HN
    go_wp2_with fail
    go_ret
    exact ⟨rfl, HB5.out⟩
  by_cases k2 : k = 2
  · subst k2
    go_enter Try.func5, Try.ntmps5
    go_wp2_with fail
    rw [← HW0.out, ← Hg.out]
    refine (HAW.out W0).mono ?_
    rintro e w1 ⟨rfl, hb1⟩
    have h1 := old_block HX0.out hb1
    have HB1 := Lib.hid (HB0.out.trans (hb1.mono HB0.out.size))
    clear hb1 HAW HX0 HB0 HW0
    go_wp2_with (refine wpList_load_row rfl 30 (.tmp 1) rfl g rfl 30 (rcm 2 s r n) (0, 0) _ h1 Try.underlying30 rfl (rcm_info _ _ _ _) ?_)
    refine (HBR.out w1).mono ?_
    rintro e w2 ⟨rfl, hb2⟩
    have h2 := old_block h1 hb2
    have h3 := setRow_heap w2 g (rcm 2 s r n) (barR 2 s r n) 30 (0, 0) h2
    obtain ⟨W3, hW3⟩ : ∃ W, W = w2.setRow g (barR 2 s r n) := ⟨_, rfl⟩
    rw [← hW3] at h3
    have HB3 : Hid (Below w.heap.size w W3) := Lib.hid (by
      have hb12 := HB1.out.trans (hb2.mono HB1.out.size)
      rw [hW3]
      exact hb12.trans (((Mod.refl (fun _ => False) w2).setRow (g := g) (barR 2 s r n)).to_below hb12.size (by rintro i hi (h | h) <;> first | exact h | (have := Hg.out; omega))))
    have HW3 := Lib.hid hW3
    clear hb2 HB1 hW3 h1 HBR
    have c0 : (w2.setRow g (barR 2 s r n)).cell? ⟨g, 0, none⟩ = some (.int .i64 2) := by rw [← HW3.out]; exact cell_of_row W3 g 0 _ 30 (0, 0) h3
    go_upto_region 6 with (refine wpList_store_row rfl rfl 30 (.tmp 1) (.tmp 7) rfl g rfl 30 (rcm 2 s r n) (barR 2 s r n) rfl h2 rfl (rcm_info _ _ _ _) (rcm_one _ _ _ _) ?_)
    rw [← HW3.out] at c0 ⊢
    clear h2 HW3
    obtain ⟨W4, hW4⟩ : ∃ W, W = W3.alloc (.cells #[.string ⟨#[98, 108, 111, 99, 107]⟩, .string ⟨#[99, 101, 114, 116]⟩, .string ⟨#[99, 108, 111, 99, 107]⟩, .string ⟨#[109, 97, 114, 107]⟩, .string ⟨#[117, 110, 109, 97, 114, 107]⟩] 9) := ⟨_, rfl⟩
    have hb4 : Below W3.heap.size W3 W4 := by rw [hW4]; exact (Below.refl _ _).alloc (Nat.le_refl _) _
    have h4 := old_block h3 hb4
    have HB4 := Lib.hid (HB3.out.trans (hb4.mono HB3.out.size))
    have c1 : W4.cell? ⟨g, 0, none⟩ = some (.int .i64 2) := cell_of_row W4 g 0 _ 30 (0, 0) h4
    have HW4 := Lib.hid hW4
    rw [hW4] at c1
    clear hb4 hW4 h3 HB3 c0
    go_upto_region 7 with fail
    rw [← HW4.out]
    clear c1 HW4
    go_wp2_with (refine wpList_load_row rfl 30 (.tmp 1) rfl g rfl 30 (barR 2 s r n) (0, 0) _ h4 Try.underlying30 rfl (rcm_info _ _ _ _) ?_)

    refine (HO.out _).mono ?_
    rintro e w5 ⟨rfl, hb5⟩
    have HB5 := Lib.hid (HB4.out.trans (hb5.mono HB4.out.size))
    clear hb5 HO HB4
    go_wp2_with fail
    refine (HN.out w5).mono ?_
    rintro e w6 ⟨rfl, rfl⟩
    clear HN
    go_wp2_with fail
    go_ret
    exact ⟨rfl, HB5.out⟩
  by_cases k3 : k = 3
  · subst k3
    go_enter Try.func5, Try.ntmps5
    go_wp2_with fail
    rw [← HW0.out, ← Hg.out]
    refine (HAW.out W0).mono ?_
    rintro e w1 ⟨rfl, hb1⟩
    have h1 := old_block HX0.out hb1
    have HB1 := Lib.hid (HB0.out.trans (hb1.mono HB0.out.size))
    clear hb1 HAW HX0 HB0 HW0
    go_wp2_with (refine wpList_load_row rfl 30 (.tmp 1) rfl g rfl 30 (rcm 3 s r n) (0, 0) _ h1 Try.underlying30 rfl (rcm_info _ _ _ _) ?_)
    refine (HBR.out w1).mono ?_
    rintro e w2 ⟨rfl, hb2⟩
    have h2 := old_block h1 hb2
    have h3 := setRow_heap w2 g (rcm 3 s r n) (barR 3 s r n) 30 (0, 0) h2
    obtain ⟨W3, hW3⟩ : ∃ W, W = w2.setRow g (barR 3 s r n) := ⟨_, rfl⟩
    rw [← hW3] at h3
    have HB3 : Hid (Below w.heap.size w W3) := Lib.hid (by
      have hb12 := HB1.out.trans (hb2.mono HB1.out.size)
      rw [hW3]
      exact hb12.trans (((Mod.refl (fun _ => False) w2).setRow (g := g) (barR 3 s r n)).to_below hb12.size (by rintro i hi (h | h) <;> first | exact h | (have := Hg.out; omega))))
    have HW3 := Lib.hid hW3
    clear hb2 HB1 hW3 h1 HBR
    have c0 : (w2.setRow g (barR 3 s r n)).cell? ⟨g, 0, none⟩ = some (.int .i64 3) := by rw [← HW3.out]; exact cell_of_row W3 g 0 _ 30 (0, 0) h3
    go_upto_region 6 with (refine wpList_store_row rfl rfl 30 (.tmp 1) (.tmp 7) rfl g rfl 30 (rcm 3 s r n) (barR 3 s r n) rfl h2 rfl (rcm_info _ _ _ _) (rcm_one _ _ _ _) ?_)
    rw [← HW3.out] at c0 ⊢
    clear h2 HW3
    obtain ⟨W4, hW4⟩ : ∃ W, W = W3.alloc (.cells #[.string ⟨#[98, 108, 111, 99, 107]⟩, .string ⟨#[99, 101, 114, 116]⟩, .string ⟨#[99, 108, 111, 99, 107]⟩, .string ⟨#[109, 97, 114, 107]⟩, .string ⟨#[117, 110, 109, 97, 114, 107]⟩] 9) := ⟨_, rfl⟩
    have hb4 : Below W3.heap.size W3 W4 := by rw [hW4]; exact (Below.refl _ _).alloc (Nat.le_refl _) _
    have h4 := old_block h3 hb4
    have HB4 := Lib.hid (HB3.out.trans (hb4.mono HB3.out.size))
    have c1 : W4.cell? ⟨g, 0, none⟩ = some (.int .i64 3) := cell_of_row W4 g 0 _ 30 (0, 0) h4
    have HW4 := Lib.hid hW4
    rw [hW4] at c1
    clear hb4 hW4 h3 HB3 c0
    go_upto_region 7 with fail
    rw [← HW4.out]
    clear c1 HW4
    go_wp2_with (refine wpList_load_row rfl 30 (.tmp 1) rfl g rfl 30 (barR 3 s r n) (0, 0) _ h4 Try.underlying30 rfl (rcm_info _ _ _ _) ?_)

    refine (HO.out _).mono ?_
    rintro e w5 ⟨rfl, hb5⟩
    have HB5 := Lib.hid (HB4.out.trans (hb5.mono HB4.out.size))
    clear hb5 HO HB4
    go_wp2_with fail
    refine (HN.out w5).mono ?_
    rintro e w6 ⟨rfl, rfl⟩
    clear HN
    go_wp2_with fail
    go_ret
    exact ⟨rfl, HB5.out⟩
  by_cases k4 : k = 4
  · subst k4
    go_enter Try.func5, Try.ntmps5
    go_wp2_with fail
    rw [← HW0.out, ← Hg.out]
    refine (HAW.out W0).mono ?_
    rintro e w1 ⟨rfl, hb1⟩
    have h1 := old_block HX0.out hb1
    have HB1 := Lib.hid (HB0.out.trans (hb1.mono HB0.out.size))
    clear hb1 HAW HX0 HB0 HW0
    go_wp2_with (refine wpList_load_row rfl 30 (.tmp 1) rfl g rfl 30 (rcm 4 s r n) (0, 0) _ h1 Try.underlying30 rfl (rcm_info _ _ _ _) ?_)
    refine (HBR.out w1).mono ?_
    rintro e w2 ⟨rfl, hb2⟩
    have h2 := old_block h1 hb2
    have h3 := setRow_heap w2 g (rcm 4 s r n) (barR 4 s r n) 30 (0, 0) h2
    obtain ⟨W3, hW3⟩ : ∃ W, W = w2.setRow g (barR 4 s r n) := ⟨_, rfl⟩
    rw [← hW3] at h3
    have HB3 : Hid (Below w.heap.size w W3) := Lib.hid (by
      have hb12 := HB1.out.trans (hb2.mono HB1.out.size)
      rw [hW3]
      exact hb12.trans (((Mod.refl (fun _ => False) w2).setRow (g := g) (barR 4 s r n)).to_below hb12.size (by rintro i hi (h | h) <;> first | exact h | (have := Hg.out; omega))))
    have HW3 := Lib.hid hW3
    clear hb2 HB1 hW3 h1 HBR
    have c0 : (w2.setRow g (barR 4 s r n)).cell? ⟨g, 0, none⟩ = some (.int .i64 4) := by rw [← HW3.out]; exact cell_of_row W3 g 0 _ 30 (0, 0) h3
    go_upto_region 6 with (refine wpList_store_row rfl rfl 30 (.tmp 1) (.tmp 7) rfl g rfl 30 (rcm 4 s r n) (barR 4 s r n) rfl h2 rfl (rcm_info _ _ _ _) (rcm_one _ _ _ _) ?_)
    rw [← HW3.out] at c0 ⊢
    clear h2 HW3
    obtain ⟨W4, hW4⟩ : ∃ W, W = W3.alloc (.cells #[.string ⟨#[98, 108, 111, 99, 107]⟩, .string ⟨#[99, 101, 114, 116]⟩, .string ⟨#[99, 108, 111, 99, 107]⟩, .string ⟨#[109, 97, 114, 107]⟩, .string ⟨#[117, 110, 109, 97, 114, 107]⟩] 9) := ⟨_, rfl⟩
    have hb4 : Below W3.heap.size W3 W4 := by rw [hW4]; exact (Below.refl _ _).alloc (Nat.le_refl _) _
    have h4 := old_block h3 hb4
    have HB4 := Lib.hid (HB3.out.trans (hb4.mono HB3.out.size))
    have c1 : W4.cell? ⟨g, 0, none⟩ = some (.int .i64 4) := cell_of_row W4 g 0 _ 30 (0, 0) h4
    have HW4 := Lib.hid hW4
    rw [hW4] at c1
    clear hb4 hW4 h3 HB3 c0
    go_upto_region 7 with fail
    rw [← HW4.out]
    clear c1 HW4
    go_wp2_with (refine wpList_load_row rfl 30 (.tmp 1) rfl g rfl 30 (barR 4 s r n) (0, 0) _ h4 Try.underlying30 rfl (rcm_info _ _ _ _) ?_)

    refine (HO.out _).mono ?_
    rintro e w5 ⟨rfl, hb5⟩
    have HB5 := Lib.hid (HB4.out.trans (hb5.mono HB4.out.size))
    clear hb5 HO HB4
    go_wp2_with fail
    refine (HN.out w5).mono ?_
    rintro e w6 ⟨rfl, rfl⟩
    clear HN
    go_wp2_with fail
    go_ret
    exact ⟨rfl, HB5.out⟩
  by_cases k5 : k = 5
  · subst k5
    go_enter Try.func5, Try.ntmps5
    go_wp2_with fail
    rw [← HW0.out, ← Hg.out]
    refine (HAW.out W0).mono ?_
    rintro e w1 ⟨rfl, hb1⟩
    have h1 := old_block HX0.out hb1
    have HB1 := Lib.hid (HB0.out.trans (hb1.mono HB0.out.size))
    clear hb1 HAW HX0 HB0 HW0
    go_wp2_with (refine wpList_load_row rfl 30 (.tmp 1) rfl g rfl 30 (rcm 5 s r n) (0, 0) _ h1 Try.underlying30 rfl (rcm_info _ _ _ _) ?_)
    refine (HBR.out w1).mono ?_
    rintro e w2 ⟨rfl, hb2⟩
    have h2 := old_block h1 hb2
    have h3 := setRow_heap w2 g (rcm 5 s r n) (barR 5 s r n) 30 (0, 0) h2
    obtain ⟨W3, hW3⟩ : ∃ W, W = w2.setRow g (barR 5 s r n) := ⟨_, rfl⟩
    rw [← hW3] at h3
    have HB3 : Hid (Below w.heap.size w W3) := Lib.hid (by
      have hb12 := HB1.out.trans (hb2.mono HB1.out.size)
      rw [hW3]
      exact hb12.trans (((Mod.refl (fun _ => False) w2).setRow (g := g) (barR 5 s r n)).to_below hb12.size (by rintro i hi (h | h) <;> first | exact h | (have := Hg.out; omega))))
    have HW3 := Lib.hid hW3
    clear hb2 HB1 hW3 h1 HBR
    have c0 : (w2.setRow g (barR 5 s r n)).cell? ⟨g, 0, none⟩ = some (.int .i64 5) := by rw [← HW3.out]; exact cell_of_row W3 g 0 _ 30 (0, 0) h3
    go_upto_region 6 with (refine wpList_store_row rfl rfl 30 (.tmp 1) (.tmp 7) rfl g rfl 30 (rcm 5 s r n) (barR 5 s r n) rfl h2 rfl (rcm_info _ _ _ _) (rcm_one _ _ _ _) ?_)
    rw [← HW3.out] at c0 ⊢
    clear h2 HW3
    obtain ⟨W4, hW4⟩ : ∃ W, W = W3.alloc (.cells #[.string ⟨#[98, 108, 111, 99, 107]⟩, .string ⟨#[99, 101, 114, 116]⟩, .string ⟨#[99, 108, 111, 99, 107]⟩, .string ⟨#[109, 97, 114, 107]⟩, .string ⟨#[117, 110, 109, 97, 114, 107]⟩] 9) := ⟨_, rfl⟩
    have hb4 : Below W3.heap.size W3 W4 := by rw [hW4]; exact (Below.refl _ _).alloc (Nat.le_refl _) _
    have h4 := old_block h3 hb4
    have HB4 := Lib.hid (HB3.out.trans (hb4.mono HB3.out.size))
    have c1 : W4.cell? ⟨g, 0, none⟩ = some (.int .i64 5) := cell_of_row W4 g 0 _ 30 (0, 0) h4
    have HW4 := Lib.hid hW4
    rw [hW4] at c1
    clear hb4 hW4 h3 HB3 c0
    go_upto_region 7 with fail
    rw [← HW4.out]
    clear c1 HW4
    go_wp2_with (refine wpList_load_row rfl 30 (.tmp 1) rfl g rfl 30 (barR 5 s r n) (0, 0) _ h4 Try.underlying30 rfl (rcm_info _ _ _ _) ?_)

    refine (HO.out _).mono ?_
    rintro e w5 ⟨rfl, hb5⟩
    have HB5 := Lib.hid (HB4.out.trans (hb5.mono HB4.out.size))
    clear hb5 HO HB4
    go_wp2_with fail
    refine (HN.out w5).mono ?_
    rintro e w6 ⟨rfl, rfl⟩
    clear HN
    go_wp2_with fail
    go_ret
    exact ⟨rfl, HB5.out⟩
  have HNN : Hid (cmNm (cmOf k [] false 0) = []) := Lib.hid (by
    by_cases k0 : k = 0
    · subst k0; rfl
    · rw [cmOf_other [] false 0 k0 k1 k2 k3 k4 k5]; rfl)
  have hk : k < 1 ∨ 5 < k := by omega
  clear k1 k2 k3 k4 k5
  rw [HNN.out] at HN
  clear HNN
  go_enter Try.func5, Try.ntmps5
  go_wp2_with fail
  rw [← HW0.out, ← Hg.out]
  refine (HAW.out W0).mono ?_
  rintro e w1 ⟨rfl, hb1⟩
  have h1 := old_block HX0.out hb1
  have HB1 := Lib.hid (HB0.out.trans (hb1.mono HB0.out.size))
  clear hb1 HAW HX0 HB0 HW0
  go_wp2_with (refine wpList_load_row rfl 30 (.tmp 1) rfl g rfl 30 (rcm k s r n) (0, 0) _ h1 Try.underlying30 rfl (rcm_info _ _ _ _) ?_)
  refine (HBR.out w1).mono ?_
  rintro e w2 ⟨rfl, hb2⟩
  have h2 := old_block h1 hb2
  have h3 := setRow_heap w2 g (rcm k s r n) (barR k s r n) 30 (0, 0) h2
  obtain ⟨W3, hW3⟩ : ∃ W, W = w2.setRow g (barR k s r n) := ⟨_, rfl⟩
  rw [← hW3] at h3
  have HB3 : Hid (Below w.heap.size w W3) := Lib.hid (by
    have hb12 := HB1.out.trans (hb2.mono HB1.out.size)
    rw [hW3]
    exact hb12.trans (((Mod.refl (fun _ => False) w2).setRow (g := g) (barR k s r n)).to_below hb12.size (by rintro i hi (h | h) <;> first | exact h | (have := Hg.out; omega))))
  have HW3 := Lib.hid hW3
  clear hb2 HB1 hW3 h1 HBR
  rcases hk with hk | hk
  · have hk1 : ¬ (1 : Int) ≤ k := by omega
    clear hk
    have c0 : (w2.setRow g (barR k s r n)).cell? ⟨g, 0, none⟩ = some (.int .i64 k) := by rw [← HW3.out]; exact cell_of_row W3 g 0 _ 30 (0, 0) h3
    go_upto_region 7 with (refine wpList_store_row rfl rfl 30 (.tmp 1) (.tmp 7) rfl g rfl 30 (rcm k s r n) (barR k s r n) rfl h2 rfl (rcm_info _ _ _ _) (rcm_one _ _ _ _) ?_)
    rw [← HW3.out] at c0 ⊢
    have h4 := h3
    have HB4 := HB3
    clear h2 HW3 c0 h3 HB3
    go_wp2_with (refine wpList_load_row rfl 30 (.tmp 1) rfl g rfl 30 (barR k s r n) (0, 0) _ h4 Try.underlying30 rfl (rcm_info _ _ _ _) ?_)

    refine (HO.out _).mono ?_
    rintro e w5 ⟨rfl, hb5⟩
    have HB5 := Lib.hid (HB4.out.trans (hb5.mono HB4.out.size))
    clear hb5 HO HB4
    go_wp2_with fail
    refine (HN.out w5).mono ?_
    rintro e w6 ⟨rfl, rfl⟩
    clear HN
    go_wp2_with fail
    go_ret
    exact ⟨rfl, HB5.out⟩
  · have hk1 : (1 : Int) ≤ k := by omega
    have hk2 : ¬ k ≤ 5 := by omega
    clear hk
    have c0 : (w2.setRow g (barR k s r n)).cell? ⟨g, 0, none⟩ = some (.int .i64 k) := by rw [← HW3.out]; exact cell_of_row W3 g 0 _ 30 (0, 0) h3
    go_upto_region 7 with (refine wpList_store_row rfl rfl 30 (.tmp 1) (.tmp 7) rfl g rfl 30 (rcm k s r n) (barR k s r n) rfl h2 rfl (rcm_info _ _ _ _) (rcm_one _ _ _ _) ?_)
    rw [← HW3.out] at c0 ⊢
    have h4 := h3
    have HB4 := HB3
    clear h2 HW3 c0 h3 HB3
    go_wp2_with (refine wpList_load_row rfl 30 (.tmp 1) rfl g rfl 30 (barR k s r n) (0, 0) _ h4 Try.underlying30 rfl (rcm_info _ _ _ _) ?_)

    refine (HO.out _).mono ?_
    rintro e w5 ⟨rfl, hb5⟩
    have HB5 := Lib.hid (HB4.out.trans (hb5.mono HB4.out.size))
    clear hb5 HO HB4
    go_wp2_with fail
    refine (HN.out w5).mono ?_
    rintro e w6 ⟨rfl, rfl⟩
    clear HN
    go_wp2_with fail
    go_ret
    exact ⟨rfl, HB5.out⟩
end Go.Proofs.Ytambljnmaibdmaa

namespace Go.Proofs.Ytambljnmaibdmaa
open Go.RowKit

theorem exec_load_row {P : Program} {o : Oper} {a : Act} {w : World} (ty : TypeId) (x : Operand) (ho : o.op = .load ty x) (g : Nat) (hx : a.eval x = .pointer (some ⟨g, 0, none⟩)) (t : TypeId) (cs : Array Value) (fr : Nat × Nat) (d : TypeDesc) (hg : w.heap[g]? = some (.cells cs t fr))
    (hu : P.underlying ty = some d) (hd : (match d with | .struct _ | .array _ _ => true | _ => false) = true) (hi : (P.info? ty).map (·.size) = some cs.size) : (execOp a.eval o).run P w = .ok (.value (.agg cs)) w := by
  unfold execOp
  simp only [ho, hx, Instr.loadAt, Instr.sureAddr, Sem.run_bind, Sem.run_pure, Result.andThen_ok, run_loadVar_row w g t ty cs fr d hg hu hd hi]
theorem barC_fit (k : Int) (s : List UInt8) (r : Bool) (n : Int) : cmFit (barC k s r n) := by
  have ht : (s.take 4100).length ≤ 1000000000000 := by rw [List.length_take]; omega
  unfold barC barE cmOf
  by_cases k1 : k = 1
  · simp [k1]; exact ht
  by_cases k2 : k = 2
  · simp [k2]; exact ht
  by_cases k3 : k = 3
  · simp [k3]; trivial
  by_cases k4 : k = 4
  · simp [k4]; exact ht
  simp only [k1, k2, k3, k4, if_false]
  split
  · trivial
  split <;> trivial
theorem barE_len (k : Int) (s : List UInt8) (r : Bool) (n : Int) : (barE k s r n).1.length ≤ 4100 := by
  have ht : (s.take 4100).length ≤ 4100 := by rw [List.length_take]; omega
  unfold barE
  split
  · exact ht
  split
  · simp
  split
  · exact ht
  · simp
set_option maxRecDepth 20000 in
set_option maxHeartbeats 16000000 in
theorem commandUnlike_any (kx : Int) (sx : List UInt8) (rx : Bool) (nx : Int) (ky : Int) (sy : List UInt8) (ry : Bool) (ny : Int) (w : World) (hlx : (sx.length : Int) ≤ 9223372036854775807) (hly : (sy.length : Int) ≤ 9223372036854775807) :
    Calls Try.prog 6 #[.agg (rcm kx sx rx nx), .agg (rcm ky sy ry ny)] w fun r w' => r = .returned (.bool true) ∧ Below w.heap.size w w' := by
  have HAW := Lib.hid (fun w => awake20_any w)
  have barX := Lib.hid (fun w => bare20_any kx sx rx nx w hlx)
  have barY := Lib.hid (fun w => bare20_any ky sy ry ny w hly)
  have chkX : Hid (∀ w, Calls Try.prog 17 #[.agg (barR kx sx rx nx)] w fun e w' => e = .returned (.int .i64 (cmCk (barC kx sx rx nx))) ∧ Below w.heap.size w w') := Lib.hid (fun w => rcheck20_any kx _ _ _ w (Nat.le_trans (barE_len _ _ _ _) (by decide)))
  have chkY : Hid (∀ w, Calls Try.prog 17 #[.agg (barR ky sy ry ny)] w fun e w' => e = .returned (.int .i64 (cmCk (barC ky sy ry ny))) ∧ Below w.heap.size w w') := Lib.hid (fun w => rcheck20_any ky _ _ _ w (Nat.le_trans (barE_len _ _ _ _) (by decide)))
  have ownX : Hid (∀ w, Calls Try.prog 11 #[.agg (barR kx sx rx nx)] w fun e w' => e = .returned (cmV (barC kx sx rx nx)) ∧ Below w.heap.size w w') := Lib.hid (fun w => own20_any kx _ _ _ w)
  have ownY : Hid (∀ w, Calls Try.prog 11 #[.agg (barR ky sy ry ny)] w fun e w' => e = .returned (cmV (barC ky sy ry ny)) ∧ Below w.heap.size w w') := Lib.hid (fun w => own20_any ky _ _ _ w)
  have bytX := Lib.hid (fun w => cmbytes_any (barC kx sx rx nx) w (barC_fit _ _ _ _))
  have bytY := Lib.hid (fun w => cmbytes_any (barC ky sy ry ny) w (barC_fit _ _ _ _))
  have hee := Lib.hid (fun w => cm_eql (barC kx sx rx nx) (barC ky sy ry ny) w)
  generalize barC kx sx rx nx = X at chkX ownX bytX hee
  generalize barC ky sy ry ny = Y at chkY ownY bytY hee
  obtain ⟨g2, hg2⟩ : ∃ g, g = w.heap.size := ⟨_, rfl⟩
  obtain ⟨W0, hW0⟩ : ∃ W0, W0 = (w.alloc (.cells (rcm kx sx rx nx) 30)).alloc (.cells (rcm ky sy ry ny) 30) := ⟨_, rfl⟩
  have b0 : Below w.heap.size w W0 := by rw [hW0]; exact two_below w _ _
  have BX2 : Hid (W0.heap[g2]? = some (.cells (rcm kx sx rx nx) 30 (0, 0))) := Lib.hid (by rw [hW0, hg2, Below.heap_alloc _ _ _ (by simp)]; exact heap_alloc_new w _)
  have BX3 : Hid (W0.heap[g2 + 1]? = some (.cells (rcm ky sy ry ny) 30 (0, 0))) := Lib.hid (by rw [hW0, hg2]; exact two_new w _ _)
  have B0 := Lib.hid b0
  have HW0 := Lib.hid hW0
  have Hg2 := Lib.hid hg2
  clear b0 hW0 hg2 hlx hly
  go_enter Try.func6, Try.ntmps6
  go_wp2_with fail
  rw [← HW0.out, ← Hg2.out]
  refine (HAW.out W0).mono ?_
  rintro r wb ⟨rfl, hb1⟩
  have B1 := Lib.hid (B0.out.trans (hb1.mono B0.out.size))
  have bx2 := old_block BX2.out hb1
  have bx3 := old_block BX3.out hb1
  clear hb1 BX2 BX3 HAW B0 HW0
  go_wp2_with fail
  have HG0 : Hid ((fun (j : Nat) (_ : Value) (w' : World) => Mod (fun i => i = g2 ∨ i = g2 + 1) wb w' ∧ w'.heap[g2]? = some (.cells (match j with | 0 => (rcm kx sx rx nx) | 1 => (rcm kx sx rx nx) | 2 => (rcm kx sx rx nx) | _ => (barR kx sx rx nx)) 30 (0, 0)) ∧ w'.heap[g2 + 1]? = some (.cells (match j with | 0 => (rcm ky sy ry ny) | 1 => (rcm ky sy ry ny) | 2 => (rcm ky sy ry ny) | 3 => (rcm ky sy ry ny) | _ => (barR ky sy ry ny)) 30 (0, 0))) 0 undef wb.drew) := Lib.hid ⟨(Mod.refl _ wb).drew, bx2, bx3⟩
  clear bx2 bx3
  refine wp_region_chain (fun t v => match t with
    | 7 => v = .agg (rcm kx sx rx nx)
    | 8 => v = .agg (barR kx sx rx nx)
    | 9 => v = .agg (rcm ky sy ry ny)
    | 10 => v = .agg (barR ky sy ry ny)
    | _ => True) (fun (j : Nat) (_ : Value) (w' : World) => Mod (fun i => i = g2 ∨ i = g2 + 1) wb w' ∧ w'.heap[g2]? = some (.cells (match j with | 0 => (rcm kx sx rx nx) | 1 => (rcm kx sx rx nx) | 2 => (rcm kx sx rx nx) | _ => (barR kx sx rx nx)) 30 (0, 0)) ∧ w'.heap[g2 + 1]? = some (.cells (match j with | 0 => (rcm ky sy ry ny) | 1 => (rcm ky sy ry ny) | 2 => (rcm ky sy ry ny) | 3 => (rcm ky sy ry ny) | _ => (barR ky sy ry ny)) 30 (0, 0))) [1, 3, 4, 5] 32 (by kernel_rfl) (by decide +kernel) rfl (by decide +kernel) (by decide) (by decide) HG0.out (by
    refine OweAllC.cons (owesC_val 0 (by decide +kernel) (by decide) rfl rfl fun k' a w1 x hk ha hG hV => ?_) ?_
    · skip
      have h2 := ha.outer 2 (by decide +kernel)
      simp only [Act.eval] at h2
      have cc : w1.heap[g2]? = some (.cells (rcm kx sx rx nx) 30 (0, 0)) := by have h := hG.2.1; rcases (show k' = 0 ∨ k' = 1 by omega) with rfl | rfl <;> exact h
      exact ⟨.agg (rcm kx sx rx nx), wanted_free rfl, exec_load_row 30 (.tmp 2) rfl (g2) h2 30 (rcm kx sx rx nx) (0, 0) _ cc Try.underlying30 rfl (rcm_info _ _ _ _), rfl⟩
    refine OweAllC.cons (owesC_call 0 rfl rfl rfl 14 fun a w1 x ha hG hx hV => ?_) ?_
    · skip
      have h7 : a.tmps.getD 7 undef = .agg (rcm kx sx rx nx) := hV.get 7 (by decide +kernel)
      refine ⟨#[.agg (rcm kx sx rx nx)], wanted_free rfl, by simp [execOp, resolve, invoke, go_sem, h7], ?_⟩
      refine (barX.out w1).mono ?_
      rintro r u2 ⟨rfl, hb⟩
      exact ⟨_, rfl, rfl, ⟨hG.1.trans (Mod.of_below hb) (fun i hi hs => absurd hs (by have := hG.1.size; omega)), old_block hG.2.1 hb, old_block hG.2.2 hb⟩⟩
    refine OweAllC.cons (owesC_val 1 (by decide +kernel) (by decide) rfl rfl fun k' a w1 x hk ha hG hV => ?_) ?_
    · skip
      have h3 := ha.outer 3 (by decide +kernel)
      simp only [Act.eval] at h3
      have cc : w1.heap[g2 + 1]? = some (.cells (rcm ky sy ry ny) 30 (0, 0)) := by have h := hG.2.2; rcases (show k' = 0 ∨ k' = 1 by omega) with rfl | rfl <;> exact h
      exact ⟨.agg (rcm ky sy ry ny), wanted_free rfl, exec_load_row 30 (.tmp 3) rfl (g2 + 1) h3 30 (rcm ky sy ry ny) (0, 0) _ cc Try.underlying30 rfl (rcm_info _ _ _ _), rfl⟩
    refine OweAllC.cons (owesC_call 1 rfl rfl rfl 14 fun a w1 x ha hG hx hV => ?_) ?_
    · skip
      have h9 : a.tmps.getD 9 undef = .agg (rcm ky sy ry ny) := hV.get 9 (by decide +kernel)
      refine ⟨#[.agg (rcm ky sy ry ny)], wanted_free rfl, by simp [execOp, resolve, invoke, go_sem, h9], ?_⟩
      refine (barY.out w1).mono ?_
      rintro r u2 ⟨rfl, hb⟩
      exact ⟨_, rfl, rfl, ⟨hG.1.trans (Mod.of_below hb) (fun i hi hs => absurd hs (by have := hG.1.size; omega)), old_block hG.2.1 hb, old_block hG.2.2 hb⟩⟩
    refine OweAllC.cons (owesC_store 2 rfl rfl rfl fun a w1 x ha hG hx hV => ?_) ?_
    · skip
      have h2 := ha.outer 2 (by decide +kernel)
      simp only [Act.eval] at h2
      have h8 : a.tmps.getD 8 undef = .agg (barR kx sx rx nx) := hV.get 8 (by decide +kernel)
      have hm : Mod (fun i => i = g2) w1 (w1.setRow g2 (barR kx sx rx nx)) := ((Mod.refl (fun _ => False) w1).setRow _).mono (fun i _ h => h.elim (fun h => h.elim) id)
      exact ⟨w1.setRow g2 (barR kx sx rx nx), wanted_free rfl, exec_store_row 30 (.tmp 2) (.tmp 8) rfl g2 h2 30 (rcm kx sx rx nx) _ h8 hG.2.1 rfl (rcm_info _ _ _ _) (rcm_one _ _ _ _), hG.1.trans hm (fun i _ h => Or.inl h), setRow_heap _ _ _ _ _ _ hG.2.1, (setRow_other w1 _ _ _ (by omega)).trans hG.2.2⟩
    refine OweAllC.cons (owesC_store 3 rfl rfl rfl fun a w1 x ha hG hx hV => ?_) ?_
    · skip
      have h3 := ha.outer 3 (by decide +kernel)
      simp only [Act.eval] at h3
      have h10 : a.tmps.getD 10 undef = .agg (barR ky sy ry ny) := hV.get 10 (by decide +kernel)
      have hm : Mod (fun i => i = g2 + 1) w1 (w1.setRow (g2 + 1) (barR ky sy ry ny)) := ((Mod.refl (fun _ => False) w1).setRow _).mono (fun i _ h => h.elim (fun h => h.elim) id)
      exact ⟨w1.setRow (g2 + 1) (barR ky sy ry ny), wanted_free rfl, exec_store_row 30 (.tmp 3) (.tmp 10) rfl (g2 + 1) h3 30 (rcm ky sy ry ny) _ h10 hG.2.2 rfl (rcm_info _ _ _ _) (rcm_one _ _ _ _), hG.1.trans hm (fun i _ h => Or.inr h), (setRow_other w1 _ _ _ (by omega)).trans hG.2.1, setRow_heap _ _ _ _ _ _ hG.2.2⟩
    exact OweAllC.nil
    ) ?_
  intro f wz xz hG hx hv
  first | (rename_i hK; refine hK _ _ ?_; clear hK) | (rename_i hK _; refine hK _ _ ?_; clear hK) | (rename_i hK _ _; refine hK _ _ ?_; clear hK) | (rename_i hK _ _ _; refine hK _ _ ?_; clear hK)
  clear hv hx
  simp only [dsts, puts, List.filterMap_cons, List.filterMap_nil, List.foldl_cons, List.foldl_nil, Act.put, List.setIfInBounds_toArray, List.set_cons_succ, List.set_cons_zero]
  obtain ⟨hM, bx2, bx3⟩ : Mod (fun i => i = g2 ∨ i = g2 + 1) wb wz ∧ wz.heap[g2]? = some (.cells (barR kx sx rx nx) 30 (0, 0)) ∧ wz.heap[g2 + 1]? = some (.cells (barR ky sy ry ny) 30 (0, 0)) := hG
  have BZ : Hid (Below w.heap.size w wz) := Lib.hid (B1.out.trans (hM.to_below B1.out.size (by intro k hk h; have := Hg2.out; omega)))
  have HX3 := Lib.hid bx2
  have HY3 := Lib.hid bx3
  clear HG0 barX barY hM B1 bx3
  go_wp2_with (refine wpList_load_row rfl 30 (.tmp 2) rfl g2 rfl 30 (barR kx sx rx nx) (0, 0) _ bx2 Try.underlying30 rfl (rcm_info _ _ _ _) ?_)
  refine (chkX.out wz).mono ?_
  rintro r wc ⟨rfl, hbc⟩
  have BC := Lib.hid (BZ.out.trans (hbc.mono BZ.out.size))
  have HX4 := Lib.hid (old_block HX3.out hbc)
  have HY4 := Lib.hid (old_block HY3.out hbc)
  have bx3 := HY4.out
  clear bx2 hbc chkX HX3 HY3 BZ
  by_cases z1 : cmCk X = 0
  case neg =>
    have t1 : (cmCk X == 0) = false := by simp [z1]
    have t2 : (cmCk X != 0) = true := by simp [z1]
    clear z1 bx3
    go_wp2_with fail
    go_ret
    exact ⟨rfl, BC.out⟩
  rw [z1]
  go_wp2_with (refine wpList_load_rowG rfl 30 (.tmp 3) rfl (g2 + 1) rfl 30 (barR ky sy ry ny) (0, 0) _ bx3 Try.underlying30 rfl (rcm_info _ _ _ _) ?_)
  refine (chkY.out wc).mono ?_
  rintro r wd ⟨rfl, hbd⟩
  have BD := Lib.hid (BC.out.trans (hbd.mono BC.out.size))
  have HX6 := Lib.hid (old_block HX4.out hbd)
  have HY6 := Lib.hid (old_block HY4.out hbd)
  clear bx3 hbd chkY HX4 HY4 BC
  by_cases z2 : cmCk Y = 0
  case neg =>
    have t3 : (cmCk Y == 0) = false := by simp [z2]
    have t4 : (cmCk Y != 0) = true := by simp [z2]
    clear z1 z2
    go_wp2_with fail
    go_ret
    exact ⟨rfl, BD.out⟩
  rw [z2]
  rw [z1, if_pos rfl] at bytX
  rw [z2, if_pos rfl] at bytY
  obtain ⟨dx, ux, eX⟩ := cm_iface z1
  obtain ⟨dy, uy, eY⟩ := cm_iface z2
  rw [eX] at ownX bytX hee
  rw [eY] at ownY bytY hee
  have hbi : (cmB X == cmB Y) = cmEq X Y := by
    rw [Bool.eq_iff_iff, cmEq_iff, beq_iff_eq]
    exact ⟨cmB_inj z1 z2, fun h => by rw [h]⟩
  obtain ⟨bb, hb⟩ : ∃ bb, bb = cmEq X Y := ⟨_, rfl⟩
  rw [← hb] at hee hbi
  have hbb : Hid (((⟨(cmB X).toArray⟩ : ByteArray).toList == (⟨(cmB Y).toArray⟩ : ByteArray).toList) = bb) := Lib.hid (by rw [toList_mk, toList_mk]; exact hbi)
  generalize (⟨(cmB X).toArray⟩ : ByteArray) = BX at bytX hbb
  generalize (⟨(cmB Y).toArray⟩ : ByteArray) = BY at bytY hbb
  clear hb hbi eX eY z1 z2
  go_upto_region 6 with fail
  refine wp_region_puts (fun t v w => VK (match t with
    | 19 => .eq (.agg (barR kx sx rx nx))
    | 20 => .eq ((.iface dx ux))
    | 21 => .eq (.string BX)
    | 22 => .eq (.agg (barR ky sy ry ny))
    | 23 => .eq ((.iface dy uy))
    | 24 => .eq (.string BY)
    | 25 => .eq (Value.bool bb)
    | 26 => .eq (.agg (barR kx sx rx nx))
    | 27 => .eq ((.iface dx ux))
    | 28 => .eq (.agg (barR ky sy ry ny))
    | 29 => .eq ((.iface dy uy))
    | 30 => .eq (Value.bool bb)
    | 31 => .eq (Value.bool true)
    | 4 => .eq (Value.bool true)
    | _ => .any) v w) (fun w' => Below wd.heap.size wd w') 32 (by kernel_rfl) (by decide +kernel) rfl (Below.refl _ _).drew (by
    refine OweAll.cons (owesK rfl rfl fun a w1 ha hG hV => ?_) ?_
    · skip
      have h2 := ha.outer 2 (by decide +kernel)
      simp only [Act.eval] at h2
      exact ⟨.agg (barR kx sx rx nx), w1, wanted_free rfl, exec_load_row 30 (.tmp 2) rfl (g2) h2 30 (barR kx sx rx nx) (0, 0) _ ((hG.block _ (Array.getElem?_eq_some_iff.1 HX6.out).1).trans HX6.out) Try.underlying30 rfl (rcm_info _ _ _ _), Below.refl _ _, rfl⟩
    refine OweAll.cons (owesK_call rfl rfl 11 fun a w1 ha hG hV => ?_) ?_
    · skip
      have h19 : a.tmps.getD 19 undef = .agg (barR kx sx rx nx) := hV.get 19 (by decide +kernel)
      refine ⟨#[.agg (barR kx sx rx nx)], wanted_free rfl, by simp [execOp, resolve, invoke, go_sem, h19], ?_⟩
      refine (ownX.out w1).mono ?_
      rintro r u2 ⟨rfl, hb⟩; exact ⟨_, rfl, rfl, hb⟩
    refine OweAll.cons (owesK_call rfl rfl 12 fun a w1 ha hG hV => ?_) ?_
    · skip
      have h20 : a.tmps.getD 20 undef = (.iface dx ux) := hV.get 20 (by decide +kernel)
      refine ⟨#[(.iface dx ux)], wanted_free rfl, by simp [execOp, resolve, invoke, go_sem, h20], ?_⟩
      refine (bytX.out w1).mono ?_
      rintro r u2 ⟨rfl, hb⟩; exact ⟨_, rfl, rfl, hb⟩
    refine OweAll.cons (owesK rfl rfl fun a w1 ha hG hV => ?_) ?_
    · skip
      have h3 := ha.outer 3 (by decide +kernel)
      simp only [Act.eval] at h3
      exact ⟨.agg (barR ky sy ry ny), w1, wanted_free rfl, exec_load_row 30 (.tmp 3) rfl (g2 + 1) h3 30 (barR ky sy ry ny) (0, 0) _ ((hG.block _ (Array.getElem?_eq_some_iff.1 HY6.out).1).trans HY6.out) Try.underlying30 rfl (rcm_info _ _ _ _), Below.refl _ _, rfl⟩
    refine OweAll.cons (owesK_call rfl rfl 11 fun a w1 ha hG hV => ?_) ?_
    · skip
      have h22 : a.tmps.getD 22 undef = .agg (barR ky sy ry ny) := hV.get 22 (by decide +kernel)
      refine ⟨#[.agg (barR ky sy ry ny)], wanted_free rfl, by simp [execOp, resolve, invoke, go_sem, h22], ?_⟩
      refine (ownY.out w1).mono ?_
      rintro r u2 ⟨rfl, hb⟩; exact ⟨_, rfl, rfl, hb⟩
    refine OweAll.cons (owesK_call rfl rfl 12 fun a w1 ha hG hV => ?_) ?_
    · skip
      have h23 : a.tmps.getD 23 undef = (.iface dy uy) := hV.get 23 (by decide +kernel)
      refine ⟨#[(.iface dy uy)], wanted_free rfl, by simp [execOp, resolve, invoke, go_sem, h23], ?_⟩
      refine (bytY.out w1).mono ?_
      rintro r u2 ⟨rfl, hb⟩; exact ⟨_, rfl, rfl, hb⟩
    refine OweAll.cons (owesK rfl rfl fun a w1 ha hG hV => ?_) ?_
    · skip
      have h21 : a.tmps.getD 21 undef = .string BX := hV.get 21 (by decide +kernel)
      have h24 : a.tmps.getD 24 undef = .string BY := hV.get 24 (by decide +kernel)
      exact ⟨Value.bool bb, w1, wanted_free rfl, by simp [execOp, go_sem, h21, h24, hbb.out], Below.refl _ _, rfl⟩
    refine OweAll.cons (owesK rfl rfl fun a w1 ha hG hV => ?_) ?_
    · skip
      have h2 := ha.outer 2 (by decide +kernel)
      simp only [Act.eval] at h2
      exact ⟨.agg (barR kx sx rx nx), w1, wanted_free rfl, exec_load_row 30 (.tmp 2) rfl (g2) h2 30 (barR kx sx rx nx) (0, 0) _ ((hG.block _ (Array.getElem?_eq_some_iff.1 HX6.out).1).trans HX6.out) Try.underlying30 rfl (rcm_info _ _ _ _), Below.refl _ _, rfl⟩
    refine OweAll.cons (owesK_call rfl rfl 11 fun a w1 ha hG hV => ?_) ?_
    · skip
      have h26 : a.tmps.getD 26 undef = .agg (barR kx sx rx nx) := hV.get 26 (by decide +kernel)
      refine ⟨#[.agg (barR kx sx rx nx)], wanted_free rfl, by simp [execOp, resolve, invoke, go_sem, h26], ?_⟩
      refine (ownX.out w1).mono ?_
      rintro r u2 ⟨rfl, hb⟩; exact ⟨_, rfl, rfl, hb⟩
    refine OweAll.cons (owesK rfl rfl fun a w1 ha hG hV => ?_) ?_
    · skip
      have h3 := ha.outer 3 (by decide +kernel)
      simp only [Act.eval] at h3
      exact ⟨.agg (barR ky sy ry ny), w1, wanted_free rfl, exec_load_row 30 (.tmp 3) rfl (g2 + 1) h3 30 (barR ky sy ry ny) (0, 0) _ ((hG.block _ (Array.getElem?_eq_some_iff.1 HY6.out).1).trans HY6.out) Try.underlying30 rfl (rcm_info _ _ _ _), Below.refl _ _, rfl⟩
    refine OweAll.cons (owesK_call rfl rfl 11 fun a w1 ha hG hV => ?_) ?_
    · skip
      have h28 : a.tmps.getD 28 undef = .agg (barR ky sy ry ny) := hV.get 28 (by decide +kernel)
      refine ⟨#[.agg (barR ky sy ry ny)], wanted_free rfl, by simp [execOp, resolve, invoke, go_sem, h28], ?_⟩
      refine (ownY.out w1).mono ?_
      rintro r u2 ⟨rfl, hb⟩; exact ⟨_, rfl, rfl, hb⟩
    refine OweAll.cons (owesK rfl rfl fun a w1 ha hG hV => ?_) ?_
    · skip
      have h27 : a.tmps.getD 27 undef = (.iface dx ux) := hV.get 27 (by decide +kernel)
      have h29 : a.tmps.getD 29 undef = (.iface dy uy) := hV.get 29 (by decide +kernel)
      exact ⟨Value.bool bb, w1, wanted_free rfl, by simp [execOp, go_sem, h27, h29, hee.out w1], Below.refl _ _, rfl⟩
    refine OweAll.cons (owesK rfl rfl fun a w1 ha hG hV => ?_) ?_
    · skip
      have h25 : a.tmps.getD 25 undef = Value.bool bb := hV.get 25 (by decide +kernel)
      have h30 : a.tmps.getD 30 undef = Value.bool bb := hV.get 30 (by decide +kernel)
      exact ⟨Value.bool true, w1, wanted_free rfl, by simp [execOp, go_sem, h25, h30], Below.refl _ _, rfl⟩
    refine OweAll.cons (owesK rfl rfl fun a w1 ha hG hV => ?_) ?_
    · skip
      have h31 : a.tmps.getD 31 undef = Value.bool true := hV.get 31 (by decide +kernel)
      exact ⟨Value.bool true, w1, wanted_free rfl, by simp [execOp, go_sem, h31], Below.refl _ _, rfl⟩
    exact OweAll.nil
    ) ?_
  intro f wz hG hv
  have e4 : f 4 = Value.bool true := hv 13 _ 4 rfl rfl
  rename_i hK
  refine hK _ _ ?_
  clear hK hv
  simp only [dsts, puts, List.filterMap_cons, List.filterMap_nil, List.foldl_cons, List.foldl_nil, Act.put, List.setIfInBounds_toArray, List.set_cons_succ, List.set_cons_zero, e4]
  clear e4
  have HB := Lib.hid (BD.out.trans (hG.mono BD.out.size))
  clear hG
  go_wp2_with fail
  go_ret
  exact ⟨rfl, HB.out⟩
end Go.Proofs.Ytambljnmaibdmaa

namespace Go.Proofs.Ytambljnmaibdmaa
open Go.RowKit

theorem ta_panic {c : Cm} (hc : ∀ n, c ≠ .clock n) (w : World) : ∃ u pv w', (Instr.typeAssert (cmV c) 25 45 false).run Try.prog w = .halt (.panic (.iface u pv)) w' ∧ Below w.heap.size w w' := by
  cases c with
  | clock n => exact absurd rfl (hc n)
  | none =>
    simp [cmV, Instr.typeAssert, run_underlying Try.underlying45, runtimePanic, newVar, elemOf, go_sem]
    exact ⟨_, _, _, ⟨⟨rfl, rfl⟩, rfl⟩, (Below.refl _ _).alloc (Nat.le_refl _) _⟩
  | _ =>
    simp [cmV, Instr.typeAssert, run_underlying Try.underlying45, runtimePanic, newVar, elemOf, go_sem]
    exact ⟨_, _, _, ⟨⟨rfl, rfl⟩, rfl⟩, (Below.refl _ _).alloc (Nat.le_refl _) _⟩
theorem taY (v : Value) (w : World) : (Instr.typeAssert (.iface 45 v) 25 45 false).run Try.prog w = .ok v w := by kernel_rfl
theorem cmclock_no {c : Cm} (hc : ∀ n, c ≠ .clock n) (w : World) : Calls Try.prog 42 #[cmV c] w fun e w' => ∃ u pv, e = .panicked [{ v := .iface u pv, recovered := false }] ∧ Below w.heap.size w w' := by
  obtain ⟨u, pv, w', hr, hb⟩ := ta_panic hc (w.alloc (.cells #[.int .i64 0] 45))
  have hb0 : Below w.heap.size w (w.alloc (.cells #[.int .i64 0] 45)) := (Below.refl _ _).alloc (Nat.le_refl _) _
  have HB := Lib.hid (hb0.trans (hb.mono hb0.size))
  generalize cmV c = V at hr ⊢
  clear hc hb hb0
  go_enter Try.func42, Try.ntmps42
  go_wp2_with fail
  exact ⟨rfl, u, pv, rfl, HB.out⟩
theorem cmclock_yes (n : Int) (w : World) : Calls Try.prog 42 #[cmV (.clock n)] w fun e w' => e = .returned (.agg #[.int .i64 n]) ∧ Below w.heap.size w w' := by
  unfold cmV
  have h := taY
  go_enter Try.func42, Try.ntmps42
  go_wp2_with fail
  exact bodyPost_ret (v := .agg _) (results_cell_row Try.results42 _ _ w.heap.size 45 _ (0, 0) _ rfl (heap_alloc_new w _) Try.underlying45 rfl (by kernel_rfl)) rfl ⟨rfl, (Below.refl _ _).alloc (Nat.le_refl _) _⟩
theorem field_epoch (n : Int) (w : World) : (Instr.field 45 (.agg #[.int .i64 n]) 0).run Try.prog w = .ok (.int .i64 n) w := by kernel_rfl
set_option maxRecDepth 20000 in
theorem cmepochE_yes (n : Int) (w : World) : Calls Try.prog 26 #[cmV (.clock n)] w fun e w' => e = .returned (.int .i64 n) ∧ Below w.heap.size w w' := by
  have H := Lib.hid (cmclock_yes n w)
  have hfe := field_epoch n
  generalize cmV (.clock n) = V at H ⊢
  go_enter Try.func26, Try.ntmps26
  go_wp2_with fail
  refine H.out.mono ?_
  rintro r w1 ⟨rfl, hb⟩
  have HB := Lib.hid hb
  clear hb H
  go_wp2_with fail
  go_ret
  exact ⟨rfl, HB.out⟩
theorem cmepochE_no {c : Cm} (hc : ∀ n, c ≠ .clock n) (w : World) : Calls Try.prog 26 #[cmV c] w fun e w' => ∃ u pv, e = .panicked [{ v := .iface u pv, recovered := false }] ∧ Below w.heap.size w w' := by
  have H := Lib.hid (cmclock_no hc w)
  generalize cmV c = V at H ⊢
  clear hc
  go_enter Try.func26, Try.ntmps26
  go_wp2_with fail
  refine H.out.mono ?_
  rintro r w1 ⟨u, pv, rfl, hb⟩
  have HB := Lib.hid hb
  clear hb H
  go_wp2_with fail
  exact ⟨rfl, u, pv, rfl, HB.out⟩
theorem run_neq_nil_c (u : TypeId) (x : Value) (w : World) : (binOp .neq 20 (.iface u x) .nilIface).run Try.prog w = .ok (.bool true) w := run_neq_iface_nil w 20 (by kernel_rfl) u x
theorem run_neq_nil_d (w : World) : (binOp .neq 20 .nilIface .nilIface).run Try.prog w = .ok (.bool false) w := run_neq_nil_nil_at w 20 (by kernel_rfl)
theorem catch_panicking (p : Addr) (x : Bool) (u : TypeId) (pv : Value) (older : List PanicEntry) (w : World) (hc : w.cell? p = some (.bool x)) (hz : w.frozen? p = false) :
    CallsD Try.prog 25 #[.pointer (some p)] (.panicking ({ v := .iface u pv, recovered := false } :: older)) w fun e u' w' =>
      e = .returned (.tuple #[]) ∧ u' = .panicking ({ v := .iface u pv, recovered := true } :: older) ∧ w' = w.setCell p (.bool true) := by
  refine callsD_of_wpS Try.func25 rfl fun c₀ cs hu => ?_
  apply wpS_region
  simp [wpOpsS, go_sem, recoverD, hu, Try.ntmps25, run_neq_nil_c, hc, hz, bodyPostS, results, Try.results25]
theorem catch_idle (p : Addr) (x : Bool) (w : World) (hc : w.cell? p = some (.bool x)) (hz : w.frozen? p = false) :
    CallsD Try.prog 25 #[.pointer (some p)] .returning w fun e u' w' => e = .returned (.tuple #[]) ∧ u' = .returning ∧ w' = w.setCell p (.bool false) := by
  refine callsD_of_wpS Try.func25 rfl fun c₀ cs hu => ?_
  apply wpS_region
  cases c₀
  simp_all [wpOpsS, go_sem, recoverD, Try.ntmps25, run_neq_nil_d, bodyPostS, results, Try.results25]
theorem panics_yes {c : Cm} (hc : ∀ n, c ≠ .clock n) (w : World) : Calls Try.prog 15 #[cmV c] w fun e w' => e = .returned (.tuple #[.int .i64 0, .bool true]) ∧ Below w.heap.size w w' := by
  have H := Lib.hid (fun w => cmepochE_no hc w)
  generalize cmV c = V at H ⊢
  have hmf : ∀ (fn : Fn) (first cap : Array Value) (w : World), (Instr.makeFunc fn first cap).run Try.prog w = .ok (.func fn first cap) w := fun _ _ _ _ => rfl
  clear hc
  obtain ⟨W0, hW0⟩ : ∃ W, W = w.alloc (.cells #[.bool false] 4) := ⟨_, rfl⟩
  obtain ⟨g, hg⟩ : ∃ g, g = w.heap.size := ⟨_, rfl⟩
  have HX0 : Hid (W0.heap[g]? = some (.cells #[.bool false] 4 (0, 0))) := Lib.hid (by rw [hW0, hg]; exact heap_alloc_new w _)
  have HB0 : Hid (Below w.heap.size w W0) := Lib.hid (by rw [hW0]; exact (Below.refl _ _).alloc (Nat.le_refl _) _)
  have HW0 := Lib.hid hW0
  have Hg := Lib.hid hg
  clear hW0 hg
  go_enter_defers Try.func15, Try.ntmps15
  go_wp2_with fail
  rw [← HW0.out, ← Hg.out]
  refine (H.out W0).mono ?_
  rintro e w1 ⟨u, pv, rfl, hb⟩
  have hx := old_block HX0.out hb
  have hc : w1.cell? ⟨g, 0, none⟩ = some (.bool false) := cell_of_row w1 g 0 _ 4 (0, 0) hx
  have hz : w1.frozen? ⟨g, 0, none⟩ = false := frozen_of_row w1 g 0 _ 4 hx
  have hr := heap_setCell_same w1 g 0 #[.bool false] 4 (.bool true) hx
  have HB : Hid (Below w.heap.size w (w1.setCell ⟨g, 0, none⟩ (.bool true))) := Lib.hid (by
    have h1 := HB0.out.trans (hb.mono HB0.out.size)
    exact h1.setCell (show w.heap.size ≤ g by have := Hg.out; omega) _)
  have c2 : (w1.setCell ⟨g, 0, none⟩ (.bool true)).cell? ⟨g, 0, none⟩ = some (.bool true) := cell_of_row _ g 0 _ 4 (0, 0) hr
  clear hb H HX0 HB0 HW0 hx
  go_wp2_with fail
  refine leaves_cons (f := 25) (args := #[.pointer (some ⟨g, 0, none⟩)]) (by simp) (by simp [go_sem]) ?_
  refine (catch_panicking ⟨g, 0, none⟩ false u pv [] _ hc hz).mono ?_
  rintro e u' w'' ⟨rfl, rfl, rfl⟩
  simp [Leaves, settle, results, Try.results15, go_sem, c2]
  exact HB.out
theorem panics_no (n : Int) (w : World) : Calls Try.prog 15 #[cmV (.clock n)] w fun e w' => e = .returned (.tuple #[.int .i64 n, .bool false]) ∧ Below w.heap.size w w' := by
  have H := Lib.hid (fun w => cmepochE_yes n w)
  generalize cmV (.clock n) = V at H ⊢
  have hmf : ∀ (fn : Fn) (first cap : Array Value) (w : World), (Instr.makeFunc fn first cap).run Try.prog w = .ok (.func fn first cap) w := fun _ _ _ _ => rfl
  obtain ⟨W0, hW0⟩ : ∃ W, W = w.alloc (.cells #[.bool false] 4) := ⟨_, rfl⟩
  obtain ⟨g, hg⟩ : ∃ g, g = w.heap.size := ⟨_, rfl⟩
  have HX0 : Hid (W0.heap[g]? = some (.cells #[.bool false] 4 (0, 0))) := Lib.hid (by rw [hW0, hg]; exact heap_alloc_new w _)
  have HB0 : Hid (Below w.heap.size w W0) := Lib.hid (by rw [hW0]; exact (Below.refl _ _).alloc (Nat.le_refl _) _)
  have HW0 := Lib.hid hW0
  have Hg := Lib.hid hg
  clear hW0 hg
  go_enter_defers Try.func15, Try.ntmps15
  go_wp2_with fail
  rw [← HW0.out, ← Hg.out]
  refine (H.out W0).mono ?_
  rintro e w1 ⟨rfl, hb⟩
  have hx := old_block HX0.out hb
  have hc : w1.cell? ⟨g, 0, none⟩ = some (.bool false) := cell_of_row w1 g 0 _ 4 (0, 0) hx
  have hz : w1.frozen? ⟨g, 0, none⟩ = false := frozen_of_row w1 g 0 _ 4 hx
  obtain ⟨W2, hW2⟩ : ∃ W, W = w1.setCell ⟨g, 0, none⟩ (.bool false) := ⟨_, rfl⟩
  have hr := heap_setCell_same w1 g 0 #[.bool false] 4 (.bool false) hx
  rw [← hW2] at hr
  have HB2 : Hid (Below w.heap.size w W2) := Lib.hid (by
    have h1 := HB0.out.trans (hb.mono HB0.out.size)
    rw [hW2]
    exact h1.setCell (show w.heap.size ≤ g by have := Hg.out; omega) _)
  have HR := Lib.hid hr
  have HW2 := Lib.hid hW2
  clear hb H HX0 HB0 HW0 hx hr hW2
  go_wp2_with fail
  rw [← HW2.out]
  have hx := HR.out
  have hc : W2.cell? ⟨g, 0, none⟩ = some (.bool false) := cell_of_row W2 g 0 _ 4 (0, 0) hx
  have hz : W2.frozen? ⟨g, 0, none⟩ = false := frozen_of_row W2 g 0 _ 4 hx
  have hr := heap_setCell_same W2 g 0 _ 4 (.bool false) hx
  have c2 : (W2.setCell ⟨g, 0, none⟩ (.bool false)).cell? ⟨g, 0, none⟩ = some (.bool false) := cell_of_row _ g 0 _ 4 (0, 0) hr
  have HB : Hid (Below w.heap.size w (W2.setCell ⟨g, 0, none⟩ (.bool false))) := Lib.hid (HB2.out.setCell (show w.heap.size ≤ g by have := Hg.out; omega) _)
  refine leaves_cons (f := 25) (args := #[.pointer (some ⟨g, 0, none⟩)]) (by simp) (by simp [go_sem]) ?_
  refine (catch_idle ⟨g, 0, none⟩ false _ hc hz).mono ?_
  rintro e u' w'' ⟨rfl, rfl, rfl⟩
  simp [Leaves, settle, results, Try.results15, go_sem, c2]
  exact HB.out
end Go.Proofs.Ytambljnmaibdmaa

namespace Go.Proofs.Ytambljnmaibdmaa
open Go.RowKit

theorem barC_clock {k : Int} {s : List UInt8} {r : Bool} {n : Int} (h : k ≠ 3) : ∀ m, barC k s r n ≠ .clock m := by
  intro m
  unfold barC cmOf
  by_cases k0 : k = 0
  · simp [k0]
  by_cases k1 : k = 1
  · simp [k1]
  by_cases k2 : k = 2
  · simp [k2]
  by_cases k4 : k = 4
  · simp [k4]
  by_cases k5 : k = 5
  · simp [k5]
  simp [k0, k1, k2, h, k4, k5]
set_option maxRecDepth 20000 in
set_option maxHeartbeats 8000000 in
theorem commandEpochs_any (k : Int) (s : List UInt8) (r : Bool) (n : Int) (w : World) (hl : (s.length : Int) ≤ 9223372036854775807) :
    Calls Try.prog 4 #[.agg (rcm k s r n)] w fun r w' => r = .returned (.bool true) ∧ Below w.heap.size w w' := by
  have HAW := Lib.hid (fun w => awake20_any w)
  have HBR := Lib.hid (fun w => bare20_any k s r n w hl)
  have HO : Hid (∀ w, Calls Try.prog 11 #[.agg (barR k s r n)] w fun e w' => e = .returned (cmV (barC k s r n)) ∧ Below w.heap.size w w') := Lib.hid (fun w => own20_any k _ _ _ w)
  obtain ⟨g, hg⟩ : ∃ g, g = w.heap.size := ⟨_, rfl⟩
  obtain ⟨W0, hW0⟩ : ∃ W, W = w.alloc (.cells (rcm k s r n) 30) := ⟨_, rfl⟩
  have HX0 : Hid (W0.heap[g]? = some (.cells (rcm k s r n) 30 (0, 0))) := Lib.hid (by rw [hW0, hg]; exact heap_alloc_new w _)
  have HB0 : Hid (Below w.heap.size w W0) := Lib.hid (by rw [hW0]; exact (Below.refl _ _).alloc (Nat.le_refl _) _)
  have HW0 := Lib.hid hW0
  have Hg := Lib.hid hg
  clear hl hW0 hg
  by_cases k3 : k = 3
  · subst k3
    have hbc : barC 3 s r n = .clock n := by simp [barC, barE, cmOf]
    have HP := Lib.hid (fun w => panics_no n w)
    rw [hbc] at HO
    generalize cmV (.clock n) = V at HO HP
    clear hbc
    go_enter Try.func4, Try.ntmps4
    go_wp2_with fail
    rw [← HW0.out, ← Hg.out]
    refine (HAW.out W0).mono ?_
    rintro e w1 ⟨rfl, hb1⟩
    have h1 := old_block HX0.out hb1
    have HB1 := Lib.hid (HB0.out.trans (hb1.mono HB0.out.size))
    clear hb1 HAW HX0 HB0 HW0
    go_wp2_with (refine wpList_load_row rfl 30 (.tmp 1) rfl g rfl 30 (rcm 3 s r n) (0, 0) _ h1 Try.underlying30 rfl (rcm_info _ _ _ _) ?_)
    refine (HBR.out w1).mono ?_
    rintro e w2 ⟨rfl, hb2⟩
    have h2 := old_block h1 hb2
    have h3 := setRow_heap w2 g (rcm 3 s r n) (barR 3 s r n) 30 (0, 0) h2
    have HB3 : Hid (Below w.heap.size w (w2.setRow g (barR 3 s r n))) := Lib.hid (by
      have hb12 := HB1.out.trans (hb2.mono HB1.out.size)
      exact hb12.trans (((Mod.refl (fun _ => False) w2).setRow (g := g) (barR 3 s r n)).to_below hb12.size (by rintro i hi (h | h) <;> first | exact h | (have := Hg.out; omega))))
    have H3 := Lib.hid h3
    clear hb2 HB1 h1 HBR
    go_wp2_with (first | (refine wpList_store_row rfl rfl 30 (.tmp 1) (.tmp 8) rfl g rfl 30 (rcm 3 s r n) (barR 3 s r n) rfl h2 rfl (rcm_info _ _ _ _) (rcm_one _ _ _ _) ?_) | (refine wpList_load_row rfl 30 (.tmp 1) rfl g rfl 30 (barR 3 s r n) (0, 0) _ h3 Try.underlying30 rfl (rcm_info _ _ _ _) ?_))
    generalize w2.setRow g (barR 3 s r n) = W3 at HB3 H3 ⊢
    clear h2 h3
    refine (HO.out W3).mono ?_
    rintro e w4 ⟨rfl, hb4⟩
    have HB4 := Lib.hid (HB3.out.trans (hb4.mono HB3.out.size))
    have H4 := Lib.hid (old_block H3.out hb4)
    clear hb4 HO HB3 H3
    go_wp2_with fail
    refine (HP.out w4).mono ?_
    rintro e w5 ⟨rfl, hb5⟩
    have HB5 := Lib.hid (HB4.out.trans (hb5.mono HB4.out.size))
    have h5 := old_block H4.out hb5
    have c0 : w5.cell? ⟨g, 0, none⟩ = some (.int .i64 3) := cell_of_row w5 g 0 _ 30 (0, 0) h5
    clear hb5 HP HB4 H4
    have c3 : w5.cell? ⟨g, 3, none⟩ = some (.int .i64 n) := by
      refine (cell_of_row w5 g 3 _ 30 (0, 0) h5).trans ?_
      simp [barR, barE, rcm]
    go_wp2_with fail
    go_ret
    exact ⟨rfl, HB5.out⟩
  · have HP := Lib.hid (fun w => panics_yes (barC_clock (s := s) (r := r) (n := n) k3) w)
    have t3 : (k == 3) = false := beq_eq_false_iff_ne.2 k3
    generalize cmV (barC k s r n) = V at HO HP
    clear k3
    go_enter Try.func4, Try.ntmps4
    go_wp2_with fail
    rw [← HW0.out, ← Hg.out]
    refine (HAW.out W0).mono ?_
    rintro e w1 ⟨rfl, hb1⟩
    have h1 := old_block HX0.out hb1
    have HB1 := Lib.hid (HB0.out.trans (hb1.mono HB0.out.size))
    clear hb1 HAW HX0 HB0 HW0
    go_wp2_with (refine wpList_load_row rfl 30 (.tmp 1) rfl g rfl 30 (rcm k s r n) (0, 0) _ h1 Try.underlying30 rfl (rcm_info _ _ _ _) ?_)
    refine (HBR.out w1).mono ?_
    rintro e w2 ⟨rfl, hb2⟩
    have h2 := old_block h1 hb2
    have h3 := setRow_heap w2 g (rcm k s r n) (barR k s r n) 30 (0, 0) h2
    have HB3 : Hid (Below w.heap.size w (w2.setRow g (barR k s r n))) := Lib.hid (by
      have hb12 := HB1.out.trans (hb2.mono HB1.out.size)
      exact hb12.trans (((Mod.refl (fun _ => False) w2).setRow (g := g) (barR k s r n)).to_below hb12.size (by rintro i hi (h | h) <;> first | exact h | (have := Hg.out; omega))))
    have H3 := Lib.hid h3
    clear hb2 HB1 h1 HBR
    go_wp2_with (first | (refine wpList_store_row rfl rfl 30 (.tmp 1) (.tmp 8) rfl g rfl 30 (rcm k s r n) (barR k s r n) rfl h2 rfl (rcm_info _ _ _ _) (rcm_one _ _ _ _) ?_) | (refine wpList_load_row rfl 30 (.tmp 1) rfl g rfl 30 (barR k s r n) (0, 0) _ h3 Try.underlying30 rfl (rcm_info _ _ _ _) ?_))
    generalize w2.setRow g (barR k s r n) = W3 at HB3 H3 ⊢
    clear h2 h3
    refine (HO.out W3).mono ?_
    rintro e w4 ⟨rfl, hb4⟩
    have HB4 := Lib.hid (HB3.out.trans (hb4.mono HB3.out.size))
    have H4 := Lib.hid (old_block H3.out hb4)
    clear hb4 HO HB3 H3
    go_wp2_with fail
    refine (HP.out w4).mono ?_
    rintro e w5 ⟨rfl, hb5⟩
    have HB5 := Lib.hid (HB4.out.trans (hb5.mono HB4.out.size))
    have h5 := old_block H4.out hb5
    have c0 : w5.cell? ⟨g, 0, none⟩ = some (.int .i64 k) := cell_of_row w5 g 0 _ 30 (0, 0) h5
    clear hb5 HP HB4 H4
    go_wp2_with fail
    go_ret
    exact ⟨rfl, HB5.out⟩
end Go.Proofs.Ytambljnmaibdmaa

namespace Go.Proofs.Ytambljnmaibdmaa
open Go.ChangeShapes Go.WideShapes Go.ChangeAt Go.RowKit Go.Deep

set_option maxRecDepth 20000 in
theorem open_rcommand {H : Type} {enc : TypeId × Value → H} {W : World} {base : Nat} {v : Value} {d : DataW H} {ps : List MemPlace} (hval : Value.okWide Try.prog W .any base 30 v) (h : DataW.Trod enc Try.prog W 0 (fun _ => true) true 30 v d ps) :
    ∃ (k : Int) (s : List UInt8) (r : Bool) (n : Int), v = .agg (rcm k s r n) ∧ (s.length : Int) ≤ 9223372036854775807 := by
  obtain ⟨cs, rfl, hsz⟩ := okWide_struct Try.underlying30 hval
  obtain ⟨l⟩ := cs
  have h4 : Try.prog.cellsOf 30 = 4 := by kernel_rfl
  have ki : Try.prog.cellsOf 3 = 1 := by kernel_rfl
  have ks : Try.prog.cellsOf 9 = 1 := by kernel_rfl
  have kb : Try.prog.cellsOf 4 = 1 := by kernel_rfl
  match l, hsz.trans h4 with
  | [c0, c1, c2, c3], _ =>
    obtain ⟨fuel, hf⟩ := h
    obtain ⟨xs, n, _, _, _, hlen, hg⟩ := DataW.trod_struct Try.underlying30 hf
    match xs, hlen with
    | [y0, y1, y2, y3], _ =>
      have g0 := hg 0 _ rfl
      have g1 := hg 1 _ rfl
      have g2 := hg 2 _ rfl
      have g3 := hg 3 _ rfl
      simp [Value.cells, ki, ks, kb] at g0 g1 g2 g3
      obtain ⟨n0, e0, _, _⟩ := DataW.trod_int Try.underlying3 g0
      obtain ⟨s1, e1, _, w1⟩ := DataW.trod_string Try.underlying9 g1
      obtain ⟨b2, e2, _⟩ := DataW.trod_bool Try.underlying4 g2
      obtain ⟨n3, e3, _, _⟩ := DataW.trod_int Try.underlying3 g3
      simp only [List.cons.injEq, and_true] at e0 e1 e2 e3
      subst e0 e1 e2 e3
      refine ⟨n0, s1.data.toList, b2, n3, rfl, ?_⟩
      unfold maxLen at w1
      have e : s1.data.toList.length = s1.size := rfl
      omega
end Go.Proofs.Ytambljnmaibdmaa
