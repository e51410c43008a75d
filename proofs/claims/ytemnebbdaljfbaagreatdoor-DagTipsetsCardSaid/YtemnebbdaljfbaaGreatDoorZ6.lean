/- Texts 6: what the laws lean on. -/
import Derived.Test.YtemnebbdaljfbaaGreatDoorZ5
import Derived.Test.YtemnebbdaljfbaaGreatDoorZ4
import Derived.BigRegion
import Derived.Test.YtemnebbdaljfbaaGreatDoorZ2
import Derived.Test.YtemnebbdaljfbaaGreatDoorZ3
import Derived.BigQuiet
import Derived.Test.YtemnebbdaljfbaaGreatDoorZ1
import Derived.Deep.Fields
set_option linter.unusedVariables false
set_option linter.unusedSimpArgs false
namespace Go.Proofs.YtemnebbdaljfbaaGreatDoor
open Go.RowKit Go.Sort

set_option maxRecDepth 20000 in
set_option maxHeartbeats 4000000 in
theorem tsnew_any (p : Option Addr) (c : Nat) (L : List Blk) (w : World) (hR : Rd encK w p L) (hn : L.length ≤ 900000) (hc : L.length ≤ c) (hk : ∀ x ∈ L, newOk w x) :
    Calls Tryz.prog 49 #[.slice p L.length c] w fun r w' => NewP w (L.map Blk.is) L.length r w' := by
  have HOW := Lib.hid (fun w' (hb : Below w.heap.size w w') => tsowned_any p c L w' (hR.old hb) (fun b h => ((hk b h).old hb).f.ok) (by omega))
  have HUN := Lib.hid (fun w' (hb : Below w.heap.size w w') => tsunlike_any p c L w' (hR.old hb) (by omega) (fun b h => (hk b h).mi))
  have HFM := Lib.hid (fun w' (hb : Below w.heap.size w w') b l (e : L = b :: l) => tsfam_any p c b l w' (e ▸ hR.old hb) (by rw [e] at hn; simp at hn; omega) (by rw [e] at hc; simpa using hc) (fun x hx => (hk x (e ▸ hx)).f.old hb))
  obtain ⟨n, hnl⟩ : ∃ n, n = L.length := ⟨_, rfl⟩
  obtain ⟨X, hX⟩ : ∃ X, X = L.map Blk.is := ⟨_, rfl⟩
  have hXl : X.length = n := by rw [hX, List.length_map, hnl]
  obtain ⟨F, hF⟩ : ∃ F : Ending → World → Prop, F = fun r w' => NewP w X n r w' := ⟨_, rfl⟩
  rw [← hnl, ← hX]
  rw [← hnl] at hn hc
  have hF2 : (fun r w' => NewP w X n r w') = F := hF.symm
  rw [hF2]
  have HF := Lib.hid hF
  have HX := Lib.hid hX
  have HNL := Lib.hid hnl
  have HB0 := alloc1 w (.cells #[.slice none 0 0] 52)
  have hz0 := heap_alloc_new w (.cells #[.slice none 0 0] 52)
  have HZ0 := Lib.hid hz0
  have HBB := Lib.hid HB0
  have hse : ∀ (W : World) (e : Int) (cs : Array Value), Below w.heap.size w W → W.heap[w.heap.size]? = some (.cells #[.slice none 0 0] 52 (0, 0)) → Below w.heap.size w (W.setRow w.heap.size cs) := fun W e cs hb hw => hb.trans (((Mod.refl (fun _ => False) W).setRow (g := w.heap.size) cs).to_below hb.size (by rintro i hi (h | h); exact h; omega))
  have HSE := Lib.hid hse
  have hq3 : (Tryz.prog.info? 52).map (·.size) = some 1 := by kernel_rfl
  have HQ3 := Lib.hid hq3
  clear hF hF2 hnl hX hR hk HB0 hz0 hse hq3
  by_cases h5 : 5 < n
  · have h5' : (5 : Int) < (n : Int) := by omega
    have HE : Hid (newE X = 4) := Lib.hid (by unfold newE; rw [if_pos (by omega)])
    clear h5 hXl HOW HUN HFM
    go_enter Tryz.func49, Tryz.ntmps49
    go_wp2_with (refine wpList_store_row rfl rfl 52 (.tmp 2) (.tmp 9) rfl w.heap.size rfl 52 #[.slice none 0 0] #[.slice none 0 0] rfl HZ0.out rfl HQ3.out (by simp [Value.oneCell']) ?_)
    have L0 := setRow_heap (w.alloc (.cells #[.slice none 0 0] 52)) w.heap.size _ #[.slice none 0 0] 52 (0, 0) HZ0.out
    have LB := HSE.out _ 0 #[.slice none 0 0] HBB.out HZ0.out
    rw [HF.out]
    exact bodyPost_ret (v := .tuple #[.agg #[.slice none 0 0], .int .i64 4]) (results_cell_slotT Tryz.results49 _ _ w.heap.size 52 _ (0, 0) _ _ rfl rfl L0 Tryz.underlying52 rfl HQ3.out) rfl ⟨LB, .inl ⟨by rw [HE.out]; decide, by rw [HE.out]⟩⟩
  · have h5' : ¬ (5 : Int) < (n : Int) := by omega
    by_cases h0 : n = 0
    · have h0' : ((n : Int) == 0) = true := by simp; omega
      have HE : Hid (newE X = 15) := Lib.hid (by unfold newE; rw [if_neg (by omega), if_pos (List.eq_nil_of_length_eq_zero (by omega))])
      have HZ1 := HZ0
      have HB1 := HBB
      clear h5 h0 hXl HOW HUN HFM
      go_enter Tryz.func49, Tryz.ntmps49
      go_wp2_with (refine wpList_store_row rfl rfl 52 (.tmp 2) (.tmp 24) rfl w.heap.size rfl 52 #[.slice none 0 0] #[.slice none 0 0] rfl HZ1.out rfl HQ3.out (by simp [Value.oneCell']) ?_)
      have L0 := setRow_heap (w.alloc (.cells #[.slice none 0 0] 52)) w.heap.size _ #[.slice none 0 0] 52 (0, 0) HZ1.out
      have LB := HSE.out _ 0 #[.slice none 0 0] HB1.out HZ1.out
      rw [HF.out]
      exact bodyPost_ret (v := .tuple #[.agg #[.slice none 0 0], .int .i64 15]) (results_cell_slotT Tryz.results49 _ _ w.heap.size 52 _ (0, 0) _ _ rfl rfl L0 Tryz.underlying52 rfl HQ3.out) rfl ⟨LB, .inl ⟨by rw [HE.out]; decide, by rw [HE.out]⟩⟩
    · have h0' : ((n : Int) == 0) = false := by simp; omega
      obtain ⟨b, l, e⟩ : ∃ b l, L = b :: l := by
        cases L with
        | nil => exact absurd HNL.out (by simpa using h0)
        | cons b l => exact ⟨b, l, rfl⟩
      obtain ⟨fm, hfm⟩ : ∃ f, f = oneI X := ⟨_, rfl⟩
      obtain ⟨ul, hul⟩ : ∃ f, f = diffI X := ⟨_, rfl⟩
      have HF1 : Hid (∀ w', Below w.heap.size w w' → Calls Tryz.prog 88 #[.slice p n c] w' fun r w'' => r = .returned (.bool fm) ∧ Below w'.heap.size w' w'') := Lib.hid (fun w' hb => by
        have := HFM.out w' hb b l e
        rw [hfm, HX.out, e, oneI_is, HNL.out, e]; exact this)
      have HU1 : Hid (∀ w', Below w.heap.size w w' → Calls Tryz.prog 89 #[.slice p n c] w' fun r w'' => r = .returned (.bool ul) ∧ Below w'.heap.size w' w'') := Lib.hid (fun w' hb => by
        have := HUN.out w' hb
        rw [hul, HX.out, HNL.out]
        unfold diffI
        rw [is_mis, is_ids]; exact this)
      have HE0 : Hid (newE X = if (fm && ul) = true then 0 else 15) := Lib.hid (by
        unfold newE
        rw [if_neg (by omega), if_neg (fun q => h0 (by rw [← hXl, q]; rfl)), hfm, hul])
      have HUL := Lib.hid hul
      clear HUN HFM hul hfm e h5 h0
      cases fm
      · have HE : Hid (newE X = 15) := Lib.hid (by rw [HE0.out]; rfl)
        go_enter Tryz.func49, Tryz.ntmps49
        go_wp2_with fail
        refine (HF1.out _ HBB.out).mono ?_
        rintro r w1 ⟨rfl, hb1⟩
        have HB1 := Lib.hid (HBB.out.trans (hb1.mono HBB.out.size))
        have HZ1 := Lib.hid ((hb1.block _ (Array.getElem?_eq_some_iff.1 HZ0.out).1).trans HZ0.out)
        clear hb1
        go_wp2_with (refine wpList_store_row rfl rfl 52 (.tmp 2) (.tmp 24) rfl w.heap.size rfl 52 #[.slice none 0 0] #[.slice none 0 0] rfl HZ1.out rfl HQ3.out (by simp [Value.oneCell']) ?_)
        have L0 := setRow_heap w1 w.heap.size _ #[.slice none 0 0] 52 (0, 0) HZ1.out
        have LB := HSE.out _ 0 #[.slice none 0 0] HB1.out HZ1.out
        rw [HF.out]
        exact bodyPost_ret (v := .tuple #[.agg #[.slice none 0 0], .int .i64 15]) (results_cell_slotT Tryz.results49 _ _ w.heap.size 52 _ (0, 0) _ _ rfl rfl L0 Tryz.underlying52 rfl HQ3.out) rfl ⟨LB, .inl ⟨by rw [HE.out]; decide, by rw [HE.out]⟩⟩
      · cases ul
        · have HE : Hid (newE X = 15) := Lib.hid (by rw [HE0.out]; rfl)
          go_enter Tryz.func49, Tryz.ntmps49
          go_wp2_with fail
          refine (HF1.out _ HBB.out).mono ?_
          rintro r w1 ⟨rfl, hb1⟩
          have HBA := Lib.hid (HBB.out.trans (hb1.mono HBB.out.size))
          have HZA := Lib.hid ((hb1.block _ (Array.getElem?_eq_some_iff.1 HZ0.out).1).trans HZ0.out)
          clear hb1
          go_wp2_with fail
          refine (HU1.out _ HBA.out).mono ?_
          rintro r w2 ⟨rfl, hb2⟩
          have HB1 := Lib.hid (HBA.out.trans (hb2.mono HBA.out.size))
          have HZ1 := Lib.hid ((hb2.block _ (Array.getElem?_eq_some_iff.1 HZA.out).1).trans HZA.out)
          clear hb2
          go_wp2_with (refine wpList_store_row rfl rfl 52 (.tmp 2) (.tmp 24) rfl w.heap.size rfl 52 #[.slice none 0 0] #[.slice none 0 0] rfl HZ1.out rfl HQ3.out (by simp [Value.oneCell']) ?_)
          have L0 := setRow_heap w2 w.heap.size _ #[.slice none 0 0] 52 (0, 0) HZ1.out
          have LB := HSE.out _ 0 #[.slice none 0 0] HB1.out HZ1.out
          rw [HF.out]
          exact bodyPost_ret (v := .tuple #[.agg #[.slice none 0 0], .int .i64 15]) (results_cell_slotT Tryz.results49 _ _ w.heap.size 52 _ (0, 0) _ _ rfl rfl L0 Tryz.underlying52 rfl HQ3.out) rfl ⟨LB, .inl ⟨by rw [HE.out]; decide, by rw [HE.out]⟩⟩
        · have HE : Hid (newE X = 0) := Lib.hid (by rw [HE0.out]; rfl)
          go_enter Tryz.func49, Tryz.ntmps49
          go_wp2_with fail
          refine (HF1.out _ HBB.out).mono ?_
          rintro r w1 ⟨rfl, hb1⟩
          have HBA := Lib.hid (HBB.out.trans (hb1.mono HBB.out.size))
          have HZA := Lib.hid ((hb1.block _ (Array.getElem?_eq_some_iff.1 HZ0.out).1).trans HZ0.out)
          clear hb1
          go_wp2_with fail
          refine (HU1.out _ HBA.out).mono ?_
          rintro r w2 ⟨rfl, hb2⟩
          have HB1 := Lib.hid (HBA.out.trans (hb2.mono HBA.out.size))
          have HZ1 := Lib.hid ((hb2.block _ (Array.getElem?_eq_some_iff.1 HZA.out).1).trans HZA.out)
          clear hb2
          have HOW2 := Lib.hid (HOW.out w2 HB1.out)
          rw [← HNL.out] at HOW2
          go_wp2_with fail
          refine HOW2.out.mono ?_
          rintro r w3 ⟨q, c2, rfl, hO⟩
          obtain ⟨D, hDl, hDr, hDi, hDo⟩ := hO.ex
          have hDi2 : D.map Blk.is = X := by rw [hDi, List.take_of_length_le (by rw [← HNL.out]; exact Nat.le_refl _), ← HX.out]
          have hnd : (D.map (·.id)).Nodup := by
            have := HUL.out
            unfold diffI at this
            rw [← is_ids, hDi2]
            have h2 := (Bool.and_eq_true_iff.1 this.symm).2
            exact of_decide_eq_true h2
          have HZ3 := Lib.hid ((hO.b.block _ (Array.getElem?_eq_some_iff.1 HZ1.out).1).trans HZ1.out)
          have HST := Lib.hid (tssort_any q c2 D w3 hDr (by rw [hDl]; omega) hnd)
          rw [hDl] at HST
          have HOO := Lib.hid hO
          have HDI := Lib.hid hDi2
          have HDO := Lib.hid hDo
          clear hO hDr hDi hDo hDi2 hnd
          go_wp2_with fail
          refine HST.out.mono ?_
          rintro r w4 ⟨rfl, hr4, hm4⟩
          have hw2 : w.heap.size ≤ w2.heap.size := HB1.out.size
          have hT : TsW w w4 q c2 (bsort D) := by
            refine ⟨hr4, fun x hx => ?_, fun a e => Nat.le_trans hw2 (HOO.out.f a e)⟩
            have h1 := HDO.out x (bsort_mem hx)
            refine ⟨h1.rw.kept hm4 (fun a e ⟨a', e', q'⟩ => ?_), fun a e => Nat.le_trans hw2 (h1.f a e), h1.n, h1.k⟩
            have hT : 70 ≠ 72 := by decide
            obtain ⟨D2, _, hD2, _⟩ := HOO.out.ex
            exact Rw.ne h1.rw hD2 hT a a' e e' q'
          have hb4 : Below w.heap.size w w4 := by
            have h1 := HB1.out.trans (HOO.out.b.mono HB1.out.size)
            exact h1.trans (hm4.to_below h1.size (by rintro i hi ⟨a, e, rfl⟩; have := HOO.out.f a e; omega))
          have hz4 : w4.heap[w.heap.size]? = some (.cells #[.slice none 0 0] 52 (0, 0)) := by
            have hlt := (Array.getElem?_eq_some_iff.1 HZ3.out).1
            have hlt1 := (Array.getElem?_eq_some_iff.1 HZ1.out).1
            exact (hm4.block _ hlt (by rintro ⟨a, e, e2⟩; have := HOO.out.f a e; omega)).trans HZ3.out
          have HB4 := Lib.hid hb4
          have HZ4 := Lib.hid hz4
          have HIS : Hid ((bsort D).map Blk.is = isort X) := Lib.hid (by rw [bsort_is, HDI.out])
          have hm5 : Mod (fun i => False ∨ i = w.heap.size) w4 (w4.setRow w.heap.size #[.slice q n c2]) := (Mod.refl (fun _ => False) w4).setRow (g := w.heap.size) _
          have HT5 : Hid (TsW w (w4.setRow w.heap.size #[.slice q n c2]) q c2 (bsort D)) := Lib.hid ⟨hT.rw.kept hm5 (fun a e h => by
            rcases h with h | h
            · exact h
            · have hr := hT.rw
              rcases hr.shape with ⟨e1, _⟩ | ⟨g1, e1, _, _, _, cur, hh, _⟩
              · rw [e1] at e; cases e
              · rw [e1] at e; cases e
                simp only at h
                rw [h, hz4] at hh
                simp only [Option.some.injEq, Obj.cells.injEq] at hh
                exact absurd hh.2.1 (by decide)), fun x hx => by
            have h1 := hT.ok x hx
            refine ⟨h1.rw.kept hm5 (fun a e h => ?_), h1.f, h1.n, h1.k⟩
            rcases h with h | h
            · exact h
            · have hr := h1.rw
              rcases hr.shape with ⟨e1, _⟩ | ⟨g1, e1, _, _, _, cur, hh, _⟩
              · rw [e1] at e; cases e
              · rw [e1] at e; cases e
                simp only at h
                rw [h, hz4] at hh
                simp only [Option.some.injEq, Obj.cells.injEq] at hh
                exact absurd hh.2.1 (by decide), hT.f⟩
          clear hr4 hm4 hT hb4 hz4 hm5 hw2 HST HOO HDO
          go_wp2_with (refine wpList_store_row rfl rfl 52 (.tmp 2) (.tmp 30) rfl w.heap.size rfl 52 #[.slice none 0 0] #[.slice q n c2] rfl HZ4.out rfl HQ3.out (by simp [Value.oneCell']) ?_)
          have L0 := setRow_heap w4 w.heap.size _ #[.slice q n c2] 52 (0, 0) HZ4.out
          have LB := HSE.out _ 0 #[.slice q n c2] HB4.out HZ4.out
          rw [HF.out]
          exact bodyPost_ret (v := .tuple #[.agg #[.slice q n c2], .int .i64 0]) (results_cell_slotT Tryz.results49 _ _ w.heap.size 52 _ (0, 0) _ _ rfl rfl L0 Tryz.underlying52 rfl HQ3.out) rfl ⟨LB, .inr ⟨HE.out, q, c2, bsort D, rfl, HT5.out, HIS.out⟩⟩
end Go.Proofs.YtemnebbdaljfbaaGreatDoor

namespace Go.Proofs.YtemnebbdaljfbaaGreatDoor
open Go.RowKit

theorem cat_bytes (a b : List UInt8) : (⟨a.toArray⟩ : ByteArray) ++ (⟨b.toArray⟩ : ByteArray) = ⟨(a ++ b).toArray⟩ := by
  apply ByteArray.ext; simp

set_option maxRecDepth 20000 in
set_option maxHeartbeats 4000000 in
theorem rjoin_any (ao : Option Addr) (cap : Nat) (L : List (List UInt8)) (w : World) (hL : Rd encS w ao L) (hn : L.length ≤ 1000000) (hl : L.flatten.length ≤ 1000000000) :
    Calls Tryz.prog 20 #[.slice ao L.length cap] w fun r w' => r = .returned (.string ⟨L.flatten.toArray⟩) ∧ w = w' := by
  obtain ⟨n, hnL⟩ : ∃ n, n = L.length := ⟨_, rfl⟩
  obtain ⟨S, hS⟩ : ∃ S, S = L.flatten := ⟨_, rfl⟩
  rw [← hS] at hl ⊢
  rw [← hnL] at hn ⊢
  have Hn := Lib.hid hnL
  have HS := Lib.hid hS
  have HL := Lib.hid hL
  clear hnL hL hS
  go_enter Tryz.func20, Tryz.ntmps20
  go_wp2_with fail
  go_loopw [3, 5, 8] (fun s3 _ s8 wr => ∃ (k : Nat) (D : List UInt8), k ≤ n ∧ s8 = .int .i64 (k : Int) ∧ s3 = .string ⟨D.toArray⟩ ∧ Hid (D = (L.take k).flatten) ∧ Hid (w = wr)) (fun _ _ i _ => n - (intOf i).toNat)
  case atStart => exact ⟨0, [], Nat.zero_le _, rfl, rfl, Lib.hid rfl, Lib.hid rfl⟩
  case round =>
    obtain ⟨k, D, hk, rfl, rfl, HD, HW⟩ := hrel
    by_cases hlt : k < n
    · have hkL : k < L.length := by rw [← Hn.out]; exact hlt
      have hw := HW.out
      subst hw
      obtain ⟨bs, off, rfl, hbs, cx⟩ := HL.out.str k hkL
      have hnx : L.take (k + 1) = L.take k ++ [L[k]] := List.take_succ_eq_append_getElem hkL
      obtain ⟨x, hx⟩ : ∃ x, x = L[k] := ⟨_, rfl⟩
      rw [← hx] at cx hnx
      have Hnx : Hid (D ++ x = (L.take (k + 1)).flatten) := Lib.hid (by rw [hnx, List.flatten_append, HD.out]; simp)
      have i0 : (0 : Int) ≤ k := by omega
      have i1 : (k : Int) < n := by omega
      have Hlt := Lib.hid hlt
      have hle : D.length + x.length ≤ 1000000000 := by
        have e : S = (L.take (k + 1)).flatten ++ (L.drop (k + 1)).flatten := by rw [HS.out, ← List.flatten_append, List.take_append_drop]
        have e2 := congrArg List.length e
        rw [List.length_append, ← Hnx.out, List.length_append] at e2
        omega
      have hle2 : (D.length : Int) + x.length ≤ 9223372036854775807 := by omega
      have hle3 : D.length + x.length ≤ 9223372036854775807 := by omega
      clear hle
      clear hx hnx hkL hlt
      go_wp2_with fail
      go_roundw
      case rel => exact ⟨k + 1, D ++ x, by have := Hlt.out; omega, by go_num, val_str (cat_bytes D x), Hnx, Lib.hid trivial⟩
      case measure => have := Hlt.out; simp [intOf]; omega
    · have i1 : ¬ (k : Int) < n := by omega
      have e : k = n := by omega
      obtain rfl : D = S := by rw [HD.out, HS.out, e, Hn.out, List.take_length]
      clear e
      go_wp2_with fail
      go_ret
      exact ⟨rfl, HW.out⟩
end Go.Proofs.YtemnebbdaljfbaaGreatDoor

namespace Go.Proofs.YtemnebbdaljfbaaGreatDoor
open Go.RowKit

theorem insB_len (s : List UInt8) (l : List (List UInt8)) : (insB s l).length ≤ l.length + 1 := by
  induction l with
  | nil => simp [insB]
  | cons t r ih => rw [insB]; split
                   · simp
                   · split <;> simp <;> omega
theorem rsort_len (L : List (List UInt8)) : (rsort L).length ≤ L.length := by
  have h : ∀ (L A : List (List UInt8)), (L.foldl (fun out s => insB s out) A).length ≤ A.length + L.length := by
    intro L
    induction L with
    | nil => intro A; exact Nat.le_refl _
    | cons s l ih => intro A; have := ih (insB s A); have := insB_len s A; rw [List.foldl_cons, List.length_cons]; omega
  have := h L []; simpa [rsort] using this
/-- The inner loop behind j rounds. -/
def inJ (s : List UInt8) (M : List (List UInt8)) (j : Nat) : List (List UInt8) × Bool := (M.take j).foldl (insR s) ([], false)
theorem inJ_zero (s : List UInt8) (M : List (List UInt8)) : inJ s M 0 = ([], false) := rfl
theorem inJ_succ (s : List UInt8) (M : List (List UInt8)) (j : Nat) (h : j < M.length) : inJ s M (j + 1) = insR s (inJ s M j) M[j] := by
  unfold inJ; rw [List.take_succ_eq_append_getElem h, List.foldl_append]; rfl
theorem inJ_len (s : List UInt8) (M : List (List UInt8)) (j : Nat) : (inJ s M j).1.length ≤ 2 * j := by
  induction j with
  | zero => simp [inJ]
  | succ j ih =>
    by_cases h : j < M.length
    · rw [inJ_succ s M j h]
      unfold insR
      split
      · simp only [List.length_append, List.length_cons, List.length_nil]; omega
      · simp only [List.length_append, List.length_cons, List.length_nil]; omega
    · unfold inJ at ih ⊢
      rw [List.take_of_length_le (by omega)]
      rw [List.take_of_length_le (by omega)] at ih
      omega
theorem inJ_end (s : List UInt8) (M : List (List UInt8)) : insE s (inJ s M M.length) = insB s M := by
  unfold inJ; rw [List.take_length]; have := insR_false s M []; simpa using this
/-- The three ways that a text stands to another one. -/
theorem tri (s t : List UInt8) : (Op.bytesLess s t = true ∧ ∀ R, insR s (R, false) t = (R ++ [s] ++ [t], true)) ∨ (Op.bytesLess s t = false ∧ (s == t) = false ∧ ∀ R, insR s (R, false) t = (R ++ [t], false)) ∨ (Op.bytesLess s t = false ∧ (s == t) = true ∧ ∀ R, insR s (R, false) t = (R ++ [t], true)) := by
  by_cases h1 : Lib.compareBytes s t < 0
  · have h2 : ¬ Lib.compareBytes t s < 0 := fun h => by have := cmpB_trans s t s h1 h; rw [cmpB_self] at this; exact absurd this (by decide)
    exact .inl ⟨by rw [less_cmp, decide_eq_true h1], fun R => by simp [insR, h1, h2]⟩
  · by_cases h2 : Lib.compareBytes t s < 0
    · have h3 : s ≠ t := fun e => by rw [e, cmpB_self] at h2; exact absurd h2 (by decide)
      exact .inr (.inl ⟨by rw [less_cmp, decide_eq_false h1], by simp [h3], fun R => by simp [insR, h1, h2]⟩)
    · have h3 := cmpB_eq s t h1 h2
      exact .inr (.inr ⟨by rw [less_cmp, decide_eq_false h1], by simp [h3], fun R => by simp [insR, h1, h2]⟩)
theorem insR_t (s t : List UInt8) (R : List (List UInt8)) : insR s (R, true) t = (R ++ [t], true) := by simp [insR]
theorem AccR.one {w wr : World} {k : Nat} {D : List (List UInt8)} {q : Option Addr} {c : Nat} (h : AccR encS 9 w k D q c wr) (s : List UInt8) :
    Rw encS 9 (wr.alloc (.cells #[.string ⟨s.toArray⟩] 9)) q c D ∧ Rd encS (wr.alloc (.cells #[.string ⟨s.toArray⟩] 9)) (some ⟨wr.heap.size, 0, none⟩) [s] ∧
    ∀ q' c' w', PushR encS 9 (wr.alloc (.cells #[.string ⟨s.toArray⟩] 9)) q (D ++ [s]) q' c' w' → AccR encS 9 w (k + 1) (D ++ [s]) q' c' w' := by
  have h2 := h.below ((Below.refl wr.heap.size wr).alloc (Nat.le_refl _) (.cells #[.string ⟨s.toArray⟩] 9))
  exact ⟨h2.s, Rd.made encS wr 9 [s] (by simp [maxLen]), fun q' c' w' hP => h2.push hP⟩

set_option maxRecDepth 20000 in
set_option maxHeartbeats 4000000 in
theorem rsorts_any (ao : Option Addr) (cap : Nat) (L : List (List UInt8)) (w : World) (hL : Rd encS w ao L) (hn : L.length ≤ 100000) :
    Calls Tryz.prog 18 #[.slice ao L.length cap] w fun r w' => ∃ q c, r = .returned (.slice q (rsort L).length c) ∧ Rw encS 9 w' q c (rsort L) ∧ (∀ a, q = some a → w.heap.size ≤ a.block) ∧ Below w.heap.size w w' := by
  obtain ⟨n, hnL⟩ : ∃ n, n = L.length := ⟨_, rfl⟩
  obtain ⟨F, hF⟩ : ∃ F : Ending → World → Prop, F = fun r w' => ∃ q c, r = .returned (.slice q (rsort L).length c) ∧ Rw encS 9 w' q c (rsort L) ∧ (∀ a, q = some a → w.heap.size ≤ a.block) ∧ Below w.heap.size w w' := ⟨_, rfl⟩
  rw [← hF]
  rw [← hnL] at hn ⊢
  have HF := Lib.hid hF
  have Hn := Lib.hid hnL
  have HL := Lib.hid hL
  clear hnL hL hF
  go_enter Tryz.func18, Tryz.ntmps18
  go_wp2_with fail
  go_loopw [3, 5, 6, 7, 9, 13] (fun s3 _ _ _ _ s13 wr => ∃ (i : Nat) (q : Option Addr) (c m : Nat), i ≤ n ∧ s13 = .int .i64 (i : Int) ∧ s3 = .slice q m c ∧ Hid (m = (rsort (L.take i)).length) ∧ Hid (Rw encS 9 wr q c (rsort (L.take i)) ∧ (∀ a, q = some a → w.heap.size ≤ a.block) ∧ Below w.heap.size w wr)) (fun _ _ _ _ _ i _ => n - (intOf i).toNat)
  case atStart => exact ⟨0, some ⟨w.heap.size, 0, none⟩, 0, 0, Nat.zero_le _, rfl, rfl, Lib.hid rfl, Lib.hid ⟨Rw.made (E := encS) 9 w [] (by simp [maxLen]), (fun a e => by cases e; exact Nat.le_refl _), (Below.refl _ _).alloc (Nat.le_refl _) _⟩⟩
  case round =>
    rename World => w1
    obtain ⟨i, q, c, m, hi, rfl, rfl, HM, HW⟩ := hrel
    by_cases hlt : i < n
    · have hiL : i < L.length := by rw [← Hn.out]; exact hlt
      obtain ⟨bs, off, rfl, hbs, cx⟩ := (HL.out.old HW.out.2.2).str i hiL
      have hnx : rsort (L.take (i + 1)) = insB L[i] (rsort (L.take i)) := by rw [List.take_succ_eq_append_getElem hiL, rsort_snoc]
      obtain ⟨s, hs⟩ : ∃ s, s = L[i] := ⟨_, rfl⟩
      rw [← hs] at cx hnx
      have Hnx := Lib.hid hnx
      have hml : m ≤ 100000 := by have := rsort_len (L.take i); rw [← HM.out, List.length_take] at this; omega
      obtain ⟨M, hM⟩ : ∃ M, M = rsort (L.take i) := ⟨_, rfl⟩
      rw [← hM] at HM HW Hnx
      have i0 : (0 : Int) ≤ i := by omega
      have i1 : (i : Int) < n := by omega
      have Hlt := Lib.hid hlt
      clear hM hs hnx hiL hlt
      go_wp2_with fail
      clear cx
      go_loopw [6, 7, 9, 20] (fun s6 s7 _ s20 wr => ∃ (j : Nat) (q2 : Option Addr) (c2 k : Nat) (d : Bool), j ≤ m ∧ k ≤ 2 * j ∧ s20 = .int .i64 (j : Int) ∧ s6 = .slice q2 k c2 ∧ s7 = .bool d ∧ Hid (d = (inJ s M j).2) ∧ Hid (AccR encS 9 w1 k (inJ s M j).1 q2 c2 wr)) (fun _ _ _ j _ => m - (intOf j).toNat)
      case atStart => exact ⟨0, some ⟨w1.heap.size, 0, none⟩, 0, 0, false, Nat.zero_le _, Nat.le_refl _, rfl, rfl, rfl, Lib.hid rfl, Lib.hid ⟨Rw.made (E := encS) 9 w1 [] (by simp [maxLen]), rfl, (fun a e => by cases e; exact Nat.le_refl _), (Below.refl _ _).alloc (Nat.le_refl _) _⟩⟩
      case round =>
        obtain ⟨j, q2, c2, k, d, hj, hk, rfl, rfl, rfl, HD, HA⟩ := hrel
        by_cases hjm : j < m
        · have hjM : j < M.length := by rw [← HM.out]; exact hjm
          obtain ⟨b2, o2, rfl, hb2, cy⟩ := (HW.out.1.old HA.out.m).rd.str j hjM
          have hnx := inJ_succ s M j hjM
          obtain ⟨t, ht⟩ : ∃ t, t = M[j] := ⟨_, rfl⟩
          rw [← ht] at cy hnx
          obtain ⟨R, hR⟩ : ∃ R, R = (inJ s M j).1 := ⟨_, rfl⟩
          rw [← hR] at HA
          have hpair : inJ s M j = (R, d) := by rw [hR, HD.out]
          rw [hpair] at hnx
          have j0 : (0 : Int) ≤ j := by omega
          have j1 : (j : Int) < m := by omega
          have Hjm := Lib.hid hjm
          have HRk := Lib.hid HA.out.len
          obtain ⟨a1, a2, a3⟩ := HA.out.one t
          have A1 := Lib.hid a1
          have A2 := Lib.hid a2
          have A3 := Lib.hid a3
          clear ht hR hpair hjM a1 a2 a3 HD hjm
          cases d with
          | true =>
            rw [insR_t] at hnx
            have Hnx2 := Lib.hid hnx
            clear hnx
            go_wp2_with ((at_builtin; refine wpList_pushR encS rfl _ _ 27 9 (.string ⟨#[]⟩) 16 rfl Tryz.underlying27 info_strH rfl (by decide) q2 c2 k R HRk.out rfl A1.out (some ⟨wr.heap.size, 0, none⟩) 1 1 [t] rfl rfl A2.out (by omega) ?_; intro q' c' w5 hP))
            have HP := Lib.hid (A3.out _ _ _ hP)
            have hjm := Hjm.out
            clear hP A1 A2 A3
            go_roundw
            case rel => exact ⟨j + 1, q', c', k + 1, true, by omega, by omega, by go_num, rfl, rfl, Lib.hid (by rw [Hnx2.out]), Lib.hid (by rw [Hnx2.out]; exact HP.out)⟩
            case measure => simp [intOf]; omega
          | false =>
            rcases tri s t with ⟨g1, g2⟩ | ⟨g1, g3, g2⟩ | ⟨g1, g3, g2⟩
            · rw [g2] at hnx
              have Hnx2 := Lib.hid hnx
              obtain ⟨b1, b4, b5⟩ := HA.out.one s
              have B1 := Lib.hid b1
              have B4 := Lib.hid b4
              have B5 := Lib.hid b5
              clear hnx g2 b1 b4 b5 A1 A2 A3
              go_wp2_with (first | (at_builtin; refine wpList_pushR encS rfl _ _ 27 9 (.string ⟨#[]⟩) 16 rfl Tryz.underlying27 info_strH rfl (by decide) q2 c2 k R HRk.out rfl B1.out (some ⟨wr.heap.size, 0, none⟩) 1 1 [s] rfl rfl B4.out (by omega) ?_; intro q' c' w5 hP; have HP1 := Lib.hid (B5.out _ _ _ hP); have HL1 := Lib.hid HP1.out.len; have A1 := Lib.hid (HP1.out.one t).1; have A2 := Lib.hid (HP1.out.one t).2.1; have A3 := Lib.hid (HP1.out.one t).2.2; clear hP) | (at_builtin; refine wpList_pushR encS rfl _ _ 27 9 (.string ⟨#[]⟩) 16 rfl Tryz.underlying27 info_strH rfl (by decide) q' c' (k + 1) (R ++ [s]) HL1.out rfl A1.out (some ⟨w5.heap.size, 0, none⟩) 1 1 [t] rfl rfl A2.out (by omega) ?_; intro q9 c9 w6 hP2))
              have HP := Lib.hid (A3.out _ _ _ hP2)
              have hjm := Hjm.out
              clear hP2 A1 A2 A3 B1 B4 B5
              go_roundw
              case rel => exact ⟨j + 1, q9, c9, k + 1 + 1, true, by omega, by omega, by go_num, rfl, rfl, Lib.hid (by rw [Hnx2.out]), Lib.hid (by rw [Hnx2.out]; exact HP.out)⟩
              case measure => simp [intOf]; omega
            · rw [g2] at hnx
              have Hnx2 := Lib.hid hnx
              clear hnx g2
              go_wp2_with (at_builtin; refine wpList_pushR encS rfl _ _ 27 9 (.string ⟨#[]⟩) 16 rfl Tryz.underlying27 info_strH rfl (by decide) q2 c2 k R HRk.out rfl A1.out (some ⟨wr.heap.size, 0, none⟩) 1 1 [t] rfl rfl A2.out (by omega) ?_; intro q' c' w5 hP)
              have HP := Lib.hid (A3.out _ _ _ hP)
              have hjm := Hjm.out
              clear hP A1 A2 A3
              go_roundw
              case rel => exact ⟨j + 1, q', c', k + 1, false, by omega, by omega, by go_num, rfl, rfl, Lib.hid (by rw [Hnx2.out]), Lib.hid (by rw [Hnx2.out]; exact HP.out)⟩
              case measure => simp [intOf]; omega
            · rw [g2] at hnx
              have Hnx2 := Lib.hid hnx
              clear hnx g2
              go_wp2_with (at_builtin; refine wpList_pushR encS rfl _ _ 27 9 (.string ⟨#[]⟩) 16 rfl Tryz.underlying27 info_strH rfl (by decide) q2 c2 k R HRk.out rfl A1.out (some ⟨wr.heap.size, 0, none⟩) 1 1 [t] rfl rfl A2.out (by omega) ?_; intro q' c' w5 hP)
              have HP := Lib.hid (A3.out _ _ _ hP)
              have hjm := Hjm.out
              clear hP A1 A2 A3
              go_roundw
              case rel => exact ⟨j + 1, q', c', k + 1, true, by omega, by omega, by go_num, rfl, rfl, Lib.hid (by rw [Hnx2.out]), Lib.hid (by rw [Hnx2.out]; exact HP.out)⟩
              case measure => simp [intOf]; omega
        · have j1 : ¬ (j : Int) < m := by omega
          have e : j = m := by omega
          rw [e, HM.out] at HD HA
          have hend := inJ_end s M
          obtain ⟨R, hR⟩ : ∃ R, R = (inJ s M M.length).1 := ⟨_, rfl⟩
          rw [← hR] at HA
          have hpair : inJ s M M.length = (R, d) := by rw [hR, HD.out]
          rw [hpair] at hend
          have HRk := Lib.hid HA.out.len
          have HB2 : Hid (w.heap.size ≤ w1.heap.size ∧ Below w.heap.size w w1) := Lib.hid ⟨HW.out.2.2.size, HW.out.2.2⟩
          have hjm : k ≤ 2 * m := by omega
          clear e hR hpair HD hj hk HW
          cases d with
          | true =>
            have HE : Hid (insB s M = R) := Lib.hid hend.symm
            clear hend
            go_wp2_with fail
            have hlt := Hlt.out
            go_roundw
            case rel => exact ⟨i + 1, q2, c2, k, by omega, by go_num, rfl, Lib.hid (by rw [Hnx.out, HE.out, HRk.out]), Lib.hid (by rw [Hnx.out, HE.out]; exact ⟨HA.out.s, fun a e => Nat.le_trans HB2.out.1 (HA.out.new a e), HB2.out.2.trans (HA.out.m.mono HB2.out.1)⟩)⟩
            case measure => simp [intOf]; omega
          | false =>
            have HE : Hid (insB s M = R ++ [s]) := Lib.hid hend.symm
            obtain ⟨a1, a2, a3⟩ := HA.out.one s
            have A1 := Lib.hid a1
            have A2 := Lib.hid a2
            have A3 := Lib.hid a3
            clear hend a1 a2 a3
            go_wp2_with (at_builtin; refine wpList_pushR encS rfl _ _ 27 9 (.string ⟨#[]⟩) 16 rfl Tryz.underlying27 info_strH rfl (by decide) q2 c2 k R HRk.out rfl A1.out (some ⟨wr.heap.size, 0, none⟩) 1 1 [s] rfl rfl A2.out (by omega) ?_; intro q' c' w5 hP)
            have HP := Lib.hid (A3.out _ _ _ hP)
            have hlt := Hlt.out
            clear hP A1 A2 A3
            go_roundw
            case rel => exact ⟨i + 1, q', c', k + 1, by omega, by go_num, rfl, Lib.hid (by rw [Hnx.out, HE.out, HP.out.len]), Lib.hid (by rw [Hnx.out, HE.out]; exact ⟨HP.out.s, fun a e => Nat.le_trans HB2.out.1 (HP.out.new a e), HB2.out.2.trans (HP.out.m.mono HB2.out.1)⟩)⟩
            case measure => simp [intOf]; omega
    · have i1 : ¬ (i : Int) < n := by omega
      have e : i = n := by omega
      rw [e, Hn.out, List.take_length] at HM HW
      clear e
      go_wp2_with fail
      rw [HF.out]
      exact ⟨q, c, by rw [HM.out], HW.out.1, HW.out.2.1, HW.out.2.2⟩
end Go.Proofs.YtemnebbdaljfbaaGreatDoor

namespace Go.Proofs.YtemnebbdaljfbaaGreatDoor
open Go.RowKit

/-- 'make([]byte, 32)'. -/
theorem wpList_makeB {ops : Array Oper} {rest : List Oper} {o : Oper} {a : Act} {Q : Exit → Act → World → Prop} {w : World} (hgd : o.guard = none) (l c : Operand) (hop : o.op = Op.makeSlice 68 l c)
    (hl : a.eval l = .int .i64 32) (hc : a.eval c = .int .i64 32)
    (hK : ∀ w', w'.heap[w.heap.size]? = some (.cells (vals zid).toArray 5 (0, 0)) → Below w.heap.size w w' → wpList Tryz.prog ops Q rest (a.put o.dst (.slice (some ⟨w.heap.size, 0, none⟩) 32 32)) w') :
    wpList Tryz.prog ops Q (o :: rest) a w := by
  obtain ⟨i, hi, hzz⟩ := Option.map_eq_some_iff.1 info_u8k
  simp only [Prod.mk.injEq] at hzz
  obtain ⟨hz, h1, h2⟩ := hzz
  refine wpList_make_full w hgd l c 68 hop 0 5 i (.int .u8 0) 1 Tryz.underlying68 hi hz h1 .i64 .i64 32 32 32 hl hc rfl rfl (by rw [h2]; decide) (by unfold maxLen; decide) (Nat.zero_le _) ?_
  intro w' hown hgrow
  refine hK w' ?_ ((Below.refl _ _).grown hgrow (Nat.le_refl _) (by intro k h; cases h))
  rcases hown.2 with ⟨h, _⟩ | ⟨g, cap, cur, h, _, hh, h3, h4, h5, h6⟩
  · cases h
  · simp only [Value.slice.injEq, Option.some.injEq, Addr.mk.injEq] at h
    obtain ⟨⟨rfl, _⟩, _, rfl⟩ := h
    rw [hh]
    have e : cur.toList = vals zid := by
      rw [List.take_of_length_le (by rw [Array.length_toList, h5]; exact Nat.le_refl _)] at h6
      rw [h6]; kernel_rfl
    rw [← e]

/-- A number's name. -/
def nameL (x : UInt8) : List UInt8 := (zid.set 0 x).set 31 (~~~x)
theorem nameL_len (x : UInt8) : (nameL x).length = 32 := by simp [nameL, zid]
theorem vals_set (L : List UInt8) (i : Nat) (x : UInt8) : (vals L).set i (.int .u8 (x.toNat : Int)) = vals (L.set i x) := by simp [vals, List.map_set]

theorem not_bits (x : UInt8) : bits BinOp.xor IntKind.u8 IntKind.u8.max (x.toNat : Int) = ((~~~x).toNat : Int) := by
  have h : ∀ n : Fin 256, bits BinOp.xor IntKind.u8 IntKind.u8.max (n.val : Int) = ((~~~(UInt8.ofNat n.val)).toNat : Int) := by decide +kernel
  have := h ⟨x.toNat, x.toNat_lt⟩
  simpa using this
theorem text_row {w : World} {g : Nat} {s : List UInt8} (hl : s.length = 32) (h : w.heap[g]? = some (.cells (vals s).toArray 5 (0, 0))) : (convert 68 9 (.slice (some ⟨g, 0, none⟩) 32 32)).run Tryz.prog w = .ok (.string ⟨s.toArray⟩) w := by
  rw [run_convert_bytes_arg w 68 5 Tryz.underlying68 Tryz.underlying5 g 0 32 32 (s.map fun x => (x.toNat : Int)) (by simpa using hl) (fun i hi => by
    rw [Nat.zero_add, cell_of_row w g i _ 5 (0, 0) h]
    simp [vals, List.getD, hl, hi]) 9 Tryz.underlying9]
  simp [strOfNums, Function.comp_def]
theorem name_row {w1 : World} {g : Nat} (x : UInt8) (h : w1.heap[g]? = some (.cells (vals zid).toArray 5 (0, 0))) : ((w1.setCell ⟨g, 0, none⟩ (.int .u8 (x.toNat : Int))).setCell ⟨g, 31, none⟩ (.int .u8 ((~~~x).toNat : Int))).heap[g]? = some (.cells (vals (nameL x)).toArray 5 (0, 0)) := by
  have h1 := heap_setCell_same w1 g 0 _ 5 (.int .u8 (x.toNat : Int)) h
  have e1 : (vals zid).toArray.setIfInBounds 0 (.int .u8 (x.toNat : Int)) = (vals (zid.set 0 x)).toArray := by rw [← vals_set]; exact List.setIfInBounds_toArray _ _ _
  rw [e1] at h1
  have h2 := heap_setCell_same _ g 31 _ 5 (.int .u8 ((~~~x).toNat : Int)) h1
  have e2 : (vals (zid.set 0 x)).toArray.setIfInBounds 31 (.int .u8 ((~~~x).toNat : Int)) = (vals (nameL x)).toArray := by unfold nameL; rw [← vals_set]; exact List.setIfInBounds_toArray _ _ _
  rw [e2] at h2
  exact h2

end Go.Proofs.YtemnebbdaljfbaaGreatDoor

namespace Go.Proofs.YtemnebbdaljfbaaGreatDoor
open Go.RowKit Go.Sort

/-- Below. -/
def lN (x y : Nm) : Prop := ltOf cfN x y = true
theorem lN_trans {x y z : Nm} (h : lN x y) (k : lN y z) : lN x z := cfN_trans x y z h k
theorem lN_irr (x : Nm) : ¬ lN x x := by unfold lN; rw [cfN_swo.irrefl]; decide
theorem lN_of {x y : Nm} (h : ¬ lN y x) (hne : x ≠ y) : lN x y := by
  unfold lN at *
  cases e : ltOf cfN x y with
  | true => rfl
  | false => exact absurd (cfN_total x y e (by simpa using h)) hne
theorem ksort_pair (L : List Nm) : (ksort L).Pairwise fun x y => ¬ lN y x := by
  have h := List.pairwise_mergeSort (le := fun x y => !(ltOf cfN) y x) (fun a b c h1 h2 => by
    have := cfN_swo.ntrans c b a (by simpa using h2) (by simpa using h1)
    simpa using this) (fun a b => by
    cases e : ltOf cfN b a with
    | false => simp
    | true =>
      cases e2 : ltOf cfN a b with
      | false => simp
      | true => exact absurd (lN_trans (x := a) e2 e) (lN_irr a)) L
  exact h.imp (fun {a b} h => by unfold lN; simpa using h)
theorem ksort_mem (L : List Nm) (x : Nm) : x ∈ ksort L ↔ x ∈ L := (List.mergeSort_perm L _).mem_iff
theorem cpt_mem (L : List Nm) (n : Nat) (hn : n ≤ L.length) (x : Nm) : x ∈ cpt L n ↔ x ∈ L.take n := by
  induction n with
  | zero => simp [cpt]
  | succ n ih =>
    have hl : n < L.length := by omega
    rw [List.take_succ_eq_append_getElem hl]
    cases hk : kp L n with
    | true => rw [cpt_keep hl hk, List.mem_append, List.mem_append, ih (by omega)]
    | false =>
      rw [cpt_skip hk, List.mem_append, ih (by omega)]
      constructor
      · exact Or.inl
      · rintro (h | h)
        · exact h
        · cases n with
          | zero => cases hk
          | succ m =>
            have e := kp_succ L m hl
            rw [hk] at e
            have e2 : L[m + 1] = L[m] := Subtype.ext (by simpa using e)
            rw [List.mem_singleton.1 h, e2]
            exact List.mem_take_iff_getElem.2 ⟨m, by omega, rfl⟩
theorem cpt_strict (L : List Nm) (hp : L.Pairwise fun x y => ¬ lN y x) (n : Nat) (hn : n ≤ L.length) : (cpt L n).Pairwise lN := by
  induction n with
  | zero => exact List.Pairwise.nil
  | succ n ih =>
    have hl : n < L.length := by omega
    cases hk : kp L n with
    | false => rw [cpt_skip hk]; exact ih (by omega)
    | true =>
      rw [cpt_keep hl hk, List.pairwise_append]
      refine ⟨ih (by omega), List.pairwise_singleton _ _, fun y hy z hz => ?_⟩
      rw [List.mem_singleton.1 hz]
      cases n with
      | zero => simp [cpt] at hy
      | succ m =>
        have e := kp_succ L m hl
        rw [hk] at e
        have hne : L[m] ≠ L[m + 1] := fun h => by rw [h] at e; simp at e
        have h1 : lN L[m] L[m + 1] := lN_of (List.pairwise_iff_getElem.1 hp m (m + 1) (by omega) hl (by omega)) hne
        obtain ⟨j, hj, e2⟩ := List.mem_take_iff_getElem.1 ((cpt_mem L (m + 1) (by omega) y).1 hy)
        by_cases hjm : j = m
        · subst hjm; rw [← e2]; exact h1
        · have h2 := List.pairwise_iff_getElem.1 hp j m (by omega) (by omega) (by omega)
          rw [← e2]
          by_cases h3 : L[j] = L[m]
          · rw [h3]; exact h1
          · exact lN_trans (lN_of h2 h3) h1
theorem kset_strict (L : List Nm) : (kset L).Pairwise lN := cpt_strict _ (ksort_pair L) _ (Nat.le_refl _)
theorem kset_mem (L : List Nm) (x : Nm) : x ∈ kset L ↔ x ∈ L := by
  unfold kset
  rw [cpt_mem _ _ (Nat.le_refl _), List.take_length, ksort_mem]
/-- Strictly rising lists of the same are one. -/
theorem strict_uniq : ∀ (A B : List Nm), A.Pairwise lN → B.Pairwise lN → (∀ x, x ∈ A ↔ x ∈ B) → A = B
  | [], [], _, _, _ => rfl
  | [], b :: m, _, _, h => absurd ((h b).2 (List.mem_cons_self ..)) (by simp)
  | a :: l, [], _, _, h => absurd ((h a).1 (List.mem_cons_self ..)) (by simp)
  | a :: l, b :: m, hA, hB, h => by
    rw [List.pairwise_cons] at hA hB
    have hab : a = b := by
      rcases List.mem_cons.1 ((h a).1 (List.mem_cons_self ..)) with e | e
      · exact e
      · rcases List.mem_cons.1 ((h b).2 (List.mem_cons_self ..)) with e2 | e2
        · exact e2.symm
        · exact absurd (lN_trans (hB.1 a e) (hA.1 b e2)) (lN_irr b)
    subst hab
    rw [strict_uniq l m hA.2 hB.2 (fun x => by
      constructor
      · intro hx
        rcases List.mem_cons.1 ((h x).1 (List.mem_cons_of_mem _ hx)) with e | e
        · subst e; exact absurd (hA.1 x hx) (lN_irr x)
        · exact e
      · intro hx
        rcases List.mem_cons.1 ((h x).2 (List.mem_cons_of_mem _ hx)) with e | e
        · subst e; exact absurd (hB.1 x hx) (lN_irr x)
        · exact e)]
/-- Names that rise are their own key's. -/
theorem kset_self {L : List Nm} (h : L.Pairwise lN) : kset L = L := strict_uniq _ _ (kset_strict L) h (kset_mem L)
end Go.Proofs.YtemnebbdaljfbaaGreatDoor

namespace Go.Proofs.YtemnebbdaljfbaaGreatDoor
open Go.RowKit Go.Sort

/-- The same of names. -/
def insN (s : Nm) : List Nm → List Nm
  | [] => [s]
  | t :: r => if ltOf cfN s t then s :: t :: r else if ltOf cfN t s then t :: insN s r else t :: r
theorem insN_map (s : Nm) (l : List Nm) : insB s.1 (l.map (·.1)) = (insN s l).map (·.1) := by
  induction l with
  | nil => rfl
  | cons t r ih =>
    rw [List.map_cons, insB, insN, cfN_lt, cfN_lt]
    by_cases h1 : Lib.compareBytes s.1 t.1 < 0
    · simp [h1]
    · by_cases h2 : Lib.compareBytes t.1 s.1 < 0
      · rw [if_neg h1, if_pos h2, if_neg (show ¬ decide (Lib.compareBytes s.1 t.1 < 0) = true by simpa using h1), if_pos (decide_eq_true h2), List.map_cons, ih]
      · simp [h1, h2]
theorem insN_mem (s : Nm) (l : List Nm) (x : Nm) : x ∈ insN s l ↔ x = s ∨ x ∈ l := by
  induction l with
  | nil => simp [insN]
  | cons t r ih =>
    rw [insN]
    cases h1 : ltOf cfN s t with
    | true => simp
    | false =>
      cases h2 : ltOf cfN t s with
      | true =>
        simp only [Bool.false_eq_true, if_false, if_true, List.mem_cons, ih]
        constructor
        · rintro (h | h | h) <;> simp [h]
        · rintro (h | h | h) <;> simp [h]
      | false =>
        have e := cfN_total s t h1 h2
        simp only [Bool.false_eq_true, if_false, List.mem_cons, e]
        constructor
        · intro h; exact .inr h
        · rintro (h | h)
          · exact .inl h
          · exact h
theorem insN_strict (s : Nm) (l : List Nm) (h : l.Pairwise lN) : (insN s l).Pairwise lN := by
  induction l with
  | nil => exact List.pairwise_singleton _ _
  | cons t r ih =>
    have hh := List.pairwise_cons.1 h
    rw [insN]
    cases h1 : ltOf cfN s t with
    | true =>
      rw [if_pos rfl]
      refine List.pairwise_cons.2 ⟨fun x hx => ?_, h⟩
      rcases List.mem_cons.1 hx with e | e
      · rw [e]; exact h1
      · exact lN_trans h1 (hh.1 x e)
    | false =>
      rw [if_neg (by decide)]
      cases h2 : ltOf cfN t s with
      | false => rw [if_neg (by decide)]; exact h
      | true =>
        rw [if_pos rfl]
        refine List.pairwise_cons.2 ⟨fun x hx => ?_, ih hh.2⟩
        rcases (insN_mem s r x).1 hx with e | e
        · rw [e]; exact h2
        · exact hh.1 x e
/-- A key's names are the reference's sorted texts. -/
theorem rsort_kset (L : List Nm) : rsort (L.map (·.1)) = (kset L).map (·.1) := by
  have h : ∃ M : List Nm, rsort (L.map (·.1)) = M.map (·.1) ∧ M.Pairwise lN ∧ ∀ x, x ∈ M ↔ x ∈ L := by
    have hg : ∀ (L : List Nm) (A : List Nm), A.Pairwise lN → ∃ M : List Nm, (L.map (·.1)).foldl (fun out s => insB s out) (A.map (·.1)) = M.map (·.1) ∧ M.Pairwise lN ∧ ∀ x, x ∈ M ↔ x ∈ A ∨ x ∈ L := by
      intro L
      induction L with
      | nil => intro A hA; exact ⟨A, rfl, hA, fun x => by simp⟩
      | cons s l ih =>
        intro A hA
        obtain ⟨M, h1, h2, h3⟩ := ih (insN s A) (insN_strict s A hA)
        refine ⟨M, ?_, h2, fun x => ?_⟩
        · rw [List.map_cons, List.foldl_cons, insN_map]; exact h1
        · rw [h3, insN_mem, List.mem_cons]
          constructor
          · rintro ((h | h) | h) <;> simp [h]
          · rintro (h | h | h) <;> simp [h]
    obtain ⟨M, h1, h2, h3⟩ := hg L [] List.Pairwise.nil
    exact ⟨M, h1, h2, fun x => by rw [h3]; simp⟩
  obtain ⟨M, h1, h2, h3⟩ := h
  rw [h1, strict_uniq M (kset L) h2 (kset_strict L) (fun x => by rw [h3, kset_mem])]
/-- Rising, as the program looks. -/
theorem rs_pair (L : List Nm) : rs (L.map (·.1)) (L.length - 1) = true ↔ L.Pairwise lN := by
  unfold rs
  rw [List.all_eq_true]
  constructor
  · intro h
    have hs : ∀ j (hj : j + 1 < L.length), lN L[j] L[j + 1] := fun j hj => by
      have := h j (List.mem_range.2 (by omega))
      have g1 : (L.map (·.1)).getD j [] = (L[j]).1 := by simp [List.getD, show j < L.length by omega]
      have g2 : (L.map (·.1)).getD (j + 1) [] = (L[j + 1]).1 := by simp [List.getD, hj]
      rw [g1, g2] at this
      exact this
    rw [List.pairwise_iff_getElem]
    intro i j hi hj hij
    obtain ⟨m, rfl⟩ : ∃ m, j = i + 1 + m := ⟨j - (i + 1), by omega⟩
    induction m with
    | zero => exact hs i hj
    | succ m ih => exact lN_trans (ih (by omega) (by omega)) (hs (i + 1 + m) hj)
  · intro h i hi
    have hi2 := List.mem_range.1 hi
    have g1 : (L.map (·.1)).getD i [] = (L[i]'(by omega)).1 := by simp [List.getD, show i < L.length by omega]
    have g2 : (L.map (·.1)).getD (i + 1) [] = (L[i + 1]'(by omega)).1 := by simp [List.getD, show i + 1 < L.length by omega]
    rw [g1, g2]
    exact List.pairwise_iff_getElem.1 h i (i + 1) (by omega) (by omega) (by omega)
end Go.Proofs.YtemnebbdaljfbaaGreatDoor

namespace Go.Proofs.YtemnebbdaljfbaaGreatDoor
open Go.RowKit

/-- x & (2^k - 1). -/
theorem and_low (x : Int) (k : Nat) (hk : k < 63) : ∃ m : Nat, bits .and .i64 x ((2 ^ k - 1 : Nat) : Int) = (m : Int) ∧ m < 2 ^ k ∧ (m : Int) = x % (2 ^ k : Nat) := by
  have hp : (2 : Nat) ^ k ≤ 2 ^ 62 := Nat.pow_le_pow_right (by decide) (by omega)
  have h1 : 0 < (2 : Nat) ^ k := Nat.two_pow_pos k
  have hb : (BitVec.ofInt 64 ((2 ^ k - 1 : Nat) : Int)).toNat = 2 ^ k - 1 := by
    rw [BitVec.toNat_ofInt]
    omega
  have ha : (BitVec.ofInt 64 x).toNat = (x % (2 ^ 64 : Nat)).toNat := by rw [BitVec.toNat_ofInt]
  have e : ((BitVec.ofInt 64 x) &&& (BitVec.ofInt 64 ((2 ^ k - 1 : Nat) : Int))).toNat = (x % (2 ^ 64 : Nat)).toNat % 2 ^ k := by
    rw [BitVec.toNat_and, hb, ha, Nat.and_two_pow_sub_one_eq_mod]
  have hlt : (x % (2 ^ 64 : Nat)).toNat % 2 ^ k < 2 ^ k := Nat.mod_lt _ h1
  refine ⟨(x % (2 ^ 64 : Nat)).toNat % 2 ^ k, ?_, hlt, ?_⟩
  · unfold bits
    show IntKind.i64.wrap (((BitVec.ofInt 64 x) &&& (BitVec.ofInt 64 ((2 ^ k - 1 : Nat) : Int))).toNat : Int) = _
    rw [e, IntKind.wrap_i64]
    have : (2 : Nat) ^ 62 = 4611686018427387904 := by decide
    omega
  · have h2 : 0 ≤ x % (2 ^ 64 : Nat) := Int.emod_nonneg _ (by decide)
    have hd : ((2 ^ k : Nat) : Int) ∣ ((2 ^ 64 : Nat) : Int) := by
      refine Int.natCast_dvd_natCast.2 (Nat.pow_dvd_pow 2 (by omega))
    rw [Int.natCast_emod, Int.toNat_of_nonneg h2, Int.emod_emod_of_dvd _ hd]
theorem and63 (x : Int) : ∃ y : Nat, bits .and .i64 x 63 = (y : Int) ∧ y ≤ 63 := by
  obtain ⟨y, h1, h2, _⟩ := and_low x 6 (by decide)
  exact ⟨y, h1, Nat.le_of_lt_succ h2⟩
theorem and7 (x : Int) : ∃ y : Nat, bits .and .i64 x 7 = (y : Int) ∧ y ≤ 7 := by
  obtain ⟨y, h1, h2, _⟩ := and_low x 3 (by decide)
  exact ⟨y, h1, Nat.le_of_lt_succ h2⟩
theorem and16 (x : Int) : ∃ y : Nat, bits .and .i64 x 65535 = (y : Int) ∧ y ≤ 65535 := by
  obtain ⟨y, h1, h2, _⟩ := and_low x 16 (by decide)
  rw [show ((2 ^ 16 - 1 : Nat) : Int) = 65535 by decide] at h1
  rw [show (2 : Nat) ^ 16 = 65536 by decide] at h2
  exact ⟨y, h1, by omega⟩
/-- A header that may be. -/
structure GoodR (h : Hd (List UInt8)) : Prop where
  ht : 1 ≤ h.ht ∧ h.ht ≤ 1073741824
  mi : 0 ≤ h.mi ∧ h.mi ≤ 63
  wi : 1 ≤ h.wi ∧ h.wi ≤ 8
  sa : 0 ≤ h.sa ∧ h.sa ≤ 65535
  pw : 2 ≤ h.pw ∧ h.pw ≤ 4611686018427387904
  tk : 1 ≤ h.tk.length ∧ h.tk.length ≤ 8
  ps : 1 ≤ h.ps.length ∧ h.ps.length ≤ 5
  nm : ∀ s ∈ h.ps, s.length = 32
  up : h.ps.Pairwise fun s t => Lib.compareBytes s t < 0
/-- The names that Few leaves, sorted, five at most. -/
def rps (ps : List (List UInt8)) : List (List UInt8) := (rsort ((ps.take 7).map idL)).take 5
theorem rps_nm (ps : List (List UInt8)) : ∃ M : List Nm, rps ps = M.map (·.1) ∧ M.Pairwise lN := by
  have e : (ps.take 7).map idL = ((ps.take 7).map nmOf).map (·.1) := by rw [List.map_map]; rfl
  refine ⟨(kset ((ps.take 7).map nmOf)).take 5, ?_, (kset_strict _).sublist (List.take_sublist ..)⟩
  unfold rps
  rw [e, rsort_kset]
  exact (List.map_take ..).symm
theorem rps_len (ps : List (List UInt8)) : (rps ps).length ≤ 5 := by unfold rps; rw [List.length_take]; omega
theorem rps_good (ps : List (List UInt8)) : (∀ s ∈ rps ps, s.length = 32) ∧ (rps ps).Pairwise fun s t => Lib.compareBytes s t < 0 := by
  obtain ⟨M, e, hM⟩ := rps_nm ps
  rw [e]
  refine ⟨fun s hs => ?_, ?_⟩
  · obtain ⟨x, _, rfl⟩ := List.mem_map.1 hs; exact x.2
  · rw [List.pairwise_map]
    exact hM.imp (fun {a b} h => by unfold lN at h; rw [cfN_lt, decide_eq_true_eq] at h; exact h)
end Go.Proofs.YtemnebbdaljfbaaGreatDoor

namespace Go.Proofs.YtemnebbdaljfbaaGreatDoor
open Go.RowKit

/-- A slice lies in a row of texts. -/
def TyS (w : World) (q : Option Addr) : Prop := ∀ a, q = some a → ∃ cur : Array Value, w.heap[a.block]? = some (.cells cur 9 (0, 0))
theorem TyS.kept {S : Nat → Prop} {w w' : World} {q : Option Addr} (h : TyS w q) (hm : Mod S w w') (hp : ∀ a, q = some a → ¬ S a.block) : TyS w' q := fun a e => by
  obtain ⟨cur, hc⟩ := h a e
  exact ⟨cur, (hm.block _ (Array.getElem?_eq_some_iff.1 hc).1 (hp a e)).trans hc⟩
theorem TyS.old {w w' : World} {q : Option Addr} (h : TyS w q) (hb : Below w.heap.size w w') : TyS w' q := fun a e => by
  obtain ⟨cur, hc⟩ := h a e
  exact ⟨cur, (hb.block _ (Array.getElem?_eq_some_iff.1 hc).1).trans hc⟩
theorem Rw.ty {α : Type} {E : Enc α} {w : World} {q : Option Addr} {c : Nat} {L : List α} (h : Rw E 9 w q c L) : TyS w q := fun a e => by
  rcases h.shape with ⟨e1, _⟩ | ⟨g, e1, _, _, _, cur, hh, _⟩
  · rw [e1] at e; cases e
  · rw [e1] at e; cases e; exact ⟨cur, hh⟩
/-- What Right answers. -/
def RightP (w : World) (r : Ending) (w' : World) : Prop := ∃ h q c, r = .returned (.agg (hcells h q c)) ∧ GoodR h ∧ Rd encS w' q h.ps ∧ (q = none ∨ ∃ b off, q = some ⟨b, off, none⟩) ∧ TyS w' q ∧ Below w.heap.size w w'
theorem HvSt.gen {W w1 : World} {r g : Nat} {T : TypeId} {C : Array Value} (h : HvSt W r g T C w1) {P : Program} {s : Code} {Q : Exit → Act → World → Prop} {a : Act} (k : ∀ w', HvSt W r g T C w' → s.wp P Q a w') : s.wp P Q a w1 := k w1 h
theorem extract_headT (s : List UInt8) (n : Nat) : (⟨s.toArray⟩ : ByteArray).extract 0 n = ⟨(s.take n).toArray⟩ := by
  apply ByteArray.ext
  simp [ByteArray.extract, ByteArray.copySlice]
/-- Right's boxes: the header that is made, its parents' names. -/
structure RtS (w : World) (C : Array Value) (q : Option Addr) (P : List (List UInt8)) (W : World) : Prop where
  st : HvSt w (w.heap.size + 1) w.heap.size 29 C W
  rd : Rd encS W q P
  f : ∀ a, q = some a → w.heap.size + 1 < a.block
  ad : q = none ∨ ∃ b off, q = some ⟨b, off, none⟩
  ty : TyS W q
theorem Rd.kept {α : Type} {E : Enc α} {S : Nat → Prop} {w w' : World} {p : Option Addr} {L : List α} (h : Rd E w p L) (hm : Mod S w w') (hp : ∀ a, p = some a → ¬ S a.block) : Rd E w' p L := by
  intro j hj
  obtain ⟨bs, off, e, hb, hc⟩ := h j hj
  exact ⟨bs, off, e, Nat.lt_of_lt_of_le hb hm.size, fun i u hu => (World.cell?_of_block (hm.block bs hb (hp _ e))).trans (hc i u hu)⟩
theorem RtS.put {w W : World} {C : Array Value} {q : Option Addr} {P : List (List UInt8)} (h : RtS w C q P W) (k : Nat) (v : Value) : RtS w (C.setIfInBounds k v) q P (W.setCell ⟨w.heap.size, k, none⟩ v) :=
  ⟨h.st.put k v, h.rd.kept ((Mod.refl (· = w.heap.size) W).setCell (p := ⟨w.heap.size, k, none⟩) (fun _ => rfl) v) (fun a e q => by have := h.f a e; omega), h.f, h.ad, h.ty.kept ((Mod.refl (· = w.heap.size) W).setCell (p := ⟨w.heap.size, k, none⟩) (fun _ => rfl) v) (fun a e q => by have := h.f a e; omega)⟩
theorem RtS.grow {w W W' : World} {C : Array Value} {q : Option Addr} {P : List (List UInt8)} (h : RtS w C q P W) (hb : Below W.heap.size W W') : RtS w C q P W' := ⟨h.st.grow hb, h.rd.old hb, h.f, h.ad, h.ty.old hb⟩
theorem RtS.row {w W : World} {C : Array Value} {q : Option Addr} {P : List (List UInt8)} (h : RtS w C q P W) (D : Array Value) : RtS w D q P (W.setRow w.heap.size D) := by
  have st := h.st
  obtain ⟨Z, hz, hZ⟩ := st.res
  have h1 := st.lo
  have h2 := st.lo2
  have h3 := st.ne
  refine ⟨⟨setRow_heap W w.heap.size C D 29 (0, 0) st.box, st.m.trans (((Mod.refl (fun _ => False) W).setRow (g := w.heap.size) D).to_below st.m.size (by rintro i hi (h | h) <;> first | exact h | omega)), h1, h2, h3, Z, hz, (setRow_other W w.heap.size (w.heap.size + 1) D h3).trans hZ⟩, h.rd.kept ((Mod.refl (fun _ => False) W).setRow (g := w.heap.size) D) (fun a e h' => by have := h.f a e; rcases h' with h' | h'; exact h'; omega), h.f, h.ad, h.ty.kept ((Mod.refl (fun _ => False) W).setRow (g := w.heap.size) D) (fun a e h' => by have := h.f a e; rcases h' with h' | h'; exact h'; omega)⟩
def hdV (ht mi : Int) (tk : List UInt8) (wi : Int) (pw : Nat) (q : Option Addr) (n c : Nat) (sa : Int) : Array Value := #[.int .i64 ht, .int .i64 mi, .string ⟨tk.toArray⟩, .int .i64 wi, .int .u64 (pw : Int), .slice q n c, .int .i64 sa]
theorem hdV_one {ht mi : Int} {tk : List UInt8} {wi : Int} {pw : Nat} {q : Option Addr} {n c : Nat} {sa : Int} : ∀ v ∈ (hdV ht mi tk wi pw q n c sa).toList, v.oneCell' = true := by
  intro v hv
  simp only [hdV, List.mem_cons, List.not_mem_nil, or_false] at hv
  rcases hv with rfl | rfl | rfl | rfl | rfl | rfl | rfl <;> rfl
theorem exec_load_rh {o : Oper} {a : Act} {w : World} (x : Operand) (ho : o.op = .load 29 x) (b : Nat) (hx : a.eval x = .pointer (some ⟨b, 0, none⟩)) (C : Array Value) (hi : (Tryz.prog.info? 29).map (·.size) = some C.size) (hb : w.heap[b]? = some (.cells C 29 (0, 0))) : (execOp a.eval o).run Tryz.prog w = .ok (.value (.agg C)) w := by
  have hl := run_loadVar_row (P := Tryz.prog) w b 29 29 C (0, 0) _ hb Tryz.underlying29 rfl hi
  unfold execOp
  simp only [ho, hx, Instr.loadAt, Instr.sureAddr, Sem.run_bind, Sem.run_pure, Result.andThen_ok, hl]
end Go.Proofs.YtemnebbdaljfbaaGreatDoor

namespace Go.Proofs.YtemnebbdaljfbaaGreatDoor
open Go.RowKit

/-- A header of the reference's: where its parents' names lie. -/
structure RH where
  h : Hd (List UInt8)
  q : Option Addr
  c : Nat
instance : Inhabited RH := ⟨⟨⟨0, 0, [], 0, 0, [], 0⟩, none, 0⟩⟩
def RH.cells (x : RH) : List Value := (hcells x.h x.q x.c).toList
theorem RH.len (x : RH) : x.cells.length = 7 := rfl
theorem RH.one (x : RH) : ∀ v ∈ x.cells, v.oneCell' = true := by
  intro v hv
  simp only [RH.cells, hcells, List.mem_cons, List.not_mem_nil, or_false] at hv
  rcases hv with rfl | rfl | rfl | rfl | rfl | rfl | rfl <;> rfl
def encR : Enc RH := ⟨RH.cells, 7, RH.len, RH.one, by decide⟩
theorem encR_one (x : RH) : encR.all [x] = x.cells := by simp [Enc.all, encR]
/-- A good header in memory. -/
structure okR (w : World) (x : RH) : Prop where
  good : GoodR x.h
  rd : Rd encS w x.q x.h.ps
  ad : x.q = none ∨ ∃ b off, x.q = some ⟨b, off, none⟩
  ty : TyS w x.q
theorem okR.old {w w' : World} {x : RH} (h : okR w x) (hb : Below w.heap.size w w') : okR w' x := ⟨h.good, h.rd.old hb, h.ad, h.ty.old hb⟩
/-- What turns is no row of texts. -/
theorem okR.kept {S : Nat → Prop} {w w' : World} {x : RH} (h : okR w x) (hm : Mod S w w') (hS : ∀ i, S i → ∀ cur, w.heap[i]? ≠ some (.cells cur 9 (0, 0))) : okR w' x := by
  have hp : ∀ a, x.q = some a → ¬ S a.block := fun a e hs => by
    obtain ⟨cur, hc⟩ := h.ty a e
    exact hS _ hs cur hc
  exact ⟨h.good, h.rd.kept hm hp, h.ad, h.ty.kept hm hp⟩
theorem rw_notS {w : World} {q : Option Addr} {c : Nat} {D : List RH} (h : Rw encR 29 w q c D) : ∀ i, (∃ a, q = some a ∧ i = a.block) → ∀ cur, w.heap[i]? ≠ some (.cells cur 9 (0, 0)) := by
  rintro i ⟨a, e, rfl⟩ cur hc
  rcases h.shape with ⟨e1, _⟩ | ⟨g, e1, _, _, _, cur2, hh, _⟩
  · rw [e1] at e; cases e
  · rw [e1] at e; cases e
    simp only at hc
    rw [hh] at hc
    simp only [Option.some.injEq, Obj.cells.injEq] at hc
    exact absurd hc.2.1 (by decide)
theorem exec_load_rhm {o : Oper} {a : Act} {w : World} (x : Operand) (ho : o.op = .load 29 x) (b off : Nat) (hx : a.eval x = .pointer (some ⟨b, off, none⟩)) (y : RH)
    (hc : ∀ i u, y.cells[i]? = some u → w.cell? ⟨b, off + i, none⟩ = some u) : (execOp a.eval o).run Tryz.prog w = .ok (.value (.agg y.cells.toArray)) w := by
  have hl := run_loadVar_mid (P := Tryz.prog) w b off 29 y.cells _ (fun j v hv => hc j v hv) Tryz.underlying29 rfl (by rw [y.len]; kernel_rfl)
  unfold execOp
  simp only [ho, hx, Instr.loadAt, Instr.sureAddr, Sem.run_bind, Sem.run_pure, Result.andThen_ok, hl]
set_option maxRecDepth 20000 in
theorem info_rh : ∃ z : Value, (Tryz.prog.info? 29).map (fun i => (i.zero, i.size, i.bytes)) = some (some z, 7, (Tryz.prog.info? 29).elim 0 (·.bytes)) ∧ z.cells.size = 7 ∧ (Tryz.prog.info? 29).elim 0 (·.bytes) ≤ 1024 := ⟨_, rfl, rfl, by decide +kernel⟩
set_option maxRecDepth 20000 in
theorem build_rhs {o : Oper} {a : Act} {w : World} (x : Operand) (ho : o.op = .buildSlice 34 1 #[(0, x)]) (b : RH) (hx : a.eval x = .agg b.cells.toArray) :
    (execOp a.eval o).run Tryz.prog w = .ok (.value (.slice (some ⟨w.heap.size, 0, none⟩) 1 1)) (w.alloc (.cells b.cells.toArray 29)) := by
  obtain ⟨i, z, hi, hz, h1, hzs⟩ : ∃ i z, Tryz.prog.info? 29 = some i ∧ i.zero = some z ∧ i.size = 7 ∧ z.cells.size = 7 := ⟨_, _, rfl, rfl, rfl, rfl⟩
  have hf := Great.fill_whole (s := 7) (by decide) [.agg b.cells.toArray] ((Array.range (1 * 7)).map (z.cells[· % z.cells.size]!)) (by
    intro v hv; rw [List.mem_singleton.1 hv]; show b.cells.toArray.size = 7; rw [List.size_toArray, b.len]) (by simp)
  have hb := run_buildSlice (P := Tryz.prog) w 34 29 1 #[(0, .agg b.cells.toArray)] b.cells.toArray i z Tryz.underlying34 hi hz (by rw [h1]; decide) (by rw [h1]; decide) (by
    rw [h1]
    refine hf.trans ?_
    simp [Value.cells])
  unfold execOp
  simp only [ho, List.map_toArray, List.map_cons, List.map_nil, hx, Sem.run_bind, hb, Result.andThen_ok, Sem.run_pure]
/-- What the law is given. -/
structure argR (w : World) (x : RH) : Prop where
  rd : Rd encS w x.q x.h.ps
  k : (x.h.tk.length : Int) ≤ 9223372036854775807
theorem argR.old {w w' : World} {x : RH} (h : argR w x) (hb : Below w.heap.size w w') : argR w' x := ⟨h.rd.old hb, h.k⟩
/-- Good headers gathered. -/
structure BsR (W wr : World) (k : Nat) (q : Option Addr) (c : Nat) (D : List RH) : Prop where
  len : D.length = k
  rw : Rw encR 29 wr q c D
  ok : ∀ x ∈ D, okR wr x
  b : Below W.heap.size W wr
  f : ∀ a, q = some a → W.heap.size ≤ a.block
theorem BsR.old {W wr w' : World} {k : Nat} {q : Option Addr} {c : Nat} {D : List RH} (h : BsR W wr k q c D) (hb : Below wr.heap.size wr w') : BsR W w' k q c D :=
  ⟨h.len, h.rw.old hb, fun x hx => (h.ok x hx).old hb, h.b.trans (hb.mono h.b.size), h.f⟩
theorem BsR.push {W wr w' : World} {k : Nat} {q q' : Option Addr} {c c' : Nat} {D : List RH} {x : RH} (h : BsR W wr k q c D) (hx : okR wr x) (hP : PushR encR 29 wr q (D ++ [x]) q' c' w') : BsR W w' (k + 1) q' c' (D ++ [x]) := by
  obtain ⟨hR, hM, hor⟩ := hP
  have hns := rw_notS h.rw
  refine ⟨by rw [List.length_append, h.len]; rfl, hR, fun y hy => ?_, h.b.trans (hM.to_below h.b.size (by rintro i hi ⟨a, e, rfl⟩; have := h.f a e; omega)), fun a e => (hor a e).elim (h.f a) (fun q => Nat.le_trans h.b.size q)⟩
  rcases List.mem_append.1 hy with hy | hy
  · exact (h.ok y hy).kept hM hns
  · rw [List.mem_singleton.1 hy]; exact hx.kept hM hns
/-- Another height, power, parents. -/
theorem GoodR.as {h h0 : Hd (List UInt8)} (g : GoodR h) (g0 : GoodR h0) : GoodR ⟨h0.ht, h.mi, h.tk, h.wi, h0.pw, h0.ps, h.sa⟩ := ⟨g0.ht, g.mi, g.wi, g.sa, g0.pw, g.tk, g0.ps, g0.nm, g0.up⟩
end Go.Proofs.YtemnebbdaljfbaaGreatDoor

namespace Go.Proofs.YtemnebbdaljfbaaGreatDoor
open Go.RowKit

theorem bits_and7 (sa : Int) : ∃ m : Nat, bits .and .i64 sa 7 = (m : Int) := by
  obtain ⟨m, h, _⟩ := and7 sa
  exact ⟨m, h⟩
/-- The new header's cells behind some of the stores. -/
def vgC (x y : RH) (j : Nat) : Array Value :=
  #[.int .i64 (if j = 0 then x.h.ht else y.h.ht), .int .i64 x.h.mi, .string ⟨x.h.tk.toArray⟩, .int .i64 x.h.wi, .int .u64 ((if j < 2 then x.h.pw else y.h.pw : Nat) : Int), (if j < 3 then .slice x.q x.h.ps.length x.c else .slice y.q y.h.ps.length y.c), .int .i64 x.h.sa]
/-- What stands behind some of the stores. -/
def VG (W : World) (g : Nat) (x y : RH) (j : Nat) (_ : Value) (w1 : World) : Prop := Mod (fun i => i = g) W w1 ∧ w1.heap[g]? = some (.cells (vgC x y j) 29 (0, 0))
theorem VG.put {W w1 : World} {g : Nat} {x y : RH} {j i : Nat} {u v : Value} (h : VG W g x y j u w1) (v' : Value) (e : (vgC x y j).setIfInBounds i v = vgC x y (j + 1)) : VG W g x y (j + 1) v' (w1.setCell ⟨g, i, none⟩ v) :=
  ⟨h.1.trans ((Mod.refl (· = g) w1).setCell (p := ⟨g, i, none⟩) (fun _ => rfl) v) (fun _ _ h => h), by rw [← e]; exact heap_setCell_same w1 g i _ 29 v h.2⟩
theorem VG.old {W w1 : World} {g : Nat} {x y : RH} {j : Nat} {u : Value} (h : VG W g x y j u w1) {b o : Nat} {v : Value} (hb : b < W.heap.size) (hn : ¬ b = g) (hc : W.cell? ⟨b, o, none⟩ = some v) : w1.cell? ⟨b, o, none⟩ = some v := (World.cell?_of_block (h.1.block b hb hn)).trans hc
end Go.Proofs.YtemnebbdaljfbaaGreatDoor

namespace Go.Proofs.YtemnebbdaljfbaaGreatDoor
open Go.RowKit Go.Sort

/-- A block's name and header, of the reference's header. -/
def blkI (x : RH) : BI := (nmH (ownH x.h), ownH x.h)
theorem GoodR.hok {h : Hd (List UInt8)} (g : GoodR h) : HOkay (ownH h) := by
  refine ⟨g.ht, ⟨g.mi.1, ?_⟩, g.tk, ⟨g.wi.1, ?_⟩, g.pw, ?_, ⟨g.sa.1, ?_⟩⟩
  · have := g.mi.2; show h.mi < 64; omega
  · have := g.wi.2; show h.wi ≤ 15; omega
  · show 1 ≤ (h.ps.map nmOf).length ∧ (h.ps.map nmOf).length ≤ 5
    rw [List.length_map]; exact g.ps
  · have := g.sa.2; show h.sa ≤ 1073741824; omega
theorem GoodR.hk {h : Hd (List UInt8)} (g : GoodR h) : HOk (ownH h) := HOk.of g.hok
/-- Blocks gathered. -/
structure BkR (W wr : World) (D : List RH) (k : Nat) (q : Option Addr) (c : Nat) (K : List Blk) : Prop where
  len : K.length = k
  rw : Rw encK 72 wr q c K
  is : K.map Blk.is = (D.take k).map blkI
  ok : ∀ b ∈ K, okW W wr b
  b : Below W.heap.size W wr
  f : ∀ a, q = some a → W.heap.size ≤ a.block
theorem BkR.old {W wr w' : World} {D : List RH} {k : Nat} {q : Option Addr} {c : Nat} {K : List Blk} (h : BkR W wr D k q c K) (hb : Below wr.heap.size wr w') : BkR W w' D k q c K :=
  ⟨h.len, h.rw.old hb, h.is, fun x hx => ⟨(h.ok x hx).rw.old hb, (h.ok x hx).f, (h.ok x hx).n, (h.ok x hx).k⟩, h.b.trans (hb.mono h.b.size), h.f⟩
theorem BkR.push {W wr w' : World} {D : List RH} {k : Nat} {q q' : Option Addr} {c c' : Nat} {K : List Blk} {b : Blk} (h : BkR W wr D k q c K) (hb : okW W wr b) (hn : (D.take (k + 1)).map blkI = (D.take k).map blkI ++ [b.is]) (hP : PushR encK 72 wr q (K ++ [b]) q' c' w') : BkR W w' D (k + 1) q' c' (K ++ [b]) := by
  obtain ⟨hR, hM, hor⟩ := hP
  have hT : 70 ≠ 72 := by decide
  have one : ∀ x, okW W wr x → okW W w' x := fun x hx => ⟨hx.rw.kept hM (by rintro a e ⟨a', e', q⟩; exact Rw.ne hx.rw h.rw hT a a' e e' q), hx.f, hx.n, hx.k⟩
  refine ⟨by rw [List.length_append, h.len]; rfl, hR, by rw [List.map_append, h.is, hn]; rfl, fun y hy => ?_, h.b.trans (hM.to_below h.b.size (by rintro i hi ⟨a, e, rfl⟩; have := h.f a e; omega)), fun a e => (hor a e).elim (h.f a) (fun q => Nat.le_trans h.b.size q)⟩
  rcases List.mem_append.1 hy with hy | hy
  · exact one _ (h.ok y hy)
  · rw [List.mem_singleton.1 hy]; exact one _ hb
end Go.Proofs.YtemnebbdaljfbaaGreatDoor

namespace Go.Proofs.YtemnebbdaljfbaaGreatDoor
open Go.RowKit Go.Sort

/-- A tipset's blocks, by their names and headers: the value of its field. -/
def TsV (w : World) (v : Value) (X : List BI) : Prop :=
  ∃ p c L, v = .slice p L.length c ∧ Rd encK w p L ∧ L.map Blk.is = X ∧ (∀ b ∈ L, okK w b) ∧ L.length ≤ 900000
theorem TsV.old {w w' : World} {v : Value} {X : List BI} (h : TsV w v X) (hb : Below w.heap.size w w') : TsV w' v X := by
  obtain ⟨p, c, L, h1, h2, h3, h4, h5⟩ := h
  exact ⟨p, c, L, h1, h2.old hb, h3, fun b hb' => (h4 b hb').old hb, h5⟩
theorem TsV.nil (w : World) : TsV w (.slice none 0 0) [] := ⟨none, 0, [], rfl, Rd.nil _ _, rfl, (fun b h => by cases h), by decide⟩
theorem TsW.v {W w : World} {q : Option Addr} {c : Nat} {D : List Blk} (h : TsW W w q c D) (hl : D.length ≤ 900000) : TsV w (.slice q D.length c) (D.map Blk.is) :=
  ⟨q, c, D, rfl, h.rw.rd, rfl, fun b hb => (h.ok b hb).ok, hl⟩
def keyX (X : List BI) : List UInt8 := kB (kset (X.map (·.1)))
def tickX : List BI → List UInt8
  | [] => []
  | x :: l => (x :: l).foldl (fun s b => leastS s b.2.tk) x.2.tk
def winsX (X : List BI) : Int := X.foldl (fun s b => wrap64 (s + b.2.wi)) 0
def htX : List BI → Int
  | [] => 0
  | x :: _ => x.2.ht
def pwX : List BI → Nat
  | [] => 0
  | x :: _ => x.2.pw
def parX : List BI → List UInt8
  | [] => []
  | x :: _ => kB (kset x.2.ps)
theorem foldl_is {σ : Type} (f : σ → BI → σ) (s : σ) (L : List Blk) : (L.map Blk.is).foldl f s = L.foldl (fun s b => f s b.is) s := by rw [List.foldl_map]
section
variable {w : World} {v : Value} {X : List BI}
theorem TsV.key (h : TsV w v X) : Calls Tryz.prog 50 #[.agg #[v]] w fun r w' => r = .returned (.string ⟨(keyX X).toArray⟩) ∧ Below w.heap.size w w' := by
  obtain ⟨p, c, L, rfl, h2, rfl, h4, h5⟩ := h
  unfold keyX
  rw [is_ids]
  exact tskey_any p c L w h2 h5
theorem TsV.ticket (h : TsV w v X) : Calls Tryz.prog 54 #[.agg #[v]] w fun r w' => r = .returned (.string ⟨(tickX X).toArray⟩) ∧ Below w.heap.size w w' := by
  obtain ⟨p, c, L, rfl, h2, rfl, h4, h5⟩ := h
  cases L with
  | nil => exact tsticket_nil p c w
  | cons b L =>
    have e : tickX ((b :: L).map Blk.is) = tickS b.h.tk (b :: L) := by
      rw [List.map_cons]
      show (b.is :: L.map Blk.is).foldl _ _ = _
      rw [← List.map_cons, foldl_is]; rfl
    rw [e]
    exact tsticket_any p c b L w h2 (by simpa using Nat.le_of_succ_le h5) (fun x hx => (h4 x hx).k)
theorem TsV.wins (h : TsV w v X) : Calls Tryz.prog 52 #[.agg #[v]] w fun r w' => r = .returned (.int .i64 (winsX X)) ∧ Below w.heap.size w w' := by
  obtain ⟨p, c, L, rfl, h2, rfl, h4, h5⟩ := h
  have e : winsX (L.map Blk.is) = winsK L := by unfold winsX; rw [foldl_is]; rfl
  rw [e]
  exact tswins_any p c L w h2 h5
theorem TsV.height (h : TsV w v X) : Calls Tryz.prog 38 #[.agg #[v]] w fun r w' => r = .returned (.int .i64 (htX X)) ∧ Below w.heap.size w w' := by
  obtain ⟨p, c, L, rfl, h2, rfl, h4, h5⟩ := h
  cases L with
  | nil => exact tsheight_nil p c w
  | cons b L => exact tsheight_any p c b L w h2 (by simpa using Nat.le_of_succ_le h5)
theorem TsV.power (h : TsV w v X) : Calls Tryz.prog 58 #[.agg #[v]] w fun r w' => r = .returned (.int .u64 (pwX X : Int)) ∧ Below w.heap.size w w' := by
  obtain ⟨p, c, L, rfl, h2, rfl, h4, h5⟩ := h
  cases L with
  | nil => exact tspower_nil p c w
  | cons b L => exact tspower_any p c b L w h2 (by simpa using Nat.le_of_succ_le h5)
theorem TsV.zero (h : TsV w v X) : Calls Tryz.prog 24 #[.agg #[v]] w fun r w' => r = .returned (.bool (decide (X = []))) ∧ Below w.heap.size w w' := by
  obtain ⟨p, c, L, rfl, h2, rfl, h4, h5⟩ := h
  have e : decide (L.map Blk.is = []) = decide (L.length = 0) := decide_eq_decide.2 (by simp)
  rw [e]
  exact tszero_any p c L.length w (by omega)
theorem TsV.has (h : TsV w v X) (id : Nm) : Calls Tryz.prog 60 #[.agg #[v], .agg (vals id.1).toArray] w fun r w' => r = .returned (.bool (X.any fun b => b.1.1 == id.1)) ∧ Below w.heap.size w w' := by
  obtain ⟨p, c, L, rfl, h2, rfl, h4, h5⟩ := h
  rw [List.any_map]
  exact tshas_any p c L id w h2 h5
theorem TsV.blocks (h : TsV w v X) : Calls Tryz.prog 56 #[.agg #[v]] w fun r w' => ∃ q c K, r = .returned (.slice q X.length c) ∧ K.map Blk.is = X ∧ TsW w w' q c K ∧ Below w.heap.size w w' := by
  obtain ⟨p, c, L, rfl, h2, rfl, h4, h5⟩ := h
  refine (tsblocks_any p c L w h2 h4 (by omega)).mono ?_
  rintro r w' ⟨q, c', rfl, hO⟩
  obtain ⟨D, hDl, hDr, hDi, hDo⟩ := hO.ex
  rw [List.take_of_length_le (Nat.le_refl _)] at hDi
  exact ⟨q, c', D, by rw [List.length_map], hDi, ⟨hDr, hDo, hO.f⟩, hO.b⟩
end
/-- The first tipset's blocks. -/
def genX : List BI := [(nmH ghd, ghd)]
set_option maxRecDepth 20000 in
theorem tsparents_nil (p : Option Addr) (c : Nat) (w : World) :
    Calls Tryz.prog 57 #[.agg #[.slice p 0 c]] w fun r w' => r = .returned (.string ⟨#[]⟩) ∧ Below w.heap.size w w' := by
  have hb1 := alloc1 w (.cells #[.slice p 0 c] 52)
  have HB := Lib.hid hb1
  have HF := Lib.hid (tsfirst_nil p c (w.alloc (.cells #[.slice p 0 c] 52)))
  have HKY := Lib.hid (fun w' => key_any none 0 [] w' (Rd.nil _ _) (.inl rfl) (by decide))
  have HK2 : Hid (∀ w', Calls Tryz.prog 37 #[.slice none 0 0] w' fun r w2 => r = .returned (.string ⟨#[]⟩) ∧ Below w'.heap.size w' w2) := Lib.hid (fun w' => by
    have e0 : kset [] = [] := List.eq_nil_of_length_eq_zero (Nat.le_zero.1 (kset_len []))
    have := HKY.out w'
    rw [e0] at this
    exact this)
  clear hb1 HKY
  go_enter Tryz.func57, Tryz.ntmps57
  go_wp2_with fail
  refine HF.out.mono ?_
  rintro e w2 ⟨rfl, hb2⟩
  have HB2 := Lib.hid (HB.out.trans (hb2.mono HB.out.size))
  clear hb2
  go_wp2_with (first | (refine wpList_field_hd rfl (.tmp 4) rfl zBlk rfl ?_; go_frame) | (refine wpList_field rfl 41 5 (.tmp 5) rfl _ _ rfl (run_fields _ _ _ _ _ _ _ _).2.2.2 ?_; go_frame))
  refine (HK2.out _).mono ?_
  rintro e w3 ⟨rfl, hb3⟩
  have HB3 := Lib.hid (HB2.out.trans (hb3.mono HB2.out.size))
  clear hb3
  go_wp2_with fail
  go_ret
  exact ⟨rfl, HB3.out⟩
theorem TsV.parents {w : World} {v : Value} {X : List BI} (h : TsV w v X) : Calls Tryz.prog 57 #[.agg #[v]] w fun r w' => r = .returned (.string ⟨(parX X).toArray⟩) ∧ Below w.heap.size w w' := by
  obtain ⟨p, c, L, rfl, h2, rfl, h4, h5⟩ := h
  cases L with
  | nil => exact tsparents_nil p c w
  | cons b L => exact tsparents_any p c b L w h2 (by simpa using Nat.le_of_succ_le h5) (h4 b (List.mem_cons_self ..))
end Go.Proofs.YtemnebbdaljfbaaGreatDoor

namespace Go.Proofs.YtemnebbdaljfbaaGreatDoor
open Go.RowKit Go.Sort

/-- A slice of so many. -/
def lenSt (n : Nat) : Stays := ⟨fun v _ => ∃ q c, v = .slice q n c, fun h _ => h⟩
theorem keyX_gen : keyX genX = rootB := by
  have e : kset (genX.map (·.1)) = [nmH ghd] := kset_self (List.pairwise_singleton _ _)
  unfold keyX
  rw [e]
  show (nmH ghd).1 ++ [] = _
  rw [List.append_nil]; rfl
theorem kB_kset_nil : kB (kset []) = [] := by rw [show kset [] = [] from List.eq_nil_of_length_eq_zero (Nat.le_zero.1 (kset_len []))]; rfl
end Go.Proofs.YtemnebbdaljfbaaGreatDoor

namespace Go.Proofs.YtemnebbdaljfbaaGreatDoor
open Go.RowKit Go.Sort

theorem oneI_iff : ∀ X : List BI, oneI X = true ↔ ∀ x ∈ X, ∀ y ∈ X, famI x = famI y
  | [] => by simp [oneI]
  | a :: l => by
    have e : oneI (a :: l) = true ↔ ∀ y ∈ l, famI y = famI a := by
      show (!(l.any fun y => !(famI y == famI a))) = true ↔ _
      rw [Bool.not_eq_true', List.any_eq_false]
      simp
    rw [e]
    constructor
    · intro h x hx y hy
      have h2 : ∀ z ∈ a :: l, famI z = famI a := fun z hz => (List.mem_cons.1 hz).elim (fun e => by rw [e]) (h z)
      rw [h2 x hx, h2 y hy]
    · intro h y hy
      exact h y (List.mem_cons_of_mem _ hy) a (List.mem_cons_self ..)
theorem oneI_perm {X Y : List BI} (h : X.Perm Y) : oneI X = oneI Y := by
  apply Bool.eq_iff_iff.2
  rw [oneI_iff, oneI_iff]
  constructor
  · intro q x hx y hy; exact q x (h.mem_iff.2 hx) y (h.mem_iff.2 hy)
  · intro q x hx y hy; exact q x (h.mem_iff.1 hx) y (h.mem_iff.1 hy)
theorem diffI_perm {X Y : List BI} (h : X.Perm Y) : diffI X = diffI Y := by
  unfold diffI
  rw [decide_eq_decide.2 (h.map (fun x : BI => x.2.mi)).nodup_iff, decide_eq_decide.2 (h.map (fun x : BI => x.1)).nodup_iff]
theorem newE_perm {X Y : List BI} (h : X.Perm Y) : newE X = newE Y := by
  have h1 : X = [] ↔ Y = [] := by
    constructor
    · rintro rfl; exact h.nil_eq.symm
    · rintro rfl; exact h.eq_nil
  unfold newE
  rw [h.length_eq, oneI_perm h, diffI_perm h]
  by_cases hx : X = []
  · rw [if_pos hx, if_pos (h1.1 hx)]
  · rw [if_neg hx, if_neg (fun e => hx (h1.2 e))]
def leI (x y : BI) : Bool := !(ltOf cfN) y.1 x.1
theorem leI_trans (x y z : BI) (h1 : leI x y = true) (h2 : leI y z = true) : leI x z = true := by
  unfold leI at *
  rw [Bool.not_eq_true'] at *
  exact cfN_swo.ntrans z.1 y.1 x.1 h2 h1
theorem leI_total (x y : BI) : (leI x y || leI y x) = true := by
  unfold leI
  cases h : ltOf cfN y.1 x.1 with
  | false => rfl
  | true =>
    cases h2 : ltOf cfN x.1 y.1 with
    | false => rfl
    | true =>
      have := cfN_trans _ _ _ h h2
      rw [cfN_swo.irrefl] at this; cases this
theorem eq_of_idI {X : List BI} (hX : (X.map (·.1)).Nodup) {x y : BI} (hx : x ∈ X) (hy : y ∈ X) (h : x.1 = y.1) : x = y := by
  induction X with
  | nil => cases hx
  | cons a l ih =>
    rw [List.map_cons, List.nodup_cons] at hX
    rcases List.mem_cons.1 hx with e1 | h1
    · rcases List.mem_cons.1 hy with e2 | h2
      · rw [e1, e2]
      · exact absurd (List.mem_map.2 ⟨y, h2, by rw [← h, e1]⟩) hX.1
    · rcases List.mem_cons.1 hy with e2 | h2
      · exact absurd (List.mem_map.2 ⟨x, h1, by rw [h, e2]⟩) hX.1
      · exact ih hX.2 h1 h2
theorem isort_mem {X : List BI} {x : BI} : x ∈ isort X ↔ x ∈ X := (List.mergeSort_perm X _).mem_iff
theorem isort_pair (X : List BI) : (isort X).Pairwise fun x y => leI x y = true := List.pairwise_mergeSort leI_trans leI_total X
theorem isort_perm {X Y : List BI} (h : X.Perm Y) (hX : (X.map (·.1)).Nodup) : isort X = isort Y := by
  refine List.Perm.eq_of_pairwise (le := fun x y => leI x y = true) (fun a b ha hb h1 h2 => ?_) (isort_pair X) (isort_pair Y) ((List.mergeSort_perm X _).trans (h.trans (List.mergeSort_perm Y _).symm))
  unfold leI at h1 h2
  rw [Bool.not_eq_true'] at h1 h2
  exact eq_of_idI hX (isort_mem.1 ha) (h.mem_iff.2 (isort_mem.1 hb)) (cfN_total _ _ h2 h1)
/-- The tipset that New answers: none beside an error. -/
def newX (X : List BI) : List BI := if newE X = 0 then isort X else []
theorem newE_ok {X : List BI} (h : newE X = 0) : X.length ≤ 5 ∧ X ≠ [] ∧ oneI X = true ∧ diffI X = true := by
  unfold newE at h
  split at h
  · cases h
  · split at h
    · cases h
    · split at h
      · rename_i a b c
        exact ⟨by omega, b, (Bool.and_eq_true_iff.1 c).1, (Bool.and_eq_true_iff.1 c).2⟩
      · cases h
theorem diffI_ids {X : List BI} (h : diffI X = true) : (X.map (·.1)).Nodup := of_decide_eq_true (Bool.and_eq_true_iff.1 h).2
theorem newX_perm {X Y : List BI} (h : X.Perm Y) : newX X = newX Y := by
  unfold newX
  rw [newE_perm h]
  by_cases he : newE Y = 0
  · rw [if_pos he, if_pos he]
    exact isort_perm h (diffI_ids (newE_ok ((newE_perm h).trans he)).2.2.2)
  · rw [if_neg he, if_neg he]
/-- New, as a value. -/
theorem NewP.v {w w' : World} {X : List BI} {n : Nat} {r : Ending} (h : NewP w X n r w') (hn : n = X.length) : ∃ v, r = .returned (.tuple #[.agg #[v], .int .i64 (newE X)]) ∧ TsV w' v (newX X) ∧ Below w.heap.size w w' := by
  obtain ⟨hb, ⟨h1, rfl⟩ | ⟨h1, q, c, D, rfl, hT, hD⟩⟩ := h
  · refine ⟨_, rfl, ?_, hb⟩
    unfold newX
    rw [if_neg h1]; exact TsV.nil w'
  · have hl : D.length = n := by
      have := congrArg List.length hD
      rw [List.length_map, isort_len] at this; omega
    have hk := (newE_ok h1).1
    refine ⟨_, by rw [h1], ?_, hb⟩
    unfold newX
    rw [if_pos h1, ← hD]
    have := hT.v (by omega)
    rw [hl] at this; exact this
end Go.Proofs.YtemnebbdaljfbaaGreatDoor

namespace Go.Proofs.YtemnebbdaljfbaaGreatDoor
open Go.RowKit

/-- A family: its text, its blocks' names, where they lie. -/
structure Fam where
  t : List UInt8
  ns : List Nm
  q : Option Addr
  c : Nat
def Fam.v (f : Fam) : Value := .slice f.q f.ns.length f.c
def kE (K : List Blk) : List (Nm × Value) := K.map fun b => (b.id, .agg b.cells.toArray)
def fE (F : List Fam) : List (List UInt8 × Value) := F.map fun f => (f.t, f.v)
theorem kE_len (K : List Blk) : (kE K).length = K.length := List.length_map _
theorem fE_len (F : List Fam) : (fE F).length = F.length := List.length_map _
theorem kE_has (K : List Blk) (n : Nm) : hasE n (kE K) = true ↔ ∃ b ∈ K, b.id = n := by
  rw [hasE_iff]
  unfold kE
  rw [List.map_map]
  constructor
  · intro h; obtain ⟨b, hb, e⟩ := List.mem_map.1 h; exact ⟨b, hb, e⟩
  · rintro ⟨b, hb, e⟩; exact List.mem_map.2 ⟨b, hb, e⟩
theorem fE_has (F : List Fam) (t : List UInt8) : hasE t (fE F) = true ↔ ∃ f ∈ F, f.t = t := by
  rw [hasE_iff]
  unfold fE
  rw [List.map_map]
  constructor
  · intro h; obtain ⟨b, hb, e⟩ := List.mem_map.1 h; exact ⟨b, hb, e⟩
  · rintro ⟨b, hb, e⟩; exact List.mem_map.2 ⟨b, hb, e⟩
theorem fE_wo (F : List Fam) (t : List UInt8) : woE t (fE F) = fE (F.filter fun f => decide (f.t ≠ t)) := by
  unfold woE fE
  rw [List.filter_map]
  congr 1
/-- What a dag holds, and where. -/
structure DD where
  m1 : Nat
  m2 : Nat
  K : List Blk
  F : List Fam
/-- A dag in memory: S is what its calls write, R is what it leans on. -/
structure DG (S R : Nat → Prop) (w : World) (a : Nat) (X : DD) : Prop where
  box : w.heap[a]? = some (.cells #[.map (some X.m1), .map (some X.m2)] 82 (0, 0))
  bm : MapK Tryz.prog 70 keyN w X.m1 (kE X.K)
  fm : MapK Tryz.prog 9 keyS w X.m2 (fE X.F)
  kr : ∀ b ∈ X.K, Rw encN 70 w b.q b.c b.h.ps
  ko : ∀ b ∈ X.K, HOk b.h ∧ b.h.ps.length ≤ 5 ∧ b.h.tk.length ≤ 8
  fr : ∀ f ∈ X.F, Rw encN 70 w f.q f.c f.ns
  s1 : S X.m1
  s2 : S X.m2
  sf : ∀ f ∈ X.F, ∀ x, f.q = some x → S x.block
  ff : X.F.Pairwise fun f g => ∀ x y, f.q = some x → g.q = some y → x.block ≠ y.block
  sk : ∀ b ∈ X.K, ∀ x, b.q = some x → ¬ S x.block
  sa : ¬ S a
  ne : X.m1 ≠ X.m2
  ra : R a
  rk : ∀ b ∈ X.K, ∀ x, b.q = some x → R x.block
  rs : ∀ k, S k → R k
  rl : ∀ k, R k → k < w.heap.size
  fs : ∀ f ∈ X.F, f.ns.Pairwise lN ∧ ∀ n, n ∈ f.ns ↔ ∃ b ∈ X.K, famK b = f.t ∧ b.id = n
  fb : ∀ b ∈ X.K, ∃ f ∈ X.F, f.t = famK b
  fl : ∀ f ∈ X.F, f.ns.length ≤ X.K.length
  fn : X.F.length ≤ X.K.length
  len : X.K.length ≤ 100000
  fk : ∀ f ∈ X.F, ∃ b ∈ X.K, famK b = f.t
section
variable {S R : Nat → Prop} {w w' : World} {a : Nat} {X : DD}
theorem DG.kept (h : DG S R w a X) {T : Nat → Prop} (hm : Mod T w w') (hT : ∀ k, T k → ¬ R k) : DG S R w' a X :=
  ⟨(hm.block a (h.rl a h.ra) (fun k => hT a k h.ra)).trans h.box, h.bm.kept hm (fun k => hT _ k (h.rs _ h.s1)), h.fm.kept hm (fun k => hT _ k (h.rs _ h.s2)),
    fun b hb => (h.kr b hb).kept hm (fun x e k => hT _ k (h.rk b hb x e)), h.ko, fun f hf => (h.fr f hf).kept hm (fun x e k => hT _ k (h.rs _ (h.sf f hf x e))),
    h.s1, h.s2, h.sf, h.ff, h.sk, h.sa, h.ne, h.ra, h.rk, h.rs, fun k hk => Nat.lt_of_lt_of_le (h.rl k hk) hm.size, h.fs, h.fb, h.fl, h.fn, h.len, h.fk⟩
theorem DG.old (h : DG S R w a X) (hb : Below w.heap.size w w') : DG S R w' a X :=
  h.kept (Mod.of_below hb) (fun k hk hr => by have := h.rl k hr; omega)
theorem DG.lt (h : DG S R w a X) : a < w.heap.size := h.rl a h.ra
theorem DG.okK (h : DG S R w a X) {b : Blk} (hb : b ∈ X.K) : okK w b := ⟨(h.kr b hb).rd, by
  rcases (h.kr b hb).shape with ⟨e, _⟩ | ⟨g, e, _⟩
  · exact .inl e
  · exact .inr ⟨g, 0, e⟩, (h.ko b hb).1.n, Nat.le_trans (h.ko b hb).1.k (by decide)⟩
theorem DG.newOk (h : DG S R w a X) {b : Blk} (hb : b ∈ X.K) : newOk w b := ⟨⟨h.okK hb, (h.ko b hb).1.pw, (h.ko b hb).1.b1⟩, (h.ko b hb).1.b2⟩
theorem DG.nodup (h : DG S R w a X) : (X.K.map (·.id)).Nodup := by
  have := h.bm.ap
  unfold ApartE kE at this
  rw [List.pairwise_map] at this
  exact List.pairwise_map.2 this
/-- A name that is there. -/
theorem DG.look (h : DG S R w a X) {n : Nm} {z : Value} (hn : hasE n (kE X.K) = true) : ∃ b ∈ X.K, b.id = n ∧ getE n (kE X.K) z = .agg b.cells.toArray := by
  obtain ⟨b, hb, e⟩ := (kE_has _ _).1 hn
  refine ⟨b, hb, e, getE_mem h.bm.ap ?_⟩
  rw [← e]
  exact List.mem_map.2 ⟨b, hb, rfl⟩
theorem DG.lookF (h : DG S R w a X) {t : List UInt8} {z : Value} (hn : hasE t (fE X.F) = true) : ∃ f ∈ X.F, f.t = t ∧ getE t (fE X.F) z = f.v := by
  obtain ⟨b, hb, e⟩ := (fE_has _ _).1 hn
  refine ⟨b, hb, e, getE_mem h.fm.ap ?_⟩
  rw [← e]
  exact List.mem_map.2 ⟨b, hb, rfl⟩
end
/-- Names with one more at its place. -/
theorem ins_strict (L : List Nm) (t : Nm) (p : Nat) (hL : L.Pairwise lN) (ht : t ∉ L) (h1 : ∀ i (hi : i < L.length), i < p → lN L[i] t) (h2 : ∀ i (hi : i < L.length), p ≤ i → ¬ lN L[i] t) :
    (L.take p ++ t :: L.drop p).Pairwise lN := by
  refine List.pairwise_append.2 ⟨hL.take, List.pairwise_cons.2 ⟨fun y hy => ?_, hL.drop⟩, fun x hx y hy => ?_⟩
  · obtain ⟨i, hi, rfl⟩ := List.getElem_of_mem hy
    rw [List.getElem_drop]
    rw [List.length_drop] at hi
    exact lN_of (h2 (p + i) (by omega) (by omega)) (fun e => ht (e ▸ List.getElem_mem _))
  · obtain ⟨i, hi, rfl⟩ := List.getElem_of_mem hx
    rw [List.length_take] at hi
    rw [List.getElem_take]
    have hxt := h1 i (by omega) (by omega)
    rcases List.mem_cons.1 hy with rfl | hy
    · exact hxt
    · obtain ⟨j, hj, rfl⟩ := List.getElem_of_mem hy
      rw [List.getElem_drop]
      rw [List.length_drop] at hj
      exact List.pairwise_iff_getElem.1 hL i (p + j) (by omega) (by omega) (by omega)
theorem ins_mem (L : List Nm) (t : Nm) (p : Nat) (x : Nm) : x ∈ L.take p ++ t :: L.drop p ↔ x = t ∨ x ∈ L := by
  rw [List.mem_append, List.mem_cons]
  have := List.take_append_drop p L
  constructor
  · rintro (h | h | h)
    · exact .inr (List.mem_of_mem_take h)
    · exact .inl h
    · exact .inr (List.mem_of_mem_drop h)
  · rintro (h | h)
    · exact .inr (.inl h)
    · rw [← this, List.mem_append] at h
      rcases h with h | h
      · exact .inl h
      · exact .inr (.inr h)
theorem ins_len (L : List Nm) (t : Nm) (p : Nat) : (L.take p ++ t :: L.drop p).length = L.length + 1 := by
  have := congrArg List.length (List.take_append_drop p L)
  simp only [List.length_append, List.length_cons] at this ⊢
  omega
end Go.Proofs.YtemnebbdaljfbaaGreatDoor

namespace Go.Proofs.YtemnebbdaljfbaaGreatDoor
open Go

def waitsI (md : Region.Mode) (o : Oper) : List Nat := (o.after.toList.filter (Region.binds md)).map (·.on)
def AllU {Γ : Type} (U : Nat → Γ → World → Prop) (γ : Γ) (w : World) (l : List Nat) : Prop := ∀ j, l.contains j = true → U j γ w

/-- As drawOk, of the edges that bind. -/
def drawOk2 (md : Region.Mode) (ops : Array Oper) (N : Nat) : Bool :=
  (List.range ops.size).all fun i => match ops[i]? with
    | none => true
    | some o => o.after.all (fun e => !Region.binds md e || decide (e.on < i)) && (match o.dst with
      | none => true
      | some d => decide (d < N) && (List.range ops.size).all fun j => j == i || (match ops[j]? with | some p => p.dst != some d | none => true))
structure DrawOk2 (md : Region.Mode) (ops : Array Oper) (N : Nat) : Prop where
  before : ∀ (i : Nat) (o : Oper), ops[i]? = some o → ∀ e ∈ o.after, Region.binds md e = true → e.on < i
  room : ∀ (i : Nat) (o : Oper) (d : Tmp), ops[i]? = some o → o.dst = some d → d < N
  apart : ∀ (i j : Nat) (o p : Oper) (d : Tmp), ops[i]? = some o → ops[j]? = some p → j ≠ i → o.dst = some d → p.dst ≠ some d
theorem drawOk2_spec {md : Region.Mode} {ops : Array Oper} {N : Nat} (h : drawOk2 md ops N = true) : DrawOk2 md ops N := by
  have key : ∀ (i : Nat) (o : Oper), ops[i]? = some o → o.after.all (fun e => !Region.binds md e || decide (e.on < i)) = true ∧ (match o.dst with
      | none => true
      | some d => decide (d < N) && (List.range ops.size).all fun j => j == i || (match ops[j]? with | some p => p.dst != some d | none => true)) = true := by
    intro i o ho
    have hlt : i < ops.size := (Array.getElem?_eq_some_iff.1 ho).1
    have := List.all_eq_true.1 h i (List.mem_range.2 hlt)
    simp only [ho, Bool.and_eq_true] at this
    exact this
  refine ⟨fun i o ho e he hb => ?_, fun i o d ho hd => ?_, fun i j o p d ho hp hj hd hpd => ?_⟩
  · have := Array.all_eq_true_iff_forall_mem.1 (key i o ho).1 e he
    rw [hb] at this
    simpa using this
  · have := (key i o ho).2
    rw [hd] at this
    simp only [Bool.and_eq_true] at this
    exact of_decide_eq_true this.1
  · have := (key i o ho).2
    rw [hd] at this
    simp only [Bool.and_eq_true] at this
    have h2 := List.all_eq_true.1 this.2 j (List.mem_range.2 (Array.getElem?_eq_some_iff.1 hp).1)
    simp only [hp, Bool.or_eq_true, beq_iff_eq, hj, false_or, bne_iff_ne, ne_eq] at h2
    exact h2 hpd
theorem ready_some2 {ops : Array Oper} {md : Region.Mode} {N : Nat} (hok : DrawOk2 md ops N) {L : Array Bool} (hL : L.size = ops.size) : ∀ i, i < ops.size → L.getD i true = false → ∃ j, j ∈ Region.ready md ops L := by
  intro i
  induction i using Nat.strongRecOn with
  | ind i ih =>
    intro hi hun
    have ho : ops[i]? = some ops[i] := Array.getElem?_eq_getElem hi
    by_cases h : ∀ e ∈ ops[i].after, Region.binds md e = true → L.getD e.on false = true
    · exact ⟨i, mem_ready.2 ⟨hun, _, ho, h⟩⟩
    · have ⟨e, he⟩ := Classical.not_forall.1 h
      have ⟨he1, he2⟩ := Classical.not_imp.1 he
      have ⟨hb, hf⟩ := Classical.not_imp.1 he2
      have hlt := hok.before i _ ho e he1 hb
      have hel : e.on < L.size := by omega
      refine ih e.on hlt (by omega) ?_
      simp [hel] at hf ⊢
      exact hf
theorem agree_puts2 {ops : Array Oper} {a0 a : Act} (ha : Agree ops a0 a) (room : ∀ (i : Nat) (o : Oper) (d : Tmp), ops[i]? = some o → o.dst = some d → d < a0.tmps.size) : a = puts (fun t => a.eval (.tmp t)) (dsts ops) a0 := by
  have hm : ∀ t ∈ dsts ops, ∃ (i : Nat) (o : Oper), ops[i]? = some o ∧ o.dst = some t := by
    intro t ht
    obtain ⟨o, ho, hd⟩ := List.mem_filterMap.1 ht
    obtain ⟨i, hi, e⟩ := List.getElem_of_mem ho
    refine ⟨i, o, ?_, hd⟩
    rw [← e]
    simp at hi
    simp [hi]
  have hp := puts_spec (fun t => a.eval (.tmp t)) (dsts ops) a0 (fun t ht => by obtain ⟨i, o, hi, hd⟩ := hm t ht; exact room i o t hi hd)
  refine act_ext (ha.size.trans hp.1.symm) (ha.defers.trans hp.2.1.symm) (fun t => ?_)
  rw [hp.2.2 t]
  by_cases h : t ∈ dsts ops
  · rw [if_pos h]
  · rw [if_neg h]
    refine ha.same t (fun i o hi hd => h ?_)
    exact List.mem_filterMap.2 ⟨o, by simpa using Array.mem_of_getElem? hi, hd⟩

section
variable {P : Program} {ops : Array Oper} {Q : Exit → Act → World → Prop} {md : Region.Mode} {Γ : Type} {V : Tmp → Value → Γ → World → Prop} {U : Nat → Γ → World → Prop} {G : Γ → World → Prop} {a0 : Act}

/-- What one operation owes. -/
def Owes2 (P : Program) (md : Region.Mode) (ops : Array Oper) (Q : Exit → Act → World → Prop) (V : Tmp → Value → Γ → World → Prop) (U : Nat → Γ → World → Prop) (G : Γ → World → Prop) (a0 : Act) (i : Nat) (o : Oper) : Prop :=
  ∀ γ a w, Agree ops a0 a → G γ w → AllV (fun t v w => V t v γ w) a w (waits md ops o) → AllU U γ w (waitsI md o) →
    wpOp P ops Q i (fun a' w' => ∃ v γ', a' = a.put o.dst v ∧ (∀ t, o.dst = some t → V t v γ' w') ∧ U i γ' w' ∧ G γ' w' ∧
      ∀ j p, ops[j]? = some p → j ≠ i → (∀ e ∈ p.after, Region.binds md e = true → e.on ≠ i) → (∀ t x, p.dst = some t → V t x γ w → V t x γ' w') ∧ (U j γ w → U j γ' w')) a w


def OweAll2 (P : Program) (md : Region.Mode) (ops : Array Oper) (Q : Exit → Act → World → Prop) (V : Tmp → Value → Γ → World → Prop) (U : Nat → Γ → World → Prop) (G : Γ → World → Prop) (a0 : Act) : Nat → List Oper → Prop
  | _, [] => True
  | k, o :: r => Owes2 P md ops Q V U G a0 k o ∧ OweAll2 P md ops Q V U G a0 (k + 1) r

end
end Go.Proofs.YtemnebbdaljfbaaGreatDoor

namespace Go.Proofs.YtemnebbdaljfbaaGreatDoor
open Go

section
variable {P : Program} {ops : Array Oper} {Q : Exit → Act → World → Prop} {md : Region.Mode} {V : Tmp → Value → Prop} {G : Nat → Value → World → Prop} {C : List Nat} {a0 : Act}
theorem wpAny_chain2 (hok : DrawOk2 md ops a0.tmps.size) (hch : chainOk md ops C = true) (hnd : C.Nodup) (hCl : ∀ i ∈ C, i < ops.size) (step : ∀ (i : Nat) (o : Oper), ops[i]? = some o → OwesC P md ops Q V G C a0 i o)
    (fin : ∀ a w x, Agree ops a0 a → G C.length x w → Holds' ops C a C.length x → (∀ (i : Nat) (o : Oper) (t : Tmp), ops[i]? = some o → o.dst = some t → V t (a.eval (.tmp t))) → Q .normal a w) :
    ∀ (fuel : Nat) (L : Array Bool) (a : Act) (w : World) (k : Nat) (x : Value), unl L ops.size ≤ fuel → L.size = ops.size → ChainAt md ops V G C a0 L a w k x → wpAny P md ops Q fuel L a w := by
  have allL : ∀ L : Array Bool, L.size = ops.size → Region.ready md ops L = [] → ∀ (i : Nat) (o : Oper), ops[i]? = some o → L.getD i true = true := by
    intro L hL hr i o ho
    cases hc : L.getD i true with
    | true => rfl
    | false =>
      obtain ⟨j, hj⟩ := ready_some2 hok hL i (Array.getElem?_eq_some_iff.1 ho).1 hc
      rw [hr] at hj; cases hj
  have done : ∀ (L : Array Bool) (a : Act) (w : World) (k : Nat) (x : Value), L.size = ops.size → ChainAt md ops V G C a0 L a w k x → Region.ready md ops L = [] → Q .normal a w := by
    intro L a w k x hL h hr
    have hk : k = C.length := by
      refine Nat.le_antisymm h.le (Nat.le_of_not_lt fun hlt => ?_)
      have hm : C[k]? = some C[k] := List.getElem?_eq_getElem hlt
      have hi := hCl _ (List.getElem_mem hlt)
      exact Nat.lt_irrefl _ ((h.ch k _ hm).1 (allL L hL hr _ _ (Array.getElem?_eq_getElem hi)))
    subst hk
    exact fin a w x h.ag h.g h.ho (fun i o t ho ht => h.v i o t ho (allL L hL hr i o ho) ht)
  intro fuel
  induction fuel with
  | zero =>
    intro L a w k x hu hL h
    have hr : Region.ready md ops L = [] := by
      apply List.eq_nil_iff_forall_not_mem.2
      intro j hj
      obtain ⟨hun, o, ho, _⟩ := mem_ready.1 hj
      have := unl_pos L ops.size j (Array.getElem?_eq_some_iff.1 ho).1 hun
      omega
    exact ⟨hr, done L a w k x hL h hr⟩
  | succ fuel ih =>
    intro L a w k x hu hL h
    refine ⟨fun hr => done L a w k x hL h hr, fun i hi => ?_⟩
    obtain ⟨hun, o, ho, hall⟩ := mem_ready.1 hi
    have hil : i < ops.size := (Array.getElem?_eq_some_iff.1 ho).1
    have hw : AllV (fun t v _ => V t v) a w (waits md ops o) := AllV.of (by
      intro t ht
      unfold waits at ht
      obtain ⟨e, he, hd⟩ := List.mem_filterMap.1 ht
      obtain ⟨he1, he2⟩ := List.mem_filter.1 he
      cases hj : ops[e.on]? with
      | none => rw [hj] at hd; cases hd
      | some p =>
        rw [hj] at hd
        have hl := hall e (by simpa using he1) he2
        exact h.v e.on p t hj (by rw [getD_tf hL (Array.getElem?_eq_some_iff.1 hj).1]; exact hl) hd)
    -- what follows, with k' of the chain done
    have next : ∀ (k' : Nat) (y : Value → Value), k' ≤ C.length → (∀ v, Holds' ops C (a.put o.dst v) k' (y v)) → (∀ (m j : Nat), C[m]? = some j → ((L.setIfInBounds i true).getD j true = true ↔ m < k')) →
        wpOp P ops Q i (fun a' w' => ∃ v, a' = a.put o.dst v ∧ (∀ t, o.dst = some t → V t v) ∧ G k' (y v) w') a w → wpOp P ops Q i (fun a' w' => wpAny P md ops Q fuel (L.setIfInBounds i true) a' w') a w := by
      intro k' y hk' hho hch' hop
      refine wpOp_mono (fun a' w' hh => ?_) hop
      obtain ⟨v, rfl, hvi, hG'⟩ := hh
      refine ih _ _ _ k' (y v) ?_ (by simpa using hL) ⟨hG', hho v, hk', hch', ?_, ?_, ?_, ?_⟩
      · have := unl_set L i hun ops.size
        rw [if_pos hil] at this; omega
      · intro j p hp hl e he hb
        by_cases hji : j = i
        · subst hji
          rw [ho] at hp; cases hp
          have := hall e he hb
          by_cases hei : e.on = j
          · rw [hei, getD_set_at (by omega)]
          · rw [getD_set_ne' hei]; exact this
        · rw [getD_set_ne' hji] at hl
          have := h.cl j p hp hl e he hb
          by_cases hei : e.on = i
          · rw [hei, getD_set_at (by omega)]
          · rw [getD_set_ne' hei]; exact this
      · refine ⟨by rw [size_put]; exact h.ag.size, by rw [defers_put]; exact h.ag.defers, fun t ht => ?_⟩
        rw [Act.eval_put (fun d hd e => ht i o ho (by cases e; exact hd))]
        exact h.ag.same t ht
      · intro j p t hp hl ht
        have e : j ≠ i := by
          rintro rfl
          rw [getD_set_at (by omega)] at hl; cases hl
        rw [Act.eval_put (fun d hd e2 => by cases e2; exact hok.apart i j o p t ho hp e hd ht)]
        rw [getD_set_ne' e] at hl
        exact h.kp j p t hp hl ht
      · intro j p t hp hl ht
        by_cases e : j = i
        · subst e
          rw [ho] at hp; cases hp
          rw [ht, eval_put_same (by rw [h.ag.size]; exact hok.room j o t ho ht)]
          exact hvi t ht
        · rw [Act.eval_put (fun d hd e2 => by cases e2; exact hok.apart i j o p t ho hp e hd ht)]
          rw [getD_set_ne' e] at hl
          exact h.v j p t hp hl ht
    rcases step i o ho with ⟨m, hm, hop⟩ | ⟨hni, b, hb, hop⟩
    · have hmk : m = k := by
        have h1 : ¬ m < k := fun hlt => by rw [(h.ch m i hm).2 hlt] at hun; cases hun
        have h2 : m ≤ k := by
          cases m with
          | zero => exact Nat.zero_le _
          | succ m =>
            have hlt : m < C.length := by have := (List.getElem?_eq_some_iff.1 hm).1; omega
            have hj : C[m]? = some C[m] := List.getElem?_eq_getElem hlt
            obtain ⟨e, he, hbd, hon⟩ := chain_edge hch hj hm ho
            have := hall e he hbd
            rw [hon] at this
            exact (h.ch m _ hj).1 (by rw [getD_tf hL (hCl _ (List.getElem_mem hlt))]; exact this)
        omega
      subst hmk
      have hmlt : m < C.length := (List.getElem?_eq_some_iff.1 hm).1
      refine next (m + 1) (fun v => v) hmlt ?_ ?_ (hop a w x h.agc h.g h.ho hw)
      · intro v m2 j p t hm2 hj hp ht
        obtain rfl : m2 = m := by omega
        rw [hm] at hj; cases hj
        rw [ho] at hp; cases hp
        rw [ht, eval_put_same (by rw [h.ag.size]; exact hok.room i o t ho ht)]
      intro m2 j hj
      by_cases hji : j = i
      · subst hji
        have : m2 = m := by
          obtain ⟨l2, e2⟩ := List.getElem?_eq_some_iff.1 hj
          obtain ⟨l1, e1⟩ := List.getElem?_eq_some_iff.1 hm
          exact (List.getElem_inj hnd).1 (e2.trans e1.symm)
        subst this
        rw [getD_set_at (by omega)]
        exact ⟨fun _ => Nat.lt_succ_self _, fun _ => rfl⟩
      · rw [getD_set_ne' hji, h.ch m2 j hj]
        have : m2 ≠ m := by
          rintro rfl
          rw [hm] at hj; cases hj; exact hji rfl
        omega
    · have hkb : k ≤ b := by
        unfold aheadOf at hb
        rw [Bool.or_eq_true, beq_iff_eq] at hb
        rcases hb with rfl | hb
        · exact h.le
        · cases hj : C[b]? with
          | none => rw [hj] at hb; cases hb
          | some j =>
            rw [hj] at hb
            simp only at hb
            refine Nat.le_of_not_lt fun hlt => ?_
            have := reach_done h.cl 16 j i hb ((h.ch b j hj).2 hlt)
            rw [← getD_tf hL hil, hun] at this
            cases this
      refine next k (fun _ => x) h.le ?_ ?_ (hop k hkb a w x h.agc h.g hw)
      · intro v m2 j p t hm2 hj hp ht
        have hji : j ≠ i := by
          rintro rfl
          have := List.mem_of_getElem? hj
          rw [List.contains_eq_mem, decide_eq_false_iff_not] at hni
          exact hni this
        rw [Act.eval_put (fun d hd e2 => by cases e2; exact hok.apart i j o p t ho hp hji hd ht)]
        exact h.ho m2 j p t hm2 hj hp ht
      intro m2 j hj
      have hji : j ≠ i := by
        rintro rfl
        have := List.mem_of_getElem? hj
        rw [List.contains_eq_mem, decide_eq_false_iff_not] at hni
        exact hni this
      rw [getD_set_ne' hji, h.ch m2 j hj]

theorem wp_region_chain2 {id : Nat} {w : World} (V : Tmp → Value → Prop) (G : Nat → Value → World → Prop) (C : List Nat) (N : Nat) (hm : P.follows .mixedOrders = true) (hok : drawOk2 .any ops N = true) (hN : a0.tmps.size = N)
    (hch : chainOk .any ops C = true) (hnd : decide C.Nodup = true) (hCl : C.all (· < ops.size) = true) (hG : G 0 undef w.drew)
    (step : OweAllC P .any ops Q V G C a0 0 ops.toList)
    (fin : ∀ f w x, G C.length x w → (∀ (m i : Nat) (o : Oper) (t : Tmp), C.length = m + 1 → C[m]? = some i → ops[i]? = some o → o.dst = some t → f t = x) → (∀ (i : Nat) (o : Oper) (t : Tmp), ops[i]? = some o → o.dst = some t → V t (f t)) → Q .normal (puts f (dsts ops) a0) w) : (Code.region id ops true).wp P Q a0 w := by
  subst hN
  have hok := drawOk2_spec hok
  have hCl' : ∀ i ∈ C, i < ops.size := fun i hi => by simpa using List.all_eq_true.1 hCl i hi
  have hL0 : ∀ i, i < ops.size → (Array.replicate ops.size false).getD i true = false := fun i hi => by simp [hi]
  refine wp_region_any hm (wpAny_chain2 (V := V) (G := G) (C := C) hok hch (of_decide_eq_true hnd) hCl' (fun i o ho => ?_) (fun a w x ha hg hh hv => ?_) ops.size _ a0 _ 0 undef (unl_le _ _) (by simp) ⟨hG, (fun m i o t h => by omega), Nat.zero_le _, ?_, ?_, ⟨rfl, rfl, fun _ _ => rfl⟩, (fun _ _ _ _ _ _ => rfl), ?_⟩)
  · have := step.get i o (by simpa using ho)
    rwa [Nat.zero_add] at this
  · rw [agree_puts2 ha hok.room]
    exact fin _ w x hg hh hv
  · intro m i hi
    have := hCl' i (List.mem_of_getElem? hi)
    rw [hL0 i this]
    simp
  · intro i o ho hl
    rw [hL0 i (Array.getElem?_eq_some_iff.1 ho).1] at hl; cases hl
  · intro i o t ho hl _
    rw [hL0 i (Array.getElem?_eq_some_iff.1 ho).1] at hl; cases hl
end
end Go.Proofs.YtemnebbdaljfbaaGreatDoor

namespace Go.Proofs.YtemnebbdaljfbaaGreatDoor
open Go.RowKit Go.Sort

set_option maxHeartbeats 1000000 in
set_option maxRecDepth 20000 in
theorem dgcompare_any (n1 n2 : List UInt8) (w : World) (hs : n1.length = 32) (ht : n2.length = 32) :
    Calls Tryz.prog 66 #[.agg (vals n1).toArray, .agg (vals n2).toArray] w fun r w' => r = .returned (.int .i64 (Lib.compareBytes n1 n2)) ∧ Below w.heap.size w w' := by
  have hA : IdAt ((w.alloc (.cells (vals n1).toArray 70)).alloc (.cells (vals n2).toArray 70)) w.heap.size n1 := ⟨hs, by rw [Below.heap_alloc _ _ _ (by simp)]; exact heap_alloc_new w _⟩
  have hB : IdAt ((w.alloc (.cells (vals n1).toArray 70)).alloc (.cells (vals n2).toArray 70)) (w.heap.size + 1) n2 := ⟨ht, by have := heap_alloc_new (w.alloc (.cells (vals n1).toArray 70)) (.cells (vals n2).toArray 70); simpa using this⟩
  have hb : Below w.heap.size w ((w.alloc (.cells (vals n1).toArray 70)).alloc (.cells (vals n2).toArray 70)) := ((Below.refl _ w).alloc (Nat.le_refl _) _).alloc (by simp) _
  have s1 := id_size hs
  have s2 := id_size ht
  have HA := Lib.hid hA
  have HB := Lib.hid hB
  have Hb := Lib.hid hb
  clear hA hB hb
  generalize (vals n1).toArray = S at s1 HA HB Hb ⊢
  generalize (vals n2).toArray = T at s2 HA HB Hb ⊢
  go_enter Tryz.func66, Tryz.ntmps66
  go_wp2_with fail
  generalize (w.alloc (.cells S 70)).alloc (.cells T 70) = W at HA HB Hb ⊢
  generalize w.heap.size = n0 at HA HB ⊢
  refine wp_region_puts (fun t v w => VK (match t with
    | 5 => .eq (.slice (some ⟨n0, 0, none⟩) 32 32)
    | 6 => .eq (.slice (some ⟨n0 + 1, 0, none⟩) 32 32)
    | 7 => .eq (.int .i64 (Lib.compareBytes n1 n2))
    | 4 => .eq (.int .i64 (Lib.compareBytes n1 n2))
    | _ => .any) v w) (fun w' => Below W.heap.size W w') 8 (by kernel_rfl) (by decide +kernel) rfl (Below.refl _ _).drew (by
    refine OweAll.cons (owesK rfl rfl fun a w1 ha hG hV => ?_) ?_
    · skip
      have h2 := ha.outer 2 (by decide +kernel)
      simp only [Act.eval] at h2
      exact ⟨.slice (some ⟨n0, 0, none⟩) 32 32, w1, wanted_free rfl, by simp [execOp, go_sem, h2], Below.refl _ _, rfl⟩
    refine OweAll.cons (owesK rfl rfl fun a w1 ha hG hV => ?_) ?_
    · skip
      have h3 := ha.outer 3 (by decide +kernel)
      simp only [Act.eval] at h3
      exact ⟨.slice (some ⟨n0 + 1, 0, none⟩) 32 32, w1, wanted_free rfl, by simp [execOp, go_sem, h3], Below.refl _ _, rfl⟩
    refine OweAll.cons (owesK_call rfl rfl 93 fun a w1 ha hG hV => ?_) ?_
    · skip
      have h5 : a.tmps.getD 5 undef = .slice (some ⟨n0, 0, none⟩) 32 32 := hV.get 5 (by decide +kernel)
      have h6 : a.tmps.getD 6 undef = .slice (some ⟨n0 + 1, 0, none⟩) 32 32 := hV.get 6 (by decide +kernel)
      refine ⟨#[.slice (some ⟨n0, 0, none⟩) 32 32, .slice (some ⟨n0 + 1, 0, none⟩) 32 32], wanted_free rfl, by simp [execOp, resolve, invoke, go_sem, h5, h6], ?_⟩
      refine (bcompare_any _ _ n1 n2 w1 (HA.out.old hG) (HB.out.old hG)).mono ?_
      rintro r u2 ⟨rfl, rfl⟩; exact ⟨_, rfl, rfl, Below.refl _ _⟩
    refine OweAll.cons (owesK rfl rfl fun a w1 ha hG hV => ?_) ?_
    · skip
      have h7 : a.tmps.getD 7 undef = .int .i64 (Lib.compareBytes n1 n2) := hV.get 7 (by decide +kernel)
      exact ⟨.int .i64 (Lib.compareBytes n1 n2), w1, wanted_free rfl, by simp [execOp, go_sem, h7], Below.refl _ _, rfl⟩
    exact OweAll.nil
    ) ?_
  intro f wz hG hv
  have e4 : f 4 = .int .i64 (Lib.compareBytes n1 n2) := hv 3 _ 4 rfl rfl
  rename_i hK
  refine hK _ _ ?_
  clear hK hv
  simp only [dsts, puts, List.filterMap_cons, List.filterMap_nil, List.foldl_cons, List.foldl_nil, Act.put, List.setIfInBounds_toArray, List.set_cons_succ, List.set_cons_zero, e4]
  clear e4
  have HG := Lib.hid (Hb.out.trans (hG.mono Hb.out.size))
  clear hG
  go_wp2_with fail
  go_ret
  exact ⟨rfl, HG.out⟩
set_option maxHeartbeats 1000000 in
set_option maxRecDepth 20000 in
/-- compare lays two blocks, and draws. -/
theorem dgcompare_grow (n1 n2 : List UInt8) (w : World) (hs : n1.length = 32) (ht : n2.length = 32) :
    Calls Tryz.prog 66 #[.agg (vals n1).toArray, .agg (vals n2).toArray] w fun r w' => r = .returned (.int .i64 (Lib.compareBytes n1 n2)) ∧ ∃ q os', w' = grow (w.drewN q) os' := by
  have hA : IdAt ((w.alloc (.cells (vals n1).toArray 70)).alloc (.cells (vals n2).toArray 70)) w.heap.size n1 := ⟨hs, by rw [Below.heap_alloc _ _ _ (by simp)]; exact heap_alloc_new w _⟩
  have hB : IdAt ((w.alloc (.cells (vals n1).toArray 70)).alloc (.cells (vals n2).toArray 70)) (w.heap.size + 1) n2 := ⟨ht, by have := heap_alloc_new (w.alloc (.cells (vals n1).toArray 70)) (.cells (vals n2).toArray 70); simpa using this⟩
  have hb : ∃ os, (w.alloc (.cells (vals n1).toArray 70)).alloc (.cells (vals n2).toArray 70) = grow w os := ⟨_, by rw [alloc_eq_grow, alloc_eq_grow, grow_grow]⟩
  have s1 := id_size hs
  have s2 := id_size ht
  have HA := Lib.hid hA
  have HB := Lib.hid hB
  have Hb := Lib.hid hb
  clear hA hB hb
  generalize (vals n1).toArray = S at s1 HA HB Hb ⊢
  generalize (vals n2).toArray = T at s2 HA HB Hb ⊢
  go_enter Tryz.func66, Tryz.ntmps66
  go_wp2_with fail
  generalize (w.alloc (.cells S 70)).alloc (.cells T 70) = W at HA HB Hb ⊢
  generalize w.heap.size = n0 at HA HB ⊢
  have Hq : Hid (∀ w' q, w' = W.drewN q → Below W.heap.size W w') := Lib.hid (fun w' q e => by rw [e]; exact ⟨rfl, rfl, rfl, Nat.le_refl _, fun _ _ => rfl⟩)
  refine wp_region_puts (fun t v w => VK (match t with
    | 5 => .eq (.slice (some ⟨n0, 0, none⟩) 32 32)
    | 6 => .eq (.slice (some ⟨n0 + 1, 0, none⟩) 32 32)
    | 7 => .eq (.int .i64 (Lib.compareBytes n1 n2))
    | 4 => .eq (.int .i64 (Lib.compareBytes n1 n2))
    | _ => .any) v w) (fun w' => ∃ q, w' = W.drewN q) 8 (by kernel_rfl) (by decide +kernel) rfl ⟨1, rfl⟩ (by
    refine OweAll.cons (owesQ rfl rfl fun a w1 ha hG hV => ?_) ?_
    · skip
      have h2 := ha.outer 2 (by decide +kernel)
      simp only [Act.eval] at h2
      exact ⟨.slice (some ⟨n0, 0, none⟩) 32 32, wanted_free rfl, by simp [execOp, go_sem, h2], rfl⟩
    refine OweAll.cons (owesQ rfl rfl fun a w1 ha hG hV => ?_) ?_
    · skip
      have h3 := ha.outer 3 (by decide +kernel)
      simp only [Act.eval] at h3
      exact ⟨.slice (some ⟨n0 + 1, 0, none⟩) 32 32, wanted_free rfl, by simp [execOp, go_sem, h3], rfl⟩
    refine OweAll.cons (owesQ_call rfl rfl 93 fun a w1 ha hG hV => ?_) ?_
    · skip
      have h5 : a.tmps.getD 5 undef = .slice (some ⟨n0, 0, none⟩) 32 32 := hV.get 5 (by decide +kernel)
      have h6 : a.tmps.getD 6 undef = .slice (some ⟨n0 + 1, 0, none⟩) 32 32 := hV.get 6 (by decide +kernel)
      refine ⟨#[.slice (some ⟨n0, 0, none⟩) 32 32, .slice (some ⟨n0 + 1, 0, none⟩) 32 32], wanted_free rfl, by simp [execOp, resolve, invoke, go_sem, h5, h6], ?_⟩
      obtain ⟨q, hq⟩ := hG
      have hG := Hq.out w1 q hq
      refine (bcompare_any _ _ n1 n2 w1 (HA.out.old hG) (HB.out.old hG)).mono ?_
      rintro r u2 ⟨rfl, rfl⟩; exact ⟨_, rfl, rfl, rfl⟩
    refine OweAll.cons (owesQ rfl rfl fun a w1 ha hG hV => ?_) ?_
    · skip
      have h7 : a.tmps.getD 7 undef = .int .i64 (Lib.compareBytes n1 n2) := hV.get 7 (by decide +kernel)
      exact ⟨.int .i64 (Lib.compareBytes n1 n2), wanted_free rfl, by simp [execOp, go_sem, h7], rfl⟩
    exact OweAll.nil
    ) ?_
  intro f wz hG hv
  have e4 : f 4 = .int .i64 (Lib.compareBytes n1 n2) := hv 3 _ 4 rfl rfl
  rename_i hK
  refine hK _ _ ?_
  clear hK hv
  simp only [dsts, puts, List.filterMap_cons, List.filterMap_nil, List.foldl_cons, List.foldl_nil, Act.put, List.setIfInBounds_toArray, List.set_cons_succ, List.set_cons_zero, e4]
  clear e4
  have HG : Hid (∃ q os', wz = grow (w.drewN q) os') := Lib.hid (by
    obtain ⟨q, rfl⟩ := hG
    obtain ⟨os, rfl⟩ := Hb.out
    exact ⟨q, os, rfl⟩)
  clear hG
  go_wp2_with fail
  go_ret
  exact ⟨rfl, HG.out⟩

theorem dgsort_any (p : Option Addr) (c : Nat) (L : List Nm) (w : World) (hL : Rw encN 70 w p c L) (hn : L.length ≤ 1000000) :
    Calls Tryz.prog 65 #[.slice p L.length c, .func (.func 66) #[] #[]] w fun r w' => r = .returned (.tuple #[]) ∧ Rw encN 70 w' p c (ksort L) ∧ Mod (fun i => ∃ a, p = some a ∧ i = a.block) w w' := by
  by_cases h0 : L = []
  · subst h0
    have h := AnyF.slices_SortFunc_none Tryz.sortID p c (.func (.func 66) #[] #[]) w
    refine Calls.mono (show Calls Tryz.prog 65 _ _ _ from h) ?_
    rintro r w' ⟨rfl, rfl⟩
    refine ⟨rfl, ?_, Mod.refl _ _⟩
    rw [show ksort [] = [] by simp [ksort]]; exact hL
  · rcases hL.shape with ⟨_, e, _⟩ | ⟨g, rfl, hgl, _⟩
    · exact absurd e h0
    · have eg : ∀ args w, (callFunc 66 args).run Tryz.prog w = .ok (.enter 66 args) w := enters_of Tryz.func66 (by kernel_rfl) rfl
      have h := AnyQ.slices_SortFunc_total Tryz.sortID 32 Tryz.isAgg70 Tryz.sizeOf70 encN.f encN.len encN.one cfN cfN_swo 66 #[] g 0 c L.toArray w eg
        (fun _ _ _ _ x y => dgcompare_grow x.1 y.1 _ x.2 y.2) hL.holds hgl (by rw [List.size_toArray]; omega) cfN_total
      rw [List.size_toArray] at h
      refine Calls.mono (show Calls Tryz.prog 65 _ _ _ from h) ?_
      rintro r w' ⟨rfl, m, os, rfl⟩
      have hs := hL.sorted (ksort L).toArray (by rw [List.size_toArray]; exact List.length_mergeSort _) m os
      rw [List.toList_toArray] at hs
      exact ⟨rfl, hs.1, hs.2.mono (fun i _ e => ⟨_, rfl, e⟩)⟩

/-- What stands at the head of a round of the search. -/
structure BsS (L : List Nm) (t : Nm) (i j : Nat) : Prop where
  ij : i ≤ j
  jn : j ≤ L.length
  lo : ∀ k (hk : k < L.length), k < i → lN L[k] t
  hi : ∀ k (hk : k < L.length), j ≤ k → ¬ lN L[k] t
theorem BsS.right {L : List Nm} {t : Nm} {i j h : Nat} (s : BsS L t i j) (hL : L.Pairwise lN) (h2 : h < j) (hh : h < L.length) (hc : lN L[h] t) : BsS L t (h + 1) j :=
  ⟨h2, s.jn, fun k hk hi => by
    rcases Nat.lt_or_eq_of_le (Nat.le_of_lt_succ hi) with q | rfl
    · exact lN_trans (List.pairwise_iff_getElem.1 hL k h hk hh q) hc
    · exact hc, s.hi⟩
theorem BsS.left {L : List Nm} {t : Nm} {i j h : Nat} (s : BsS L t i j) (hL : L.Pairwise lN) (h1 : i ≤ h) (hh : h < L.length) (hc : ¬ lN L[h] t) : BsS L t i h :=
  ⟨h1, Nat.le_of_lt hh, s.lo, fun k hk hi q => by
    rcases Nat.lt_or_eq_of_le hi with e | rfl
    · exact hc (lN_trans (List.pairwise_iff_getElem.1 hL h k hh hk e) q)
    · exact hc q⟩
set_option maxRecDepth 20000 in
set_option maxHeartbeats 4000000 in
theorem bsearch_any (ao : Option Addr) (cap : Nat) (L : List Nm) (y : Nm) (w : World) (hL : Rd encN w ao L) (hn : L.length ≤ 1000000) (hs : L.Pairwise lN) :
    Calls Tryz.prog 82 #[.slice ao L.length cap, .agg (vals y.1).toArray, .func (.func 66) #[] #[]] w fun r w' => (∃ (i : Nat) (b : Bool), r = .returned (.tuple #[.int .i64 i, .bool b]) ∧ BsS L y i i) ∧ Below w.heap.size w w' := by
  obtain ⟨F, hF⟩ : ∃ F : Ending → World → Prop, F = fun r w' => (∃ (i : Nat) (b : Bool), r = .returned (.tuple #[.int .i64 i, .bool b]) ∧ BsS L y i i) ∧ Below w.heap.size w w' := ⟨_, rfl⟩
  rw [← hF]
  have HF := Lib.hid hF
  obtain ⟨n, hnL⟩ : ∃ n, n = L.length := ⟨_, rfl⟩
  rw [← hnL] at hn ⊢
  have HN := Lib.hid hnL
  have HL := Lib.hid hL
  have HS := Lib.hid hs
  obtain ⟨T, hT⟩ : ∃ T, T = (vals y.1).toArray := ⟨_, rfl⟩
  have HT := Lib.hid hT
  rw [← hT]
  obtain ⟨W, hW⟩ : ∃ W, W = w.alloc (.cells T 70) := ⟨_, rfl⟩
  obtain ⟨g, hg⟩ : ∃ g, g = w.heap.size := ⟨_, rfl⟩
  have hrow : W.heap[g]? = some (.cells (vals y.1).toArray 70 (0, 0)) := by rw [hW, hg, hT]; exact heap_alloc_new w _
  have hbW : Below w.heap.size w W := by rw [hW]; exact (Below.refl _ w).alloc (Nat.le_refl _) _
  have HROW := Lib.hid hrow
  have HBW := Lib.hid hbW
  have HWE := Lib.hid hW
  have HGE := Lib.hid hg
  clear hF hnL hL hs hT hW hg hrow hbW
  go_enter Tryz.func82, Tryz.ntmps82
  go_wp2_with fail
  rw [← HWE.out, ← HGE.out]
  go_loopw [9, 10] (fun s9 s10 wr => ∃ i j : Nat, j ≤ n ∧ s9 = .int .i64 (i : Int) ∧ s10 = .int .i64 (j : Int) ∧ Hid (BsS L y i j ∧ Below W.heap.size W wr)) (fun s9 s10 _ => (intOf s10).toNat - (intOf s9).toNat)
  case atStart => exact ⟨0, n, Nat.le_refl _, rfl, rfl, Lib.hid ⟨⟨Nat.zero_le _, Nat.le_of_eq HN.out, fun k _ h => absurd h (Nat.not_lt_zero _), fun k hk h => absurd hk (by have := HN.out; omega)⟩, Below.refl _ _⟩⟩
  case round =>
    obtain ⟨i, j, hjn, rfl, rfl, HR⟩ := hrel
    have hij := HR.out.1.ij
    by_cases hlt : i < j
    · have hlt' : (i : Int) < j := by omega
      obtain ⟨h, hh⟩ : ∃ h, h = (i + j) / 2 := ⟨_, rfl⟩
      have h1 : i ≤ h := by omega
      have h2 : h < j := by omega
      have h3 : h < L.length := by have := HN.out; omega
      have hhn : (h : Int) < n := by omega
      have h0 : (0 : Int) ≤ h := by omega
      have es : IntKind.i64.wrap ((i : Int) + j) = (i : Int) + j := IntWalk.i64_in _ (by omega)
      have eu : IntKind.u64.wrap ((i : Int) + j) = (i : Int) + j := by rw [IntKind.wrap_u64]; omega
      have ed : ((i : Int) + j) / 2 = h := by omega
      have eh : IntKind.i64.wrap (h : Int) = h := IntWalk.i64_in _ (by omega)
      have eh1 : IntKind.i64.wrap ((h : Int) + 1) = (h : Int) + 1 := IntWalk.i64_in _ (by omega)
      have ehu : IntKind.u64.wrap (h : Int) = h := by rw [IntKind.wrap_u64]; omega
      obtain ⟨bs, off, rfl, hbs, c1⟩ := ((HL.out.old HBW.out).old HR.out.2) h h3
      obtain ⟨z, hx⟩ : ∃ z, z = L[h] := ⟨_, rfl⟩
      rw [← hx] at c1
      have C1 : Hid (∀ w', Below wr.heap.size wr w' → ∀ k u, (encN.f z)[k]? = some u → w'.cell? ⟨bs, off + h * 32 + k, none⟩ = some u) := Lib.hid (fun w' hb k u hu => (World.cell?_of_block (hb.block bs hbs)).trans (c1 k u hu))
      have hrow := (HR.out.2.block g (Array.getElem?_eq_some_iff.1 HROW.out).1).trans HROW.out
      have C2 : Hid (∀ w', Below wr.heap.size wr w' → ∀ k u, (encN.f y)[k]? = some u → w'.cell? ⟨g, 0 + k, none⟩ = some u) := Lib.hid (fun w' hb k u hu => by
        rw [cell_of_row _ g (0 + k) _ _ _ ((hb.block g (Array.getElem?_eq_some_iff.1 hrow).1).trans hrow), Nat.zero_add, List.getElem?_toArray]; exact hu)
      obtain ⟨c, hc⟩ : ∃ c, c = Lib.compareBytes z.1 y.1 := ⟨_, rfl⟩
      have hcmp : Hid (∀ w, Calls Tryz.prog 66 #[.agg (vals z.1).toArray, .agg (vals y.1).toArray] w fun r w' => r = .returned (.int .i64 c) ∧ Below w.heap.size w w') := Lib.hid (fun w => by rw [hc]; exact dgcompare_any z.1 y.1 w z.2 y.2)
      have hlN : Hid (lN z y ↔ c < 0) := Lib.hid (by unfold lN; rw [cfN_lt, hc]; simp)
      have HX := Lib.hid hx
      have HD := Lib.hid hh
      clear hx hc c1 hrow hbs hh
      go_upto_region 5 with fail
      refine wp_region_puts (fun t v w => VK (match t with
        | 24 => .eq (.func (.func 66) #[] #[])
        | 25 => .eq (.slice (some ⟨bs, off, none⟩) n cap)
        | 26 => .eq (.int .i64 (h : Int))
        | 27 => .eq (.pointer (some ⟨bs, off + h * 32, none⟩))
        | 28 => .eq (.agg (vals z.1).toArray)
        | 29 => .eq (.agg (vals y.1).toArray)
        | 30 => .eq (.int .i64 c)
        | 31 => .eq (.bool (decide (c < 0)))
        | _ => .any) v w) (fun w' => Below wr.heap.size wr w') 49 (by kernel_rfl) (by decide +kernel) rfl (Below.refl _ _).drew (by
        refine OweAll.cons (owesK rfl rfl fun a w1 ha hG hV => ?_) ?_
        · skip
          have h2 := ha.outer 2 (by decide +kernel)
          simp only [Act.eval] at h2
          exact ⟨.func (.func 66) #[] #[], w1, wanted_free rfl, by simp [execOp, go_sem, h2], Below.refl _ _, rfl⟩
        refine OweAll.cons (owesK rfl rfl fun a w1 ha hG hV => ?_) ?_
        · skip
          have h0 := ha.outer 0 (by decide +kernel)
          simp only [Act.eval] at h0
          exact ⟨.slice (some ⟨bs, off, none⟩) n cap, w1, wanted_free rfl, by simp [execOp, go_sem, h0], Below.refl _ _, rfl⟩
        refine OweAll.cons (owesK rfl rfl fun a w1 ha hG hV => ?_) ?_
        · skip
          have h11 := ha.outer 11 (by decide +kernel)
          simp only [Act.eval] at h11
          exact ⟨.int .i64 (h : Int), w1, wanted_free rfl, by simp [execOp, go_sem, h11], Below.refl _ _, rfl⟩
        refine OweAll.cons (owesK rfl rfl fun a w1 ha hG hV => ?_) ?_
        · skip
          have h25 : a.tmps.getD 25 undef = .slice (some ⟨bs, off, none⟩) n cap := hV.get 25 (by decide +kernel)
          have h26 : a.tmps.getD 26 undef = .int .i64 (h : Int) := hV.get 26 (by decide +kernel)
          exact ⟨.pointer (some ⟨bs, off + h * 32, none⟩), w1, wanted_free rfl, by simp [execOp, go_sem, h25, h26, h0, hhn], Below.refl _ _, rfl⟩
        refine OweAll.cons (owesK rfl rfl fun a w1 ha hG hV => ?_) ?_
        · skip
          have h27 : a.tmps.getD 27 undef = .pointer (some ⟨bs, off + h * 32, none⟩) := hV.get 27 (by decide +kernel)
          exact ⟨.agg (vals z.1).toArray, w1, wanted_free rfl, exec_load_mid (.tmp 27) rfl bs (off + h * 32) h27 z (C1.out w1 hG), Below.refl _ _, rfl⟩
        refine OweAll.cons (owesK rfl rfl fun a w1 ha hG hV => ?_) ?_
        · skip
          have h4 := ha.outer 4 (by decide +kernel)
          simp only [Act.eval] at h4
          exact ⟨.agg (vals y.1).toArray, w1, wanted_free rfl, exec_load_mid (.tmp 4) rfl g 0 h4 y (C2.out w1 hG), Below.refl _ _, rfl⟩
        refine OweAll.cons (owesK_call rfl rfl 66 fun a w1 ha hG hV => ?_) ?_
        · skip
          have h24 : a.tmps.getD 24 undef = .func (.func 66) #[] #[] := hV.get 24 (by decide +kernel)
          have h28 : a.tmps.getD 28 undef = .agg (vals z.1).toArray := hV.get 28 (by decide +kernel)
          have h29 : a.tmps.getD 29 undef = .agg (vals y.1).toArray := hV.get 29 (by decide +kernel)
          refine ⟨#[.agg (vals z.1).toArray, .agg (vals y.1).toArray], wanted_free rfl, by simp [execOp, resolve, invoke, go_sem, h24, h28, h29], ?_⟩
          refine (hcmp.out w1).mono ?_
          rintro r u2 ⟨rfl, hb⟩; exact ⟨_, rfl, rfl, hb⟩
        refine OweAll.cons (owesK rfl rfl fun a w1 ha hG hV => ?_) ?_
        · skip
          have h30 : a.tmps.getD 30 undef = .int .i64 c := hV.get 30 (by decide +kernel)
          exact ⟨.bool (decide (c < 0)), w1, wanted_free rfl, by simp [execOp, go_sem, h30], Below.refl _ _, rfl⟩
        exact OweAll.nil
        ) ?_
      intro f wz hG hv
      have e31 : f 31 = .bool (decide (c < 0)) := hv 7 _ 31 rfl rfl
      rename_i hK
      refine hK _ _ ?_
      clear hK hv
      simp only [dsts, puts, List.filterMap_cons, List.filterMap_nil, List.foldl_cons, List.foldl_nil, Act.put, List.setIfInBounds_toArray, List.set_cons_succ, List.set_cons_zero, e31]
      clear e31
      have HG : Hid (Below W.heap.size W wz) := Lib.hid (HR.out.2.trans (hG.mono HR.out.2.size))
      clear hG C1 C2 hcmp
      by_cases hc : c < 0
      · have t1 : decide (c < 0) = true := decide_eq_true hc
        have hnx : Hid (BsS L y (h + 1) j) := Lib.hid (HR.out.1.right HS.out h2 h3 (by rw [← HX.out]; exact hlN.out.2 hc))
        go_wp2_with fail
        go_roundw
        case rel => exact ⟨h + 1, j, hjn, by go_num, rfl, Lib.hid ⟨hnx.out, HG.out⟩⟩
        case measure => simp [intOf]; omega
      · have t1 : decide (c < 0) = false := decide_eq_false hc
        have hc0 : 0 ≤ c := by omega
        have hnx : Hid (BsS L y i h) := Lib.hid (HR.out.1.left HS.out h1 h3 (by rw [← HX.out]; exact fun q => hc (hlN.out.1 q)))
        go_wp2_with fail
        go_roundw
        case rel => exact ⟨i, h, by omega, rfl, rfl, Lib.hid ⟨hnx.out, HG.out⟩⟩
        case measure => simp [intOf]; omega
    · have hlt' : ¬ (i : Int) < j := by omega
      obtain rfl : i = j := by omega
      have HB := Lib.hid (HBW.out.trans (HR.out.2.mono HBW.out.size))
      clear hlt
      by_cases hin : i < n
      · have hin' : (i : Int) < n := by omega
        have h0 : (0 : Int) ≤ i := by omega
        have h3 : i < L.length := by have := HN.out; omega
        have tb : Value.bool (decide ((i : Int) < n)) = Value.bool true := by rw [decide_eq_true hin']
        obtain ⟨bs, off, rfl, hbs, c1⟩ := ((HL.out.old HBW.out).old HR.out.2) i h3
        obtain ⟨z, hx⟩ : ∃ z, z = L[i] := ⟨_, rfl⟩
        rw [← hx] at c1
        have C1 : Hid (∀ w', Below wr.heap.size wr w' → ∀ k u, (encN.f z)[k]? = some u → w'.cell? ⟨bs, off + i * 32 + k, none⟩ = some u) := Lib.hid (fun w' hb k u hu => (World.cell?_of_block (hb.block bs hbs)).trans (c1 k u hu))
        have hrow := (HR.out.2.block g (Array.getElem?_eq_some_iff.1 HROW.out).1).trans HROW.out
        have C2 : Hid (∀ w', Below wr.heap.size wr w' → ∀ k u, (encN.f y)[k]? = some u → w'.cell? ⟨g, 0 + k, none⟩ = some u) := Lib.hid (fun w' hb k u hu => by
          rw [cell_of_row _ g (0 + k) _ _ _ ((hb.block g (Array.getElem?_eq_some_iff.1 hrow).1).trans hrow), Nat.zero_add, List.getElem?_toArray]; exact hu)
        obtain ⟨c, hc⟩ : ∃ c, c = Lib.compareBytes z.1 y.1 := ⟨_, rfl⟩
        have hcmp : Hid (∀ w, Calls Tryz.prog 66 #[.agg (vals z.1).toArray, .agg (vals y.1).toArray] w fun r w' => r = .returned (.int .i64 c) ∧ Below w.heap.size w w') := Lib.hid (fun w => by rw [hc]; exact dgcompare_any z.1 y.1 w z.2 y.2)
        clear hx hc c1 hrow hbs
        have HG0 : Hid (Below wr.heap.size wr wr.drew) := Lib.hid (Below.refl _ _).drew
        go_upto_region 8 with fail
        refine wp_region_chain2 (fun t v => match t with
          | 35 => v = .int .i64 (i : Int)
          | 36 => v = .int .i64 (i : Int)
          | 37 => v = .int .i64 (n : Int)
          | 38 => v = Value.bool true
          | 39 => v = Value.bool true
          | 40 => v = .func (.func 66) #[] #[]
          | 41 => v = .slice (some ⟨bs, off, none⟩) n cap
          | 42 => v = .int .i64 (i : Int)
          | 43 => v = .pointer (some ⟨bs, off + i * 32, none⟩)
          | 44 => v = .agg (vals z.1).toArray
          | 45 => v = .agg (vals y.1).toArray
          | 46 => v = .int .i64 c
          | 47 => v = .bool (c == 0)
          | 48 => v = .bool (c == 0)
          | 6 => v = .int .i64 (i : Int)
          | 7 => v = .bool (c == 0)
          | _ => True) (fun (_ : Nat) (_ : Value) (w' : World) => Below wr.heap.size wr w') [11] 49 (by kernel_rfl) (by decide +kernel) rfl (by decide +kernel) (by decide) (by decide) HG0.out (by
          refine OweAllC.cons (owesC_val 1 (by decide +kernel) (by decide) rfl rfl fun k' a w1 x hk ha hG hV => ?_) ?_
          · skip
            have h9 := ha.outer 9 (by decide +kernel)
            simp only [Act.eval] at h9
            exact ⟨.int .i64 (i : Int), wanted_free rfl, by simp [execOp, go_sem, h9], rfl⟩
          refine OweAllC.cons (owesC_val 1 (by decide +kernel) (by decide) rfl rfl fun k' a w1 x hk ha hG hV => ?_) ?_
          · skip
            have h9 := ha.outer 9 (by decide +kernel)
            simp only [Act.eval] at h9
            exact ⟨.int .i64 (i : Int), wanted_free rfl, by simp [execOp, go_sem, h9], rfl⟩
          refine OweAllC.cons (owesC_val 1 (by decide +kernel) (by decide) rfl rfl fun k' a w1 x hk ha hG hV => ?_) ?_
          · skip
            have h8 := ha.outer 8 (by decide +kernel)
            simp only [Act.eval] at h8
            exact ⟨.int .i64 (n : Int), wanted_free rfl, by simp [execOp, go_sem, h8], rfl⟩
          refine OweAllC.cons (owesC_val 1 (by decide +kernel) (by decide) rfl rfl fun k' a w1 x hk ha hG hV => ?_) ?_
          · skip
            have h36 : a.tmps.getD 36 undef = .int .i64 (i : Int) := hV.get 36 (by decide +kernel)
            have h37 : a.tmps.getD 37 undef = .int .i64 (n : Int) := hV.get 37 (by decide +kernel)
            exact ⟨Value.bool true, wanted_free rfl, by simp [execOp, go_sem, h36, h37, hin'], rfl⟩
          refine OweAllC.cons (owesC_val 1 (by decide +kernel) (by decide) rfl rfl fun k' a w1 x hk ha hG hV => ?_) ?_
          · skip
            have h38 : a.tmps.getD 38 undef = Value.bool true := hV.get 38 (by decide +kernel)
            exact ⟨Value.bool true, wanted_free rfl, by simp [execOp, go_sem, h38], rfl⟩
          refine OweAllC.cons (owesC_val 0 (by decide +kernel) (by decide) rfl rfl fun k' a w1 x hk ha hG hV => ?_) ?_
          · skip
            have h2 := ha.outer 2 (by decide +kernel)
            simp only [Act.eval] at h2
            exact ⟨.func (.func 66) #[] #[], (wanted_of (t := 39) rfl rfl (hV.get 39 (by decide +kernel))), by simp [execOp, go_sem, h2], rfl⟩
          refine OweAllC.cons (owesC_val 0 (by decide +kernel) (by decide) rfl rfl fun k' a w1 x hk ha hG hV => ?_) ?_
          · skip
            have h0 := ha.outer 0 (by decide +kernel)
            simp only [Act.eval] at h0
            exact ⟨.slice (some ⟨bs, off, none⟩) n cap, (wanted_of (t := 39) rfl rfl (hV.get 39 (by decide +kernel))), by simp [execOp, go_sem, h0], rfl⟩
          refine OweAllC.cons (owesC_val 0 (by decide +kernel) (by decide) rfl rfl fun k' a w1 x hk ha hG hV => ?_) ?_
          · skip
            have h9 := ha.outer 9 (by decide +kernel)
            simp only [Act.eval] at h9
            exact ⟨.int .i64 (i : Int), (wanted_of (t := 39) rfl rfl (hV.get 39 (by decide +kernel))), by simp [execOp, go_sem, h9], rfl⟩
          refine OweAllC.cons (owesC_val 0 (by decide +kernel) (by decide) rfl rfl fun k' a w1 x hk ha hG hV => ?_) ?_
          · skip
            have h41 : a.tmps.getD 41 undef = .slice (some ⟨bs, off, none⟩) n cap := hV.get 41 (by decide +kernel)
            have h42 : a.tmps.getD 42 undef = .int .i64 (i : Int) := hV.get 42 (by decide +kernel)
            exact ⟨.pointer (some ⟨bs, off + i * 32, none⟩), (wanted_of (t := 39) rfl rfl (hV.get 39 (by decide +kernel))), by simp [execOp, go_sem, h41, h42, h0, hin'], rfl⟩
          refine OweAllC.cons (owesC_val 0 (by decide +kernel) (by decide) rfl rfl fun k' a w1 x hk ha hG hV => ?_) ?_
          · skip
            have h43 : a.tmps.getD 43 undef = .pointer (some ⟨bs, off + i * 32, none⟩) := hV.get 43 (by decide +kernel)
            exact ⟨.agg (vals z.1).toArray, (wanted_of (t := 39) rfl rfl (hV.get 39 (by decide +kernel))), exec_load_mid (.tmp 43) rfl bs (off + i * 32) h43 z (C1.out w1 hG), rfl⟩
          refine OweAllC.cons (owesC_val 0 (by decide +kernel) (by decide) rfl rfl fun k' a w1 x hk ha hG hV => ?_) ?_
          · skip
            have h4 := ha.outer 4 (by decide +kernel)
            simp only [Act.eval] at h4
            exact ⟨.agg (vals y.1).toArray, (wanted_of (t := 39) rfl rfl (hV.get 39 (by decide +kernel))), exec_load_mid (.tmp 4) rfl g 0 h4 y (C2.out w1 hG), rfl⟩
          refine OweAllC.cons (owesC_call 0 rfl rfl rfl 66 fun a w1 x ha hG hx hV => ?_) ?_
          · skip
            have h40 : a.tmps.getD 40 undef = .func (.func 66) #[] #[] := hV.get 40 (by decide +kernel)
            have h44 : a.tmps.getD 44 undef = .agg (vals z.1).toArray := hV.get 44 (by decide +kernel)
            have h45 : a.tmps.getD 45 undef = .agg (vals y.1).toArray := hV.get 45 (by decide +kernel)
            refine ⟨#[.agg (vals z.1).toArray, .agg (vals y.1).toArray], (wanted_of (t := 39) rfl rfl (hV.get 39 (by decide +kernel))), by simp [execOp, resolve, invoke, go_sem, h40, h44, h45], ?_⟩
            refine (hcmp.out w1).mono ?_
            rintro r u2 ⟨rfl, hb⟩; exact ⟨_, rfl, rfl, hG.trans (hb.mono hG.size)⟩
          refine OweAllC.cons (owesC_val 1 (by decide +kernel) (by decide) rfl rfl fun k' a w1 x hk ha hG hV => ?_) ?_
          · skip
            have h46 : a.tmps.getD 46 undef = .int .i64 c := hV.get 46 (by decide +kernel)
            exact ⟨.bool (c == 0), (wanted_of (t := 39) rfl rfl (hV.get 39 (by decide +kernel))), by simp [execOp, go_sem, h46], rfl⟩
          refine OweAllC.cons (owesC_val 1 (by decide +kernel) (by decide) rfl rfl fun k' a w1 x hk ha hG hV => ?_) ?_
          · skip
            have h39 : a.tmps.getD 39 undef = Value.bool true := hV.get 39 (by decide +kernel)
            have h47 : a.tmps.getD 47 undef = .bool (c == 0) := hV.get 47 (by decide +kernel)
            exact ⟨.bool (c == 0), wanted_free rfl, by simp [execOp, go_sem, h39, h47], rfl⟩
          refine OweAllC.cons (owesC_val 1 (by decide +kernel) (by decide) rfl rfl fun k' a w1 x hk ha hG hV => ?_) ?_
          · skip
            have h35 : a.tmps.getD 35 undef = .int .i64 (i : Int) := hV.get 35 (by decide +kernel)
            exact ⟨.int .i64 (i : Int), wanted_free rfl, by simp [execOp, go_sem, h35], rfl⟩
          refine OweAllC.cons (owesC_val 1 (by decide +kernel) (by decide) rfl rfl fun k' a w1 x hk ha hG hV => ?_) ?_
          · skip
            have h48 : a.tmps.getD 48 undef = .bool (c == 0) := hV.get 48 (by decide +kernel)
            exact ⟨.bool (c == 0), wanted_free rfl, by simp [execOp, go_sem, h48], rfl⟩
          exact OweAllC.nil
          ) ?_
        intro f wz xz hG hx hv
        have e6 : f 6 = .int .i64 (i : Int) := hv 14 _ 6 rfl rfl
        have e7 : f 7 = .bool (c == 0) := hv 15 _ 7 rfl rfl
        first | (rename_i hK; refine hK _ _ ?_; clear hK) | (rename_i hK _; refine hK _ _ ?_; clear hK) | (rename_i hK _ _; refine hK _ _ ?_; clear hK) | (rename_i hK _ _ _; refine hK _ _ ?_; clear hK)
        clear hv hx
        simp only [dsts, puts, List.filterMap_cons, List.filterMap_nil, List.foldl_cons, List.foldl_nil, Act.put, List.setIfInBounds_toArray, List.set_cons_succ, List.set_cons_zero, e6, e7]
        clear e6 e7
        have HG : Hid (Below w.heap.size w wz) := Lib.hid (HB.out.trans (hG.mono HB.out.size))
        clear hG C1 C2 hcmp
        go_wp2_with fail
        rw [HF.out]
        exact ⟨⟨i, c == 0, rfl, HR.out.1⟩, HG.out⟩
      · have hin' : ¬ (i : Int) < n := by omega
        go_upto_region 8 with fail
        go_quiet (fail)
        go_wp2_with fail
        rw [HF.out]
        exact ⟨⟨i, false, rfl, HR.out.1⟩, HB.out.trans ⟨rfl, rfl, rfl, Nat.le_refl _, fun _ _ => rfl⟩⟩
end Go.Proofs.YtemnebbdaljfbaaGreatDoor

namespace Go.Proofs.YtemnebbdaljfbaaGreatDoor
open Go.ChangeShapes Go.WideShapes Go.ChangeAt Go.RowKit Go.Deep

theorem open_texts1 {H : Type} {enc : TypeId × Value → H} {W : World} {v : Value} {fuel : Nat} {x : DataW H × List MemPlace} (hf : DataW.trod enc Tryz.prog W 0 (fun _ => true) true fuel 27 [v] = some x) :
    ∃ ao cap L, v = .slice ao L.length cap ∧ Rd encS W ao L ∧ (∀ s ∈ L, (s.length : Int) ≤ 9223372036854775807) ∧ L.length ≤ 9223372036854775807 ∧ L.length ≤ cap := by
  rcases open_strings Tryz.underlying27 Tryz.underlying9 (by kernel_rfl) hf with ⟨hc, _⟩ | ⟨a', len', cap', ss, hc, _, hl, hm, hss, _, hcell, hsz⟩
  · have hc2 : [v] = [Value.slice none 0 0] := hc
    simp only [List.cons.injEq, and_true] at hc2
    subst hc2
    exact ⟨none, 0, [], rfl, Rd.nil _ _, fun s hs => by simp at hs, Nat.zero_le _, Nat.le_refl _⟩
  · have hc2 : [v] = [Value.slice (some a') len' cap'] := hc
    simp only [List.cons.injEq, and_true] at hc2
    subst hc2
    simp only [if_true] at hss
    have hlen : (ss.take len').length = len' := by rw [List.length_take]; omega
    refine ⟨some a', cap', (ss.take len').map (fun (b : ByteArray) => b.data.toList), by rw [List.length_map, hlen], ?_, ?_, ?_, ?_⟩
    · intro j hj
      have hjl : j < len' := by rw [List.length_map, hlen] at hj; exact hj
      have hc0 := hcell 0 (by omega)
      obtain ⟨bs, off, spot⟩ := a'
      have hspot : spot = none := by simpa [Addr.add] using World.cell?_spot hc0
      subst hspot
      have hcj := hcell j (by omega)
      refine ⟨bs, off, rfl, cell_block (by simpa [Addr.add_lit] using hcj), fun i u hu => ?_⟩
      have hi0 : i = 0 := by
        have := (List.getElem?_eq_some_iff.1 hu).1
        simp [encS] at this; exact this
      subst hi0
      simp only [encS, List.getElem?_cons_zero, Option.some.injEq] at hu
      subst hu
      have e : (ss.getD j ByteArray.empty) = ⟨(((ss.take len').map (fun (b : ByteArray) => b.data.toList))[j]'hj).toArray⟩ := by
        rw [List.getElem_map, List.getElem_take]
        simp [List.getD, List.getElem?_eq_getElem (show j < ss.length by omega)]
      rw [← e]
      simpa [Addr.add_lit, encS] using hcj
    · intro s hs
      obtain ⟨b, hb, rfl⟩ := List.mem_map.1 hs
      have := hsz b (List.mem_of_mem_take hb)
      unfold maxLen at this
      have e : b.data.toList.length = b.size := rfl
      omega
    · unfold maxLen at hm; rw [List.length_map, hlen]; omega
    · rw [List.length_map, hlen]; exact hl
end Go.Proofs.YtemnebbdaljfbaaGreatDoor

namespace Go.Proofs.YtemnebbdaljfbaaGreatDoor
open Go.RowKit Go.Sort Go.ChangeShapes Go.WideShapes Go.ChangeAt Go.Deep

theorem Rd.dropE {α : Type} {E : Enc α} {w : World} {bs off : Nat} {L : List α} (h : Rd E w (some ⟨bs, off, none⟩) L) (n : Nat) : Rd E w (some ⟨bs, off + n * E.k, none⟩) (L.drop n) := by
  intro j hj
  have hj2 : n + j < L.length := by rw [List.length_drop] at hj; omega
  obtain ⟨b, o, e, hb, c⟩ := h (n + j) hj2
  cases e
  refine ⟨bs, off + n * E.k, rfl, hb, fun i u hu => ?_⟩
  rw [List.getElem_drop] at hu
  have := c i u hu
  rw [Nat.add_mul] at this
  rw [show off + n * E.k + j * E.k + i = off + (n * E.k + j * E.k) + i from by omega]
  exact this
theorem wp_pushRn {α : Type} {P : Program} {o : Oper} {a : Act} {K : Act → World → Prop} {Q : Exit → Act → World → Prop} {w : World} (E : Enc α) (s x : Operand) (Ts T : TypeId) (z : Value) (by_ : Nat)
    (ho : o.op = .call { callee := .builtin .append, args := #[s, x], argTypes := #[Ts, Ts] }) (hT : P.underlying Ts = some (.slice T)) (hi : (P.info? T).map (fun i => (i.zero, i.size, i.bytes)) = some (some z, E.k, by_)) (hzs : z.cells.size = E.k) (hby : by_ ≤ 1024)
    (p : Option Addr) (cap n : Nat) (L : List α) (hn : L.length = n) (hs : a.eval s = .slice p n cap) (hS : Rw E T w p cap L) (ao : Option Addr) (m cx : Nat) (Y : List α) (hm : Y.length = m) (hx : a.eval x = .slice ao m cx) (hY : Rd E w ao Y) (hl : n + m ≤ 100000000000)
    (h : ∀ q c w', PushR E T w p (L ++ Y) q c w' → K (a.put o.dst (.slice q (n + m) c)) w') : o.wp P a w K Q := by
  cases hq : P.info? T with
  | none => rw [hq] at hi; cases hi
  | some i =>
    rw [hq] at hi
    simp only [Option.map_some, Option.some.injEq, Prod.mk.injEq] at hi
    obtain ⟨hz, h1, h2⟩ := hi
    subst hn
    subst hm
    have hmul : (L.length + Y.length) * by_ ≤ 140737488355328 := Nat.le_trans (Nat.mul_le_mul hl hby) (by decide)
    by_cases h0 : 0 < Y.length
    · obtain ⟨bs, off, rfl, hbs, _⟩ := hY 0 h0
      refine wp_append_lies w s x Ts ho 0 T i z E.k by_ hT hq hz h1 h2 hzs E.pos _ L.length (E.all L) hs hS ⟨bs, off, none⟩ Y.length cx (E.all Y) hx (E.all_len Y) ?_ (E.all_one _) h0 (by unfold maxLen; omega) hmul (Nat.zero_le _) _ rfl ?_
      · intro j u hj
        have hjl : j < Y.length * E.k := by
          have := (List.getElem?_eq_some_iff.1 hj).1
          rwa [E.all_len] at this
        have hd : j / E.k < Y.length := by rw [Nat.div_lt_iff_lt_mul E.pos]; exact hjl
        have hr : j % E.k < E.k := Nat.mod_lt _ E.pos
        have he : j / E.k * E.k + j % E.k = j := by rw [Nat.mul_comm]; exact Nat.div_add_mod j E.k
        obtain ⟨bs', off', e, _, c1⟩ := hY (j / E.k) hd
        cases e
        have hadd : (⟨bs, off, none⟩ : Addr).add j = ⟨bs, off + j, none⟩ := by unfold Addr.add; split <;> simp_all
        rw [← he, E.all_get Y _ _ hd hr] at hj
        have := c1 _ _ hj
        rw [Nat.add_assoc, he] at this
        rw [hadd, this]
      · intro g c w' hown hgrow hat _
        refine h (some ⟨g, 0, none⟩) c w' ⟨?_, ?_, ?_⟩
        · unfold Rw; rw [List.length_append, E.all_app]; exact hown
        · refine (Mod.refl _ w).grown hgrow ?_
          intro j hj _
          cases p with
          | none => simp [Value.ownBlock] at hj
          | some a => simp [Value.ownBlock] at hj; exact ⟨a, rfl, hj.symm⟩
        · rintro a' e; cases e
          rcases hat with hat | hat
          · left
            rcases hS.shape with ⟨rfl, _⟩ | ⟨g', rfl, _⟩
            · simp [Value.ownBlock] at hat
            · simp [Value.ownBlock] at hat; subst hat; rfl
          · right; rw [hat]; exact Nat.le_refl _
    · obtain rfl : Y = [] := List.eq_nil_of_length_eq_zero (by omega)
      have hfin := h p cap w ⟨by rw [List.append_nil]; exact hS, Mod.refl _ w, fun a e => .inl e⟩
      have hle : L.length ≤ cap := hS.cap_le
      have hno : p = none → L.length = 0 ∧ cap = 0 := by
        intro e
        rcases hS.shape with ⟨_, rfl, hc⟩ | ⟨g', e', _⟩
        · exact ⟨rfl, hc⟩
        · rw [e] at e'; cases e'
      have hrun := run_append_no (P := P) (w := w) Ts o.type T i hT hq p L.length cap hle hno ao cx
      unfold Oper.wp
      simp only [List.length_nil] at hx
      simp [execOp, ho, resolve, invoke, builtin, hs, hx, hrun, Result.andThen]
      simp at hfin
      exact hfin
/-- A literal of no elements. -/
theorem exec_nos {P : Program} {o : Oper} {a : Act} {w : World} (Ts T : TypeId) (ho : o.op = .buildSlice Ts 0 #[]) (hT : P.underlying Ts = some (.slice T)) {sz : Nat} (hz : (sizeOf T).run P w = .ok sz w) : (execOp a.eval o).run P w = .ok (.value (.slice (some ⟨w.heap.size, 0, none⟩) 0 0)) (w.alloc (.cells #[] T)) := by
  unfold execOp
  simp [ho, Instr.buildSlice, run_underlying hT, Instr.fill, newRow, hz]
  congr 2
  exact Array.eq_empty_of_size_eq_zero (by simp)


end Go.Proofs.YtemnebbdaljfbaaGreatDoor
