/- Texts 6: what the laws lean on. -/
import Derived.Test.YtlhndibfdccohaaDoorZ5
import Derived.Test.YtlhndibfdccohaaDoorZ4
import Derived.Test.YtlhndibfdccohaaDoorZ3
import Derived.BigRegion
namespace Go.Proofs.YtlhndibfdccohaaDoor
open Go.RowKit Go.Sort

theorem results_cell_slotT {P : Program} {fn : Func} {p q : Tmp} {ty : TypeId} (h : fn.results = #[.cell p ty, .tmp q]) (tmps : Array Value) (w : World) (g : Nat) (t : TypeId) (cs : Array Value) (fr : Nat × Nat) (d : TypeDesc) (v : Value)
    (hp : tmps.getD p undef = .pointer (some ⟨g, 0, none⟩)) (hq : tmps.getD q undef = v) (hg : w.heap[g]? = some (.cells cs t fr))
    (hu : P.underlying ty = some d) (hd : (match d with | .struct _ | .array _ _ => true | _ => false) = true) (hi : (P.info? ty).map (·.size) = some cs.size) :
    (results fn tmps).run P w = .ok (.tuple #[.agg cs, v]) w := by
  have hp' : tmps[p]?.getD undef = .pointer (some ⟨g, 0, none⟩) := by simpa using hp
  have hq' : tmps[q]?.getD undef = v := by simpa using hq
  simp [results, h, hp', hq', asAddr, run_loadVar_row w g t ty cs fr d hg hu hd hi]
/-- A block's name and header. -/
abbrev BI := Nm × Hd Nm
def famI (x : BI) : List UInt8 := hfam x.2 (kB (kset x.2.ps))
def oneI : List BI → Bool
  | [] => true
  | x :: l => !(l.any fun y => !(famI y == famI x))
def diffI (X : List BI) : Bool := decide ((X.map (·.2.mi)).Nodup) && decide ((X.map (·.1)).Nodup)
/-- What New answers of blocks. -/
def newE (X : List BI) : Int := if 5 < X.length then 4 else if X = [] then 15 else if (oneI X && diffI X) = true then 0 else 15
def isort (X : List BI) : List BI := X.mergeSort fun x y => !(ltOf cfN) y.1 x.1
theorem isort_len (X : List BI) : (isort X).length = X.length := List.length_mergeSort _
theorem bsort_is (D : List Blk) : (bsort D).map Blk.is = isort (D.map Blk.is) := by
  unfold bsort isort
  exact List.map_mergeSort (r := fun x y : Blk => !(ltOf cfN) y.id x.id) (s := fun x y : BI => !(ltOf cfN) y.1 x.1) (fun a _ b _ => rfl)
theorem bsort_mem {D : List Blk} {b : Blk} (h : b ∈ bsort D) : b ∈ D := (List.mergeSort_perm _ _).mem_iff.1 h
theorem is_ids (L : List Blk) : (L.map Blk.is).map (·.1) = L.map (·.id) := by rw [List.map_map]; rfl
theorem is_mis (L : List Blk) : (L.map Blk.is).map (·.2.mi) = L.map (·.h.mi) := by rw [List.map_map]; rfl
theorem oneI_is (b : Blk) (L : List Blk) : oneI ((b :: L).map Blk.is) = !(L.any fun x => !(famK x == famK b)) := by
  rw [List.map_cons]
  show (!((L.map Blk.is).any _)) = _
  rw [List.any_map]; rfl
/-- What New's blocks are to be. -/
structure newOk (w : World) (b : Blk) : Prop where
  f : famOk w b
  mi : -9223372036854775808 ≤ b.h.mi ∧ b.h.mi ≤ 9223372036854775807
theorem newOk.old {w w' : World} {b : Blk} (h : newOk w b) (hb : Below w.heap.size w w') : newOk w' b := ⟨h.f.old hb, h.mi⟩
/-- A tipset in memory that was made since W. -/
structure TsW (W w : World) (q : Option Addr) (c : Nat) (D : List Blk) : Prop where
  rw : Rw encK 48 w q c D
  ok : ∀ b ∈ D, okW W w b
  f : ∀ a, q = some a → W.heap.size ≤ a.block
theorem TsW.old {W w w' : World} {q : Option Addr} {c : Nat} {D : List Blk} (h : TsW W w q c D) (hb : Below w.heap.size w w') : TsW W w' q c D :=
  ⟨h.rw.old hb, fun b hb' => ⟨(h.ok b hb').rw.old hb, (h.ok b hb').f, (h.ok b hb').n, (h.ok b hb').k⟩, h.f⟩
theorem TsW.kept {W w w' : World} {q : Option Addr} {c : Nat} {D : List Blk} {S : Nat → Prop} (h : TsW W w q c D) (hm : Mod S w w') (hS : ∀ i, S i → i < W.heap.size ∨ w.heap.size ≤ i) : TsW W w' q c D :=
  ⟨h.rw.kept hm (fun a e hs => by subst e; have h1 := h.f a rfl; have h2 := h.rw.lt; rcases hS _ hs with h | h <;> omega), fun b hb' => ⟨(h.ok b hb').rw.kept hm (fun a e hs => by have h1 := (h.ok b hb').f a e; have h2 := (h.ok b hb').rw; rw [e] at h2; have h3 := h2.lt; rcases hS _ hs with h | h <;> omega), (h.ok b hb').f, (h.ok b hb').n, (h.ok b hb').k⟩, h.f⟩
/-- What New leaves. -/
def NewP (w : World) (X : List BI) (n : Nat) (r : Ending) (w' : World) : Prop :=
  Below w.heap.size w w' ∧ ((newE X ≠ 0 ∧ r = .returned (.tuple #[.agg #[.slice none 0 0], .int .i64 (newE X)])) ∨
    (newE X = 0 ∧ ∃ q c D, r = .returned (.tuple #[.agg #[.slice q n c], .int .i64 0]) ∧ TsW w w' q c D ∧ D.map Blk.is = isort X))
end Go.Proofs.YtlhndibfdccohaaDoor

namespace Go.Proofs.YtlhndibfdccohaaDoor
open Go.RowKit Go.Sort

set_option maxRecDepth 20000 in
set_option maxHeartbeats 4000000 in
theorem tsnew_any (p : Option Addr) (c : Nat) (L : List Blk) (w : World) (hR : Rd encK w p L) (hn : L.length ≤ 900000) (hc : L.length ≤ c) (hk : ∀ x ∈ L, newOk w x) :
    Calls Tryd.prog 8 #[.slice p L.length c] w fun r w' => NewP w (L.map Blk.is) L.length r w' := by
  have HOW := Lib.hid (fun w' (hb : Below w.heap.size w w') => tsowned_any p c L w' (hR.old hb) (fun b h => ((hk b h).old hb).f.ok) (by omega))
  have HUN := Lib.hid (fun w' (hb : Below w.heap.size w w') => tsunlike_any p c L w' (hR.old hb) (by omega) (fun b h => (hk b h).mi))
  have HFM := Lib.hid (fun w' (hb : Below w.heap.size w w') b l (e : L = b :: l) => tsfam_any p c b l w' (e ▸ hR.old hb) (by rw [e] at hn; simp at hn; omega) (by rw [e] at hc; simpa using hc) (fun x hx => (hk x (e ▸ hx)).f.old hb))
  obtain ⟨n, hnl⟩ : ∃ n, n = L.length := ⟨_, rfl⟩
  obtain ⟨X, hX⟩ : ∃ X, X = L.map Blk.is := ⟨_, rfl⟩
  have hXl : X.length = n := by rw [hX, List.length_map, hnl]
  obtain ⟨F, hF⟩ : ∃ F : Ending → World → Prop, F = fun r w' => NewP w X n r w' := ⟨_, rfl⟩
  rw [← hnl, ← hX]
  rw [← hnl] at hn hc
  have hF2 : (fun r w' => NewP w X n r w') = F := hF.symm
  rw [hF2]
  have HF := Lib.hid hF
  have HX := Lib.hid hX
  have HNL := Lib.hid hnl
  have HB0 := alloc1 w (.cells #[.slice none 0 0] 27)
  have hz0 := heap_alloc_new w (.cells #[.slice none 0 0] 27)
  have HZ0 := Lib.hid hz0
  have HBB := Lib.hid HB0
  have hse : ∀ (W : World) (e : Int) (cs : Array Value), Below w.heap.size w W → W.heap[w.heap.size]? = some (.cells #[.slice none 0 0] 27 (0, 0)) → Below w.heap.size w (W.setRow w.heap.size cs) := fun W e cs hb hw => hb.trans (((Mod.refl (fun _ => False) W).setRow (g := w.heap.size) cs).to_below hb.size (by rintro i hi (h | h); exact h; omega))
  have HSE := Lib.hid hse
  have hq3 : (Tryd.prog.info? 27).map (·.size) = some 1 := by kernel_rfl
  have HQ3 := Lib.hid hq3
  clear hF hF2 hnl hX hR hk HB0 hz0 hse hq3
  by_cases h5 : 5 < n
  · have h5' : (5 : Int) < (n : Int) := by omega
    have HE : Hid (newE X = 4) := Lib.hid (by unfold newE; rw [if_pos (by omega)])
    clear h5 hXl HOW HUN HFM
    go_enter Tryd.func8, Tryd.ntmps8
    go_wp2_with (refine wpList_store_row rfl rfl 27 (.tmp 2) (.tmp 9) rfl w.heap.size rfl 27 #[.slice none 0 0] #[.slice none 0 0] rfl HZ0.out rfl HQ3.out (by simp [Value.oneCell']) ?_)
    have L0 := setRow_heap (w.alloc (.cells #[.slice none 0 0] 27)) w.heap.size _ #[.slice none 0 0] 27 (0, 0) HZ0.out
    have LB := HSE.out _ 0 #[.slice none 0 0] HBB.out HZ0.out
    rw [HF.out]
    exact bodyPost_ret (v := .tuple #[.agg #[.slice none 0 0], .int .i64 4]) (results_cell_slotT Tryd.results8 _ _ w.heap.size 27 _ (0, 0) _ _ rfl rfl L0 Tryd.underlying27 rfl HQ3.out) rfl ⟨LB, .inl ⟨by rw [HE.out]; decide, by rw [HE.out]⟩⟩
  · have h5' : ¬ (5 : Int) < (n : Int) := by omega
    by_cases h0 : n = 0
    · have h0' : ((n : Int) == 0) = true := by simp; omega
      have HE : Hid (newE X = 15) := Lib.hid (by unfold newE; rw [if_neg (by omega), if_pos (List.eq_nil_of_length_eq_zero (by omega))])
      have HZ1 := HZ0
      have HB1 := HBB
      clear h5 h0 hXl HOW HUN HFM
      go_enter Tryd.func8, Tryd.ntmps8
      go_wp2_with (refine wpList_store_row rfl rfl 27 (.tmp 2) (.tmp 24) rfl w.heap.size rfl 27 #[.slice none 0 0] #[.slice none 0 0] rfl HZ1.out rfl HQ3.out (by simp [Value.oneCell']) ?_)
      have L0 := setRow_heap (w.alloc (.cells #[.slice none 0 0] 27)) w.heap.size _ #[.slice none 0 0] 27 (0, 0) HZ1.out
      have LB := HSE.out _ 0 #[.slice none 0 0] HB1.out HZ1.out
      rw [HF.out]
      exact bodyPost_ret (v := .tuple #[.agg #[.slice none 0 0], .int .i64 15]) (results_cell_slotT Tryd.results8 _ _ w.heap.size 27 _ (0, 0) _ _ rfl rfl L0 Tryd.underlying27 rfl HQ3.out) rfl ⟨LB, .inl ⟨by rw [HE.out]; decide, by rw [HE.out]⟩⟩
    · have h0' : ((n : Int) == 0) = false := by simp; omega
      obtain ⟨b, l, e⟩ : ∃ b l, L = b :: l := by
        cases L with
        | nil => exact absurd HNL.out (by simpa using h0)
        | cons b l => exact ⟨b, l, rfl⟩
      obtain ⟨fm, hfm⟩ : ∃ f, f = oneI X := ⟨_, rfl⟩
      obtain ⟨ul, hul⟩ : ∃ f, f = diffI X := ⟨_, rfl⟩
      have HF1 : Hid (∀ w', Below w.heap.size w w' → Calls Tryd.prog 32 #[.slice p n c] w' fun r w'' => r = .returned (.bool fm) ∧ Below w'.heap.size w' w'') := Lib.hid (fun w' hb => by
        have := HFM.out w' hb b l e
        rw [hfm, HX.out, e, oneI_is, HNL.out, e]; exact this)
      have HU1 : Hid (∀ w', Below w.heap.size w w' → Calls Tryd.prog 33 #[.slice p n c] w' fun r w'' => r = .returned (.bool ul) ∧ Below w'.heap.size w' w'') := Lib.hid (fun w' hb => by
        have := HUN.out w' hb
        rw [hul, HX.out, HNL.out]
        unfold diffI
        rw [is_mis, is_ids]; exact this)
      have HE0 : Hid (newE X = if (fm && ul) = true then 0 else 15) := Lib.hid (by
        unfold newE
        rw [if_neg (by omega), if_neg (fun q => h0 (by rw [← hXl, q]; rfl)), hfm, hul])
      have HUL := Lib.hid hul
      clear HUN HFM hul hfm e h5 h0
      cases fm
      · have HE : Hid (newE X = 15) := Lib.hid (by rw [HE0.out]; rfl)
        go_enter Tryd.func8, Tryd.ntmps8
        go_wp2_with fail
        refine (HF1.out _ HBB.out).mono ?_
        rintro r w1 ⟨rfl, hb1⟩
        have HB1 := Lib.hid (HBB.out.trans (hb1.mono HBB.out.size))
        have HZ1 := Lib.hid ((hb1.block _ (Array.getElem?_eq_some_iff.1 HZ0.out).1).trans HZ0.out)
        clear hb1
        go_wp2_with (refine wpList_store_row rfl rfl 27 (.tmp 2) (.tmp 24) rfl w.heap.size rfl 27 #[.slice none 0 0] #[.slice none 0 0] rfl HZ1.out rfl HQ3.out (by simp [Value.oneCell']) ?_)
        have L0 := setRow_heap w1 w.heap.size _ #[.slice none 0 0] 27 (0, 0) HZ1.out
        have LB := HSE.out _ 0 #[.slice none 0 0] HB1.out HZ1.out
        rw [HF.out]
        exact bodyPost_ret (v := .tuple #[.agg #[.slice none 0 0], .int .i64 15]) (results_cell_slotT Tryd.results8 _ _ w.heap.size 27 _ (0, 0) _ _ rfl rfl L0 Tryd.underlying27 rfl HQ3.out) rfl ⟨LB, .inl ⟨by rw [HE.out]; decide, by rw [HE.out]⟩⟩
      · cases ul
        · have HE : Hid (newE X = 15) := Lib.hid (by rw [HE0.out]; rfl)
          go_enter Tryd.func8, Tryd.ntmps8
          go_wp2_with fail
          refine (HF1.out _ HBB.out).mono ?_
          rintro r w1 ⟨rfl, hb1⟩
          have HBA := Lib.hid (HBB.out.trans (hb1.mono HBB.out.size))
          have HZA := Lib.hid ((hb1.block _ (Array.getElem?_eq_some_iff.1 HZ0.out).1).trans HZ0.out)
          clear hb1
          go_wp2_with fail
          refine (HU1.out _ HBA.out).mono ?_
          rintro r w2 ⟨rfl, hb2⟩
          have HB1 := Lib.hid (HBA.out.trans (hb2.mono HBA.out.size))
          have HZ1 := Lib.hid ((hb2.block _ (Array.getElem?_eq_some_iff.1 HZA.out).1).trans HZA.out)
          clear hb2
          go_wp2_with (refine wpList_store_row rfl rfl 27 (.tmp 2) (.tmp 24) rfl w.heap.size rfl 27 #[.slice none 0 0] #[.slice none 0 0] rfl HZ1.out rfl HQ3.out (by simp [Value.oneCell']) ?_)
          have L0 := setRow_heap w2 w.heap.size _ #[.slice none 0 0] 27 (0, 0) HZ1.out
          have LB := HSE.out _ 0 #[.slice none 0 0] HB1.out HZ1.out
          rw [HF.out]
          exact bodyPost_ret (v := .tuple #[.agg #[.slice none 0 0], .int .i64 15]) (results_cell_slotT Tryd.results8 _ _ w.heap.size 27 _ (0, 0) _ _ rfl rfl L0 Tryd.underlying27 rfl HQ3.out) rfl ⟨LB, .inl ⟨by rw [HE.out]; decide, by rw [HE.out]⟩⟩
        · have HE : Hid (newE X = 0) := Lib.hid (by rw [HE0.out]; rfl)
          go_enter Tryd.func8, Tryd.ntmps8
          go_wp2_with fail
          refine (HF1.out _ HBB.out).mono ?_
          rintro r w1 ⟨rfl, hb1⟩
          have HBA := Lib.hid (HBB.out.trans (hb1.mono HBB.out.size))
          have HZA := Lib.hid ((hb1.block _ (Array.getElem?_eq_some_iff.1 HZ0.out).1).trans HZ0.out)
          clear hb1
          go_wp2_with fail
          refine (HU1.out _ HBA.out).mono ?_
          rintro r w2 ⟨rfl, hb2⟩
          have HB1 := Lib.hid (HBA.out.trans (hb2.mono HBA.out.size))
          have HZ1 := Lib.hid ((hb2.block _ (Array.getElem?_eq_some_iff.1 HZA.out).1).trans HZA.out)
          clear hb2
          have HOW2 := Lib.hid (HOW.out w2 HB1.out)
          rw [← HNL.out] at HOW2
          go_wp2_with fail
          refine HOW2.out.mono ?_
          rintro r w3 ⟨q, c2, rfl, hO⟩
          obtain ⟨D, hDl, hDr, hDi, hDo⟩ := hO.ex
          have hDi2 : D.map Blk.is = X := by rw [hDi, List.take_of_length_le (by rw [← HNL.out]; exact Nat.le_refl _), ← HX.out]
          have hnd : (D.map (·.id)).Nodup := by
            have := HUL.out
            unfold diffI at this
            rw [← is_ids, hDi2]
            have h2 := (Bool.and_eq_true_iff.1 this.symm).2
            exact of_decide_eq_true h2
          have HZ3 := Lib.hid ((hO.b.block _ (Array.getElem?_eq_some_iff.1 HZ1.out).1).trans HZ1.out)
          have HST := Lib.hid (tssort_any q c2 D w3 hDr (by rw [hDl]; omega) hnd)
          rw [hDl] at HST
          have HOO := Lib.hid hO
          have HDI := Lib.hid hDi2
          have HDO := Lib.hid hDo
          clear hO hDr hDi hDo hDi2 hnd
          go_wp2_with fail
          refine HST.out.mono ?_
          rintro r w4 ⟨rfl, hr4, hm4⟩
          have hw2 : w.heap.size ≤ w2.heap.size := HB1.out.size
          have hT : TsW w w4 q c2 (bsort D) := by
            refine ⟨hr4, fun x hx => ?_, fun a e => Nat.le_trans hw2 (HOO.out.f a e)⟩
            have h1 := HDO.out x (bsort_mem hx)
            refine ⟨h1.rw.kept hm4 (fun a e ⟨a', e', q'⟩ => ?_), fun a e => Nat.le_trans hw2 (h1.f a e), h1.n, h1.k⟩
            have hT : 43 ≠ 48 := by decide
            obtain ⟨D2, _, hD2, _⟩ := HOO.out.ex
            exact Rw.ne h1.rw hD2 hT a a' e e' q'
          have hb4 : Below w.heap.size w w4 := by
            have h1 := HB1.out.trans (HOO.out.b.mono HB1.out.size)
            exact h1.trans (hm4.to_below h1.size (by rintro i hi ⟨a, e, rfl⟩; have := HOO.out.f a e; omega))
          have hz4 : w4.heap[w.heap.size]? = some (.cells #[.slice none 0 0] 27 (0, 0)) := by
            have hlt := (Array.getElem?_eq_some_iff.1 HZ3.out).1
            have hlt1 := (Array.getElem?_eq_some_iff.1 HZ1.out).1
            exact (hm4.block _ hlt (by rintro ⟨a, e, e2⟩; have := HOO.out.f a e; omega)).trans HZ3.out
          have HB4 := Lib.hid hb4
          have HZ4 := Lib.hid hz4
          have HIS : Hid ((bsort D).map Blk.is = isort X) := Lib.hid (by rw [bsort_is, HDI.out])
          have hm5 : Mod (fun i => False ∨ i = w.heap.size) w4 (w4.setRow w.heap.size #[.slice q n c2]) := (Mod.refl (fun _ => False) w4).setRow (g := w.heap.size) _
          have HT5 : Hid (TsW w (w4.setRow w.heap.size #[.slice q n c2]) q c2 (bsort D)) := Lib.hid ⟨hT.rw.kept hm5 (fun a e h => by
            rcases h with h | h
            · exact h
            · have hr := hT.rw
              rcases hr.shape with ⟨e1, _⟩ | ⟨g1, e1, _, _, _, cur, hh, _⟩
              · rw [e1] at e; cases e
              · rw [e1] at e; cases e
                simp only at h
                rw [h, hz4] at hh
                simp only [Option.some.injEq, Obj.cells.injEq] at hh
                exact absurd hh.2.1 (by decide)), fun x hx => by
            have h1 := hT.ok x hx
            refine ⟨h1.rw.kept hm5 (fun a e h => ?_), h1.f, h1.n, h1.k⟩
            rcases h with h | h
            · exact h
            · have hr := h1.rw
              rcases hr.shape with ⟨e1, _⟩ | ⟨g1, e1, _, _, _, cur, hh, _⟩
              · rw [e1] at e; cases e
              · rw [e1] at e; cases e
                simp only at h
                rw [h, hz4] at hh
                simp only [Option.some.injEq, Obj.cells.injEq] at hh
                exact absurd hh.2.1 (by decide), hT.f⟩
          clear hr4 hm4 hT hb4 hz4 hm5 hw2 HST HOO HDO
          go_wp2_with (refine wpList_store_row rfl rfl 27 (.tmp 2) (.tmp 30) rfl w.heap.size rfl 27 #[.slice none 0 0] #[.slice q n c2] rfl HZ4.out rfl HQ3.out (by simp [Value.oneCell']) ?_)
          have L0 := setRow_heap w4 w.heap.size _ #[.slice q n c2] 27 (0, 0) HZ4.out
          have LB := HSE.out _ 0 #[.slice q n c2] HB4.out HZ4.out
          rw [HF.out]
          exact bodyPost_ret (v := .tuple #[.agg #[.slice q n c2], .int .i64 0]) (results_cell_slotT Tryd.results8 _ _ w.heap.size 27 _ (0, 0) _ _ rfl rfl L0 Tryd.underlying27 rfl HQ3.out) rfl ⟨LB, .inr ⟨HE.out, q, c2, bsort D, rfl, HT5.out, HIS.out⟩⟩
end Go.Proofs.YtlhndibfdccohaaDoor

namespace Go.Proofs.YtlhndibfdccohaaDoor
open Go.RowKit

theorem cat_bytes (a b : List UInt8) : (⟨a.toArray⟩ : ByteArray) ++ (⟨b.toArray⟩ : ByteArray) = ⟨(a ++ b).toArray⟩ := by
  apply ByteArray.ext; simp

set_option maxRecDepth 20000 in
set_option maxHeartbeats 4000000 in
theorem rjoin_any (ao : Option Addr) (cap : Nat) (L : List (List UInt8)) (w : World) (hL : Rd encS w ao L) (hn : L.length ≤ 1000000) (hl : L.flatten.length ≤ 1000000000) :
    Calls Tryd.prog 75 #[.slice ao L.length cap] w fun r w' => r = .returned (.string ⟨L.flatten.toArray⟩) ∧ w = w' := by
  obtain ⟨n, hnL⟩ : ∃ n, n = L.length := ⟨_, rfl⟩
  obtain ⟨S, hS⟩ : ∃ S, S = L.flatten := ⟨_, rfl⟩
  rw [← hS] at hl ⊢
  rw [← hnL] at hn ⊢
  have Hn := Lib.hid hnL
  have HS := Lib.hid hS
  have HL := Lib.hid hL
  clear hnL hL hS
  go_enter Tryd.func75, Tryd.ntmps75
  go_wp2_with fail
  go_loopw [3, 5, 8] (fun s3 _ s8 wr => ∃ (k : Nat) (D : List UInt8), k ≤ n ∧ s8 = .int .i64 (k : Int) ∧ s3 = .string ⟨D.toArray⟩ ∧ Hid (D = (L.take k).flatten) ∧ Hid (w = wr)) (fun _ _ i _ => n - (intOf i).toNat)
  case atStart => exact ⟨0, [], Nat.zero_le _, rfl, rfl, Lib.hid rfl, Lib.hid rfl⟩
  case round =>
    obtain ⟨k, D, hk, rfl, rfl, HD, HW⟩ := hrel
    by_cases hlt : k < n
    · have hkL : k < L.length := by rw [← Hn.out]; exact hlt
      have hw := HW.out
      subst hw
      obtain ⟨bs, off, rfl, hbs, cx⟩ := HL.out.str k hkL
      have hnx : L.take (k + 1) = L.take k ++ [L[k]] := List.take_succ_eq_append_getElem hkL
      obtain ⟨x, hx⟩ : ∃ x, x = L[k] := ⟨_, rfl⟩
      rw [← hx] at cx hnx
      have Hnx : Hid (D ++ x = (L.take (k + 1)).flatten) := Lib.hid (by rw [hnx, List.flatten_append, HD.out]; simp)
      have i0 : (0 : Int) ≤ k := by omega
      have i1 : (k : Int) < n := by omega
      have Hlt := Lib.hid hlt
      have hle : D.length + x.length ≤ 1000000000 := by
        have e : S = (L.take (k + 1)).flatten ++ (L.drop (k + 1)).flatten := by rw [HS.out, ← List.flatten_append, List.take_append_drop]
        have e2 := congrArg List.length e
        rw [List.length_append, ← Hnx.out, List.length_append] at e2
        omega
      have hle2 : (D.length : Int) + x.length ≤ 9223372036854775807 := by omega
      have hle3 : D.length + x.length ≤ 9223372036854775807 := by omega
      clear hle
      clear hx hnx hkL hlt
      go_wp2_with fail
      go_roundw
      case rel => exact ⟨k + 1, D ++ x, by have := Hlt.out; omega, by go_num, val_str (cat_bytes D x), Hnx, Lib.hid trivial⟩
      case measure => have := Hlt.out; simp [intOf]; omega
    · have i1 : ¬ (k : Int) < n := by omega
      have e : k = n := by omega
      obtain rfl : D = S := by rw [HD.out, HS.out, e, Hn.out, List.take_length]
      clear e
      go_wp2_with fail
      go_ret
      exact ⟨rfl, HW.out⟩
end Go.Proofs.YtlhndibfdccohaaDoor

namespace Go.Proofs.YtlhndibfdccohaaDoor
open Go.RowKit

theorem insB_len (s : List UInt8) (l : List (List UInt8)) : (insB s l).length ≤ l.length + 1 := by
  induction l with
  | nil => simp [insB]
  | cons t r ih => rw [insB]; split
                   · simp
                   · split <;> simp <;> omega
theorem rsort_len (L : List (List UInt8)) : (rsort L).length ≤ L.length := by
  have h : ∀ (L A : List (List UInt8)), (L.foldl (fun out s => insB s out) A).length ≤ A.length + L.length := by
    intro L
    induction L with
    | nil => intro A; exact Nat.le_refl _
    | cons s l ih => intro A; have := ih (insB s A); have := insB_len s A; rw [List.foldl_cons, List.length_cons]; omega
  have := h L []; simpa [rsort] using this
/-- The inner loop behind j rounds. -/
def inJ (s : List UInt8) (M : List (List UInt8)) (j : Nat) : List (List UInt8) × Bool := (M.take j).foldl (insR s) ([], false)
theorem inJ_zero (s : List UInt8) (M : List (List UInt8)) : inJ s M 0 = ([], false) := rfl
theorem inJ_succ (s : List UInt8) (M : List (List UInt8)) (j : Nat) (h : j < M.length) : inJ s M (j + 1) = insR s (inJ s M j) M[j] := by
  unfold inJ; rw [List.take_succ_eq_append_getElem h, List.foldl_append]; rfl
theorem inJ_len (s : List UInt8) (M : List (List UInt8)) (j : Nat) : (inJ s M j).1.length ≤ 2 * j := by
  induction j with
  | zero => simp [inJ]
  | succ j ih =>
    by_cases h : j < M.length
    · rw [inJ_succ s M j h]
      unfold insR
      split
      · simp only [List.length_append, List.length_cons, List.length_nil]; omega
      · simp only [List.length_append, List.length_cons, List.length_nil]; omega
    · unfold inJ at ih ⊢
      rw [List.take_of_length_le (by omega)]
      rw [List.take_of_length_le (by omega)] at ih
      omega
theorem inJ_end (s : List UInt8) (M : List (List UInt8)) : insE s (inJ s M M.length) = insB s M := by
  unfold inJ; rw [List.take_length]; have := insR_false s M []; simpa using this
/-- The three ways that a text stands to another one. -/
theorem tri (s t : List UInt8) : (Op.bytesLess s t = true ∧ ∀ R, insR s (R, false) t = (R ++ [s] ++ [t], true)) ∨ (Op.bytesLess s t = false ∧ (s == t) = false ∧ ∀ R, insR s (R, false) t = (R ++ [t], false)) ∨ (Op.bytesLess s t = false ∧ (s == t) = true ∧ ∀ R, insR s (R, false) t = (R ++ [t], true)) := by
  by_cases h1 : Lib.compareBytes s t < 0
  · have h2 : ¬ Lib.compareBytes t s < 0 := fun h => by have := cmpB_trans s t s h1 h; rw [cmpB_self] at this; exact absurd this (by decide)
    exact .inl ⟨by rw [less_cmp, decide_eq_true h1], fun R => by simp [insR, h1, h2]⟩
  · by_cases h2 : Lib.compareBytes t s < 0
    · have h3 : s ≠ t := fun e => by rw [e, cmpB_self] at h2; exact absurd h2 (by decide)
      exact .inr (.inl ⟨by rw [less_cmp, decide_eq_false h1], by simp [h3], fun R => by simp [insR, h1, h2]⟩)
    · have h3 := cmpB_eq s t h1 h2
      exact .inr (.inr ⟨by rw [less_cmp, decide_eq_false h1], by simp [h3], fun R => by simp [insR, h1, h2]⟩)
theorem insR_t (s t : List UInt8) (R : List (List UInt8)) : insR s (R, true) t = (R ++ [t], true) := by simp [insR]
theorem AccR.one {w wr : World} {k : Nat} {D : List (List UInt8)} {q : Option Addr} {c : Nat} (h : AccR encS 9 w k D q c wr) (s : List UInt8) :
    Rw encS 9 (wr.alloc (.cells #[.string ⟨s.toArray⟩] 9)) q c D ∧ Rd encS (wr.alloc (.cells #[.string ⟨s.toArray⟩] 9)) (some ⟨wr.heap.size, 0, none⟩) [s] ∧
    ∀ q' c' w', PushR encS 9 (wr.alloc (.cells #[.string ⟨s.toArray⟩] 9)) q (D ++ [s]) q' c' w' → AccR encS 9 w (k + 1) (D ++ [s]) q' c' w' := by
  have h2 := h.below ((Below.refl wr.heap.size wr).alloc (Nat.le_refl _) (.cells #[.string ⟨s.toArray⟩] 9))
  exact ⟨h2.s, Rd.made encS wr 9 [s] (by simp [maxLen]), fun q' c' w' hP => h2.push hP⟩

set_option maxRecDepth 20000 in
set_option maxHeartbeats 4000000 in
theorem rsorts_any (ao : Option Addr) (cap : Nat) (L : List (List UInt8)) (w : World) (hL : Rd encS w ao L) (hn : L.length ≤ 100000) :
    Calls Tryd.prog 65 #[.slice ao L.length cap] w fun r w' => ∃ q c, r = .returned (.slice q (rsort L).length c) ∧ Rw encS 9 w' q c (rsort L) ∧ (∀ a, q = some a → w.heap.size ≤ a.block) ∧ Below w.heap.size w w' := by
  obtain ⟨n, hnL⟩ : ∃ n, n = L.length := ⟨_, rfl⟩
  obtain ⟨F, hF⟩ : ∃ F : Ending → World → Prop, F = fun r w' => ∃ q c, r = .returned (.slice q (rsort L).length c) ∧ Rw encS 9 w' q c (rsort L) ∧ (∀ a, q = some a → w.heap.size ≤ a.block) ∧ Below w.heap.size w w' := ⟨_, rfl⟩
  rw [← hF]
  rw [← hnL] at hn ⊢
  have HF := Lib.hid hF
  have Hn := Lib.hid hnL
  have HL := Lib.hid hL
  clear hnL hL hF
  go_enter Tryd.func65, Tryd.ntmps65
  go_wp2_with fail
  go_loopw [3, 5, 6, 7, 9, 13] (fun s3 _ _ _ _ s13 wr => ∃ (i : Nat) (q : Option Addr) (c m : Nat), i ≤ n ∧ s13 = .int .i64 (i : Int) ∧ s3 = .slice q m c ∧ Hid (m = (rsort (L.take i)).length) ∧ Hid (Rw encS 9 wr q c (rsort (L.take i)) ∧ (∀ a, q = some a → w.heap.size ≤ a.block) ∧ Below w.heap.size w wr)) (fun _ _ _ _ _ i _ => n - (intOf i).toNat)
  case atStart => exact ⟨0, some ⟨w.heap.size, 0, none⟩, 0, 0, Nat.zero_le _, rfl, rfl, Lib.hid rfl, Lib.hid ⟨Rw.made (E := encS) 9 w [] (by simp [maxLen]), (fun a e => by cases e; exact Nat.le_refl _), (Below.refl _ _).alloc (Nat.le_refl _) _⟩⟩
  case round =>
    rename World => w1
    obtain ⟨i, q, c, m, hi, rfl, rfl, HM, HW⟩ := hrel
    by_cases hlt : i < n
    · have hiL : i < L.length := by rw [← Hn.out]; exact hlt
      obtain ⟨bs, off, rfl, hbs, cx⟩ := (HL.out.old HW.out.2.2).str i hiL
      have hnx : rsort (L.take (i + 1)) = insB L[i] (rsort (L.take i)) := by rw [List.take_succ_eq_append_getElem hiL, rsort_snoc]
      obtain ⟨s, hs⟩ : ∃ s, s = L[i] := ⟨_, rfl⟩
      rw [← hs] at cx hnx
      have Hnx := Lib.hid hnx
      have hml : m ≤ 100000 := by have := rsort_len (L.take i); rw [← HM.out, List.length_take] at this; omega
      obtain ⟨M, hM⟩ : ∃ M, M = rsort (L.take i) := ⟨_, rfl⟩
      rw [← hM] at HM HW Hnx
      have i0 : (0 : Int) ≤ i := by omega
      have i1 : (i : Int) < n := by omega
      have Hlt := Lib.hid hlt
      clear hM hs hnx hiL hlt
      go_wp2_with fail
      clear cx
      go_loopw [6, 7, 9, 20] (fun s6 s7 _ s20 wr => ∃ (j : Nat) (q2 : Option Addr) (c2 k : Nat) (d : Bool), j ≤ m ∧ k ≤ 2 * j ∧ s20 = .int .i64 (j : Int) ∧ s6 = .slice q2 k c2 ∧ s7 = .bool d ∧ Hid (d = (inJ s M j).2) ∧ Hid (AccR encS 9 w1 k (inJ s M j).1 q2 c2 wr)) (fun _ _ _ j _ => m - (intOf j).toNat)
      case atStart => exact ⟨0, some ⟨w1.heap.size, 0, none⟩, 0, 0, false, Nat.zero_le _, Nat.le_refl _, rfl, rfl, rfl, Lib.hid rfl, Lib.hid ⟨Rw.made (E := encS) 9 w1 [] (by simp [maxLen]), rfl, (fun a e => by cases e; exact Nat.le_refl _), (Below.refl _ _).alloc (Nat.le_refl _) _⟩⟩
      case round =>
        obtain ⟨j, q2, c2, k, d, hj, hk, rfl, rfl, rfl, HD, HA⟩ := hrel
        by_cases hjm : j < m
        · have hjM : j < M.length := by rw [← HM.out]; exact hjm
          obtain ⟨b2, o2, rfl, hb2, cy⟩ := (HW.out.1.old HA.out.m).rd.str j hjM
          have hnx := inJ_succ s M j hjM
          obtain ⟨t, ht⟩ : ∃ t, t = M[j] := ⟨_, rfl⟩
          rw [← ht] at cy hnx
          obtain ⟨R, hR⟩ : ∃ R, R = (inJ s M j).1 := ⟨_, rfl⟩
          rw [← hR] at HA
          have hpair : inJ s M j = (R, d) := by rw [hR, HD.out]
          rw [hpair] at hnx
          have j0 : (0 : Int) ≤ j := by omega
          have j1 : (j : Int) < m := by omega
          have Hjm := Lib.hid hjm
          have HRk := Lib.hid HA.out.len
          obtain ⟨a1, a2, a3⟩ := HA.out.one t
          have A1 := Lib.hid a1
          have A2 := Lib.hid a2
          have A3 := Lib.hid a3
          clear ht hR hpair hjM a1 a2 a3 HD hjm
          cases d with
          | true =>
            rw [insR_t] at hnx
            have Hnx2 := Lib.hid hnx
            clear hnx
            go_wp2_with ((at_builtin; refine wpList_pushR encS rfl _ _ 32 9 (.string ⟨#[]⟩) 16 rfl Tryd.underlying32 info_strH rfl (by decide) q2 c2 k R HRk.out rfl A1.out (some ⟨wr.heap.size, 0, none⟩) 1 1 [t] rfl rfl A2.out (by omega) ?_; intro q' c' w5 hP))
            have HP := Lib.hid (A3.out _ _ _ hP)
            have hjm := Hjm.out
            clear hP A1 A2 A3
            go_roundw
            case rel => exact ⟨j + 1, q', c', k + 1, true, by omega, by omega, by go_num, rfl, rfl, Lib.hid (by rw [Hnx2.out]), Lib.hid (by rw [Hnx2.out]; exact HP.out)⟩
            case measure => simp [intOf]; omega
          | false =>
            rcases tri s t with ⟨g1, g2⟩ | ⟨g1, g3, g2⟩ | ⟨g1, g3, g2⟩
            · rw [g2] at hnx
              have Hnx2 := Lib.hid hnx
              obtain ⟨b1, b4, b5⟩ := HA.out.one s
              have B1 := Lib.hid b1
              have B4 := Lib.hid b4
              have B5 := Lib.hid b5
              clear hnx g2 b1 b4 b5 A1 A2 A3
              go_wp2_with (first | (at_builtin; refine wpList_pushR encS rfl _ _ 32 9 (.string ⟨#[]⟩) 16 rfl Tryd.underlying32 info_strH rfl (by decide) q2 c2 k R HRk.out rfl B1.out (some ⟨wr.heap.size, 0, none⟩) 1 1 [s] rfl rfl B4.out (by omega) ?_; intro q' c' w5 hP; have HP1 := Lib.hid (B5.out _ _ _ hP); have HL1 := Lib.hid HP1.out.len; have A1 := Lib.hid (HP1.out.one t).1; have A2 := Lib.hid (HP1.out.one t).2.1; have A3 := Lib.hid (HP1.out.one t).2.2; clear hP) | (at_builtin; refine wpList_pushR encS rfl _ _ 32 9 (.string ⟨#[]⟩) 16 rfl Tryd.underlying32 info_strH rfl (by decide) q' c' (k + 1) (R ++ [s]) HL1.out rfl A1.out (some ⟨w5.heap.size, 0, none⟩) 1 1 [t] rfl rfl A2.out (by omega) ?_; intro q9 c9 w6 hP2))
              have HP := Lib.hid (A3.out _ _ _ hP2)
              have hjm := Hjm.out
              clear hP2 A1 A2 A3 B1 B4 B5
              go_roundw
              case rel => exact ⟨j + 1, q9, c9, k + 1 + 1, true, by omega, by omega, by go_num, rfl, rfl, Lib.hid (by rw [Hnx2.out]), Lib.hid (by rw [Hnx2.out]; exact HP.out)⟩
              case measure => simp [intOf]; omega
            · rw [g2] at hnx
              have Hnx2 := Lib.hid hnx
              clear hnx g2
              go_wp2_with (at_builtin; refine wpList_pushR encS rfl _ _ 32 9 (.string ⟨#[]⟩) 16 rfl Tryd.underlying32 info_strH rfl (by decide) q2 c2 k R HRk.out rfl A1.out (some ⟨wr.heap.size, 0, none⟩) 1 1 [t] rfl rfl A2.out (by omega) ?_; intro q' c' w5 hP)
              have HP := Lib.hid (A3.out _ _ _ hP)
              have hjm := Hjm.out
              clear hP A1 A2 A3
              go_roundw
              case rel => exact ⟨j + 1, q', c', k + 1, false, by omega, by omega, by go_num, rfl, rfl, Lib.hid (by rw [Hnx2.out]), Lib.hid (by rw [Hnx2.out]; exact HP.out)⟩
              case measure => simp [intOf]; omega
            · rw [g2] at hnx
              have Hnx2 := Lib.hid hnx
              clear hnx g2
              go_wp2_with (at_builtin; refine wpList_pushR encS rfl _ _ 32 9 (.string ⟨#[]⟩) 16 rfl Tryd.underlying32 info_strH rfl (by decide) q2 c2 k R HRk.out rfl A1.out (some ⟨wr.heap.size, 0, none⟩) 1 1 [t] rfl rfl A2.out (by omega) ?_; intro q' c' w5 hP)
              have HP := Lib.hid (A3.out _ _ _ hP)
              have hjm := Hjm.out
              clear hP A1 A2 A3
              go_roundw
              case rel => exact ⟨j + 1, q', c', k + 1, true, by omega, by omega, by go_num, rfl, rfl, Lib.hid (by rw [Hnx2.out]), Lib.hid (by rw [Hnx2.out]; exact HP.out)⟩
              case measure => simp [intOf]; omega
        · have j1 : ¬ (j : Int) < m := by omega
          have e : j = m := by omega
          rw [e, HM.out] at HD HA
          have hend := inJ_end s M
          obtain ⟨R, hR⟩ : ∃ R, R = (inJ s M M.length).1 := ⟨_, rfl⟩
          rw [← hR] at HA
          have hpair : inJ s M M.length = (R, d) := by rw [hR, HD.out]
          rw [hpair] at hend
          have HRk := Lib.hid HA.out.len
          have HB2 : Hid (w.heap.size ≤ w1.heap.size ∧ Below w.heap.size w w1) := Lib.hid ⟨HW.out.2.2.size, HW.out.2.2⟩
          have hjm : k ≤ 2 * m := by omega
          clear e hR hpair HD hj hk HW
          cases d with
          | true =>
            have HE : Hid (insB s M = R) := Lib.hid hend.symm
            clear hend
            go_wp2_with fail
            have hlt := Hlt.out
            go_roundw
            case rel => exact ⟨i + 1, q2, c2, k, by omega, by go_num, rfl, Lib.hid (by rw [Hnx.out, HE.out, HRk.out]), Lib.hid (by rw [Hnx.out, HE.out]; exact ⟨HA.out.s, fun a e => Nat.le_trans HB2.out.1 (HA.out.new a e), HB2.out.2.trans (HA.out.m.mono HB2.out.1)⟩)⟩
            case measure => simp [intOf]; omega
          | false =>
            have HE : Hid (insB s M = R ++ [s]) := Lib.hid hend.symm
            obtain ⟨a1, a2, a3⟩ := HA.out.one s
            have A1 := Lib.hid a1
            have A2 := Lib.hid a2
            have A3 := Lib.hid a3
            clear hend a1 a2 a3
            go_wp2_with (at_builtin; refine wpList_pushR encS rfl _ _ 32 9 (.string ⟨#[]⟩) 16 rfl Tryd.underlying32 info_strH rfl (by decide) q2 c2 k R HRk.out rfl A1.out (some ⟨wr.heap.size, 0, none⟩) 1 1 [s] rfl rfl A2.out (by omega) ?_; intro q' c' w5 hP)
            have HP := Lib.hid (A3.out _ _ _ hP)
            have hlt := Hlt.out
            clear hP A1 A2 A3
            go_roundw
            case rel => exact ⟨i + 1, q', c', k + 1, by omega, by go_num, rfl, Lib.hid (by rw [Hnx.out, HE.out, HP.out.len]), Lib.hid (by rw [Hnx.out, HE.out]; exact ⟨HP.out.s, fun a e => Nat.le_trans HB2.out.1 (HP.out.new a e), HB2.out.2.trans (HP.out.m.mono HB2.out.1)⟩)⟩
            case measure => simp [intOf]; omega
    · have i1 : ¬ (i : Int) < n := by omega
      have e : i = n := by omega
      rw [e, Hn.out, List.take_length] at HM HW
      clear e
      go_wp2_with fail
      rw [HF.out]
      exact ⟨q, c, by rw [HM.out], HW.out.1, HW.out.2.1, HW.out.2.2⟩
end Go.Proofs.YtlhndibfdccohaaDoor

namespace Go.Proofs.YtlhndibfdccohaaDoor
open Go.RowKit

/-- 'make([]byte, 32)'. -/
theorem wpList_makeB {ops : Array Oper} {rest : List Oper} {o : Oper} {a : Act} {Q : Exit → Act → World → Prop} {w : World} (hgd : o.guard = none) (l c : Operand) (hop : o.op = Op.makeSlice 61 l c)
    (hl : a.eval l = .int .i64 32) (hc : a.eval c = .int .i64 32)
    (hK : ∀ w', w'.heap[w.heap.size]? = some (.cells (vals zid).toArray 5 (0, 0)) → Below w.heap.size w w' → wpList Tryd.prog ops Q rest (a.put o.dst (.slice (some ⟨w.heap.size, 0, none⟩) 32 32)) w') :
    wpList Tryd.prog ops Q (o :: rest) a w := by
  obtain ⟨i, hi, hzz⟩ := Option.map_eq_some_iff.1 info_u8k
  simp only [Prod.mk.injEq] at hzz
  obtain ⟨hz, h1, h2⟩ := hzz
  refine wpList_make_full w hgd l c 61 hop 0 5 i (.int .u8 0) 1 Tryd.underlying61 hi hz h1 .i64 .i64 32 32 32 hl hc rfl rfl (by rw [h2]; decide) (by unfold maxLen; decide) (Nat.zero_le _) ?_
  intro w' hown hgrow
  refine hK w' ?_ ((Below.refl _ _).grown hgrow (Nat.le_refl _) (by intro k h; cases h))
  rcases hown.2 with ⟨h, _⟩ | ⟨g, cap, cur, h, _, hh, h3, h4, h5, h6⟩
  · cases h
  · simp only [Value.slice.injEq, Option.some.injEq, Addr.mk.injEq] at h
    obtain ⟨⟨rfl, _⟩, _, rfl⟩ := h
    rw [hh]
    have e : cur.toList = vals zid := by
      rw [List.take_of_length_le (by rw [Array.length_toList, h5]; exact Nat.le_refl _)] at h6
      rw [h6]; kernel_rfl
    rw [← e]

/-- A number's name. -/
def nameL (x : UInt8) : List UInt8 := (zid.set 0 x).set 31 (~~~x)
theorem nameL_len (x : UInt8) : (nameL x).length = 32 := by simp [nameL, zid]
theorem vals_set (L : List UInt8) (i : Nat) (x : UInt8) : (vals L).set i (.int .u8 (x.toNat : Int)) = vals (L.set i x) := by simp [vals, List.map_set]

theorem not_bits (x : UInt8) : bits BinOp.xor IntKind.u8 IntKind.u8.max (x.toNat : Int) = ((~~~x).toNat : Int) := by
  have h : ∀ n : Fin 256, bits BinOp.xor IntKind.u8 IntKind.u8.max (n.val : Int) = ((~~~(UInt8.ofNat n.val)).toNat : Int) := by decide +kernel
  have := h ⟨x.toNat, x.toNat_lt⟩
  simpa using this
theorem text_row {w : World} {g : Nat} {s : List UInt8} (hl : s.length = 32) (h : w.heap[g]? = some (.cells (vals s).toArray 5 (0, 0))) : (convert 61 9 (.slice (some ⟨g, 0, none⟩) 32 32)).run Tryd.prog w = .ok (.string ⟨s.toArray⟩) w := by
  rw [run_convert_bytes_arg w 61 5 Tryd.underlying61 Tryd.underlying5 g 0 32 32 (s.map fun x => (x.toNat : Int)) (by simpa using hl) (fun i hi => by
    rw [Nat.zero_add, cell_of_row w g i _ 5 (0, 0) h]
    simp [vals, List.getD, hl, hi]) 9 Tryd.underlying9]
  simp [strOfNums, Function.comp_def]
theorem name_row {w1 : World} {g : Nat} (x : UInt8) (h : w1.heap[g]? = some (.cells (vals zid).toArray 5 (0, 0))) : ((w1.setCell ⟨g, 0, none⟩ (.int .u8 (x.toNat : Int))).setCell ⟨g, 31, none⟩ (.int .u8 ((~~~x).toNat : Int))).heap[g]? = some (.cells (vals (nameL x)).toArray 5 (0, 0)) := by
  have h1 := heap_setCell_same w1 g 0 _ 5 (.int .u8 (x.toNat : Int)) h
  have e1 : (vals zid).toArray.setIfInBounds 0 (.int .u8 (x.toNat : Int)) = (vals (zid.set 0 x)).toArray := by rw [← vals_set]; exact List.setIfInBounds_toArray _ _ _
  rw [e1] at h1
  have h2 := heap_setCell_same _ g 31 _ 5 (.int .u8 ((~~~x).toNat : Int)) h1
  have e2 : (vals (zid.set 0 x)).toArray.setIfInBounds 31 (.int .u8 ((~~~x).toNat : Int)) = (vals (nameL x)).toArray := by unfold nameL; rw [← vals_set]; exact List.setIfInBounds_toArray _ _ _
  rw [e2] at h2
  exact h2

set_option maxRecDepth 20000 in
set_option maxHeartbeats 4000000 in
theorem lawname_any (x : UInt8) (w : World) : Calls Tryd.prog 66 #[.int .u8 (x.toNat : Int)] w fun r w' => r = .returned (.string ⟨(nameL x).toArray⟩) ∧ Below w.heap.size w w' := by
  have hx := x.toNat_lt
  have hnb := not_bits x
  have HN := Lib.hid (fun (w1 : World) (h : w1.heap[w.heap.size]? = some (.cells (vals zid).toArray 5 (0, 0))) => text_row (nameL_len x) (name_row x h))
  obtain ⟨y, hy⟩ : ∃ y : Int, y = ((~~~x).toNat : Int) := ⟨_, rfl⟩
  rw [← hy] at hnb HN
  clear hy
  generalize nameL x = N at HN ⊢
  go_enter Tryd.func66, Tryd.ntmps66
  go_wp2_with (at_make; refine wpList_makeB rfl _ _ rfl rfl rfl ?_; intro w1 hh hb; have HB := Lib.hid hb; have c0 : w1.cell? ⟨w.heap.size, 0, none⟩ = some (.int .u8 0) := cell_of_row w1 w.heap.size 0 _ 5 (0, 0) hh; have f0 := frozen_of_row w1 w.heap.size 0 _ 5 hh; have c31 : w1.cell? ⟨w.heap.size, 31, none⟩ = some (.int .u8 0) := cell_of_row w1 w.heap.size 31 _ 5 (0, 0) hh; have f31 := frozen_of_row w1 w.heap.size 31 _ 5 hh; have hcv := HN.out w1 hh; clear hh hb)
  go_ret
  exact ⟨rfl, (HB.out.setCell (by exact Nat.le_refl _) _).setCell (by exact Nat.le_refl _) _⟩
end Go.Proofs.YtlhndibfdccohaaDoor

namespace Go.Proofs.YtlhndibfdccohaaDoor
open Go.RowKit Go.Sort

/-- Below. -/
def lN (x y : Nm) : Prop := ltOf cfN x y = true
theorem lN_trans {x y z : Nm} (h : lN x y) (k : lN y z) : lN x z := cfN_trans x y z h k
theorem lN_irr (x : Nm) : ¬ lN x x := by unfold lN; rw [cfN_swo.irrefl]; decide
theorem lN_of {x y : Nm} (h : ¬ lN y x) (hne : x ≠ y) : lN x y := by
  unfold lN at *
  cases e : ltOf cfN x y with
  | true => rfl
  | false => exact absurd (cfN_total x y e (by simpa using h)) hne
theorem ksort_pair (L : List Nm) : (ksort L).Pairwise fun x y => ¬ lN y x := by
  have h := List.pairwise_mergeSort (le := fun x y => !(ltOf cfN) y x) (fun a b c h1 h2 => by
    have := cfN_swo.ntrans c b a (by simpa using h2) (by simpa using h1)
    simpa using this) (fun a b => by
    cases e : ltOf cfN b a with
    | false => simp
    | true =>
      cases e2 : ltOf cfN a b with
      | false => simp
      | true => exact absurd (lN_trans (x := a) e2 e) (lN_irr a)) L
  exact h.imp (fun {a b} h => by unfold lN; simpa using h)
theorem ksort_mem (L : List Nm) (x : Nm) : x ∈ ksort L ↔ x ∈ L := (List.mergeSort_perm L _).mem_iff
theorem cpt_mem (L : List Nm) (n : Nat) (hn : n ≤ L.length) (x : Nm) : x ∈ cpt L n ↔ x ∈ L.take n := by
  induction n with
  | zero => simp [cpt]
  | succ n ih =>
    have hl : n < L.length := by omega
    rw [List.take_succ_eq_append_getElem hl]
    cases hk : kp L n with
    | true => rw [cpt_keep hl hk, List.mem_append, List.mem_append, ih (by omega)]
    | false =>
      rw [cpt_skip hk, List.mem_append, ih (by omega)]
      constructor
      · exact Or.inl
      · rintro (h | h)
        · exact h
        · cases n with
          | zero => cases hk
          | succ m =>
            have e := kp_succ L m hl
            rw [hk] at e
            have e2 : L[m + 1] = L[m] := Subtype.ext (by simpa using e)
            rw [List.mem_singleton.1 h, e2]
            exact List.mem_take_iff_getElem.2 ⟨m, by omega, rfl⟩
theorem cpt_strict (L : List Nm) (hp : L.Pairwise fun x y => ¬ lN y x) (n : Nat) (hn : n ≤ L.length) : (cpt L n).Pairwise lN := by
  induction n with
  | zero => exact List.Pairwise.nil
  | succ n ih =>
    have hl : n < L.length := by omega
    cases hk : kp L n with
    | false => rw [cpt_skip hk]; exact ih (by omega)
    | true =>
      rw [cpt_keep hl hk, List.pairwise_append]
      refine ⟨ih (by omega), List.pairwise_singleton _ _, fun y hy z hz => ?_⟩
      rw [List.mem_singleton.1 hz]
      cases n with
      | zero => simp [cpt] at hy
      | succ m =>
        have e := kp_succ L m hl
        rw [hk] at e
        have hne : L[m] ≠ L[m + 1] := fun h => by rw [h] at e; simp at e
        have h1 : lN L[m] L[m + 1] := lN_of (List.pairwise_iff_getElem.1 hp m (m + 1) (by omega) hl (by omega)) hne
        obtain ⟨j, hj, e2⟩ := List.mem_take_iff_getElem.1 ((cpt_mem L (m + 1) (by omega) y).1 hy)
        by_cases hjm : j = m
        · subst hjm; rw [← e2]; exact h1
        · have h2 := List.pairwise_iff_getElem.1 hp j m (by omega) (by omega) (by omega)
          rw [← e2]
          by_cases h3 : L[j] = L[m]
          · rw [h3]; exact h1
          · exact lN_trans (lN_of h2 h3) h1
theorem kset_strict (L : List Nm) : (kset L).Pairwise lN := cpt_strict _ (ksort_pair L) _ (Nat.le_refl _)
theorem kset_mem (L : List Nm) (x : Nm) : x ∈ kset L ↔ x ∈ L := by
  unfold kset
  rw [cpt_mem _ _ (Nat.le_refl _), List.take_length, ksort_mem]
/-- Strictly rising lists of the same are one. -/
theorem strict_uniq : ∀ (A B : List Nm), A.Pairwise lN → B.Pairwise lN → (∀ x, x ∈ A ↔ x ∈ B) → A = B
  | [], [], _, _, _ => rfl
  | [], b :: m, _, _, h => absurd ((h b).2 (List.mem_cons_self ..)) (by simp)
  | a :: l, [], _, _, h => absurd ((h a).1 (List.mem_cons_self ..)) (by simp)
  | a :: l, b :: m, hA, hB, h => by
    rw [List.pairwise_cons] at hA hB
    have hab : a = b := by
      rcases List.mem_cons.1 ((h a).1 (List.mem_cons_self ..)) with e | e
      · exact e
      · rcases List.mem_cons.1 ((h b).2 (List.mem_cons_self ..)) with e2 | e2
        · exact e2.symm
        · exact absurd (lN_trans (hB.1 a e) (hA.1 b e2)) (lN_irr b)
    subst hab
    rw [strict_uniq l m hA.2 hB.2 (fun x => by
      constructor
      · intro hx
        rcases List.mem_cons.1 ((h x).1 (List.mem_cons_of_mem _ hx)) with e | e
        · subst e; exact absurd (hA.1 x hx) (lN_irr x)
        · exact e
      · intro hx
        rcases List.mem_cons.1 ((h x).2 (List.mem_cons_of_mem _ hx)) with e | e
        · subst e; exact absurd (hB.1 x hx) (lN_irr x)
        · exact e)]
/-- Names that rise are their own key's. -/
theorem kset_self {L : List Nm} (h : L.Pairwise lN) : kset L = L := strict_uniq _ _ (kset_strict L) h (kset_mem L)
end Go.Proofs.YtlhndibfdccohaaDoor

namespace Go.Proofs.YtlhndibfdccohaaDoor
open Go.RowKit Go.Sort

/-- The same of names. -/
def insN (s : Nm) : List Nm → List Nm
  | [] => [s]
  | t :: r => if ltOf cfN s t then s :: t :: r else if ltOf cfN t s then t :: insN s r else t :: r
theorem insN_map (s : Nm) (l : List Nm) : insB s.1 (l.map (·.1)) = (insN s l).map (·.1) := by
  induction l with
  | nil => rfl
  | cons t r ih =>
    rw [List.map_cons, insB, insN, cfN_lt, cfN_lt]
    by_cases h1 : Lib.compareBytes s.1 t.1 < 0
    · simp [h1]
    · by_cases h2 : Lib.compareBytes t.1 s.1 < 0
      · rw [if_neg h1, if_pos h2, if_neg (show ¬ decide (Lib.compareBytes s.1 t.1 < 0) = true by simpa using h1), if_pos (decide_eq_true h2), List.map_cons, ih]
      · simp [h1, h2]
theorem insN_mem (s : Nm) (l : List Nm) (x : Nm) : x ∈ insN s l ↔ x = s ∨ x ∈ l := by
  induction l with
  | nil => simp [insN]
  | cons t r ih =>
    rw [insN]
    cases h1 : ltOf cfN s t with
    | true => simp
    | false =>
      cases h2 : ltOf cfN t s with
      | true =>
        simp only [Bool.false_eq_true, if_false, if_true, List.mem_cons, ih]
        constructor
        · rintro (h | h | h) <;> simp [h]
        · rintro (h | h | h) <;> simp [h]
      | false =>
        have e := cfN_total s t h1 h2
        simp only [Bool.false_eq_true, if_false, List.mem_cons, e]
        constructor
        · intro h; exact .inr h
        · rintro (h | h)
          · exact .inl h
          · exact h
theorem insN_strict (s : Nm) (l : List Nm) (h : l.Pairwise lN) : (insN s l).Pairwise lN := by
  induction l with
  | nil => exact List.pairwise_singleton _ _
  | cons t r ih =>
    have hh := List.pairwise_cons.1 h
    rw [insN]
    cases h1 : ltOf cfN s t with
    | true =>
      rw [if_pos rfl]
      refine List.pairwise_cons.2 ⟨fun x hx => ?_, h⟩
      rcases List.mem_cons.1 hx with e | e
      · rw [e]; exact h1
      · exact lN_trans h1 (hh.1 x e)
    | false =>
      rw [if_neg (by decide)]
      cases h2 : ltOf cfN t s with
      | false => rw [if_neg (by decide)]; exact h
      | true =>
        rw [if_pos rfl]
        refine List.pairwise_cons.2 ⟨fun x hx => ?_, ih hh.2⟩
        rcases (insN_mem s r x).1 hx with e | e
        · rw [e]; exact h2
        · exact hh.1 x e
/-- A key's names are the reference's sorted texts. -/
theorem rsort_kset (L : List Nm) : rsort (L.map (·.1)) = (kset L).map (·.1) := by
  have h : ∃ M : List Nm, rsort (L.map (·.1)) = M.map (·.1) ∧ M.Pairwise lN ∧ ∀ x, x ∈ M ↔ x ∈ L := by
    have hg : ∀ (L : List Nm) (A : List Nm), A.Pairwise lN → ∃ M : List Nm, (L.map (·.1)).foldl (fun out s => insB s out) (A.map (·.1)) = M.map (·.1) ∧ M.Pairwise lN ∧ ∀ x, x ∈ M ↔ x ∈ A ∨ x ∈ L := by
      intro L
      induction L with
      | nil => intro A hA; exact ⟨A, rfl, hA, fun x => by simp⟩
      | cons s l ih =>
        intro A hA
        obtain ⟨M, h1, h2, h3⟩ := ih (insN s A) (insN_strict s A hA)
        refine ⟨M, ?_, h2, fun x => ?_⟩
        · rw [List.map_cons, List.foldl_cons, insN_map]; exact h1
        · rw [h3, insN_mem, List.mem_cons]
          constructor
          · rintro ((h | h) | h) <;> simp [h]
          · rintro (h | h | h) <;> simp [h]
    obtain ⟨M, h1, h2, h3⟩ := hg L [] List.Pairwise.nil
    exact ⟨M, h1, h2, fun x => by rw [h3]; simp⟩
  obtain ⟨M, h1, h2, h3⟩ := h
  rw [h1, strict_uniq M (kset L) h2 (kset_strict L) (fun x => by rw [h3, kset_mem])]
/-- Rising, as the program looks. -/
theorem rs_pair (L : List Nm) : rs (L.map (·.1)) (L.length - 1) = true ↔ L.Pairwise lN := by
  unfold rs
  rw [List.all_eq_true]
  constructor
  · intro h
    have hs : ∀ j (hj : j + 1 < L.length), lN L[j] L[j + 1] := fun j hj => by
      have := h j (List.mem_range.2 (by omega))
      have g1 : (L.map (·.1)).getD j [] = (L[j]).1 := by simp [List.getD, show j < L.length by omega]
      have g2 : (L.map (·.1)).getD (j + 1) [] = (L[j + 1]).1 := by simp [List.getD, hj]
      rw [g1, g2] at this
      exact this
    rw [List.pairwise_iff_getElem]
    intro i j hi hj hij
    obtain ⟨m, rfl⟩ : ∃ m, j = i + 1 + m := ⟨j - (i + 1), by omega⟩
    induction m with
    | zero => exact hs i hj
    | succ m ih => exact lN_trans (ih (by omega) (by omega)) (hs (i + 1 + m) hj)
  · intro h i hi
    have hi2 := List.mem_range.1 hi
    have g1 : (L.map (·.1)).getD i [] = (L[i]'(by omega)).1 := by simp [List.getD, show i < L.length by omega]
    have g2 : (L.map (·.1)).getD (i + 1) [] = (L[i + 1]'(by omega)).1 := by simp [List.getD, show i + 1 < L.length by omega]
    rw [g1, g2]
    exact List.pairwise_iff_getElem.1 h i (i + 1) (by omega) (by omega) (by omega)
end Go.Proofs.YtlhndibfdccohaaDoor

namespace Go.Proofs.YtlhndibfdccohaaDoor
open Go.RowKit

/-- x & (2^k - 1). -/
theorem and_low (x : Int) (k : Nat) (hk : k < 63) : ∃ m : Nat, bits .and .i64 x ((2 ^ k - 1 : Nat) : Int) = (m : Int) ∧ m < 2 ^ k ∧ (m : Int) = x % (2 ^ k : Nat) := by
  have hp : (2 : Nat) ^ k ≤ 2 ^ 62 := Nat.pow_le_pow_right (by decide) (by omega)
  have h1 : 0 < (2 : Nat) ^ k := Nat.two_pow_pos k
  have hb : (BitVec.ofInt 64 ((2 ^ k - 1 : Nat) : Int)).toNat = 2 ^ k - 1 := by
    rw [BitVec.toNat_ofInt]
    omega
  have ha : (BitVec.ofInt 64 x).toNat = (x % (2 ^ 64 : Nat)).toNat := by rw [BitVec.toNat_ofInt]
  have e : ((BitVec.ofInt 64 x) &&& (BitVec.ofInt 64 ((2 ^ k - 1 : Nat) : Int))).toNat = (x % (2 ^ 64 : Nat)).toNat % 2 ^ k := by
    rw [BitVec.toNat_and, hb, ha, Nat.and_two_pow_sub_one_eq_mod]
  have hlt : (x % (2 ^ 64 : Nat)).toNat % 2 ^ k < 2 ^ k := Nat.mod_lt _ h1
  refine ⟨(x % (2 ^ 64 : Nat)).toNat % 2 ^ k, ?_, hlt, ?_⟩
  · unfold bits
    show IntKind.i64.wrap (((BitVec.ofInt 64 x) &&& (BitVec.ofInt 64 ((2 ^ k - 1 : Nat) : Int))).toNat : Int) = _
    rw [e, IntKind.wrap_i64]
    have : (2 : Nat) ^ 62 = 4611686018427387904 := by decide
    omega
  · have h2 : 0 ≤ x % (2 ^ 64 : Nat) := Int.emod_nonneg _ (by decide)
    have hd : ((2 ^ k : Nat) : Int) ∣ ((2 ^ 64 : Nat) : Int) := by
      refine Int.natCast_dvd_natCast.2 (Nat.pow_dvd_pow 2 (by omega))
    rw [Int.natCast_emod, Int.toNat_of_nonneg h2, Int.emod_emod_of_dvd _ hd]
theorem and63 (x : Int) : ∃ y : Nat, bits .and .i64 x 63 = (y : Int) ∧ y ≤ 63 := by
  obtain ⟨y, h1, h2, _⟩ := and_low x 6 (by decide)
  exact ⟨y, h1, Nat.le_of_lt_succ h2⟩
theorem and7 (x : Int) : ∃ y : Nat, bits .and .i64 x 7 = (y : Int) ∧ y ≤ 7 := by
  obtain ⟨y, h1, h2, _⟩ := and_low x 3 (by decide)
  exact ⟨y, h1, Nat.le_of_lt_succ h2⟩
theorem and16 (x : Int) : ∃ y : Nat, bits .and .i64 x 65535 = (y : Int) ∧ y ≤ 65535 := by
  obtain ⟨y, h1, h2, _⟩ := and_low x 16 (by decide)
  rw [show ((2 ^ 16 - 1 : Nat) : Int) = 65535 by decide] at h1
  rw [show (2 : Nat) ^ 16 = 65536 by decide] at h2
  exact ⟨y, h1, by omega⟩
/-- A header that may be. -/
structure GoodR (h : Hd (List UInt8)) : Prop where
  ht : 1 ≤ h.ht ∧ h.ht ≤ 1073741824
  mi : 0 ≤ h.mi ∧ h.mi ≤ 63
  wi : 1 ≤ h.wi ∧ h.wi ≤ 8
  sa : 0 ≤ h.sa ∧ h.sa ≤ 65535
  pw : 2 ≤ h.pw ∧ h.pw ≤ 4611686018427387904
  tk : 1 ≤ h.tk.length ∧ h.tk.length ≤ 8
  ps : 1 ≤ h.ps.length ∧ h.ps.length ≤ 5
  nm : ∀ s ∈ h.ps, s.length = 32
  up : h.ps.Pairwise fun s t => Lib.compareBytes s t < 0
/-- The names that Few leaves, sorted, five at most. -/
def rps (ps : List (List UInt8)) : List (List UInt8) := (rsort ((ps.take 7).map idL)).take 5
theorem rps_nm (ps : List (List UInt8)) : ∃ M : List Nm, rps ps = M.map (·.1) ∧ M.Pairwise lN := by
  have e : (ps.take 7).map idL = ((ps.take 7).map nmOf).map (·.1) := by rw [List.map_map]; rfl
  refine ⟨(kset ((ps.take 7).map nmOf)).take 5, ?_, (kset_strict _).sublist (List.take_sublist ..)⟩
  unfold rps
  rw [e, rsort_kset]
  exact (List.map_take ..).symm
theorem rps_len (ps : List (List UInt8)) : (rps ps).length ≤ 5 := by unfold rps; rw [List.length_take]; omega
theorem rps_good (ps : List (List UInt8)) : (∀ s ∈ rps ps, s.length = 32) ∧ (rps ps).Pairwise fun s t => Lib.compareBytes s t < 0 := by
  obtain ⟨M, e, hM⟩ := rps_nm ps
  rw [e]
  refine ⟨fun s hs => ?_, ?_⟩
  · obtain ⟨x, _, rfl⟩ := List.mem_map.1 hs; exact x.2
  · rw [List.pairwise_map]
    exact hM.imp (fun {a b} h => by unfold lN at h; rw [cfN_lt, decide_eq_true_eq] at h; exact h)
end Go.Proofs.YtlhndibfdccohaaDoor

namespace Go.Proofs.YtlhndibfdccohaaDoor
open Go.RowKit

/-- A slice lies in a row of texts. -/
def TyS (w : World) (q : Option Addr) : Prop := ∀ a, q = some a → ∃ cur : Array Value, w.heap[a.block]? = some (.cells cur 9 (0, 0))
theorem TyS.kept {S : Nat → Prop} {w w' : World} {q : Option Addr} (h : TyS w q) (hm : Mod S w w') (hp : ∀ a, q = some a → ¬ S a.block) : TyS w' q := fun a e => by
  obtain ⟨cur, hc⟩ := h a e
  exact ⟨cur, (hm.block _ (Array.getElem?_eq_some_iff.1 hc).1 (hp a e)).trans hc⟩
theorem TyS.old {w w' : World} {q : Option Addr} (h : TyS w q) (hb : Below w.heap.size w w') : TyS w' q := fun a e => by
  obtain ⟨cur, hc⟩ := h a e
  exact ⟨cur, (hb.block _ (Array.getElem?_eq_some_iff.1 hc).1).trans hc⟩
theorem Rw.ty {α : Type} {E : Enc α} {w : World} {q : Option Addr} {c : Nat} {L : List α} (h : Rw E 9 w q c L) : TyS w q := fun a e => by
  rcases h.shape with ⟨e1, _⟩ | ⟨g, e1, _, _, _, cur, hh, _⟩
  · rw [e1] at e; cases e
  · rw [e1] at e; cases e; exact ⟨cur, hh⟩
/-- What Right answers. -/
def RightP (w : World) (r : Ending) (w' : World) : Prop := ∃ h q c, r = .returned (.agg (hcells h q c)) ∧ GoodR h ∧ Rd encS w' q h.ps ∧ (q = none ∨ ∃ b off, q = some ⟨b, off, none⟩) ∧ TyS w' q ∧ Below w.heap.size w w'
theorem HvSt.gen {W w1 : World} {r g : Nat} {T : TypeId} {C : Array Value} (h : HvSt W r g T C w1) {P : Program} {s : Code} {Q : Exit → Act → World → Prop} {a : Act} (k : ∀ w', HvSt W r g T C w' → s.wp P Q a w') : s.wp P Q a w1 := k w1 h
theorem extract_headT (s : List UInt8) (n : Nat) : (⟨s.toArray⟩ : ByteArray).extract 0 n = ⟨(s.take n).toArray⟩ := by
  apply ByteArray.ext
  simp [ByteArray.extract, ByteArray.copySlice]
/-- Right's boxes: the header that is made, its parents' names. -/
structure RtS (w : World) (C : Array Value) (q : Option Addr) (P : List (List UInt8)) (W : World) : Prop where
  st : HvSt w (w.heap.size + 1) w.heap.size 34 C W
  rd : Rd encS W q P
  f : ∀ a, q = some a → w.heap.size + 1 < a.block
  ad : q = none ∨ ∃ b off, q = some ⟨b, off, none⟩
  ty : TyS W q
theorem Rd.kept {α : Type} {E : Enc α} {S : Nat → Prop} {w w' : World} {p : Option Addr} {L : List α} (h : Rd E w p L) (hm : Mod S w w') (hp : ∀ a, p = some a → ¬ S a.block) : Rd E w' p L := by
  intro j hj
  obtain ⟨bs, off, e, hb, hc⟩ := h j hj
  exact ⟨bs, off, e, Nat.lt_of_lt_of_le hb hm.size, fun i u hu => (World.cell?_of_block (hm.block bs hb (hp _ e))).trans (hc i u hu)⟩
theorem RtS.put {w W : World} {C : Array Value} {q : Option Addr} {P : List (List UInt8)} (h : RtS w C q P W) (k : Nat) (v : Value) : RtS w (C.setIfInBounds k v) q P (W.setCell ⟨w.heap.size, k, none⟩ v) :=
  ⟨h.st.put k v, h.rd.kept ((Mod.refl (· = w.heap.size) W).setCell (p := ⟨w.heap.size, k, none⟩) (fun _ => rfl) v) (fun a e q => by have := h.f a e; omega), h.f, h.ad, h.ty.kept ((Mod.refl (· = w.heap.size) W).setCell (p := ⟨w.heap.size, k, none⟩) (fun _ => rfl) v) (fun a e q => by have := h.f a e; omega)⟩
theorem RtS.grow {w W W' : World} {C : Array Value} {q : Option Addr} {P : List (List UInt8)} (h : RtS w C q P W) (hb : Below W.heap.size W W') : RtS w C q P W' := ⟨h.st.grow hb, h.rd.old hb, h.f, h.ad, h.ty.old hb⟩
theorem RtS.row {w W : World} {C : Array Value} {q : Option Addr} {P : List (List UInt8)} (h : RtS w C q P W) (D : Array Value) : RtS w D q P (W.setRow w.heap.size D) := by
  have st := h.st
  obtain ⟨Z, hz, hZ⟩ := st.res
  have h1 := st.lo
  have h2 := st.lo2
  have h3 := st.ne
  refine ⟨⟨setRow_heap W w.heap.size C D 34 (0, 0) st.box, st.m.trans (((Mod.refl (fun _ => False) W).setRow (g := w.heap.size) D).to_below st.m.size (by rintro i hi (h | h) <;> first | exact h | omega)), h1, h2, h3, Z, hz, (setRow_other W w.heap.size (w.heap.size + 1) D h3).trans hZ⟩, h.rd.kept ((Mod.refl (fun _ => False) W).setRow (g := w.heap.size) D) (fun a e h' => by have := h.f a e; rcases h' with h' | h'; exact h'; omega), h.f, h.ad, h.ty.kept ((Mod.refl (fun _ => False) W).setRow (g := w.heap.size) D) (fun a e h' => by have := h.f a e; rcases h' with h' | h'; exact h'; omega)⟩
def hdV (ht mi : Int) (tk : List UInt8) (wi : Int) (pw : Nat) (q : Option Addr) (n c : Nat) (sa : Int) : Array Value := #[.int .i64 ht, .int .i64 mi, .string ⟨tk.toArray⟩, .int .i64 wi, .int .u64 (pw : Int), .slice q n c, .int .i64 sa]
theorem hdV_one {ht mi : Int} {tk : List UInt8} {wi : Int} {pw : Nat} {q : Option Addr} {n c : Nat} {sa : Int} : ∀ v ∈ (hdV ht mi tk wi pw q n c sa).toList, v.oneCell' = true := by
  intro v hv
  simp only [hdV, List.mem_cons, List.not_mem_nil, or_false] at hv
  rcases hv with rfl | rfl | rfl | rfl | rfl | rfl | rfl <;> rfl
theorem exec_load_rh {o : Oper} {a : Act} {w : World} (x : Operand) (ho : o.op = .load 34 x) (b : Nat) (hx : a.eval x = .pointer (some ⟨b, 0, none⟩)) (C : Array Value) (hi : (Tryd.prog.info? 34).map (·.size) = some C.size) (hb : w.heap[b]? = some (.cells C 34 (0, 0))) : (execOp a.eval o).run Tryd.prog w = .ok (.value (.agg C)) w := by
  have hl := run_loadVar_row (P := Tryd.prog) w b 34 34 C (0, 0) _ hb Tryd.underlying34 rfl hi
  unfold execOp
  simp only [ho, hx, Instr.loadAt, Instr.sureAddr, Sem.run_bind, Sem.run_pure, Result.andThen_ok, hl]
set_option maxRecDepth 20000 in
set_option maxHeartbeats 4000000 in
theorem right_any (h : Hd (List UInt8)) (ao : Option Addr) (cap : Nat) (w : World) (hL : Rd encS w ao h.ps) (hk : (h.tk.length : Int) ≤ 9223372036854775807) :
    Calls Tryd.prog 31 #[.agg (hcells h ao cap)] w fun r w' => RightP w r w' := by
  have HFEW := Lib.hid (fun w' (hb : Below w.heap.size w w') => few_any h ao cap w' (hL.old hb) hk)
  obtain ⟨F, hF⟩ : ∃ F : Ending → World → Prop, F = fun r w' => RightP w r w' := ⟨_, rfl⟩
  have hF2 : (fun r w' => RightP w r w') = F := hF.symm
  rw [hF2]
  have HF := Lib.hid hF
  obtain ⟨ht, mi, tk, wi, pw, ps, sa⟩ := h
  obtain ⟨tk2, htk2⟩ : ∃ t, t = tk.take 10 := ⟨_, rfl⟩
  obtain ⟨ps2, hps2⟩ : ∃ t, t = (ps.take 7).map idL := ⟨_, rfl⟩
  have e2 : fewH (⟨ht, mi, tk, wi, pw, ps, sa⟩ : Hd (List UInt8)) = ⟨ht, mi, tk2, wi, pw, ps2, sa⟩ := by rw [htk2, hps2]; rfl
  rw [e2] at HFEW
  have hpl : ps2.length ≤ 7 := by rw [hps2, List.length_map, List.length_take]; omega
  have HPS : Hid ((rsort ps2).take 5 = rps ps ∧ (rsort ps2).length ≤ 7) := Lib.hid ⟨by rw [hps2]; rfl, Nat.le_trans (rsort_len _) hpl⟩
  have HTL : Hid (tk2.length ≤ 10) := Lib.hid (by rw [htk2, List.length_take]; omega)
  unfold hcells at HFEW ⊢
  simp only at HFEW ⊢
  obtain ⟨n, hn⟩ : ∃ n, n = ps.length := ⟨_, rfl⟩
  obtain ⟨n2, hn2⟩ : ∃ n, n = ps2.length := ⟨_, rfl⟩
  rw [← hn, ← hn2] at HFEW
  rw [← hn]
  rw [← hn2] at hpl
  obtain ⟨W0, hW0⟩ : ∃ W0, W0 = (w.alloc (.cells #[.int .i64 ht, .int .i64 mi, .string ⟨tk.toArray⟩, .int .i64 wi, .int .u64 (pw : Int), .slice ao n cap, .int .i64 sa] 34)).alloc (.cells #[.int .i64 0, .int .i64 0, .string ⟨#[]⟩, .int .i64 0, .int .u64 0, .slice none 0 0, .int .i64 0] 34) := ⟨_, rfl⟩
  have b0 : Below w.heap.size w W0 := by rw [hW0]; exact ((Below.refl _ w).alloc (Nat.le_refl _) _).alloc (by simp) _
  have s0 : W0.heap.size = w.heap.size + 2 := by rw [hW0]; simp
  have bx0 : W0.heap[w.heap.size]? = some (.cells #[.int .i64 ht, .int .i64 mi, .string ⟨tk.toArray⟩, .int .i64 wi, .int .u64 (pw : Int), .slice ao n cap, .int .i64 sa] 34 (0, 0)) := by rw [hW0, Below.heap_alloc _ _ _ (by simp)]; exact heap_alloc_new w _
  have rs0 : W0.heap[w.heap.size + 1]? = some (.cells #[.int .i64 0, .int .i64 0, .string ⟨#[]⟩, .int .i64 0, .int .u64 0, .slice none 0 0, .int .i64 0] 34 (0, 0)) := by rw [hW0]; have := heap_alloc_new (w.alloc (.cells #[.int .i64 ht, .int .i64 mi, .string ⟨tk.toArray⟩, .int .i64 wi, .int .u64 (pw : Int), .slice ao n cap, .int .i64 sa] 34)) (.cells #[.int .i64 0, .int .i64 0, .string ⟨#[]⟩, .int .i64 0, .int .u64 0, .slice none 0 0, .int .i64 0] 34); simpa using this
  have ST : Hid (HvSt w (w.heap.size + 1) w.heap.size 34 #[.int .i64 ht, .int .i64 mi, .string ⟨tk.toArray⟩, .int .i64 wi, .int .u64 (pw : Int), .slice ao n cap, .int .i64 sa] W0) := Lib.hid ⟨bx0, b0, by omega, by omega, by omega, _, rfl, rs0⟩
  have HW0 := Lib.hid hW0
  have HN2 := Lib.hid hn2
  have HS0 := Lib.hid s0
  clear hL hF hF2 htk2 hps2 e2 hn hn2 hW0 b0 bx0 rs0 hk s0
  go_enter Tryd.func31, Tryd.ntmps31
  go_wp2_with fail
  rw [← HW0.out]
  refine (HFEW.out W0 ST.out.m).mono ?_
  rintro r w1 ⟨q, c, rfl, hq, hb1, hqf⟩
  have HS1 : Hid (RtS w #[.int .i64 ht, .int .i64 mi, .string ⟨tk.toArray⟩, .int .i64 wi, .int .u64 (pw : Int), .slice ao n cap, .int .i64 sa] q ps2 w1) := Lib.hid ⟨ST.out.grow hb1, hq.rd, fun a e => by have := hqf a e; have := HS0.out; omega, hq.addr, hq.ty.old (Below.refl _ _)⟩
  clear hq hb1 hqf ST HFEW HW0
  go_upto_region 2 with (refine wpList_store_row rfl rfl 34 (.tmp 1) (.tmp 4) rfl w.heap.size rfl 34 _ (hdV ht mi tk2 wi pw q n2 c sa) rfl HS1.out.st.box rfl rhinfo hdV_one ?_)
  refine wp_gen (fun W => RtS w (hdV ht mi tk2 wi pw q n2 c sa) q ps2 W) (HS1.out.row _) (fun W2 h2 => ?_)
  have c0 : W2.cell? ⟨w.heap.size, 0, none⟩ = some (.int .i64 ht) := h2.st.cell 0
  have c1 : W2.cell? ⟨w.heap.size, 1, none⟩ = some (.int .i64 mi) := h2.st.cell 1
  have c3 : W2.cell? ⟨w.heap.size, 3, none⟩ = some (.int .i64 wi) := h2.st.cell 3
  have c6 : W2.cell? ⟨w.heap.size, 6, none⟩ = some (.int .i64 sa) := h2.st.cell 6
  have f0 := h2.st.froz 0
  have f1 := h2.st.froz 1
  have f3 := h2.st.froz 3
  have f6 := h2.st.froz 6
  obtain ⟨x1, hx1⟩ : ∃ x, min ht 1073741824 = x := ⟨_, rfl⟩
  obtain ⟨x2, hx2⟩ : ∃ x, max 1 x1 = x := ⟨_, rfl⟩
  obtain ⟨y1, hy1, hy2⟩ := and63 mi
  obtain ⟨z1, hz1, hz2⟩ := and7 wi
  obtain ⟨u1, hu1, hu2⟩ := and16 sa
  have HX : Hid (1 ≤ x2 ∧ x2 ≤ 1073741824) := Lib.hid (by omega)
  have hzw : wrap64 (1 + (z1 : Int)) = 1 + z1 := by unfold wrap64; omega
  have HYZ : Hid (y1 ≤ 63 ∧ z1 ≤ 7 ∧ u1 ≤ 65535) := Lib.hid ⟨hy2, hz2, hu2⟩
  have H2 := Lib.hid h2
  clear h2 HS1 hy2 hz2 hu2
  go_upto_region 3 with fail
  refine wp_gen (fun W => RtS w (hdV x2 y1 tk2 (1 + z1) pw q n2 c u1) q ps2 W) ((((H2.out.put 0 (.int .i64 x2)).put 1 (.int .i64 y1)).put 3 (.int .i64 (1 + z1))).put 6 (.int .i64 u1)) (fun W3 h3 => ?_)
  clear c0 c1 c3 c6 f0 f1 f3 f6 hx1 hx2 hy1 hz1 hu1 hzw H2
  obtain ⟨p1, hp1⟩ : ∃ y : Nat, min (pw : Int) 4611686018427387904 = (y : Int) := ⟨(min (pw : Int) 4611686018427387904).toNat, by omega⟩
  obtain ⟨p2, hp2⟩ : ∃ y : Nat, max 2 (p1 : Int) = (y : Int) := ⟨(max 2 (p1 : Int)).toNat, by omega⟩
  have HP : Hid (2 ≤ p2 ∧ p2 ≤ 4611686018427387904) := Lib.hid ⟨by omega, by omega⟩
  have c4 : W3.cell? ⟨w.heap.size, 4, none⟩ = some (.int .u64 (pw : Int)) := h3.st.cell 4
  have f4 := h3.st.froz 4
  have c2 : W3.cell? ⟨w.heap.size, 2, none⟩ = some (.string ⟨tk2.toArray⟩) := h3.st.cell 2
  have H3 := Lib.hid h3
  clear h3
  go_upto_if 30 with fail
  refine wp_gen (fun W => RtS w (hdV x2 y1 tk2 (1 + z1) p2 q n2 c u1) q ps2 W) (H3.out.put 4 (.int .u64 (p2 : Int))) (fun W4 h4 => ?_)
  clear c2 c4 f4 hp1 hp2 H3
  have H4 := Lib.hid h4
  have f2 := h4.st.froz 2
  have c2 : W4.cell? ⟨w.heap.size, 2, none⟩ = some (.string ⟨tk2.toArray⟩) := h4.st.cell 2
  clear h4
  go_cut [] from 28 to 31 (fun wx => ∃ tk3 : List UInt8, Hid (RtS w (hdV x2 y1 tk3 (1 + z1) p2 q n2 c u1) q ps2 wx ∧ 1 ≤ tk3.length ∧ tk3.length ≤ 10))
  case first =>
    by_cases h0 : tk2 = []
    · rw [show tk2.isEmpty = true by simp [h0]]
      go_wp2_with fail
      go_meet
      case rel => exact ⟨[116], Lib.hid ⟨H4.out.put 2 (.string ⟨#[116]⟩), by decide, by decide⟩⟩
    · rw [show tk2.isEmpty = false by simpa using h0]
      go_wp2_with fail
      go_meet
      case rel => exact ⟨tk2, Lib.hid ⟨H4.out, List.length_pos_iff.2 h0, HTL.out⟩⟩
  case rest =>
    obtain ⟨tk3, HC⟩ := hcut
    clear f2 c2 H4 HTL
    have c2 : wc.cell? ⟨w.heap.size, 2, none⟩ = some (.string ⟨tk3.toArray⟩) := HC.out.1.st.cell 2
    have f2 := HC.out.1.st.froz 2
    go_upto_if 35 with fail
    go_cut [] from 32 to 39 (fun wx => ∃ tk4 : List UInt8, Hid (RtS w (hdV x2 y1 tk4 (1 + z1) p2 q n2 c u1) q ps2 wx ∧ 1 ≤ tk4.length ∧ tk4.length ≤ 8))
    case first =>
      by_cases h8 : 8 < tk3.length
      · have h8' : (8 : Int) < (tk3.length : Int) := by omega
        go_wp2_with fail
        go_meet
        case rel =>
          refine ⟨tk3.take 8, Lib.hid ⟨?_, by rw [List.length_take]; omega, by rw [List.length_take]; omega⟩⟩
          have := HC.out.1.put 2 (.string ⟨(tk3.take 8).toArray⟩)
          rw [extract_headT]
          exact this
      · have h8' : ¬ (8 : Int) < (tk3.length : Int) := by omega
        go_wp2_with fail
        go_meet
        case rel => exact ⟨tk3, Lib.hid ⟨HC.out.1, HC.out.2.1, by omega⟩⟩
    case rest =>
      obtain ⟨tk4, HD⟩ := hcut
      clear c2 f2 HC
      have c5 : wc.cell? ⟨w.heap.size, 5, none⟩ = some (.slice q n2 c) := HD.out.1.st.cell 5
      have HSO := Lib.hid (rsorts_any q c ps2 wc HD.out.1.rd (by have := HN2.out; omega))
      rw [← HN2.out] at HSO
      obtain ⟨n5, hn5⟩ : ∃ n, n = (rsort ps2).length := ⟨_, rfl⟩
      rw [← hn5] at HSO
      go_wp2_with fail
      refine HSO.out.mono ?_
      rintro r w5 ⟨q5, c5', rfl, hr5, hf5, hb5⟩
      have hs5 := HD.out.1.grow hb5
      have HE0 : Hid (RtS w (hdV x2 y1 tk4 (1 + z1) p2 q5 n5 c5' u1) q5 (rsort ps2) (w5.setCell ⟨w.heap.size, 5, none⟩ (.slice q5 n5 c5'))) := Lib.hid (by
        have hlt : w.heap.size + 1 < wc.heap.size := by
          obtain ⟨Z, _, hZ⟩ := HD.out.1.st.res
          exact (Array.getElem?_eq_some_iff.1 hZ).1
        exact ⟨hs5.st.put 5 _, hr5.rd.kept ((Mod.refl (· = w.heap.size) w5).setCell (p := ⟨w.heap.size, 5, none⟩) (fun _ => rfl) _) (fun a e h => by have := hf5 a e; omega), fun a e => by have := hf5 a e; omega, hr5.addr, hr5.ty.kept ((Mod.refl (· = w.heap.size) w5).setCell (p := ⟨w.heap.size, 5, none⟩) (fun _ => rfl) _) (fun a e h => by have := hf5 a e; omega)⟩)
      have g5 : w5.cell? ⟨w.heap.size, 5, none⟩ = some (.slice q n2 c) := hs5.st.cell 5
      have f5 := hs5.st.froz 5
      have HTK := Lib.hid HD.out.2
      have HLE : Hid (n5 ≤ c5') := Lib.hid (by have := hr5.cap_le; rw [← hn5] at this; exact this)
      have HN5 := Lib.hid hn5
      have hq5 := hr5.shape
      clear hn5 hr5 hf5 hb5 hs5 c5 HSO HD HN2
      have HQ5 : Hid (q5 = none → n5 = 0 ∧ c5' = 0) := Lib.hid (fun e => by
        rcases hq5 with ⟨_, e1, e2⟩ | ⟨g, e1, _⟩
        · exact ⟨by rw [HN5.out, e1]; rfl, e2⟩
        · rw [e] at e1; cases e1)
      clear hq5
      go_upto_region 9 with fail
      refine wp_gen (fun W => RtS w (hdV x2 y1 tk4 (1 + z1) p2 q5 n5 c5' u1) q5 (rsort ps2) W) HE0.out (fun W5 h5 => ?_)
      have H5 := Lib.hid h5
      clear g5 f5 HE0 h5
      have g5 : W5.cell? ⟨w.heap.size, 5, none⟩ = some (.slice q5 n5 c5') := H5.out.st.cell 5
      have f5 := H5.out.st.froz 5
      go_upto_if 47 with fail
      go_cut [] from 44 to 51 (fun wx => ∃ n6 : Nat, Hid (RtS w (hdV x2 y1 tk4 (1 + z1) p2 q5 n6 c5' u1) q5 (rps ps) wx ∧ n6 = (rps ps).length))
      case first =>
        by_cases h8 : 5 < n5
        · have h8' : (5 : Int) < (n5 : Int) := by omega
          have h9 : (5 : Int) ≤ (c5' : Int) := by have := HLE.out; omega
          obtain ⟨b5, o5, rfl⟩ : ∃ b off, q5 = some ⟨b, off, none⟩ := by
            rcases H5.out.ad with e | e
            · have := (HQ5.out e).1; omega
            · exact e
          go_wp2_with fail
          go_meet
          case rel =>
            refine ⟨5, Lib.hid ⟨?_, ?_⟩⟩
            · have := H5.out.put 5 (.slice (some ⟨b5, o5, none⟩) 5 c5')
              exact ⟨this.st, by rw [← HPS.out.1]; exact this.rd.take 5, this.f, this.ad, this.ty⟩
            · rw [← HPS.out.1, List.length_take, ← HN5.out]; omega
        · have h8' : ¬ (5 : Int) < (n5 : Int) := by omega
          go_wp2_with fail
          go_meet
          case rel =>
            have e : rps ps = rsort ps2 := by rw [← HPS.out.1, List.take_of_length_le (by rw [← HN5.out]; omega)]
            refine ⟨n5, Lib.hid ⟨by rw [e]; exact H5.out, by rw [e]; exact HN5.out⟩⟩
      case rest =>
        obtain ⟨n6, HF6⟩ := hcut
        clear g5 f5 H5 HN5 HLE HQ5
        have g5 : wc.cell? ⟨w.heap.size, 5, none⟩ = some (.slice q5 n6 c5') := HF6.out.1.st.cell 5
        have f5 := HF6.out.1.st.froz 5
        go_upto_if 55 with fail
        go_cut [] from 52 to 58 (fun wx => ∃ (q7 : Option Addr) (n7 c7 : Nat) (P7 : List (List UInt8)), Hid (RtS w (hdV x2 y1 tk4 (1 + z1) p2 q7 n7 c7 u1) q7 P7 wx ∧ n7 = P7.length ∧ 1 ≤ n7 ∧ n7 ≤ 5 ∧ (∀ s ∈ P7, s.length = 32) ∧ P7.Pairwise fun s t => Lib.compareBytes s t < 0))
        case first =>
          by_cases h8 : n6 = 0
          · have h8' : ((n6 : Int) == 0) = true := by simp; omega
            have HNA := Lib.hid (lawname_any 0 wc)
            have HNL : Hid ((nameL 0).length = 32) := Lib.hid (nameL_len 0)
            obtain ⟨nm, hnm⟩ : ∃ x, x = nameL 0 := ⟨_, rfl⟩
            rw [← hnm] at HNA HNL
            clear hnm
            have HNB : Hid (Calls Tryd.prog 66 #[.int .u8 0] wc fun r w' => r = .returned (.string ⟨nm.toArray⟩) ∧ Below wc.heap.size wc w') := Lib.hid (by simpa using HNA.out)
            go_wp2_with fail
            refine HNB.out.mono ?_
            rintro r w7 ⟨rfl, hb7⟩
            have hs7 := HF6.out.1.grow hb7
            have hY : Rd encS (w7.alloc (.cells #[.string ⟨nm.toArray⟩] 9)) (some ⟨w7.heap.size, 0, none⟩) [nm] := Rd.made encS w7 9 [nm] (by simp [maxLen])
            have hs8 := hs7.grow ((Below.refl _ w7).alloc (Nat.le_refl _) (.cells #[.string ⟨nm.toArray⟩] 9))
            have g7 : (w7.alloc (.cells #[.string ⟨nm.toArray⟩] 9)).cell? ⟨w.heap.size, 5, none⟩ = some (.slice q5 n6 c5') := hs8.st.cell 5
            have f7 := hs8.st.froz 5
            have HLT : Hid (w.heap.size + 1 < w7.heap.size) := Lib.hid (by
              obtain ⟨Z, _, hZ⟩ := hs7.st.res
              exact (Array.getElem?_eq_some_iff.1 hZ).1)
            have HE8 : Hid (RtS w (hdV x2 y1 tk4 (1 + z1) p2 (some ⟨w7.heap.size, 0, none⟩) 1 1 u1) (some ⟨w7.heap.size, 0, none⟩) [nm] ((w7.alloc (.cells #[.string ⟨nm.toArray⟩] 9)).setCell ⟨w.heap.size, 5, none⟩ (.slice (some ⟨w7.heap.size, 0, none⟩) 1 1))) := Lib.hid
              ⟨hs8.st.put 5 _, hY.kept ((Mod.refl (· = w.heap.size) _).setCell (p := ⟨w.heap.size, 5, none⟩) (fun _ => rfl) _) (fun a e h => by cases e; have := HLT.out; simp only at h; omega), fun a e => by cases e; exact HLT.out, .inr ⟨_, _, rfl⟩, (show TyS _ _ from fun a e => by cases e; exact ⟨#[.string ⟨nm.toArray⟩], heap_alloc_new w7 _⟩).kept ((Mod.refl (· = w.heap.size) _).setCell (p := ⟨w.heap.size, 5, none⟩) (fun _ => rfl) _) (fun a e h => by cases e; have := HLT.out; simp only at h; omega)⟩
            clear hs7 hs8 hY hb7
            go_wp2_with fail
            go_meet
            case rel => exact ⟨_, 1, 1, [nm], Lib.hid ⟨HE8.out, rfl, by omega, by omega, by simpa using HNL.out, by simp⟩⟩
          · have h8' : ((n6 : Int) == 0) = false := by simp; omega
            go_wp2_with fail
            go_meet
            case rel => exact ⟨q5, n6, c5', rps ps, Lib.hid ⟨HF6.out.1, HF6.out.2, by omega, by have := rps_len ps; have := HF6.out.2; omega, (rps_good ps).1, (rps_good ps).2⟩⟩
        case rest =>
          obtain ⟨q7, n7, c7, P7, HG⟩ := hcut
          clear g5 f5 HF6
          obtain ⟨C7, hC7⟩ : ∃ C, C = hdV x2 y1 tk4 (1 + z1) p2 q7 n7 c7 u1 := ⟨_, rfl⟩
          have hCs : C7.size = 7 := by rw [hC7]; rfl
          have hC1 : ∀ v ∈ C7.toList, v.oneCell' = true := by rw [hC7]; exact hdV_one
          have hst := HG.out.1.st
          rw [← hC7] at hst
          obtain ⟨Z, hZs, hZ⟩ := hst.res
          have HBX := Lib.hid hst.box
          have HZ := Lib.hid hZ
          have HSZ : Hid (Z.size = C7.size) := Lib.hid (by rw [hZs, hCs])
          have HIN : Hid ((Tryd.prog.info? 34).map (·.size) = some C7.size) := Lib.hid (by rw [hCs]; exact rhinfo)
          have HC1 := Lib.hid hC1
          have L0 := Lib.hid (setRow_heap wc (w.heap.size + 1) Z C7 34 (0, 0) hZ)
          have hmm : Mod (fun i => False ∨ i = w.heap.size + 1) wc (wc.setRow (w.heap.size + 1) C7) := (Mod.refl (fun _ => False) wc).setRow (g := w.heap.size + 1) C7
          have LM : Hid (Below w.heap.size w (wc.setRow (w.heap.size + 1) C7)) := Lib.hid (hst.m.trans (hmm.to_below hst.m.size (by rintro i hi (h | h) <;> first | exact h | omega)))
          have LR : Hid (Rd encS (wc.setRow (w.heap.size + 1) C7) q7 P7) := Lib.hid (HG.out.1.rd.kept hmm (fun a e h => by have := HG.out.1.f a e; rcases h with h | h; exact h; omega))
          have LA := Lib.hid HG.out.1.ad
          have LT : Hid (TyS (wc.setRow (w.heap.size + 1) C7) q7) := Lib.hid (HG.out.1.ty.kept hmm (fun a e h => by have := HG.out.1.f a e; rcases h with h | h; exact h; omega))
          have HCV : Hid (C7 = hcells (⟨x2, y1, tk4, 1 + z1, p2, P7, u1⟩ : Hd (List UInt8)) q7 c7) := Lib.hid (by rw [hC7, HG.out.2.1]; rfl)
          have HGD : Hid (GoodR (⟨x2, y1, tk4, 1 + z1, p2, P7, u1⟩ : Hd (List UInt8))) := Lib.hid ⟨HX.out, ⟨by simp only; omega, by have := HYZ.out.1; simp only; omega⟩, ⟨by simp only; omega, by have := HYZ.out.2.1; simp only; omega⟩, ⟨by simp only; omega, by have := HYZ.out.2.2; simp only; omega⟩, HP.out, HTK.out, ⟨by have := HG.out.2; simp only; omega, by have := HG.out.2; simp only; omega⟩, HG.out.2.2.2.2.1, HG.out.2.2.2.2.2⟩
          clear hst hZ hmm hC7 hCs hC1 hZs HG HX HYZ HP HTK
          go_wp2_with (first
            | (refine wpList_exec rfl (exec_load_rh (.tmp 1) rfl w.heap.size rfl C7 HIN.out HBX.out) ?_; go_frame)
            | (refine wpList_store_row rfl rfl 34 (.tmp 2) (.tmp 59) rfl (w.heap.size + 1) rfl 34 Z C7 rfl HZ.out HSZ.out HIN.out HC1.out ?_))
          rw [HF.out]
          exact bodyPost_ret (v := .agg C7) (results_cell_row Tryd.results31 _ _ (w.heap.size + 1) 34 _ (0, 0) _ rfl L0.out Tryd.underlying34 rfl HIN.out) rfl ⟨_, q7, c7, by rw [HCV.out], HGD.out, LR.out, LA.out, LT.out, LM.out⟩
end Go.Proofs.YtlhndibfdccohaaDoor

namespace Go.Proofs.YtlhndibfdccohaaDoor
open Go.RowKit

/-- A header of the reference's: where its parents' names lie. -/
structure RH where
  h : Hd (List UInt8)
  q : Option Addr
  c : Nat
instance : Inhabited RH := ⟨⟨⟨0, 0, [], 0, 0, [], 0⟩, none, 0⟩⟩
def RH.cells (x : RH) : List Value := (hcells x.h x.q x.c).toList
theorem RH.len (x : RH) : x.cells.length = 7 := rfl
theorem RH.one (x : RH) : ∀ v ∈ x.cells, v.oneCell' = true := by
  intro v hv
  simp only [RH.cells, hcells, List.mem_cons, List.not_mem_nil, or_false] at hv
  rcases hv with rfl | rfl | rfl | rfl | rfl | rfl | rfl <;> rfl
def encR : Enc RH := ⟨RH.cells, 7, RH.len, RH.one, by decide⟩
theorem encR_one (x : RH) : encR.all [x] = x.cells := by simp [Enc.all, encR]
/-- A good header in memory. -/
structure okR (w : World) (x : RH) : Prop where
  good : GoodR x.h
  rd : Rd encS w x.q x.h.ps
  ad : x.q = none ∨ ∃ b off, x.q = some ⟨b, off, none⟩
  ty : TyS w x.q
theorem okR.old {w w' : World} {x : RH} (h : okR w x) (hb : Below w.heap.size w w') : okR w' x := ⟨h.good, h.rd.old hb, h.ad, h.ty.old hb⟩
/-- What turns is no row of texts. -/
theorem okR.kept {S : Nat → Prop} {w w' : World} {x : RH} (h : okR w x) (hm : Mod S w w') (hS : ∀ i, S i → ∀ cur, w.heap[i]? ≠ some (.cells cur 9 (0, 0))) : okR w' x := by
  have hp : ∀ a, x.q = some a → ¬ S a.block := fun a e hs => by
    obtain ⟨cur, hc⟩ := h.ty a e
    exact hS _ hs cur hc
  exact ⟨h.good, h.rd.kept hm hp, h.ad, h.ty.kept hm hp⟩
theorem rw_notS {w : World} {q : Option Addr} {c : Nat} {D : List RH} (h : Rw encR 34 w q c D) : ∀ i, (∃ a, q = some a ∧ i = a.block) → ∀ cur, w.heap[i]? ≠ some (.cells cur 9 (0, 0)) := by
  rintro i ⟨a, e, rfl⟩ cur hc
  rcases h.shape with ⟨e1, _⟩ | ⟨g, e1, _, _, _, cur2, hh, _⟩
  · rw [e1] at e; cases e
  · rw [e1] at e; cases e
    simp only at hc
    rw [hh] at hc
    simp only [Option.some.injEq, Obj.cells.injEq] at hc
    exact absurd hc.2.1 (by decide)
theorem exec_load_rhm {o : Oper} {a : Act} {w : World} (x : Operand) (ho : o.op = .load 34 x) (b off : Nat) (hx : a.eval x = .pointer (some ⟨b, off, none⟩)) (y : RH)
    (hc : ∀ i u, y.cells[i]? = some u → w.cell? ⟨b, off + i, none⟩ = some u) : (execOp a.eval o).run Tryd.prog w = .ok (.value (.agg y.cells.toArray)) w := by
  have hl := run_loadVar_mid (P := Tryd.prog) w b off 34 y.cells _ (fun j v hv => hc j v hv) Tryd.underlying34 rfl (by rw [y.len]; kernel_rfl)
  unfold execOp
  simp only [ho, hx, Instr.loadAt, Instr.sureAddr, Sem.run_bind, Sem.run_pure, Result.andThen_ok, hl]
set_option maxRecDepth 20000 in
theorem info_rh : ∃ z : Value, (Tryd.prog.info? 34).map (fun i => (i.zero, i.size, i.bytes)) = some (some z, 7, (Tryd.prog.info? 34).elim 0 (·.bytes)) ∧ z.cells.size = 7 ∧ (Tryd.prog.info? 34).elim 0 (·.bytes) ≤ 1024 := ⟨_, rfl, rfl, by decide +kernel⟩
set_option maxRecDepth 20000 in
theorem build_rhs {o : Oper} {a : Act} {w : World} (x : Operand) (ho : o.op = .buildSlice 22 1 #[(0, x)]) (b : RH) (hx : a.eval x = .agg b.cells.toArray) :
    (execOp a.eval o).run Tryd.prog w = .ok (.value (.slice (some ⟨w.heap.size, 0, none⟩) 1 1)) (w.alloc (.cells b.cells.toArray 34)) := by
  obtain ⟨i, z, hi, hz, h1, hzs⟩ : ∃ i z, Tryd.prog.info? 34 = some i ∧ i.zero = some z ∧ i.size = 7 ∧ z.cells.size = 7 := ⟨_, _, rfl, rfl, rfl, rfl⟩
  have hf := Great.fill_whole (s := 7) (by decide) [.agg b.cells.toArray] ((Array.range (1 * 7)).map (z.cells[· % z.cells.size]!)) (by
    intro v hv; rw [List.mem_singleton.1 hv]; show b.cells.toArray.size = 7; rw [List.size_toArray, b.len]) (by simp)
  have hb := run_buildSlice (P := Tryd.prog) w 22 34 1 #[(0, .agg b.cells.toArray)] b.cells.toArray i z Tryd.underlying22 hi hz (by rw [h1]; decide) (by rw [h1]; decide) (by
    rw [h1]
    refine hf.trans ?_
    simp [Value.cells])
  unfold execOp
  simp only [ho, List.map_toArray, List.map_cons, List.map_nil, hx, Sem.run_bind, hb, Result.andThen_ok, Sem.run_pure]
/-- What the law is given. -/
structure argR (w : World) (x : RH) : Prop where
  rd : Rd encS w x.q x.h.ps
  k : (x.h.tk.length : Int) ≤ 9223372036854775807
theorem argR.old {w w' : World} {x : RH} (h : argR w x) (hb : Below w.heap.size w w') : argR w' x := ⟨h.rd.old hb, h.k⟩
/-- Good headers gathered. -/
structure BsR (W wr : World) (k : Nat) (q : Option Addr) (c : Nat) (D : List RH) : Prop where
  len : D.length = k
  rw : Rw encR 34 wr q c D
  ok : ∀ x ∈ D, okR wr x
  b : Below W.heap.size W wr
  f : ∀ a, q = some a → W.heap.size ≤ a.block
theorem BsR.old {W wr w' : World} {k : Nat} {q : Option Addr} {c : Nat} {D : List RH} (h : BsR W wr k q c D) (hb : Below wr.heap.size wr w') : BsR W w' k q c D :=
  ⟨h.len, h.rw.old hb, fun x hx => (h.ok x hx).old hb, h.b.trans (hb.mono h.b.size), h.f⟩
theorem BsR.push {W wr w' : World} {k : Nat} {q q' : Option Addr} {c c' : Nat} {D : List RH} {x : RH} (h : BsR W wr k q c D) (hx : okR wr x) (hP : PushR encR 34 wr q (D ++ [x]) q' c' w') : BsR W w' (k + 1) q' c' (D ++ [x]) := by
  obtain ⟨hR, hM, hor⟩ := hP
  have hns := rw_notS h.rw
  refine ⟨by rw [List.length_append, h.len]; rfl, hR, fun y hy => ?_, h.b.trans (hM.to_below h.b.size (by rintro i hi ⟨a, e, rfl⟩; have := h.f a e; omega)), fun a e => (hor a e).elim (h.f a) (fun q => Nat.le_trans h.b.size q)⟩
  rcases List.mem_append.1 hy with hy | hy
  · exact (h.ok y hy).kept hM hns
  · rw [List.mem_singleton.1 hy]; exact hx.kept hM hns
/-- Another height, power, parents. -/
theorem GoodR.as {h h0 : Hd (List UInt8)} (g : GoodR h) (g0 : GoodR h0) : GoodR ⟨h0.ht, h.mi, h.tk, h.wi, h0.pw, h0.ps, h.sa⟩ := ⟨g0.ht, g.mi, g.wi, g.sa, g0.pw, g.tk, g0.ps, g0.nm, g0.up⟩
end Go.Proofs.YtlhndibfdccohaaDoor

namespace Go.Proofs.YtlhndibfdccohaaDoor
open Go.RowKit

theorem bits_and7 (sa : Int) : ∃ m : Nat, bits .and .i64 sa 7 = (m : Int) := by
  obtain ⟨m, h, _⟩ := and7 sa
  exact ⟨m, h⟩
/-- The new header's cells behind some of the stores. -/
def vgC (x y : RH) (j : Nat) : Array Value :=
  #[.int .i64 (if j = 0 then x.h.ht else y.h.ht), .int .i64 x.h.mi, .string ⟨x.h.tk.toArray⟩, .int .i64 x.h.wi, .int .u64 ((if j < 2 then x.h.pw else y.h.pw : Nat) : Int), (if j < 3 then .slice x.q x.h.ps.length x.c else .slice y.q y.h.ps.length y.c), .int .i64 x.h.sa]
/-- What stands behind some of the stores. -/
def VG (W : World) (g : Nat) (x y : RH) (j : Nat) (_ : Value) (w1 : World) : Prop := Mod (fun i => i = g) W w1 ∧ w1.heap[g]? = some (.cells (vgC x y j) 34 (0, 0))
theorem VG.put {W w1 : World} {g : Nat} {x y : RH} {j i : Nat} {u v : Value} (h : VG W g x y j u w1) (v' : Value) (e : (vgC x y j).setIfInBounds i v = vgC x y (j + 1)) : VG W g x y (j + 1) v' (w1.setCell ⟨g, i, none⟩ v) :=
  ⟨h.1.trans ((Mod.refl (· = g) w1).setCell (p := ⟨g, i, none⟩) (fun _ => rfl) v) (fun _ _ h => h), by rw [← e]; exact heap_setCell_same w1 g i _ 34 v h.2⟩
theorem VG.old {W w1 : World} {g : Nat} {x y : RH} {j : Nat} {u : Value} (h : VG W g x y j u w1) {b o : Nat} {v : Value} (hb : b < W.heap.size) (hn : ¬ b = g) (hc : W.cell? ⟨b, o, none⟩ = some v) : w1.cell? ⟨b, o, none⟩ = some v := (World.cell?_of_block (h.1.block b hb hn)).trans hc
set_option maxRecDepth 20000 in
set_option maxHeartbeats 4000000 in
theorem beside_any (ao : Option Addr) (cap : Nat) (L : List RH) (w : World) (hL : Rd encR w ao L) (hA : ∀ x ∈ L, argR w x) :
    Calls Tryd.prog 7 #[.slice ao L.length cap] w fun r w' => ∃ k q c D, r = .returned (.slice q k c) ∧ k ≤ 7 ∧ k ≤ L.length ∧ (k = 0 → L.length = 0) ∧ BsR w w' k q c D := by
  obtain ⟨F, hF⟩ : ∃ F : Ending → World → Prop, F = fun r w' => ∃ k q c D, r = .returned (.slice q k c) ∧ k ≤ 7 ∧ k ≤ L.length ∧ (k = 0 → L.length = 0) ∧ BsR w w' k q c D := ⟨_, rfl⟩
  have hF2 := hF.symm
  rw [hF2]
  have HF := Lib.hid hF
  obtain ⟨n, hnl⟩ : ∃ n, n = L.length := ⟨_, rfl⟩
  rw [← hnl] at HF ⊢
  have HNL := Lib.hid hnl
  have HL := Lib.hid hL
  have HA := Lib.hid hA
  have H0 : Hid (BsR w w 0 none 0 []) := Lib.hid ⟨rfl, Rw.empty _ _, (fun x h => by cases h), Below.refl _ _, (fun a e => by cases e)⟩
  clear hL hA hnl hF hF2
  go_enter Tryd.func7, Tryd.ntmps7
  go_wp2_with fail
  go_loopw [3, 4] (fun s3 s4 wr => ∃ (k : Nat) (q : Option Addr) (c : Nat) (D : List RH), k ≤ n ∧ k ≤ 7 ∧ s3 = .slice q k c ∧ s4 = .int .i64 (k : Int) ∧ Hid (BsR w wr k q c D)) (fun _ s4 _ => 7 - (intOf s4).toNat)
  case atStart => exact ⟨0, none, 0, [], by omega, by omega, rfl, rfl, H0⟩
  case round =>
    clear H0
    obtain ⟨k, q, c, D, hkn, hk7, rfl, rfl, HS⟩ := hrel
    have k0 : (0 : Int) ≤ k := by omega
    by_cases hlt : k < n
    · have hlt' : (k : Int) < n := by omega
      by_cases hl7 : k < 7
      · have hl7' : (k : Int) < 7 := by omega
        have hkl : k < L.length := by have := HNL.out; omega
        obtain ⟨bs, off, rfl, hbs, hc⟩ := (HL.out.old HS.out.b) k hkl
        obtain ⟨y, hy⟩ : ∃ y, y = L[k] := ⟨_, rfl⟩
        rw [← hy] at hc
        have HCC : Hid (∀ i u, y.cells[i]? = some u → wr.cell? ⟨bs, off + k * 7 + i, none⟩ = some u) := Lib.hid hc
        have HBS := Lib.hid hbs
        have hya : argR wr y := hy ▸ (HA.out _ (List.getElem_mem hkl)).old HS.out.b
        have HRI := Lib.hid (right_any y.h y.q y.c wr hya.rd hya.k)
        have HE1 : Hid ((Value.agg y.cells.toArray) = .agg (hcells y.h y.q y.c)) := Lib.hid rfl
        clear hy hc hbs hkl hya
        go_wp2_with (refine wpList_exec rfl (exec_load_rhm (.tmp 18) rfl bs (off + k * 7) rfl y HCC.out) ?_; go_frame)
        rw [HE1.out]
        refine HRI.out.mono ?_
        rintro r w2 ⟨h5, q5, c5, rfl, hg5, hr5, ha5, ht5, hb5⟩
        have HX5 : Hid (okR w2 ⟨h5, q5, c5⟩) := Lib.hid ⟨hg5, hr5, ha5, ht5⟩
        have HB5 := Lib.hid hb5
        have HS2 := Lib.hid (HS.out.old hb5)
        have c46 : ∀ i u, y.cells[i]? = some u → w2.cell? ⟨bs, off + k * 7 + i, none⟩ = some u := fun i u hu => (hb5.cell (p := ⟨bs, off + k * 7 + i, none⟩) HBS.out).trans (HCC.out i u hu)
        have HC6 := Lib.hid c46
        clear hg5 hr5 ha5 ht5 hb5 HRI HE1 c46 HS HCC
        obtain ⟨x5, hx5⟩ : ∃ x : RH, x = ⟨h5, q5, c5⟩ := ⟨_, rfl⟩
        rw [← hx5] at HX5
        have e2 : Value.agg (hcells h5 q5 c5) = .agg x5.cells.toArray := by rw [hx5]; rfl
        rw [e2]
        have HSZ : Hid (x5.cells.toArray.size = 7) := Lib.hid rfl
        have HQ3 : Hid ((Tryd.prog.info? 34).map (·.size) = some x5.cells.toArray.size) := Lib.hid rhinfo
        have HQ4 : Hid (∀ v ∈ x5.cells.toArray.toList, v.oneCell' = true) := Lib.hid (by simpa using x5.one)
        clear hx5 e2
        go_upto_region 6 with (refine wpList_store_row rfl rfl 34 (.tmp 5) (.tmp 20) rfl w2.heap.size rfl 34 _ x5.cells.toArray rfl (heap_alloc_new w2 _) HSZ.out.symm HQ3.out HQ4.out ?_)
        refine wp_gen (fun W1 => W1.heap[w2.heap.size]? = some (.cells x5.cells.toArray 34 (0, 0)) ∧ Below w2.heap.size w2 W1) (row_new w2 _ _ x5.cells.toArray 34 rfl) (fun W1 hW1 => ?_)
        have HRW0 := Lib.hid hW1.1
        have HS1 := Lib.hid (HS2.out.old hW1.2)
        have HX1 := Lib.hid (HX5.out.old hW1.2)
        have HGF : Hid (∀ a, q = some a → a.block ≠ w2.heap.size) := Lib.hid (fun a e => by have := HS2.out.rw; rw [e] at this; have := this.lt; omega)
        have sac : W1.cell? ⟨bs, off + k * 7 + 6, none⟩ = some (.int .i64 y.h.sa) := (hW1.2.cell (p := ⟨bs, off + k * 7 + 6, none⟩) (Nat.lt_of_lt_of_le HBS.out HB5.out.size)).trans (HC6.out 6 _ rfl)
        obtain ⟨m7, hm7⟩ := bits_and7 y.h.sa
        obtain ⟨g, hg⟩ : ∃ g, g = w2.heap.size := ⟨_, rfl⟩
        rw [← hg] at HRW0 HGF
        rw [← hg]
        have HGB : Hid (w.heap.size ≤ g) := Lib.hid (by rw [hg]; exact HS2.out.b.size)
        clear hW1 HX5 HS2 HC6 HQ3 HQ4 HSZ hg
        go_cut [31] from 16 to 30 (fun s31 wx => ∃ bb : Bool, s31 = .bool bb ∧ (bb = true → 0 < k) ∧ W1 = wx)
        case first =>
          by_cases hk0 : k = 0
          · subst hk0
            go_wp2_with fail
            go_meet
            case rel => exact ⟨false, rfl, (fun h => by cases h), rfl⟩
          · have hkp : (0 : Int) < (k : Int) := by omega
            by_cases hm : m7 = 7
            · subst hm
              go_wp2_with fail
              go_meet
              case rel => exact ⟨false, rfl, (fun h => by cases h), rfl⟩
            · have hm' : ((m7 : Int) != 7) = true := by simp; omega
              go_wp2_with fail
              go_meet
              case rel => exact ⟨true, rfl, (fun _ => by omega), rfl⟩
        case rest =>
        obtain ⟨bb, rfl, hbb, rfl⟩ := hcut
        clear sac hm7
        go_upto_if 31 with fail
        go_cut [] from 32 to 46 (fun wx => ∃ x : RH, Hid (wx.heap[g]? = some (.cells x.cells.toArray 34 (0, 0)) ∧ okR wx x ∧ BsR w wx k q c D))
        case first =>
          cases bb
          · go_wp2_with fail
            go_meet
            case rel => exact ⟨x5, Lib.hid ⟨HRW0.out, HX1.out, HS1.out⟩⟩
          · have hkp : (0 : Int) < (k : Int) := by have := hbb rfl; omega
            · have hkz : 0 < k := hbb rfl
              have hkD : 0 < D.length := by rw [HS1.out.len]; exact hkz
              obtain ⟨b0, o0, rfl, hb0, hc0⟩ := HS1.out.rw.rd 0 hkD
              obtain ⟨y0, hy0⟩ : ∃ y, y = D[0] := ⟨_, rfl⟩
              rw [← hy0] at hc0
              have HY0 : Hid (okR W1 y0) := Lib.hid (hy0 ▸ HS1.out.ok _ (List.getElem_mem hkD))
              have HC0 : Hid (∀ i u, y0.cells[i]? = some u → W1.cell? ⟨b0, o0 + i, none⟩ = some u) := Lib.hid (fun i u hu => by have := hc0 i u hu; simpa using this)
              have HB0 := Lib.hid hb0
              have HGN : Hid (¬ b0 = g) := Lib.hid (HGF.out _ rfl)
              have HGL : Hid (g < W1.heap.size) := Lib.hid (Array.getElem?_eq_some_iff.1 HRW0.out).1
              clear hy0 hc0 hb0 hkD
              have cc0 : W1.cell? ⟨b0, o0, none⟩ = some (.int .i64 y0.h.ht) := HC0.out 0 _ rfl
              have cc4 : W1.cell? ⟨b0, o0 + 4, none⟩ = some (.int .u64 (y0.h.pw : Int)) := HC0.out 4 _ rfl
              have cc5 : W1.cell? ⟨b0, o0 + 5, none⟩ = some (.slice y0.q y0.h.ps.length y0.c) := HC0.out 5 _ rfl
              have cg0 : W1.cell? ⟨g, 0, none⟩ = some (.int .i64 x5.h.ht) := cell_of_row W1 g 0 _ _ _ HRW0.out
              have cg4 : W1.cell? ⟨g, 4, none⟩ = some (.int .u64 (x5.h.pw : Int)) := cell_of_row W1 g 4 _ _ _ HRW0.out
              have cg5 : W1.cell? ⟨g, 5, none⟩ = some (.slice x5.q x5.h.ps.length x5.c) := cell_of_row W1 g 5 _ _ _ HRW0.out
              have fg0 : W1.frozen? ⟨g, 0, none⟩ = false := frozen_of_row W1 g 0 _ _ HRW0.out
              have fg4 : W1.frozen? ⟨g, 4, none⟩ = false := frozen_of_row W1 g 4 _ _ HRW0.out
              have fg5 : W1.frozen? ⟨g, 5, none⟩ = false := frozen_of_row W1 g 5 _ _ HRW0.out
              have hne1 : ¬ b0 = g := HGN.out
              have hne2 : ¬ g = b0 := fun e => HGN.out e.symm
              obtain ⟨xt, hxt⟩ : ∃ v, v = y0.h.ht := ⟨_, rfl⟩
              obtain ⟨xp, hxp⟩ : ∃ v, v = y0.h.pw := ⟨_, rfl⟩
              obtain ⟨xs, hxs⟩ : ∃ v : Value, v = .slice y0.q y0.h.ps.length y0.c := ⟨_, rfl⟩
              have HZ0 : Hid (VG W1 g x5 y0 3 undef (((W1.setCell ⟨g, 0, none⟩ (.int .i64 xt)).setCell ⟨g, 4, none⟩ (.int .u64 (xp : Int))).setCell ⟨g, 5, none⟩ xs)) := Lib.hid (by
                rw [hxt, hxp, hxs]
                have h0 : VG W1 g x5 y0 0 undef W1 := ⟨Mod.refl _ W1, HRW0.out⟩
                have h1 := h0.put (i := 0) (v := .int .i64 y0.h.ht) undef rfl
                have h2 := h1.put (i := 4) (v := .int .u64 (y0.h.pw : Int)) undef rfl
                exact h2.put (i := 5) (v := .slice y0.q y0.h.ps.length y0.c) undef rfl)
              rw [← hxt] at cc0
              rw [← hxp] at cc4
              have HZ : Hid (((((W1.setCell ⟨g, 0, none⟩ (.int .i64 xt)).setCell ⟨g, 4, none⟩ (.int .u64 (xp : Int))).setCell ⟨g, 5, none⟩ xs).drew).heap[g]? = some (.cells (⟨⟨y0.h.ht, x5.h.mi, x5.h.tk, x5.h.wi, y0.h.pw, y0.h.ps, x5.h.sa⟩, y0.q, y0.c⟩ : RH).cells.toArray 34 (0, 0)) ∧ Mod (fun i => i = g) W1 ((((W1.setCell ⟨g, 0, none⟩ (.int .i64 xt)).setCell ⟨g, 4, none⟩ (.int .u64 (xp : Int))).setCell ⟨g, 5, none⟩ xs).drew)) := Lib.hid ⟨HZ0.out.2, HZ0.out.1.drew⟩
              have HXS := Lib.hid hxs
              clear HZ0 hxt hxp hxs
              go_upto_region 7 with fail
              go_region
              go_wp2_with fail
              rw [← HXS.out]
              go_meet
              case rel =>
                have hmz := HZ.out.2
                have hns : ∀ i, i = g → ∀ cur, W1.heap[i]? ≠ some (.cells cur 9 (0, 0)) := by
                  rintro i rfl cur e
                  rw [HRW0.out] at e
                  simp only [Option.some.injEq, Obj.cells.injEq] at e
                  exact absurd e.2.1 (by decide)
                have hx' := HX1.out.kept hmz hns
                have hy' := HY0.out.kept hmz hns
                exact ⟨_, Lib.hid ⟨HZ.out.1, ⟨hx'.good.as hy'.good, hy'.rd, hy'.ad, hy'.ty⟩, HS1.out.len, HS1.out.rw.kept hmz (fun a e h => HGF.out a e h), fun z hz => (HS1.out.ok z hz).kept hmz hns, HS1.out.b.trans (hmz.to_below HS1.out.b.size (by rintro i hi rfl; have := HGB.out; omega)), HS1.out.f⟩⟩
        case rest =>
          obtain ⟨x, HC⟩ := hcut
          clear HRW0 HS1 HX1 HGF
          have HDL : Hid (D.length = k) := Lib.hid HC.out.2.2.len
          have HINF : Hid ((Tryd.prog.info? 34).map (·.size) = some x.cells.toArray.size) := Lib.hid rhinfo
          have hbx : Below wc.heap.size wc (wc.alloc (.cells x.cells.toArray 34)) := (Below.refl _ wc).alloc (Nat.le_refl _) _
          have HS8 := Lib.hid (HC.out.2.2.old hbx)
          have HX8 := Lib.hid (HC.out.2.1.old hbx)
          have HRD : Hid (Rd encR (wc.alloc (.cells x.cells.toArray 34)) (some ⟨wc.heap.size, 0, none⟩) [x]) := Lib.hid (by have := Rd.made encR wc 34 [x] (by simp [maxLen]); rw [encR_one] at this; exact this)
          have HBX := Lib.hid HC.out.1
          obtain ⟨zz, hz1, hz2, hz3⟩ := info_rh
          have HZ1 := Lib.hid hz1
          have HZ2 := Lib.hid hz2
          have HZ3 := Lib.hid hz3
          clear hbx HC hz1 hz2 hz3
          go_wp2_with (first
            | (refine wpList_exec rfl (exec_load_rh (.tmp 5) rfl g rfl x.cells.toArray HINF.out HBX.out) ?_; go_frame)
            | (refine wpList_exec rfl (build_rhs (.tmp 48) rfl x rfl) ?_; go_frame)
            | (at_builtin; refine wpList_pushR encR rfl (.tmp 47) (.tmp 49) 22 34 zz _ rfl Tryd.underlying22 HZ1.out HZ2.out HZ3.out q c k D HDL.out rfl HS8.out.rw (some ⟨wc.heap.size, 0, none⟩) 1 1 [x] rfl rfl HRD.out (by omega) ?_; intro q2 c2 w9 hP; have HP := Lib.hid (HS8.out.push HX8.out hP); clear hP; go_frame))
          go_roundw
          case rel => exact ⟨k + 1, q2, c2, D ++ [x], by omega, by omega, rfl, by go_num, HP⟩
          case measure => simp [intOf]; omega
      · obtain rfl : k = 7 := by omega
        go_wp2_with fail
        rw [HF.out]
        exact ⟨7, q, c, D, rfl, by omega, by omega, by omega, HS.out⟩
    · obtain rfl : k = n := by omega
      have hlt' : ¬ (k : Int) < k := by omega
      clear hlt
      go_wp2_with fail
      rw [HF.out]
      exact ⟨k, q, c, D, rfl, by omega, by omega, fun h => h, HS.out⟩
end Go.Proofs.YtlhndibfdccohaaDoor

namespace Go.Proofs.YtlhndibfdccohaaDoor
open Go.RowKit Go.Sort

/-- A block's name and header, of the reference's header. -/
def blkI (x : RH) : BI := (nmH (ownH x.h), ownH x.h)
theorem GoodR.hok {h : Hd (List UInt8)} (g : GoodR h) : HOkay (ownH h) := by
  refine ⟨g.ht, ⟨g.mi.1, ?_⟩, g.tk, ⟨g.wi.1, ?_⟩, g.pw, ?_, ⟨g.sa.1, ?_⟩⟩
  · have := g.mi.2; show h.mi < 64; omega
  · have := g.wi.2; show h.wi ≤ 15; omega
  · show 1 ≤ (h.ps.map nmOf).length ∧ (h.ps.map nmOf).length ≤ 5
    rw [List.length_map]; exact g.ps
  · have := g.sa.2; show h.sa ≤ 1073741824; omega
theorem GoodR.hk {h : Hd (List UInt8)} (g : GoodR h) : HOk (ownH h) := HOk.of g.hok
/-- Blocks gathered. -/
structure BkR (W wr : World) (D : List RH) (k : Nat) (q : Option Addr) (c : Nat) (K : List Blk) : Prop where
  len : K.length = k
  rw : Rw encK 48 wr q c K
  is : K.map Blk.is = (D.take k).map blkI
  ok : ∀ b ∈ K, okW W wr b
  b : Below W.heap.size W wr
  f : ∀ a, q = some a → W.heap.size ≤ a.block
theorem BkR.old {W wr w' : World} {D : List RH} {k : Nat} {q : Option Addr} {c : Nat} {K : List Blk} (h : BkR W wr D k q c K) (hb : Below wr.heap.size wr w') : BkR W w' D k q c K :=
  ⟨h.len, h.rw.old hb, h.is, fun x hx => ⟨(h.ok x hx).rw.old hb, (h.ok x hx).f, (h.ok x hx).n, (h.ok x hx).k⟩, h.b.trans (hb.mono h.b.size), h.f⟩
theorem BkR.push {W wr w' : World} {D : List RH} {k : Nat} {q q' : Option Addr} {c c' : Nat} {K : List Blk} {b : Blk} (h : BkR W wr D k q c K) (hb : okW W wr b) (hn : (D.take (k + 1)).map blkI = (D.take k).map blkI ++ [b.is]) (hP : PushR encK 48 wr q (K ++ [b]) q' c' w') : BkR W w' D (k + 1) q' c' (K ++ [b]) := by
  obtain ⟨hR, hM, hor⟩ := hP
  have hT : 43 ≠ 48 := by decide
  have one : ∀ x, okW W wr x → okW W w' x := fun x hx => ⟨hx.rw.kept hM (by rintro a e ⟨a', e', q⟩; exact Rw.ne hx.rw h.rw hT a a' e e' q), hx.f, hx.n, hx.k⟩
  refine ⟨by rw [List.length_append, h.len]; rfl, hR, by rw [List.map_append, h.is, hn]; rfl, fun y hy => ?_, h.b.trans (hM.to_below h.b.size (by rintro i hi ⟨a, e, rfl⟩; have := h.f a e; omega)), fun a e => (hor a e).elim (h.f a) (fun q => Nat.le_trans h.b.size q)⟩
  rcases List.mem_append.1 hy with hy | hy
  · exact one _ (h.ok y hy)
  · rw [List.mem_singleton.1 hy]; exact one _ hb
set_option maxRecDepth 20000 in
set_option maxHeartbeats 4000000 in
theorem blocks_any (ao : Option Addr) (cap : Nat) (D : List RH) (w : World) (hD : Rd encR w ao D) (hA : ∀ x ∈ D, okR w x) (hn : D.length ≤ 1000) (hT : TabAt w) :
    Calls Tryd.prog 9 #[.slice ao D.length cap] w fun r w' => ∃ q c K, r = .returned (.slice q D.length c) ∧ BkR w w' D D.length q c K := by
  obtain ⟨F, hF⟩ : ∃ F : Ending → World → Prop, F = fun r w' => ∃ q c K, r = .returned (.slice q D.length c) ∧ BkR w w' D D.length q c K := ⟨_, rfl⟩
  have hF2 := hF.symm
  rw [hF2]
  have HF := Lib.hid hF
  obtain ⟨n, hnl⟩ : ∃ n, n = D.length := ⟨_, rfl⟩
  rw [← hnl] at hn HF ⊢
  have HNL := Lib.hid hnl
  have HD := Lib.hid hD
  have HA := Lib.hid hA
  have HT := Lib.hid hT
  have H0 : Hid (BkR w w D 0 none 0 []) := Lib.hid ⟨rfl, Rw.empty _ _, rfl, (fun x h => by cases h), Below.refl _ _, (fun a e => by cases e)⟩
  clear hD hA hnl hF hF2 hT
  go_enter Tryd.func9, Tryd.ntmps9
  go_wp2_with fail
  go_loopw [3, 8] (fun s3 s8 wr => ∃ (k : Nat) (q : Option Addr) (c : Nat) (K : List Blk), k ≤ n ∧ s3 = .slice q k c ∧ s8 = .int .i64 (k : Int) ∧ Hid (BkR w wr D k q c K)) (fun _ s8 _ => n - (intOf s8).toNat)
  case atStart => exact ⟨0, none, 0, [], by omega, rfl, rfl, H0⟩
  case round =>
    clear H0
    obtain ⟨k, q, c, K, hkn, rfl, rfl, HS⟩ := hrel
    have k0 : (0 : Int) ≤ k := by omega
    by_cases hlt : k < n
    · have hlt' : (k : Int) < n := by omega
      have hkl : k < D.length := by have := HNL.out; omega
      obtain ⟨bs, off, rfl, hbs, hc⟩ := (HD.out.old HS.out.b) k hkl
      obtain ⟨y, hy⟩ : ∃ y, y = D[k] := ⟨_, rfl⟩
      rw [← hy] at hc
      have HCC : Hid (∀ i u, y.cells[i]? = some u → wr.cell? ⟨bs, off + k * 7 + i, none⟩ = some u) := Lib.hid hc
      have hya : okR wr y := hy ▸ (HA.out _ (List.getElem_mem hkl)).old HS.out.b
      have HNX : Hid ((D.take (k + 1)).map blkI = (D.take k).map blkI ++ [blkI y]) := Lib.hid (by rw [List.take_succ_eq_append_getElem hkl, List.map_append, ← hy]; rfl)
      have HOW : Hid (∀ w', Below wr.heap.size wr w' → Calls Tryd.prog 21 #[.agg y.cells.toArray] w' fun r w2 => ∃ q c, r = .returned (.agg (hcells (ownH y.h) q c)) ∧ Rw encN 43 w2 q c (ownH y.h).ps ∧ Below w'.heap.size w' w2) := Lib.hid (fun w' hb => (own_any y.h y.q y.c w' (hya.rd.old hb) (by have := hya.good.ps; omega)).mono (by rintro r w2 ⟨q, c, h1, h2, h3, _⟩; exact ⟨q, c, h1, h2, h3⟩))
      have HGD := Lib.hid hya.good
      have HSZ : Hid (y.cells.toArray.size = 7) := Lib.hid rfl
      have HQ3 : Hid ((Tryd.prog.info? 34).map (·.size) = some y.cells.toArray.size) := Lib.hid rhinfo
      have HQ4 : Hid (∀ v ∈ y.cells.toArray.toList, v.oneCell' = true) := Lib.hid (by simpa using y.one)
      clear hy hc hbs hkl hya
      go_upto_region 5 with (first
        | (refine wpList_exec rfl (exec_load_rhm (.tmp 10) rfl bs (off + k * 7) rfl y HCC.out) ?_; go_frame)
        | (refine wpList_store_row rfl rfl 34 (.tmp 5) (.tmp 11) rfl wr.heap.size rfl 34 _ y.cells.toArray rfl (heap_alloc_new wr _) HSZ.out.symm HQ3.out HQ4.out ?_))
      refine wp_gen (fun W1 => W1.heap[wr.heap.size]? = some (.cells y.cells.toArray 34 (0, 0)) ∧ Below wr.heap.size wr W1) (row_new wr _ _ y.cells.toArray 34 rfl) (fun W1 hW1 => ?_)
      have HRW := Lib.hid hW1.1
      have HB1 := Lib.hid hW1.2
      clear hW1 HCC HQ4 HSZ
      go_wp2_with (refine wpList_exec rfl (exec_load_rh (.tmp 5) rfl wr.heap.size rfl y.cells.toArray HQ3.out HRW.out) ?_; go_frame)
      refine (HOW.out W1 HB1.out).mono ?_
      rintro r w2 ⟨q2, c2, rfl, hr2, hb2⟩
      have hbw2 := HB1.out.trans (hb2.mono HB1.out.size)
      have hT2 : TabAt w2 := HT.out.old (HS.out.b.trans (hbw2.mono HS.out.b.size))
      have HMK := Lib.hid (tsmake_any (ownH y.h) q2 c2 w2 hr2.rd hr2.addr HGD.out.hk hT2)
      have HB2 := Lib.hid hbw2
      clear hr2 hb2 hT2 hbw2 HOW HB1 HRW HQ3
      go_wp2_with fail
      refine HMK.out.mono ?_
      rintro r w3 ⟨q3, c3, rfl, hr3, hf3, hb3⟩
      obtain ⟨b, hb⟩ : ∃ b : Blk, b = ⟨nmH (ownH y.h), ownH y.h, q3, c3⟩ := ⟨_, rfl⟩
      rw [← hb]
      have hbw3 := HB2.out.trans (hb3.mono HB2.out.size)
      have hrb : Rw encN 43 w3 b.q b.c b.h.ps := by rw [hb]; exact hr3
      have hbx := alloc1 w3 (.cells b.cells.toArray 48)
      have HOK : Hid (okW w (w3.alloc (.cells b.cells.toArray 48)) b) := Lib.hid ⟨hrb.old hbx, fun a e => by
          have h1 := hf3 a (by rw [hb] at e; exact e)
          have h2 := HS.out.b.size
          have h3 := HB2.out.size
          omega, by rw [hb]; have := HGD.out.hok; unfold HOkay at this; simp only; omega, by rw [hb]; have := HGD.out.hok; unfold HOkay at this; simp only; omega⟩
      have HS3 := Lib.hid (HS.out.old (hbw3.trans (hbx.mono hbw3.size)))
      have HRD : Hid (Rd encK (w3.alloc (.cells b.cells.toArray 48)) (some ⟨w3.heap.size, 0, none⟩) [b]) := Lib.hid (by have := Rd.made encK w3 48 [b] (by simp [maxLen]); rw [enc_oneK] at this; exact this)
      have HBI : Hid ((D.take (k + 1)).map blkI = (D.take k).map blkI ++ [b.is]) := Lib.hid (by rw [HNX.out, hb]; rfl)
      have HKL : Hid (K.length = k) := Lib.hid HS.out.len
      obtain ⟨zz, hz1, hz2, hz3⟩ := info_blk
      have HZ1 := Lib.hid hz1
      have HZ2 := Lib.hid hz2
      have HZ3 := Lib.hid hz3
      clear hr3 hf3 hb3 hb hrb hbx hbw3 HMK HS HB2 hz1 hz2 hz3 HNX
      go_wp2_with (first
        | (refine wpList_exec rfl (build_blks (.tmp 15) rfl b rfl) ?_; go_frame)
        | (at_builtin; refine wpList_pushR encK rfl (.tmp 12) (.tmp 16) 25 48 zz _ rfl Tryd.underlying25 HZ1.out HZ2.out HZ3.out q c k K HKL.out rfl HS3.out.rw (some ⟨w3.heap.size, 0, none⟩) 1 1 [b] rfl rfl HRD.out (by omega) ?_; intro q4 c4 w9 hP; have HP := Lib.hid (HS3.out.push HOK.out HBI.out hP); clear hP; go_frame))
      go_roundw
      case rel => exact ⟨k + 1, q4, c4, K ++ [b], by omega, rfl, by go_num, HP⟩
      case measure => simp [intOf]; omega
    · obtain rfl : k = n := by omega
      have hlt' : ¬ (k : Int) < k := by omega
      clear hlt
      go_wp2_with fail
      rw [HF.out]
      exact ⟨q, c, K, rfl, HS.out⟩
end Go.Proofs.YtlhndibfdccohaaDoor

namespace Go.Proofs.YtlhndibfdccohaaDoor
open Go.RowKit Go.Sort

/-- A tipset's blocks, by their names and headers: the value of its field. -/
def TsV (w : World) (v : Value) (X : List BI) : Prop :=
  ∃ p c L, v = .slice p L.length c ∧ Rd encK w p L ∧ L.map Blk.is = X ∧ (∀ b ∈ L, okK w b) ∧ L.length ≤ 900000
theorem TsV.old {w w' : World} {v : Value} {X : List BI} (h : TsV w v X) (hb : Below w.heap.size w w') : TsV w' v X := by
  obtain ⟨p, c, L, h1, h2, h3, h4, h5⟩ := h
  exact ⟨p, c, L, h1, h2.old hb, h3, fun b hb' => (h4 b hb').old hb, h5⟩
theorem TsV.nil (w : World) : TsV w (.slice none 0 0) [] := ⟨none, 0, [], rfl, Rd.nil _ _, rfl, (fun b h => by cases h), by decide⟩
theorem TsW.v {W w : World} {q : Option Addr} {c : Nat} {D : List Blk} (h : TsW W w q c D) (hl : D.length ≤ 900000) : TsV w (.slice q D.length c) (D.map Blk.is) :=
  ⟨q, c, D, rfl, h.rw.rd, rfl, fun b hb => (h.ok b hb).ok, hl⟩
def keyX (X : List BI) : List UInt8 := kB (kset (X.map (·.1)))
def tickX : List BI → List UInt8
  | [] => []
  | x :: l => (x :: l).foldl (fun s b => leastS s b.2.tk) x.2.tk
def winsX (X : List BI) : Int := X.foldl (fun s b => wrap64 (s + b.2.wi)) 0
def htX : List BI → Int
  | [] => 0
  | x :: _ => x.2.ht
def pwX : List BI → Nat
  | [] => 0
  | x :: _ => x.2.pw
def parX : List BI → List UInt8
  | [] => []
  | x :: _ => kB (kset x.2.ps)
theorem foldl_is {σ : Type} (f : σ → BI → σ) (s : σ) (L : List Blk) : (L.map Blk.is).foldl f s = L.foldl (fun s b => f s b.is) s := by rw [List.foldl_map]
section
variable {w : World} {v : Value} {X : List BI}
theorem TsV.key (h : TsV w v X) : Calls Tryd.prog 10 #[.agg #[v]] w fun r w' => r = .returned (.string ⟨(keyX X).toArray⟩) ∧ Below w.heap.size w w' := by
  obtain ⟨p, c, L, rfl, h2, rfl, h4, h5⟩ := h
  unfold keyX
  rw [is_ids]
  exact tskey_any p c L w h2 h5
theorem TsV.ticket (h : TsV w v X) : Calls Tryd.prog 11 #[.agg #[v]] w fun r w' => r = .returned (.string ⟨(tickX X).toArray⟩) ∧ Below w.heap.size w w' := by
  obtain ⟨p, c, L, rfl, h2, rfl, h4, h5⟩ := h
  cases L with
  | nil => exact tsticket_nil p c w
  | cons b L =>
    have e : tickX ((b :: L).map Blk.is) = tickS b.h.tk (b :: L) := by
      rw [List.map_cons]
      show (b.is :: L.map Blk.is).foldl _ _ = _
      rw [← List.map_cons, foldl_is]; rfl
    rw [e]
    exact tsticket_any p c b L w h2 (by simpa using Nat.le_of_succ_le h5) (fun x hx => (h4 x hx).k)
theorem TsV.wins (h : TsV w v X) : Calls Tryd.prog 12 #[.agg #[v]] w fun r w' => r = .returned (.int .i64 (winsX X)) ∧ Below w.heap.size w w' := by
  obtain ⟨p, c, L, rfl, h2, rfl, h4, h5⟩ := h
  have e : winsX (L.map Blk.is) = winsK L := by unfold winsX; rw [foldl_is]; rfl
  rw [e]
  exact tswins_any p c L w h2 h5
theorem TsV.height (h : TsV w v X) : Calls Tryd.prog 16 #[.agg #[v]] w fun r w' => r = .returned (.int .i64 (htX X)) ∧ Below w.heap.size w w' := by
  obtain ⟨p, c, L, rfl, h2, rfl, h4, h5⟩ := h
  cases L with
  | nil => exact tsheight_nil p c w
  | cons b L => exact tsheight_any p c b L w h2 (by simpa using Nat.le_of_succ_le h5)
theorem TsV.power (h : TsV w v X) : Calls Tryd.prog 17 #[.agg #[v]] w fun r w' => r = .returned (.int .u64 (pwX X : Int)) ∧ Below w.heap.size w w' := by
  obtain ⟨p, c, L, rfl, h2, rfl, h4, h5⟩ := h
  cases L with
  | nil => exact tspower_nil p c w
  | cons b L => exact tspower_any p c b L w h2 (by simpa using Nat.le_of_succ_le h5)
theorem TsV.zero (h : TsV w v X) : Calls Tryd.prog 24 #[.agg #[v]] w fun r w' => r = .returned (.bool (decide (X = []))) ∧ Below w.heap.size w w' := by
  obtain ⟨p, c, L, rfl, h2, rfl, h4, h5⟩ := h
  have e : decide (L.map Blk.is = []) = decide (L.length = 0) := decide_eq_decide.2 (by simp)
  rw [e]
  exact tszero_any p c L.length w (by omega)
theorem TsV.has (h : TsV w v X) (id : Nm) : Calls Tryd.prog 19 #[.agg #[v], .agg (vals id.1).toArray] w fun r w' => r = .returned (.bool (X.any fun b => b.1.1 == id.1)) ∧ Below w.heap.size w w' := by
  obtain ⟨p, c, L, rfl, h2, rfl, h4, h5⟩ := h
  rw [List.any_map]
  exact tshas_any p c L id w h2 h5
theorem TsV.blocks (h : TsV w v X) : Calls Tryd.prog 15 #[.agg #[v]] w fun r w' => ∃ q c K, r = .returned (.slice q X.length c) ∧ K.map Blk.is = X ∧ TsW w w' q c K ∧ Below w.heap.size w w' := by
  obtain ⟨p, c, L, rfl, h2, rfl, h4, h5⟩ := h
  refine (tsblocks_any p c L w h2 h4 (by omega)).mono ?_
  rintro r w' ⟨q, c', rfl, hO⟩
  obtain ⟨D, hDl, hDr, hDi, hDo⟩ := hO.ex
  rw [List.take_of_length_le (Nat.le_refl _)] at hDi
  exact ⟨q, c', D, by rw [List.length_map], hDi, ⟨hDr, hDo, hO.f⟩, hO.b⟩
theorem TsV.compare {A B : Value} {X Y : List BI} (hA : TsV w A X) (hB : TsV w B Y) : Calls Tryd.prog 13 #[.agg #[A], .agg #[B]] w fun r w' => r = .returned (.int .i64 (orI (Lib.compareBytes (tickX X) (tickX Y)) (Lib.compareBytes (keyX X) (keyX Y)))) ∧ Below w.heap.size w w' :=
  tscompare_any A B _ _ _ _ w (fun _w' hb => (hA.old hb).ticket) (fun _w' hb => (hB.old hb).ticket) (fun _w' hb => (hA.old hb).key) (fun _w' hb => (hB.old hb).key)
end
/-- The first tipset's blocks. -/
def genX : List BI := [(nmH ghd, ghd)]
theorem genesisV (w : World) (hT : TabAt w) : Calls Tryd.prog 25 #[] w fun r w' => ∃ v, r = .returned (.agg #[v]) ∧ TsV w' v genX ∧ Below w.heap.size w w' := by
  refine (tsgenesis_any w hT).mono ?_
  rintro r w' ⟨p, q, c, rfl, h1, h2, h3, h4⟩
  refine ⟨_, rfl, ⟨_, 1, [⟨nmH ghd, ghd, q, c⟩], rfl, h1.rd, rfl, fun b hb => ?_, Nat.le_of_ble_eq_true rfl⟩, h4⟩
  rw [List.mem_singleton.1 hb]
  refine ⟨h2.rd, ?_, Nat.zero_le _, Nat.zero_le _⟩
  rcases h2.shape with ⟨e, _⟩ | ⟨g, e, _⟩
  · exact .inl e
  · exact .inr ⟨g, 0, e⟩
set_option maxRecDepth 20000 in
theorem tsparents_nil (p : Option Addr) (c : Nat) (w : World) :
    Calls Tryd.prog 18 #[.agg #[.slice p 0 c]] w fun r w' => r = .returned (.string ⟨#[]⟩) ∧ Below w.heap.size w w' := by
  have hb1 := alloc1 w (.cells #[.slice p 0 c] 27)
  have HB := Lib.hid hb1
  have HF := Lib.hid (tsfirst_nil p c (w.alloc (.cells #[.slice p 0 c] 27)))
  have HKY := Lib.hid (fun w' => key_any none 0 [] w' (Rd.nil _ _) (.inl rfl) (by decide))
  have HK2 : Hid (∀ w', Calls Tryd.prog 29 #[.slice none 0 0] w' fun r w2 => r = .returned (.string ⟨#[]⟩) ∧ Below w'.heap.size w' w2) := Lib.hid (fun w' => by
    have e0 : kset [] = [] := List.eq_nil_of_length_eq_zero (Nat.le_zero.1 (kset_len []))
    have := HKY.out w'
    rw [e0] at this
    exact this)
  clear hb1 HKY
  go_enter Tryd.func18, Tryd.ntmps18
  go_wp2_with fail
  refine HF.out.mono ?_
  rintro e w2 ⟨rfl, hb2⟩
  have HB2 := Lib.hid (HB.out.trans (hb2.mono HB.out.size))
  clear hb2
  go_wp2_with (first | (refine wpList_field_hd rfl (.tmp 4) rfl zBlk rfl ?_; go_frame) | (refine wpList_field rfl 46 5 (.tmp 5) rfl _ _ rfl (run_fields _ _ _ _ _ _ _ _).2.2.2 ?_; go_frame))
  refine (HK2.out _).mono ?_
  rintro e w3 ⟨rfl, hb3⟩
  have HB3 := Lib.hid (HB2.out.trans (hb3.mono HB2.out.size))
  clear hb3
  go_wp2_with fail
  go_ret
  exact ⟨rfl, HB3.out⟩
theorem TsV.parents {w : World} {v : Value} {X : List BI} (h : TsV w v X) : Calls Tryd.prog 18 #[.agg #[v]] w fun r w' => r = .returned (.string ⟨(parX X).toArray⟩) ∧ Below w.heap.size w w' := by
  obtain ⟨p, c, L, rfl, h2, rfl, h4, h5⟩ := h
  cases L with
  | nil => exact tsparents_nil p c w
  | cons b L => exact tsparents_any p c b L w h2 (by simpa using Nat.le_of_succ_le h5) (h4 b (List.mem_cons_self ..))
end Go.Proofs.YtlhndibfdccohaaDoor

namespace Go.Proofs.YtlhndibfdccohaaDoor
open Go.RowKit Go.Sort

/-- A slice of so many. -/
def lenSt (n : Nat) : Stays := ⟨fun v _ => ∃ q c, v = .slice q n c, fun h _ => h⟩
theorem keyX_gen : keyX genX = rootB := by
  have e : kset (genX.map (·.1)) = [nmH ghd] := kset_self (List.pairwise_singleton _ _)
  unfold keyX
  rw [e]
  show (nmH ghd).1 ++ [] = _
  rw [List.append_nil]; rfl
theorem kB_kset_nil : kB (kset []) = [] := by rw [show kset [] = [] from List.eq_nil_of_length_eq_zero (Nat.le_zero.1 (kset_len []))]; rfl
set_option maxRecDepth 20000 in
set_option maxHeartbeats 4000000 in
theorem awake08_any (w : World) (hT : TabAt w) : Calls Tryd.prog 6 #[] w fun r w' => r = .returned (.bool true) ∧ Below w.heap.size w w' := by
  have HGE := Lib.hid (genesisV w hT)
  have HRT := Lib.hid (fun w' (h : TabAt w') => root_any w' h)
  have HT := Lib.hid hT
  obtain ⟨rb, hrb⟩ : ∃ r, r = rootB := ⟨_, rfl⟩
  have hrl : rb.length = 32 := by rw [hrb]; exact rootB_len
  have HK : Hid (keyX genX = rb) := Lib.hid (by rw [hrb]; exact keyX_gen)
  have HHS : Hid ((genX.any fun b => b.1.1 == rb) = true) := Lib.hid (by rw [hrb]; show (((nmH ghd).1 == rootB) || false) = true; rw [show (nmH ghd).1 = rootB from rfl]; simp)
  rw [← hrb] at HRT
  clear hrb hT
  go_enter Tryd.func6, Tryd.ntmps6
  go_wp2_with fail
  refine HGE.out.mono ?_
  rintro r w1 ⟨tv, rfl, hv, hb1⟩
  have HV1 := Lib.hid hv
  have HB1 := Lib.hid hb1
  clear hv hb1 HGE
  have HQ3 : Hid ((Tryd.prog.info? 27).map (·.size) = some 1) := Lib.hid (by kernel_rfl)
  have HQ4 : Hid (∀ x ∈ (#[tv] : Array Value).toList, x.oneCell' = true) := Lib.hid (by
    obtain ⟨p, c, L, rfl, _⟩ := HV1.out
    intro x hx; simp at hx; rw [hx]; rfl)
  go_upto_region 2 with (refine wpList_store_row rfl rfl 27 (.tmp 1) (.tmp 3) rfl w1.heap.size rfl 27 _ #[tv] rfl (heap_alloc_new w1 _) rfl HQ3.out HQ4.out ?_)
  refine wp_gen (fun W => W.heap[w1.heap.size]? = some (.cells #[tv] 27 (0, 0)) ∧ Below w1.heap.size w1 W) (row_new w1 _ _ #[tv] 27 rfl) (fun W1 hW1 => ?_)
  have HR1 := Lib.hid hW1.1
  have HB2 := Lib.hid (HB1.out.trans (hW1.2.mono HB1.out.size))
  have HV2 := Lib.hid (HV1.out.old hW1.2)
  obtain ⟨g, hg⟩ : ∃ g, g = w1.heap.size := ⟨_, rfl⟩
  rw [← hg] at HR1
  rw [← hg]
  clear hW1 HV1 hg HQ4 HB1
  go_wp2_with fail
  refine (HRT.out W1 (HT.out.old HB2.out)).mono ?_
  rintro r w2 ⟨rfl, hb2⟩
  have HR2 := Lib.hid ((hb2.block _ (Array.getElem?_eq_some_iff.1 HR1.out).1).trans HR1.out)
  have HV3 := Lib.hid (HV2.out.old hb2)
  have HB3 := Lib.hid (HB2.out.trans (hb2.mono HB2.out.size))
  clear hb2 HRT HR1 HV2 HB2
  have hz := zid_run
  have q2 := zid_len.trans (id_size hrl).symm
  have q3 := id_info hrl
  have q4 := id_one rb
  have HRL := Lib.hid hrl
  generalize (vals zid).toArray = ZA at hz q2
  go_upto_region 3 with (refine wpList_store_row rfl rfl 43 (.tmp 2) (.tmp 4) rfl w2.heap.size rfl 43 ZA (vals rb).toArray rfl (heap_alloc_new _ _) q2 q3 q4 ?_)
  refine wp_gen (fun W => W.heap[w2.heap.size]? = some (.cells (vals rb).toArray 43 (0, 0)) ∧ Below w2.heap.size w2 W) (row_new w2 _ _ (vals rb).toArray 43 rfl) (fun W3 hW3 => ?_)
  have HI3 : Hid (IdAt W3 w2.heap.size rb) := Lib.hid ⟨HRL.out, hW3.1⟩
  have HR3 := Lib.hid ((hW3.2.block _ (Array.getElem?_eq_some_iff.1 HR2.out).1).trans HR2.out)
  have HV4 := Lib.hid (HV3.out.old hW3.2)
  have HB4 := Lib.hid (HB3.out.trans (hW3.2.mono HB3.out.size))
  obtain ⟨h, hh⟩ : ∃ g, g = w2.heap.size := ⟨_, rfl⟩
  rw [← hh] at HI3
  rw [← hh]
  clear hW3 hh HV3 HR2 HB3 hz q2 q3 q4 hrl
  refine wp_region_puts (fun t v w => VK (match t with
    | 5 => .eq (.agg #[tv])
    | 6 => .eq (.int .i64 0)
    | 7 => .eq (Value.bool true)
    | 8 => .eq (Value.bool true)
    | 9 => .eq (.agg #[tv])
    | 10 => .eq (.int .u64 2)
    | 11 => .eq (Value.bool true)
    | 12 => .eq (Value.bool true)
    | 13 => .eq (Value.bool true)
    | 14 => .eq (.agg #[tv])
    | 15 => .eq (.string ⟨#[]⟩)
    | 16 => .eq (Value.bool true)
    | 17 => .eq (Value.bool true)
    | 18 => .eq (Value.bool true)
    | 19 => .eq (.agg #[tv])
    | 20 => .eq (.string ⟨rb.toArray⟩)
    | 21 => .eq (.slice (some ⟨h, 0, none⟩) 32 32)
    | 22 => .eq (.string ⟨rb.toArray⟩)
    | 23 => .eq (Value.bool true)
    | 24 => .eq (Value.bool true)
    | 25 => .eq (Value.bool true)
    | 26 => .eq (.agg #[tv])
    | 27 => .st (lenSt 1)
    | 28 => .eq (.int .i64 1)
    | 29 => .eq (Value.bool true)
    | 30 => .eq (Value.bool true)
    | 31 => .eq (Value.bool true)
    | 32 => .eq (.agg #[tv])
    | 33 => .eq (Value.bool false)
    | 34 => .eq (Value.bool true)
    | 35 => .eq (Value.bool true)
    | 36 => .eq (Value.bool true)
    | 37 => .eq (.agg #[tv])
    | 38 => .eq (.agg (vals rb).toArray)
    | 39 => .eq (Value.bool true)
    | 40 => .eq (Value.bool true)
    | 0 => .eq (Value.bool true)
    | _ => .any) v w) (fun w' => Below W3.heap.size W3 w') 41 (by kernel_rfl) (by decide +kernel) rfl (Below.refl _ _).drew (by
    refine OweAll.cons (owesK rfl rfl fun a w1 ha hG hV => ?_) ?_
    · skip
      have h1 := ha.outer 1 (by decide +kernel)
      simp only [Act.eval] at h1
      have cc : w1.cell? ⟨g, 0, none⟩ = some tv := cell_of_row w1 g 0 _ _ _ ((hG.block _ (Array.getElem?_eq_some_iff.1 HR3.out).1).trans HR3.out)
      exact ⟨.agg #[tv], w1, wanted_free rfl, by simp [execOp, go_sem, h1, cc], Below.refl _ _, rfl⟩
    refine OweAll.cons (owesK_call rfl rfl 16 fun a w1 ha hG hV => ?_) ?_
    · skip
      have h5 : a.tmps.getD 5 undef = .agg #[tv] := hV.get 5 (by decide +kernel)
      refine ⟨#[.agg #[tv]], wanted_free rfl, by simp [go_sem, h5], ?_⟩
      refine ((HV4.out.old hG).height).mono ?_
      rintro r u2 ⟨rfl, hb⟩; exact ⟨_, rfl, rfl, hb⟩
    refine OweAll.cons (owesK rfl rfl fun a w1 ha hG hV => ?_) ?_
    · skip
      have h6 : a.tmps.getD 6 undef = .int .i64 0 := hV.get 6 (by decide +kernel)
      exact ⟨Value.bool true, w1, wanted_free rfl, by simp [execOp, go_sem, h6], Below.refl _ _, rfl⟩
    refine OweAll.cons (owesK rfl rfl fun a w1 ha hG hV => ?_) ?_
    · skip
      have h7 : a.tmps.getD 7 undef = Value.bool true := hV.get 7 (by decide +kernel)
      exact ⟨Value.bool true, w1, wanted_free rfl, by simp [execOp, go_sem, h7], Below.refl _ _, rfl⟩
    refine OweAll.cons (owesK rfl rfl fun a w1 ha hG hV => ?_) ?_
    · skip
      have h1 := ha.outer 1 (by decide +kernel)
      simp only [Act.eval] at h1
      have cc : w1.cell? ⟨g, 0, none⟩ = some tv := cell_of_row w1 g 0 _ _ _ ((hG.block _ (Array.getElem?_eq_some_iff.1 HR3.out).1).trans HR3.out)
      exact ⟨.agg #[tv], w1, (wanted_of (t := 8) rfl rfl (hV.get 8 (by decide +kernel))), by simp [execOp, go_sem, h1, cc], Below.refl _ _, rfl⟩
    refine OweAll.cons (owesK_call rfl rfl 17 fun a w1 ha hG hV => ?_) ?_
    · skip
      have h9 : a.tmps.getD 9 undef = .agg #[tv] := hV.get 9 (by decide +kernel)
      refine ⟨#[.agg #[tv]], (wanted_of (t := 8) rfl rfl (hV.get 8 (by decide +kernel))), by simp [go_sem, h9], ?_⟩
      refine ((HV4.out.old hG).power).mono ?_
      rintro r u2 ⟨rfl, hb⟩; exact ⟨_, rfl, rfl, hb⟩
    refine OweAll.cons (owesK rfl rfl fun a w1 ha hG hV => ?_) ?_
    · skip
      have h10 : a.tmps.getD 10 undef = .int .u64 2 := hV.get 10 (by decide +kernel)
      exact ⟨Value.bool true, w1, (wanted_of (t := 8) rfl rfl (hV.get 8 (by decide +kernel))), by simp [execOp, go_sem, h10], Below.refl _ _, rfl⟩
    refine OweAll.cons (owesK rfl rfl fun a w1 ha hG hV => ?_) ?_
    · skip
      have h8 : a.tmps.getD 8 undef = Value.bool true := hV.get 8 (by decide +kernel)
      have h11 : a.tmps.getD 11 undef = Value.bool true := hV.get 11 (by decide +kernel)
      exact ⟨Value.bool true, w1, wanted_free rfl, by simp [execOp, go_sem, h8, h11], Below.refl _ _, rfl⟩
    refine OweAll.cons (owesK rfl rfl fun a w1 ha hG hV => ?_) ?_
    · skip
      have h12 : a.tmps.getD 12 undef = Value.bool true := hV.get 12 (by decide +kernel)
      exact ⟨Value.bool true, w1, wanted_free rfl, by simp [execOp, go_sem, h12], Below.refl _ _, rfl⟩
    refine OweAll.cons (owesK rfl rfl fun a w1 ha hG hV => ?_) ?_
    · skip
      have h1 := ha.outer 1 (by decide +kernel)
      simp only [Act.eval] at h1
      have cc : w1.cell? ⟨g, 0, none⟩ = some tv := cell_of_row w1 g 0 _ _ _ ((hG.block _ (Array.getElem?_eq_some_iff.1 HR3.out).1).trans HR3.out)
      exact ⟨.agg #[tv], w1, (wanted_of (t := 13) rfl rfl (hV.get 13 (by decide +kernel))), by simp [execOp, go_sem, h1, cc], Below.refl _ _, rfl⟩
    refine OweAll.cons (owesK_call rfl rfl 18 fun a w1 ha hG hV => ?_) ?_
    · skip
      have h14 : a.tmps.getD 14 undef = .agg #[tv] := hV.get 14 (by decide +kernel)
      refine ⟨#[.agg #[tv]], (wanted_of (t := 13) rfl rfl (hV.get 13 (by decide +kernel))), by simp [go_sem, h14], ?_⟩
      refine ((HV4.out.old hG).parents).mono ?_
      rintro r u2 ⟨rfl, hb⟩; exact ⟨_, rfl, (by show Value.string _ = _; rw [show parX genX = [] from kB_kset_nil]), hb⟩
    refine OweAll.cons (owesK rfl rfl fun a w1 ha hG hV => ?_) ?_
    · skip
      have h15 : a.tmps.getD 15 undef = .string ⟨#[]⟩ := hV.get 15 (by decide +kernel)
      exact ⟨Value.bool true, w1, (wanted_of (t := 13) rfl rfl (hV.get 13 (by decide +kernel))), by simp [execOp, go_sem, h15], Below.refl _ _, rfl⟩
    refine OweAll.cons (owesK rfl rfl fun a w1 ha hG hV => ?_) ?_
    · skip
      have h13 : a.tmps.getD 13 undef = Value.bool true := hV.get 13 (by decide +kernel)
      have h16 : a.tmps.getD 16 undef = Value.bool true := hV.get 16 (by decide +kernel)
      exact ⟨Value.bool true, w1, wanted_free rfl, by simp [execOp, go_sem, h13, h16], Below.refl _ _, rfl⟩
    refine OweAll.cons (owesK rfl rfl fun a w1 ha hG hV => ?_) ?_
    · skip
      have h17 : a.tmps.getD 17 undef = Value.bool true := hV.get 17 (by decide +kernel)
      exact ⟨Value.bool true, w1, wanted_free rfl, by simp [execOp, go_sem, h17], Below.refl _ _, rfl⟩
    refine OweAll.cons (owesK rfl rfl fun a w1 ha hG hV => ?_) ?_
    · skip
      have h1 := ha.outer 1 (by decide +kernel)
      simp only [Act.eval] at h1
      have cc : w1.cell? ⟨g, 0, none⟩ = some tv := cell_of_row w1 g 0 _ _ _ ((hG.block _ (Array.getElem?_eq_some_iff.1 HR3.out).1).trans HR3.out)
      exact ⟨.agg #[tv], w1, (wanted_of (t := 18) rfl rfl (hV.get 18 (by decide +kernel))), by simp [execOp, go_sem, h1, cc], Below.refl _ _, rfl⟩
    refine OweAll.cons (owesK_call rfl rfl 10 fun a w1 ha hG hV => ?_) ?_
    · skip
      have h19 : a.tmps.getD 19 undef = .agg #[tv] := hV.get 19 (by decide +kernel)
      refine ⟨#[.agg #[tv]], (wanted_of (t := 18) rfl rfl (hV.get 18 (by decide +kernel))), by simp [go_sem, h19], ?_⟩
      refine ((HV4.out.old hG).key).mono ?_
      rintro r u2 ⟨rfl, hb⟩; exact ⟨_, rfl, (by show Value.string _ = _; rw [HK.out]), hb⟩
    refine OweAll.cons (owesK rfl rfl fun a w1 ha hG hV => ?_) ?_
    · skip
      have h2 := ha.outer 2 (by decide +kernel)
      simp only [Act.eval] at h2
      exact ⟨.slice (some ⟨h, 0, none⟩) 32 32, w1, (wanted_of (t := 18) rfl rfl (hV.get 18 (by decide +kernel))), by simp [execOp, go_sem, h2], Below.refl _ _, rfl⟩
    refine OweAll.cons (owesK rfl rfl fun a w1 ha hG hV => ?_) ?_
    · skip
      have h21 : a.tmps.getD 21 undef = .slice (some ⟨h, 0, none⟩) 32 32 := hV.get 21 (by decide +kernel)
      have tx := (HI3.out.old hG).text
      exact ⟨.string ⟨rb.toArray⟩, w1, (wanted_of (t := 18) rfl rfl (hV.get 18 (by decide +kernel))), by simp [execOp, go_sem, h21, tx], Below.refl _ _, rfl⟩
    refine OweAll.cons (owesK rfl rfl fun a w1 ha hG hV => ?_) ?_
    · skip
      have h20 : a.tmps.getD 20 undef = .string ⟨rb.toArray⟩ := hV.get 20 (by decide +kernel)
      have h22 : a.tmps.getD 22 undef = .string ⟨rb.toArray⟩ := hV.get 22 (by decide +kernel)
      exact ⟨Value.bool true, w1, (wanted_of (t := 18) rfl rfl (hV.get 18 (by decide +kernel))), by simp [execOp, go_sem, h20, h22], Below.refl _ _, rfl⟩
    refine OweAll.cons (owesK rfl rfl fun a w1 ha hG hV => ?_) ?_
    · skip
      have h18 : a.tmps.getD 18 undef = Value.bool true := hV.get 18 (by decide +kernel)
      have h23 : a.tmps.getD 23 undef = Value.bool true := hV.get 23 (by decide +kernel)
      exact ⟨Value.bool true, w1, wanted_free rfl, by simp [execOp, go_sem, h18, h23], Below.refl _ _, rfl⟩
    refine OweAll.cons (owesK rfl rfl fun a w1 ha hG hV => ?_) ?_
    · skip
      have h24 : a.tmps.getD 24 undef = Value.bool true := hV.get 24 (by decide +kernel)
      exact ⟨Value.bool true, w1, wanted_free rfl, by simp [execOp, go_sem, h24], Below.refl _ _, rfl⟩
    refine OweAll.cons (owesK rfl rfl fun a w1 ha hG hV => ?_) ?_
    · skip
      have h1 := ha.outer 1 (by decide +kernel)
      simp only [Act.eval] at h1
      have cc : w1.cell? ⟨g, 0, none⟩ = some tv := cell_of_row w1 g 0 _ _ _ ((hG.block _ (Array.getElem?_eq_some_iff.1 HR3.out).1).trans HR3.out)
      exact ⟨.agg #[tv], w1, (wanted_of (t := 25) rfl rfl (hV.get 25 (by decide +kernel))), by simp [execOp, go_sem, h1, cc], Below.refl _ _, rfl⟩
    refine OweAll.cons (owesK_call rfl rfl 15 fun a w1 ha hG hV => ?_) ?_
    · skip
      have h26 : a.tmps.getD 26 undef = .agg #[tv] := hV.get 26 (by decide +kernel)
      refine ⟨#[.agg #[tv]], (wanted_of (t := 25) rfl rfl (hV.get 25 (by decide +kernel))), by simp [go_sem, h26], ?_⟩
      refine ((HV4.out.old hG).blocks).mono ?_
      rintro r u2 ⟨q, c, K, rfl, _, _, hb⟩; exact ⟨_, rfl, ⟨q, c, rfl⟩, hb⟩
    refine OweAll.cons (owesK rfl rfl fun a w1 ha hG hV => ?_) ?_
    · skip
      have s27 : (lenSt 1).p (a.tmps.getD 27 undef) w1 := hV.get 27 (by decide +kernel)
      obtain ⟨q27, c27, h27⟩ := s27
      exact ⟨.int .i64 1, w1, (wanted_of (t := 25) rfl rfl (hV.get 25 (by decide +kernel))), by simp [go_sem, h27], Below.refl _ _, rfl⟩
    refine OweAll.cons (owesK rfl rfl fun a w1 ha hG hV => ?_) ?_
    · skip
      have h28 : a.tmps.getD 28 undef = .int .i64 1 := hV.get 28 (by decide +kernel)
      exact ⟨Value.bool true, w1, (wanted_of (t := 25) rfl rfl (hV.get 25 (by decide +kernel))), by simp [execOp, go_sem, h28], Below.refl _ _, rfl⟩
    refine OweAll.cons (owesK rfl rfl fun a w1 ha hG hV => ?_) ?_
    · skip
      have h25 : a.tmps.getD 25 undef = Value.bool true := hV.get 25 (by decide +kernel)
      have h29 : a.tmps.getD 29 undef = Value.bool true := hV.get 29 (by decide +kernel)
      exact ⟨Value.bool true, w1, wanted_free rfl, by simp [execOp, go_sem, h25, h29], Below.refl _ _, rfl⟩
    refine OweAll.cons (owesK rfl rfl fun a w1 ha hG hV => ?_) ?_
    · skip
      have h30 : a.tmps.getD 30 undef = Value.bool true := hV.get 30 (by decide +kernel)
      exact ⟨Value.bool true, w1, wanted_free rfl, by simp [execOp, go_sem, h30], Below.refl _ _, rfl⟩
    refine OweAll.cons (owesK rfl rfl fun a w1 ha hG hV => ?_) ?_
    · skip
      have h1 := ha.outer 1 (by decide +kernel)
      simp only [Act.eval] at h1
      have cc : w1.cell? ⟨g, 0, none⟩ = some tv := cell_of_row w1 g 0 _ _ _ ((hG.block _ (Array.getElem?_eq_some_iff.1 HR3.out).1).trans HR3.out)
      exact ⟨.agg #[tv], w1, (wanted_of (t := 31) rfl rfl (hV.get 31 (by decide +kernel))), by simp [execOp, go_sem, h1, cc], Below.refl _ _, rfl⟩
    refine OweAll.cons (owesK_call rfl rfl 24 fun a w1 ha hG hV => ?_) ?_
    · skip
      have h32 : a.tmps.getD 32 undef = .agg #[tv] := hV.get 32 (by decide +kernel)
      refine ⟨#[.agg #[tv]], (wanted_of (t := 31) rfl rfl (hV.get 31 (by decide +kernel))), by simp [go_sem, h32], ?_⟩
      refine ((HV4.out.old hG).zero).mono ?_
      rintro r u2 ⟨rfl, hb⟩; exact ⟨_, rfl, rfl, hb⟩
    refine OweAll.cons (owesK rfl rfl fun a w1 ha hG hV => ?_) ?_
    · skip
      have h33 : a.tmps.getD 33 undef = Value.bool false := hV.get 33 (by decide +kernel)
      exact ⟨Value.bool true, w1, (wanted_of (t := 31) rfl rfl (hV.get 31 (by decide +kernel))), by simp [execOp, go_sem, h33], Below.refl _ _, rfl⟩
    refine OweAll.cons (owesK rfl rfl fun a w1 ha hG hV => ?_) ?_
    · skip
      have h31 : a.tmps.getD 31 undef = Value.bool true := hV.get 31 (by decide +kernel)
      have h34 : a.tmps.getD 34 undef = Value.bool true := hV.get 34 (by decide +kernel)
      exact ⟨Value.bool true, w1, wanted_free rfl, by simp [execOp, go_sem, h31, h34], Below.refl _ _, rfl⟩
    refine OweAll.cons (owesK rfl rfl fun a w1 ha hG hV => ?_) ?_
    · skip
      have h35 : a.tmps.getD 35 undef = Value.bool true := hV.get 35 (by decide +kernel)
      exact ⟨Value.bool true, w1, wanted_free rfl, by simp [execOp, go_sem, h35], Below.refl _ _, rfl⟩
    refine OweAll.cons (owesK rfl rfl fun a w1 ha hG hV => ?_) ?_
    · skip
      have h1 := ha.outer 1 (by decide +kernel)
      simp only [Act.eval] at h1
      have cc : w1.cell? ⟨g, 0, none⟩ = some tv := cell_of_row w1 g 0 _ _ _ ((hG.block _ (Array.getElem?_eq_some_iff.1 HR3.out).1).trans HR3.out)
      exact ⟨.agg #[tv], w1, (wanted_of (t := 36) rfl rfl (hV.get 36 (by decide +kernel))), by simp [execOp, go_sem, h1, cc], Below.refl _ _, rfl⟩
    refine OweAll.cons (owesK rfl rfl fun a w1 ha hG hV => ?_) ?_
    · skip
      have h2 := ha.outer 2 (by decide +kernel)
      simp only [Act.eval] at h2
      exact ⟨.agg (vals rb).toArray, w1, (wanted_of (t := 36) rfl rfl (hV.get 36 (by decide +kernel))), exec_load_row 43 (.tmp 2) rfl h h2 43 _ (0, 0) _ ((hG.block _ HI3.out.lt).trans HI3.out.2) Tryd.underlying43 rfl (id_info HRL.out), Below.refl _ _, rfl⟩
    refine OweAll.cons (owesK_call rfl rfl 19 fun a w1 ha hG hV => ?_) ?_
    · skip
      have h37 : a.tmps.getD 37 undef = .agg #[tv] := hV.get 37 (by decide +kernel)
      have h38 : a.tmps.getD 38 undef = .agg (vals rb).toArray := hV.get 38 (by decide +kernel)
      refine ⟨#[.agg #[tv], .agg (vals rb).toArray], (wanted_of (t := 36) rfl rfl (hV.get 36 (by decide +kernel))), by simp [go_sem, h37, h38], ?_⟩
      refine ((HV4.out.old hG).has ⟨rb, HRL.out⟩).mono ?_
      rintro r u2 ⟨rfl, hb⟩; exact ⟨_, rfl, (by show Value.bool _ = _; rw [HHS.out]), hb⟩
    refine OweAll.cons (owesK rfl rfl fun a w1 ha hG hV => ?_) ?_
    · skip
      have h36 : a.tmps.getD 36 undef = Value.bool true := hV.get 36 (by decide +kernel)
      have h39 : a.tmps.getD 39 undef = Value.bool true := hV.get 39 (by decide +kernel)
      exact ⟨Value.bool true, w1, wanted_free rfl, by simp [execOp, go_sem, h36, h39], Below.refl _ _, rfl⟩
    refine OweAll.cons (owesK rfl rfl fun a w1 ha hG hV => ?_) ?_
    · skip
      have h40 : a.tmps.getD 40 undef = Value.bool true := hV.get 40 (by decide +kernel)
      exact ⟨Value.bool true, w1, wanted_free rfl, by simp [execOp, go_sem, h40], Below.refl _ _, rfl⟩
    exact OweAll.nil
    ) ?_
  intro f wz hG hv
  have e0 : f 0 = Value.bool true := hv 36 _ 0 rfl rfl
  rename_i hK
  refine hK _ _ ?_
  clear hK hv
  simp only [dsts, puts, List.filterMap_cons, List.filterMap_nil, List.foldl_cons, List.foldl_nil, Act.put, List.setIfInBounds_toArray, List.set_cons_succ, List.set_cons_zero, e0]
  clear e0
  have HE := Lib.hid (HB4.out.trans (hG.mono HB4.out.size))
  clear hG
  go_wp2_with fail
  go_ret
  exact ⟨rfl, HE.out⟩
end Go.Proofs.YtlhndibfdccohaaDoor

namespace Go.Proofs.YtlhndibfdccohaaDoor
open Go.RowKit Go.Sort

theorem oneI_iff : ∀ X : List BI, oneI X = true ↔ ∀ x ∈ X, ∀ y ∈ X, famI x = famI y
  | [] => by simp [oneI]
  | a :: l => by
    have e : oneI (a :: l) = true ↔ ∀ y ∈ l, famI y = famI a := by
      show (!(l.any fun y => !(famI y == famI a))) = true ↔ _
      rw [Bool.not_eq_true', List.any_eq_false]
      simp
    rw [e]
    constructor
    · intro h x hx y hy
      have h2 : ∀ z ∈ a :: l, famI z = famI a := fun z hz => (List.mem_cons.1 hz).elim (fun e => by rw [e]) (h z)
      rw [h2 x hx, h2 y hy]
    · intro h y hy
      exact h y (List.mem_cons_of_mem _ hy) a (List.mem_cons_self ..)
theorem oneI_perm {X Y : List BI} (h : X.Perm Y) : oneI X = oneI Y := by
  apply Bool.eq_iff_iff.2
  rw [oneI_iff, oneI_iff]
  constructor
  · intro q x hx y hy; exact q x (h.mem_iff.2 hx) y (h.mem_iff.2 hy)
  · intro q x hx y hy; exact q x (h.mem_iff.1 hx) y (h.mem_iff.1 hy)
theorem diffI_perm {X Y : List BI} (h : X.Perm Y) : diffI X = diffI Y := by
  unfold diffI
  rw [decide_eq_decide.2 (h.map (fun x : BI => x.2.mi)).nodup_iff, decide_eq_decide.2 (h.map (fun x : BI => x.1)).nodup_iff]
theorem newE_perm {X Y : List BI} (h : X.Perm Y) : newE X = newE Y := by
  have h1 : X = [] ↔ Y = [] := by
    constructor
    · rintro rfl; exact h.nil_eq.symm
    · rintro rfl; exact h.eq_nil
  unfold newE
  rw [h.length_eq, oneI_perm h, diffI_perm h]
  by_cases hx : X = []
  · rw [if_pos hx, if_pos (h1.1 hx)]
  · rw [if_neg hx, if_neg (fun e => hx (h1.2 e))]
def leI (x y : BI) : Bool := !(ltOf cfN) y.1 x.1
theorem leI_trans (x y z : BI) (h1 : leI x y = true) (h2 : leI y z = true) : leI x z = true := by
  unfold leI at *
  rw [Bool.not_eq_true'] at *
  exact cfN_swo.ntrans z.1 y.1 x.1 h2 h1
theorem leI_total (x y : BI) : (leI x y || leI y x) = true := by
  unfold leI
  cases h : ltOf cfN y.1 x.1 with
  | false => rfl
  | true =>
    cases h2 : ltOf cfN x.1 y.1 with
    | false => rfl
    | true =>
      have := cfN_trans _ _ _ h h2
      rw [cfN_swo.irrefl] at this; cases this
theorem eq_of_idI {X : List BI} (hX : (X.map (·.1)).Nodup) {x y : BI} (hx : x ∈ X) (hy : y ∈ X) (h : x.1 = y.1) : x = y := by
  induction X with
  | nil => cases hx
  | cons a l ih =>
    rw [List.map_cons, List.nodup_cons] at hX
    rcases List.mem_cons.1 hx with e1 | h1
    · rcases List.mem_cons.1 hy with e2 | h2
      · rw [e1, e2]
      · exact absurd (List.mem_map.2 ⟨y, h2, by rw [← h, e1]⟩) hX.1
    · rcases List.mem_cons.1 hy with e2 | h2
      · exact absurd (List.mem_map.2 ⟨x, h1, by rw [h, e2]⟩) hX.1
      · exact ih hX.2 h1 h2
theorem isort_mem {X : List BI} {x : BI} : x ∈ isort X ↔ x ∈ X := (List.mergeSort_perm X _).mem_iff
theorem isort_pair (X : List BI) : (isort X).Pairwise fun x y => leI x y = true := List.pairwise_mergeSort leI_trans leI_total X
theorem isort_perm {X Y : List BI} (h : X.Perm Y) (hX : (X.map (·.1)).Nodup) : isort X = isort Y := by
  refine List.Perm.eq_of_pairwise (le := fun x y => leI x y = true) (fun a b ha hb h1 h2 => ?_) (isort_pair X) (isort_pair Y) ((List.mergeSort_perm X _).trans (h.trans (List.mergeSort_perm Y _).symm))
  unfold leI at h1 h2
  rw [Bool.not_eq_true'] at h1 h2
  exact eq_of_idI hX (isort_mem.1 ha) (h.mem_iff.2 (isort_mem.1 hb)) (cfN_total _ _ h2 h1)
/-- The tipset that New answers: none beside an error. -/
def newX (X : List BI) : List BI := if newE X = 0 then isort X else []
theorem newE_ok {X : List BI} (h : newE X = 0) : X.length ≤ 5 ∧ X ≠ [] ∧ oneI X = true ∧ diffI X = true := by
  unfold newE at h
  split at h
  · cases h
  · split at h
    · cases h
    · split at h
      · rename_i a b c
        exact ⟨by omega, b, (Bool.and_eq_true_iff.1 c).1, (Bool.and_eq_true_iff.1 c).2⟩
      · cases h
theorem diffI_ids {X : List BI} (h : diffI X = true) : (X.map (·.1)).Nodup := of_decide_eq_true (Bool.and_eq_true_iff.1 h).2
theorem newX_perm {X Y : List BI} (h : X.Perm Y) : newX X = newX Y := by
  unfold newX
  rw [newE_perm h]
  by_cases he : newE Y = 0
  · rw [if_pos he, if_pos he]
    exact isort_perm h (diffI_ids (newE_ok ((newE_perm h).trans he)).2.2.2)
  · rw [if_neg he, if_neg he]
/-- New, as a value. -/
theorem NewP.v {w w' : World} {X : List BI} {n : Nat} {r : Ending} (h : NewP w X n r w') (hn : n = X.length) : ∃ v, r = .returned (.tuple #[.agg #[v], .int .i64 (newE X)]) ∧ TsV w' v (newX X) ∧ Below w.heap.size w w' := by
  obtain ⟨hb, ⟨h1, rfl⟩ | ⟨h1, q, c, D, rfl, hT, hD⟩⟩ := h
  · refine ⟨_, rfl, ?_, hb⟩
    unfold newX
    rw [if_neg h1]; exact TsV.nil w'
  · have hl : D.length = n := by
      have := congrArg List.length hD
      rw [List.length_map, isort_len] at this; omega
    have hk := (newE_ok h1).1
    refine ⟨_, by rw [h1], ?_, hb⟩
    unfold newX
    rw [if_pos h1, ← hD]
    have := hT.v (by omega)
    rw [hl] at this; exact this
end Go.Proofs.YtlhndibfdccohaaDoor
