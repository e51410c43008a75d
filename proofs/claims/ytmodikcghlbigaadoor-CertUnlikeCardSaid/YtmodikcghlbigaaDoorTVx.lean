/- The law CertUnlike. -/
import Derived.Test.YtmodikcghlbigaaDoorB10
import Derived.Test.YtmodikcghlbigaaDoorB11
namespace Go.Proofs.YtmodikcghlbigaaDoor
open Go.RowKit

/-- A value: a certificate of the program. -/
def HN (A : Ct) (v : Value) (w : World) : Prop := ∃ p q cp cq, v = .agg (ctc A p q cp cq) ∧ CtW w A p q cp cq
def BxN (A : Ct) (w : World) (g : Nat) : Prop := ∃ p q cp cq, w.heap[g]? = some (.cells (ctc A p q cp cq) 30 (0, 0)) ∧ CtW w A p q cp cq
theorem Rw.apart {α : Type} {E : Enc α} {T T' : TypeId} {w : World} {p : Option Addr} {cap : Nat} {L : List α} (h : Rw E T w p cap L) (hT : T ≠ T') {g : Nat} {Z : Array Value} (hg : w.heap[g]? = some (.cells Z T' (0, 0))) : ∀ a, p = some a → a.block ≠ g := by
  rintro a rfl e
  rcases h.shape with ⟨e', _⟩ | ⟨g', e', hl, _, _, cur, hh, _⟩
  · cases e'
  · cases e'
    subst e
    rw [hg] at hh
    simp only [Option.some.injEq, Obj.cells.injEq] at hh
    exact hT hh.2.1.symm
theorem CtW.store {w : World} {A : Ct} {p q : Option Addr} {cp cq : Nat} (h : CtW w A p q cp cq) {g : Nat} {Z Y : Array Value} (hg : w.heap[g]? = some (.cells Z 30 (0, 0))) : CtW (w.setRow g Y) A p q cp cq :=
  ⟨h.1.kept ((Mod.refl (fun _ => False) w).setRow (g := g) Y) (fun a e hs => by
    rcases hs with hs | hs
    · exact hs
    · exact h.1.apart (T' := 30) (by decide) hg a e hs), h.2.kept ((Mod.refl (fun _ => False) w).setRow (g := g) Y) (fun a e hs => by
    rcases hs with hs | hs
    · exact hs
    · exact h.2.apart (T' := 30) (by decide) hg a e hs)⟩
theorem HN.grow {A : Ct} {v : Value} {w w' : World} (h : HN A v w) (hb : Below w.heap.size w w') : HN A v w' := by
  obtain ⟨p, q, cp, cq, e, hR⟩ := h; exact ⟨p, q, cp, cq, e, hR.old hb⟩
theorem BxN.grow {A : Ct} {g : Nat} {w w' : World} (h : BxN A w g) (hb : Below w.heap.size w w') : BxN A w' g := by
  obtain ⟨p, q, cp, cq, e, hR⟩ := h; exact ⟨p, q, cp, cq, (hb.block g (Array.getElem?_eq_some_iff.1 e).1).trans e, hR.old hb⟩
theorem HN.store {A : Ct} {v : Value} {w : World} (h : HN A v w) {g : Nat} {Z Y : Array Value} (hg : w.heap[g]? = some (.cells Z 30 (0, 0))) : HN A v (w.setRow g Y) := by
  obtain ⟨p, q, cp, cq, e, hR⟩ := h; exact ⟨p, q, cp, cq, e, hR.store hg⟩
theorem BxN.store {A : Ct} {g' : Nat} {w : World} (h : BxN A w g') {g : Nat} {Z Y : Array Value} (hg : w.heap[g]? = some (.cells Z 30 (0, 0))) (hne : g' ≠ g) : BxN A (w.setRow g Y) g' := by
  obtain ⟨p, q, cp, cq, e, hR⟩ := h; exact ⟨p, q, cp, cq, (setRow_other w _ _ Y hne).trans e, hR.store hg⟩
abbrev Gh := Option Nat × Option Nat
def V6 (CX CY : Array Value) (AX AY : Ct) : Tmp → Value → Gh → World → Prop := fun t v γ w => match t with
  | 22 => v = .agg CX
  | 23 => HN AX v w
  | 24 => v = .agg CY
  | 25 => HN AY v w
  | 5 => ∃ g, γ.1 = some g ∧ v = .pointer (some ⟨g, 0, none⟩)
  | 6 => ∃ g, γ.2 = some g ∧ v = .pointer (some ⟨g, 0, none⟩)
  | _ => True
def U6 (AX AY : Ct) : Nat → Gh → World → Prop := fun j γ w => match j with
  | 6 => ∃ g, γ.1 = some g ∧ BxN AX w g
  | 7 => ∃ g, γ.2 = some g ∧ BxN AY w g
  | _ => True
structure G6 (Wb : World) (γ : Gh) (w : World) : Prop where
  m : Below Wb.heap.size Wb w
  a1 : ∀ g, γ.1 = some g → Wb.heap.size ≤ g ∧ ∃ Z : Array Value, Z.size = 5 ∧ w.heap[g]? = some (.cells Z 30 (0, 0))
  a2 : ∀ g, γ.2 = some g → Wb.heap.size ≤ g ∧ ∃ Z : Array Value, Z.size = 5 ∧ w.heap[g]? = some (.cells Z 30 (0, 0))
  ne : ∀ g g', γ.1 = some g → γ.2 = some g' → g ≠ g'
theorem V6.grow {CX CY : Array Value} {AX AY : Ct} {t : Tmp} {v : Value} {γ : Gh} {w w' : World} (h : V6 CX CY AX AY t v γ w) (hb : Below w.heap.size w w') : V6 CX CY AX AY t v γ w' := by
  unfold V6 at h ⊢
  split at h <;> first | exact h | exact h.grow hb
theorem U6.grow {AX AY : Ct} {j : Nat} {γ : Gh} {w w' : World} (h : U6 AX AY j γ w) (hb : Below w.heap.size w w') : U6 AX AY j γ w' := by
  unfold U6 at h ⊢
  split at h
  · obtain ⟨g, e, h⟩ := h; exact ⟨g, e, h.grow hb⟩
  · obtain ⟨g, e, h⟩ := h; exact ⟨g, e, h.grow hb⟩
  · trivial
theorem G6.grow {Wb : World} {γ : Gh} {w w' : World} (h : G6 Wb γ w) (hb : Below w.heap.size w w') : G6 Wb γ w' := by
  refine ⟨h.m.trans (hb.mono h.m.size), fun g e => ?_, fun g e => ?_, h.ne⟩
  · obtain ⟨h1, Z, h2, h3⟩ := h.a1 g e; exact ⟨h1, Z, h2, (hb.block g (Array.getElem?_eq_some_iff.1 h3).1).trans h3⟩
  · obtain ⟨h1, Z, h2, h3⟩ := h.a2 g e; exact ⟨h1, Z, h2, (hb.block g (Array.getElem?_eq_some_iff.1 h3).1).trans h3⟩
theorem V6.store {CX CY : Array Value} {AX AY : Ct} {t : Tmp} {v : Value} {γ : Gh} {w : World} (h : V6 CX CY AX AY t v γ w) {g : Nat} {Z Y : Array Value} (hg : w.heap[g]? = some (.cells Z 30 (0, 0))) : V6 CX CY AX AY t v γ (w.setRow g Y) := by
  unfold V6 at h ⊢
  split at h <;> first | exact h | exact h.store hg
theorem G6.store {Wb : World} {γ : Gh} {w : World} (h : G6 Wb γ w) {g : Nat} {Z Y : Array Value} (hg : w.heap[g]? = some (.cells Z 30 (0, 0))) (hlo : Wb.heap.size ≤ g) (hY : Y.size = 5) : G6 Wb γ (w.setRow g Y) := by
  have hk : ∀ g', Wb.heap.size ≤ g' ∧ (∃ Z : Array Value, Z.size = 5 ∧ w.heap[g']? = some (.cells Z 30 (0, 0))) → Wb.heap.size ≤ g' ∧ ∃ Z : Array Value, Z.size = 5 ∧ (w.setRow g Y).heap[g']? = some (.cells Z 30 (0, 0)) := by
    rintro g' ⟨h1, Z', h2, h3⟩
    by_cases e : g' = g
    · subst e; exact ⟨h1, Y, hY, setRow_heap _ _ _ _ _ _ hg⟩
    · exact ⟨h1, Z', h2, (setRow_other w _ _ Y e).trans h3⟩
  refine ⟨h.m.trans (((Mod.refl (fun _ => False) w).setRow (g := g) Y).to_below h.m.size (by rintro k hk (e | e) <;> first | exact e | omega)), fun g' e => hk g' (h.a1 g' e), fun g' e => hk g' (h.a2 g' e), h.ne⟩

theorem fewC_lenU (X : Ct) : (fewC X).sg.length ≤ 66 ∧ (fewC X).ch.length ≤ 66 ∧ (fewC X).base.length ≤ 200 ∧ (fewC X).fin.length ≤ 200 := by
  unfold fewC; simp only [List.length_take]; omega
theorem CtAt.fewU {w : World} {X : Ct} {p q : Option Addr} (h : CtAt w X p q) : CtAt w (fewC X) p q := ⟨h.1.take 66, h.2.take 66⟩

set_option maxRecDepth 20000 in
set_option maxHeartbeats 16000000 in
theorem certUnlike_any (X : Ct) (p q : Option Addr) (cp cq : Nat) (Y : Ct) (p' q' : Option Addr) (cp' cq' : Nat) (w : World) (hX : CtAt w X p q) (l1 : X.sg.length ≤ cp) (l2 : X.ch.length ≤ cq) (k1 : (X.base.length : Int) ≤ 9223372036854775807) (k2 : (X.fin.length : Int) ≤ 9223372036854775807)
    (hY : CtAt w Y p' q') (l1' : Y.sg.length ≤ cp') (l2' : Y.ch.length ≤ cq') (k1' : (Y.base.length : Int) ≤ 9223372036854775807) (k2' : (Y.fin.length : Int) ≤ 9223372036854775807) (hT : TabAt w) :
    Calls Tryd.prog 5 #[.agg (ctc X p q cp cq), .agg (ctc Y p' q' cp' cq')] w fun r w' => r = .returned (.bool true) ∧ Below w.heap.size w w' := by
  have fewX := Lib.hid (fun w => few07_any X p q cp cq w l1 l2 k1 k2)
  have fewY := Lib.hid (fun w => few07_any Y p' q' cp' cq' w l1' l2' k1' k2')
  have lX := Lib.hid (fewC_lenU X)
  have lY := Lib.hid (fewC_lenU Y)
  have HXF := Lib.hid hX.fewU
  have HYF := Lib.hid hY.fewU
  obtain ⟨FX, hFX⟩ : ∃ F, F = fewC X := ⟨_, rfl⟩
  obtain ⟨FY, hFY⟩ : ∃ F, F = fewC Y := ⟨_, rfl⟩
  rw [← hFX] at fewX lX HXF
  rw [← hFY] at fewY lY HYF
  obtain ⟨CX, hCX⟩ : ∃ C, C = ctc X p q cp cq := ⟨_, rfl⟩
  obtain ⟨CY, hCY⟩ : ∃ C, C = ctc Y p' q' cp' cq' := ⟨_, rfl⟩
  obtain ⟨DX, hDX⟩ : ∃ C, C = ctc FX p q cp cq := ⟨_, rfl⟩
  obtain ⟨DY, hDY⟩ : ∃ C, C = ctc FY p' q' cp' cq' := ⟨_, rfl⟩
  have sX : CX.size = 5 := by rw [hCX]; rfl
  have sY : CY.size = 5 := by rw [hCY]; rfl
  have sDX : DX.size = 5 := by rw [hDX]; rfl
  have sDY : DY.size = 5 := by rw [hDY]; rfl
  have oDX : ∀ v ∈ DX.toList, v.oneCell' = true := by rw [hDX]; exact ctc_one _ _ _ _ _
  have oDY : ∀ v ∈ DY.toList, v.oneCell' = true := by rw [hDY]; exact ctc_one _ _ _ _ _
  have qx : (Tryd.prog.info? 25).map (·.size) = some CX.size := by rw [sX]; exact rct_info
  have qy : (Tryd.prog.info? 25).map (·.size) = some CY.size := by rw [sY]; exact rct_info
  have qdx : (Tryd.prog.info? 25).map (·.size) = some DX.size := by rw [sDX]; exact rct_info
  have qdy : (Tryd.prog.info? 25).map (·.size) = some DY.size := by rw [sDY]; exact rct_info
  rw [← hCX, ← hDX] at fewX
  rw [← hCY, ← hDY] at fewY
  rw [← hCX, ← hCY]
  have HDX := Lib.hid hDX
  have HDY := Lib.hid hDY
  clear hCX hCY hFX hFY hDX hDY hX hY l1 l2 k1 k2 l1' l2' k1' k2'
  obtain ⟨W0, hW0⟩ : ∃ W0, W0 = (w.alloc (.cells CX 25)).alloc (.cells CY 25) := ⟨_, rfl⟩
  have b0 : Below w.heap.size w W0 := by rw [hW0]; exact ((Below.refl _ w).alloc (Nat.le_refl _) _).alloc (by simp) _
  have bx2 : W0.heap[w.heap.size]? = some (.cells CX 25 (0, 0)) := by rw [hW0, Below.heap_alloc _ _ _ (by simp)]; exact heap_alloc_new w _
  have bx3 : W0.heap[w.heap.size + 1]? = some (.cells CY 25 (0, 0)) := by rw [hW0]; have := heap_alloc_new (w.alloc (.cells CX 25)) (.cells CY 25); simpa using this
  have hT0 := hT.old b0
  have B0 := Lib.hid b0
  have BX2 := Lib.hid bx2
  have BX3 := Lib.hid bx3
  have HT := Lib.hid hT
  have HW0 := Lib.hid hW0
  clear b0 bx2 bx3 hW0 hT
  go_enter Tryd.func5, Tryd.ntmps5
  go_wp2_with fail
  rw [← HW0.out]
  refine (awake07_any W0 hT0).mono ?_
  rintro r wb ⟨rfl, hb1⟩
  have B1 := Lib.hid (B0.out.trans (hb1.mono B0.out.size))
  have bx2 := (hb1.block _ (Array.getElem?_eq_some_iff.1 BX2.out).1).trans BX2.out
  have bx3 := (hb1.block _ (Array.getElem?_eq_some_iff.1 BX3.out).1).trans BX3.out
  clear hb1 hT0 BX2 BX3
  go_wp2_with fail
  obtain ⟨g2, hg2⟩ : ∃ g, g = w.heap.size := ⟨_, rfl⟩
  rw [← hg2] at bx2 bx3 ⊢
  have Hg2 := Lib.hid hg2
  have HG0 : Hid ((fun (j : Nat) (_ : Value) (w' : World) => Mod (fun i => i = g2 ∨ i = g2 + 1) wb w' ∧ w'.heap[g2]? = some (.cells (match j with | 0 => CX | 1 => CX | 2 => CX | _ => DX) 25 (0, 0)) ∧ w'.heap[g2 + 1]? = some (.cells (match j with | 0 => CY | 1 => CY | 2 => CY | 3 => CY | _ => DY) 25 (0, 0))) 0 undef wb.drew) := Lib.hid ⟨(Mod.refl _ wb).drew, bx2, bx3⟩
  clear bx2 bx3 hg2
  refine wp_region_chain (fun t v => match t with
    | 10 => v = .agg CX
    | 11 => v = .agg DX
    | 12 => v = .agg CY
    | 13 => v = .agg DY
    | _ => True) (fun (j : Nat) (_ : Value) (w' : World) => Mod (fun i => i = g2 ∨ i = g2 + 1) wb w' ∧ w'.heap[g2]? = some (.cells (match j with | 0 => CX | 1 => CX | 2 => CX | _ => DX) 25 (0, 0)) ∧ w'.heap[g2 + 1]? = some (.cells (match j with | 0 => CY | 1 => CY | 2 => CY | 3 => CY | _ => DY) 25 (0, 0))) [1, 3, 4, 5] 47 (by kernel_rfl) (by decide +kernel) rfl (by decide +kernel) (by decide) (by decide) HG0.out (by
    refine OweAllC.cons (owesC_val 0 (by decide +kernel) (by decide) rfl rfl fun k' a w1 x hk ha hG hV => ?_) ?_
    · skip
      have h2 := ha.outer 2 (by decide +kernel)
      simp only [Act.eval] at h2
      have cc : w1.heap[g2]? = some (.cells CX 25 (0, 0)) := by have h := hG.2.1; rcases (show k' = 0 ∨ k' = 1 by omega) with rfl | rfl <;> exact h
      exact ⟨.agg CX, wanted_free rfl, exec_load_row 25 (.tmp 2) rfl (g2) h2 25 CX (0, 0) _ cc Tryd.underlying25 rfl qx, rfl⟩
    refine OweAllC.cons (owesC_call 0 rfl rfl rfl 7 fun a w1 x ha hG hx hV => ?_) ?_
    · skip
      have h10 : a.tmps.getD 10 undef = .agg CX := hV.get 10 (by decide +kernel)
      refine ⟨#[.agg CX], wanted_free rfl, by simp [execOp, resolve, invoke, go_sem, h10], ?_⟩
      refine (fewX.out w1).mono ?_
      rintro r u2 ⟨rfl, hb⟩
      exact ⟨_, rfl, rfl, ⟨hG.1.trans (Mod.of_below hb) (fun i hi hs => absurd hs (by have := hG.1.size; omega)), (hb.block _ (Array.getElem?_eq_some_iff.1 hG.2.1).1).trans hG.2.1, (hb.block _ (Array.getElem?_eq_some_iff.1 hG.2.2).1).trans hG.2.2⟩⟩
    refine OweAllC.cons (owesC_val 1 (by decide +kernel) (by decide) rfl rfl fun k' a w1 x hk ha hG hV => ?_) ?_
    · skip
      have h3 := ha.outer 3 (by decide +kernel)
      simp only [Act.eval] at h3
      have cc : w1.heap[g2 + 1]? = some (.cells CY 25 (0, 0)) := by have h := hG.2.2; rcases (show k' = 0 ∨ k' = 1 by omega) with rfl | rfl <;> exact h
      exact ⟨.agg CY, wanted_free rfl, exec_load_row 25 (.tmp 3) rfl (g2 + 1) h3 25 CY (0, 0) _ cc Tryd.underlying25 rfl qy, rfl⟩
    refine OweAllC.cons (owesC_call 1 rfl rfl rfl 7 fun a w1 x ha hG hx hV => ?_) ?_
    · skip
      have h12 : a.tmps.getD 12 undef = .agg CY := hV.get 12 (by decide +kernel)
      refine ⟨#[.agg CY], wanted_free rfl, by simp [execOp, resolve, invoke, go_sem, h12], ?_⟩
      refine (fewY.out w1).mono ?_
      rintro r u2 ⟨rfl, hb⟩
      exact ⟨_, rfl, rfl, ⟨hG.1.trans (Mod.of_below hb) (fun i hi hs => absurd hs (by have := hG.1.size; omega)), (hb.block _ (Array.getElem?_eq_some_iff.1 hG.2.1).1).trans hG.2.1, (hb.block _ (Array.getElem?_eq_some_iff.1 hG.2.2).1).trans hG.2.2⟩⟩
    refine OweAllC.cons (owesC_store 2 rfl rfl rfl fun a w1 x ha hG hx hV => ?_) ?_
    · skip
      have h2 := ha.outer 2 (by decide +kernel)
      simp only [Act.eval] at h2
      have h11 : a.tmps.getD 11 undef = .agg DX := hV.get 11 (by decide +kernel)
      have hm : Mod (fun i => i = g2) w1 (w1.setRow g2 DX) := ((Mod.refl (fun _ => False) w1).setRow _).mono (fun i _ h => h.elim (fun h => h.elim) id)
      exact ⟨w1.setRow g2 DX, wanted_free rfl, exec_store_row 25 (.tmp 2) (.tmp 11) rfl g2 h2 25 CX _ h11 hG.2.1 (by rw [sX, sDX]) qdx oDX, hG.1.trans hm (fun i _ h => Or.inl h), setRow_heap _ _ _ _ _ _ hG.2.1, (setRow_other w1 _ _ _ (by omega)).trans hG.2.2⟩
    refine OweAllC.cons (owesC_store 3 rfl rfl rfl fun a w1 x ha hG hx hV => ?_) ?_
    · skip
      have h3 := ha.outer 3 (by decide +kernel)
      simp only [Act.eval] at h3
      have h13 : a.tmps.getD 13 undef = .agg DY := hV.get 13 (by decide +kernel)
      have hm : Mod (fun i => i = g2 + 1) w1 (w1.setRow (g2 + 1) DY) := ((Mod.refl (fun _ => False) w1).setRow _).mono (fun i _ h => h.elim (fun h => h.elim) id)
      exact ⟨w1.setRow (g2 + 1) DY, wanted_free rfl, exec_store_row 25 (.tmp 3) (.tmp 13) rfl (g2 + 1) h3 25 CY _ h13 hG.2.2 (by rw [sY, sDY]) qdy oDY, hG.1.trans hm (fun i _ h => Or.inr h), (setRow_other w1 _ _ _ (by omega)).trans hG.2.1, setRow_heap _ _ _ _ _ _ hG.2.2⟩
    exact OweAllC.nil
    ) ?_
  intro f wz xz hG hx hv
  first | (rename_i hK; refine hK _ _ ?_; clear hK) | (rename_i hK _; refine hK _ _ ?_; clear hK) | (rename_i hK _ _; refine hK _ _ ?_; clear hK) | (rename_i hK _ _ _; refine hK _ _ ?_; clear hK)
  clear hv hx
  simp only [dsts, puts, List.filterMap_cons, List.filterMap_nil, List.foldl_cons, List.foldl_nil, Act.put, List.setIfInBounds_toArray, List.set_cons_succ, List.set_cons_zero]
  obtain ⟨hM, bx2, bx3⟩ : Mod (fun i => i = g2 ∨ i = g2 + 1) wb wz ∧ wz.heap[g2]? = some (.cells DX 25 (0, 0)) ∧ wz.heap[g2 + 1]? = some (.cells DY 25 (0, 0)) := hG
  have BZ : Hid (Below w.heap.size w wz) := Lib.hid (B1.out.trans (hM.to_below B1.out.size (by intro k hk h; have := Hg2.out; omega)))
  clear HG0 fewX fewY hM B1 B0 HW0
  obtain ⟨e1, he1⟩ : ∃ e, e = ck FX := ⟨_, rfl⟩
  obtain ⟨e2, he2⟩ : ∃ e, e = ck FY := ⟨_, rfl⟩
  have ck1 : Hid (∀ w, CtAt w FX p q → Calls Tryd.prog 10 #[.agg DX] w fun r w' => r = .returned (.int .i64 e1) ∧ Below w.heap.size w w') := Lib.hid (fun w h => by rw [he1, HDX.out]; have := lX.out; exact rcheck_any FX p q cp cq w h (by omega) (by omega) (by omega) (by omega))
  have ck2 : Hid (∀ w, CtAt w FY p' q' → Calls Tryd.prog 10 #[.agg DY] w fun r w' => r = .returned (.int .i64 e2) ∧ Below w.heap.size w w') := Lib.hid (fun w h => by rw [he2, HDY.out]; have := lY.out; exact rcheck_any FY p' q' cp' cq' w h (by omega) (by omega) (by omega) (by omega))
  have ow1 : Hid (∀ w, CtAt w FX p q → Calls Tryd.prog 8 #[.agg DX] w fun r w' => ∃ p' q' cp' cq', r = .returned (.agg (ctc FX p' q' cp' cq')) ∧ CtW w' FX p' q' cp' cq' ∧ Below w.heap.size w w') := Lib.hid (fun w h => by rw [HDX.out]; have := lX.out; exact own07R_any FX p q cp cq w h (by omega) (by omega))
  have ow2 : Hid (∀ w, CtAt w FY p' q' → Calls Tryd.prog 8 #[.agg DY] w fun r w' => ∃ p' q' cp' cq', r = .returned (.agg (ctc FY p' q' cp' cq')) ∧ CtW w' FY p' q' cp' cq' ∧ Below w.heap.size w w') := Lib.hid (fun w h => by rw [HDY.out]; have := lY.out; exact own07R_any FY p' q' cp' cq' w h (by omega) (by omega))
  have sm : Hid (∀ p5 q5 cp5 cq5 w, CtAt w FX p5 q5 → CtAt w FY p' q' → Calls Tryd.prog 15 #[.agg (ctc FX p5 q5 cp5 cq5), .agg DY] w fun r w' => ∃ R : Bool, (R = true ↔ FX = FY) ∧ r = .returned (.bool R) ∧ Below w.heap.size w w') := Lib.hid (fun p5 q5 cp5 cq5 w h1 h2 => by rw [HDY.out]; have := lX.out; exact same07_any FX FY p5 q5 p' q' cp5 cq5 cp' cq' w h1 h2 (by omega) (by omega))
  have HE1 := Lib.hid he1
  have HE2 := Lib.hid he2
  have hg21 : g2 + 1 < wz.heap.size := (Array.getElem?_eq_some_iff.1 bx3).1
  have HA : Hid (∀ w', Below wz.heap.size wz w' → w'.heap[g2]? = some (.cells DX 25 (0, 0)) ∧ w'.heap[g2 + 1]? = some (.cells DY 25 (0, 0)) ∧ CtAt w' FX p q ∧ CtAt w' FY p' q' ∧ TabAt w' ∧ Below w.heap.size w w') := Lib.hid (fun w' h => by
    have hw := BZ.out.trans (h.mono BZ.out.size)
    exact ⟨(h.block _ (Array.getElem?_eq_some_iff.1 bx2).1).trans bx2, (h.block _ (Array.getElem?_eq_some_iff.1 bx3).1).trans bx3, HXF.out.old hw, HYF.out.old hw, HT.out.old hw, hw⟩)
  clear he1 he2 bx3 hg21 qx qy sX sY oDX oDY HXF HYF HT
  have at0 := (HA.out wz (Below.refl _ _)).2.2.1
  go_wp2_with (refine wpList_load_row rfl 25 (.tmp 2) rfl g2 rfl 25 DX (0, 0) _ bx2 Tryd.underlying25 rfl qdx ?_)
  refine (ck1.out wz at0).mono ?_
  rintro r w3 ⟨rfl, hb3⟩
  have B3 := Lib.hid hb3
  have bx3 := (HA.out w3 hb3).2.1
  clear bx2 hb3 ck1 at0
  by_cases z1 : e1 = 0
  case neg =>
    have t1 : (e1 == 0) = false := by simp [z1]
    have t2 : (e1 != 0) = true := by simp [z1]
    have HB := Lib.hid (HA.out w3 B3.out).2.2.2.2.2
    clear z1 bx3
    go_wp2_with fail
    go_ret
    exact ⟨rfl, HB.out⟩
  have Z1 := Lib.hid z1
  have t1 : (e1 != 0) = false := by simp [z1]
  clear z1
  go_wp2_with (refine wpList_load_rowG rfl 25 (.tmp 3) rfl (g2 + 1) rfl 25 DY (0, 0) _ bx3 Tryd.underlying25 rfl qdy ?_)
  refine (ck2.out w3 (HA.out w3 B3.out).2.2.2.1).mono ?_
  rintro r w4 ⟨rfl, hb4⟩
  have B4 := Lib.hid (B3.out.trans (hb4.mono B3.out.size))
  clear bx3 hb4 ck2 B3
  by_cases z2 : e2 = 0
  case neg =>
    have t3 : (e2 == 0) = false := by simp [z2]
    have t4 : (e2 != 0) = true := by simp [z2]
    have HB := Lib.hid (HA.out w4 B4.out).2.2.2.2.2
    clear z2
    go_wp2_with fail
    go_ret
    exact ⟨rfl, HB.out⟩
  have t2 : (e2 != 0) = false := by simp [z2]
  have OA := Lib.hid (ck_ok.1 (HE1.out.symm.trans Z1.out))
  have OB := Lib.hid (ck_ok.1 (HE2.out.symm.trans z2))
  clear z2
  go_upto_region 6 with fail
  clear t1 t2
  have HG0 : Hid (G6 w4 ((none, none) : Gh) w4.drew) := Lib.hid ⟨(Below.refl _ _).drew, (fun g e => by cases e), (fun g e => by cases e), (fun g g' e => by cases e)⟩
  have H2 : Hid (∀ w', Below w4.heap.size w4 w' → w'.heap[g2]? = some (.cells DX 25 (0, 0)) ∧ w'.heap[g2 + 1]? = some (.cells DY 25 (0, 0)) ∧ CtAt w' FX p q ∧ CtAt w' FY p' q' ∧ TabAt w' ∧ Below w.heap.size w w') := Lib.hid (fun w' hb => HA.out w' (B4.out.trans (hb.mono B4.out.size)))
  clear HA B4 BZ
  refine wp_region_puts2 (Γ := Gh) (none, none) (V6 DX DY FX FY) (U6 FX FY) (G6 w4) 47 (by kernel_rfl) (by decide +kernel) rfl HG0.out (by
    refine OweAll2.cons (owes2_val rfl rfl (fun _ _ => trivial) fun γ a w2 ha hG hV => ?_) ?_
    · have h2 := ha.outer 2 (by decide +kernel)
      simp only [Act.eval] at h2
      exact ⟨.agg DX, wanted_free rfl, exec_load_row 25 (.tmp 2) rfl g2 h2 25 DX (0, 0) _ (H2.out w2 hG.m).1 Tryd.underlying25 rfl qdx, rfl⟩
    refine OweAll2.cons (owes2_call rfl rfl 8 (fun _ _ => trivial) fun γ a w2 ha hG hV => ?_) ?_
    · have h22 : a.tmps.getD 22 undef = .agg DX := hV.get 22 (by decide +kernel)
      refine ⟨#[.agg DX], wanted_free rfl, by simp [execOp, resolve, invoke, go_sem, h22], ?_⟩
      refine (ow1.out w2 (H2.out w2 hG.m).2.2.1).mono ?_
      rintro r u2 ⟨p5, q5, cp5, cq5, rfl, hR, hb⟩
      exact ⟨_, rfl, ⟨p5, q5, cp5, cq5, rfl, hR⟩, hG.grow hb, fun t u h => h.grow hb, fun j h => h.grow hb⟩
    refine OweAll2.cons (owes2_val rfl rfl (fun _ _ => trivial) fun γ a w2 ha hG hV => ?_) ?_
    · have h3 := ha.outer 3 (by decide +kernel)
      simp only [Act.eval] at h3
      exact ⟨.agg DY, wanted_free rfl, exec_load_row 25 (.tmp 3) rfl (g2 + 1) h3 25 DY (0, 0) _ (H2.out w2 hG.m).2.1 Tryd.underlying25 rfl qdy, rfl⟩
    refine OweAll2.cons (owes2_call rfl rfl 8 (fun _ _ => trivial) fun γ a w2 ha hG hV => ?_) ?_
    · have h24 : a.tmps.getD 24 undef = .agg DY := hV.get 24 (by decide +kernel)
      refine ⟨#[.agg DY], wanted_free rfl, by simp [execOp, resolve, invoke, go_sem, h24], ?_⟩
      refine (ow2.out w2 (H2.out w2 hG.m).2.2.2.1).mono ?_
      rintro r u2 ⟨p5, q5, cp5, cq5, rfl, hR, hb⟩
      exact ⟨_, rfl, ⟨p5, q5, cp5, cq5, rfl, hR⟩, hG.grow hb, fun t u h => h.grow hb, fun j h => h.grow hb⟩
    refine OweAll2.cons (owes2_mem [6, 7] (by decide +kernel) (by decide +kernel) rfl rfl fun γ a w2 ha hG hV => ?_) ?_
    · have hb : Below w2.heap.size w2 (w2.alloc (.cells #[.int .i64 0, .string ⟨#[]⟩, .string ⟨#[]⟩, .slice none 0 0, .slice none 0 0] 30)) := (Below.refl _ _).alloc (Nat.le_refl _) _
      have hG2 := hG.grow hb
      refine ⟨.pointer (some ⟨w2.heap.size, 0, none⟩), w2.alloc (.cells #[.int .i64 0, .string ⟨#[]⟩, .string ⟨#[]⟩, .slice none 0 0, .slice none 0 0] 30), (some w2.heap.size, γ.2), wanted_free rfl, by simp [execOp, go_sem], ⟨_, rfl, rfl⟩, trivial, ?_, ?_, ?_⟩
      · exact ⟨hG2.m, fun g e => by cases e; exact ⟨hG.m.size, _, rfl, heap_alloc_new _ _⟩, hG2.a2, fun g g' e e' => by cases e; obtain ⟨_, Z, _, h⟩ := hG.a2 g' e'; have := (Array.getElem?_eq_some_iff.1 h).1; omega⟩
      · intro t x ht h
        have := h.grow hb
        unfold V6 at this ⊢
        split at this <;> first | exact this | exact absurd rfl ht
      · intro j hj hji h
        have := h.grow hb
        unfold U6 at this ⊢
        split at this <;> first | exact absurd hj (by decide) | trivial
    refine OweAll2.cons (owes2_mem [6, 7] (by decide +kernel) (by decide +kernel) rfl rfl fun γ a w2 ha hG hV => ?_) ?_
    · have hb : Below w2.heap.size w2 (w2.alloc (.cells #[.int .i64 0, .string ⟨#[]⟩, .string ⟨#[]⟩, .slice none 0 0, .slice none 0 0] 30)) := (Below.refl _ _).alloc (Nat.le_refl _) _
      have hG2 := hG.grow hb
      refine ⟨.pointer (some ⟨w2.heap.size, 0, none⟩), w2.alloc (.cells #[.int .i64 0, .string ⟨#[]⟩, .string ⟨#[]⟩, .slice none 0 0, .slice none 0 0] 30), (γ.1, some w2.heap.size), wanted_free rfl, by simp [execOp, go_sem], ⟨_, rfl, rfl⟩, trivial, ?_, ?_, ?_⟩
      · exact ⟨hG2.m, hG2.a1, fun g e => by cases e; exact ⟨hG.m.size, _, rfl, heap_alloc_new _ _⟩, fun g g' e e' => by cases e'; obtain ⟨_, Z, _, h⟩ := hG.a1 g e; have := (Array.getElem?_eq_some_iff.1 h).1; omega⟩
      · intro t x ht h
        have := h.grow hb
        unfold V6 at this ⊢
        split at this <;> first | exact this | exact absurd rfl ht
      · intro j hj hji h
        have := h.grow hb
        unfold U6 at this ⊢
        split at this <;> first | exact absurd hj (by decide) | trivial
    refine OweAll2.cons (owes2_store [7] (by decide +kernel) rfl rfl fun γ a w2 ha hG hV => ?_) ?_
    · obtain ⟨g, eg, h5⟩ : ∃ g, γ.1 = some g ∧ a.tmps.getD 5 undef = .pointer (some ⟨g, 0, none⟩) := hV.get 5 (by decide +kernel)
      obtain ⟨p5, q5, cp5, cq5, h23, hR⟩ : HN FX (a.tmps.getD 23 undef) w2 := hV.get 23 (by decide +kernel)
      obtain ⟨hlo, Z, hZ, hbx⟩ := hG.a1 g eg
      refine ⟨w2.setRow g (ctc FX p5 q5 cp5 cq5), γ, wanted_free rfl, exec_store_row 30 (.tmp 5) (.tmp 23) rfl g h5 30 Z _ h23 hbx (by rw [hZ]; rfl) ct_info (ctc_one _ _ _ _ _), ⟨g, eg, p5, q5, cp5, cq5, setRow_heap _ _ _ _ _ _ hbx, hR.store hbx⟩, hG.store hbx hlo rfl, fun t x h => h.store hbx, ?_⟩
      intro j hj hji h
      unfold U6 at h ⊢
      split at h <;> first | exact absurd rfl hji | exact absurd (by decide) hj | trivial
    refine OweAll2.cons (owes2_store [] (by decide +kernel) rfl rfl fun γ a w2 ha hG hV => ?_) ?_
    · obtain ⟨g, eg, h6⟩ : ∃ g, γ.2 = some g ∧ a.tmps.getD 6 undef = .pointer (some ⟨g, 0, none⟩) := hV.get 6 (by decide +kernel)
      obtain ⟨p5, q5, cp5, cq5, h25, hR⟩ : HN FY (a.tmps.getD 25 undef) w2 := hV.get 25 (by decide +kernel)
      obtain ⟨hlo, Z, hZ, hbx⟩ := hG.a2 g eg
      refine ⟨w2.setRow g (ctc FY p5 q5 cp5 cq5), γ, wanted_free rfl, exec_store_row 30 (.tmp 6) (.tmp 25) rfl g h6 30 Z _ h25 hbx (by rw [hZ]; rfl) ct_info (ctc_one _ _ _ _ _), ⟨g, eg, p5, q5, cp5, cq5, setRow_heap _ _ _ _ _ _ hbx, hR.store hbx⟩, hG.store hbx hlo rfl, fun t x h => h.store hbx, ?_⟩
      intro j hj hji h
      unfold U6 at h ⊢
      split at h
      · obtain ⟨g', e', hB⟩ := h; exact ⟨g', e', hB.store hbx (hG.ne g' g e' eg)⟩
      · exact absurd rfl hji
      · trivial
    exact OweAll2.nil
    ) ?_
  intro f2 γ w5 hG hv hU
  obtain ⟨g5, eg5, e5⟩ : ∃ g, γ.1 = some g ∧ f2 5 = .pointer (some ⟨g, 0, none⟩) := hv 4 _ 5 rfl rfl
  obtain ⟨g6, eg6, e6⟩ : ∃ g, γ.2 = some g ∧ f2 6 = .pointer (some ⟨g, 0, none⟩) := hv 5 _ 6 rfl rfl
  obtain ⟨g5', eg5', pa, qa, ca, da, bx5, rwa⟩ : ∃ g, γ.1 = some g ∧ BxN FX w5 g := hU 6 _ rfl
  obtain ⟨g6', eg6', pb, qb, cb, db, bx6, rwb⟩ : ∃ g, γ.2 = some g ∧ BxN FY w5 g := hU 7 _ rfl
  obtain rfl : g5' = g5 := Option.some.inj (eg5'.symm.trans eg5)
  obtain rfl : g6' = g6 := Option.some.inj (eg6'.symm.trans eg6)
  have hb5 := hG.m
  rename_i hK
  refine hK _ _ ?_
  clear hK hv hU hG eg5 eg6 eg5' eg6' HG0 ow1 ow2
  simp only [dsts, puts, List.filterMap_cons, List.filterMap_nil, List.foldl_cons, List.foldl_nil, Act.put, List.setIfInBounds_toArray, List.set_cons_succ, List.set_cons_zero, e5, e6]
  clear e5 e6
  obtain ⟨_, bx3, _, rd2, tb, b5⟩ := H2.out w5 hb5
  have sAB := Lib.hid (fun w h1 h2 => sm.out pa qa ca da w h1 h2)
  have byA : Hid (∀ w, CtAt w FX pa qa → Calls Tryd.prog 12 #[.agg (ctc FX pa qa ca da)] w fun r w' => r = .returned (.string ⟨(ctB FX).toArray⟩) ∧ Below w.heap.size w w') := Lib.hid (fun w h => kbytes_any FX pa qa ca da w h OA.out)
  have byB : Hid (∀ w, CtAt w FY pb qb → Calls Tryd.prog 12 #[.agg (ctc FY pb qb cb db)] w fun r w' => r = .returned (.string ⟨(ctB FY).toArray⟩) ∧ Below w.heap.size w w') := Lib.hid (fun w h => kbytes_any FY pb qb cb db w h OB.out)
  have idA : Hid (∀ w, CtAt w FX pa qa → TabAt w → Calls Tryd.prog 13 #[.agg (ctc FX pa qa ca da)] w fun r w' => r = .returned (.agg (vals (shaB (ctB FX))).toArray) ∧ Below w.heap.size w w') := Lib.hid (fun w h t => kid_any FX pa qa ca da w h OA.out t)
  have idB : Hid (∀ w, CtAt w FY pb qb → TabAt w → Calls Tryd.prog 13 #[.agg (ctc FY pb qb cb db)] w fun r w' => r = .returned (.agg (vals (shaB (ctB FY))).toArray) ∧ Below w.heap.size w w') := Lib.hid (fun w h t => kid_any FY pb qb cb db w h OB.out t)
  have hinj := ctB_inj OA.out OB.out
  obtain ⟨SA, hSA⟩ : ∃ S, S = ctB FX := ⟨_, rfl⟩
  obtain ⟨SB, hSB⟩ : ∃ S, S = ctB FY := ⟨_, rfl⟩
  have HEQ0 : Hid (∀ AL : Bool, (AL = true ↔ FX = FY) → (SA == SB) = AL) := Lib.hid (fun AL h => by
    rw [Bool.eq_iff_iff, h, beq_iff_eq, hSA, hSB]
    exact ⟨hinj, fun e => by rw [e]⟩)
  obtain ⟨ia, hia⟩ : ∃ s, s = shaB (ctB FX) := ⟨_, rfl⟩
  obtain ⟨ib, hib⟩ : ∃ s, s = shaB (ctB FY) := ⟨_, rfl⟩
  have hil : ia.length = 32 := by rw [hia]; exact shaB_len _
  have hjl : ib.length = 32 := by rw [hib]; exact shaB_len _
  have HAD0 : Hid (∀ AL : Bool, (AL = true ↔ FX = FY) → AL = true → (ia == ib) = true) := Lib.hid (fun AL h h2 => by rw [hia, hib, h.1 h2]; simp)
  rw [← hia] at idA
  rw [← hib] at idB
  rw [← hSA] at byA
  rw [← hSB] at byB
  have hids : ∀ w, (Op.equalIn 10000 39 (.agg (vals ia).toArray) (.agg (vals ib).toArray)).run Tryd.prog w = .ok (ia == ib) w := fun w => run_equalIn_bytes w 9998 39 5 32 Tryd.underlying39 Tryd.underlying5 Tryd.sizeOf5 ia ib hil hjl
  have sHA : (ctc FX pa qa ca da).size = 5 := rfl
  have sHB : (ctc FY pb qb cb db).size = 5 := rfl
  obtain ⟨CA, hCA⟩ : ∃ C, C = ctc FX pa qa ca da := ⟨_, rfl⟩
  obtain ⟨CB, hCB⟩ : ∃ C, C = ctc FY pb qb cb db := ⟨_, rfl⟩
  rw [← hCA] at sAB byA idA bx5 sHA
  rw [← hCB] at byB idB bx6 sHB
  have qa3 : (Tryd.prog.info? 30).map (·.size) = some CA.size := by rw [sHA]; exact ct_info
  have qb3 : (Tryd.prog.info? 30).map (·.size) = some CB.size := by rw [sHB]; exact ct_info
  have BX6 := Lib.hid bx6
  have RA := Lib.hid rwa.rd
  have RB := Lib.hid rwb.rd
  have TB := Lib.hid tb
  have RD2 := Lib.hid rd2
  have B5 := Lib.hid b5
  clear hinj hSA hSB hia hib hCA hCB sm bx6 rwa rwb tb rd2 H2 hb5 b5 hil hjl sHA sHB
  go_wp2_with (first | (refine wpList_load_row rfl 30 (.tmp 5) rfl g5' rfl 30 CA (0, 0) _ bx5 Tryd.underlying30 rfl qa3 ?_) | (refine wpList_load_row rfl 25 (.tmp 3) rfl (g2 + 1) rfl 25 DY (0, 0) _ bx3 Tryd.underlying25 rfl qdy ?_))
  refine (sAB.out w5 RA.out RD2.out).mono ?_
  rintro r w6 ⟨AL, hAL, rfl, hb6⟩
  have HEQ := Lib.hid (HEQ0.out AL hAL)
  have HAD := Lib.hid (HAD0.out AL hAL)
  have B6 := Lib.hid (B5.out.trans (hb6.mono B5.out.size))
  have BX5 := Lib.hid bx5
  have HX : Hid (∀ w', Below w6.heap.size w6 w' → w'.heap[g5']? = some (.cells CA 30 (0, 0)) ∧ w'.heap[g6']? = some (.cells CB 30 (0, 0)) ∧ CtAt w' FX pa qa ∧ CtAt w' FY pb qb ∧ TabAt w') := Lib.hid (fun w' hb => by
    have hb2 := hb6.trans (hb.mono hb6.size)
    exact ⟨(hb2.block _ (Array.getElem?_eq_some_iff.1 BX5.out).1).trans BX5.out, (hb2.block _ (Array.getElem?_eq_some_iff.1 BX6.out).1).trans BX6.out, RA.out.old hb2, RB.out.old hb2, TB.out.old hb2⟩)
  clear hb6 RA RB TB BX5 BX6 sAB RD2 bx3 bx5 HEQ0 HAD0 hAL B5
  go_upto_region 8 with fail
  obtain ⟨DD, hDD⟩ : ∃ D, D = (ia == ib) := ⟨_, rfl⟩
  rw [← hDD] at HAD hids
  clear hDD
  cases DD with
  | true =>
    refine wp_region_puts (fun t v w => VK (match t with
      | 29 => .eq (.agg CA)
      | 30 => .eq (.string ⟨SA.toArray⟩)
      | 31 => .eq (.agg CB)
      | 32 => .eq (.string ⟨SB.toArray⟩)
      | 33 => .eq (.bool AL)
      | 34 => .eq (.bool AL)
      | 35 => .eq (Value.bool true)
      | 36 => .eq (Value.bool true)
      | 37 => .eq (.agg CA)
      | 38 => .eq (.agg (vals ia).toArray)
      | 39 => .eq (.agg CB)
      | 40 => .eq (.agg (vals ib).toArray)
      | 41 => .eq (Value.bool true)
      | 42 => .eq (Value.bool true)
      | 43 => .eq (undef)
      | 44 => .eq (undef)
      | 45 => .eq (Value.bool true)
      | 46 => .eq (Value.bool true)
      | 4 => .eq (Value.bool true)
      | _ => .any) v w) (fun w' => Below w6.heap.size w6 w') 47 (by kernel_rfl) (by decide +kernel) rfl (Below.refl _ _).drew (by
      refine OweAll.cons (owesK rfl rfl fun a w1 ha hG hV => ?_) ?_
      · skip
        have h5 := ha.outer 5 (by decide +kernel)
        simp only [Act.eval] at h5
        exact ⟨.agg CA, w1, wanted_free rfl, exec_load_row 30 (.tmp 5) rfl g5' h5 30 CA (0, 0) _ (HX.out w1 hG).1 Tryd.underlying30 rfl qa3, Below.refl _ _, rfl⟩
      refine OweAll.cons (owesK_call rfl rfl 12 fun a w1 ha hG hV => ?_) ?_
      · skip
        have h29 : a.tmps.getD 29 undef = .agg CA := hV.get 29 (by decide +kernel)
        refine ⟨#[.agg CA], wanted_free rfl, by simp [execOp, resolve, invoke, go_sem, h29], ?_⟩
        refine (byA.out w1 (HX.out w1 hG).2.2.1).mono ?_
        rintro r u2 ⟨rfl, hb⟩; exact ⟨_, rfl, rfl, hb⟩
      refine OweAll.cons (owesK rfl rfl fun a w1 ha hG hV => ?_) ?_
      · skip
        have h6 := ha.outer 6 (by decide +kernel)
        simp only [Act.eval] at h6
        exact ⟨.agg CB, w1, wanted_free rfl, exec_load_row 30 (.tmp 6) rfl g6' h6 30 CB (0, 0) _ (HX.out w1 hG).2.1 Tryd.underlying30 rfl qb3, Below.refl _ _, rfl⟩
      refine OweAll.cons (owesK_call rfl rfl 12 fun a w1 ha hG hV => ?_) ?_
      · skip
        have h31 : a.tmps.getD 31 undef = .agg CB := hV.get 31 (by decide +kernel)
        refine ⟨#[.agg CB], wanted_free rfl, by simp [execOp, resolve, invoke, go_sem, h31], ?_⟩
        refine (byB.out w1 (HX.out w1 hG).2.2.2.1).mono ?_
        rintro r u2 ⟨rfl, hb⟩; exact ⟨_, rfl, rfl, hb⟩
      refine OweAll.cons (owesK rfl rfl fun a w1 ha hG hV => ?_) ?_
      · skip
        have h30 : a.tmps.getD 30 undef = .string ⟨SA.toArray⟩ := hV.get 30 (by decide +kernel)
        have h32 : a.tmps.getD 32 undef = .string ⟨SB.toArray⟩ := hV.get 32 (by decide +kernel)
        exact ⟨.bool AL, w1, wanted_free rfl, by simp [execOp, go_sem, h30, h32, HEQ.out], Below.refl _ _, rfl⟩
      refine OweAll.cons (owesK rfl rfl fun a w1 ha hG hV => ?_) ?_
      · skip
        have h7 := ha.outer 7 (by decide +kernel)
        simp only [Act.eval] at h7
        exact ⟨.bool AL, w1, wanted_free rfl, by simp [execOp, go_sem, h7], Below.refl _ _, rfl⟩
      refine OweAll.cons (owesK rfl rfl fun a w1 ha hG hV => ?_) ?_
      · skip
        have h33 : a.tmps.getD 33 undef = .bool AL := hV.get 33 (by decide +kernel)
        have h34 : a.tmps.getD 34 undef = .bool AL := hV.get 34 (by decide +kernel)
        exact ⟨Value.bool true, w1, wanted_free rfl, by simp [execOp, go_sem, h33, h34], Below.refl _ _, rfl⟩
      refine OweAll.cons (owesK rfl rfl fun a w1 ha hG hV => ?_) ?_
      · skip
        have h35 : a.tmps.getD 35 undef = Value.bool true := hV.get 35 (by decide +kernel)
        exact ⟨Value.bool true, w1, wanted_free rfl, by simp [execOp, go_sem, h35], Below.refl _ _, rfl⟩
      refine OweAll.cons (owesK rfl rfl fun a w1 ha hG hV => ?_) ?_
      · skip
        have h5 := ha.outer 5 (by decide +kernel)
        simp only [Act.eval] at h5
        exact ⟨.agg CA, w1, (wanted_of (t := 36) rfl rfl (hV.get 36 (by decide +kernel))), exec_load_row 30 (.tmp 5) rfl g5' h5 30 CA (0, 0) _ (HX.out w1 hG).1 Tryd.underlying30 rfl qa3, Below.refl _ _, rfl⟩
      refine OweAll.cons (owesK_call rfl rfl 13 fun a w1 ha hG hV => ?_) ?_
      · skip
        have h37 : a.tmps.getD 37 undef = .agg CA := hV.get 37 (by decide +kernel)
        refine ⟨#[.agg CA], (wanted_of (t := 36) rfl rfl (hV.get 36 (by decide +kernel))), by simp [execOp, resolve, invoke, go_sem, h37], ?_⟩
        refine (idA.out w1 (HX.out w1 hG).2.2.1 (HX.out w1 hG).2.2.2.2).mono ?_
        rintro r u2 ⟨rfl, hb⟩; exact ⟨_, rfl, rfl, hb⟩
      refine OweAll.cons (owesK rfl rfl fun a w1 ha hG hV => ?_) ?_
      · skip
        have h6 := ha.outer 6 (by decide +kernel)
        simp only [Act.eval] at h6
        exact ⟨.agg CB, w1, (wanted_of (t := 36) rfl rfl (hV.get 36 (by decide +kernel))), exec_load_row 30 (.tmp 6) rfl g6' h6 30 CB (0, 0) _ (HX.out w1 hG).2.1 Tryd.underlying30 rfl qb3, Below.refl _ _, rfl⟩
      refine OweAll.cons (owesK_call rfl rfl 13 fun a w1 ha hG hV => ?_) ?_
      · skip
        have h39 : a.tmps.getD 39 undef = .agg CB := hV.get 39 (by decide +kernel)
        refine ⟨#[.agg CB], (wanted_of (t := 36) rfl rfl (hV.get 36 (by decide +kernel))), by simp [execOp, resolve, invoke, go_sem, h39], ?_⟩
        refine (idB.out w1 (HX.out w1 hG).2.2.2.1 (HX.out w1 hG).2.2.2.2).mono ?_
        rintro r u2 ⟨rfl, hb⟩; exact ⟨_, rfl, rfl, hb⟩
      refine OweAll.cons (owesK rfl rfl fun a w1 ha hG hV => ?_) ?_
      · skip
        have h38 : a.tmps.getD 38 undef = .agg (vals ia).toArray := hV.get 38 (by decide +kernel)
        have h40 : a.tmps.getD 40 undef = .agg (vals ib).toArray := hV.get 40 (by decide +kernel)
        exact ⟨Value.bool true, w1, (wanted_of (t := 36) rfl rfl (hV.get 36 (by decide +kernel))), by simp [execOp, go_sem, h38, h40, hids w1], Below.refl _ _, rfl⟩
      refine OweAll.cons (owesK rfl rfl fun a w1 ha hG hV => ?_) ?_
      · skip
        have h41 : a.tmps.getD 41 undef = Value.bool true := hV.get 41 (by decide +kernel)
        exact ⟨Value.bool true, w1, (wanted_of (t := 36) rfl rfl (hV.get 36 (by decide +kernel))), by simp [execOp, go_sem, h41], Below.refl _ _, rfl⟩
      refine OweAll.cons (owesK_not rfl rfl fun a w1 ha hG hV => ⟨not_wanted (t := 42) rfl rfl (hV.get 42 (by decide +kernel)) (by first | simp; done | (intro h; cases h)), rfl⟩) ?_
      refine OweAll.cons (owesK_not rfl rfl fun a w1 ha hG hV => ⟨not_wanted (t := 42) rfl rfl (hV.get 42 (by decide +kernel)) (by first | simp; done | (intro h; cases h)), rfl⟩) ?_
      refine OweAll.cons (owesK rfl rfl fun a w1 ha hG hV => ?_) ?_
      · skip
        have h42 : a.tmps.getD 42 undef = Value.bool true := hV.get 42 (by decide +kernel)
        exact ⟨Value.bool true, w1, (wanted_of (t := 36) rfl rfl (hV.get 36 (by decide +kernel))), by simp [execOp, go_sem, h42], Below.refl _ _, rfl⟩
      refine OweAll.cons (owesK rfl rfl fun a w1 ha hG hV => ?_) ?_
      · skip
        have h36 : a.tmps.getD 36 undef = Value.bool true := hV.get 36 (by decide +kernel)
        have h45 : a.tmps.getD 45 undef = Value.bool true := hV.get 45 (by decide +kernel)
        exact ⟨Value.bool true, w1, wanted_free rfl, by simp [execOp, go_sem, h36, h45], Below.refl _ _, rfl⟩
      refine OweAll.cons (owesK rfl rfl fun a w1 ha hG hV => ?_) ?_
      · skip
        have h46 : a.tmps.getD 46 undef = Value.bool true := hV.get 46 (by decide +kernel)
        exact ⟨Value.bool true, w1, wanted_free rfl, by simp [execOp, go_sem, h46], Below.refl _ _, rfl⟩
      exact OweAll.nil
      ) ?_
    intro f wz hG hv
    have e4 : f 4 = Value.bool true := hv 18 _ 4 rfl rfl
    rename_i hK
    refine hK _ _ ?_
    clear hK hv
    simp only [dsts, puts, List.filterMap_cons, List.filterMap_nil, List.foldl_cons, List.foldl_nil, Act.put, List.setIfInBounds_toArray, List.set_cons_succ, List.set_cons_zero, e4]
    clear e4
    have HB := Lib.hid (B6.out.trans (hG.mono B6.out.size))
    clear hG
    go_wp2_with fail
    go_ret
    exact ⟨rfl, HB.out⟩
  | false =>
    have hALf : Hid (AL = false) := Lib.hid (by cases AL with
      | false => rfl
      | true => exact absurd (HAD.out rfl) (by decide))
    obtain rfl := hALf.out
    refine wp_region_puts (fun t v w => VK (match t with
      | 29 => .eq (.agg CA)
      | 30 => .eq (.string ⟨SA.toArray⟩)
      | 31 => .eq (.agg CB)
      | 32 => .eq (.string ⟨SB.toArray⟩)
      | 33 => .eq (Value.bool false)
      | 34 => .eq (Value.bool false)
      | 35 => .eq (Value.bool true)
      | 36 => .eq (Value.bool true)
      | 37 => .eq (.agg CA)
      | 38 => .eq (.agg (vals ia).toArray)
      | 39 => .eq (.agg CB)
      | 40 => .eq (.agg (vals ib).toArray)
      | 41 => .eq (Value.bool false)
      | 42 => .eq (Value.bool false)
      | 43 => .eq (Value.bool false)
      | 44 => .eq (Value.bool true)
      | 45 => .eq (Value.bool true)
      | 46 => .eq (Value.bool true)
      | 4 => .eq (Value.bool true)
      | _ => .any) v w) (fun w' => Below w6.heap.size w6 w') 47 (by kernel_rfl) (by decide +kernel) rfl (Below.refl _ _).drew (by
      refine OweAll.cons (owesK rfl rfl fun a w1 ha hG hV => ?_) ?_
      · skip
        have h5 := ha.outer 5 (by decide +kernel)
        simp only [Act.eval] at h5
        exact ⟨.agg CA, w1, wanted_free rfl, exec_load_row 30 (.tmp 5) rfl g5' h5 30 CA (0, 0) _ (HX.out w1 hG).1 Tryd.underlying30 rfl qa3, Below.refl _ _, rfl⟩
      refine OweAll.cons (owesK_call rfl rfl 12 fun a w1 ha hG hV => ?_) ?_
      · skip
        have h29 : a.tmps.getD 29 undef = .agg CA := hV.get 29 (by decide +kernel)
        refine ⟨#[.agg CA], wanted_free rfl, by simp [execOp, resolve, invoke, go_sem, h29], ?_⟩
        refine (byA.out w1 (HX.out w1 hG).2.2.1).mono ?_
        rintro r u2 ⟨rfl, hb⟩; exact ⟨_, rfl, rfl, hb⟩
      refine OweAll.cons (owesK rfl rfl fun a w1 ha hG hV => ?_) ?_
      · skip
        have h6 := ha.outer 6 (by decide +kernel)
        simp only [Act.eval] at h6
        exact ⟨.agg CB, w1, wanted_free rfl, exec_load_row 30 (.tmp 6) rfl g6' h6 30 CB (0, 0) _ (HX.out w1 hG).2.1 Tryd.underlying30 rfl qb3, Below.refl _ _, rfl⟩
      refine OweAll.cons (owesK_call rfl rfl 12 fun a w1 ha hG hV => ?_) ?_
      · skip
        have h31 : a.tmps.getD 31 undef = .agg CB := hV.get 31 (by decide +kernel)
        refine ⟨#[.agg CB], wanted_free rfl, by simp [execOp, resolve, invoke, go_sem, h31], ?_⟩
        refine (byB.out w1 (HX.out w1 hG).2.2.2.1).mono ?_
        rintro r u2 ⟨rfl, hb⟩; exact ⟨_, rfl, rfl, hb⟩
      refine OweAll.cons (owesK rfl rfl fun a w1 ha hG hV => ?_) ?_
      · skip
        have h30 : a.tmps.getD 30 undef = .string ⟨SA.toArray⟩ := hV.get 30 (by decide +kernel)
        have h32 : a.tmps.getD 32 undef = .string ⟨SB.toArray⟩ := hV.get 32 (by decide +kernel)
        exact ⟨Value.bool false, w1, wanted_free rfl, by simp [execOp, go_sem, h30, h32, HEQ.out], Below.refl _ _, rfl⟩
      refine OweAll.cons (owesK rfl rfl fun a w1 ha hG hV => ?_) ?_
      · skip
        have h7 := ha.outer 7 (by decide +kernel)
        simp only [Act.eval] at h7
        exact ⟨Value.bool false, w1, wanted_free rfl, by simp [execOp, go_sem, h7], Below.refl _ _, rfl⟩
      refine OweAll.cons (owesK rfl rfl fun a w1 ha hG hV => ?_) ?_
      · skip
        have h33 : a.tmps.getD 33 undef = Value.bool false := hV.get 33 (by decide +kernel)
        have h34 : a.tmps.getD 34 undef = Value.bool false := hV.get 34 (by decide +kernel)
        exact ⟨Value.bool true, w1, wanted_free rfl, by simp [execOp, go_sem, h33, h34], Below.refl _ _, rfl⟩
      refine OweAll.cons (owesK rfl rfl fun a w1 ha hG hV => ?_) ?_
      · skip
        have h35 : a.tmps.getD 35 undef = Value.bool true := hV.get 35 (by decide +kernel)
        exact ⟨Value.bool true, w1, wanted_free rfl, by simp [execOp, go_sem, h35], Below.refl _ _, rfl⟩
      refine OweAll.cons (owesK rfl rfl fun a w1 ha hG hV => ?_) ?_
      · skip
        have h5 := ha.outer 5 (by decide +kernel)
        simp only [Act.eval] at h5
        exact ⟨.agg CA, w1, (wanted_of (t := 36) rfl rfl (hV.get 36 (by decide +kernel))), exec_load_row 30 (.tmp 5) rfl g5' h5 30 CA (0, 0) _ (HX.out w1 hG).1 Tryd.underlying30 rfl qa3, Below.refl _ _, rfl⟩
      refine OweAll.cons (owesK_call rfl rfl 13 fun a w1 ha hG hV => ?_) ?_
      · skip
        have h37 : a.tmps.getD 37 undef = .agg CA := hV.get 37 (by decide +kernel)
        refine ⟨#[.agg CA], (wanted_of (t := 36) rfl rfl (hV.get 36 (by decide +kernel))), by simp [execOp, resolve, invoke, go_sem, h37], ?_⟩
        refine (idA.out w1 (HX.out w1 hG).2.2.1 (HX.out w1 hG).2.2.2.2).mono ?_
        rintro r u2 ⟨rfl, hb⟩; exact ⟨_, rfl, rfl, hb⟩
      refine OweAll.cons (owesK rfl rfl fun a w1 ha hG hV => ?_) ?_
      · skip
        have h6 := ha.outer 6 (by decide +kernel)
        simp only [Act.eval] at h6
        exact ⟨.agg CB, w1, (wanted_of (t := 36) rfl rfl (hV.get 36 (by decide +kernel))), exec_load_row 30 (.tmp 6) rfl g6' h6 30 CB (0, 0) _ (HX.out w1 hG).2.1 Tryd.underlying30 rfl qb3, Below.refl _ _, rfl⟩
      refine OweAll.cons (owesK_call rfl rfl 13 fun a w1 ha hG hV => ?_) ?_
      · skip
        have h39 : a.tmps.getD 39 undef = .agg CB := hV.get 39 (by decide +kernel)
        refine ⟨#[.agg CB], (wanted_of (t := 36) rfl rfl (hV.get 36 (by decide +kernel))), by simp [execOp, resolve, invoke, go_sem, h39], ?_⟩
        refine (idB.out w1 (HX.out w1 hG).2.2.2.1 (HX.out w1 hG).2.2.2.2).mono ?_
        rintro r u2 ⟨rfl, hb⟩; exact ⟨_, rfl, rfl, hb⟩
      refine OweAll.cons (owesK rfl rfl fun a w1 ha hG hV => ?_) ?_
      · skip
        have h38 : a.tmps.getD 38 undef = .agg (vals ia).toArray := hV.get 38 (by decide +kernel)
        have h40 : a.tmps.getD 40 undef = .agg (vals ib).toArray := hV.get 40 (by decide +kernel)
        exact ⟨Value.bool false, w1, (wanted_of (t := 36) rfl rfl (hV.get 36 (by decide +kernel))), by simp [execOp, go_sem, h38, h40, hids w1], Below.refl _ _, rfl⟩
      refine OweAll.cons (owesK rfl rfl fun a w1 ha hG hV => ?_) ?_
      · skip
        have h41 : a.tmps.getD 41 undef = Value.bool false := hV.get 41 (by decide +kernel)
        exact ⟨Value.bool false, w1, (wanted_of (t := 36) rfl rfl (hV.get 36 (by decide +kernel))), by simp [execOp, go_sem, h41], Below.refl _ _, rfl⟩
      refine OweAll.cons (owesK rfl rfl fun a w1 ha hG hV => ?_) ?_
      · skip
        have h7 := ha.outer 7 (by decide +kernel)
        simp only [Act.eval] at h7
        exact ⟨Value.bool false, w1, (wanted_of (t := 42) rfl rfl (hV.get 42 (by decide +kernel))), by simp [execOp, go_sem, h7], Below.refl _ _, rfl⟩
      refine OweAll.cons (owesK rfl rfl fun a w1 ha hG hV => ?_) ?_
      · skip
        have h43 : a.tmps.getD 43 undef = Value.bool false := hV.get 43 (by decide +kernel)
        exact ⟨Value.bool true, w1, (wanted_of (t := 42) rfl rfl (hV.get 42 (by decide +kernel))), by simp [execOp, go_sem, h43], Below.refl _ _, rfl⟩
      refine OweAll.cons (owesK rfl rfl fun a w1 ha hG hV => ?_) ?_
      · skip
        have h42 : a.tmps.getD 42 undef = Value.bool false := hV.get 42 (by decide +kernel)
        have h44 : a.tmps.getD 44 undef = Value.bool true := hV.get 44 (by decide +kernel)
        exact ⟨Value.bool true, w1, (wanted_of (t := 36) rfl rfl (hV.get 36 (by decide +kernel))), by simp [execOp, go_sem, h42, h44], Below.refl _ _, rfl⟩
      refine OweAll.cons (owesK rfl rfl fun a w1 ha hG hV => ?_) ?_
      · skip
        have h36 : a.tmps.getD 36 undef = Value.bool true := hV.get 36 (by decide +kernel)
        have h45 : a.tmps.getD 45 undef = Value.bool true := hV.get 45 (by decide +kernel)
        exact ⟨Value.bool true, w1, wanted_free rfl, by simp [execOp, go_sem, h36, h45], Below.refl _ _, rfl⟩
      refine OweAll.cons (owesK rfl rfl fun a w1 ha hG hV => ?_) ?_
      · skip
        have h46 : a.tmps.getD 46 undef = Value.bool true := hV.get 46 (by decide +kernel)
        exact ⟨Value.bool true, w1, wanted_free rfl, by simp [execOp, go_sem, h46], Below.refl _ _, rfl⟩
      exact OweAll.nil
      ) ?_
    intro f wz hG hv
    have e4 : f 4 = Value.bool true := hv 18 _ 4 rfl rfl
    rename_i hK
    refine hK _ _ ?_
    clear hK hv
    simp only [dsts, puts, List.filterMap_cons, List.filterMap_nil, List.foldl_cons, List.foldl_nil, Act.put, List.setIfInBounds_toArray, List.set_cons_succ, List.set_cons_zero, e4]
    clear e4
    have HB := Lib.hid (B6.out.trans (hG.mono B6.out.size))
    clear hG
    go_wp2_with fail
    go_ret
    exact ⟨rfl, HB.out⟩
end Go.Proofs.YtmodikcghlbigaaDoor
