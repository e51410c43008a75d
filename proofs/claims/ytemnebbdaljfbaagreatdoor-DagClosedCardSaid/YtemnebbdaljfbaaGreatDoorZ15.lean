/- Texts 15: what the laws lean on. -/
import Derived.Test.YtemnebbdaljfbaaGreatDoorZ14
import Derived.Test.YtemnebbdaljfbaaGreatDoorZ6
import Derived.Shelf.SlMaps.Clone
import Derived.Maps.RangeWalk
set_option linter.unusedVariables false
set_option linter.unusedSimpArgs false
namespace Go.Proofs.YtemnebbdaljfbaaGreatDoor
open Go.RowKit Go.Maps

set_option maxRecDepth 20000 in
theorem mcloneN_any (b : Nat) (es : Array MapEntry) (clock : Nat) (w : World) (hb : w.heap[b]? = some (.map es clock)) :
    Calls Tryz.prog 74 #[.map (some b)] w fun e w' => e = .returned (.map (some w.heap.size)) ∧ w' = w.alloc (.map es clock) := by
  have hq := fun w => run_eql_map_nil_sl (P := Tryz.prog) w 79 _ _ (some b) Tryz.underlying79
  go_enter Tryz.func74, Tryz.ntmps74
  go_wp2_with fail
  rw [run_callFunc_extern Tryz.func103 (by kernel_rfl) (by kernel_rfl) (by kernel_rfl) (e := Extern.MapsClone.clone) (by kernel_rfl), run_maps_clone_sl w 79 hb]
  simp only [Result.andThen]
  have hta := fun w (v : Value) => run_typeAssert_map_sl (P := Tryz.prog) w 79 20 _ _ v Tryz.underlying79
  go_wp2_with fail
  go_ret
  exact ⟨rfl, rfl⟩
theorem mclone_mapk {w : World} {b : Nat} {L : List (Nm × Value)} (h : MapK Tryz.prog 70 keyN w b L) :
    Calls Tryz.prog 74 #[.map (some b)] w fun e w' => e = .returned (.map (some w.heap.size)) ∧ MapK Tryz.prog 70 keyN w' w.heap.size L ∧ Below w.heap.size w w' ∧ w'.heap.size = w.heap.size + 1 := by
  have h2 := h
  obtain ⟨es, clock, hb, r⟩ := h.own
  refine (mcloneN_any b es clock w hb).mono ?_
  rintro e w' ⟨rfl, rfl⟩
  exact ⟨rfl, ⟨h2.ap, h2.ky, es, clock, heap_alloc_new _ _, r⟩, alloc1 _ _, by simp⟩
/-- What stands while the families are copied. -/
structure ClS (w : World) (X : DD) (A B C ri : Nat) (wr : World) (GG : List Fam) : Prop where
  fm : MapK Tryz.prog 9 keyS wr B (fE GG)
  fr : ∀ g ∈ GG, Rw encN 70 wr g.q g.c g.ns
  fw : ∀ g ∈ GG, ∀ a, g.q = some a → ri < a.block
  ff : GG.Pairwise fun f g => ∀ x y, f.q = some x → g.q = some y → x.block ≠ y.block
  fs : ∀ g ∈ GG, ∃ f ∈ X.F, f.t = g.t ∧ f.ns = g.ns
  bm : MapK Tryz.prog 70 keyN wr A (kE X.K)
  bx : wr.heap[C]? = some (.cells #[.map (some A), .map (some B)] 82 (0, 0))
  b : Below w.heap.size w wr
  oA : w.heap.size ≤ A ∧ A < ri
  oB : w.heap.size ≤ B ∧ B < ri ∧ B ≠ A
  oC : w.heap.size ≤ C ∧ C < ri ∧ C ≠ A ∧ C ≠ B
section
variable {w : World} {X : DD} {A B C ri : Nat} {wr w' : World} {GG : List Fam}
theorem ClS.old (h : ClS w X A B C ri wr GG) (hb : Below wr.heap.size wr w') : ClS w X A B C ri w' GG :=
  ⟨h.fm.old hb, fun g hg => (h.fr g hg).old hb, h.fw, h.ff, h.fs, h.bm.old hb, (hb.block C (Array.getElem?_eq_some_iff.1 h.bx).1).trans h.bx, h.b.trans (hb.mono h.b.size), h.oA, h.oB, h.oC⟩
theorem ClS.next (h : ClS w X A B C ri wr GG) (hm : Mod (fun k => k = ri) wr w') : ClS w X A B C ri w' GG := by
  have hA := h.oA; have hB := h.oB; have hC := h.oC
  exact ⟨h.fm.kept hm (by omega), fun g hg => (h.fr g hg).kept hm (fun a e hs => by have := h.fw g hg a e; omega), h.fw, h.ff, h.fs, h.bm.kept hm (by omega), (hm.block C (Array.getElem?_eq_some_iff.1 h.bx).1 (by omega)).trans h.bx, h.b.trans (hm.to_below h.b.size (fun k _ e => by omega)), h.oA, h.oB, h.oC⟩
theorem Mod.grownRow {W W' : World} {r : Nat} (h : Mod (fun k => k = r) W W') : W.grownBy W' (some r) := ⟨h.os, h.tape, h.output, h.size, fun i hi hne => h.block i hi (fun e => hne (by rw [e]))⟩
/-- One family more. -/
theorem ClS.put (h : ClS w X A B C ri wr GG) {f : Fam} (hf : f ∈ X.F) (ht : f.t.length ≤ maxLen) (hno : hasE f.t (fE GG) = false) (hn : GG.length < 1000000) (hri : ri < wr.heap.size) {w1 : World} {p : Option Addr} {c : Nat} (hb : Below wr.heap.size wr w1) (hr : Rw encN 70 w1 p c f.ns) (hp : ∀ a, p = some a → wr.heap.size ≤ a.block) :
    ∃ w2, (Instr.mapUpdate 80 (.map (some B)) (.string ⟨f.t.toArray⟩) (.slice p f.ns.length c)).run Tryz.prog w1 = .ok () w2 ∧ Mod (fun k => k = B) wr w2 ∧ ClS w X A B C ri w2 (⟨f.t, f.ns, p, c⟩ :: GG) := by
  have h1 := h.old hb
  obtain ⟨w2, hrun, hm, hmd⟩ := h1.fm.store keyedS Tryz.underlying80 (by rw [fE_len]; unfold maxLen; omega) (keyS_of f.t ht) (.slice p f.ns.length c)
  have hA := h.oA; have hB := h.oB; have hC := h.oC
  have hpB : ∀ a, p = some a → a.block ≠ B := fun a e => by have := hp a e; omega
  refine ⟨w2, hrun, ((Mod.of_below hb).mono (fun k hk h => absurd hk (by omega))).trans hmd (fun _ _ h => h), ?_⟩
  rw [woE_no hno] at hm
  refine ⟨hm, fun g hg => ?_, fun g hg a e => ?_, List.pairwise_cons.2 ⟨fun g hg x y hx hy => ?_, h.ff⟩, fun g hg => ?_, h1.bm.kept hmd (by omega), (hmd.block C (Array.getElem?_eq_some_iff.1 h1.bx).1 (by omega)).trans h1.bx, h1.b.trans (hmd.to_below h1.b.size (fun k _ e => by omega)), h.oA, h.oB, h.oC⟩
  · rcases List.mem_cons.1 hg with rfl | hg
    · exact hr.kept hmd (fun a e hs => hpB a e hs)
    · exact (h1.fr g hg).kept hmd (fun a e hs => by have := h.fw g hg a e; omega)
  · rcases List.mem_cons.1 hg with rfl | hg
    · have := hp a e; omega
    · exact h.fw g hg a e
  · have hx2 := hp x hx
    have hy2 := (h.fr g hg)
    rw [hy] at hy2
    have := hy2.lt
    omega
  · rcases List.mem_cons.1 hg with rfl | hg
    · exact ⟨f, hf, rfl, rfl⟩
    · exact h.fs g hg
end
/-- A dag's like. -/
def CloneP (R : Nat → Prop) (w : World) (X : DD) (ca : Nat) (w' : World) : Prop :=
  ∃ (S' R' : Nat → Prop) (X' : DD), X'.K = X.K ∧ DG S' R' w' ca X' ∧ (∀ k, S' k → w.heap.size ≤ k) ∧ (∀ k, R' k → w.heap.size ≤ k ∨ R k) ∧ Below w.heap.size w w'
theorem ClS.done {S R : Nat → Prop} {w wr : World} {da : Nat} {X : DD} {A B C ri : Nat} {GG : List Fam} (h : DG S R w da X) (hs : ClS w X A B C ri wr GG) (hp : (GG.map (·.t)).Perm (X.F.map (·.t))) : CloneP R w X C wr := by
  have hA := hs.oA; have hB := hs.oB; have hC := hs.oC
  have hold : ∀ b ∈ X.K, ∀ x, b.q = some x → x.block < w.heap.size := fun b hb x e => h.rl _ (h.rk b hb x e)
  refine ⟨fun k => k = A ∨ k = B ∨ ∃ g ∈ GG, ∃ x, g.q = some x ∧ k = x.block, fun k => (k = A ∨ k = B ∨ ∃ g ∈ GG, ∃ x, g.q = some x ∧ k = x.block) ∨ k = C ∨ ∃ b ∈ X.K, ∃ x, b.q = some x ∧ k = x.block, ⟨A, B, X.K, GG⟩, rfl, ?_, ?_, ?_, hs.b⟩
  · refine ⟨hs.bx, hs.bm, hs.fm, fun b hb => (h.kr b hb).old hs.b, h.ko, hs.fr, .inl rfl, .inr (.inl rfl), fun g hg x e => .inr (.inr ⟨g, hg, x, e, rfl⟩), hs.ff, ?_, ?_, fun e => hB.2.2 e.symm, .inr (.inl rfl), fun b hb x e => .inr (.inr ⟨b, hb, x, e, rfl⟩), fun k hk => .inl hk, ?_, ?_, ?_, ?_, ?_, h.len, ?_⟩
    · rintro b hb x e (q | q | ⟨g, hg, y, ey, q⟩)
      · have := hold b hb x e; omega
      · have := hold b hb x e; omega
      · have := hold b hb x e; have := hs.fw g hg y ey; omega
    · rintro (q | q | ⟨g, hg, y, ey, q⟩)
      · exact hC.2.2.1 q
      · exact hC.2.2.2 q
      · have := hs.fw g hg y ey; omega
    · rintro k ((rfl | rfl | ⟨g, hg, y, ey, rfl⟩) | rfl | ⟨b, hb, y, ey, rfl⟩)
      · exact hs.bm.lt
      · exact hs.fm.lt
      · have := hs.fr g hg; rw [ey] at this; exact this.lt
      · exact (Array.getElem?_eq_some_iff.1 hs.bx).1
      · exact Nat.lt_of_lt_of_le (hold b hb y ey) hs.b.size
    · intro g hg
      obtain ⟨f, hf, e1, e2⟩ := hs.fs g hg
      have := h.fs f hf
      rw [e1, e2] at this
      exact this
    · intro b hb
      obtain ⟨f, hf, e⟩ := h.fb b hb
      have : f.t ∈ GG.map (·.t) := hp.mem_iff.2 (List.mem_map_of_mem hf)
      obtain ⟨g, hg, e2⟩ := List.mem_map.1 this
      exact ⟨g, hg, e2.trans e⟩
    · intro g hg
      obtain ⟨f, hf, _, e2⟩ := hs.fs g hg
      rw [← e2]; exact h.fl f hf
    · have := hp.length_eq
      rw [List.length_map, List.length_map] at this
      show GG.length ≤ _
      rw [this]; exact h.fn
    · intro g hg
      obtain ⟨f, hf, e1, _⟩ := hs.fs g hg
      obtain ⟨b, hb, e⟩ := h.fk f hf
      exact ⟨b, hb, e.trans e1⟩
  · rintro k (rfl | rfl | ⟨g, hg, y, ey, rfl⟩)
    · exact hA.1
    · exact hB.1
    · have := hs.fw g hg y ey; omega
  · rintro k ((rfl | rfl | ⟨g, hg, y, ey, rfl⟩) | rfl | ⟨b, hb, y, ey, rfl⟩)
    · exact .inl hA.1
    · exact .inl hB.1
    · have := hs.fw g hg y ey; exact .inl (by omega)
    · exact .inl hC.1
    · exact .inr (h.rk b hb y ey)
section
variable {S R : Nat → Prop} {w : World} {da : Nat} {X : DD}
set_option maxRecDepth 20000 in
set_option maxHeartbeats 8000000 in
theorem dgclone_any (h : DG S R w da X) :
    Calls Tryz.prog 31 #[.pointer (some ⟨da, 0, none⟩)] w fun r w' => ∃ ca, r = .returned (.pointer (some ⟨ca, 0, none⟩)) ∧ CloneP R w X ca w' := by
  obtain ⟨F, hF⟩ : ∃ F : Ending → World → Prop, F = fun r w' => ∃ ca, r = .returned (.pointer (some ⟨ca, 0, none⟩)) ∧ CloneP R w X ca w' := ⟨_, rfl⟩
  have HF : Hid (∀ ca w', CloneP R w X ca w' → F (.returned (.pointer (some ⟨ca, 0, none⟩))) w') := Lib.hid (fun ca w' hc => by rw [hF]; exact ⟨ca, rfl, hc⟩)
  rw [← hF]
  have HDG := Lib.hid h
  have cc : w.cell? ⟨da, 0, none⟩ = some (.map (some X.m1)) := cell_of_row _ da 0 _ _ _ h.box
  have HMC := Lib.hid (mclone_mapk h.bm)
  have HTL : Hid (∀ f ∈ X.F, f.t.length ≤ maxLen) := Lib.hid (fun f hf => by
    obtain ⟨v, hv⟩ := h.fm.ky (f.t, f.v) (List.mem_map.2 ⟨f, hf, rfl⟩)
    obtain ⟨y, _, e, hl⟩ := Maps.keyOf_str Tryz.underlying9 hv
    have e2 : f.t = y := by simpa [keyS] using e
    rw [e2]; exact hl)
  clear hF h
  go_enter Tryz.func31, Tryz.ntmps31
  go_wp2_with fail
  refine HMC.out.mono ?_
  rintro r w1 ⟨rfl, hm1, hb1, hs1⟩
  obtain ⟨W1, hW1⟩ : ∃ W1, W1 = (w1.alloc (.map #[] 0)).alloc (.cells #[.map (some w.heap.size), .map (some w1.heap.size)] 82) := ⟨_, rfl⟩
  have hbm : Below w1.heap.size w1 W1 := by rw [hW1]; exact ((Below.refl _ w1).alloc (Nat.le_refl _) _).alloc (by simp) _
  have hsz : W1.heap.size = w.heap.size + 3 := by rw [hW1]; simp [hs1]
  have hgm : MapK Tryz.prog 9 keyS W1 w1.heap.size [] := by
    rw [hW1]
    exact (MapK.made Tryz.prog 9 keyS w1).same (Below.heap_alloc _ _ _ (by simp))
  have hbx : W1.heap[w1.heap.size + 1]? = some (.cells #[.map (some w.heap.size), .map (some w1.heap.size)] 82 (0, 0)) := by
    rw [hW1]
    have := heap_alloc_new (w1.alloc (.map #[] 0)) (.cells #[.map (some w.heap.size), .map (some w1.heap.size)] 82)
    simpa using this
  have hA1 := hm1.old hbm
  have hBW : Below w.heap.size w W1 := hb1.trans (hbm.mono hb1.size)
  have H0 : ∀ (w' : World), w'.heap.size = W1.heap.size + 1 → W1.grownBy w' none → ClS w X w.heap.size w1.heap.size (w1.heap.size + 1) W1.heap.size w' [] := fun w' hs' hg => by
    have hb : Below W1.heap.size W1 w' := (Below.refl _ _).grown hg (Nat.le_refl _) (fun k e => by cases e)
    refine ⟨hgm.old hb, fun g hg => (by cases hg), fun g hg => (by cases hg), List.Pairwise.nil, fun g hg => (by cases hg), hA1.old hb, (hb.block _ (by omega)).trans hbx, hBW.trans (hb.mono hBW.size), ⟨Nat.le_refl _, by omega⟩, ⟨by omega, by omega, by omega⟩, ⟨by omega, by omega, by omega, by omega⟩⟩
  have HH0 := Lib.hid H0
  have HS1 := Lib.hid hs1
  have HSZ := Lib.hid hsz
  have hown := ((HDG.out.old hBW).fm).own
  rw [fE_len] at hown
  have HOW := hown
  have hc1 : W1.cell? ⟨da, 1, none⟩ = some (.map (some X.m2)) := cell_of_row _ da 1 _ _ _ (HDG.out.old hBW).box
  have HW1 := Lib.hid hW1
  have HBW := Lib.hid hBW
  have hmk : ∀ w : World, (Instr.makeMap 80 none).run Tryz.prog w = .ok (.map (some w.heap.size)) (w.alloc (.map #[] 0)) := fun w => rfl
  clear hW1 hbm hsz hgm hbx hA1 hBW H0 hm1 hb1 hs1 HMC
  go_upto_region 2 with fail
  rw [← HW1.out]
  go_wp2_with (first
    | (at_range; refine wpList_range_own _ rfl _ 80 rfl 9 39 keyedS Tryz.underlying80 _ X.m2 X.F.length _ rfl HOW ?_; intro w0 hrg0 hg0 hs0)
    | go_in)
  first | go_frame | skip
  have HC0 := Lib.hid (HH0.out w0 hs0 hg0)
  have HRG0 := Lib.hid hrg0
  obtain ⟨A, hA⟩ : ∃ A, A = w.heap.size := ⟨_, rfl⟩
  obtain ⟨B, hB⟩ : ∃ B, B = w1.heap.size := ⟨_, rfl⟩
  obtain ⟨C, hC⟩ : ∃ C, C = w1.heap.size + 1 := ⟨_, rfl⟩
  obtain ⟨ri, hri⟩ : ∃ ri, ri = W1.heap.size := ⟨_, rfl⟩
  have HRIL : Hid (ri < w0.heap.size ∧ X.m2 < A) := Lib.hid ⟨by rw [hri, hs0]; omega, by rw [hA]; exact HDG.out.fm.lt⟩
  rw [← hC, ← hri, ← hB] at HC0
  rw [← hri] at HRG0
  rw [← hC, ← hri]
  clear hrg0 hg0 hs0 hown HOW hc1 cc HH0 HW1 HS1 HSZ hB hC hri
  have HAS := Lib.hid hA
  rw [← hA] at HC0
  go_loopw [4] (fun _ wr => Hid (∃ (left : Lit → Bool) (cnt : Nat) (GG : List Fam), wr.ranges Tryz.prog 9 RVE X.m2 ri X.F.length (keyS.d (fE X.F)) left cnt ∧ GG.length + cnt ≤ X.F.length ∧ Coll keyS (fE X.F) left (GG.map (·.t)).reverse ∧ ClS w X A B C ri wr GG ∧ ri < wr.heap.size)) (fun _ wr => wr.rangeLeft X.m2 ri)
  case atStart => exact Lib.hid ⟨_, _, [], HRG0.out, by rw [size_dE, fE_len]; simp, Coll.start keyS (fE X.F), HC0.out, HRIL.out.1⟩
  case round =>
    clear HC0 HRG0 hA
    obtain ⟨left, cnt, GG, hrg, hcs, hC, hCl, hril⟩ := hrel.out
    have HCS := Lib.hid hcs
    have HCO := Lib.hid hC
    have HCL0 := Lib.hid hCl
    have HRI := Lib.hid hril
    have HRG := Lib.hid hrg
    clear hrel hcs hC hCl hril
    go_wp2_with (first
      | (at_next; refine wpList_next_ranges _ rfl _ rfl 9 keyedS RVE (fun v : Value => v) (fun v : Value => v) (fun key kl _ => ⟨key, rfl⟩) (fun v _ _ => ⟨v, rfl⟩) X.m2 ri X.F.length _ _ _ rfl hrg ?_ ?_)
      | go_in)
    · -- nothing is left
      intro hc0 hl0
      have hp := HCO.out.perm HDG.out.fm.ap hl0
      rw [fE_ts] at hp
      have HFI := Lib.hid (ClS.done HDG.out HCL0.out ((List.reverse_perm _).symm.trans hp))
      clear hp hl0 hc0 hrg
      go_wp2_with fail
      exact HF.out C _ HFI.out
    · intro key v kl yd yp W2 cnt2 hkey hlk hv hv2 hat hrg2 hlt hg2 hs2 hen
      have hm2 : Mod (fun k => k = ri) wr W2 := (Mod.refl _ _).grown hg2 (fun k e _ => (Option.some.inj e).symm)
      obtain ⟨tt, hth, rfl, rfl⟩ := HDG.out.fm.key_of keyedS (enc := fun x : List UInt8 => Value.string ⟨x.toArray⟩) (keysF_henc HDG.out.fm) hkey hat
      obtain ⟨f, hf, hft, hg⟩ := HDG.out.lookF (z := .slice none 0 0) hth
      have hvf : v = .slice f.q f.ns.length f.c := by
        have h1 := hat (.held (.slice none 0 0))
        rw [atKey_dE HDG.out.fm.ap, hg] at h1
        rw [← hv] at h1
        have h2 : f.v = v := by simpa using h1
        exact h2.symm
      subst hvf
      have hno : tt ∉ (GG.map (·.t)) := fun hx => by
        have := ((HCO.out.mem tt).1 (List.mem_reverse.2 hx)).2
        rw [hlk] at this; cases this
      have HS2 := Lib.hid (HCL0.out.next hm2)
      have HRI2 : Hid (ri < W2.heap.size) := Lib.hid (by rw [hs2]; exact HRI.out)
      have hBW2 : Below w.heap.size w W2 := HS2.out.b
      have HCL : Hid (∀ u, Below W2.heap.size W2 u → Calls Tryz.prog 64 #[.slice f.q f.ns.length f.c] u fun r w'' => ∃ p c, r = .returned (.slice p f.ns.length c) ∧ Rw encN 70 w'' p c f.ns ∧ (∀ a, p = some a → u.heap.size ≤ a.block) ∧ Below u.heap.size u w'') := Lib.hid (fun u hu => cloneN_any f.q f.c f.ns u (((HDG.out.old hBW2).old hu).fr f hf).rd (by
        rcases (HDG.out.fr f hf).shape with ⟨e, _⟩ | ⟨g, e, _⟩
        · exact .inl e
        · exact .inr ⟨g, 0, e⟩) (Nat.le_trans (HDG.out.fl f hf) (Nat.le_trans HDG.out.len (by decide))))
      have HPUT : Hid (∀ (u : World) (p : Option Addr) (c : Nat), Below W2.heap.size W2 u → Rw encN 70 u p c f.ns → (∀ a, p = some a → W2.heap.size ≤ a.block) → ∃ w2, (Instr.mapUpdate 80 (.map (some B)) (.string ⟨tt.toArray⟩) (.slice p f.ns.length c)).run Tryz.prog u = .ok () w2 ∧ Mod (fun k => k = B) W2 w2 ∧ ClS w X A B C ri w2 (⟨tt, f.ns, p, c⟩ :: GG)) := Lib.hid (fun u p c hu hr hp => by
        have h1 := HS2.out.put hf (HTL.out f hf) (by
          cases hq : hasE f.t (fE GG) with
          | false => rfl
          | true =>
            obtain ⟨g, hg1, e⟩ := (fE_has _ _).1 hq
            exact absurd (List.mem_map.2 ⟨g, hg1, e.trans hft⟩) hno) (by have := HCS.out; have := HDG.out.fn; have := HDG.out.len; omega) HRI2.out hu hr hp
        rw [hft] at h1; exact h1)
      have HCO2 : Hid (Coll keyS (fE X.F) (fun z => left z && !z.sameKey (keyS.lit tt)) ((GG.map (·.t)).reverse ++ [tt])) := Lib.hid (HCO.out.step hlk hth)
      have HRG2 := Lib.hid hrg2
      have HLT := Lib.hid hlt
      clear hkey hlk hv hv2 hat hrg2 hlt hg2 hs2 hm2 hth hft hg hno hBW2 hrg HCL0 HCO HRI
      go_upto_region 5 with fail
      have HG0 : Hid ((fun (j : Nat) (x : Value) (w1 : World) => (j ≤ 1 → Below W2.heap.size W2 w1) ∧ (j = 1 → ∃ p c, x = .slice p f.ns.length c ∧ Rw encN 70 w1 p c f.ns ∧ ∀ a, p = some a → W2.heap.size ≤ a.block) ∧ (j = 2 → ∃ G2, Mod (fun k => k = B) W2 w1 ∧ G2.map (·.t) = tt :: GG.map (·.t) ∧ ClS w X A B C ri w1 G2)) 0 undef W2.drew) := Lib.hid ⟨fun _ => (Below.refl _ _).drew, (fun h => absurd h (by omega)), (fun h => absurd h (by omega))⟩
      refine wp_region_chain2 (fun t v => match t with
        | 24 => v = .pointer (some ⟨C, 0, none⟩)
        | 25 => v = .pointer (some ⟨C, 0, none⟩)
        | 26 => v = .pointer (some ⟨C, 1, none⟩)
        | 27 => v = .map (some B)
        | 28 => v = .string ⟨tt.toArray⟩
        | 29 => v = .slice f.q f.ns.length f.c
        | _ => True) (fun (j : Nat) (x : Value) (w1 : World) => (j ≤ 1 → Below W2.heap.size W2 w1) ∧ (j = 1 → ∃ p c, x = .slice p f.ns.length c ∧ Rw encN 70 w1 p c f.ns ∧ ∀ a, p = some a → W2.heap.size ≤ a.block) ∧ (j = 2 → ∃ G2, Mod (fun k => k = B) W2 w1 ∧ G2.map (·.t) = tt :: GG.map (·.t) ∧ ClS w X A B C ri w1 G2)) [6, 7] 32 (by kernel_rfl) (by decide +kernel) rfl (by decide +kernel) (by decide) (by decide) HG0.out (by
        refine OweAllC.cons (owesC_val 1 (by decide +kernel) (by decide) rfl rfl fun k' a w1 x hk ha hG hV => ?_) ?_
        · skip
          have h3 := ha.outer 3 (by decide +kernel)
          simp only [Act.eval] at h3
          exact ⟨.pointer (some ⟨C, 0, none⟩), wanted_free rfl, by simp [execOp, go_sem, h3], rfl⟩
        refine OweAllC.cons (owesC_val 1 (by decide +kernel) (by decide) rfl rfl fun k' a w1 x hk ha hG hV => ?_) ?_
        · skip
          have h24 : a.tmps.getD 24 undef = .pointer (some ⟨C, 0, none⟩) := hV.get 24 (by decide +kernel)
          exact ⟨.pointer (some ⟨C, 0, none⟩), wanted_free rfl, by simp [execOp, go_sem, h24], rfl⟩
        refine OweAllC.cons (owesC_val 1 (by decide +kernel) (by decide) rfl rfl fun k' a w1 x hk ha hG hV => ?_) ?_
        · skip
          have h25 : a.tmps.getD 25 undef = .pointer (some ⟨C, 0, none⟩) := hV.get 25 (by decide +kernel)
          exact ⟨.pointer (some ⟨C, 1, none⟩), wanted_free rfl, by simp [execOp, go_sem, h25], rfl⟩
        refine OweAllC.cons (owesC_val 1 (by decide +kernel) (by decide) rfl rfl fun k' a w1 x hk ha hG hV => ?_) ?_
        · skip
          have h26 : a.tmps.getD 26 undef = .pointer (some ⟨C, 1, none⟩) := hV.get 26 (by decide +kernel)
          have hbb := hG.1 (by omega)
          have cc : w1.cell? ⟨C, 1, none⟩ = some (.map (some B)) := cell_of_row _ C 1 _ _ _ ((hbb.block C (Array.getElem?_eq_some_iff.1 HS2.out.bx).1).trans HS2.out.bx)
          exact ⟨.map (some B), wanted_free rfl, by simp [execOp, go_sem, h26, cc], rfl⟩
        refine OweAllC.cons (owesC_val 1 (by decide +kernel) (by decide) rfl rfl fun k' a w1 x hk ha hG hV => ?_) ?_
        · skip
          have h4 := ha.outer 4 (by decide +kernel)
          simp only [Act.eval] at h4
          exact ⟨.string ⟨tt.toArray⟩, wanted_free rfl, by simp [execOp, go_sem, h4], rfl⟩
        refine OweAllC.cons (owesC_val 0 (by decide +kernel) (by decide) rfl rfl fun k' a w1 x hk ha hG hV => ?_) ?_
        · skip
          have h5 := ha.outer 5 (by decide +kernel)
          simp only [Act.eval] at h5
          exact ⟨.slice f.q f.ns.length f.c, wanted_free rfl, by simp [execOp, go_sem, h5], rfl⟩
        refine OweAllC.cons (owesC_call 0 rfl rfl rfl 64 fun a w1 x ha hG hx hV => ?_) ?_
        · skip
          have h29 : a.tmps.getD 29 undef = .slice f.q f.ns.length f.c := hV.get 29 (by decide +kernel)
          refine ⟨#[.slice f.q f.ns.length f.c], wanted_free rfl, by simp [execOp, resolve, invoke, go_sem, h29], ?_⟩
          have hbb := hG.1 (by omega)
          refine (HCL.out w1 hbb).mono ?_
          rintro r u2 ⟨p, c, rfl, hr, hf, hb⟩
          exact ⟨_, rfl, trivial, (fun _ => hbb.trans (hb.mono hbb.size)), (fun _ => ⟨p, c, rfl, hr, fun a e => Nat.le_trans hbb.size (hf a e)⟩), (fun h => absurd h (by omega))⟩
        refine OweAllC.cons (owesC_store 1 rfl rfl rfl fun a w1 x ha hG hx hV => ?_) ?_
        · skip
          have h27 : a.tmps.getD 27 undef = .map (some B) := hV.get 27 (by decide +kernel)
          have h28 : a.tmps.getD 28 undef = .string ⟨tt.toArray⟩ := hV.get 28 (by decide +kernel)
          have h30 := hx 0 6 _ 30 rfl rfl rfl rfl
          simp only [Act.eval] at h30
          have hbb := hG.1 (by omega)
          obtain ⟨p, c, hxe, hr, hf⟩ := hG.2.1 (by omega)
          rw [hxe] at h30
          obtain ⟨w2_1, hrun, hcl⟩ := HPUT.out w1 p c hbb hr hf
          exact ⟨w2_1, wanted_free rfl, by simp [execOp, go_sem, h27, h28, h30, hrun], (fun h => absurd h (by omega)), (fun h => absurd h (by omega)), fun _ => ⟨_, hcl.1, rfl, hcl.2⟩⟩
        exact OweAllC.nil
        ) ?_
      intro fs wz xz hG hx hv
      clear hv hx
      simp only [dsts, puts, List.filterMap_cons, List.filterMap_nil, List.foldl_cons, List.foldl_nil, Act.put, List.setIfInBounds_toArray, List.set_cons_succ, List.set_cons_zero]
      obtain ⟨G2, hmB, hGt, hS2⟩ := hG.2.2 rfl
      have hl2 : G2.length = GG.length + 1 := by have := congrArg List.length hGt; simpa using this
      have hrg3 := HRG2.out.kept hmB.grownRow (by have := HS2.out.oB; have := HRIL.out.2; have := HS2.out.oA; have := HAS.out; intro e; cases e; omega) (by have := HS2.out.oB; intro e; cases e; omega)
      have HRG3 := Lib.hid hrg3
      have HNX : Hid (∃ (left : Lit → Bool) (cnt : Nat) (GG : List Fam), wz.ranges Tryz.prog 9 RVE X.m2 ri X.F.length (keyS.d (fE X.F)) left cnt ∧ GG.length + cnt ≤ X.F.length ∧ Coll keyS (fE X.F) left (GG.map (·.t)).reverse ∧ ClS w X A B C ri wz GG ∧ ri < wz.heap.size) := Lib.hid ⟨_, cnt2, G2, hrg3, by have := HCS.out; have := HLT.out; omega, by rw [hGt, List.reverse_cons]; exact HCO2.out, hS2, Nat.lt_of_lt_of_le HRI2.out hmB.size⟩
      clear hG HG0 hmB hGt hS2 hl2 hrg3
      go_wp2_with fail
      go_roundw
      case rel => exact HNX
      case measure => rw [HRG3.out.left_eq, HRG.out.left_eq]; exact HLT.out
end
end Go.Proofs.YtemnebbdaljfbaaGreatDoor

namespace Go.Proofs.YtemnebbdaljfbaaGreatDoor
open Go.RowKit

/-- What is closed. -/
structure ClD (K : List Blk) : Prop where
  root : ∃ b ∈ K, b.id = nmH ghd ∧ b.h = ghd
  cl : ∀ b ∈ K, b.id ≠ nmH ghd → ∃ M : List Blk, M.map (·.id) = b.h.ps ∧ (∀ x ∈ M, x ∈ K) ∧ newE (M.map Blk.is) = 0 ∧ htX (newX (M.map Blk.is)) < b.h.ht ∧ b.h.ps.Pairwise lN ∧ nmsOk (kB b.h.ps) = true
theorem ClD.gen {K : List Blk} (h : K.map Blk.is = genX) : ClD K := by
  obtain ⟨b, rfl, h1, h2⟩ := gen_mem h
  exact ⟨⟨b, by simp, h1, h2⟩, fun b' hb hne => absurd (by rw [List.mem_singleton.1 hb]; exact h1) hne⟩
theorem ClD.add {K : List Blk} (h : ClD K) {nb : Blk} {H : Hd Nm} (hnb : nb.is = (nmH H, H)) (hc : ChkP K H 0) : ClD (nb :: K) := by
  obtain ⟨b0, hb0, e0, e1⟩ := h.root
  have e2 : nb.h = H := congrArg (·.2) hnb
  refine ⟨⟨b0, List.mem_cons_of_mem _ hb0, e0, e1⟩, fun b hb hne => ?_⟩
  rcases List.mem_cons.1 hb with rfl | hb
  · rw [e2]
    rcases hc with ⟨h1, h2⟩ | ⟨_, _, h2⟩ | ⟨h1, _, Y, e, hT, h2⟩
    · exact absurd h2.symm h1
    · cases h2
    · have hpw : H.ps.Pairwise lN := (rs_pair _).1 ((chk_zero _ _).1 h1).2
      have hok : nmsOk (kB H.ps) = true := by rw [nmsOk_of _ hpw]; exact decide_eq_true (chkH_ok h1).2.2.2.2.2.1
      rw [kset_self hpw] at hT
      unfold TipP at hT
      rw [hok, pcs_of] at hT
      rcases h2 with ⟨_, h3⟩ | ⟨_, _, h3⟩ | ⟨_, _, h3⟩ | ⟨h3, h4, _⟩
      · cases h3
      · cases h3
      · cases h3
      · subst h3
        rcases hT with ⟨t1, _⟩ | ⟨_, _, t2, _⟩ | ⟨_, M, hM, hMK, t1, t2⟩
        · cases t1
        · cases t2
        · exact ⟨M, hM, fun x hx => List.mem_cons_of_mem _ (hMK x hx), t1.symm, by rw [← t2]; exact h4, hpw, hok⟩
  · obtain ⟨M, h1, h2, h3⟩ := h.cl b hb hne
    exact ⟨M, h1, fun x hx => List.mem_cons_of_mem _ (h2 x hx), h3⟩
theorem map_uniq {K : List Blk} (hn : (K.map (·.id)).Nodup) : ∀ {M M' : List Blk}, (∀ x ∈ M, x ∈ K) → (∀ x ∈ M', x ∈ K) → M.map (·.id) = M'.map (·.id) → M = M'
  | [], [], _, _, _ => rfl
  | [], _ :: _, _, _, h => by simp at h
  | _ :: _, [], _, _, h => by simp at h
  | a :: l, b :: m, h1, h2, h => by
    rw [List.map_cons, List.map_cons, List.cons.injEq] at h
    rw [uniq_idF hn a (h1 a (by simp)) b (h2 b (by simp)) h.1, map_uniq hn (fun x hx => h1 x (by simp [hx])) (fun x hx => h2 x (by simp [hx])) h.2]
theorem ClD.tip {K : List Blk} (h : ClD K) (hn : (K.map (·.id)).Nodup) {b : Blk} (hb : b ∈ K) (hne : b.id ≠ nmH ghd) {Y : List BI} {e : Int} (ht : TipP K (kB (kset b.h.ps)) Y e) : e = 0 ∧ htX Y < b.h.ht := by
  obtain ⟨M, h1, h2, h3, h4, h5, h6⟩ := h.cl b hb hne
  rw [kset_self h5] at ht
  unfold TipP at ht
  rw [h6, pcs_of] at ht
  rcases ht with ⟨t, _⟩ | ⟨_, ⟨n, hnp, hnk⟩, _⟩ | ⟨_, M', hM, hMK, t1, t2⟩
  · cases t
  · exfalso
    rw [← h1] at hnp
    obtain ⟨x, hx, rfl⟩ := List.mem_map.1 hnp
    rw [(kE_has _ _).2 ⟨x, h2 x hx, rfl⟩] at hnk; cases hnk
  · have e : M' = M := map_uniq hn hMK h2 (hM.trans h1.symm)
    subst e
    exact ⟨t1.trans h3, by rw [t2]; exact h4⟩
theorem ClD.miss {X : DD} (h : ClD X.K) {b : Blk} (hb : b ∈ X.K) (hne : b.id ≠ nmH ghd) : kset (b.h.ps.filter (noK X)) = [] := by
  obtain ⟨M, h1, h2, _⟩ := h.cl b hb hne
  have e : b.h.ps.filter (noK X) = [] := List.filter_eq_nil_iff.2 (fun n hn => by
    rw [← h1] at hn
    obtain ⟨x, hx, rfl⟩ := List.mem_map.1 hn
    unfold noK
    rw [(kE_has _ _).2 ⟨x, h2 x hx, rfl⟩]; decide)
  rw [e]
  exact List.eq_nil_of_length_eq_zero (Nat.le_zero.1 (kset_len []))
/-- The law's other header. -/
def othHd : Hd Nm := ⟨7, 9, [111, 116, 104, 101, 114], 1, 2, [⟨rootB, rootB_len⟩], 0⟩
theorem othHd_ok : HOkay othHd := ⟨by decide, by decide, by decide, by decide, ⟨Nat.le_refl 2, Nat.le_of_ble_eq_true rfl⟩, by decide, by decide⟩
theorem othHd_chk : chkH othHd = 0 := (chk_zero _ _).2 ⟨othHd_ok, rfl⟩
theorem oth_chk {K : List Blk} {e : Int} (h : ClD K) (hn : (K.map (·.id)).Nodup) (hc : ChkP K othHd e) : (hasE (nmH othHd) (kE K) = true → e ≠ 0) ∧ (hasE (nmH othHd) (kE K) = false → e = 0) := by
  have hch := othHd_chk
  obtain ⟨b, hb, e0, e1⟩ := h.root
  rcases hc with ⟨h1, _⟩ | ⟨_, h1, h2⟩ | ⟨_, h1, Y, e2, hT, h2⟩
  · exact absurd hch h1
  · exact ⟨fun _ => by rw [h2]; decide, fun h3 => by rw [h1] at h3; cases h3⟩
  · refine ⟨fun h3 => (by rw [h1] at h3; cases h3), fun _ => ?_⟩
    have hps : othHd.ps = [nmH ghd] := rfl
    rw [hps] at hT
    obtain ⟨b', hb', e3, h3, h4⟩ := tip_one hT ((kE_has _ _).2 ⟨b, hb, e0⟩)
    have : b' = b := uniq_idF hn b' hb' b hb (e3.trans e0.symm)
    subst this
    have ht : htX Y = 0 := by rw [h4]; show b'.h.ht = 0; rw [e1]; rfl
    have ho : othHd.ht = 7 := rfl
    rcases h2 with ⟨h5, _⟩ | ⟨_, h5, _⟩ | ⟨_, h5, _⟩ | ⟨_, _, h5⟩
    · omega
    · exact absurd h3 h5
    · omega
    · exact h5
/-- What stands at the head of a round: the dag, the headers. -/
structure CwS (w w1 w2 : World) (da : Nat) (hq : Option Addr) (D : List RH) (wr : World) (k : Nat) : Prop where
  dg : ∃ (S R : Nat → Prop) (X : DD), DG S R wr da X ∧ (∀ b ∈ X.K, b.id = nmH b.h) ∧ ClD X.K ∧ X.K.length ≤ 1 + k ∧ (∀ k, R k → w.heap.size ≤ k ∧ (k < w1.heap.size ∨ w2.heap.size ≤ k))
  rd : Rd encR wr hq D
  ok : ∀ y ∈ D, okH wr y
  b : Below w.heap.size w wr
  s2 : w2.heap.size ≤ wr.heap.size
section
variable {w w1 w2 : World} {da : Nat} {hq : Option Addr} {D : List RH} {wr w' : World} {k : Nat}
theorem CwS.old (h : CwS w w1 w2 da hq D wr k) (hb : Below wr.heap.size wr w') : CwS w w1 w2 da hq D w' k := by
  obtain ⟨S, R, X, h1, h2⟩ := h.dg
  exact ⟨⟨S, R, X, h1.old hb, h2⟩, h.rd.old hb, fun y hy => (h.ok y hy).old hb, h.b.trans (hb.mono h.b.size), Nat.le_trans h.s2 hb.size⟩
theorem CwS.more (h : CwS w w1 w2 da hq D wr k) : CwS w w1 w2 da hq D wr (k + 1) := by
  obtain ⟨S, R, X, h1, h2, h3, h4, h5⟩ := h.dg
  exact ⟨⟨S, R, X, h1, h2, h3, by omega, h5⟩, h.rd, h.ok, h.b, h.s2⟩
theorem CwS.add {w7 w8 : World} {S R : Nat → Prop} {X : DD} {H : Hd Nm} (h : CwS w w1 w2 da hq D wr k) (hB : BtH w1 w2 hq D)
    (hdg : DG S R wr da X) (hid : ∀ b ∈ X.K, b.id = nmH b.h) (hcl : ClD X.K) (hlen : X.K.length ≤ 1 + k) (hR : ∀ j, R j → w.heap.size ≤ j ∧ (j < w1.heap.size ∨ w2.heap.size ≤ j))
    (h7 : Below wr.heap.size wr w7) (hc : ChkP X.K H 0) (ha : AddP S R w7 da X H w8) : CwS w w1 w2 da hq D w8 (k + 1) := by
  obtain ⟨S', R', F', b, hbi, hd, hm, hS', hR'⟩ := ha
  have hSR : ∀ j, S j → R j := hdg.rs
  have hfr : ∀ j, S j → ¬ (w1.heap.size ≤ j ∧ j < w2.heap.size) := fun j hj hh => by have := (hR j (hSR j hj)).2; omega
  have h1 : Below w.heap.size w w7 := h.b.trans (h7.mono h.b.size)
  refine ⟨⟨S', R', _, hd, ?_, hcl.add hbi hc, ?_, ?_⟩, (h.rd.old h7).mod hm (fun a e hs => hfr _ hs (hB.1 a e)), ?_, ?_, ?_⟩
  · intro b' hb'
    rcases List.mem_cons.1 hb' with rfl | hb'
    · have e1 : b'.id = nmH H := congrArg (·.1) hbi
      have e2 : b'.h = H := congrArg (·.2) hbi
      rw [e1, e2]
    · exact hid b' hb'
  · show (b :: X.K).length ≤ _
    rw [List.length_cons]; omega
  · intro j hj
    rcases hR' j hj with h2 | h2
    · exact hR j h2
    · have := h7.size; have := h.s2; have := h.b.size; omega
  · intro z hz
    exact ((h.ok z hz).old h7).kept hm (fun a e hs => hfr _ hs (hB.2 z hz a e))
  · exact h1.trans (hm.to_below h1.size (fun j hj hs => by have := (hR j (hSR j hs)).1; omega))
  · have := h.s2; have := h7.size; have := hm.size; omega
end
end Go.Proofs.YtemnebbdaljfbaaGreatDoor
