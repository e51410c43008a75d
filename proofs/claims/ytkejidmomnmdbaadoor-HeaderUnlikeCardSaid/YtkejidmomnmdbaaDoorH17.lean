/- Two headers at once: x, y = Few(x), Few(y), and a, b := Own(x), Own(y). -/
import Derived.Test.YtkejidmomnmdbaaDoorH16
import Derived.Test.YtkejidmomnmdbaaDoorChainW
import Derived.Test.YtkejidmomnmdbaaDoorDraw2
namespace Go.Proofs.YtkejidmomnmdbaaDoor
open Go.RowKit

theorem Rd.mod {α : Type} {E : Enc α} {w w' : World} {ao : Option Addr} {L : List α} {S : Nat → Prop} (h : Rd E w ao L) (hm : Mod S w w') (hS : ∀ a, ao = some a → ¬ S a.block) : Rd E w' ao L := by
  intro j hj
  obtain ⟨bs, off, e, hlt, hc⟩ := h j hj
  exact ⟨bs, off, e, Nat.lt_of_lt_of_le hlt hm.size, fun i u hu => (World.cell?_of_block (hm.block bs hlt (hS _ e))).trans (hc i u hu)⟩
/-- A value: a header of the reference, whose parents lie from block B on. -/
def HV (F : Hd (List UInt8)) (B : Nat) (v : Value) (w : World) : Prop := ∃ q c, v = .agg (hcells F q c) ∧ Rd encS w q F.ps ∧ ∀ a, q = some a → B ≤ a.block
theorem HV.keep {F : Hd (List UInt8)} {B : Nat} {v : Value} {w w' : World} (h : HV F B v w) (hm : Mod (fun i => i < B) w w') : HV F B v w' := by
  obtain ⟨q, c, e, hR, hf⟩ := h
  exact ⟨q, c, e, hR.mod hm (fun a e h => by have := hf a e; omega), hf⟩
/-- A variable with such a header. -/
def BxAt (F : Hd (List UInt8)) (B : Nat) (w : World) (g : Nat) : Prop := ∃ q c, w.heap[g]? = some (.cells (hcells F q c) 39 (0, 0)) ∧ Rd encS w q F.ps ∧ ∀ a, q = some a → B ≤ a.block
theorem BxAt.keep {F : Hd (List UInt8)} {B g : Nat} {w w' : World} (h : BxAt F B w g) {S : Nat → Prop} (hm : Mod S w w') (hS : ∀ i, S i → i < B) (hg : ¬ S g) : BxAt F B w' g := by
  obtain ⟨q, c, hb, hR, hf⟩ := h
  exact ⟨q, c, (hm.block g (Array.getElem?_eq_some_iff.1 hb).1 hg).trans hb, hR.mod hm (fun a e h => by have := hf a e; have := hS _ h; omega), hf⟩
theorem BxAt.grow {F : Hd (List UInt8)} {B g : Nat} {w w' : World} (h : BxAt F B w g) (hb : Below w.heap.size w w') : BxAt F B w' g := by
  obtain ⟨q, c, hx, hR, hf⟩ := h
  exact ⟨q, c, (hb.block g (Array.getElem?_eq_some_iff.1 hx).1).trans hx, hR.old hb, hf⟩
def V3 (CX CY : Array Value) (FX FY : Hd (List UInt8)) (B : Nat) : Tmp → Value → World → Prop := fun t v w => match t with
  | 10 => v = .agg CX
  | 11 => HV FX B v w
  | 12 => v = .agg CY
  | 13 => HV FY B v w
  | _ => True
theorem V3.keep {CX CY : Array Value} {FX FY : Hd (List UInt8)} {B : Nat} {w w' : World} (hm : Mod (fun i => i < B) w w') (t : Tmp) (v : Value) (h : V3 CX CY FX FY B t v w) : V3 CX CY FX FY B t v w' := by
  unfold V3 at h ⊢
  split at h <;> first | exact h | exact h.keep hm
structure G3 (w1 : World) (g2 g3 B : Nat) (CX CY : Array Value) (FX FY : Hd (List UInt8)) (j : Nat) (w' : World) : Prop where
  m : Mod (fun i => i = g2 ∨ i = g3) w1 w'
  b2 : j ≤ 2 → w'.heap[g2]? = some (.cells CX 39 (0, 0))
  b3 : j ≤ 3 → w'.heap[g3]? = some (.cells CY 39 (0, 0))
  n2 : 3 ≤ j → BxAt FX B w' g2
  n3 : 4 ≤ j → BxAt FY B w' g3
theorem G3.grow {w1 w2 u2 : World} {g2 g3 B : Nat} {CX CY : Array Value} {FX FY : Hd (List UInt8)} {j : Nat} (h : G3 w1 g2 g3 B CX CY FX FY j w2) (hj : j ≤ 1) (hb : Below w2.heap.size w2 u2) : G3 w1 g2 g3 B CX CY FX FY (j + 1) u2 :=
  ⟨h.m.trans (Mod.of_below hb) (fun i hi hs => absurd hs (by have := h.m.size; omega)), fun _ => (hb.block _ (Array.getElem?_eq_some_iff.1 (h.b2 (by omega))).1).trans (h.b2 (by omega)), fun _ => (hb.block _ (Array.getElem?_eq_some_iff.1 (h.b3 (by omega))).1).trans (h.b3 (by omega)), fun h => absurd h (by omega), fun h => absurd h (by omega)⟩

/-- A value: a header of the program. -/
def HN (A : Hd Nm) (v : Value) (w : World) : Prop := ∃ q c, v = .agg (hcells A q c) ∧ Rw encN 25 w q c A.ps
def BxN (A : Hd Nm) (w : World) (g : Nat) : Prop := ∃ q c, w.heap[g]? = some (.cells (hcells A q c) 43 (0, 0)) ∧ Rw encN 25 w q c A.ps
theorem Rw.apart {α : Type} {E : Enc α} {T T' : TypeId} {w : World} {p : Option Addr} {cap : Nat} {L : List α} (h : Rw E T w p cap L) (hT : T ≠ T') {g : Nat} {Z : Array Value} (hg : w.heap[g]? = some (.cells Z T' (0, 0))) : ∀ a, p = some a → a.block ≠ g := by
  rintro a rfl e
  rcases h.shape with ⟨e', _⟩ | ⟨g', e', hl, _, _, cur, hh, _⟩
  · cases e'
  · cases e'
    subst e
    rw [hg] at hh
    simp only [Option.some.injEq, Obj.cells.injEq] at hh
    exact hT hh.2.1.symm
theorem Rw.store {w : World} {p : Option Addr} {cap : Nat} {L : List Nm} (h : Rw encN 25 w p cap L) {g : Nat} {Z Y : Array Value} (hg : w.heap[g]? = some (.cells Z 43 (0, 0))) : Rw encN 25 (w.setRow g Y) p cap L :=
  h.kept ((Mod.refl (fun _ => False) w).setRow (g := g) Y) (fun a e hs => by
    rcases hs with hs | hs
    · exact hs
    · exact h.apart (T' := 43) (by decide) hg a e hs)
theorem HN.grow {A : Hd Nm} {v : Value} {w w' : World} (h : HN A v w) (hb : Below w.heap.size w w') : HN A v w' := by
  obtain ⟨q, c, e, hR⟩ := h; exact ⟨q, c, e, hR.old hb⟩
theorem BxN.grow {A : Hd Nm} {g : Nat} {w w' : World} (h : BxN A w g) (hb : Below w.heap.size w w') : BxN A w' g := by
  obtain ⟨q, c, e, hR⟩ := h; exact ⟨q, c, (hb.block g (Array.getElem?_eq_some_iff.1 e).1).trans e, hR.old hb⟩
theorem HN.store {A : Hd Nm} {v : Value} {w : World} (h : HN A v w) {g : Nat} {Z Y : Array Value} (hg : w.heap[g]? = some (.cells Z 43 (0, 0))) : HN A v (w.setRow g Y) := by
  obtain ⟨q, c, e, hR⟩ := h; exact ⟨q, c, e, hR.store hg⟩
theorem BxN.store {A : Hd Nm} {g' : Nat} {w : World} (h : BxN A w g') {g : Nat} {Z Y : Array Value} (hg : w.heap[g]? = some (.cells Z 43 (0, 0))) (hne : g' ≠ g) : BxN A (w.setRow g Y) g' := by
  obtain ⟨q, c, e, hR⟩ := h; exact ⟨q, c, (setRow_other w _ _ Y hne).trans e, hR.store hg⟩
abbrev Gh := Option Nat × Option Nat
def V6 (CX CY : Array Value) (AX AY : Hd Nm) : Tmp → Value → Gh → World → Prop := fun t v γ w => match t with
  | 22 => v = .agg CX
  | 23 => HN AX v w
  | 24 => v = .agg CY
  | 25 => HN AY v w
  | 5 => ∃ g, γ.1 = some g ∧ v = .pointer (some ⟨g, 0, none⟩)
  | 6 => ∃ g, γ.2 = some g ∧ v = .pointer (some ⟨g, 0, none⟩)
  | _ => True
def U6 (AX AY : Hd Nm) : Nat → Gh → World → Prop := fun j γ w => match j with
  | 6 => ∃ g, γ.1 = some g ∧ BxN AX w g
  | 7 => ∃ g, γ.2 = some g ∧ BxN AY w g
  | _ => True
structure G6 (Wb : World) (γ : Gh) (w : World) : Prop where
  m : Below Wb.heap.size Wb w
  a1 : ∀ g, γ.1 = some g → Wb.heap.size ≤ g ∧ ∃ Z : Array Value, Z.size = 7 ∧ w.heap[g]? = some (.cells Z 43 (0, 0))
  a2 : ∀ g, γ.2 = some g → Wb.heap.size ≤ g ∧ ∃ Z : Array Value, Z.size = 7 ∧ w.heap[g]? = some (.cells Z 43 (0, 0))
  ne : ∀ g g', γ.1 = some g → γ.2 = some g' → g ≠ g'
theorem V6.grow {CX CY : Array Value} {AX AY : Hd Nm} {t : Tmp} {v : Value} {γ : Gh} {w w' : World} (h : V6 CX CY AX AY t v γ w) (hb : Below w.heap.size w w') : V6 CX CY AX AY t v γ w' := by
  unfold V6 at h ⊢
  split at h <;> first | exact h | exact h.grow hb
theorem U6.grow {AX AY : Hd Nm} {j : Nat} {γ : Gh} {w w' : World} (h : U6 AX AY j γ w) (hb : Below w.heap.size w w') : U6 AX AY j γ w' := by
  unfold U6 at h ⊢
  split at h
  · obtain ⟨g, e, h⟩ := h; exact ⟨g, e, h.grow hb⟩
  · obtain ⟨g, e, h⟩ := h; exact ⟨g, e, h.grow hb⟩
  · trivial
theorem G6.grow {Wb : World} {γ : Gh} {w w' : World} (h : G6 Wb γ w) (hb : Below w.heap.size w w') : G6 Wb γ w' := by
  refine ⟨h.m.trans (hb.mono h.m.size), fun g e => ?_, fun g e => ?_, h.ne⟩
  · obtain ⟨h1, Z, h2, h3⟩ := h.a1 g e; exact ⟨h1, Z, h2, (hb.block g (Array.getElem?_eq_some_iff.1 h3).1).trans h3⟩
  · obtain ⟨h1, Z, h2, h3⟩ := h.a2 g e; exact ⟨h1, Z, h2, (hb.block g (Array.getElem?_eq_some_iff.1 h3).1).trans h3⟩
theorem V6.store {CX CY : Array Value} {AX AY : Hd Nm} {t : Tmp} {v : Value} {γ : Gh} {w : World} (h : V6 CX CY AX AY t v γ w) {g : Nat} {Z Y : Array Value} (hg : w.heap[g]? = some (.cells Z 43 (0, 0))) : V6 CX CY AX AY t v γ (w.setRow g Y) := by
  unfold V6 at h ⊢
  split at h <;> first | exact h | exact h.store hg
theorem G6.store {Wb : World} {γ : Gh} {w : World} (h : G6 Wb γ w) {g : Nat} {Z Y : Array Value} (hg : w.heap[g]? = some (.cells Z 43 (0, 0))) (hlo : Wb.heap.size ≤ g) (hY : Y.size = 7) : G6 Wb γ (w.setRow g Y) := by
  have hk : ∀ g', Wb.heap.size ≤ g' ∧ (∃ Z : Array Value, Z.size = 7 ∧ w.heap[g']? = some (.cells Z 43 (0, 0))) → Wb.heap.size ≤ g' ∧ ∃ Z : Array Value, Z.size = 7 ∧ (w.setRow g Y).heap[g']? = some (.cells Z 43 (0, 0)) := by
    rintro g' ⟨h1, Z', h2, h3⟩
    by_cases e : g' = g
    · subst e; exact ⟨h1, Y, hY, setRow_heap _ _ _ _ _ _ hg⟩
    · exact ⟨h1, Z', h2, (setRow_other w _ _ Y e).trans h3⟩
  refine ⟨h.m.trans (((Mod.refl (fun _ => False) w).setRow (g := g) Y).to_below h.m.size (by rintro k hk (e | e) <;> first | exact e | omega)), fun g' e => hk g' (h.a1 g' e), fun g' e => hk g' (h.a2 g' e), h.ne⟩
end Go.Proofs.YtkejidmomnmdbaaDoor
