/- A header out of bytes, by the reference. -/
import Derived.Test.YtkejidmomnmdbaaDoorH21
namespace Go.Proofs.YtkejidmomnmdbaaDoor
open Go.RowKit

theorem numS_inv (s : List UInt8) (e m : Int) (h : e ≠ 0 → s = []) : (numS s e m).2.2 ≠ 0 → (numS s e m).2.1 = [] := by
  by_cases he : e = 0
  · subst he
    by_cases hh : (headL s).2.2 = 0
    · by_cases hm : m < (headL s).1
      · rw [numS_big s m hh hm]; intro _; rfl
      · rw [numS_yes s m hh hm]; intro h; exact absurd rfl h
    · rw [numS_no s m hh]; intro _; rfl
  · rw [h he, numS_err e m he]; intro _; rfl
theorem rawS_inv (s : List UInt8) (e n : Int) (h : e ≠ 0 → s = []) : (rawS s e n).2.2 ≠ 0 → (rawS s e n).2.1 = [] := by
  by_cases he : e = 0
  · subst he
    unfold rawS failS
    split
    · simp
    · intro h; exact absurd rfl h
  · rw [h he, rawS_err e n he]; intro _; rfl
/-- Names' bytes that are taken. -/
def parT : Nat → List UInt8 → Int → List (List UInt8) × List UInt8 × Int
  | 0, s, e => ([], s, e)
  | k + 1, s, e => ((parT k s e).1 ++ [(rawS (parT k s e).2.1 (parT k s e).2.2 32).1], (rawS (parT k s e).2.1 (parT k s e).2.2 32).2)
theorem parT_rest (k : Nat) (s : List UInt8) (e : Int) : (parT k s e).2 = (parS k s e).2 := by
  induction k with
  | zero => rfl
  | succ k ih => simp only [parT, parS, ih]
theorem parT_names (k : Nat) (s : List UInt8) (e : Int) : (parT k s e).1.map nmOf = (parS k s e).1 := by
  induction k with
  | zero => rfl
  | succ k ih => simp only [parT, parS, List.map_append, ih, parT_rest, List.map_cons, List.map_nil, nmOf]
theorem parT_len (k : Nat) (s : List UInt8) (e : Int) : (parT k s e).1.length = k := by
  induction k with
  | zero => rfl
  | succ k ih => simp [parT, ih]
theorem parT_short (k : Nat) (s : List UInt8) (e : Int) : (parT k s e).2.1.length ≤ s.length := by rw [parT_rest]; exact parS_short k s e
theorem parT_inv (k : Nat) (s : List UInt8) (e : Int) (h : e ≠ 0 → s = []) : (parT k s e).2.2 ≠ 0 → (parT k s e).2.1 = [] := by
  induction k with
  | zero => exact h
  | succ k ih => exact rawS_inv _ _ _ ih
def takeR (s : List UInt8) : Hd (List UInt8) × List UInt8 × Int :=
  let a := numS s 0 4611686018427387904
  let b := numS a.2.1 a.2.2 4611686018427387904
  let c := textS b.2.1 b.2.2 8
  let d := numS c.2.1 c.2.2 4611686018427387904
  let e := numS d.2.1 d.2.2 4611686018427387904
  let f := numS e.2.1 e.2.2 5
  let p := parT f.1.toNat f.2.1 f.2.2
  let g := numS p.2.1 p.2.2 4611686018427387904
  (⟨a.1, b.1, c.1, d.1, e.1.toNat, p.1, g.1⟩, g.2)
theorem takeR_own (s : List UInt8) : ownH (takeR s).1 = (takeS s).1 ∧ (takeR s).2 = (takeS s).2 := by
  unfold takeR takeS ownH
  simp only [parT_rest, parT_names]
  exact ⟨trivial, trivial⟩
def zhdS : Hd (List UInt8) := ⟨0, 0, [], 0, 0, [], 0⟩
def hrsS (h : Hd (List UInt8)) : Bool := rs h.ps (h.ps.length - 1)
def rparE (s : List UInt8) : Int :=
  if (takeR s).2.2 = 0 then (if (takeR s).2.1 = [] then chk (takeR s).1 (hrsS (takeR s).1) else 3) else (takeR s).2.2
def RPost (h : Hd (List UInt8)) (e : Int) (w : World) (r : Ending) (w' : World) : Prop := ∃ q c, r = .returned (.tuple #[.agg (hcells h q c), .int .i64 e]) ∧ Rw encS 9 w' q c h.ps ∧ Below w.heap.size w w' ∧ ∀ a, q = some a → w.heap.size ≤ a.block

/-- While it goes: the result's place, the header's, what is left. -/
structure PSt (W : World) (C : Array Value) (s : List UInt8) (e : Int) (w : World) : Prop where
  m : Below W.heap.size W w
  rs : ∃ Z : Array Value, Z.size = 7 ∧ w.heap[W.heap.size]? = some (.cells Z 39 (0, 0))
  bx : w.heap[W.heap.size + 1]? = some (.cells C 39 (0, 0))
  tk : w.heap[W.heap.size + 2]? = some (.cells (tkc s e) 137 (0, 0))
theorem PSt.grow {W w w' : World} {C : Array Value} {s : List UInt8} {e : Int} (h : PSt W C s e w) (hb : Below w.heap.size w w') : PSt W C s e w' := by
  obtain ⟨Z, hz, hZ⟩ := h.rs
  exact ⟨h.m.trans (hb.mono h.m.size), ⟨Z, hz, (hb.block _ (Array.getElem?_eq_some_iff.1 hZ).1).trans hZ⟩, (hb.block _ (Array.getElem?_eq_some_iff.1 h.bx).1).trans h.bx, (hb.block _ (Array.getElem?_eq_some_iff.1 h.tk).1).trans h.tk⟩
theorem PSt.kept {W w w' : World} {C : Array Value} {s : List UInt8} {e : Int} {S : Nat → Prop} (h : PSt W C s e w) (hm : Mod S w w') (hS : ∀ i, S i → W.heap.size + 2 < i) : PSt W C s e w' := by
  obtain ⟨Z, hz, hZ⟩ := h.rs
  exact ⟨h.m.trans (hm.to_below h.m.size (fun i hi e => by have := hS i e; omega)), ⟨Z, hz, (hm.block _ (Array.getElem?_eq_some_iff.1 hZ).1 (fun e => by have := hS _ e; omega)).trans hZ⟩, (hm.block _ (Array.getElem?_eq_some_iff.1 h.bx).1 (fun e => by have := hS _ e; omega)).trans h.bx, (hm.block _ (Array.getElem?_eq_some_iff.1 h.tk).1 (fun e => by have := hS _ e; omega)).trans h.tk⟩
theorem PSt.put {W w : World} {C : Array Value} {s : List UInt8} {e : Int} (h : PSt W C s e w) (k : Nat) (v : Value) : PSt W (C.setIfInBounds k v) s e (w.setCell ⟨W.heap.size + 1, k, none⟩ v) := by
  obtain ⟨Z, hz, hZ⟩ := h.rs
  refine ⟨h.m.trans (((Mod.refl (· = W.heap.size + 1) w).setCell (p := ⟨W.heap.size + 1, k, none⟩) (fun _ => rfl) v).to_below h.m.size (by intro i hi e; omega)), ⟨Z, hz, ?_⟩, heap_setCell_same w _ k C 39 v h.bx, ?_⟩
  · rw [Below.heap_setCell _ _ _ _ (by simp only; omega)]; exact hZ
  · rw [Below.heap_setCell _ _ _ _ (by simp only; omega)]; exact h.tk
theorem PSt.left {W w : World} {C : Array Value} {s : List UInt8} {e : Int} (h : PSt W C s e w) (s' : List UInt8) (e' : Int) : PSt W C s' e' (w.setRow (W.heap.size + 2) (tkc s' e')) := by
  obtain ⟨Z, hz, hZ⟩ := h.rs
  exact ⟨h.m.trans (((Mod.refl (fun _ => False) w).setRow (g := W.heap.size + 2) _).to_below h.m.size (by rintro i hi (e | e) <;> first | exact e | omega)), ⟨Z, hz, (setRow_other w _ _ _ (by omega)).trans hZ⟩, (setRow_other w _ _ _ (by omega)).trans h.bx, setRow_heap _ _ _ _ _ _ h.tk⟩
theorem PSt.cell {W w : World} {C : Array Value} {s : List UInt8} {e : Int} (h : PSt W C s e w) (k : Nat) : w.cell? ⟨W.heap.size + 1, k, none⟩ = C[k]? := cell_of_row w _ k C 39 (0, 0) h.bx
theorem PSt.froz {W w : World} {C : Array Value} {s : List UInt8} {e : Int} (h : PSt W C s e w) (k : Nat) : w.frozen? ⟨W.heap.size + 1, k, none⟩ = false := frozen_of_row w _ k C 39 h.bx
theorem PSt.push {W w w' : World} {C : Array Value} {s : List UInt8} {e : Int} (h : PSt W C s e w) {q q' : Option Addr} {c' : Nat} {B : List (List UInt8)} (hf : ∀ a, q = some a → W.heap.size + 2 < a.block) (hP : PushR encS 9 w q B q' c' w') : PSt W C s e w' ∧ Rw encS 9 w' q' c' B ∧ ∀ a, q' = some a → W.heap.size + 2 < a.block := by
  obtain ⟨hR, hM, hor⟩ := hP
  refine ⟨h.kept hM (by rintro i ⟨a, e, rfl⟩; exact hf a e), hR, fun a e => ?_⟩
  rcases hor a e with h1 | h1
  · exact hf a h1
  · exact Nat.lt_of_lt_of_le (Array.getElem?_eq_some_iff.1 h.tk).1 h1
/-- What is taken, as a call. -/
def NumC (s : List UInt8) (e m : Int) (x : Value) (s' : List UInt8) (e' : Int) : Prop := ∀ w, Calls Tryd.prog 102 #[.agg (tkc s e), .int .i64 m] w fun r w' => r = .returned (.tuple #[.agg (tkc s' e'), x]) ∧ Below w.heap.size w w'
def RawC (s : List UInt8) (e n : Int) (x : Value) (s' : List UInt8) (e' : Int) : Prop := ∀ w, Calls Tryd.prog 103 #[.agg (tkc s e), .int .i64 n] w fun r w' => r = .returned (.tuple #[.agg (tkc s' e'), x]) ∧ Below w.heap.size w w'
theorem numC (s : List UInt8) (e m : Int) (hl : s.length ≤ 1099511627776) (h : e ≠ 0 → s = []) : NumC s e m (.int .i64 (numS s e m).1) (numS s e m).2.1 (numS s e m).2.2 := fun w => rtn_any s e m w hl h
theorem rawC (s : List UInt8) (e : Int) (n : Nat) (hl : s.length ≤ 1099511627776) (h : e ≠ 0 → s = []) : RawC s e n (.string ⟨(rawS s e n).1.toArray⟩) (rawS s e n).2.1 (rawS s e n).2.2 := fun w => rtr_any s e n w hl h

set_option maxRecDepth 20000 in
set_option maxHeartbeats 8000000 in
theorem rparse_any (s : List UInt8) (w : World) (hl : s.length ≤ 1000000000) :
    Calls Tryd.prog 39 #[.string ⟨s.toArray⟩] w (RPost (if rparE s = 0 then (takeR s).1 else zhdS) (rparE s) w) := by
  have i0 : (0 : Int) ≠ 0 → s = [] := fun h => absurd rfl h
  obtain ⟨⟨x1, s1, e1⟩, h1⟩ : ∃ p, p = numS s 0 4611686018427387904 := ⟨_, rfl⟩
  have l1 : s1.length ≤ s.length := by have := numS_len s 0 4611686018427387904; rw [← h1] at this; exact this
  have i1 : e1 ≠ 0 → s1 = [] := by have := numS_inv s 0 4611686018427387904 i0; rw [← h1] at this; exact this
  have N1 : Hid (NumC s 0 4611686018427387904 (.int .i64 x1) s1 e1) := Lib.hid (by have := numC s 0 4611686018427387904 (by omega) i0; rw [← h1] at this; exact this)
  obtain ⟨⟨x2, s2, e2⟩, h2⟩ : ∃ p, p = numS s1 e1 4611686018427387904 := ⟨_, rfl⟩
  have l2 : s2.length ≤ s1.length := by have := numS_len s1 e1 4611686018427387904; rw [← h2] at this; exact this
  have i2 : e2 ≠ 0 → s2 = [] := by have := numS_inv s1 e1 4611686018427387904 i1; rw [← h2] at this; exact this
  have N2 : Hid (NumC s1 e1 4611686018427387904 (.int .i64 x2) s2 e2) := Lib.hid (by have := numC s1 e1 4611686018427387904 (by omega) i1; rw [← h2] at this; exact this)
  obtain ⟨⟨x3, s3, e3⟩, h3⟩ : ∃ p, p = numS s2 e2 8 := ⟨_, rfl⟩
  have l3 : s3.length ≤ s2.length := by have := numS_len s2 e2 8; rw [← h3] at this; exact this
  have i3 : e3 ≠ 0 → s3 = [] := by have := numS_inv s2 e2 8 i2; rw [← h3] at this; exact this
  have N3 : Hid (NumC s2 e2 8 (.int .i64 x3) s3 e3) := Lib.hid (by have := numC s2 e2 8 (by omega) i2; rw [← h3] at this; exact this)
  have lo3 := numS_lo s2 e2 8
  rw [← h3] at lo3
  obtain ⟨n3, rfl⟩ : ∃ n : Nat, x3 = n := ⟨x3.toNat, by simp only at lo3; omega⟩
  obtain ⟨⟨x4, s4, e4⟩, h4⟩ : ∃ p, p = rawS s3 e3 (n3 : Int) := ⟨_, rfl⟩
  have l4 : s4.length ≤ s3.length := by have := rawS_len s3 e3 (n3 : Int); rw [← h4] at this; exact this
  have i4 : e4 ≠ 0 → s4 = [] := by have := rawS_inv s3 e3 (n3 : Int) i3; rw [← h4] at this; exact this
  have N4 : Hid (RawC s3 e3 n3 (.string ⟨x4.toArray⟩) s4 e4) := Lib.hid (by have := rawC s3 e3 n3 (by omega) i3; rw [← h4] at this; exact this)
  obtain ⟨⟨x5, s5, e5⟩, h5⟩ : ∃ p, p = numS s4 e4 4611686018427387904 := ⟨_, rfl⟩
  have l5 : s5.length ≤ s4.length := by have := numS_len s4 e4 4611686018427387904; rw [← h5] at this; exact this
  have i5 : e5 ≠ 0 → s5 = [] := by have := numS_inv s4 e4 4611686018427387904 i4; rw [← h5] at this; exact this
  have N5 : Hid (NumC s4 e4 4611686018427387904 (.int .i64 x5) s5 e5) := Lib.hid (by have := numC s4 e4 4611686018427387904 (by omega) i4; rw [← h5] at this; exact this)
  obtain ⟨⟨x6, s6, e6⟩, h6⟩ : ∃ p, p = numS s5 e5 4611686018427387904 := ⟨_, rfl⟩
  have l6 : s6.length ≤ s5.length := by have := numS_len s5 e5 4611686018427387904; rw [← h6] at this; exact this
  have i6 : e6 ≠ 0 → s6 = [] := by have := numS_inv s5 e5 4611686018427387904 i5; rw [← h6] at this; exact this
  have N6 : Hid (NumC s5 e5 4611686018427387904 (.int .i64 x6) s6 e6) := Lib.hid (by have := numC s5 e5 4611686018427387904 (by omega) i5; rw [← h6] at this; exact this)
  obtain ⟨⟨x7, s7, e7⟩, h7⟩ : ∃ p, p = numS s6 e6 5 := ⟨_, rfl⟩
  have l7 : s7.length ≤ s6.length := by have := numS_len s6 e6 5; rw [← h7] at this; exact this
  have i7 : e7 ≠ 0 → s7 = [] := by have := numS_inv s6 e6 5 i6; rw [← h7] at this; exact this
  have N7 : Hid (NumC s6 e6 5 (.int .i64 x7) s7 e7) := Lib.hid (by have := numC s6 e6 5 (by omega) i6; rw [← h7] at this; exact this)
  have lo6 := numS_lo s5 e5 4611686018427387904
  have hi6 := numS_hi s5 e5 4611686018427387904 (by omega)
  rw [← h6] at lo6 hi6
  obtain ⟨p5, rfl⟩ : ∃ n : Nat, x6 = n := ⟨x6.toNat, by simp only at lo6; omega⟩
  have c5 : IntKind.u64.wrap (p5 : Int) = (p5 : Int) := by rw [IntKind.wrap_u64]; simp only at hi6; omega
  have lo7 := numS_lo s6 e6 5
  have hi7 := numS_hi s6 e6 5 (by decide)
  rw [← h7] at lo7 hi7
  obtain ⟨n, rfl⟩ : ∃ n : Nat, x7 = n := ⟨x7.toNat, by simp only at lo7; omega⟩
  have hn5 : n ≤ 5 := by simp only at hi7; omega
  have hnl := parT_short n s7 e7
  have hni := parT_inv n s7 e7 i7
  obtain ⟨⟨x8, s8, e8⟩, h8⟩ : ∃ p, p = numS (parT n s7 e7).2.1 (parT n s7 e7).2.2 4611686018427387904 := ⟨_, rfl⟩
  have N8 : Hid (NumC (parT n s7 e7).2.1 (parT n s7 e7).2.2 4611686018427387904 (.int .i64 x8) s8 e8) := Lib.hid (by have := numC (parT n s7 e7).2.1 (parT n s7 e7).2.2 4611686018427387904 (by omega) hni; rw [← h8] at this; exact this)
  obtain ⟨H, hH⟩ : ∃ H : Hd (List UInt8), H = ⟨x1, x2, x4, x5, p5, (parT n s7 e7).1, x8⟩ := ⟨_, rfl⟩
  have hT : takeR s = (H, s8, e8) := by
    have ht : textS s2 e2 8 = (x4, s4, e4) := by
      unfold textS
      rw [show max (8 : Int) 0 = 8 from rfl, ← h3]
      simp only
      rw [← h4]
    simp only [takeR, ← h1, ← h2, ht, ← h5, ← h6, ← h7, Int.toNat_natCast, ← h8, hH]
  obtain ⟨E1, hE1⟩ : ∃ E1 : Int, E1 = chk H (hrsS H) := ⟨_, rfl⟩
  obtain ⟨EE, hEE⟩ : ∃ EE, EE = rparE s := ⟨_, rfl⟩
  obtain ⟨HH, hHH⟩ : ∃ HH, HH = if EE = 0 then H else zhdS := ⟨_, rfl⟩
  rw [show (takeR s).1 = H by rw [hT], ← hEE, ← hHH]
  have HEE : Hid (EE = if e8 = 0 then (if s8 = [] then E1 else 3) else e8) := Lib.hid (by rw [hEE]; unfold rparE; rw [hT, hE1])
  have HHH := Lib.hid hHH
  have HH0 := Lib.hid hH
  have HC : Hid (∀ q c w, Rd encS w q H.ps → Calls Tryd.prog 30 #[.agg (hcells H q c)] w fun r w' => r = .returned (.int .i64 E1) ∧ Below w.heap.size w w') := Lib.hid (fun q c w h => by rw [hE1]; exact rcheck_any H q c w h)
  have L7 : Hid (s7.length ≤ 1000000000) := Lib.hid (by omega)
  have I7 := Lib.hid i7
  obtain ⟨W0, hW0⟩ : ∃ W0, W0 = ((w.alloc (.cells #[.int .i64 0, .int .i64 0, .string ⟨#[]⟩, .int .i64 0, .int .u64 0, .slice none 0 0, .int .i64 0] 39)).alloc (.cells #[.int .i64 0, .int .i64 0, .string ⟨#[]⟩, .int .i64 0, .int .u64 0, .slice none 0 0, .int .i64 0] 39)).alloc (.cells #[.string ⟨s.toArray⟩, .int .i64 0] 137) := ⟨_, rfl⟩
  have S0 : PSt w #[.int .i64 0, .int .i64 0, .string ⟨#[]⟩, .int .i64 0, .int .u64 0, .slice none 0 0, .int .i64 0] s 0 W0 := by
    have a1 := heap_alloc_new w (.cells #[.int .i64 0, .int .i64 0, .string ⟨#[]⟩, .int .i64 0, .int .u64 0, .slice none 0 0, .int .i64 0] 39)
    have a2 := heap_alloc_new (w.alloc (.cells #[.int .i64 0, .int .i64 0, .string ⟨#[]⟩, .int .i64 0, .int .u64 0, .slice none 0 0, .int .i64 0] 39)) (.cells #[.int .i64 0, .int .i64 0, .string ⟨#[]⟩, .int .i64 0, .int .u64 0, .slice none 0 0, .int .i64 0] 39)
    have a3 := heap_alloc_new ((w.alloc (.cells #[.int .i64 0, .int .i64 0, .string ⟨#[]⟩, .int .i64 0, .int .u64 0, .slice none 0 0, .int .i64 0] 39)).alloc (.cells #[.int .i64 0, .int .i64 0, .string ⟨#[]⟩, .int .i64 0, .int .u64 0, .slice none 0 0, .int .i64 0] 39)) (.cells #[.string ⟨s.toArray⟩, .int .i64 0] 137)
    rw [hW0]
    refine ⟨(((Below.refl _ w).alloc (Nat.le_refl _) _).alloc (by simp) _).alloc (by simp; omega) _, ⟨#[.int .i64 0, .int .i64 0, .string ⟨#[]⟩, .int .i64 0, .int .u64 0, .slice none 0 0, .int .i64 0], rfl, ?_⟩, ?_, ?_⟩
    · rw [Below.heap_alloc _ _ _ (by simp; omega), Below.heap_alloc _ _ _ (by simp)]; exact a1
    · rw [Below.heap_alloc _ _ _ (by simp)]; simpa using a2
    · simpa [tkc] using a3
  have HW0 := Lib.hid hW0
  clear h1 h2 h3 h4 h5 h6 h7 h8 hH hT hE1 hEE hHH l1 l2 l3 l4 l5 l6 l7 i0 i1 i2 i3 i4 i5 i6 i7 lo3 lo6 hi6 lo7 hi7 hnl hni hl hW0
  go_enter Tryd.func39, Tryd.ntmps39
  have tk0 : W0.heap[w.heap.size + 2]? = some (.cells (tkc s 0) 137 (0, 0)) := S0.tk
  go_wp2_with (rw [← HW0.out]; refine wpList_load_row rfl 137 (.tmp 5) rfl (w.heap.size + 2) rfl 137 (tkc s 0) (0, 0) _ tk0 Tryd.underlying137 rfl tkinfo ?_)
  clear tk0
  refine (N1.out W0).mono ?_
  rintro r w1 ⟨rfl, hb⟩
  have st1 := S0.grow hb
  obtain ⟨W1, hW⟩ : ∃ W, W = w1.setRow (w.heap.size + 2) (tkc s1 e1) := ⟨_, rfl⟩
  have st2 : PSt w #[.int .i64 0, .int .i64 0, .string ⟨#[]⟩, .int .i64 0, .int .u64 0, .slice none 0 0, .int .i64 0] s1 e1 W1 := by rw [hW]; exact st1.left s1 e1
  have htk := st1.tk
  have q4 := tkc_one s1 e1
  have HW := Lib.hid hW
  clear hb hW st1 S0 N1
  have c0 : W1.cell? ⟨w.heap.size + 1, 0, none⟩ = some (.int .i64 0) := st2.cell 0
  have f0 := st2.froz 0
  have S1 : PSt w #[.int .i64 x1, .int .i64 0, .string ⟨#[]⟩, .int .i64 0, .int .u64 0, .slice none 0 0, .int .i64 0] s1 e1 (W1.setCell ⟨w.heap.size + 1, 0, none⟩ (.int .i64 x1)) := st2.put 0 _
  have tk2 : (W1.setCell ⟨w.heap.size + 1, 0, none⟩ (.int .i64 x1)).heap[w.heap.size + 2]? = some (.cells (tkc s1 e1) 137 (0, 0)) := S1.tk
  clear st2
  go_wp2_with (first | (refine wpList_store_row rfl rfl 137 (.tmp 5) (.tmp 16) rfl (w.heap.size + 2) rfl 137 _ (tkc s1 e1) rfl htk rfl tkinfo q4 ?_; rw [← HW.out]) | (refine wpList_load_row rfl 137 (.tmp 5) rfl (w.heap.size + 2) rfl 137 (tkc s1 e1) (0, 0) _ tk2 Tryd.underlying137 rfl tkinfo ?_))
  generalize W1.setCell ⟨w.heap.size + 1, 0, none⟩ (.int .i64 x1) = V1 at S1 tk2 ⊢
  clear c0 f0 tk2 htk q4 HW
  refine (N2.out V1).mono ?_
  rintro r w2 ⟨rfl, hb⟩
  have st1 := S1.grow hb
  obtain ⟨W2, hW⟩ : ∃ W, W = w2.setRow (w.heap.size + 2) (tkc s2 e2) := ⟨_, rfl⟩
  have st2 : PSt w #[.int .i64 x1, .int .i64 0, .string ⟨#[]⟩, .int .i64 0, .int .u64 0, .slice none 0 0, .int .i64 0] s2 e2 W2 := by rw [hW]; exact st1.left s2 e2
  have htk := st1.tk
  have q4 := tkc_one s2 e2
  have HW := Lib.hid hW
  clear hb hW st1 S1 N2
  have c0 : W2.cell? ⟨w.heap.size + 1, 1, none⟩ = some (.int .i64 0) := st2.cell 1
  have f0 := st2.froz 1
  have S2 : PSt w #[.int .i64 x1, .int .i64 x2, .string ⟨#[]⟩, .int .i64 0, .int .u64 0, .slice none 0 0, .int .i64 0] s2 e2 (W2.setCell ⟨w.heap.size + 1, 1, none⟩ (.int .i64 x2)) := st2.put 1 _
  have tk2 : (W2.setCell ⟨w.heap.size + 1, 1, none⟩ (.int .i64 x2)).heap[w.heap.size + 2]? = some (.cells (tkc s2 e2) 137 (0, 0)) := S2.tk
  clear st2
  go_wp2_with (first | (refine wpList_store_row rfl rfl 137 (.tmp 5) (.tmp 22) rfl (w.heap.size + 2) rfl 137 _ (tkc s2 e2) rfl htk rfl tkinfo q4 ?_; rw [← HW.out]) | (refine wpList_load_row rfl 137 (.tmp 5) rfl (w.heap.size + 2) rfl 137 (tkc s2 e2) (0, 0) _ tk2 Tryd.underlying137 rfl tkinfo ?_))
  generalize W2.setCell ⟨w.heap.size + 1, 1, none⟩ (.int .i64 x2) = V2 at S2 tk2 ⊢
  clear c0 f0 tk2 htk q4 HW
  refine (N3.out V2).mono ?_
  rintro r w3 ⟨rfl, hb⟩
  have st1 := S2.grow hb
  obtain ⟨W3, hW⟩ : ∃ W, W = w3.setRow (w.heap.size + 2) (tkc s3 e3) := ⟨_, rfl⟩
  have st2 : PSt w #[.int .i64 x1, .int .i64 x2, .string ⟨#[]⟩, .int .i64 0, .int .u64 0, .slice none 0 0, .int .i64 0] s3 e3 W3 := by rw [hW]; exact st1.left s3 e3
  have htk := st1.tk
  have q4 := tkc_one s3 e3
  have HW := Lib.hid hW
  clear hb hW st1 S2 N3
  have S3 := st2
  have tk2 : W3.heap[w.heap.size + 2]? = some (.cells (tkc s3 e3) 137 (0, 0)) := S3.tk
  go_wp2_with (first | (refine wpList_store_row rfl rfl 137 (.tmp 5) (.tmp 28) rfl (w.heap.size + 2) rfl 137 _ (tkc s3 e3) rfl htk rfl tkinfo q4 ?_; rw [← HW.out]) | (refine wpList_load_row rfl 137 (.tmp 5) rfl (w.heap.size + 2) rfl 137 (tkc s3 e3) (0, 0) _ tk2 Tryd.underlying137 rfl tkinfo ?_))
  clear tk2 htk q4 HW
  refine (N4.out W3).mono ?_
  rintro r w4 ⟨rfl, hb⟩
  have st1 := S3.grow hb
  obtain ⟨W4, hW⟩ : ∃ W, W = w4.setRow (w.heap.size + 2) (tkc s4 e4) := ⟨_, rfl⟩
  have st2 : PSt w #[.int .i64 x1, .int .i64 x2, .string ⟨#[]⟩, .int .i64 0, .int .u64 0, .slice none 0 0, .int .i64 0] s4 e4 W4 := by rw [hW]; exact st1.left s4 e4
  have htk := st1.tk
  have q4 := tkc_one s4 e4
  have HW := Lib.hid hW
  clear hb hW st1 S3 N4
  have c0 : W4.cell? ⟨w.heap.size + 1, 2, none⟩ = some (.string ⟨#[]⟩) := st2.cell 2
  have f0 := st2.froz 2
  have S4 : PSt w #[.int .i64 x1, .int .i64 x2, .string ⟨x4.toArray⟩, .int .i64 0, .int .u64 0, .slice none 0 0, .int .i64 0] s4 e4 (W4.setCell ⟨w.heap.size + 1, 2, none⟩ (.string ⟨x4.toArray⟩)) := st2.put 2 _
  have tk2 : (W4.setCell ⟨w.heap.size + 1, 2, none⟩ (.string ⟨x4.toArray⟩)).heap[w.heap.size + 2]? = some (.cells (tkc s4 e4) 137 (0, 0)) := S4.tk
  clear st2
  go_wp2_with (first | (refine wpList_store_row rfl rfl 137 (.tmp 5) (.tmp 34) rfl (w.heap.size + 2) rfl 137 _ (tkc s4 e4) rfl htk rfl tkinfo q4 ?_; rw [← HW.out]) | (refine wpList_load_row rfl 137 (.tmp 5) rfl (w.heap.size + 2) rfl 137 (tkc s4 e4) (0, 0) _ tk2 Tryd.underlying137 rfl tkinfo ?_))
  generalize W4.setCell ⟨w.heap.size + 1, 2, none⟩ (.string ⟨x4.toArray⟩) = V4 at S4 tk2 ⊢
  clear c0 f0 tk2 htk q4 HW
  refine (N5.out V4).mono ?_
  rintro r w5 ⟨rfl, hb⟩
  have st1 := S4.grow hb
  obtain ⟨W5, hW⟩ : ∃ W, W = w5.setRow (w.heap.size + 2) (tkc s5 e5) := ⟨_, rfl⟩
  have st2 : PSt w #[.int .i64 x1, .int .i64 x2, .string ⟨x4.toArray⟩, .int .i64 0, .int .u64 0, .slice none 0 0, .int .i64 0] s5 e5 W5 := by rw [hW]; exact st1.left s5 e5
  have htk := st1.tk
  have q4 := tkc_one s5 e5
  have HW := Lib.hid hW
  clear hb hW st1 S4 N5
  have c0 : W5.cell? ⟨w.heap.size + 1, 3, none⟩ = some (.int .i64 0) := st2.cell 3
  have f0 := st2.froz 3
  have S5 : PSt w #[.int .i64 x1, .int .i64 x2, .string ⟨x4.toArray⟩, .int .i64 x5, .int .u64 0, .slice none 0 0, .int .i64 0] s5 e5 (W5.setCell ⟨w.heap.size + 1, 3, none⟩ (.int .i64 x5)) := st2.put 3 _
  have tk2 : (W5.setCell ⟨w.heap.size + 1, 3, none⟩ (.int .i64 x5)).heap[w.heap.size + 2]? = some (.cells (tkc s5 e5) 137 (0, 0)) := S5.tk
  clear st2
  go_wp2_with (first | (refine wpList_store_row rfl rfl 137 (.tmp 5) (.tmp 40) rfl (w.heap.size + 2) rfl 137 _ (tkc s5 e5) rfl htk rfl tkinfo q4 ?_; rw [← HW.out]) | (refine wpList_load_row rfl 137 (.tmp 5) rfl (w.heap.size + 2) rfl 137 (tkc s5 e5) (0, 0) _ tk2 Tryd.underlying137 rfl tkinfo ?_))
  generalize W5.setCell ⟨w.heap.size + 1, 3, none⟩ (.int .i64 x5) = V5 at S5 tk2 ⊢
  clear c0 f0 tk2 htk q4 HW
  refine (N6.out V5).mono ?_
  rintro r w6 ⟨rfl, hb⟩
  have st1 := S5.grow hb
  obtain ⟨W6, hW⟩ : ∃ W, W = w6.setRow (w.heap.size + 2) (tkc s6 e6) := ⟨_, rfl⟩
  have st2 : PSt w #[.int .i64 x1, .int .i64 x2, .string ⟨x4.toArray⟩, .int .i64 x5, .int .u64 0, .slice none 0 0, .int .i64 0] s6 e6 W6 := by rw [hW]; exact st1.left s6 e6
  have htk := st1.tk
  have q4 := tkc_one s6 e6
  have HW := Lib.hid hW
  clear hb hW st1 S5 N6
  have c0 : W6.cell? ⟨w.heap.size + 1, 4, none⟩ = some (.int .u64 0) := st2.cell 4
  have f0 := st2.froz 4
  have S6 : PSt w #[.int .i64 x1, .int .i64 x2, .string ⟨x4.toArray⟩, .int .i64 x5, .int .u64 (p5 : Int), .slice none 0 0, .int .i64 0] s6 e6 (W6.setCell ⟨w.heap.size + 1, 4, none⟩ (.int .u64 (p5 : Int))) := st2.put 4 _
  have tk2 : (W6.setCell ⟨w.heap.size + 1, 4, none⟩ (.int .u64 (p5 : Int))).heap[w.heap.size + 2]? = some (.cells (tkc s6 e6) 137 (0, 0)) := S6.tk
  clear st2
  go_wp2_with (first | (refine wpList_store_row rfl rfl 137 (.tmp 5) (.tmp 46) rfl (w.heap.size + 2) rfl 137 _ (tkc s6 e6) rfl htk rfl tkinfo q4 ?_; rw [← HW.out]) | (refine wpList_load_row rfl 137 (.tmp 5) rfl (w.heap.size + 2) rfl 137 (tkc s6 e6) (0, 0) _ tk2 Tryd.underlying137 rfl tkinfo ?_))
  generalize W6.setCell ⟨w.heap.size + 1, 4, none⟩ (.int .u64 (p5 : Int)) = V6 at S6 tk2 ⊢
  clear c0 f0 tk2 htk q4 HW
  clear c5
  refine (N7.out V6).mono ?_
  rintro r w7 ⟨rfl, hb⟩
  have st1 := S6.grow hb
  obtain ⟨W7, hW⟩ : ∃ W, W = w7.setRow (w.heap.size + 2) (tkc s7 e7) := ⟨_, rfl⟩
  have st2 : PSt w #[.int .i64 x1, .int .i64 x2, .string ⟨x4.toArray⟩, .int .i64 x5, .int .u64 (p5 : Int), .slice none 0 0, .int .i64 0] s7 e7 W7 := by rw [hW]; exact st1.left s7 e7
  have htk := st1.tk
  have q4 := tkc_one s7 e7
  have HW := Lib.hid hW
  clear hb hW st1 S6 N7
  have S7 := st2
  have tk2 : W7.heap[w.heap.size + 2]? = some (.cells (tkc s7 e7) 137 (0, 0)) := S7.tk
  go_wp2_with (refine wpList_store_row rfl rfl 137 (.tmp 5) (.tmp 54) rfl (w.heap.size + 2) rfl 137 _ (tkc s7 e7) rfl htk rfl tkinfo q4 ?_; rw [← HW.out])
  clear tk2 htk q4 HW
  have SS : Hid (PSt w #[.int .i64 x1, .int .i64 x2, .string ⟨x4.toArray⟩, .int .i64 x5, .int .u64 (p5 : Int), .slice none 0 0, .int .i64 0] s7 e7 W7) := Lib.hid S7
  clear S7
  go_loopw [7] (fun s7' wr => ∃ k q c, k ≤ n ∧ s7' = .int .i64 (k : Int) ∧ Hid (PSt w #[.int .i64 x1, .int .i64 x2, .string ⟨x4.toArray⟩, .int .i64 x5, .int .u64 (p5 : Int), .slice q k c, .int .i64 0] (parT k s7 e7).2.1 (parT k s7 e7).2.2 wr ∧ Rw encS 9 wr q c (parT k s7 e7).1 ∧ ∀ a, q = some a → w.heap.size + 2 < a.block)) (fun i _ => n - (intOf i).toNat)
  case atStart => exact ⟨0, none, 0, Nat.zero_le _, rfl, Lib.hid ⟨SS.out, Rw.empty _ _, fun a e => by cases e⟩⟩
  case round =>
    clear SS
    obtain ⟨k, q, c, hk, rfl, hst⟩ := hrel
    by_cases hlt : k < n
    · obtain ⟨st0, rw0, fr0⟩ := hst.out
      clear hst
      have hsk : (parT k s7 e7).2.1.length ≤ 1000000000 := Nat.le_trans (parT_short k s7 e7) L7.out
      have hik := parT_inv k s7 e7 I7.out
      have hDl := parT_len k s7 e7
      have hnx : parT (k + 1) s7 e7 = ((parT k s7 e7).1 ++ [(rawS (parT k s7 e7).2.1 (parT k s7 e7).2.2 32).1], (rawS (parT k s7 e7).2.1 (parT k s7 e7).2.2 32).2) := rfl
      have Hnx := Lib.hid hnx
      clear hnx
      generalize parT k s7 e7 = P at st0 rw0 hsk hik hDl Hnx
      obtain ⟨D, sk, ek⟩ := P
      simp only at st0 rw0 hsk hik hDl
      obtain ⟨⟨rt, sk', ek'⟩, hrk⟩ : ∃ p, p = rawS sk ek 32 := ⟨_, rfl⟩
      have hraw : Hid (RawC sk ek 32 (.string ⟨rt.toArray⟩) sk' ek') := Lib.hid (by have := rawC sk ek 32 (by omega) hik; rw [show ((32 : Nat) : Int) = 32 from rfl, ← hrk] at this; exact this)
      have Hnx2 : Hid (parT (k + 1) s7 e7 = (D ++ [rt], sk', ek')) := Lib.hid (by rw [Hnx.out]; simp only [← hrk])
      have HDl := Lib.hid hDl
      have tk0 := st0.tk
      have S0 := Lib.hid st0
      have R0 := Lib.hid rw0
      have Hfr := Lib.hid fr0
      clear Hnx hrk hsk hik hDl st0 rw0 fr0
      go_wp2_with (refine wpList_load_row rfl 137 (.tmp 5) rfl (w.heap.size + 2) rfl 137 (tkc sk ek) (0, 0) _ tk0 Tryd.underlying137 rfl tkinfo ?_)
      clear tk0
      refine (hraw.out wr).mono ?_
      rintro r w1 ⟨rfl, hb⟩
      have st1 := S0.out.grow hb
      have rw1 := R0.out.old hb
      obtain ⟨W2, hW⟩ : ∃ W, W = w1.setRow (w.heap.size + 2) (tkc sk' ek') := ⟨_, rfl⟩
      have st2 : PSt w #[.int .i64 x1, .int .i64 x2, .string ⟨x4.toArray⟩, .int .i64 x5, .int .u64 (p5 : Int), .slice q k c, .int .i64 0] sk' ek' W2 := by rw [hW]; exact st1.left sk' ek'
      have rw2 : Rw encS 9 W2 q c D := by rw [hW]; exact rw1.kept ((Mod.refl (fun _ => False) w1).setRow (g := w.heap.size + 2) _) (fun a e h => by have := Hfr.out a e; rcases h with h | h; exact h; omega)
      have htk := st1.tk
      have q4 := tkc_one sk' ek'
      have HW := Lib.hid hW
      have c5 : W2.cell? ⟨w.heap.size + 1, 5, none⟩ = some (.slice q k c) := st2.cell 5
      have hb3 : Below W2.heap.size W2 (W2.alloc (.cells #[.string ⟨rt.toArray⟩] 9)) := (Below.refl _ _).alloc (Nat.le_refl _) _
      have st3 := Lib.hid (st2.grow hb3)
      have rw3 := rw2.old hb3
      have hY : Rd encS (W2.alloc (.cells #[.string ⟨rt.toArray⟩] 9)) (some ⟨W2.heap.size, 0, none⟩) [rt] := Rd.made encS W2 9 [rt] (by simp [maxLen])
      clear hb hW st1 rw1 st2 rw2 hb3 S0 R0 hraw
      go_wp2_with (first | (refine wpList_store_row rfl rfl 137 (.tmp 5) (.tmp 64) rfl (w.heap.size + 2) rfl 137 _ (tkc sk' ek') rfl htk rfl tkinfo q4 ?_; rw [← HW.out]) | (at_builtin; refine wpList_pushR encS rfl _ _ 35 9 (.string ⟨#[]⟩) 16 rfl Tryd.underlying35 info_strH rfl (by decide) q c k D HDl.out rfl rw3 (some ⟨W2.heap.size, 0, none⟩) 1 1 [rt] rfl rfl hY (by omega) ?_; intro q' c' W5 hP; have S5 := PSt.push st3.out Hfr.out hP; clear hP; have c55 : W5.cell? ⟨w.heap.size + 1, 5, none⟩ = some (.slice q k c) := S5.1.cell 5; have f55 := S5.1.froz 5; have S6 := Lib.hid S5; clear S5))
      rename_i hK5
      have S9 : Hid (PSt w #[.int .i64 x1, .int .i64 x2, .string ⟨x4.toArray⟩, .int .i64 x5, .int .u64 (p5 : Int), .slice q' (k + 1) c', .int .i64 0] sk' ek' (W5.setCell ⟨w.heap.size + 1, 5, none⟩ (.slice q' (k + 1) c')) ∧ Rw encS 9 (W5.setCell ⟨w.heap.size + 1, 5, none⟩ (.slice q' (k + 1) c')) q' c' (D ++ [rt]) ∧ ∀ a, q' = some a → w.heap.size + 2 < a.block) := Lib.hid (by
        obtain ⟨h1, h2, h3⟩ := S6.out
        exact ⟨h1.put 5 _, h2.kept ((Mod.refl (· = w.heap.size + 1) W5).setCell (p := ⟨w.heap.size + 1, 5, none⟩) (fun _ => rfl) _) (fun a e h => by have := h3 a e; omega), h3⟩)
      go_roundw
      case rel => exact ⟨k + 1, q', c', by omega, by go_num, Lib.hid (by rw [Hnx2.out]; exact S9.out)⟩
      case measure => simp [intOf]; omega
    · obtain rfl : k = n := by omega
      obtain ⟨st0, rw0, fr0⟩ := hst.out
      clear hst
      have hDl := parT_len k s7 e7
      obtain ⟨P, hP⟩ : ∃ P, P = parT k s7 e7 := ⟨_, rfl⟩
      rw [← hP] at st0 rw0 hDl N8
      have HH1 : Hid (H = ⟨x1, x2, x4, x5, p5, P.1, x8⟩) := Lib.hid (by rw [hP]; exact HH0.out)
      obtain ⟨D, sk, ek⟩ := P
      simp only at st0 rw0 hDl
      have tk0 := st0.tk
      have S0 := Lib.hid st0
      have R0 := Lib.hid rw0
      have Hfr := Lib.hid fr0
      have HDl := Lib.hid hDl
      clear hP hDl st0 rw0 fr0 HH0
      go_wp2_with (refine wpList_load_row rfl 137 (.tmp 5) rfl (w.heap.size + 2) rfl 137 (tkc sk ek) (0, 0) _ tk0 Tryd.underlying137 rfl tkinfo ?_)
      clear tk0
      refine (N8.out wr).mono ?_
      rintro r w1 ⟨rfl, hb⟩
      have st1 := S0.out.grow hb
      have rw1 := R0.out.old hb
      obtain ⟨W2', hW⟩ : ∃ W, W = w1.setRow (w.heap.size + 2) (tkc s8 e8) := ⟨_, rfl⟩
      have st2 : PSt w #[.int .i64 x1, .int .i64 x2, .string ⟨x4.toArray⟩, .int .i64 x5, .int .u64 (p5 : Int), .slice q k c, .int .i64 0] s8 e8 W2' := by rw [hW]; exact st1.left s8 e8
      have rw2 : Rw encS 9 W2' q c D := by rw [hW]; exact rw1.kept ((Mod.refl (fun _ => False) w1).setRow (g := w.heap.size + 2) _) (fun a e h => by have := Hfr.out a e; rcases h with h | h; exact h; omega)
      have htk := st1.tk
      have q4 := tkc_one s8 e8
      have HW := Lib.hid hW
      have c0 : W2'.cell? ⟨w.heap.size + 1, 6, none⟩ = some (.int .i64 0) := st2.cell 6
      have f0 := st2.froz 6
      have st3 : PSt w #[.int .i64 x1, .int .i64 x2, .string ⟨x4.toArray⟩, .int .i64 x5, .int .u64 (p5 : Int), .slice q k c, .int .i64 x8] s8 e8 (W2'.setCell ⟨w.heap.size + 1, 6, none⟩ (.int .i64 x8)) := st2.put 6 _
      have rw3 : Rw encS 9 (W2'.setCell ⟨w.heap.size + 1, 6, none⟩ (.int .i64 x8)) q c D := rw2.kept ((Mod.refl (· = w.heap.size + 1) W2').setCell (p := ⟨w.heap.size + 1, 6, none⟩) (fun _ => rfl) _) (fun a e h => by have := Hfr.out a e; omega)
      clear hb hW st1 rw1 st2 rw2 S0 R0 N8
      go_upto_region 19 with (refine wpList_store_row rfl rfl 137 (.tmp 5) (.tmp 75) rfl (w.heap.size + 2) rfl 137 _ (tkc s8 e8) rfl htk rfl tkinfo q4 ?_; rw [← HW.out])
      generalize W2'.setCell ⟨w.heap.size + 1, 6, none⟩ (.int .i64 x8) = V8 at st3 rw3 ⊢
      clear c0 f0 htk q4 HW
      have hcf : #[.int .i64 x1, .int .i64 x2, .string ⟨x4.toArray⟩, .int .i64 x5, .int .u64 (p5 : Int), .slice q k c, .int .i64 x8] = hcells H q c := by rw [HH1.out]; unfold hcells; simp only [HDl.out]
      have hps : H.ps = D := by rw [HH1.out]
      rw [hcf] at st3
      rw [← hps] at rw3
      have ce1 : V8.cell? ⟨w.heap.size + 2, 1, none⟩ = some (.int .i64 e8) := cell_of_row V8 _ 1 (tkc s8 e8) 137 (0, 0) st3.tk
      have ce0 : V8.cell? ⟨w.heap.size + 2, 0, none⟩ = some (.string ⟨s8.toArray⟩) := cell_of_row V8 _ 0 (tkc s8 e8) 137 (0, 0) st3.tk
      obtain ⟨Z, hZs, hZ⟩ := st3.rs
      have hBV := st3.m
      have BX := Lib.hid st3.bx
      have R3 := Lib.hid rw3
      have HBV := Lib.hid hBV
      have HZZ := Lib.hid hZ
      clear hcf hps st3 rw3 HH1
      by_cases z8 : e8 = 0
      case neg =>
        have t1 : (e8 == 0) = false := by simp [z8]
        have t2 : (e8 != 0) = true := by simp [z8]
        have e1 : EE = e8 := by rw [HEE.out, if_neg z8]
        have L0 := Lib.hid (setRow_heap V8 w.heap.size Z zhc 39 (0, 0) hZ)
        have LB := Lib.hid (hBV.trans (((Mod.refl (fun _ => False) V8).setRow (g := w.heap.size) zhc).to_below hBV.size (by rintro k hk (h | h) <;> first | exact h | omega)))
        have e2 : HH = zhdS := by rw [HHH.out, if_neg (by rw [e1]; exact z8)]
        unfold zhc at L0 LB
        have E1' := Lib.hid e1
        have E2' := Lib.hid e2
        clear e1 e2 z8 hBV
        go_wp2_with (refine wpList_store_row rfl rfl 39 (.tmp 2) (.tmp 93) rfl w.heap.size rfl 39 Z #[.int .i64 0, .int .i64 0, .string ⟨#[]⟩, .int .i64 0, .int .u64 0, .slice none 0 0, .int .i64 0] rfl hZ hZs rhinfo (hcells_oneA zhd none 0) ?_)
        exact bodyPost_ret (v := .tuple #[.agg _, .int .i64 e8]) (results_row2 Tryd.results39 _ _ w.heap.size 39 _ (0, 0) _ _ rfl rfl L0.out Tryd.underlying39 rfl rhinfo) rfl ⟨none, 0, by rw [E2'.out, E1'.out]; rfl, by rw [E2'.out]; exact Rw.empty _ _, LB.out, fun a e => by cases e⟩
      subst z8
      by_cases zs : s8 = []
      case neg =>
        have t1 : (s8 == []) = false := by simp [zs]
        have t2 : s8.isEmpty = false := by simp [zs]
        have e1 : EE = 3 := by rw [HEE.out, if_pos rfl, if_neg zs]
        have L0 := Lib.hid (setRow_heap V8 w.heap.size Z zhc 39 (0, 0) hZ)
        have LB := Lib.hid (hBV.trans (((Mod.refl (fun _ => False) V8).setRow (g := w.heap.size) zhc).to_below hBV.size (by rintro k hk (h | h) <;> first | exact h | omega)))
        have e2 : HH = zhdS := by rw [HHH.out, if_neg (by rw [e1]; decide)]
        unfold zhc at L0 LB
        have E1' := Lib.hid e1
        have E2' := Lib.hid e2
        clear e1 e2 hBV
        go_wp2_with (refine wpList_store_row rfl rfl 39 (.tmp 2) (.tmp 93) rfl w.heap.size rfl 39 Z #[.int .i64 0, .int .i64 0, .string ⟨#[]⟩, .int .i64 0, .int .u64 0, .slice none 0 0, .int .i64 0] rfl hZ hZs rhinfo (hcells_oneA zhd none 0) ?_)
        exact bodyPost_ret (v := .tuple #[.agg _, .int .i64 3]) (results_row2 Tryd.results39 _ _ w.heap.size 39 _ (0, 0) _ _ rfl rfl L0.out Tryd.underlying39 rfl rhinfo) rfl ⟨none, 0, by rw [E2'.out, E1'.out]; rfl, by rw [E2'.out]; exact Rw.empty _ _, LB.out, fun a e => by cases e⟩
      subst zs
      have HEE2 : Hid (EE = E1) := Lib.hid (by rw [HEE.out, if_pos rfl, if_pos rfl])
      have lbx := BX.out
      have q7 : (Tryd.prog.info? 39).map (·.size) = some (hcells H q c).size := rhinfo
      have hck := Lib.hid (HC.out q c V8 R3.out.rd)
      obtain ⟨Y, hY⟩ : ∃ Y, Y = hcells H q c := ⟨_, rfl⟩
      rw [← hY] at lbx q7 hck
      have BX2 : Hid (V8.heap[w.heap.size + 1]? = some (.cells Y 39 (0, 0))) := Lib.hid lbx
      have q4 : ∀ v ∈ Y.toList, v.oneCell' = true := by rw [hY]; exact hcells_oneA _ _ _
      have hYs : Y.size = 7 := by rw [hY]; rfl
      have HY := Lib.hid hY
      clear hY hZ hBV
      go_wp2_with (refine wpList_load_row rfl 39 (.tmp 4) rfl (w.heap.size + 1) rfl 39 Y (0, 0) _ lbx Tryd.underlying39 rfl q7 ?_)
      refine hck.out.mono ?_
      rintro r w9 ⟨rfl, hb9⟩
      have hZ := (hb9.block _ (Array.getElem?_eq_some_iff.1 HZZ.out).1).trans HZZ.out
      have hbx := (hb9.block _ (Array.getElem?_eq_some_iff.1 BX2.out).1).trans BX2.out
      have hBV := HBV.out.trans (hb9.mono HBV.out.size)
      have R9 := Lib.hid (R3.out.old hb9)
      clear hb9 lbx ce0 ce1 hck
      by_cases z1 : E1 = 0
      case neg =>
        have t1 : (E1 == 0) = false := by simp [z1]
        have t2 : (E1 != 0) = true := by simp [z1]
        have e1 : EE = E1 := HEE2.out
        have L0 := Lib.hid (setRow_heap w9 w.heap.size Z zhc 39 (0, 0) hZ)
        have LB := Lib.hid (hBV.trans (((Mod.refl (fun _ => False) w9).setRow (g := w.heap.size) zhc).to_below hBV.size (by rintro k hk (h | h) <;> first | exact h | omega)))
        have e2 : HH = zhdS := by rw [HHH.out, if_neg (by rw [e1]; exact z1)]
        unfold zhc at L0 LB
        have E1' := Lib.hid e1
        have E2' := Lib.hid e2
        clear e1 e2 z1 hBV hbx q4 q7
        go_wp2_with (refine wpList_store_row rfl rfl 39 (.tmp 2) (.tmp 93) rfl w.heap.size rfl 39 Z #[.int .i64 0, .int .i64 0, .string ⟨#[]⟩, .int .i64 0, .int .u64 0, .slice none 0 0, .int .i64 0] rfl hZ hZs rhinfo (hcells_oneA zhd none 0) ?_)
        exact bodyPost_ret (v := .tuple #[.agg _, .int .i64 E1]) (results_row2 Tryd.results39 _ _ w.heap.size 39 _ (0, 0) _ _ rfl rfl L0.out Tryd.underlying39 rfl rhinfo) rfl ⟨none, 0, by rw [E2'.out, E1'.out]; rfl, by rw [E2'.out]; exact Rw.empty _ _, LB.out, fun a e => by cases e⟩
      subst z1
      have e1 : Hid (EE = 0) := HEE2
      have e2 : Hid (HH = H) := Lib.hid (by rw [HHH.out, if_pos e1.out])
      have L0 := Lib.hid (setRow_heap w9 w.heap.size Z Y 39 (0, 0) hZ)
      have LB := Lib.hid (hBV.trans (((Mod.refl (fun _ => False) w9).setRow (g := w.heap.size) Y).to_below hBV.size (by rintro k hk (h | h) <;> first | exact h | omega)))
      have LR := Lib.hid (R9.out.kept ((Mod.refl (fun _ => False) w9).setRow (g := w.heap.size) Y) (fun a e h => by
        have := Hfr.out a e
        rcases h with h | h
        · exact h
        · omega))
      have hZY : Z.size = Y.size := by rw [hZs, hYs]
      clear hBV
      go_wp2_with (first | (refine wpList_load_row rfl 39 (.tmp 4) rfl (w.heap.size + 1) rfl 39 Y (0, 0) _ hbx Tryd.underlying39 rfl q7 ?_) | (refine wpList_store_row rfl rfl 39 (.tmp 2) (.tmp 95) rfl w.heap.size rfl 39 Z Y rfl hZ hZY q7 q4 ?_))
      exact bodyPost_ret (v := .tuple #[.agg Y, .int .i64 0]) (results_row2 Tryd.results39 _ _ w.heap.size 39 Y (0, 0) _ _ rfl rfl L0.out Tryd.underlying39 rfl q7) rfl ⟨q, c, by rw [e2.out, e1.out, HY.out], by rw [e2.out]; exact LR.out, LB.out, fun a e => by have := Hfr.out a e; omega⟩
end Go.Proofs.YtkejidmomnmdbaaDoor
