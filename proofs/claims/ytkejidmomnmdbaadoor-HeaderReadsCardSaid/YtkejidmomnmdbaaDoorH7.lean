/- A header's fields are taken, one behind the other. -/
import Derived.Test.YtkejidmomnmdbaaDoorH6
import Derived.Great.BuildSlice
namespace Go.Proofs.YtkejidmomnmdbaaDoor
open Go.RowKit

theorem rawS_len (s : List UInt8) (e n : Int) : (rawS s e n).2.1.length ≤ s.length := by
  unfold rawS; split
  · exact failS_len _ _ _
  · simp
theorem textS_len (s : List UInt8) (e n : Int) : (textS s e n).2.1.length ≤ s.length := by
  unfold textS; exact Nat.le_trans (rawS_len _ _ _) (numS_len _ _ _)
theorem numS_lo (s : List UInt8) (e m : Int) : 0 ≤ (numS s e m).1 := by
  unfold numS; split
  · exact Int.le_refl 0
  · split
    · exact Int.le_refl 0
    · simp
theorem numS_hi (s : List UInt8) (e m : Int) (h : 0 ≤ m) : (numS s e m).1 ≤ m := by
  unfold numS; split
  · exact h
  · split
    · exact h
    · simp only; omega
/-- Names that are taken. -/
def parS : Nat → List UInt8 → Int → List Nm × List UInt8 × Int
  | 0, s, e => ([], s, e)
  | k + 1, s, e => ((parS k s e).1 ++ [⟨idL (rawS (parS k s e).2.1 (parS k s e).2.2 32).1, idL_len _⟩], (rawS (parS k s e).2.1 (parS k s e).2.2 32).2)
theorem parS_len (k : Nat) (s : List UInt8) (e : Int) : (parS k s e).1.length = k := by
  induction k with
  | zero => rfl
  | succ k ih => simp [parS, ih]
theorem parS_short (k : Nat) (s : List UInt8) (e : Int) : (parS k s e).2.1.length ≤ s.length := by
  induction k with
  | zero => exact Nat.le_refl _
  | succ k ih => exact Nat.le_trans (rawS_len _ _ _) ih
/-- A header that is taken, and what is left. -/
def takeS (s : List UInt8) : Hd Nm × List UInt8 × Int :=
  let a := numS s 0 4611686018427387904
  let b := numS a.2.1 a.2.2 4611686018427387904
  let c := textS b.2.1 b.2.2 8
  let d := numS c.2.1 c.2.2 4611686018427387904
  let e := numS d.2.1 d.2.2 4611686018427387904
  let f := numS e.2.1 e.2.2 5
  let p := parS f.1.toNat f.2.1 f.2.2
  let g := numS p.2.1 p.2.2 4611686018427387904
  (⟨a.1, b.1, c.1, d.1, e.1.toNat, p.1, g.1⟩, g.2)

/-- While fields are taken: In at b, the header at g. -/
structure TkSt (W : World) (b g : Nat) (C : Array Value) (s : List UInt8) (e : Int) (w : World) : Prop where
  box : w.heap[g]? = some (.cells C 43 (0, 0))
  inp : InAt 175 w b s e
  m : Mod (· = b) W w
  lo : b < W.heap.size
  hi : W.heap.size < g
  res : ∃ Z : Array Value, Z.size = 7 ∧ w.heap[W.heap.size]? = some (.cells Z 43 (0, 0))
theorem TkSt.call {W w w' : World} {b g : Nat} {C : Array Value} {s : List UInt8} {e : Int} {v : Value} {p : List UInt8 × Int} {r : Ending} (h : TkSt W b g C s e w) (hp : InPost 175 b v p w r w') : r = .returned v ∧ TkSt W b g C p.1 p.2 w' := by
  obtain ⟨hr, hi, hm⟩ := hp
  have h1 := h.lo
  have h2 := h.hi
  obtain ⟨Z, hz, hZ⟩ := h.res
  exact ⟨hr, (hm.block g (Array.getElem?_eq_some_iff.1 h.box).1 (by omega)).trans h.box, hi, h.m.trans hm (fun _ _ h => h), h.lo, h.hi, Z, hz, (hm.block _ (Array.getElem?_eq_some_iff.1 hZ).1 (by omega)).trans hZ⟩
theorem TkSt.put {W w : World} {b g : Nat} {C : Array Value} {s : List UInt8} {e : Int} (h : TkSt W b g C s e w) (k : Nat) (v : Value) : TkSt W b g (C.setIfInBounds k v) s e (w.setCell ⟨g, k, none⟩ v) := by
  have h1 := h.lo
  have h2 := h.hi
  obtain ⟨Z, hz, hZ⟩ := h.res
  refine ⟨heap_setCell_same w g k C 43 v h.box, ?_, ?_, h.lo, h.hi, Z, hz, ?_⟩
  · unfold InAt; rw [Below.heap_setCell _ _ _ _ (by simp only; omega)]; exact h.inp
  · exact h.m.setCell (fun hlt => by simp only at hlt; omega) v
  · rw [Below.heap_setCell _ _ _ _ (by simp only; omega)]; exact hZ
theorem TkSt.cell {W w : World} {b g : Nat} {C : Array Value} {s : List UInt8} {e : Int} (h : TkSt W b g C s e w) (k : Nat) : w.cell? ⟨g, k, none⟩ = C[k]? := cell_of_row w g k C 43 (0, 0) h.box
theorem TkSt.froz {W w : World} {b g : Nat} {C : Array Value} {s : List UInt8} {e : Int} (h : TkSt W b g C s e w) (k : Nat) : w.frozen? ⟨g, k, none⟩ = false := frozen_of_row w g k C 43 h.box
theorem TkSt.grow {W w w' : World} {b g : Nat} {C : Array Value} {s : List UInt8} {e : Int} (h : TkSt W b g C s e w) (hb : Below w.heap.size w w') : TkSt W b g C s e w' := by
  obtain ⟨Z, hz, hZ⟩ := h.res
  exact ⟨(hb.block g (Array.getElem?_eq_some_iff.1 h.box).1).trans h.box, (hb.block b h.inp.lt).trans h.inp, h.m.trans (Mod.of_below hb) (fun i hi hs => absurd hs (by have := h.m.size; omega)), h.lo, h.hi, Z, hz, (hb.block _ (Array.getElem?_eq_some_iff.1 hZ).1).trans hZ⟩
theorem TkSt.drew {W w : World} {b g : Nat} {C : Array Value} {s : List UInt8} {e : Int} (h : TkSt W b g C s e w) : TkSt W b g C s e w.drew := h.grow ((Below.refl _ _).drew)

theorem info_id : (Tryd.prog.info? 25).map (fun i => (i.zero, i.size, i.bytes)) = some (some (.agg (vals zid).toArray), 32, 32) := by kernel_rfl
/-- A name alone, laid. -/
theorem build_name {o : Oper} {a : Act} {w : World} (x : Operand) (ho : o.op = .buildSlice 41 1 #[(0, x)]) (s : List UInt8) (hs : s.length = 32) (hx : a.eval x = .agg (vals s).toArray) :
    (execOp a.eval o).run Tryd.prog w = .ok (.value (.slice (some ⟨w.heap.size, 0, none⟩) 1 1)) (w.alloc (.cells (vals s).toArray 25)) := by
  obtain ⟨i, hi, hz, h1, _⟩ : ∃ i, Tryd.prog.info? 25 = some i ∧ i.zero = some (.agg (vals zid).toArray) ∧ i.size = 32 ∧ i.bytes = 32 := by
    have h := info_id
    cases hq : Tryd.prog.info? 25 with
    | none => rw [hq] at h; cases h
    | some i => rw [hq] at h; simp only [Option.map_some, Option.some.injEq, Prod.mk.injEq] at h; exact ⟨i, rfl, h.1, h.2.1, h.2.2⟩
  have hf := Great.fill_whole (s := 32) (by decide) [.agg (vals s).toArray] ((Array.range (1 * 32)).map ((Value.agg (vals zid).toArray).cells[· % (Value.agg (vals zid).toArray).cells.size]!)) (by
    intro v hv; rw [List.mem_singleton.1 hv]; exact id_size hs) (by simp)
  have hb := run_buildSlice (P := Tryd.prog) w 41 25 1 #[(0, .agg (vals s).toArray)] (vals s).toArray i _ Tryd.underlying41 hi hz (by rw [h1]; decide) (by rw [h1]; decide) (by
    rw [h1]
    refine hf.trans ?_
    simp [Value.cells])
  unfold execOp
  simp only [ho, List.map_toArray, List.map_cons, List.map_nil, hx, Sem.run_bind, hb, Result.andThen_ok, Sem.run_pure]
/-- One element more. -/
theorem wp_pushR1 {α : Type} {P : Program} {o : Oper} {a : Act} {K : Act → World → Prop} {Q : Exit → Act → World → Prop} {w : World} (E : Enc α) (s x : Operand) (Ts T : TypeId) (z : Value) (by_ : Nat)
    (ho : o.op = .call { callee := .builtin .append, args := #[s, x], argTypes := #[Ts, Ts] }) (hT : P.underlying Ts = some (.slice T)) (hi : (P.info? T).map (fun i => (i.zero, i.size, i.bytes)) = some (some z, E.k, by_)) (hzs : z.cells.size = E.k) (hby : by_ ≤ 1024)
    (p : Option Addr) (cap n : Nat) (L : List α) (hn : L.length = n) (hs : a.eval s = .slice p n cap) (hS : Rw E T w p cap L) (ao : Option Addr) (cx : Nat) (y : α) (hx : a.eval x = .slice ao 1 cx) (hY : Rd E w ao [y]) (hl : n ≤ 1000000000)
    (h : ∀ q c w', PushR E T w p (L ++ [y]) q c w' → K (a.put o.dst (.slice q (n + 1) c)) w') : o.wp P a w K Q := by
  cases hq : P.info? T with
  | none => rw [hq] at hi; cases hi
  | some i =>
    rw [hq] at hi
    simp only [Option.map_some, Option.some.injEq, Prod.mk.injEq] at hi
    obtain ⟨hz, h1, h2⟩ := hi
    subst hn
    have hmul : (L.length + 1) * by_ ≤ 140737488355328 := Nat.le_trans (Nat.mul_le_mul (show L.length + 1 ≤ 1000000001 by omega) hby) (by decide)
    obtain ⟨bs, off, rfl, hbs, hc⟩ := hY 0 (by simp)
    refine wp_append_lies w s x Ts ho 0 T i z E.k by_ hT hq hz h1 h2 hzs E.pos _ L.length (E.all L) hs hS ⟨bs, off, none⟩ 1 cx (E.f y) hx (by rw [E.len]; omega) ?_ (E.one _) (by decide) (by unfold maxLen; omega) hmul (Nat.zero_le _) _ rfl ?_
    · intro j u hj
      have := hc j u hj
      have hadd : (⟨bs, off, none⟩ : Addr).add j = ⟨bs, off + j, none⟩ := by unfold Addr.add; split <;> simp_all
      rw [hadd]
      simpa using this
    · intro g c w' hown hgrow hat _
      refine h (some ⟨g, 0, none⟩) c w' ⟨?_, ?_, ?_⟩
      · have e : E.all (L ++ [y]) = E.all L ++ E.f y := by rw [E.all_app]; simp [Enc.all]
        unfold Rw; rw [List.length_append, e]; exact hown
      · refine (Mod.refl _ w).grown hgrow ?_
        intro j hj _
        cases p with
        | none => simp [Value.ownBlock] at hj
        | some a => simp [Value.ownBlock] at hj; exact ⟨a, rfl, hj.symm⟩
      · rintro a' e; cases e
        rcases hat with hat | hat
        · left
          rcases hS.shape with ⟨rfl, _⟩ | ⟨g', rfl, _⟩
          · simp [Value.ownBlock] at hat
          · simp [Value.ownBlock] at hat; subst hat; rfl
        · right; rw [hat]; exact Nat.le_refl _
end Go.Proofs.YtkejidmomnmdbaaDoor
