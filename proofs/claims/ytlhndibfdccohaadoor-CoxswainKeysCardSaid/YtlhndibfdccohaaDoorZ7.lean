/- Texts 7: what the laws lean on. -/
import Derived.Test.YtlhndibfdccohaaDoorZ1
import Derived.Test.YtlhndibfdccohaaDoorZ2
import Derived.Deep.Fields
import Derived.Test.YtlhndibfdccohaaDoorZ3
import Derived.Test.YtlhndibfdccohaaDoorZ6
namespace Go.Proofs.YtlhndibfdccohaaDoor
open Go.ChangeShapes Go.WideShapes Go.ChangeAt Go.RowKit Go.Deep

theorem open_texts1 {H : Type} {enc : TypeId × Value → H} {W : World} {v : Value} {fuel : Nat} {x : DataW H × List MemPlace} (hf : DataW.trod enc Tryd.prog W 0 (fun _ => true) true fuel 32 [v] = some x) :
    ∃ ao cap L, v = .slice ao L.length cap ∧ Rd encS W ao L ∧ (∀ s ∈ L, (s.length : Int) ≤ 9223372036854775807) ∧ L.length ≤ 9223372036854775807 ∧ L.length ≤ cap := by
  rcases open_strings Tryd.underlying32 Tryd.underlying9 (by kernel_rfl) hf with ⟨hc, _⟩ | ⟨a', len', cap', ss, hc, _, hl, hm, hss, _, hcell, hsz⟩
  · have hc2 : [v] = [Value.slice none 0 0] := hc
    simp only [List.cons.injEq, and_true] at hc2
    subst hc2
    exact ⟨none, 0, [], rfl, Rd.nil _ _, fun s hs => by simp at hs, Nat.zero_le _, Nat.le_refl _⟩
  · have hc2 : [v] = [Value.slice (some a') len' cap'] := hc
    simp only [List.cons.injEq, and_true] at hc2
    subst hc2
    simp only [if_true] at hss
    have hlen : (ss.take len').length = len' := by rw [List.length_take]; omega
    refine ⟨some a', cap', (ss.take len').map (fun (b : ByteArray) => b.data.toList), by rw [List.length_map, hlen], ?_, ?_, ?_, ?_⟩
    · intro j hj
      have hjl : j < len' := by rw [List.length_map, hlen] at hj; exact hj
      have hc0 := hcell 0 (by omega)
      obtain ⟨bs, off, spot⟩ := a'
      have hspot : spot = none := by simpa [Addr.add] using World.cell?_spot hc0
      subst hspot
      have hcj := hcell j (by omega)
      refine ⟨bs, off, rfl, cell_block (by simpa [Addr.add_lit] using hcj), fun i u hu => ?_⟩
      have hi0 : i = 0 := by
        have := (List.getElem?_eq_some_iff.1 hu).1
        simp [encS] at this; exact this
      subst hi0
      simp only [encS, List.getElem?_cons_zero, Option.some.injEq] at hu
      subst hu
      have e : (ss.getD j ByteArray.empty) = ⟨(((ss.take len').map (fun (b : ByteArray) => b.data.toList))[j]'hj).toArray⟩ := by
        rw [List.getElem_map, List.getElem_take]
        simp [List.getD, List.getElem?_eq_getElem (show j < ss.length by omega)]
      rw [← e]
      simpa [Addr.add_lit, encS] using hcj
    · intro s hs
      obtain ⟨b, hb, rfl⟩ := List.mem_map.1 hs
      have := hsz b (List.mem_of_mem_take hb)
      unfold maxLen at this
      have e : b.data.toList.length = b.size := rfl
      omega
    · unfold maxLen at hm; rw [List.length_map, hlen]; omega
    · rw [List.length_map, hlen]; exact hl
set_option maxRecDepth 20000 in
theorem open_header {H : Type} {enc : TypeId × Value → H} {W : World} {base : Nat} {v : Value} {d : DataW H} {ps : List MemPlace} (hval : Value.okWide Tryd.prog W .any base 34 v) (h : DataW.Trod enc Tryd.prog W 0 (fun _ => true) true 34 v d ps) :
    ∃ (X : Hd (List UInt8)) (ao : Option Addr) (cap : Nat), v = .agg (hcells X ao cap) ∧ Rd encS W ao X.ps ∧ (X.tk.length : Int) ≤ 9223372036854775807 ∧ (∀ s ∈ X.ps, (s.length : Int) ≤ 9223372036854775807) ∧ X.ps.length ≤ 9223372036854775807 ∧ X.pw < 18446744073709551616 ∧
      (-9223372036854775808 ≤ X.ht ∧ X.ht ≤ 9223372036854775807) ∧ (-9223372036854775808 ≤ X.mi ∧ X.mi ≤ 9223372036854775807) ∧ (-9223372036854775808 ≤ X.wi ∧ X.wi ≤ 9223372036854775807) ∧ (-9223372036854775808 ≤ X.sa ∧ X.sa ≤ 9223372036854775807) := by
  obtain ⟨cs, rfl, hsz⟩ := okWide_struct Tryd.underlying34 hval
  obtain ⟨l⟩ := cs
  have h7 : Tryd.prog.cellsOf 34 = 7 := by kernel_rfl
  have ki : Tryd.prog.cellsOf 3 = 1 := by kernel_rfl
  have ks : Tryd.prog.cellsOf 9 = 1 := by kernel_rfl
  have ku : Tryd.prog.cellsOf 31 = 1 := by kernel_rfl
  have kt : Tryd.prog.cellsOf 32 = 1 := by kernel_rfl
  match l, hsz.trans h7 with
  | [c0, c1, c2, c3, c4, c5, c6], _ =>
    obtain ⟨fuel, hf⟩ := h
    obtain ⟨xs, n, _, _, _, hlen, hg⟩ := DataW.trod_struct Tryd.underlying34 hf
    match xs, hlen with
    | [y0, y1, y2, y3, y4, y5, y6], _ =>
      have g0 := hg 0 _ rfl
      have g1 := hg 1 _ rfl
      have g2 := hg 2 _ rfl
      have g3 := hg 3 _ rfl
      have g4 := hg 4 _ rfl
      have g5 := hg 5 _ rfl
      have g6 := hg 6 _ rfl
      simp [Value.cells, ki, ks, ku, kt] at g0 g1 g2 g3 g4 g5 g6
      obtain ⟨n0, e0, _, w0⟩ := DataW.trod_int Tryd.underlying3 g0
      obtain ⟨n1, e1, _, w1⟩ := DataW.trod_int Tryd.underlying3 g1
      obtain ⟨s2, e2, _, w2⟩ := DataW.trod_string Tryd.underlying9 g2
      obtain ⟨n3, e3, _, w3⟩ := DataW.trod_int Tryd.underlying3 g3
      obtain ⟨n4, e4, _, w4⟩ := DataW.trod_int Tryd.underlying31 g4
      obtain ⟨ao, cap, L, rfl, hR, hs, hL, _⟩ := open_texts1 g5
      obtain ⟨n6, e6, _, w6⟩ := DataW.trod_int Tryd.underlying3 g6
      simp only [List.cons.injEq, and_true] at e0 e1 e2 e3 e4 e6
      subst e0 e1 e2 e3 e4 e6
      have b4 := bounds_u64 w4
      refine ⟨⟨n0, n1, s2.data.toList, n3, n4.toNat, L, n6⟩, ao, cap, ?_, hR, ?_, hs, hL, by simp only; omega, bounds_i64 w0, bounds_i64 w1, bounds_i64 w3, bounds_i64 w6⟩
      · unfold hcells
        simp only [Int.toNat_of_nonneg b4.1]
      · unfold maxLen at w2
        have e : s2.data.toList.length = s2.size := rfl
        simp only; omega
end Go.Proofs.YtlhndibfdccohaaDoor

namespace Go.Proofs.YtlhndibfdccohaaDoor
open Go

def waitsI (md : Region.Mode) (o : Oper) : List Nat := (o.after.toList.filter (Region.binds md)).map (·.on)
def AllU {Γ : Type} (U : Nat → Γ → World → Prop) (γ : Γ) (w : World) (l : List Nat) : Prop := ∀ j, l.contains j = true → U j γ w

/-- As drawOk, of the edges that bind. -/
def drawOk2 (md : Region.Mode) (ops : Array Oper) (N : Nat) : Bool :=
  (List.range ops.size).all fun i => match ops[i]? with
    | none => true
    | some o => o.after.all (fun e => !Region.binds md e || decide (e.on < i)) && (match o.dst with
      | none => true
      | some d => decide (d < N) && (List.range ops.size).all fun j => j == i || (match ops[j]? with | some p => p.dst != some d | none => true))
structure DrawOk2 (md : Region.Mode) (ops : Array Oper) (N : Nat) : Prop where
  before : ∀ (i : Nat) (o : Oper), ops[i]? = some o → ∀ e ∈ o.after, Region.binds md e = true → e.on < i
  room : ∀ (i : Nat) (o : Oper) (d : Tmp), ops[i]? = some o → o.dst = some d → d < N
  apart : ∀ (i j : Nat) (o p : Oper) (d : Tmp), ops[i]? = some o → ops[j]? = some p → j ≠ i → o.dst = some d → p.dst ≠ some d
theorem drawOk2_spec {md : Region.Mode} {ops : Array Oper} {N : Nat} (h : drawOk2 md ops N = true) : DrawOk2 md ops N := by
  have key : ∀ (i : Nat) (o : Oper), ops[i]? = some o → o.after.all (fun e => !Region.binds md e || decide (e.on < i)) = true ∧ (match o.dst with
      | none => true
      | some d => decide (d < N) && (List.range ops.size).all fun j => j == i || (match ops[j]? with | some p => p.dst != some d | none => true)) = true := by
    intro i o ho
    have hlt : i < ops.size := (Array.getElem?_eq_some_iff.1 ho).1
    have := List.all_eq_true.1 h i (List.mem_range.2 hlt)
    simp only [ho, Bool.and_eq_true] at this
    exact this
  refine ⟨fun i o ho e he hb => ?_, fun i o d ho hd => ?_, fun i j o p d ho hp hj hd hpd => ?_⟩
  · have := Array.all_eq_true_iff_forall_mem.1 (key i o ho).1 e he
    rw [hb] at this
    simpa using this
  · have := (key i o ho).2
    rw [hd] at this
    simp only [Bool.and_eq_true] at this
    exact of_decide_eq_true this.1
  · have := (key i o ho).2
    rw [hd] at this
    simp only [Bool.and_eq_true] at this
    have h2 := List.all_eq_true.1 this.2 j (List.mem_range.2 (Array.getElem?_eq_some_iff.1 hp).1)
    simp only [hp, Bool.or_eq_true, beq_iff_eq, hj, false_or, bne_iff_ne, ne_eq] at h2
    exact h2 hpd
theorem ready_some2 {ops : Array Oper} {md : Region.Mode} {N : Nat} (hok : DrawOk2 md ops N) {L : Array Bool} (hL : L.size = ops.size) : ∀ i, i < ops.size → L.getD i true = false → ∃ j, j ∈ Region.ready md ops L := by
  intro i
  induction i using Nat.strongRecOn with
  | ind i ih =>
    intro hi hun
    have ho : ops[i]? = some ops[i] := Array.getElem?_eq_getElem hi
    by_cases h : ∀ e ∈ ops[i].after, Region.binds md e = true → L.getD e.on false = true
    · exact ⟨i, mem_ready.2 ⟨hun, _, ho, h⟩⟩
    · have ⟨e, he⟩ := Classical.not_forall.1 h
      have ⟨he1, he2⟩ := Classical.not_imp.1 he
      have ⟨hb, hf⟩ := Classical.not_imp.1 he2
      have hlt := hok.before i _ ho e he1 hb
      have hel : e.on < L.size := by omega
      refine ih e.on hlt (by omega) ?_
      simp [hel] at hf ⊢
      exact hf
theorem agree_puts2 {ops : Array Oper} {a0 a : Act} (ha : Agree ops a0 a) (room : ∀ (i : Nat) (o : Oper) (d : Tmp), ops[i]? = some o → o.dst = some d → d < a0.tmps.size) : a = puts (fun t => a.eval (.tmp t)) (dsts ops) a0 := by
  have hm : ∀ t ∈ dsts ops, ∃ (i : Nat) (o : Oper), ops[i]? = some o ∧ o.dst = some t := by
    intro t ht
    obtain ⟨o, ho, hd⟩ := List.mem_filterMap.1 ht
    obtain ⟨i, hi, e⟩ := List.getElem_of_mem ho
    refine ⟨i, o, ?_, hd⟩
    rw [← e]
    simp at hi
    simp [hi]
  have hp := puts_spec (fun t => a.eval (.tmp t)) (dsts ops) a0 (fun t ht => by obtain ⟨i, o, hi, hd⟩ := hm t ht; exact room i o t hi hd)
  refine act_ext (ha.size.trans hp.1.symm) (ha.defers.trans hp.2.1.symm) (fun t => ?_)
  rw [hp.2.2 t]
  by_cases h : t ∈ dsts ops
  · rw [if_pos h]
  · rw [if_neg h]
    refine ha.same t (fun i o hi hd => h ?_)
    exact List.mem_filterMap.2 ⟨o, by simpa using Array.mem_of_getElem? hi, hd⟩

section
variable {P : Program} {ops : Array Oper} {Q : Exit → Act → World → Prop} {md : Region.Mode} {Γ : Type} {V : Tmp → Value → Γ → World → Prop} {U : Nat → Γ → World → Prop} {G : Γ → World → Prop} {a0 : Act}

/-- What one operation owes. -/
def Owes2 (P : Program) (md : Region.Mode) (ops : Array Oper) (Q : Exit → Act → World → Prop) (V : Tmp → Value → Γ → World → Prop) (U : Nat → Γ → World → Prop) (G : Γ → World → Prop) (a0 : Act) (i : Nat) (o : Oper) : Prop :=
  ∀ γ a w, Agree ops a0 a → G γ w → AllV (fun t v w => V t v γ w) a w (waits md ops o) → AllU U γ w (waitsI md o) →
    wpOp P ops Q i (fun a' w' => ∃ v γ', a' = a.put o.dst v ∧ (∀ t, o.dst = some t → V t v γ' w') ∧ U i γ' w' ∧ G γ' w' ∧
      ∀ j p, ops[j]? = some p → j ≠ i → (∀ e ∈ p.after, Region.binds md e = true → e.on ≠ i) → (∀ t x, p.dst = some t → V t x γ w → V t x γ' w') ∧ (U j γ w → U j γ' w')) a w

theorem wpAny_vals2 (hok : DrawOk2 md ops a0.tmps.size) (step : ∀ (i : Nat) (o : Oper), ops[i]? = some o → Owes2 P md ops Q V U G a0 i o)
    (fin : ∀ γ a w, Agree ops a0 a → G γ w → (∀ (i : Nat) (o : Oper) (t : Tmp), ops[i]? = some o → o.dst = some t → V t (a.eval (.tmp t)) γ w) → (∀ (i : Nat) (o : Oper), ops[i]? = some o → U i γ w) → Q .normal a w) :
    ∀ (fuel : Nat) (γ : Γ) (L : Array Bool) (a : Act) (w : World), unl L ops.size ≤ fuel → L.size = ops.size → Agree ops a0 a → G γ w →
      (∀ (j : Nat) (p : Oper), ops[j]? = some p → L.getD j true = true → ∀ e ∈ p.after, Region.binds md e = true → L.getD e.on true = true) →
      (∀ (i : Nat) (o : Oper) (t : Tmp), ops[i]? = some o → L.getD i true = true → o.dst = some t → V t (a.eval (.tmp t)) γ w) →
      (∀ (i : Nat) (o : Oper), ops[i]? = some o → L.getD i true = true → U i γ w) → wpAny P md ops Q fuel L a w := by
  have allL : ∀ L : Array Bool, L.size = ops.size → Region.ready md ops L = [] → ∀ (i : Nat) (o : Oper), ops[i]? = some o → L.getD i true = true := by
    intro L hL hr i o ho
    cases hc : L.getD i true with
    | true => rfl
    | false =>
      obtain ⟨j, hj⟩ := ready_some2 hok hL i (Array.getElem?_eq_some_iff.1 ho).1 hc
      rw [hr] at hj; cases hj
  intro fuel
  induction fuel with
  | zero =>
    intro γ L a w hu hL ha hG _ hv hU
    have hr : Region.ready md ops L = [] := by
      apply List.eq_nil_iff_forall_not_mem.2
      intro j hj
      obtain ⟨hun, o, ho, _⟩ := mem_ready.1 hj
      have := unl_pos L ops.size j (Array.getElem?_eq_some_iff.1 ho).1 hun
      omega
    exact ⟨hr, fin γ a w ha hG (fun i o t ho ht => hv i o t ho (allL L hL hr i o ho) ht) (fun i o ho => hU i o ho (allL L hL hr i o ho))⟩
  | succ fuel ih =>
    intro γ L a w hu hL ha hG hcl hv hU
    refine ⟨fun hr => fin γ a w ha hG (fun i o t ho ht => hv i o t ho (allL L hL hr i o ho) ht) (fun i o ho => hU i o ho (allL L hL hr i o ho)), fun i hi => ?_⟩
    obtain ⟨hun, o, ho, hall⟩ := mem_ready.1 hi
    have hil : i < ops.size := (Array.getElem?_eq_some_iff.1 ho).1
    have up : ∀ k, k < ops.size → L.getD k false = true → L.getD k true = true := by
      intro k hk h
      have hkl : k < L.size := by omega
      simp [hkl] at h ⊢; exact h
    have hw : AllV (fun t v w => V t v γ w) a w (waits md ops o) := AllV.of (by
      intro t ht
      unfold waits at ht
      obtain ⟨e, he, hd⟩ := List.mem_filterMap.1 ht
      obtain ⟨he1, he2⟩ := List.mem_filter.1 he
      cases hj : ops[e.on]? with
      | none => rw [hj] at hd; cases hd
      | some p =>
        rw [hj] at hd
        exact hv e.on p t hj (up _ (Array.getElem?_eq_some_iff.1 hj).1 (hall e (by simpa using he1) he2)) hd)
    have hwU : AllU U γ w (waitsI md o) := by
      intro j hj
      have hj2 : j ∈ waitsI md o := by simpa using hj
      obtain ⟨e, he, rfl⟩ := List.mem_map.1 hj2
      obtain ⟨he1, he2⟩ := List.mem_filter.1 he
      have hlt := hok.before i o ho e (by simpa using he1) he2
      have hes : e.on < ops.size := by omega
      exact hU e.on _ (Array.getElem?_eq_getElem hes) (up _ hes (hall e (by simpa using he1) he2))
    refine wpOp_mono (fun a' w' h => ?_) (step i o ho γ a w ha hG hw hwU)
    obtain ⟨v, γ', rfl, hvi, hUi, hG', hst⟩ := h
    have notOn : ∀ (j : Nat) (p : Oper), ops[j]? = some p → L.getD j true = true → ∀ e ∈ p.after, Region.binds md e = true → e.on ≠ i := by
      intro j p hp hl e he hb heq
      have := hcl j p hp hl e he hb
      rw [heq, hun] at this; cases this
    refine ih γ' _ _ _ ?_ (by simpa using hL) ?_ hG' ?_ ?_ ?_
    · have := unl_set L i hun ops.size
      rw [if_pos hil] at this; omega
    · refine ⟨by rw [size_put]; exact ha.size, by rw [defers_put]; exact ha.defers, fun t ht => ?_⟩
      rw [Act.eval_put (fun d hd e => ht i o ho (by cases e; exact hd))]
      exact ha.same t ht
    · intro j p hp hl e he hb
      by_cases e1 : e.on = i
      · rw [e1]; exact set_self L i
      · rw [getD_set_ne true (Ne.symm e1)]
        by_cases e2 : j = i
        · subst e2
          rw [ho] at hp; cases hp
          have hlt := hok.before j o ho e he hb
          exact up _ (by omega) (hall e he hb)
        · rw [getD_set_ne true (Ne.symm e2)] at hl
          exact hcl j p hp hl e he hb
    · intro j p t hp hl ht
      by_cases e : j = i
      · subst e
        rw [ho] at hp; cases hp
        rw [ht, eval_put_same (by rw [ha.size]; exact hok.room j o t ho ht)]
        exact hvi t ht
      · rw [Act.eval_put (fun d hd e2 => by cases e2; exact hok.apart i j o p t ho hp e hd ht)]
        rw [getD_set_ne true (Ne.symm e)] at hl
        exact (hst j p hp e (notOn j p hp hl)).1 t _ ht (hv j p t hp hl ht)
    · intro j p hp hl
      by_cases e : j = i
      · subst e; exact hUi
      · rw [getD_set_ne true (Ne.symm e)] at hl
        exact (hst j p hp e (notOn j p hp hl)).2 (hU j p hp hl)

def OweAll2 (P : Program) (md : Region.Mode) (ops : Array Oper) (Q : Exit → Act → World → Prop) (V : Tmp → Value → Γ → World → Prop) (U : Nat → Γ → World → Prop) (G : Γ → World → Prop) (a0 : Act) : Nat → List Oper → Prop
  | _, [] => True
  | k, o :: r => Owes2 P md ops Q V U G a0 k o ∧ OweAll2 P md ops Q V U G a0 (k + 1) r
theorem OweAll2.get : ∀ {l : List Oper} {k : Nat}, OweAll2 P md ops Q V U G a0 k l → ∀ (i : Nat) (o : Oper), l[i]? = some o → Owes2 P md ops Q V U G a0 (k + i) o
  | _ :: _, k, h, 0, o, hi => by cases hi; exact h.1
  | _ :: r, k, h, i + 1, o, hi => by
    have := OweAll2.get h.2 i o (by simpa using hi)
    rwa [show k + 1 + i = k + (i + 1) by omega] at this
  | [], _, _, i, o, hi => by simp at hi
theorem OweAll2.cons {k : Nat} {o : Oper} {r : List Oper} (h : Owes2 P md ops Q V U G a0 k o) (h2 : OweAll2 P md ops Q V U G a0 (k + 1) r) : OweAll2 P md ops Q V U G a0 k (o :: r) := ⟨h, h2⟩
theorem OweAll2.nil {k : Nat} : OweAll2 P md ops Q V U G a0 k [] := trivial

/-- A region that draws its order, with a ghost. -/
theorem wp_region_vals2 {id : Nat} {w : World} (γ0 : Γ) (V : Tmp → Value → Γ → World → Prop) (U : Nat → Γ → World → Prop) (G : Γ → World → Prop) (N : Nat) (hm : P.follows .mixedOrders = true) (hok : drawOk2 .any ops N = true) (hN : a0.tmps.size = N) (hG : G γ0 w.drew)
    (step : OweAll2 P .any ops Q V U G a0 0 ops.toList)
    (fin : ∀ γ a w, Agree ops a0 a → G γ w → (∀ (i : Nat) (o : Oper) (t : Tmp), ops[i]? = some o → o.dst = some t → V t (a.eval (.tmp t)) γ w) → (∀ (i : Nat) (o : Oper), ops[i]? = some o → U i γ w) → Q .normal a w) : (Code.region id ops true).wp P Q a0 w := by
  subst hN
  have hok := drawOk2_spec hok
  have hrep : ∀ (i : Nat) (o : Oper), ops[i]? = some o → (Array.replicate ops.size false).getD i true = true → False := by
    intro i o ho hl
    have hlt := (Array.getElem?_eq_some_iff.1 ho).1
    simp [hlt] at hl
  refine wp_region_any hm (wpAny_vals2 hok (V := V) (U := U) (G := G) (fun i o ho => ?_) fin ops.size γ0 _ a0 _ (unl_le _ _) (by simp) ⟨rfl, rfl, fun _ _ => rfl⟩ hG ?_ ?_ ?_)
  · have := step.get i o (by simpa using ho)
    rwa [Nat.zero_add] at this
  · intro j p hp hl; exact (hrep j p hp hl).elim
  · intro j p t hp hl; exact (hrep j p hp hl).elim
  · intro j p hp hl; exact (hrep j p hp hl).elim
/-- .. what follows it at a known frame. -/
theorem wp_region_puts2 {id : Nat} {w : World} (γ0 : Γ) (V : Tmp → Value → Γ → World → Prop) (U : Nat → Γ → World → Prop) (G : Γ → World → Prop) (N : Nat) (hm : P.follows .mixedOrders = true) (hok : drawOk2 .any ops N = true) (hN : a0.tmps.size = N) (hG : G γ0 w.drew)
    (step : OweAll2 P .any ops Q V U G a0 0 ops.toList)
    (fin : ∀ f γ w, G γ w → (∀ (i : Nat) (o : Oper) (t : Tmp), ops[i]? = some o → o.dst = some t → V t (f t) γ w) → (∀ (i : Nat) (o : Oper), ops[i]? = some o → U i γ w) → Q .normal (puts f (dsts ops) a0) w) : (Code.region id ops true).wp P Q a0 w :=
  wp_region_vals2 γ0 V U G N hm hok hN hG step (fun γ a w ha hG hv hU => by
    subst hN
    rw [agree_puts2 ha (drawOk2_spec hok).room]
    exact fin _ γ w hG hv hU)
end
end Go.Proofs.YtlhndibfdccohaaDoor

namespace Go.Proofs.YtlhndibfdccohaaDoor
open Go

section
variable {P : Program} {ops : Array Oper} {Q : Exit → Act → World → Prop} {md : Region.Mode} {V : Tmp → Value → Prop} {G : Nat → Value → World → Prop} {C : List Nat} {a0 : Act}
theorem wpAny_chain2 (hok : DrawOk2 md ops a0.tmps.size) (hch : chainOk md ops C = true) (hnd : C.Nodup) (hCl : ∀ i ∈ C, i < ops.size) (step : ∀ (i : Nat) (o : Oper), ops[i]? = some o → OwesC P md ops Q V G C a0 i o)
    (fin : ∀ a w x, Agree ops a0 a → G C.length x w → Holds' ops C a C.length x → (∀ (i : Nat) (o : Oper) (t : Tmp), ops[i]? = some o → o.dst = some t → V t (a.eval (.tmp t))) → Q .normal a w) :
    ∀ (fuel : Nat) (L : Array Bool) (a : Act) (w : World) (k : Nat) (x : Value), unl L ops.size ≤ fuel → L.size = ops.size → ChainAt md ops V G C a0 L a w k x → wpAny P md ops Q fuel L a w := by
  have allL : ∀ L : Array Bool, L.size = ops.size → Region.ready md ops L = [] → ∀ (i : Nat) (o : Oper), ops[i]? = some o → L.getD i true = true := by
    intro L hL hr i o ho
    cases hc : L.getD i true with
    | true => rfl
    | false =>
      obtain ⟨j, hj⟩ := ready_some2 hok hL i (Array.getElem?_eq_some_iff.1 ho).1 hc
      rw [hr] at hj; cases hj
  have done : ∀ (L : Array Bool) (a : Act) (w : World) (k : Nat) (x : Value), L.size = ops.size → ChainAt md ops V G C a0 L a w k x → Region.ready md ops L = [] → Q .normal a w := by
    intro L a w k x hL h hr
    have hk : k = C.length := by
      refine Nat.le_antisymm h.le (Nat.le_of_not_lt fun hlt => ?_)
      have hm : C[k]? = some C[k] := List.getElem?_eq_getElem hlt
      have hi := hCl _ (List.getElem_mem hlt)
      exact Nat.lt_irrefl _ ((h.ch k _ hm).1 (allL L hL hr _ _ (Array.getElem?_eq_getElem hi)))
    subst hk
    exact fin a w x h.ag h.g h.ho (fun i o t ho ht => h.v i o t ho (allL L hL hr i o ho) ht)
  intro fuel
  induction fuel with
  | zero =>
    intro L a w k x hu hL h
    have hr : Region.ready md ops L = [] := by
      apply List.eq_nil_iff_forall_not_mem.2
      intro j hj
      obtain ⟨hun, o, ho, _⟩ := mem_ready.1 hj
      have := unl_pos L ops.size j (Array.getElem?_eq_some_iff.1 ho).1 hun
      omega
    exact ⟨hr, done L a w k x hL h hr⟩
  | succ fuel ih =>
    intro L a w k x hu hL h
    refine ⟨fun hr => done L a w k x hL h hr, fun i hi => ?_⟩
    obtain ⟨hun, o, ho, hall⟩ := mem_ready.1 hi
    have hil : i < ops.size := (Array.getElem?_eq_some_iff.1 ho).1
    have hw : AllV (fun t v _ => V t v) a w (waits md ops o) := AllV.of (by
      intro t ht
      unfold waits at ht
      obtain ⟨e, he, hd⟩ := List.mem_filterMap.1 ht
      obtain ⟨he1, he2⟩ := List.mem_filter.1 he
      cases hj : ops[e.on]? with
      | none => rw [hj] at hd; cases hd
      | some p =>
        rw [hj] at hd
        have hl := hall e (by simpa using he1) he2
        exact h.v e.on p t hj (by rw [getD_tf hL (Array.getElem?_eq_some_iff.1 hj).1]; exact hl) hd)
    -- what follows, with k' of the chain done
    have next : ∀ (k' : Nat) (y : Value → Value), k' ≤ C.length → (∀ v, Holds' ops C (a.put o.dst v) k' (y v)) → (∀ (m j : Nat), C[m]? = some j → ((L.setIfInBounds i true).getD j true = true ↔ m < k')) →
        wpOp P ops Q i (fun a' w' => ∃ v, a' = a.put o.dst v ∧ (∀ t, o.dst = some t → V t v) ∧ G k' (y v) w') a w → wpOp P ops Q i (fun a' w' => wpAny P md ops Q fuel (L.setIfInBounds i true) a' w') a w := by
      intro k' y hk' hho hch' hop
      refine wpOp_mono (fun a' w' hh => ?_) hop
      obtain ⟨v, rfl, hvi, hG'⟩ := hh
      refine ih _ _ _ k' (y v) ?_ (by simpa using hL) ⟨hG', hho v, hk', hch', ?_, ?_, ?_, ?_⟩
      · have := unl_set L i hun ops.size
        rw [if_pos hil] at this; omega
      · intro j p hp hl e he hb
        by_cases hji : j = i
        · subst hji
          rw [ho] at hp; cases hp
          have := hall e he hb
          by_cases hei : e.on = j
          · rw [hei, getD_set_at (by omega)]
          · rw [getD_set_ne' hei]; exact this
        · rw [getD_set_ne' hji] at hl
          have := h.cl j p hp hl e he hb
          by_cases hei : e.on = i
          · rw [hei, getD_set_at (by omega)]
          · rw [getD_set_ne' hei]; exact this
      · refine ⟨by rw [size_put]; exact h.ag.size, by rw [defers_put]; exact h.ag.defers, fun t ht => ?_⟩
        rw [Act.eval_put (fun d hd e => ht i o ho (by cases e; exact hd))]
        exact h.ag.same t ht
      · intro j p t hp hl ht
        have e : j ≠ i := by
          rintro rfl
          rw [getD_set_at (by omega)] at hl; cases hl
        rw [Act.eval_put (fun d hd e2 => by cases e2; exact hok.apart i j o p t ho hp e hd ht)]
        rw [getD_set_ne' e] at hl
        exact h.kp j p t hp hl ht
      · intro j p t hp hl ht
        by_cases e : j = i
        · subst e
          rw [ho] at hp; cases hp
          rw [ht, eval_put_same (by rw [h.ag.size]; exact hok.room j o t ho ht)]
          exact hvi t ht
        · rw [Act.eval_put (fun d hd e2 => by cases e2; exact hok.apart i j o p t ho hp e hd ht)]
          rw [getD_set_ne' e] at hl
          exact h.v j p t hp hl ht
    rcases step i o ho with ⟨m, hm, hop⟩ | ⟨hni, b, hb, hop⟩
    · have hmk : m = k := by
        have h1 : ¬ m < k := fun hlt => by rw [(h.ch m i hm).2 hlt] at hun; cases hun
        have h2 : m ≤ k := by
          cases m with
          | zero => exact Nat.zero_le _
          | succ m =>
            have hlt : m < C.length := by have := (List.getElem?_eq_some_iff.1 hm).1; omega
            have hj : C[m]? = some C[m] := List.getElem?_eq_getElem hlt
            obtain ⟨e, he, hbd, hon⟩ := chain_edge hch hj hm ho
            have := hall e he hbd
            rw [hon] at this
            exact (h.ch m _ hj).1 (by rw [getD_tf hL (hCl _ (List.getElem_mem hlt))]; exact this)
        omega
      subst hmk
      have hmlt : m < C.length := (List.getElem?_eq_some_iff.1 hm).1
      refine next (m + 1) (fun v => v) hmlt ?_ ?_ (hop a w x h.agc h.g h.ho hw)
      · intro v m2 j p t hm2 hj hp ht
        obtain rfl : m2 = m := by omega
        rw [hm] at hj; cases hj
        rw [ho] at hp; cases hp
        rw [ht, eval_put_same (by rw [h.ag.size]; exact hok.room i o t ho ht)]
      intro m2 j hj
      by_cases hji : j = i
      · subst hji
        have : m2 = m := by
          obtain ⟨l2, e2⟩ := List.getElem?_eq_some_iff.1 hj
          obtain ⟨l1, e1⟩ := List.getElem?_eq_some_iff.1 hm
          exact (List.getElem_inj hnd).1 (e2.trans e1.symm)
        subst this
        rw [getD_set_at (by omega)]
        exact ⟨fun _ => Nat.lt_succ_self _, fun _ => rfl⟩
      · rw [getD_set_ne' hji, h.ch m2 j hj]
        have : m2 ≠ m := by
          rintro rfl
          rw [hm] at hj; cases hj; exact hji rfl
        omega
    · have hkb : k ≤ b := by
        unfold aheadOf at hb
        rw [Bool.or_eq_true, beq_iff_eq] at hb
        rcases hb with rfl | hb
        · exact h.le
        · cases hj : C[b]? with
          | none => rw [hj] at hb; cases hb
          | some j =>
            rw [hj] at hb
            simp only at hb
            refine Nat.le_of_not_lt fun hlt => ?_
            have := reach_done h.cl 16 j i hb ((h.ch b j hj).2 hlt)
            rw [← getD_tf hL hil, hun] at this
            cases this
      refine next k (fun _ => x) h.le ?_ ?_ (hop k hkb a w x h.agc h.g hw)
      · intro v m2 j p t hm2 hj hp ht
        have hji : j ≠ i := by
          rintro rfl
          have := List.mem_of_getElem? hj
          rw [List.contains_eq_mem, decide_eq_false_iff_not] at hni
          exact hni this
        rw [Act.eval_put (fun d hd e2 => by cases e2; exact hok.apart i j o p t ho hp hji hd ht)]
        exact h.ho m2 j p t hm2 hj hp ht
      intro m2 j hj
      have hji : j ≠ i := by
        rintro rfl
        have := List.mem_of_getElem? hj
        rw [List.contains_eq_mem, decide_eq_false_iff_not] at hni
        exact hni this
      rw [getD_set_ne' hji, h.ch m2 j hj]

theorem wp_region_chain2 {id : Nat} {w : World} (V : Tmp → Value → Prop) (G : Nat → Value → World → Prop) (C : List Nat) (N : Nat) (hm : P.follows .mixedOrders = true) (hok : drawOk2 .any ops N = true) (hN : a0.tmps.size = N)
    (hch : chainOk .any ops C = true) (hnd : decide C.Nodup = true) (hCl : C.all (· < ops.size) = true) (hG : G 0 undef w.drew)
    (step : OweAllC P .any ops Q V G C a0 0 ops.toList)
    (fin : ∀ f w x, G C.length x w → (∀ (m i : Nat) (o : Oper) (t : Tmp), C.length = m + 1 → C[m]? = some i → ops[i]? = some o → o.dst = some t → f t = x) → (∀ (i : Nat) (o : Oper) (t : Tmp), ops[i]? = some o → o.dst = some t → V t (f t)) → Q .normal (puts f (dsts ops) a0) w) : (Code.region id ops true).wp P Q a0 w := by
  subst hN
  have hok := drawOk2_spec hok
  have hCl' : ∀ i ∈ C, i < ops.size := fun i hi => by simpa using List.all_eq_true.1 hCl i hi
  have hL0 : ∀ i, i < ops.size → (Array.replicate ops.size false).getD i true = false := fun i hi => by simp [hi]
  refine wp_region_any hm (wpAny_chain2 (V := V) (G := G) (C := C) hok hch (of_decide_eq_true hnd) hCl' (fun i o ho => ?_) (fun a w x ha hg hh hv => ?_) ops.size _ a0 _ 0 undef (unl_le _ _) (by simp) ⟨hG, (fun m i o t h => by omega), Nat.zero_le _, ?_, ?_, ⟨rfl, rfl, fun _ _ => rfl⟩, (fun _ _ _ _ _ _ => rfl), ?_⟩)
  · have := step.get i o (by simpa using ho)
    rwa [Nat.zero_add] at this
  · rw [agree_puts2 ha hok.room]
    exact fin _ w x hg hh hv
  · intro m i hi
    have := hCl' i (List.mem_of_getElem? hi)
    rw [hL0 i this]
    simp
  · intro i o ho hl
    rw [hL0 i (Array.getElem?_eq_some_iff.1 ho).1] at hl; cases hl
  · intro i o t ho hl _
    rw [hL0 i (Array.getElem?_eq_some_iff.1 ho).1] at hl; cases hl
end
end Go.Proofs.YtlhndibfdccohaaDoor

namespace Go.Proofs.YtlhndibfdccohaaDoor
open Go.RowKit Go.Sort Go.ChangeShapes Go.WideShapes Go.ChangeAt Go.Deep

theorem Rd.dropE {α : Type} {E : Enc α} {w : World} {bs off : Nat} {L : List α} (h : Rd E w (some ⟨bs, off, none⟩) L) (n : Nat) : Rd E w (some ⟨bs, off + n * E.k, none⟩) (L.drop n) := by
  intro j hj
  have hj2 : n + j < L.length := by rw [List.length_drop] at hj; omega
  obtain ⟨b, o, e, hb, c⟩ := h (n + j) hj2
  cases e
  refine ⟨bs, off + n * E.k, rfl, hb, fun i u hu => ?_⟩
  rw [List.getElem_drop] at hu
  have := c i u hu
  rw [Nat.add_mul] at this
  rw [show off + n * E.k + j * E.k + i = off + (n * E.k + j * E.k) + i from by omega]
  exact this
theorem wp_pushRn {α : Type} {P : Program} {o : Oper} {a : Act} {K : Act → World → Prop} {Q : Exit → Act → World → Prop} {w : World} (E : Enc α) (s x : Operand) (Ts T : TypeId) (z : Value) (by_ : Nat)
    (ho : o.op = .call { callee := .builtin .append, args := #[s, x], argTypes := #[Ts, Ts] }) (hT : P.underlying Ts = some (.slice T)) (hi : (P.info? T).map (fun i => (i.zero, i.size, i.bytes)) = some (some z, E.k, by_)) (hzs : z.cells.size = E.k) (hby : by_ ≤ 1024)
    (p : Option Addr) (cap n : Nat) (L : List α) (hn : L.length = n) (hs : a.eval s = .slice p n cap) (hS : Rw E T w p cap L) (ao : Option Addr) (m cx : Nat) (Y : List α) (hm : Y.length = m) (hx : a.eval x = .slice ao m cx) (hY : Rd E w ao Y) (hl : n + m ≤ 100000000000)
    (h : ∀ q c w', PushR E T w p (L ++ Y) q c w' → K (a.put o.dst (.slice q (n + m) c)) w') : o.wp P a w K Q := by
  cases hq : P.info? T with
  | none => rw [hq] at hi; cases hi
  | some i =>
    rw [hq] at hi
    simp only [Option.map_some, Option.some.injEq, Prod.mk.injEq] at hi
    obtain ⟨hz, h1, h2⟩ := hi
    subst hn
    subst hm
    have hmul : (L.length + Y.length) * by_ ≤ 140737488355328 := Nat.le_trans (Nat.mul_le_mul hl hby) (by decide)
    by_cases h0 : 0 < Y.length
    · obtain ⟨bs, off, rfl, hbs, _⟩ := hY 0 h0
      refine wp_append_lies w s x Ts ho 0 T i z E.k by_ hT hq hz h1 h2 hzs E.pos _ L.length (E.all L) hs hS ⟨bs, off, none⟩ Y.length cx (E.all Y) hx (E.all_len Y) ?_ (E.all_one _) h0 (by unfold maxLen; omega) hmul (Nat.zero_le _) _ rfl ?_
      · intro j u hj
        have hjl : j < Y.length * E.k := by
          have := (List.getElem?_eq_some_iff.1 hj).1
          rwa [E.all_len] at this
        have hd : j / E.k < Y.length := by rw [Nat.div_lt_iff_lt_mul E.pos]; exact hjl
        have hr : j % E.k < E.k := Nat.mod_lt _ E.pos
        have he : j / E.k * E.k + j % E.k = j := by rw [Nat.mul_comm]; exact Nat.div_add_mod j E.k
        obtain ⟨bs', off', e, _, c1⟩ := hY (j / E.k) hd
        cases e
        have hadd : (⟨bs, off, none⟩ : Addr).add j = ⟨bs, off + j, none⟩ := by unfold Addr.add; split <;> simp_all
        rw [← he, E.all_get Y _ _ hd hr] at hj
        have := c1 _ _ hj
        rw [Nat.add_assoc, he] at this
        rw [hadd, this]
      · intro g c w' hown hgrow hat _
        refine h (some ⟨g, 0, none⟩) c w' ⟨?_, ?_, ?_⟩
        · unfold Rw; rw [List.length_append, E.all_app]; exact hown
        · refine (Mod.refl _ w).grown hgrow ?_
          intro j hj _
          cases p with
          | none => simp [Value.ownBlock] at hj
          | some a => simp [Value.ownBlock] at hj; exact ⟨a, rfl, hj.symm⟩
        · rintro a' e; cases e
          rcases hat with hat | hat
          · left
            rcases hS.shape with ⟨rfl, _⟩ | ⟨g', rfl, _⟩
            · simp [Value.ownBlock] at hat
            · simp [Value.ownBlock] at hat; subst hat; rfl
          · right; rw [hat]; exact Nat.le_refl _
    · obtain rfl : Y = [] := List.eq_nil_of_length_eq_zero (by omega)
      have hfin := h p cap w ⟨by rw [List.append_nil]; exact hS, Mod.refl _ w, fun a e => .inl e⟩
      have hle : L.length ≤ cap := hS.cap_le
      have hno : p = none → L.length = 0 ∧ cap = 0 := by
        intro e
        rcases hS.shape with ⟨_, rfl, hc⟩ | ⟨g', e', _⟩
        · exact ⟨rfl, hc⟩
        · rw [e] at e'; cases e'
      have hrun := run_append_no (P := P) (w := w) Ts o.type T i hT hq p L.length cap hle hno ao cx
      unfold Oper.wp
      simp only [List.length_nil] at hx
      simp [execOp, ho, resolve, invoke, builtin, hs, hx, hrun, Result.andThen]
      simp at hfin
      exact hfin
/-- A literal of no elements. -/
theorem exec_nos {P : Program} {o : Oper} {a : Act} {w : World} (Ts T : TypeId) (ho : o.op = .buildSlice Ts 0 #[]) (hT : P.underlying Ts = some (.slice T)) {sz : Nat} (hz : (sizeOf T).run P w = .ok sz w) : (execOp a.eval o).run P w = .ok (.value (.slice (some ⟨w.heap.size, 0, none⟩) 0 0)) (w.alloc (.cells #[] T)) := by
  unfold execOp
  simp [ho, Instr.buildSlice, run_underlying hT, Instr.fill, newRow, hz]
  congr 2
  exact Array.eq_empty_of_size_eq_zero (by simp)
theorem rdR_at {w : World} {g : Nat} {M : List RH} (h : Rd encR w (some ⟨g, 0, none⟩) M) (i : Nat) (hi : i < M.length) : ∀ k u, (M[i]).cells[k]? = some u → w.cell? ⟨g, i * 7 + k, none⟩ = some u := by
  obtain ⟨bs, off, e, _, hc⟩ := h i hi
  cases e
  intro k u hu
  have := hc k u hu
  rw [show encR.k = 7 from rfl, Nat.zero_add] at this
  exact this
/-- One is set. -/
theorem rwR_set {w : World} {g cap : Nat} {M : List RH} (h : Rw encR 34 w (some ⟨g, 0, none⟩) cap M) (i : Nat) (hi : i < M.length) (x : RH) : ∃ W4, Rw encR 34 W4 (some ⟨g, 0, none⟩) cap (M.set i x) ∧ Mod (fun k => k = g) w W4 ∧
    ∀ (oo : Oper) (a : Act) (p q : Operand), oo.op = .store 34 p q → a.eval p = .pointer (some ⟨g, i * 7, none⟩) → a.eval q = .agg x.cells.toArray → (execOp a.eval oo).run Tryd.prog w = .ok .skip W4 := by
  obtain ⟨cur, hh, hsz, hrw⟩ := h.setAt i hi x
  refine ⟨_, hrw, ((Mod.refl (fun _ => False) w).setRow _).mono (fun i _ h => h.elim (fun h => h.elim) id), fun oo a p q h1 h2 h3 => ?_⟩
  have h := exec_store_at (P := Tryd.prog) (w := w) 34 p q h1 g (i * 7) h2 34 cur x.cells h3 hh (by rw [x.len]; exact hsz) (by rw [x.len]; kernel_rfl) x.one
  rw [x.len] at h
  exact h
/-- Two change places. -/
theorem swap_perm {α : Type} (M : List α) (i j : Nat) (hi : i < M.length) (hj : j < M.length) : ((M.set i M[j]).set j M[i]).Perm M := by
  by_cases e : i = j
  · subst e
    rw [List.set_set, List.set_getElem_self]
  · exact List.set_set_perm hi hj


set_option maxRecDepth 20000 in
theorem open_rheaders1 {H : Type} {enc : TypeId × Value → H} {W : World} {v : Value} {fuel : Nat} {x : DataW H × List MemPlace} (hf : DataW.trod enc Tryd.prog W 0 (fun _ => true) true fuel 22 [v] = some x) :
    ∃ ao cap L, v = .slice ao L.length cap ∧ Rd encR W ao L ∧ (∀ s ∈ L, argR W s) ∧ L.length ≤ 9223372036854775807 := by
  have h7 : Tryd.prog.cellsOf 34 = 7 := by kernel_rfl
  have ki : Tryd.prog.cellsOf 3 = 1 := by kernel_rfl
  have ks : Tryd.prog.cellsOf 9 = 1 := by kernel_rfl
  have ku : Tryd.prog.cellsOf 31 = 1 := by kernel_rfl
  have kt : Tryd.prog.cellsOf 32 = 1 := by kernel_rfl
  rcases open_slice Tryd.underlying22 hf with ⟨hc, _⟩ | ⟨a', len', cap', m, n, D, Pl, hc, _, hl, hm, hmm, _, hall⟩
  · have hc2 : [v] = [Value.slice none 0 0] := hc
    simp only [List.cons.injEq, and_true] at hc2
    subst hc2
    exact ⟨none, 0, [], rfl, Rd.nil _ _, fun s hs => by simp at hs, Nat.zero_le _⟩
  · have hc2 : [v] = [Value.slice (some a') len' cap'] := hc
    simp only [List.cons.injEq, and_true] at hc2
    subst hc2
    simp only [if_true] at hmm
    subst hmm
    have hj : ∀ i, i < len' → ∃ s : RH, argR W s ∧ ∀ t u, s.cells[t]? = some u → W.cell? ((a'.add (i * 7)).add t) = some u := by
      intro i hi
      obtain ⟨cs', h1, h2⟩ := hall i (by omega)
      rw [h7] at h1
      obtain ⟨_, hlen, hcell⟩ := World.cells?_some h1
      obtain ⟨xs, k, _, _, _, hxl, hg⟩ := DataW.trod_struct Tryd.underlying34 h2
      match xs, hxl, cs', hlen with
      | [y0, y1, y2, y3, y4, y5, y6], _, [v0, v1, v2, v3, v4, v5, v6], _ =>
        have g0 := hg 0 _ rfl
        have g1 := hg 1 _ rfl
        have g2 := hg 2 _ rfl
        have g3 := hg 3 _ rfl
        have g4 := hg 4 _ rfl
        have g5 := hg 5 _ rfl
        have g6 := hg 6 _ rfl
        simp [ki, ks, ku, kt] at g0 g1 g2 g3 g4 g5 g6
        obtain ⟨n0, e0, _, w0⟩ := DataW.trod_int Tryd.underlying3 g0
        obtain ⟨n1, e1, _, w1⟩ := DataW.trod_int Tryd.underlying3 g1
        obtain ⟨s2, e2, _, w2⟩ := DataW.trod_string Tryd.underlying9 g2
        obtain ⟨n3, e3, _, w3⟩ := DataW.trod_int Tryd.underlying3 g3
        obtain ⟨n4, e4, _, w4⟩ := DataW.trod_int Tryd.underlying31 g4
        obtain ⟨ao, cap, L, rfl, hR, hs, hL, _⟩ := open_texts1 g5
        obtain ⟨n6, e6, _, w6⟩ := DataW.trod_int Tryd.underlying3 g6
        simp only [List.cons.injEq, and_true] at e0 e1 e2 e3 e4 e6
        subst e0 e1 e2 e3 e4 e6
        have b4 := bounds_u64 w4
        refine ⟨⟨⟨n0, n1, s2.data.toList, n3, n4.toNat, L, n6⟩, ao, cap⟩, ⟨hR, ?_⟩, fun t u hu => ?_⟩
        · unfold maxLen at w2
          have e : s2.data.toList.length = s2.size := rfl
          simp only; omega
        · have ht : t < 7 := by have := (List.getElem?_eq_some_iff.1 hu).1; rwa [RH.len] at this
          have q := hcell t (by omega)
          rw [q, ← hu]
          match t, ht with
          | 0, _ => rfl
          | 1, _ => rfl
          | 2, _ => simp [RH.cells, hcells]
          | 3, _ => rfl
          | 4, _ => simp only [RH.cells, hcells, Int.toNat_of_nonneg b4.1]
          | 5, _ => rfl
          | 6, _ => rfl
    obtain ⟨f, hf2⟩ := choose_lt hj
    refine ⟨some a', m, (List.range len').map f, by simp, ?_, ?_, by simp; unfold maxLen at hm; omega⟩
    · intro j hjl
      have hjn : j < len' := by simpa using hjl
      obtain ⟨bs, off, spot⟩ := a'
      obtain ⟨ho, hcs⟩ := hf2 j hjn
      have c0 := hcs 0 _ rfl
      have hspot : spot = none := by simpa [Addr.add] using World.cell?_spot ((hf2 0 (by omega)).2 0 _ rfl)
      subst hspot
      refine ⟨bs, off, rfl, by have := cell_block c0; simpa [Addr.add_lit] using this, fun i u hu => ?_⟩
      rw [List.getElem_map, List.getElem_range] at hu
      have := hcs i u hu
      simpa [Addr.add_lit, encR] using this
    · intro s hs
      obtain ⟨i, hi, rfl⟩ := List.mem_map.1 hs
      exact (hf2 i (List.mem_range.1 hi)).1
set_option maxRecDepth 20000 in
theorem open_rheaders {H : Type} {enc : TypeId × Value → H} {W : World} {base : Nat} {v : Value} {d : DataW H} {ps : List MemPlace} (_hval : Value.okWide Tryd.prog W .any base 22 v) (h : DataW.Trod enc Tryd.prog W 0 (fun _ => true) true 22 v d ps) :
    ∃ ao cap L, v = .slice ao L.length cap ∧ Rd encR W ao L ∧ (∀ s ∈ L, argR W s) ∧ L.length ≤ 9223372036854775807 := by
  obtain ⟨a, len, cap, rfl⟩ := okWide_slice Tryd.underlying22 _hval
  obtain ⟨fuel, hf⟩ := h
  exact open_rheaders1 (by simpa [Value.cells] using hf)
end Go.Proofs.YtlhndibfdccohaaDoor
