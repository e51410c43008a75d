/- The law NatRules. -/
import Derived.Test.YtepibfpdkjkdjaaDoorN17
import Derived.Test.YtepibfpdkjkdjaaDoorN18
import Derived.Test.YtepibfpdkjkdjaaDoorVal
import Derived.Test.YtepibfpdkjkdjaaDoorDraw2
namespace Go.Proofs.YtepibfpdkjkdjaaDoor
open Go.RowKit

/-- The row is not the new box's block. -/
def Off (q : Option Addr) (γ : Option Nat) : Prop := ∀ g a, γ = some g → q = some a → a.block ≠ g
/-- A number as a value. -/
def NG (n : Nat) (v : Value) (γ : Option Nat) (w : World) : Prop := ∃ q c, v = .agg #[.slice q (lb n).length c] ∧ NatIn w q c n ∧ Off q γ
def SG (n : Nat) (v : Value) (γ : Option Nat) (w : World) : Prop := ∃ q c, v = .tuple #[.agg #[.slice q (lb n).length c], .bool true] ∧ NatIn w q c n ∧ Off q γ
def PG (v : Value) (γ : Option Nat) (w : World) : Prop := ∃ g, γ = some g ∧ v = .pointer (some ⟨g, 0, none⟩) ∧ ∃ z, Boxed w g 25 z
def UG (n : Nat) (γ : Option Nat) (w : World) : Prop := ∃ g q c, γ = some g ∧ Boxed w g 25 (.slice q (lb n).length c) ∧ NatIn w q c n ∧ Off q γ
theorem NG.old {n : Nat} {v : Value} {γ : Option Nat} {w w' : World} (h : NG n v γ w) (hb : Below w.heap.size w w') : NG n v γ w' := by
  obtain ⟨q, c, e, hN, ho⟩ := h; exact ⟨q, c, e, hN.old hb, ho⟩
theorem SG.old {n : Nat} {v : Value} {γ : Option Nat} {w w' : World} (h : SG n v γ w) (hb : Below w.heap.size w w') : SG n v γ w' := by
  obtain ⟨q, c, e, hN, ho⟩ := h; exact ⟨q, c, e, hN.old hb, ho⟩
theorem PG.old {v : Value} {γ : Option Nat} {w w' : World} (h : PG v γ w) (hb : Below w.heap.size w w') : PG v γ w' := by
  obtain ⟨g, e, hv, z, hz⟩ := h; exact ⟨g, e, hv, z, Boxed.below' hz hb hz.lt⟩
theorem UG.old {n : Nat} {γ : Option Nat} {w w' : World} (h : UG n γ w) (hb : Below w.heap.size w w') : UG n γ w' := by
  obtain ⟨g, q, c, e, hx, hN, ho⟩ := h; exact ⟨g, q, c, e, Boxed.below' hx hb hx.lt, hN.old hb, ho⟩
theorem NG.zero (γ : Option Nat) (w : World) : NG 0 (.agg #[.slice none 0 0]) γ w :=
  ⟨none, 0, by rw [lb_zero]; rfl, by show Sl _ _ _ _ _ (lb 0); rw [lb_zero]; exact Sl.empty _ _ _, fun _ _ _ h => by cases h⟩
theorem NV.zero (w : World) : NV 0 (.agg #[.slice none 0 0]) w :=
  ⟨none, 0, by rw [lb_zero]; rfl, by show Sl _ _ _ _ _ (lb 0); rw [lb_zero]; exact Sl.empty _ _ _⟩
/-- What a slot holds. -/
inductive Kr where
  | any
  | eq (v : Value)
  | nat (n : Nat)
  | sub (n : Nat)
  | ptr
def VR : Kr → Value → Option Nat → World → Prop
  | .any, _, _, _ => True
  | .eq x, v, _, _ => v = x
  | .nat n, v, γ, w => NG n v γ w
  | .sub n, v, γ, w => SG n v γ w
  | .ptr, v, γ, w => PG v γ w
theorem VR.old {k : Kr} {v : Value} {γ : Option Nat} {w w' : World} (h : VR k v γ w) (hb : Below w.heap.size w w') : VR k v γ w' := by
  cases k with
  | any => trivial
  | eq x => exact h
  | nat n => exact NG.old h hb
  | sub n => exact SG.old h hb
  | ptr => exact PG.old h hb
structure GG (W : World) (γ : Option Nat) (w : World) : Prop where
  b : Below W.heap.size W w
  g : ∀ g, γ = some g → W.heap.size ≤ g ∧ g < w.heap.size
theorem GG.far {W w : World} {γ : Option Nat} (h : GG W γ w) {q : Option Addr} {c n : Nat} (hn : NatIn W q c n) : Off q γ := by
  rintro g a e rfl
  have := hn.lt; have := (h.g g e).1; omega
theorem GG.fresh {W w : World} {γ : Option Nat} (h : GG W γ w) {q : Option Addr} (hf : ∀ a, q = some a → w.heap.size ≤ a.block) : Off q γ := by
  intro g a e e2
  have := hf a e2; have := (h.g g e).2; omega
theorem GG.old {W w w' : World} {γ : Option Nat} (h : GG W γ w) (hb : Below w.heap.size w w') : GG W γ w' :=
  ⟨h.b.trans (hb.mono h.b.size), fun g e => ⟨(h.g g e).1, Nat.lt_of_lt_of_le (h.g g e).2 hb.size⟩⟩
/-- The facts that no slot holds: what the store at 9 leaves. -/
def UU (x : Nat) (i : Nat) (γ : Option Nat) (w : World) : Prop := if i = 9 then UG x γ w else True
theorem UU.old {x i : Nat} {γ : Option Nat} {w w' : World} (h : UU x i γ w) (hb : Below w.heap.size w w') : UU x i γ w' := by
  unfold UU at h ⊢
  by_cases e : i = 9
  · rw [if_pos e] at h ⊢; exact h.old hb
  · rw [if_neg e]; trivial

section
variable {P : Program} {ops : Array Oper} {Q : Exit → Act → World → Prop} {md : Region.Mode} {K : Tmp → Kr} {x : Nat} {W : World} {a0 : Act}
theorem owes2_val {i : Nat} {o : Oper} {t : Tmp} (hi : ops[i]? = some o) (ht : o.dst = some t) (h9 : i ≠ 9) (h : ∀ γ a w, Agree ops a0 a → GG W γ w → AllV (fun t v w => VR (K t) v γ w) a w (waits md ops o) → AllU (UU x) γ w (waitsI md o) →
    ∃ v, Region.wanted o (yielded ops a.tmps) = true ∧ (execOp a.eval o).run P w = .ok (.value v) w ∧ VR (K t) v γ w) : Owes2 P md ops Q (fun t v γ w => VR (K t) v γ w) (UU x) (GG W) a0 i o := by
  intro γ a w ha hG hV hU
  obtain ⟨v, hw, hr, hv⟩ := h γ a w ha hG hV hU
  unfold wpOp
  rw [hi]
  simp only [hw, if_true, Oper.wp, hr, Oper.upon]
  exact .inl ⟨v, γ, rfl, fun u hu => by rw [ht] at hu; cases hu; exact hv, by unfold UU; rw [if_neg h9]; trivial, hG, fun _ _ _ _ _ => ⟨fun _ _ _ h => h, fun h => h⟩⟩
theorem owes2_call {i : Nat} {o : Oper} {t : Tmp} (hi : ops[i]? = some o) (ht : o.dst = some t) (h9 : i ≠ 9) (f : FuncId) (h : ∀ γ a w, Agree ops a0 a → GG W γ w → AllV (fun t v w => VR (K t) v γ w) a w (waits md ops o) → AllU (UU x) γ w (waitsI md o) →
    ∃ args, Region.wanted o (yielded ops a.tmps) = true ∧ (execOp a.eval o).run P w = .ok (.enter f args) w ∧
      Calls P f args w fun e w' => ∃ v, e = .returned v ∧ VR (K t) v γ w' ∧ Below w.heap.size w w') : Owes2 P md ops Q (fun t v γ w => VR (K t) v γ w) (UU x) (GG W) a0 i o := by
  intro γ a w ha hG hV hU
  obtain ⟨args, hw, hr, hc⟩ := h γ a w ha hG hV hU
  unfold wpOp
  rw [hi]
  simp only [hw, if_true, Oper.wp, hr, Oper.upon]
  refine .inl (hc.mono ?_)
  rintro e w' ⟨v, rfl, h1, hb⟩
  exact ⟨v, γ, rfl, fun u hu => by rw [ht] at hu; cases hu; exact h1, by unfold UU; rw [if_neg h9]; trivial, hG.old hb, fun _ _ _ _ _ => ⟨fun _ _ _ h => VR.old h hb, fun h => UU.old h hb⟩⟩
/-- The new box. -/
theorem owes2_alloc {i : Nat} {o : Oper} {t : Tmp} {z : Value} (hi : ops[i]? = some o) (ht : o.dst = some t) (h9 : i ≠ 9) (hg : o.guard = none) (hK : K t = .ptr) (hkp : ∀ u, u ≠ t → K u ≠ .ptr)
    (hap : ∀ (j : Nat) (p : Oper), ops[j]? = some p → j ≠ i → p.dst ≠ some t) (h9w : ∀ p : Oper, ops[9]? = some p → ∃ e ∈ p.after, Region.binds md e = true ∧ e.on = i)
    (hr : ∀ (a : Act) (w : World), (execOp a.eval o).run P w = .ok (.value (.pointer (some ⟨w.heap.size, 0, none⟩))) (w.alloc (.cells #[z] 25))) : Owes2 P md ops Q (fun t v γ w => VR (K t) v γ w) (UU x) (GG W) a0 i o := by
  intro γ a w ha hG hV hU
  unfold wpOp
  rw [hi]
  simp only [wanted_free hg, if_true, Oper.wp, hr, Oper.upon]
  have hb : Below w.heap.size w (w.alloc (.cells #[z] 25)) := (Below.refl _ _).alloc (Nat.le_refl _) _
  have off : ∀ {q : Option Addr} {c n : Nat}, NatIn w q c n → Off q (some w.heap.size) := by
    rintro q c n hn g a e rfl
    have := hn.lt
    cases e; omega
  refine .inl ⟨.pointer (some ⟨w.heap.size, 0, none⟩), some w.heap.size, rfl, fun u hu => ?_, by unfold UU; rw [if_neg h9]; trivial, ⟨hG.b.trans (hb.mono hG.b.size), fun g e => ?_⟩, fun j p hp hj hw => ⟨fun u v hu h => ?_, fun h => ?_⟩⟩
  · rw [ht] at hu; cases hu
    show VR (K t) _ _ _
    rw [hK]
    exact ⟨_, rfl, rfl, z, Boxed.new w _ _⟩
  · cases e; exact ⟨hG.b.size, by simp⟩
  · have hut : u ≠ t := fun e => hap j p hp hj (by rw [hu, e])
    have hk := hkp u hut
    show VR (K u) _ _ _
    cases hku : K u with
    | any => trivial
    | eq x => rw [hku] at h; exact h
    | nat n => rw [hku] at h; obtain ⟨q, c, e, hN, _⟩ := h; exact ⟨q, c, e, hN.alloc _, off hN⟩
    | sub n => rw [hku] at h; obtain ⟨q, c, e, hN, _⟩ := h; exact ⟨q, c, e, hN.alloc _, off hN⟩
    | ptr => exact absurd hku hk
  · unfold UU
    by_cases e : j = 9
    · subst e
      obtain ⟨e, he, hbd, hon⟩ := h9w p hp
      exact absurd hon (hw e he hbd)
    · rw [if_neg e]; trivial
/-- The store into it. -/
theorem owes2_store {o : Oper} (hi : ops[9]? = some o) (ht : o.dst = none) (hg : o.guard = none) (h : ∀ γ a w, Agree ops a0 a → GG W γ w → AllV (fun t v w => VR (K t) v γ w) a w (waits md ops o) →
    ∃ g q c, γ = some g ∧ (∃ z, Boxed w g 25 z) ∧ NatIn w q c x ∧ Off q γ ∧ (execOp a.eval o).run P w = .ok .skip (w.setCell ⟨g, 0, none⟩ (.slice q (lb x).length c))) : Owes2 P md ops Q (fun t v γ w => VR (K t) v γ w) (UU x) (GG W) a0 9 o := by
  intro γ a w ha hG hV hU
  obtain ⟨g, q, c, rfl, ⟨z, hz⟩, hN, ho, hr⟩ := h γ a w ha hG hV
  unfold wpOp
  rw [hi]
  simp only [wanted_free hg, if_true, Oper.wp, hr, Oper.upon]
  have hgB := (hG.g g rfl).1
  have hm : Mod (· = g) w (w.setCell ⟨g, 0, none⟩ (.slice q (lb x).length c)) := (Mod.refl (· = g) w).setCell (p := ⟨g, 0, none⟩) (fun _ => rfl) _
  have hb : Below W.heap.size w (w.setCell ⟨g, 0, none⟩ (.slice q (lb x).length c)) := (Below.refl _ w).setCell (p := ⟨g, 0, none⟩) hgB _
  have keep : ∀ {q' : Option Addr} {c' n' : Nat}, NatIn w q' c' n' → Off q' (some g) → NatIn (w.setCell ⟨g, 0, none⟩ (.slice q (lb x).length c)) q' c' n' :=
    fun hN' ho' => hN'.kept hm (fun a e => ho' g a rfl e)
  have hu9 : UU x 9 (some g) (w.setCell ⟨g, 0, none⟩ (.slice q (lb x).length c)) := by unfold UU; rw [if_pos rfl]; exact ⟨g, q, c, rfl, hz.set _, keep hN ho, ho⟩
  have hv0 : ∀ t, o.dst = some t → VR (K t) undef (some g) (w.setCell ⟨g, 0, none⟩ (.slice q (lb x).length c)) := by intro t e; rw [ht] at e; cases e
  refine .inl ⟨undef, some g, rfl, hv0, hu9, ⟨hG.b.trans hb, fun g' e => ⟨(hG.g g' e).1, Nat.lt_of_lt_of_le (hG.g g' e).2 hm.size⟩⟩, fun j p hp hj hw => ⟨fun u v hu h => ?_, fun h => ?_⟩⟩
  · show VR (K u) _ _ _
    cases hku : K u with
    | any => trivial
    | eq x => rw [hku] at h; exact h
    | nat n => rw [hku] at h; obtain ⟨q', c', e, hN', ho'⟩ := h; exact ⟨q', c', e, keep hN' ho', ho'⟩
    | sub n => rw [hku] at h; obtain ⟨q', c', e, hN', ho'⟩ := h; exact ⟨q', c', e, keep hN' ho', ho'⟩
    | ptr => rw [hku] at h; obtain ⟨g', e, hv, _⟩ := h; cases e; exact ⟨g, rfl, hv, _, hz.set _⟩
  · unfold UU; rw [if_neg hj]; trivial
end
theorem lt_pow_add {x y n : Nat} (hx : x < 10 ^ n) (hy : y < 10 ^ n) : x + y < 10 ^ (n + 1) := by
  rw [Nat.pow_succ]; omega
theorem lt_pow_mul {x y n m : Nat} (hx : x < 10 ^ n) (hy : y < 10 ^ m) : x * y < 10 ^ (n + m) := by
  rw [Nat.pow_add]
  exact Nat.mul_lt_mul'' hx hy
/- The law. -/
set_option maxRecDepth 20000 in
set_option maxHeartbeats 40000000 in
theorem natRules_any (s t u : ByteArray) (w : World) (hs : s.size ≤ maxLen) (ht : t.size ≤ maxLen) (hu : u.size ≤ maxLen) :
    Calls Tryd.prog 5 #[.string s, .string t, .string u] w fun r w' => r = .returned (.bool true) ∧ Below w.heap.size w w' := by
  have Hs := Lib.hid hs
  have Ht := Lib.hid ht
  have Hu := Lib.hid hu
  clear hs ht hu
  go_enter Tryd.func5, Tryd.ntmps5
  go_wp2_with fail
  refine (awake_any w).mono ?_
  rintro r w1 ⟨rfl, hb1⟩
  have hB := hb1
  clear hb1
  go_wp2_with fail
  have hof := lawOf_any s 60 w1 Hs.out (by decide) (by decide)
  refine hof.mono ?_
  clear hof
  rintro r w2 ⟨q1, c1, q', c', x, rfl, hx, hN, hD, hb, -, -⟩
  replace hB := hB.trans (hb.mono hB.size)
  have kx := Boxed.new w2 25 (.slice q1 (lb x).length c1)
  replace hB := hB.alloc hB.size (.cells #[.slice q1 (lb x).length c1] 25)
  have nx := hN.alloc (.cells #[.slice q1 (lb x).length c1] 25)
  clear hb hD hN
  go_wp2_with fail
  generalize (w2.alloc (.cells #[.slice q1 (lb x).length c1] 25)) = w3 at *
  generalize w2.heap.size = gx at *
  have hof := lawOf_any t 60 w3 Ht.out (by decide) (by decide)
  refine hof.mono ?_
  clear hof
  rintro r w4 ⟨q2, c2, q', c', y, rfl, hy, hN, hD, hb, -, -⟩
  replace hB := hB.trans (hb.mono hB.size)
  have ky := Boxed.new w4 25 (.slice q2 (lb y).length c2)
  replace kx := (Boxed.below' kx hb kx.lt).alloc (.cells #[.slice q2 (lb y).length c2] 25)
  replace nx := (nx.old hb).alloc (.cells #[.slice q2 (lb y).length c2] 25)
  replace hB := hB.alloc hB.size (.cells #[.slice q2 (lb y).length c2] 25)
  have ny := hN.alloc (.cells #[.slice q2 (lb y).length c2] 25)
  clear hb hD hN
  go_wp2_with fail
  generalize (w4.alloc (.cells #[.slice q2 (lb y).length c2] 25)) = w5 at *
  generalize w4.heap.size = gy at *
  have hof := lawOf_any u 60 w5 Hu.out (by decide) (by decide)
  refine hof.mono ?_
  clear hof
  rintro r w6 ⟨q3, c3, q', c', z, rfl, hz, hN, hD, hb, -, -⟩
  replace hB := hB.trans (hb.mono hB.size)
  have kz := Boxed.new w6 25 (.slice q3 (lb z).length c3)
  replace kx := (Boxed.below' kx hb kx.lt).alloc (.cells #[.slice q3 (lb z).length c3] 25)
  replace nx := (nx.old hb).alloc (.cells #[.slice q3 (lb z).length c3] 25)
  replace ky := (Boxed.below' ky hb ky.lt).alloc (.cells #[.slice q3 (lb z).length c3] 25)
  replace ny := (ny.old hb).alloc (.cells #[.slice q3 (lb z).length c3] 25)
  replace hB := hB.alloc hB.size (.cells #[.slice q3 (lb z).length c3] 25)
  have nz := hN.alloc (.cells #[.slice q3 (lb z).length c3] 25)
  clear hb hD hN
  go_upto_region 7 with fail
  generalize (w6.alloc (.cells #[.slice q3 (lb z).length c3] 25)) = w7 at *
  generalize w6.heap.size = gz at *
  have l1 : x + y < 10 ^ 61 := lt_pow_add hx.out hy.out
  have l2 : y + z < 10 ^ 61 := lt_pow_add hy.out hz.out
  have l3 : x * y < 10 ^ 120 := lt_pow_mul hx.out hy.out
  have l4 : x * z < 10 ^ 120 := lt_pow_mul hx.out hz.out
  have l5 : y * z < 10 ^ 120 := lt_pow_mul hy.out hz.out
  have l6 : x * y * z < 10 ^ 180 := lt_pow_mul l3 hz.out
  have l7 : x * (y + z) < 10 ^ 121 := lt_pow_mul hx.out l2
  have l8 : x + y + z < 10 ^ 62 := lt_pow_add l1 (Nat.lt_of_lt_of_le hz.out (Nat.pow_le_pow_right (by decide) (by decide)))
  have b1 := lb_pow hx.out
  have b2 := lb_pow hy.out
  have b3 := lb_pow hz.out
  have b4 := lb_pow l1
  have b5 := lb_pow l2
  have b6 := lb_pow l3
  have b7 := lb_pow l4
  have b8 := lb_pow l5
  have b9 := lb_pow l6
  have b10 := lb_pow l7
  have b11 := lb_pow l8
  have b12 : (lb 0).length = 0 := by rw [lb_zero]; rfl
  have b13 : (lb 1).length ≤ 2 := lb_64 (by decide)
  clear l1 l2 l3 l4 l5 l6 l7 l8 hx hy hz
  refine wp_region_puts2 (Γ := Option Nat) none (fun t v γ w' => VR (
    match t with
      | 34 => .nat (x)
      | 35 => .nat (y)
      | 36 => .nat (x + y)
      | 37 => .nat (y)
      | 38 => .sub (x)
      | 33 => .sub (x)
      | 39 => .nat (x)
      | 40 => .eq (Value.bool true)
      | 14 => .ptr
      | 15 => .eq (Value.bool true)
      | _ => .any) v γ w') (UU x) (GG w7) 126 (by kernel_rfl) (by decide +kernel) rfl ⟨(Below.refl _ _).drew, fun g e => by cases e⟩ ?_ ?_
  · skip
    refine OweAll2.cons (owes2_val rfl rfl (by decide) fun γ a w1 ha hG hV hU => ?_) ?_
    · skip
      have h7 := ha.outer 7 (by decide +kernel)
      simp only [Act.eval] at h7
      have c7 := (Boxed.below' kx hG.1 kx.lt).cell
      exact ⟨.agg #[.slice q1 (lb x).length c1], wanted_free rfl, by simp [execOp, go_sem, h7, c7], ⟨_, _, rfl, nx.old hG.1, hG.far nx⟩⟩
    refine OweAll2.cons (owes2_val rfl rfl (by decide) fun γ a w1 ha hG hV hU => ?_) ?_
    · skip
      have h9 := ha.outer 9 (by decide +kernel)
      simp only [Act.eval] at h9
      have c9 := (Boxed.below' ky hG.1 ky.lt).cell
      exact ⟨.agg #[.slice q2 (lb y).length c2], wanted_free rfl, by simp [execOp, go_sem, h9, c9], ⟨_, _, rfl, ny.old hG.1, hG.far ny⟩⟩
    refine OweAll2.cons (owes2_call rfl rfl (by decide) 20 fun γ a w1 ha hG hV hU => ?_) ?_
    · skip
      obtain ⟨q34, c34, h34, n34, o34⟩ : NG (x) (a.tmps.getD 34 undef) γ w1 := hV.get 34 (by decide +kernel)
      obtain ⟨q35, c35, h35, n35, o35⟩ : NG (y) (a.tmps.getD 35 undef) γ w1 := hV.get 35 (by decide +kernel)
      refine ⟨#[.agg #[.slice q34 (lb (x)).length c34], .agg #[.slice q35 (lb (y)).length c35]], wanted_free rfl, by simp [execOp, resolve, invoke, go_sem, h34, h35], ?_⟩
      refine (add_any q34 q35 c34 c35 (x) (y) w1 n34 n35 (by omega) (by omega)).mono ?_
      rintro r w2 ⟨qr, cr, rfl, hN, hb, hf⟩; exact ⟨_, rfl, ⟨qr, cr, rfl, hN, hG.fresh hf⟩, hb⟩
    refine OweAll2.cons (owes2_val rfl rfl (by decide) fun γ a w1 ha hG hV hU => ?_) ?_
    · skip
      have h9 := ha.outer 9 (by decide +kernel)
      simp only [Act.eval] at h9
      have c9 := (Boxed.below' ky hG.1 ky.lt).cell
      exact ⟨.agg #[.slice q2 (lb y).length c2], wanted_free rfl, by simp [execOp, go_sem, h9, c9], ⟨_, _, rfl, ny.old hG.1, hG.far ny⟩⟩
    refine OweAll2.cons (owes2_call rfl rfl (by decide) 19 fun γ a w1 ha hG hV hU => ?_) ?_
    · skip
      obtain ⟨q36, c36, h36, n36, o36⟩ : NG (x + y) (a.tmps.getD 36 undef) γ w1 := hV.get 36 (by decide +kernel)
      obtain ⟨q37, c37, h37, n37, o37⟩ : NG (y) (a.tmps.getD 37 undef) γ w1 := hV.get 37 (by decide +kernel)
      refine ⟨#[.agg #[.slice q36 (lb (x + y)).length c36], .agg #[.slice q37 (lb (y)).length c37]], wanted_free rfl, by simp [execOp, resolve, invoke, go_sem, h36, h37], ?_⟩
      have hs := sub_yes q36 q37 c36 c37 (x + y) (y) w1 n36 n37 (by omega) (Lib.hid (Nat.le_add_left y x))
      rw [Nat.add_sub_cancel] at hs
      refine hs.mono ?_
      rintro r w2 ⟨qr, cr, rfl, hN, hb, hf⟩; exact ⟨_, rfl, ⟨qr, cr, rfl, hN, hG.fresh hf⟩, hb⟩
    refine OweAll2.cons (owes2_val rfl rfl (by decide) fun γ a w1 ha hG hV hU => ?_) ?_
    · skip
      obtain ⟨q38, c38, h38, n38, o38⟩ : SG (x) (a.tmps.getD 38 undef) γ w1 := hV.get 38 (by decide +kernel)
      exact ⟨.tuple #[.agg #[.slice q38 (lb (x)).length c38], .bool true], wanted_free rfl, by simp [execOp, go_sem, h38], ⟨_, _, rfl, n38, o38⟩⟩
    refine OweAll2.cons (owes2_val rfl rfl (by decide) fun γ a w1 ha hG hV hU => ?_) ?_
    · skip
      obtain ⟨q33, c33, h33, n33, o33⟩ : SG (x) (a.tmps.getD 33 undef) γ w1 := hV.get 33 (by decide +kernel)
      exact ⟨.agg #[.slice q33 (lb (x)).length c33], wanted_free rfl, by simp [execOp, go_sem, h33], ⟨_, _, rfl, n33, o33⟩⟩
    refine OweAll2.cons (owes2_val rfl rfl (by decide) fun γ a w1 ha hG hV hU => ?_) ?_
    · skip
      obtain ⟨q33, c33, h33, n33, o33⟩ : SG (x) (a.tmps.getD 33 undef) γ w1 := hV.get 33 (by decide +kernel)
      exact ⟨.bool true, wanted_free rfl, by simp [execOp, go_sem, h33], rfl⟩
    refine OweAll2.cons (owes2_alloc (t := 14) (z := .slice none 0 0) rfl rfl (by decide) rfl rfl ?_ (fun j p hp hj => (drawOk2_spec (md := .any) (N := 126) (by decide +kernel)).apart 8 j _ p 14 rfl hp hj rfl) ?_ ?_) ?_
    · skip
      intro u hu h
      split at h <;> first | contradiction | exact hu rfl
    · intro p hp
      obtain rfl := Option.some.inj hp
      exact ⟨⟨8, .data⟩, by simp, rfl, rfl⟩
    · intro a w1
      simp [execOp, go_sem]
    refine OweAll2.cons (owes2_store rfl rfl rfl fun γ a w1 ha hG hV => ?_) ?_
    · skip
      obtain ⟨g14, e14, h14, z14, b14⟩ : PG (a.tmps.getD 14 undef) γ w1 := hV.get 14 (by decide +kernel)
      obtain ⟨q39, c39, h39, n39, o39⟩ : NG (x) (a.tmps.getD 39 undef) γ w1 := hV.get 39 (by decide +kernel)
      have c14 := b14.cell
      have f14 := b14.frozen
      exact ⟨g14, q39, c39, e14, ⟨z14, b14⟩, n39, o39, by simp [execOp, go_sem, h14, h39, c14, f14]⟩
    refine OweAll2.cons (owes2_val rfl rfl (by decide) fun γ a w1 ha hG hV hU => ?_) ?_
    · skip
      have h40 : a.tmps.getD 40 undef = Value.bool true := hV.get 40 (by decide +kernel)
      exact ⟨Value.bool true, wanted_free rfl, by simp [execOp, go_sem, h40], rfl⟩
    exact OweAll2.nil
  intro f γ W hG hv hU
  have h15 : f 15 = .bool true := hv 10 _ 15 rfl rfl
  obtain ⟨gs, eg, h14, -⟩ : PG (f 14) γ W := hv 8 _ 14 rfl rfl
  have hu : UU x 9 γ W := hU 9 _ rfl
  unfold UU at hu
  rw [if_pos rfl] at hu
  obtain ⟨gs', qs, cs, eg', kb, nb, -⟩ := hu
  have e : gs' = gs := by rw [eg] at eg'; exact (Option.some.inj eg').symm
  subst e
  rename_i hK
  refine hK _ _ ?_
  clear hK hv hU eg eg'
  replace kx := Boxed.below' kx hG.b kx.lt
  replace ky := Boxed.below' ky hG.b ky.lt
  replace kz := Boxed.below' kz hG.b kz.lt
  replace nx := nx.old hG.b
  replace ny := ny.old hG.b
  replace nz := nz.old hG.b
  replace hB := hB.trans (hG.b.mono hB.size)
  clear hG
  simp only [dsts, puts, List.filterMap_cons, List.filterMap_nil, List.foldl_cons, List.foldl_nil, Act.put, List.setIfInBounds_toArray, List.set_cons_succ, List.set_cons_zero, h14, h15]
  go_upto_region 8 with fail
  refine wp_region_vals (fun t v w' => Val (
    match t with
      | 41 => .eq (Value.func (.func 37) #[] #[])
      | 42 => .nat (x)
      | 43 => .nat (y)
      | 44 => .nat (x + y)
      | 45 => .nat (y)
      | 46 => .nat (x)
      | 47 => .nat (x + y)
      | 48 => .eq (Value.bool true)
      | 49 => .eq (Value.bool true)
      | 50 => .eq (Value.func (.func 37) #[] #[])
      | 51 => .nat (x)
      | 52 => .nat (y)
      | 53 => .nat (x * y)
      | 54 => .nat (y)
      | 55 => .nat (x)
      | 56 => .nat (x * y)
      | 57 => .eq (Value.bool true)
      | 58 => .eq (Value.bool true)
      | 59 => .eq (Value.bool true)
      | 60 => .eq (Value.func (.func 37) #[] #[])
      | 61 => .nat (x)
      | 62 => .nat (y)
      | 63 => .nat (x + y)
      | 64 => .nat (z)
      | 65 => .nat (x + y + z)
      | 66 => .nat (x)
      | 67 => .nat (y)
      | 68 => .nat (z)
      | 69 => .nat (y + z)
      | 70 => .nat (x + y + z)
      | 71 => .eq (Value.bool true)
      | 72 => .eq (Value.bool true)
      | 73 => .eq (Value.bool true)
      | 74 => .eq (Value.func (.func 37) #[] #[])
      | 75 => .nat (x)
      | 76 => .nat (y)
      | 77 => .nat (x * y)
      | 78 => .nat (z)
      | 79 => .nat (x * y * z)
      | 80 => .nat (x)
      | 81 => .nat (y)
      | 82 => .nat (z)
      | 83 => .nat (y * z)
      | 84 => .nat (x * y * z)
      | 85 => .eq (Value.bool true)
      | 86 => .eq (Value.bool true)
      | 87 => .eq (Value.bool true)
      | 88 => .eq (Value.func (.func 37) #[] #[])
      | 89 => .nat (x)
      | 90 => .nat (y)
      | 91 => .nat (z)
      | 92 => .nat (y + z)
      | 93 => .nat (x * (y + z))
      | 94 => .nat (x)
      | 95 => .nat (y)
      | 96 => .nat (x * y)
      | 97 => .nat (x)
      | 98 => .nat (z)
      | 99 => .nat (x * z)
      | 100 => .nat (x * (y + z))
      | 101 => .eq (Value.bool true)
      | 102 => .eq (Value.bool true)
      | 103 => .eq (Value.bool true)
      | 104 => .eq (Value.bool true)
      | 105 => .eq (Value.bool true)
      | 106 => .eq (Value.bool true)
      | 107 => .eq (Value.func (.func 37) #[] #[])
      | 108 => .nat (x)
      | 109 => .nat (x)
      | 110 => .eq (Value.bool true)
      | 111 => .eq (Value.bool true)
      | 112 => .eq (Value.bool true)
      | 113 => .eq (Value.func (.func 37) #[] #[])
      | 114 => .nat (x)
      | 115 => .nat (1)
      | 116 => .nat (x)
      | 117 => .nat (x)
      | 118 => .eq (Value.bool true)
      | 119 => .eq (Value.bool true)
      | 120 => .eq (Value.bool true)
      | 121 => .nat (x)
      | 122 => .nat (0)
      | 123 => .nat (0)
      | 124 => .eq (Value.bool true)
      | 125 => .eq (Value.bool true)
      | 6 => .eq (Value.bool true)
      | _ => .any) v w') (fun w' => Below W.heap.size W w') 126 (by kernel_rfl) (by decide +kernel) rfl (Below.refl _ _).drew ?_ ?_
  · skip
    refine OweAll.cons (owes_val rfl rfl fun a w1 ha hG hV => ?_) ?_
    · skip
      have h13 := ha.outer 13 (by decide +kernel)
      simp only [Act.eval] at h13
      exact ⟨Value.func (.func 37) #[] #[], wanted_free rfl, by simp [execOp, go_sem, h13], rfl⟩
    refine OweAll.cons (owes_val rfl rfl fun a w1 ha hG hV => ?_) ?_
    · skip
      have h7 := ha.outer 7 (by decide +kernel)
      simp only [Act.eval] at h7
      have c7 := (Boxed.below' kx hG kx.lt).cell
      exact ⟨.agg #[.slice q1 (lb x).length c1], wanted_free rfl, by simp [execOp, go_sem, h7, c7], ⟨_, _, rfl, nx.old hG⟩⟩
    refine OweAll.cons (owes_val rfl rfl fun a w1 ha hG hV => ?_) ?_
    · skip
      have h9 := ha.outer 9 (by decide +kernel)
      simp only [Act.eval] at h9
      have c9 := (Boxed.below' ky hG ky.lt).cell
      exact ⟨.agg #[.slice q2 (lb y).length c2], wanted_free rfl, by simp [execOp, go_sem, h9, c9], ⟨_, _, rfl, ny.old hG⟩⟩
    refine OweAll.cons (owes_call rfl rfl 20 fun a w1 ha hG hV => ?_) ?_
    · skip
      obtain ⟨q42, c42, h42, n42⟩ : NV (x) (a.tmps.getD 42 undef) w1 := hV.get 42 (by decide +kernel)
      obtain ⟨q43, c43, h43, n43⟩ : NV (y) (a.tmps.getD 43 undef) w1 := hV.get 43 (by decide +kernel)
      refine ⟨#[.agg #[.slice q42 (lb (x)).length c42], .agg #[.slice q43 (lb (y)).length c43]], wanted_free rfl, by simp [execOp, resolve, invoke, go_sem, h42, h43], ?_⟩
      refine (add_any q42 q43 c42 c43 (x) (y) w1 n42 n43 (by omega) (by omega)).mono ?_
      rintro r w2 ⟨qr, cr, rfl, hN, hb, hf⟩; exact ⟨_, rfl, ⟨qr, cr, rfl, hN⟩, hG.trans (hb.mono hG.size), fun _ _ h => Val.old h hb⟩
    refine OweAll.cons (owes_val rfl rfl fun a w1 ha hG hV => ?_) ?_
    · skip
      have h9 := ha.outer 9 (by decide +kernel)
      simp only [Act.eval] at h9
      have c9 := (Boxed.below' ky hG ky.lt).cell
      exact ⟨.agg #[.slice q2 (lb y).length c2], wanted_free rfl, by simp [execOp, go_sem, h9, c9], ⟨_, _, rfl, ny.old hG⟩⟩
    refine OweAll.cons (owes_val rfl rfl fun a w1 ha hG hV => ?_) ?_
    · skip
      have h7 := ha.outer 7 (by decide +kernel)
      simp only [Act.eval] at h7
      have c7 := (Boxed.below' kx hG kx.lt).cell
      exact ⟨.agg #[.slice q1 (lb x).length c1], wanted_free rfl, by simp [execOp, go_sem, h7, c7], ⟨_, _, rfl, nx.old hG⟩⟩
    refine OweAll.cons (owes_call rfl rfl 20 fun a w1 ha hG hV => ?_) ?_
    · skip
      obtain ⟨q45, c45, h45, n45⟩ : NV (y) (a.tmps.getD 45 undef) w1 := hV.get 45 (by decide +kernel)
      obtain ⟨q46, c46, h46, n46⟩ : NV (x) (a.tmps.getD 46 undef) w1 := hV.get 46 (by decide +kernel)
      refine ⟨#[.agg #[.slice q45 (lb (y)).length c45], .agg #[.slice q46 (lb (x)).length c46]], wanted_free rfl, by simp [execOp, resolve, invoke, go_sem, h45, h46], ?_⟩
      refine (add_any q45 q46 c45 c46 (y) (x) w1 n45 n46 (by omega) (by omega)).mono ?_
      rintro r w2 ⟨qr, cr, rfl, hN, hb, hf⟩; have hq := Nat.add_comm y x; rw [hq] at hN ⊢; exact ⟨_, rfl, ⟨qr, cr, rfl, hN⟩, hG.trans (hb.mono hG.size), fun _ _ h => Val.old h hb⟩
    refine OweAll.cons (owes_call rfl rfl 37 fun a w1 ha hG hV => ?_) ?_
    · skip
      have h41 : a.tmps.getD 41 undef = Value.func (.func 37) #[] #[] := hV.get 41 (by decide +kernel)
      obtain ⟨q44, c44, h44, n44⟩ : NV (x + y) (a.tmps.getD 44 undef) w1 := hV.get 44 (by decide +kernel)
      obtain ⟨q47, c47, h47, n47⟩ : NV (x + y) (a.tmps.getD 47 undef) w1 := hV.get 47 (by decide +kernel)
      refine ⟨#[.agg #[.slice q44 (lb (x + y)).length c44], .agg #[.slice q47 (lb (x + y)).length c47]], wanted_free rfl, by simp [execOp, resolve, invoke, go_sem, h41, h44, h47], ?_⟩
      refine (same_any q44 q47 c44 c47 (x + y) w1 n44 n47 (by omega)).mono ?_
      rintro r w2 ⟨rfl, hb⟩; exact ⟨_, rfl, rfl, hG.trans (hb.mono hG.size), fun _ _ h => Val.old h hb⟩
    refine OweAll.cons (owes_val rfl rfl fun a w1 ha hG hV => ?_) ?_
    · skip
      have h48 : a.tmps.getD 48 undef = Value.bool true := hV.get 48 (by decide +kernel)
      exact ⟨Value.bool true, wanted_free rfl, by simp [execOp, go_sem, h48], rfl⟩
    refine OweAll.cons (owes_val rfl rfl fun a w1 ha hG hV => ?_) ?_
    · skip
      have h13 := ha.outer 13 (by decide +kernel)
      simp only [Act.eval] at h13
      exact ⟨Value.func (.func 37) #[] #[], (wanted_of (t := 49) rfl rfl (hV.get 49 (by decide +kernel))), by simp [execOp, go_sem, h13], rfl⟩
    refine OweAll.cons (owes_val rfl rfl fun a w1 ha hG hV => ?_) ?_
    · skip
      have h7 := ha.outer 7 (by decide +kernel)
      simp only [Act.eval] at h7
      have c7 := (Boxed.below' kx hG kx.lt).cell
      exact ⟨.agg #[.slice q1 (lb x).length c1], (wanted_of (t := 49) rfl rfl (hV.get 49 (by decide +kernel))), by simp [execOp, go_sem, h7, c7], ⟨_, _, rfl, nx.old hG⟩⟩
    refine OweAll.cons (owes_val rfl rfl fun a w1 ha hG hV => ?_) ?_
    · skip
      have h9 := ha.outer 9 (by decide +kernel)
      simp only [Act.eval] at h9
      have c9 := (Boxed.below' ky hG ky.lt).cell
      exact ⟨.agg #[.slice q2 (lb y).length c2], (wanted_of (t := 49) rfl rfl (hV.get 49 (by decide +kernel))), by simp [execOp, go_sem, h9, c9], ⟨_, _, rfl, ny.old hG⟩⟩
    refine OweAll.cons (owes_call rfl rfl 24 fun a w1 ha hG hV => ?_) ?_
    · skip
      obtain ⟨q51, c51, h51, n51⟩ : NV (x) (a.tmps.getD 51 undef) w1 := hV.get 51 (by decide +kernel)
      obtain ⟨q52, c52, h52, n52⟩ : NV (y) (a.tmps.getD 52 undef) w1 := hV.get 52 (by decide +kernel)
      refine ⟨#[.agg #[.slice q51 (lb (x)).length c51], .agg #[.slice q52 (lb (y)).length c52]], (wanted_of (t := 49) rfl rfl (hV.get 49 (by decide +kernel))), by simp [execOp, resolve, invoke, go_sem, h51, h52], ?_⟩
      refine (mul_any q51 q52 c51 c52 (x) (y) w1 n51 n52 (by omega) (by omega)).mono ?_
      rintro r w2 ⟨qr, cr, rfl, hN, hb, hf⟩; exact ⟨_, rfl, ⟨qr, cr, rfl, hN⟩, hG.trans (hb.mono hG.size), fun _ _ h => Val.old h hb⟩
    refine OweAll.cons (owes_val rfl rfl fun a w1 ha hG hV => ?_) ?_
    · skip
      have h9 := ha.outer 9 (by decide +kernel)
      simp only [Act.eval] at h9
      have c9 := (Boxed.below' ky hG ky.lt).cell
      exact ⟨.agg #[.slice q2 (lb y).length c2], (wanted_of (t := 49) rfl rfl (hV.get 49 (by decide +kernel))), by simp [execOp, go_sem, h9, c9], ⟨_, _, rfl, ny.old hG⟩⟩
    refine OweAll.cons (owes_val rfl rfl fun a w1 ha hG hV => ?_) ?_
    · skip
      have h7 := ha.outer 7 (by decide +kernel)
      simp only [Act.eval] at h7
      have c7 := (Boxed.below' kx hG kx.lt).cell
      exact ⟨.agg #[.slice q1 (lb x).length c1], (wanted_of (t := 49) rfl rfl (hV.get 49 (by decide +kernel))), by simp [execOp, go_sem, h7, c7], ⟨_, _, rfl, nx.old hG⟩⟩
    refine OweAll.cons (owes_call rfl rfl 24 fun a w1 ha hG hV => ?_) ?_
    · skip
      obtain ⟨q54, c54, h54, n54⟩ : NV (y) (a.tmps.getD 54 undef) w1 := hV.get 54 (by decide +kernel)
      obtain ⟨q55, c55, h55, n55⟩ : NV (x) (a.tmps.getD 55 undef) w1 := hV.get 55 (by decide +kernel)
      refine ⟨#[.agg #[.slice q54 (lb (y)).length c54], .agg #[.slice q55 (lb (x)).length c55]], (wanted_of (t := 49) rfl rfl (hV.get 49 (by decide +kernel))), by simp [execOp, resolve, invoke, go_sem, h54, h55], ?_⟩
      refine (mul_any q54 q55 c54 c55 (y) (x) w1 n54 n55 (by omega) (by omega)).mono ?_
      rintro r w2 ⟨qr, cr, rfl, hN, hb, hf⟩; have hq := Nat.mul_comm y x; rw [hq] at hN ⊢; exact ⟨_, rfl, ⟨qr, cr, rfl, hN⟩, hG.trans (hb.mono hG.size), fun _ _ h => Val.old h hb⟩
    refine OweAll.cons (owes_call rfl rfl 37 fun a w1 ha hG hV => ?_) ?_
    · skip
      have h50 : a.tmps.getD 50 undef = Value.func (.func 37) #[] #[] := hV.get 50 (by decide +kernel)
      obtain ⟨q53, c53, h53, n53⟩ : NV (x * y) (a.tmps.getD 53 undef) w1 := hV.get 53 (by decide +kernel)
      obtain ⟨q56, c56, h56, n56⟩ : NV (x * y) (a.tmps.getD 56 undef) w1 := hV.get 56 (by decide +kernel)
      refine ⟨#[.agg #[.slice q53 (lb (x * y)).length c53], .agg #[.slice q56 (lb (x * y)).length c56]], (wanted_of (t := 49) rfl rfl (hV.get 49 (by decide +kernel))), by simp [execOp, resolve, invoke, go_sem, h50, h53, h56], ?_⟩
      refine (same_any q53 q56 c53 c56 (x * y) w1 n53 n56 (by omega)).mono ?_
      rintro r w2 ⟨rfl, hb⟩; exact ⟨_, rfl, rfl, hG.trans (hb.mono hG.size), fun _ _ h => Val.old h hb⟩
    refine OweAll.cons (owes_val rfl rfl fun a w1 ha hG hV => ?_) ?_
    · skip
      have h49 : a.tmps.getD 49 undef = Value.bool true := hV.get 49 (by decide +kernel)
      have h57 : a.tmps.getD 57 undef = Value.bool true := hV.get 57 (by decide +kernel)
      exact ⟨.bool true, wanted_free rfl, by simp [execOp, go_sem, h49, h57], rfl⟩
    refine OweAll.cons (owes_val rfl rfl fun a w1 ha hG hV => ?_) ?_
    · skip
      have h58 : a.tmps.getD 58 undef = Value.bool true := hV.get 58 (by decide +kernel)
      exact ⟨Value.bool true, wanted_free rfl, by simp [execOp, go_sem, h58], rfl⟩
    refine OweAll.cons (owes_val rfl rfl fun a w1 ha hG hV => ?_) ?_
    · skip
      have h13 := ha.outer 13 (by decide +kernel)
      simp only [Act.eval] at h13
      exact ⟨Value.func (.func 37) #[] #[], (wanted_of (t := 59) rfl rfl (hV.get 59 (by decide +kernel))), by simp [execOp, go_sem, h13], rfl⟩
    refine OweAll.cons (owes_val rfl rfl fun a w1 ha hG hV => ?_) ?_
    · skip
      have h7 := ha.outer 7 (by decide +kernel)
      simp only [Act.eval] at h7
      have c7 := (Boxed.below' kx hG kx.lt).cell
      exact ⟨.agg #[.slice q1 (lb x).length c1], (wanted_of (t := 59) rfl rfl (hV.get 59 (by decide +kernel))), by simp [execOp, go_sem, h7, c7], ⟨_, _, rfl, nx.old hG⟩⟩
    refine OweAll.cons (owes_val rfl rfl fun a w1 ha hG hV => ?_) ?_
    · skip
      have h9 := ha.outer 9 (by decide +kernel)
      simp only [Act.eval] at h9
      have c9 := (Boxed.below' ky hG ky.lt).cell
      exact ⟨.agg #[.slice q2 (lb y).length c2], (wanted_of (t := 59) rfl rfl (hV.get 59 (by decide +kernel))), by simp [execOp, go_sem, h9, c9], ⟨_, _, rfl, ny.old hG⟩⟩
    refine OweAll.cons (owes_call rfl rfl 20 fun a w1 ha hG hV => ?_) ?_
    · skip
      obtain ⟨q61, c61, h61, n61⟩ : NV (x) (a.tmps.getD 61 undef) w1 := hV.get 61 (by decide +kernel)
      obtain ⟨q62, c62, h62, n62⟩ : NV (y) (a.tmps.getD 62 undef) w1 := hV.get 62 (by decide +kernel)
      refine ⟨#[.agg #[.slice q61 (lb (x)).length c61], .agg #[.slice q62 (lb (y)).length c62]], (wanted_of (t := 59) rfl rfl (hV.get 59 (by decide +kernel))), by simp [execOp, resolve, invoke, go_sem, h61, h62], ?_⟩
      refine (add_any q61 q62 c61 c62 (x) (y) w1 n61 n62 (by omega) (by omega)).mono ?_
      rintro r w2 ⟨qr, cr, rfl, hN, hb, hf⟩; exact ⟨_, rfl, ⟨qr, cr, rfl, hN⟩, hG.trans (hb.mono hG.size), fun _ _ h => Val.old h hb⟩
    refine OweAll.cons (owes_val rfl rfl fun a w1 ha hG hV => ?_) ?_
    · skip
      have h11 := ha.outer 11 (by decide +kernel)
      simp only [Act.eval] at h11
      have c11 := (Boxed.below' kz hG kz.lt).cell
      exact ⟨.agg #[.slice q3 (lb z).length c3], (wanted_of (t := 59) rfl rfl (hV.get 59 (by decide +kernel))), by simp [execOp, go_sem, h11, c11], ⟨_, _, rfl, nz.old hG⟩⟩
    refine OweAll.cons (owes_call rfl rfl 20 fun a w1 ha hG hV => ?_) ?_
    · skip
      obtain ⟨q63, c63, h63, n63⟩ : NV (x + y) (a.tmps.getD 63 undef) w1 := hV.get 63 (by decide +kernel)
      obtain ⟨q64, c64, h64, n64⟩ : NV (z) (a.tmps.getD 64 undef) w1 := hV.get 64 (by decide +kernel)
      refine ⟨#[.agg #[.slice q63 (lb (x + y)).length c63], .agg #[.slice q64 (lb (z)).length c64]], (wanted_of (t := 59) rfl rfl (hV.get 59 (by decide +kernel))), by simp [execOp, resolve, invoke, go_sem, h63, h64], ?_⟩
      refine (add_any q63 q64 c63 c64 (x + y) (z) w1 n63 n64 (by omega) (by omega)).mono ?_
      rintro r w2 ⟨qr, cr, rfl, hN, hb, hf⟩; exact ⟨_, rfl, ⟨qr, cr, rfl, hN⟩, hG.trans (hb.mono hG.size), fun _ _ h => Val.old h hb⟩
    refine OweAll.cons (owes_val rfl rfl fun a w1 ha hG hV => ?_) ?_
    · skip
      have h7 := ha.outer 7 (by decide +kernel)
      simp only [Act.eval] at h7
      have c7 := (Boxed.below' kx hG kx.lt).cell
      exact ⟨.agg #[.slice q1 (lb x).length c1], (wanted_of (t := 59) rfl rfl (hV.get 59 (by decide +kernel))), by simp [execOp, go_sem, h7, c7], ⟨_, _, rfl, nx.old hG⟩⟩
    refine OweAll.cons (owes_val rfl rfl fun a w1 ha hG hV => ?_) ?_
    · skip
      have h9 := ha.outer 9 (by decide +kernel)
      simp only [Act.eval] at h9
      have c9 := (Boxed.below' ky hG ky.lt).cell
      exact ⟨.agg #[.slice q2 (lb y).length c2], (wanted_of (t := 59) rfl rfl (hV.get 59 (by decide +kernel))), by simp [execOp, go_sem, h9, c9], ⟨_, _, rfl, ny.old hG⟩⟩
    refine OweAll.cons (owes_val rfl rfl fun a w1 ha hG hV => ?_) ?_
    · skip
      have h11 := ha.outer 11 (by decide +kernel)
      simp only [Act.eval] at h11
      have c11 := (Boxed.below' kz hG kz.lt).cell
      exact ⟨.agg #[.slice q3 (lb z).length c3], (wanted_of (t := 59) rfl rfl (hV.get 59 (by decide +kernel))), by simp [execOp, go_sem, h11, c11], ⟨_, _, rfl, nz.old hG⟩⟩
    refine OweAll.cons (owes_call rfl rfl 20 fun a w1 ha hG hV => ?_) ?_
    · skip
      obtain ⟨q67, c67, h67, n67⟩ : NV (y) (a.tmps.getD 67 undef) w1 := hV.get 67 (by decide +kernel)
      obtain ⟨q68, c68, h68, n68⟩ : NV (z) (a.tmps.getD 68 undef) w1 := hV.get 68 (by decide +kernel)
      refine ⟨#[.agg #[.slice q67 (lb (y)).length c67], .agg #[.slice q68 (lb (z)).length c68]], (wanted_of (t := 59) rfl rfl (hV.get 59 (by decide +kernel))), by simp [execOp, resolve, invoke, go_sem, h67, h68], ?_⟩
      refine (add_any q67 q68 c67 c68 (y) (z) w1 n67 n68 (by omega) (by omega)).mono ?_
      rintro r w2 ⟨qr, cr, rfl, hN, hb, hf⟩; exact ⟨_, rfl, ⟨qr, cr, rfl, hN⟩, hG.trans (hb.mono hG.size), fun _ _ h => Val.old h hb⟩
    refine OweAll.cons (owes_call rfl rfl 20 fun a w1 ha hG hV => ?_) ?_
    · skip
      obtain ⟨q66, c66, h66, n66⟩ : NV (x) (a.tmps.getD 66 undef) w1 := hV.get 66 (by decide +kernel)
      obtain ⟨q69, c69, h69, n69⟩ : NV (y + z) (a.tmps.getD 69 undef) w1 := hV.get 69 (by decide +kernel)
      refine ⟨#[.agg #[.slice q66 (lb (x)).length c66], .agg #[.slice q69 (lb (y + z)).length c69]], (wanted_of (t := 59) rfl rfl (hV.get 59 (by decide +kernel))), by simp [execOp, resolve, invoke, go_sem, h66, h69], ?_⟩
      refine (add_any q66 q69 c66 c69 (x) (y + z) w1 n66 n69 (by omega) (by omega)).mono ?_
      rintro r w2 ⟨qr, cr, rfl, hN, hb, hf⟩; have hq := (Nat.add_assoc x y z).symm; rw [hq] at hN ⊢; exact ⟨_, rfl, ⟨qr, cr, rfl, hN⟩, hG.trans (hb.mono hG.size), fun _ _ h => Val.old h hb⟩
    refine OweAll.cons (owes_call rfl rfl 37 fun a w1 ha hG hV => ?_) ?_
    · skip
      have h60 : a.tmps.getD 60 undef = Value.func (.func 37) #[] #[] := hV.get 60 (by decide +kernel)
      obtain ⟨q65, c65, h65, n65⟩ : NV (x + y + z) (a.tmps.getD 65 undef) w1 := hV.get 65 (by decide +kernel)
      obtain ⟨q70, c70, h70, n70⟩ : NV (x + y + z) (a.tmps.getD 70 undef) w1 := hV.get 70 (by decide +kernel)
      refine ⟨#[.agg #[.slice q65 (lb (x + y + z)).length c65], .agg #[.slice q70 (lb (x + y + z)).length c70]], (wanted_of (t := 59) rfl rfl (hV.get 59 (by decide +kernel))), by simp [execOp, resolve, invoke, go_sem, h60, h65, h70], ?_⟩
      refine (same_any q65 q70 c65 c70 (x + y + z) w1 n65 n70 (by omega)).mono ?_
      rintro r w2 ⟨rfl, hb⟩; exact ⟨_, rfl, rfl, hG.trans (hb.mono hG.size), fun _ _ h => Val.old h hb⟩
    refine OweAll.cons (owes_val rfl rfl fun a w1 ha hG hV => ?_) ?_
    · skip
      have h59 : a.tmps.getD 59 undef = Value.bool true := hV.get 59 (by decide +kernel)
      have h71 : a.tmps.getD 71 undef = Value.bool true := hV.get 71 (by decide +kernel)
      exact ⟨.bool true, wanted_free rfl, by simp [execOp, go_sem, h59, h71], rfl⟩
    refine OweAll.cons (owes_val rfl rfl fun a w1 ha hG hV => ?_) ?_
    · skip
      have h72 : a.tmps.getD 72 undef = Value.bool true := hV.get 72 (by decide +kernel)
      exact ⟨Value.bool true, wanted_free rfl, by simp [execOp, go_sem, h72], rfl⟩
    refine OweAll.cons (owes_val rfl rfl fun a w1 ha hG hV => ?_) ?_
    · skip
      have h13 := ha.outer 13 (by decide +kernel)
      simp only [Act.eval] at h13
      exact ⟨Value.func (.func 37) #[] #[], (wanted_of (t := 73) rfl rfl (hV.get 73 (by decide +kernel))), by simp [execOp, go_sem, h13], rfl⟩
    refine OweAll.cons (owes_val rfl rfl fun a w1 ha hG hV => ?_) ?_
    · skip
      have h7 := ha.outer 7 (by decide +kernel)
      simp only [Act.eval] at h7
      have c7 := (Boxed.below' kx hG kx.lt).cell
      exact ⟨.agg #[.slice q1 (lb x).length c1], (wanted_of (t := 73) rfl rfl (hV.get 73 (by decide +kernel))), by simp [execOp, go_sem, h7, c7], ⟨_, _, rfl, nx.old hG⟩⟩
    refine OweAll.cons (owes_val rfl rfl fun a w1 ha hG hV => ?_) ?_
    · skip
      have h9 := ha.outer 9 (by decide +kernel)
      simp only [Act.eval] at h9
      have c9 := (Boxed.below' ky hG ky.lt).cell
      exact ⟨.agg #[.slice q2 (lb y).length c2], (wanted_of (t := 73) rfl rfl (hV.get 73 (by decide +kernel))), by simp [execOp, go_sem, h9, c9], ⟨_, _, rfl, ny.old hG⟩⟩
    refine OweAll.cons (owes_call rfl rfl 24 fun a w1 ha hG hV => ?_) ?_
    · skip
      obtain ⟨q75, c75, h75, n75⟩ : NV (x) (a.tmps.getD 75 undef) w1 := hV.get 75 (by decide +kernel)
      obtain ⟨q76, c76, h76, n76⟩ : NV (y) (a.tmps.getD 76 undef) w1 := hV.get 76 (by decide +kernel)
      refine ⟨#[.agg #[.slice q75 (lb (x)).length c75], .agg #[.slice q76 (lb (y)).length c76]], (wanted_of (t := 73) rfl rfl (hV.get 73 (by decide +kernel))), by simp [execOp, resolve, invoke, go_sem, h75, h76], ?_⟩
      refine (mul_any q75 q76 c75 c76 (x) (y) w1 n75 n76 (by omega) (by omega)).mono ?_
      rintro r w2 ⟨qr, cr, rfl, hN, hb, hf⟩; exact ⟨_, rfl, ⟨qr, cr, rfl, hN⟩, hG.trans (hb.mono hG.size), fun _ _ h => Val.old h hb⟩
    refine OweAll.cons (owes_val rfl rfl fun a w1 ha hG hV => ?_) ?_
    · skip
      have h11 := ha.outer 11 (by decide +kernel)
      simp only [Act.eval] at h11
      have c11 := (Boxed.below' kz hG kz.lt).cell
      exact ⟨.agg #[.slice q3 (lb z).length c3], (wanted_of (t := 73) rfl rfl (hV.get 73 (by decide +kernel))), by simp [execOp, go_sem, h11, c11], ⟨_, _, rfl, nz.old hG⟩⟩
    refine OweAll.cons (owes_call rfl rfl 24 fun a w1 ha hG hV => ?_) ?_
    · skip
      obtain ⟨q77, c77, h77, n77⟩ : NV (x * y) (a.tmps.getD 77 undef) w1 := hV.get 77 (by decide +kernel)
      obtain ⟨q78, c78, h78, n78⟩ : NV (z) (a.tmps.getD 78 undef) w1 := hV.get 78 (by decide +kernel)
      refine ⟨#[.agg #[.slice q77 (lb (x * y)).length c77], .agg #[.slice q78 (lb (z)).length c78]], (wanted_of (t := 73) rfl rfl (hV.get 73 (by decide +kernel))), by simp [execOp, resolve, invoke, go_sem, h77, h78], ?_⟩
      refine (mul_any q77 q78 c77 c78 (x * y) (z) w1 n77 n78 (by omega) (by omega)).mono ?_
      rintro r w2 ⟨qr, cr, rfl, hN, hb, hf⟩; exact ⟨_, rfl, ⟨qr, cr, rfl, hN⟩, hG.trans (hb.mono hG.size), fun _ _ h => Val.old h hb⟩
    refine OweAll.cons (owes_val rfl rfl fun a w1 ha hG hV => ?_) ?_
    · skip
      have h7 := ha.outer 7 (by decide +kernel)
      simp only [Act.eval] at h7
      have c7 := (Boxed.below' kx hG kx.lt).cell
      exact ⟨.agg #[.slice q1 (lb x).length c1], (wanted_of (t := 73) rfl rfl (hV.get 73 (by decide +kernel))), by simp [execOp, go_sem, h7, c7], ⟨_, _, rfl, nx.old hG⟩⟩
    refine OweAll.cons (owes_val rfl rfl fun a w1 ha hG hV => ?_) ?_
    · skip
      have h9 := ha.outer 9 (by decide +kernel)
      simp only [Act.eval] at h9
      have c9 := (Boxed.below' ky hG ky.lt).cell
      exact ⟨.agg #[.slice q2 (lb y).length c2], (wanted_of (t := 73) rfl rfl (hV.get 73 (by decide +kernel))), by simp [execOp, go_sem, h9, c9], ⟨_, _, rfl, ny.old hG⟩⟩
    refine OweAll.cons (owes_val rfl rfl fun a w1 ha hG hV => ?_) ?_
    · skip
      have h11 := ha.outer 11 (by decide +kernel)
      simp only [Act.eval] at h11
      have c11 := (Boxed.below' kz hG kz.lt).cell
      exact ⟨.agg #[.slice q3 (lb z).length c3], (wanted_of (t := 73) rfl rfl (hV.get 73 (by decide +kernel))), by simp [execOp, go_sem, h11, c11], ⟨_, _, rfl, nz.old hG⟩⟩
    refine OweAll.cons (owes_call rfl rfl 24 fun a w1 ha hG hV => ?_) ?_
    · skip
      obtain ⟨q81, c81, h81, n81⟩ : NV (y) (a.tmps.getD 81 undef) w1 := hV.get 81 (by decide +kernel)
      obtain ⟨q82, c82, h82, n82⟩ : NV (z) (a.tmps.getD 82 undef) w1 := hV.get 82 (by decide +kernel)
      refine ⟨#[.agg #[.slice q81 (lb (y)).length c81], .agg #[.slice q82 (lb (z)).length c82]], (wanted_of (t := 73) rfl rfl (hV.get 73 (by decide +kernel))), by simp [execOp, resolve, invoke, go_sem, h81, h82], ?_⟩
      refine (mul_any q81 q82 c81 c82 (y) (z) w1 n81 n82 (by omega) (by omega)).mono ?_
      rintro r w2 ⟨qr, cr, rfl, hN, hb, hf⟩; exact ⟨_, rfl, ⟨qr, cr, rfl, hN⟩, hG.trans (hb.mono hG.size), fun _ _ h => Val.old h hb⟩
    refine OweAll.cons (owes_call rfl rfl 24 fun a w1 ha hG hV => ?_) ?_
    · skip
      obtain ⟨q80, c80, h80, n80⟩ : NV (x) (a.tmps.getD 80 undef) w1 := hV.get 80 (by decide +kernel)
      obtain ⟨q83, c83, h83, n83⟩ : NV (y * z) (a.tmps.getD 83 undef) w1 := hV.get 83 (by decide +kernel)
      refine ⟨#[.agg #[.slice q80 (lb (x)).length c80], .agg #[.slice q83 (lb (y * z)).length c83]], (wanted_of (t := 73) rfl rfl (hV.get 73 (by decide +kernel))), by simp [execOp, resolve, invoke, go_sem, h80, h83], ?_⟩
      refine (mul_any q80 q83 c80 c83 (x) (y * z) w1 n80 n83 (by omega) (by omega)).mono ?_
      rintro r w2 ⟨qr, cr, rfl, hN, hb, hf⟩; have hq := (Nat.mul_assoc x y z).symm; rw [hq] at hN ⊢; exact ⟨_, rfl, ⟨qr, cr, rfl, hN⟩, hG.trans (hb.mono hG.size), fun _ _ h => Val.old h hb⟩
    refine OweAll.cons (owes_call rfl rfl 37 fun a w1 ha hG hV => ?_) ?_
    · skip
      have h74 : a.tmps.getD 74 undef = Value.func (.func 37) #[] #[] := hV.get 74 (by decide +kernel)
      obtain ⟨q79, c79, h79, n79⟩ : NV (x * y * z) (a.tmps.getD 79 undef) w1 := hV.get 79 (by decide +kernel)
      obtain ⟨q84, c84, h84, n84⟩ : NV (x * y * z) (a.tmps.getD 84 undef) w1 := hV.get 84 (by decide +kernel)
      refine ⟨#[.agg #[.slice q79 (lb (x * y * z)).length c79], .agg #[.slice q84 (lb (x * y * z)).length c84]], (wanted_of (t := 73) rfl rfl (hV.get 73 (by decide +kernel))), by simp [execOp, resolve, invoke, go_sem, h74, h79, h84], ?_⟩
      refine (same_any q79 q84 c79 c84 (x * y * z) w1 n79 n84 (by omega)).mono ?_
      rintro r w2 ⟨rfl, hb⟩; exact ⟨_, rfl, rfl, hG.trans (hb.mono hG.size), fun _ _ h => Val.old h hb⟩
    refine OweAll.cons (owes_val rfl rfl fun a w1 ha hG hV => ?_) ?_
    · skip
      have h73 : a.tmps.getD 73 undef = Value.bool true := hV.get 73 (by decide +kernel)
      have h85 : a.tmps.getD 85 undef = Value.bool true := hV.get 85 (by decide +kernel)
      exact ⟨.bool true, wanted_free rfl, by simp [execOp, go_sem, h73, h85], rfl⟩
    refine OweAll.cons (owes_val rfl rfl fun a w1 ha hG hV => ?_) ?_
    · skip
      have h86 : a.tmps.getD 86 undef = Value.bool true := hV.get 86 (by decide +kernel)
      exact ⟨Value.bool true, wanted_free rfl, by simp [execOp, go_sem, h86], rfl⟩
    refine OweAll.cons (owes_val rfl rfl fun a w1 ha hG hV => ?_) ?_
    · skip
      have h13 := ha.outer 13 (by decide +kernel)
      simp only [Act.eval] at h13
      exact ⟨Value.func (.func 37) #[] #[], (wanted_of (t := 87) rfl rfl (hV.get 87 (by decide +kernel))), by simp [execOp, go_sem, h13], rfl⟩
    refine OweAll.cons (owes_val rfl rfl fun a w1 ha hG hV => ?_) ?_
    · skip
      have h7 := ha.outer 7 (by decide +kernel)
      simp only [Act.eval] at h7
      have c7 := (Boxed.below' kx hG kx.lt).cell
      exact ⟨.agg #[.slice q1 (lb x).length c1], (wanted_of (t := 87) rfl rfl (hV.get 87 (by decide +kernel))), by simp [execOp, go_sem, h7, c7], ⟨_, _, rfl, nx.old hG⟩⟩
    refine OweAll.cons (owes_val rfl rfl fun a w1 ha hG hV => ?_) ?_
    · skip
      have h9 := ha.outer 9 (by decide +kernel)
      simp only [Act.eval] at h9
      have c9 := (Boxed.below' ky hG ky.lt).cell
      exact ⟨.agg #[.slice q2 (lb y).length c2], (wanted_of (t := 87) rfl rfl (hV.get 87 (by decide +kernel))), by simp [execOp, go_sem, h9, c9], ⟨_, _, rfl, ny.old hG⟩⟩
    refine OweAll.cons (owes_val rfl rfl fun a w1 ha hG hV => ?_) ?_
    · skip
      have h11 := ha.outer 11 (by decide +kernel)
      simp only [Act.eval] at h11
      have c11 := (Boxed.below' kz hG kz.lt).cell
      exact ⟨.agg #[.slice q3 (lb z).length c3], (wanted_of (t := 87) rfl rfl (hV.get 87 (by decide +kernel))), by simp [execOp, go_sem, h11, c11], ⟨_, _, rfl, nz.old hG⟩⟩
    refine OweAll.cons (owes_call rfl rfl 20 fun a w1 ha hG hV => ?_) ?_
    · skip
      obtain ⟨q90, c90, h90, n90⟩ : NV (y) (a.tmps.getD 90 undef) w1 := hV.get 90 (by decide +kernel)
      obtain ⟨q91, c91, h91, n91⟩ : NV (z) (a.tmps.getD 91 undef) w1 := hV.get 91 (by decide +kernel)
      refine ⟨#[.agg #[.slice q90 (lb (y)).length c90], .agg #[.slice q91 (lb (z)).length c91]], (wanted_of (t := 87) rfl rfl (hV.get 87 (by decide +kernel))), by simp [execOp, resolve, invoke, go_sem, h90, h91], ?_⟩
      refine (add_any q90 q91 c90 c91 (y) (z) w1 n90 n91 (by omega) (by omega)).mono ?_
      rintro r w2 ⟨qr, cr, rfl, hN, hb, hf⟩; exact ⟨_, rfl, ⟨qr, cr, rfl, hN⟩, hG.trans (hb.mono hG.size), fun _ _ h => Val.old h hb⟩
    refine OweAll.cons (owes_call rfl rfl 24 fun a w1 ha hG hV => ?_) ?_
    · skip
      obtain ⟨q89, c89, h89, n89⟩ : NV (x) (a.tmps.getD 89 undef) w1 := hV.get 89 (by decide +kernel)
      obtain ⟨q92, c92, h92, n92⟩ : NV (y + z) (a.tmps.getD 92 undef) w1 := hV.get 92 (by decide +kernel)
      refine ⟨#[.agg #[.slice q89 (lb (x)).length c89], .agg #[.slice q92 (lb (y + z)).length c92]], (wanted_of (t := 87) rfl rfl (hV.get 87 (by decide +kernel))), by simp [execOp, resolve, invoke, go_sem, h89, h92], ?_⟩
      refine (mul_any q89 q92 c89 c92 (x) (y + z) w1 n89 n92 (by omega) (by omega)).mono ?_
      rintro r w2 ⟨qr, cr, rfl, hN, hb, hf⟩; exact ⟨_, rfl, ⟨qr, cr, rfl, hN⟩, hG.trans (hb.mono hG.size), fun _ _ h => Val.old h hb⟩
    refine OweAll.cons (owes_val rfl rfl fun a w1 ha hG hV => ?_) ?_
    · skip
      have h7 := ha.outer 7 (by decide +kernel)
      simp only [Act.eval] at h7
      have c7 := (Boxed.below' kx hG kx.lt).cell
      exact ⟨.agg #[.slice q1 (lb x).length c1], (wanted_of (t := 87) rfl rfl (hV.get 87 (by decide +kernel))), by simp [execOp, go_sem, h7, c7], ⟨_, _, rfl, nx.old hG⟩⟩
    refine OweAll.cons (owes_val rfl rfl fun a w1 ha hG hV => ?_) ?_
    · skip
      have h9 := ha.outer 9 (by decide +kernel)
      simp only [Act.eval] at h9
      have c9 := (Boxed.below' ky hG ky.lt).cell
      exact ⟨.agg #[.slice q2 (lb y).length c2], (wanted_of (t := 87) rfl rfl (hV.get 87 (by decide +kernel))), by simp [execOp, go_sem, h9, c9], ⟨_, _, rfl, ny.old hG⟩⟩
    refine OweAll.cons (owes_call rfl rfl 24 fun a w1 ha hG hV => ?_) ?_
    · skip
      obtain ⟨q94, c94, h94, n94⟩ : NV (x) (a.tmps.getD 94 undef) w1 := hV.get 94 (by decide +kernel)
      obtain ⟨q95, c95, h95, n95⟩ : NV (y) (a.tmps.getD 95 undef) w1 := hV.get 95 (by decide +kernel)
      refine ⟨#[.agg #[.slice q94 (lb (x)).length c94], .agg #[.slice q95 (lb (y)).length c95]], (wanted_of (t := 87) rfl rfl (hV.get 87 (by decide +kernel))), by simp [execOp, resolve, invoke, go_sem, h94, h95], ?_⟩
      refine (mul_any q94 q95 c94 c95 (x) (y) w1 n94 n95 (by omega) (by omega)).mono ?_
      rintro r w2 ⟨qr, cr, rfl, hN, hb, hf⟩; exact ⟨_, rfl, ⟨qr, cr, rfl, hN⟩, hG.trans (hb.mono hG.size), fun _ _ h => Val.old h hb⟩
    refine OweAll.cons (owes_val rfl rfl fun a w1 ha hG hV => ?_) ?_
    · skip
      have h7 := ha.outer 7 (by decide +kernel)
      simp only [Act.eval] at h7
      have c7 := (Boxed.below' kx hG kx.lt).cell
      exact ⟨.agg #[.slice q1 (lb x).length c1], (wanted_of (t := 87) rfl rfl (hV.get 87 (by decide +kernel))), by simp [execOp, go_sem, h7, c7], ⟨_, _, rfl, nx.old hG⟩⟩
    refine OweAll.cons (owes_val rfl rfl fun a w1 ha hG hV => ?_) ?_
    · skip
      have h11 := ha.outer 11 (by decide +kernel)
      simp only [Act.eval] at h11
      have c11 := (Boxed.below' kz hG kz.lt).cell
      exact ⟨.agg #[.slice q3 (lb z).length c3], (wanted_of (t := 87) rfl rfl (hV.get 87 (by decide +kernel))), by simp [execOp, go_sem, h11, c11], ⟨_, _, rfl, nz.old hG⟩⟩
    refine OweAll.cons (owes_call rfl rfl 24 fun a w1 ha hG hV => ?_) ?_
    · skip
      obtain ⟨q97, c97, h97, n97⟩ : NV (x) (a.tmps.getD 97 undef) w1 := hV.get 97 (by decide +kernel)
      obtain ⟨q98, c98, h98, n98⟩ : NV (z) (a.tmps.getD 98 undef) w1 := hV.get 98 (by decide +kernel)
      refine ⟨#[.agg #[.slice q97 (lb (x)).length c97], .agg #[.slice q98 (lb (z)).length c98]], (wanted_of (t := 87) rfl rfl (hV.get 87 (by decide +kernel))), by simp [execOp, resolve, invoke, go_sem, h97, h98], ?_⟩
      refine (mul_any q97 q98 c97 c98 (x) (z) w1 n97 n98 (by omega) (by omega)).mono ?_
      rintro r w2 ⟨qr, cr, rfl, hN, hb, hf⟩; exact ⟨_, rfl, ⟨qr, cr, rfl, hN⟩, hG.trans (hb.mono hG.size), fun _ _ h => Val.old h hb⟩
    refine OweAll.cons (owes_call rfl rfl 20 fun a w1 ha hG hV => ?_) ?_
    · skip
      obtain ⟨q96, c96, h96, n96⟩ : NV (x * y) (a.tmps.getD 96 undef) w1 := hV.get 96 (by decide +kernel)
      obtain ⟨q99, c99, h99, n99⟩ : NV (x * z) (a.tmps.getD 99 undef) w1 := hV.get 99 (by decide +kernel)
      refine ⟨#[.agg #[.slice q96 (lb (x * y)).length c96], .agg #[.slice q99 (lb (x * z)).length c99]], (wanted_of (t := 87) rfl rfl (hV.get 87 (by decide +kernel))), by simp [execOp, resolve, invoke, go_sem, h96, h99], ?_⟩
      refine (add_any q96 q99 c96 c99 (x * y) (x * z) w1 n96 n99 (by omega) (by omega)).mono ?_
      rintro r w2 ⟨qr, cr, rfl, hN, hb, hf⟩; have hq := (Nat.mul_add x y z).symm; rw [hq] at hN ⊢; exact ⟨_, rfl, ⟨qr, cr, rfl, hN⟩, hG.trans (hb.mono hG.size), fun _ _ h => Val.old h hb⟩
    refine OweAll.cons (owes_call rfl rfl 37 fun a w1 ha hG hV => ?_) ?_
    · skip
      have h88 : a.tmps.getD 88 undef = Value.func (.func 37) #[] #[] := hV.get 88 (by decide +kernel)
      obtain ⟨q93, c93, h93, n93⟩ : NV (x * (y + z)) (a.tmps.getD 93 undef) w1 := hV.get 93 (by decide +kernel)
      obtain ⟨q100, c100, h100, n100⟩ : NV (x * (y + z)) (a.tmps.getD 100 undef) w1 := hV.get 100 (by decide +kernel)
      refine ⟨#[.agg #[.slice q93 (lb (x * (y + z))).length c93], .agg #[.slice q100 (lb (x * (y + z))).length c100]], (wanted_of (t := 87) rfl rfl (hV.get 87 (by decide +kernel))), by simp [execOp, resolve, invoke, go_sem, h88, h93, h100], ?_⟩
      refine (same_any q93 q100 c93 c100 (x * (y + z)) w1 n93 n100 (by omega)).mono ?_
      rintro r w2 ⟨rfl, hb⟩; exact ⟨_, rfl, rfl, hG.trans (hb.mono hG.size), fun _ _ h => Val.old h hb⟩
    refine OweAll.cons (owes_val rfl rfl fun a w1 ha hG hV => ?_) ?_
    · skip
      have h87 : a.tmps.getD 87 undef = Value.bool true := hV.get 87 (by decide +kernel)
      have h101 : a.tmps.getD 101 undef = Value.bool true := hV.get 101 (by decide +kernel)
      exact ⟨.bool true, wanted_free rfl, by simp [execOp, go_sem, h87, h101], rfl⟩
    refine OweAll.cons (owes_val rfl rfl fun a w1 ha hG hV => ?_) ?_
    · skip
      have h102 : a.tmps.getD 102 undef = Value.bool true := hV.get 102 (by decide +kernel)
      exact ⟨Value.bool true, wanted_free rfl, by simp [execOp, go_sem, h102], rfl⟩
    refine OweAll.cons (owes_val rfl rfl fun a w1 ha hG hV => ?_) ?_
    · skip
      have h15 := ha.outer 15 (by decide +kernel)
      simp only [Act.eval] at h15
      exact ⟨Value.bool true, (wanted_of (t := 103) rfl rfl (hV.get 103 (by decide +kernel))), by simp [execOp, go_sem, h15], rfl⟩
    refine OweAll.cons (owes_val rfl rfl fun a w1 ha hG hV => ?_) ?_
    · skip
      have h103 : a.tmps.getD 103 undef = Value.bool true := hV.get 103 (by decide +kernel)
      have h104 : a.tmps.getD 104 undef = Value.bool true := hV.get 104 (by decide +kernel)
      exact ⟨.bool true, wanted_free rfl, by simp [execOp, go_sem, h103, h104], rfl⟩
    refine OweAll.cons (owes_val rfl rfl fun a w1 ha hG hV => ?_) ?_
    · skip
      have h105 : a.tmps.getD 105 undef = Value.bool true := hV.get 105 (by decide +kernel)
      exact ⟨Value.bool true, wanted_free rfl, by simp [execOp, go_sem, h105], rfl⟩
    refine OweAll.cons (owes_val rfl rfl fun a w1 ha hG hV => ?_) ?_
    · skip
      have h13 := ha.outer 13 (by decide +kernel)
      simp only [Act.eval] at h13
      exact ⟨Value.func (.func 37) #[] #[], (wanted_of (t := 106) rfl rfl (hV.get 106 (by decide +kernel))), by simp [execOp, go_sem, h13], rfl⟩
    refine OweAll.cons (owes_val rfl rfl fun a w1 ha hG hV => ?_) ?_
    · skip
      have h14 := ha.outer 14 (by decide +kernel)
      simp only [Act.eval] at h14
      have c14 := (Boxed.below' kb hG kb.lt).cell
      exact ⟨.agg #[.slice qs (lb x).length cs], (wanted_of (t := 106) rfl rfl (hV.get 106 (by decide +kernel))), by simp [execOp, go_sem, h14, c14], ⟨_, _, rfl, nb.old hG⟩⟩
    refine OweAll.cons (owes_val rfl rfl fun a w1 ha hG hV => ?_) ?_
    · skip
      have h7 := ha.outer 7 (by decide +kernel)
      simp only [Act.eval] at h7
      have c7 := (Boxed.below' kx hG kx.lt).cell
      exact ⟨.agg #[.slice q1 (lb x).length c1], (wanted_of (t := 106) rfl rfl (hV.get 106 (by decide +kernel))), by simp [execOp, go_sem, h7, c7], ⟨_, _, rfl, nx.old hG⟩⟩
    refine OweAll.cons (owes_call rfl rfl 37 fun a w1 ha hG hV => ?_) ?_
    · skip
      have h107 : a.tmps.getD 107 undef = Value.func (.func 37) #[] #[] := hV.get 107 (by decide +kernel)
      obtain ⟨q108, c108, h108, n108⟩ : NV (x) (a.tmps.getD 108 undef) w1 := hV.get 108 (by decide +kernel)
      obtain ⟨q109, c109, h109, n109⟩ : NV (x) (a.tmps.getD 109 undef) w1 := hV.get 109 (by decide +kernel)
      refine ⟨#[.agg #[.slice q108 (lb (x)).length c108], .agg #[.slice q109 (lb (x)).length c109]], (wanted_of (t := 106) rfl rfl (hV.get 106 (by decide +kernel))), by simp [execOp, resolve, invoke, go_sem, h107, h108, h109], ?_⟩
      refine (same_any q108 q109 c108 c109 (x) w1 n108 n109 (by omega)).mono ?_
      rintro r w2 ⟨rfl, hb⟩; exact ⟨_, rfl, rfl, hG.trans (hb.mono hG.size), fun _ _ h => Val.old h hb⟩
    refine OweAll.cons (owes_val rfl rfl fun a w1 ha hG hV => ?_) ?_
    · skip
      have h106 : a.tmps.getD 106 undef = Value.bool true := hV.get 106 (by decide +kernel)
      have h110 : a.tmps.getD 110 undef = Value.bool true := hV.get 110 (by decide +kernel)
      exact ⟨.bool true, wanted_free rfl, by simp [execOp, go_sem, h106, h110], rfl⟩
    refine OweAll.cons (owes_val rfl rfl fun a w1 ha hG hV => ?_) ?_
    · skip
      have h111 : a.tmps.getD 111 undef = Value.bool true := hV.get 111 (by decide +kernel)
      exact ⟨Value.bool true, wanted_free rfl, by simp [execOp, go_sem, h111], rfl⟩
    refine OweAll.cons (owes_val rfl rfl fun a w1 ha hG hV => ?_) ?_
    · skip
      have h13 := ha.outer 13 (by decide +kernel)
      simp only [Act.eval] at h13
      exact ⟨Value.func (.func 37) #[] #[], (wanted_of (t := 112) rfl rfl (hV.get 112 (by decide +kernel))), by simp [execOp, go_sem, h13], rfl⟩
    refine OweAll.cons (owes_val rfl rfl fun a w1 ha hG hV => ?_) ?_
    · skip
      have h7 := ha.outer 7 (by decide +kernel)
      simp only [Act.eval] at h7
      have c7 := (Boxed.below' kx hG kx.lt).cell
      exact ⟨.agg #[.slice q1 (lb x).length c1], (wanted_of (t := 112) rfl rfl (hV.get 112 (by decide +kernel))), by simp [execOp, go_sem, h7, c7], ⟨_, _, rfl, nx.old hG⟩⟩
    refine OweAll.cons (owes_call rfl rfl 36 fun a w1 ha hG hV => ?_) ?_
    · skip
      refine ⟨#[.int .u64 1], (wanted_of (t := 112) rfl rfl (hV.get 112 (by decide +kernel))), by simp [execOp, resolve, invoke, go_sem], ?_⟩
      refine (nofn_any 1 w1 (Lib.hid (by decide))).mono ?_
      rintro r w2 ⟨qr, cr, rfl, hN, hb, hf⟩; exact ⟨_, rfl, ⟨qr, cr, rfl, hN⟩, hG.trans (hb.mono hG.size), fun _ _ h => Val.old h hb⟩
    refine OweAll.cons (owes_call rfl rfl 24 fun a w1 ha hG hV => ?_) ?_
    · skip
      obtain ⟨q114, c114, h114, n114⟩ : NV (x) (a.tmps.getD 114 undef) w1 := hV.get 114 (by decide +kernel)
      obtain ⟨q115, c115, h115, n115⟩ : NV (1) (a.tmps.getD 115 undef) w1 := hV.get 115 (by decide +kernel)
      refine ⟨#[.agg #[.slice q114 (lb (x)).length c114], .agg #[.slice q115 (lb (1)).length c115]], (wanted_of (t := 112) rfl rfl (hV.get 112 (by decide +kernel))), by simp [execOp, resolve, invoke, go_sem, h114, h115], ?_⟩
      refine (mul_any q114 q115 c114 c115 (x) (1) w1 n114 n115 (by omega) (by omega)).mono ?_
      rintro r w2 ⟨qr, cr, rfl, hN, hb, hf⟩; have hq := Nat.mul_one x; rw [hq] at hN ⊢; exact ⟨_, rfl, ⟨qr, cr, rfl, hN⟩, hG.trans (hb.mono hG.size), fun _ _ h => Val.old h hb⟩
    refine OweAll.cons (owes_val rfl rfl fun a w1 ha hG hV => ?_) ?_
    · skip
      have h7 := ha.outer 7 (by decide +kernel)
      simp only [Act.eval] at h7
      have c7 := (Boxed.below' kx hG kx.lt).cell
      exact ⟨.agg #[.slice q1 (lb x).length c1], (wanted_of (t := 112) rfl rfl (hV.get 112 (by decide +kernel))), by simp [execOp, go_sem, h7, c7], ⟨_, _, rfl, nx.old hG⟩⟩
    refine OweAll.cons (owes_call rfl rfl 37 fun a w1 ha hG hV => ?_) ?_
    · skip
      have h113 : a.tmps.getD 113 undef = Value.func (.func 37) #[] #[] := hV.get 113 (by decide +kernel)
      obtain ⟨q116, c116, h116, n116⟩ : NV (x) (a.tmps.getD 116 undef) w1 := hV.get 116 (by decide +kernel)
      obtain ⟨q117, c117, h117, n117⟩ : NV (x) (a.tmps.getD 117 undef) w1 := hV.get 117 (by decide +kernel)
      refine ⟨#[.agg #[.slice q116 (lb (x)).length c116], .agg #[.slice q117 (lb (x)).length c117]], (wanted_of (t := 112) rfl rfl (hV.get 112 (by decide +kernel))), by simp [execOp, resolve, invoke, go_sem, h113, h116, h117], ?_⟩
      refine (same_any q116 q117 c116 c117 (x) w1 n116 n117 (by omega)).mono ?_
      rintro r w2 ⟨rfl, hb⟩; exact ⟨_, rfl, rfl, hG.trans (hb.mono hG.size), fun _ _ h => Val.old h hb⟩
    refine OweAll.cons (owes_val rfl rfl fun a w1 ha hG hV => ?_) ?_
    · skip
      have h112 : a.tmps.getD 112 undef = Value.bool true := hV.get 112 (by decide +kernel)
      have h118 : a.tmps.getD 118 undef = Value.bool true := hV.get 118 (by decide +kernel)
      exact ⟨.bool true, wanted_free rfl, by simp [execOp, go_sem, h112, h118], rfl⟩
    refine OweAll.cons (owes_val rfl rfl fun a w1 ha hG hV => ?_) ?_
    · skip
      have h119 : a.tmps.getD 119 undef = Value.bool true := hV.get 119 (by decide +kernel)
      exact ⟨Value.bool true, wanted_free rfl, by simp [execOp, go_sem, h119], rfl⟩
    refine OweAll.cons (owes_val rfl rfl fun a w1 ha hG hV => ?_) ?_
    · skip
      have h7 := ha.outer 7 (by decide +kernel)
      simp only [Act.eval] at h7
      have c7 := (Boxed.below' kx hG kx.lt).cell
      exact ⟨.agg #[.slice q1 (lb x).length c1], (wanted_of (t := 120) rfl rfl (hV.get 120 (by decide +kernel))), by simp [execOp, go_sem, h7, c7], ⟨_, _, rfl, nx.old hG⟩⟩
    refine OweAll.cons (owes_val rfl rfl fun a w1 ha hG hV => ?_) ?_
    · skip
      exact ⟨.agg #[.slice none 0 0], (wanted_of (t := 120) rfl rfl (hV.get 120 (by decide +kernel))), by simp [execOp, go_sem], NV.zero _⟩
    refine OweAll.cons (owes_call rfl rfl 24 fun a w1 ha hG hV => ?_) ?_
    · skip
      obtain ⟨q121, c121, h121, n121⟩ : NV (x) (a.tmps.getD 121 undef) w1 := hV.get 121 (by decide +kernel)
      obtain ⟨q122, c122, h122, n122⟩ : NV (0) (a.tmps.getD 122 undef) w1 := hV.get 122 (by decide +kernel)
      refine ⟨#[.agg #[.slice q121 (lb (x)).length c121], .agg #[.slice q122 (lb (0)).length c122]], (wanted_of (t := 120) rfl rfl (hV.get 120 (by decide +kernel))), by simp [execOp, resolve, invoke, go_sem, h121, h122], ?_⟩
      refine (mul_any q121 q122 c121 c122 (x) (0) w1 n121 n122 (by omega) (by omega)).mono ?_
      rintro r w2 ⟨qr, cr, rfl, hN, hb, hf⟩; have hq := Nat.mul_zero x; rw [hq] at hN ⊢; exact ⟨_, rfl, ⟨qr, cr, rfl, hN⟩, hG.trans (hb.mono hG.size), fun _ _ h => Val.old h hb⟩
    refine OweAll.cons (owes_call rfl rfl 28 fun a w1 ha hG hV => ?_) ?_
    · skip
      obtain ⟨q123, c123, h123, n123⟩ : NV (0) (a.tmps.getD 123 undef) w1 := hV.get 123 (by decide +kernel)
      refine ⟨#[.agg #[.slice q123 (lb (0)).length c123]], (wanted_of (t := 120) rfl rfl (hV.get 120 (by decide +kernel))), by simp [execOp, resolve, invoke, go_sem, h123], ?_⟩
      refine (zero_any q123 c123 0 w1).mono ?_
      rintro r w2 ⟨rfl, hb⟩; exact ⟨_, rfl, rfl, hG.trans (hb.mono hG.size), fun _ _ h => Val.old h hb⟩
    refine OweAll.cons (owes_val rfl rfl fun a w1 ha hG hV => ?_) ?_
    · skip
      have h120 : a.tmps.getD 120 undef = Value.bool true := hV.get 120 (by decide +kernel)
      have h124 : a.tmps.getD 124 undef = Value.bool true := hV.get 124 (by decide +kernel)
      exact ⟨.bool true, wanted_free rfl, by simp [execOp, go_sem, h120, h124], rfl⟩
    refine OweAll.cons (owes_val rfl rfl fun a w1 ha hG hV => ?_) ?_
    · skip
      have h125 : a.tmps.getD 125 undef = Value.bool true := hV.get 125 (by decide +kernel)
      exact ⟨Value.bool true, wanted_free rfl, by simp [execOp, go_sem, h125], rfl⟩
    exact OweAll.nil
  · intro a w1 ha hG hv
    rename_i hK
    have h6 : a.tmps.getD 6 undef = .bool true := hv 85 _ 6 rfl rfl
    refine hK _ _ (wp_ret ?_)
    show bodyPost Tryd.prog Tryd.f5 _ .ret a w1
    refine bodyPost_ret (results_tmp (t := 6) rfl _ _ _) ha.defers ?_
    rw [h6]
    exact ⟨rfl, hB.trans (hG.mono hB.size)⟩
end Go.Proofs.YtepibfpdkjkdjaaDoor
