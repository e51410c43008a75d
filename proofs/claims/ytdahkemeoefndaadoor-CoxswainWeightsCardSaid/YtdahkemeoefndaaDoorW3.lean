/- Texts 3: what the laws lean on. -/
import Derived.Test.YtdahkemeoefndaaDoorW2
import Derived.Test.YtdahkemeoefndaaDoorW1
import Derived.StillTailTactics
import Derived.Great.BuildSlice
import Derived.Lib.BitFns
import Derived.Deep.SlicePairs
import Derived.ChangeArms
import Derived.WalkKit
import Derived.ProofKit
import Derived.OpenShut
import Derived.Deep.Slices
namespace Go.Proofs.YtdahkemeoefndaaDoor
open Go.RowKit

/-- What stays where nothing below turns. -/
structure Stays where
  p : Value → World → Prop
  old : ∀ {v : Value} {w w' : World}, p v w → Below w.heap.size w w' → p v w'
inductive Kd where
  | any
  | eq (v : Value)
  | st (s : Stays)
def VK : Kd → Value → World → Prop
  | .any, _, _ => True
  | .eq x, v, _ => v = x
  | .st s, v, w => s.p v w
theorem VK.old {k : Kd} {v : Value} {w w' : World} (h : VK k v w) (hb : Below w.heap.size w w') : VK k v w' := by
  cases k with
  | any => trivial
  | eq x => exact h
  | st s => exact s.old h hb
theorem not_wanted {ops : Array Oper} {o : Oper} {a : Act} {g : Nat} {want : Bool} {t : Tmp} {v : Value} (hg : o.guard = some (g, want)) (hd : (ops[g]?).bind (·.dst) = some t) (h : a.eval (.tmp t) = v) (hv : v ≠ .bool want) : Region.wanted o (yielded ops a.tmps) = false := by
  unfold Region.wanted yielded
  rw [hg]
  simp only [hd, Option.bind_some]
  unfold Act.eval at h
  cases hc : a.tmps[t]? with
  | none => rfl
  | some x =>
    simp [hc] at h
    subst h
    cases x with
    | bool b =>
      simp only [beq_eq_false_iff_ne, ne_eq, Option.some.injEq]
      intro e; exact hv (by rw [e])
    | _ => rfl
section
variable {P : Program} {ops : Array Oper} {Q : Exit → Act → World → Prop} {md : Region.Mode} {K : Tmp → Kd} {W : World} {a0 : Act}
/-- An operation that is not wanted. -/
theorem owesK_not {i : Nat} {o : Oper} {t : Tmp} (hi : ops[i]? = some o) (ht : o.dst = some t)
    (h : ∀ a w, Agree ops a0 a → Below W.heap.size W w → AllV (fun t v w => VK (K t) v w) a w (waits md ops o) → Region.wanted o (yielded ops a.tmps) = false ∧ VK (K t) undef w) : Owes P md ops Q (fun t v w => VK (K t) v w) (fun w => Below W.heap.size W w) a0 i o := by
  intro a w ha hG hV
  obtain ⟨hw, hv⟩ := h a w ha hG hV
  unfold wpOp
  rw [hi]
  simp only [hw]
  exact ⟨undef, rfl, fun u hu => by rw [ht] at hu; cases hu; exact hv, hG, fun _ _ h => h⟩
/-- An operation that yields a value, and may make memory. -/
theorem owesK {i : Nat} {o : Oper} {t : Tmp} (hi : ops[i]? = some o) (ht : o.dst = some t) (h : ∀ a w, Agree ops a0 a → Below W.heap.size W w → AllV (fun t v w => VK (K t) v w) a w (waits md ops o) →
    ∃ v w', Region.wanted o (yielded ops a.tmps) = true ∧ (execOp a.eval o).run P w = .ok (.value v) w' ∧ Below w.heap.size w w' ∧ VK (K t) v w') : Owes P md ops Q (fun t v w => VK (K t) v w) (fun w => Below W.heap.size W w) a0 i o := by
  intro a w ha hG hV
  obtain ⟨v, w', hw, hr, hb, hv⟩ := h a w ha hG hV
  unfold wpOp
  rw [hi]
  simp only [hw, if_true, Oper.wp, hr, Oper.upon]
  exact .inl ⟨v, rfl, fun u hu => by rw [ht] at hu; cases hu; exact hv, hG.trans (hb.mono hG.size), fun _ _ h => VK.old h hb⟩
/-- A call. -/
theorem owesK_call {i : Nat} {o : Oper} {t : Tmp} (hi : ops[i]? = some o) (ht : o.dst = some t) (f : FuncId) (h : ∀ a w, Agree ops a0 a → Below W.heap.size W w → AllV (fun t v w => VK (K t) v w) a w (waits md ops o) →
    ∃ args, Region.wanted o (yielded ops a.tmps) = true ∧ (execOp a.eval o).run P w = .ok (.enter f args) w ∧
      Calls P f args w fun e w' => ∃ v, e = .returned v ∧ VK (K t) v w' ∧ Below w.heap.size w w') : Owes P md ops Q (fun t v w => VK (K t) v w) (fun w => Below W.heap.size W w) a0 i o := by
  intro a w ha hG hV
  obtain ⟨args, hw, hr, hc⟩ := h a w ha hG hV
  unfold wpOp
  rw [hi]
  simp only [hw, if_true, Oper.wp, hr, Oper.upon]
  refine .inl (hc.mono ?_)
  rintro e w' ⟨v, rfl, h1, hb⟩
  exact ⟨v, rfl, fun u hu => by rw [ht] at hu; cases hu; exact h1, hG.trans (hb.mono hG.size), fun _ _ h => VK.old h hb⟩
end
end Go.Proofs.YtdahkemeoefndaaDoor

namespace Go.Proofs.YtdahkemeoefndaaDoor.NN
open Go.RowKit

/-- While it is taken away. -/
structure SubR (W : World) (pc : Option Addr) (n x y i : Nat) (S : List Nat) (c : Nat) (cs : Nat) (wr : World) : Prop where
  s : Sl .u32 59 wr pc cs S
  len : S.length = n
  lt : ∀ z ∈ S, z < 4294967296
  high : ∀ t (h : t < S.length), i ≤ t → S[t] = x / 4294967296 ^ t % 4294967296
  val : vl 4294967296 (S.take i) + y % 4294967296 ^ i = x % 4294967296 ^ i + 4294967296 ^ i * c
  c1 : c ≤ 1
  m : Mod (fun i => ∃ a, pc = some a ∧ i = a.block) W wr
theorem SubR.next {W : World} {g n x y i : Nat} {S : List Nat} {c cs : Nat} {wr : World} (h : SubR W (some ⟨g, 0, none⟩) n x y i S c cs wr) (hi : i < n) (dx dy : Nat) (hdx : dx = x / 4294967296 ^ i % 4294967296) (hdy : dy = y / 4294967296 ^ i % 4294967296) :
    SubR W (some ⟨g, 0, none⟩) n x y (i + 1) (S.set i ((4294967296 + dx - dy - c) % 4294967296)) (if dx < dy + c then 1 else 0) cs (wr.setCell ⟨g, i, none⟩ (.int .u32 (((4294967296 + dx - dy - c) % 4294967296 : Nat) : Int))) := by
  have hl : i < S.length := by rw [h.len]; exact hi
  have hst := sub_step 4294967296 x y i _ c dx dy (by decide) hdx hdy h.c1 h.val
  refine ⟨h.s.set _ _, by simpa using h.len, set_lt h.lt (Nat.mod_lt _ (by decide)), ?_, ?_, by split <;> omega, h.m.setCell (p := ⟨g, i, none⟩) (fun _ => ⟨⟨g, 0, none⟩, rfl, rfl⟩) _⟩
  · intro t ht hit
    rw [List.getElem_set_ne (by omega)]
    exact h.high t (by simpa using ht) (by omega)
  · have e : (S.set i ((4294967296 + dx - dy - c) % 4294967296)).take (i + 1) = S.take i ++ [(4294967296 + dx - dy - c) % 4294967296] := by
      rw [List.take_succ_eq_append_getElem (by simpa using hl), List.getElem_set_self, List.take_set_of_le (Nat.le_refl i)]
    rw [e, vl_app, List.length_take, Nat.min_eq_left (Nat.le_of_lt hl)]
    simp only [vl, Nat.mul_zero, Nat.add_zero]
    exact hst

/-- b is greater: nothing. -/
def SubNo (w : World) (r : Ending) (w' : World) : Prop := r = .returned (.tuple #[.agg #[.slice none 0 0], .bool false]) ∧ Below w.heap.size w w'
def SubYes (w : World) (z : Nat) (r : Ending) (w' : World) : Prop :=
  ∃ q c, r = .returned (.tuple #[.agg #[.slice q (lb z).length c], .bool true]) ∧ NatIn w' q c z ∧ Below w.heap.size w w' ∧ (∀ a, q = some a → w.heap.size ≤ a.block)

set_option maxHeartbeats 1000000 in
theorem sub_no (p q : Option Addr) (cp cq x y : Nat) (w : World) (hx : NatIn w p cp x) (hy : NatIn w q cq y) (lx : (lb x).length ≤ 100000) (hlt : x < y) :
    Calls Tryd.prog 9 #[.agg #[.slice p (lb x).length cp], .agg #[.slice q (lb y).length cq]] w (SubNo w) := by
  have e : cmpI x y = -1 := by unfold cmpI; rw [if_pos hlt]
  have hB : Below w.heap.size w (((w.alloc (.cells #[.slice p (lb x).length cp] 26)).alloc (.cells #[.slice q (lb y).length cq] 26)).alloc (.cells #[.slice none 0 0] 26)) := (((Below.refl _ _).alloc (Nat.le_refl _) _).alloc (by simp) _).alloc (by simp; omega) _
  have h4 : Boxed (((w.alloc (.cells #[.slice p (lb x).length cp] 26)).alloc (.cells #[.slice q (lb y).length cq] 26)).alloc (.cells #[.slice none 0 0] 26)) (w.heap.size + 1 + 1) 26 (.slice none 0 0) := by
    have := Boxed.new ((w.alloc (.cells #[.slice p (lb x).length cp] 26)).alloc (.cells #[.slice q (lb y).length cq] 26)) 26 (.slice none 0 0)
    rwa [World.size_alloc, World.size_alloc] at this
  have hc := cmp_any p q cp cq x y _ (hx.old hB) (hy.old hB) (by omega)
  rw [e] at hc
  have Hc := Lib.hid hc
  clear hc e
  go_enter Tryd.func9, Tryd.ntmps9
  go_wp2_with fail
  refine Hc.out.mono ?_
  rintro r w1 ⟨rfl, hb⟩
  have k4 := Boxed.below' h4 hb h4.lt
  have hB1 := hB.trans (hb.mono hB.size)
  have c4 := k4.cell
  have f4 := k4.frozen
  clear hB hb h4
  go_wp2_with fail
  have c5 := (k4.set (.slice none 0 0)).cell
  refine bodyPost_ret (v := .tuple #[.agg #[.slice none 0 0], .bool false]) (by simp [results, Tryd.results9, go_sem, c5]) rfl ⟨rfl, ?_⟩
  exact hB1.setCell (p := ⟨w.heap.size + 1 + 1, 0, none⟩) (by show w.heap.size ≤ w.heap.size + 1 + 1; omega) _

set_option maxHeartbeats 2000000 in
theorem sub_yes (p q : Option Addr) (cp cq x y : Nat) (w : World) (hx : NatIn w p cp x) (hy : NatIn w q cq y) (lx : (lb x).length ≤ 100000) (hle : Hid (y ≤ x)) :
    Calls Tryd.prog 9 #[.agg #[.slice p (lb x).length cp], .agg #[.slice q (lb y).length cq]] w (SubYes w (x - y)) := by
  obtain ⟨z, hz⟩ : ∃ z, z = x - y := ⟨_, rfl⟩
  rw [← hz]
  have HZ := Lib.hid hz
  clear hz
  have hB : Below w.heap.size w (((w.alloc (.cells #[.slice p (lb x).length cp] 26)).alloc (.cells #[.slice q (lb y).length cq] 26)).alloc (.cells #[.slice none 0 0] 26)) := (((Below.refl _ _).alloc (Nat.le_refl _) _).alloc (by simp) _).alloc (by simp; omega) _
  have h2 : Boxed (((w.alloc (.cells #[.slice p (lb x).length cp] 26)).alloc (.cells #[.slice q (lb y).length cq] 26)).alloc (.cells #[.slice none 0 0] 26)) w.heap.size 26 (.slice p (lb x).length cp) := ((Boxed.new w _ _).alloc _).alloc _
  have h3 : Boxed (((w.alloc (.cells #[.slice p (lb x).length cp] 26)).alloc (.cells #[.slice q (lb y).length cq] 26)).alloc (.cells #[.slice none 0 0] 26)) (w.heap.size + 1) 26 (.slice q (lb y).length cq) := by
    have := (Boxed.new (w.alloc (.cells #[.slice p (lb x).length cp] 26)) 26 (.slice q (lb y).length cq)).alloc (.cells #[.slice none 0 0] 26)
    rwa [World.size_alloc] at this
  have h4 : Boxed (((w.alloc (.cells #[.slice p (lb x).length cp] 26)).alloc (.cells #[.slice q (lb y).length cq] 26)).alloc (.cells #[.slice none 0 0] 26)) (w.heap.size + 1 + 1) 26 (.slice none 0 0) := by
    have := Boxed.new ((w.alloc (.cells #[.slice p (lb x).length cp] 26)).alloc (.cells #[.slice q (lb y).length cq] 26)) 26 (.slice none 0 0)
    rwa [World.size_alloc, World.size_alloc] at this
  have Hc := Lib.hid (cmp_any p q cp cq x y _ (hx.old hB) (hy.old hB) (by omega))
  have hcb : decide (cmpI x y < 0) = false := by have := hle.out; unfold cmpI; rw [if_neg (by omega)]; split <;> rfl
  have hly : (lb y).length ≤ (lb x).length := lb_le hle.out
  generalize cmpI x y = cv at Hc hcb
  go_enter Tryd.func9, Tryd.ntmps9
  go_wp2_with fail
  refine Hc.out.mono ?_
  clear Hc
  rintro r w1 ⟨rfl, hb⟩
  have k2 := Boxed.below' h2 hb h2.lt
  have k3 := Boxed.below' h3 hb h3.lt
  have k4 := Boxed.below' h4 hb h4.lt
  have hB1 := hB.trans (hb.mono hB.size)
  have hx1 := hx.old hB1
  have hy1 := hy.old hB1
  have hyl : ∀ a, q = some a → a.block < w.heap.size := by rintro a rfl; exact hy.lt
  have c2 := k2.cell
  clear hB hb h2 h3 h4 hx hy k2
  go_wp2_with fail
  refine (clone_any p cp (lb x) w1 hx1 (by omega)).mono ?_
  rintro r w2 ⟨pc, cc, rfl, hS, hb2, hf2⟩
  have k3' := Boxed.below' k3 hb2 k3.lt
  have k4' := Boxed.below' k4 hb2 k4.lt
  have hB2 := hB1.trans (hb2.mono hB1.size)
  have hy2 := hy1.old hb2
  have s1 := k4.lt
  have hf3 : ∀ a, pc = some a → w.heap.size + 2 < a.block := by intro a e; have := hf2 a e; omega
  clear c2 k3 k4 hB1 hx1 hy1 hb2 hf2 s1
  obtain ⟨n, hn⟩ : ∃ n, n = (lb x).length := ⟨_, rfl⟩
  rw [← hn] at lx hly ⊢
  have Hn := Lib.hid hn
  clear hn
  have hS' : Sl .u32 59 w2 pc cc (lb x) := hS
  have hR0 : SubR w2 pc n x y 0 (lb x) 0 cc w2 := by
    refine ⟨hS', Hn.out.symm, lb_lt x, ?_, by simp [vl, Nat.mod_one], by omega, Mod.refl _ _⟩
    intro t ht _
    exact dg_at 4294967296 (by decide) x t ht
  clear hS hS'
  obtain ⟨nY, hnY⟩ : ∃ m, m = (lb y).length := ⟨_, rfl⟩
  rw [← hnY] at hly k3' ⊢
  have HnY := Lib.hid hnY
  clear hnY
  go_upto_block 0 with fail
  go_cut [7] (fun s7 wx => ∃ (S : List Nat) (c : Nat), s7 = .int .u32 (c : Int) ∧ SubR w2 pc n x y n S c cc wx)
  case first =>
    go_wp2_with fail
    go_loopw [7, 21] (fun s7 s21 wr => ∃ (i : Nat) (S : List Nat) (c : Nat), i ≤ n ∧ s21 = .int .i64 (i : Int) ∧ s7 = .int .u32 (c : Int) ∧ SubR w2 pc n x y i S c cc wr) (fun _ i _ => n - (intOf i).toNat)
    case atStart => exact ⟨0, _, 0, by omega, rfl, rfl, hR0⟩
    case round =>
      clear hR0
      obtain ⟨i, S, c, hi, rfl, rfl, hR⟩ := hrel
      by_cases hin : i < n
      · have hiS : i < S.length := by rw [hR.len]; exact hin
        obtain ⟨g, rfl⟩ := hR.s.isPtr (by intro e; rw [e] at hiS; simp at hiS)
        have hg : w.heap.size + 2 < g := hf3 _ rfl
        obtain ⟨dx, hdx⟩ : ∃ d, d = x / 4294967296 ^ i % 4294967296 := ⟨_, rfl⟩
        obtain ⟨dy, hdy⟩ : ∃ d, d = y / 4294967296 ^ i % 4294967296 := ⟨_, rfl⟩
        have ldx : dx < 4294967296 := by rw [hdx]; exact Nat.mod_lt _ (by decide)
        have ldy : dy < 4294967296 := by rw [hdy]; exact Nat.mod_lt _ (by decide)
        have cx : wr.cell? ⟨g, i, none⟩ = some (.int .u32 (dx : Int)) := by rw [hdx, ← hR.high i hiS (Nat.le_refl _)]; exact hR.s.cell i hiS
        have fx := hR.s.froz i
        have r3 := (Boxed.mod' k3' hR.m (by rintro ⟨a, e, he⟩; cases e; have : w.heap.size + 1 = g := he; omega)).cell
        have i0 : (0 : Int) ≤ i := by omega
        have i1 : (i : Int) < n := by omega
        have c1 := hR.c1
        have Hn' := Lib.hid (hR.next hin dx dy hdx hdy)
        have hsb := sub32_any dx dy c wr ldx ldy c1
        obtain ⟨v, hv⟩ : ∃ v, v = (4294967296 + dx - dy - c) % 4294967296 := ⟨_, rfl⟩
        obtain ⟨c2, hc2⟩ : ∃ c2, c2 = if dx < dy + c then 1 else 0 := ⟨_, rfl⟩
        rw [← hv, ← hc2] at hsb Hn'
        have Hsb := Lib.hid hsb
        clear hsb hv hc2
        by_cases hiy : i < nY
        · have hiy2 : i < (lb y).length := by rw [← HnY.out]; exact hiy
          obtain ⟨gy, rfl⟩ := hy2.isPtr (by intro e; rw [e] at hiy2; simp at hiy2)
          have hgy : gy < w.heap.size := hyl _ rfl
          have hyr := hy2.kept hR.m (by rintro a e ⟨b, e', he⟩; cases e; cases e'; have : gy = g := he; omega)
          have cy : wr.cell? ⟨gy, i, none⟩ = some (.int .u32 (dy : Int)) := by rw [hdy, ← dg_at 4294967296 (by decide) y i hiy2]; exact hyr.cell i hiy2
          have i3 : (i : Int) < nY := by omega
          clear hdx hdy hyr hR
          go_wp2_with fail
          refine Hsb.out.mono ?_
          rintro r w3 ⟨rfl, rfl⟩
          go_wp2_with fail
          go_roundw
          case rel => exact ⟨i + 1, _, c2, by omega, by go_num, rfl, Hn'.out⟩
          case measure => simp [intOf]; omega
        · have hy0 : dy = 0 := by
            have h := dg_getD 4294967296 (by decide) y i
            rw [List.getD_eq_getElem?_getD, List.getElem?_eq_none (by show (lb y).length ≤ i; rw [← HnY.out]; omega)] at h
            rw [hdy, ← h]; rfl
          subst hy0
          clear hdx hdy hR
          go_wp2_with fail
          refine Hsb.out.mono ?_
          rintro r w3 ⟨rfl, rfl⟩
          go_wp2_with fail
          go_roundw
          case rel => exact ⟨i + 1, _, c2, by omega, by go_num, rfl, Hn'.out⟩
          case measure => simp [intOf]; omega
      · obtain rfl : i = n := by omega
        go_wp2_with fail
        go_meet
        exact ⟨S, c, rfl, hR⟩
  case rest =>
  obtain ⟨S, c, rfl, hR⟩ := hcut
  rename World => wz
  have hval : Hid (vl 4294967296 S = z) := Lib.hid (by
    have hv := hR.val
    have hx := lt_pow_dg 4294967296 (by decide) x
    have hxn : x < 4294967296 ^ n := by rw [Hn.out]; exact hx
    have hle' := hle.out
    have hyn : y < 4294967296 ^ n := by omega
    have hvl := vl_lt 4294967296 S hR.lt
    rw [hR.len] at hvl
    rw [List.take_of_length_le (by rw [hR.len]; exact Nat.le_refl _), Nat.mod_eq_of_lt hxn, Nat.mod_eq_of_lt hyn] at hv
    have hc := hR.c1
    rw [HZ.out]
    generalize 4294967296 ^ n = P at *
    rcases (show c = 0 ∨ c = 1 by omega) with rfl | rfl
    · omega
    · omega)
  have hTS := hR.s
  have hTl := hR.len
  have hTb := hR.lt
  have hM2 := hR.m
  have k4z := Boxed.mod' k4' hM2 (by rintro ⟨a, e, he⟩; have := hf3 a e; omega)
  have hBz := hB2.trans (hM2.to_below (B := w.heap.size) hB2.size (by rintro k hk ⟨a, e, he⟩; have := hf3 a e; omega))
  clear hR hR0 hM2 hB2 k4' k3' hy2
  go_wp2_with fail
  have htr := trim_any pc cc S wz hTS hTb (by omega)
  rw [hTl, hval.out] at htr
  refine htr.mono ?_
  clear htr
  rintro r w' ⟨q3, c', rfl, hN, hb, hq⟩
  have b4 := Boxed.below' k4z hb k4z.lt
  have hB3 := hBz.trans (hb.mono hBz.size)
  have hq2 : ∀ a, q3 = some a → w.heap.size + 2 < a.block := by
    rintro a rfl
    rcases hq with h | h
    · cases h
    · exact hf3 a h.symm
  have c4 := b4.cell
  have f4 := b4.frozen
  clear hb hq hBz k4z hTS hTb
  go_wp2_with fail
  have c5 := (b4.set (.slice q3 (lb z).length c')).cell
  refine bodyPost_ret (v := .tuple #[.agg #[.slice q3 (lb z).length c'], .bool true]) (by simp [results, Tryd.results9, go_sem, c5]) rfl ⟨q3, c', rfl, ?_, ?_, fun a e => by have := hq2 a e; omega⟩
  · exact hN.other ⟨w.heap.size + 1 + 1, 0, none⟩ _ (fun a e => by have := hq2 a e; show a.block ≠ w.heap.size + 1 + 1; omega)
  · exact hB3.setCell (p := ⟨w.heap.size + 1 + 1, 0, none⟩) (by show w.heap.size ≤ w.heap.size + 1 + 1; omega) _
end Go.Proofs.YtdahkemeoefndaaDoor.NN

namespace Go.Proofs.YtdahkemeoefndaaDoor.NN
open Go.RowKit

/-- Steps. -/
def encT : Enc (Nat × Int) := ⟨fun s => [.int .u64 (s.1 : Int), .int .i64 s.2], 2, fun _ => rfl, fun s v hv => by
  simp only [List.mem_cons, List.not_mem_nil, or_false] at hv
  rcases hv with rfl | rfl <;> rfl, by decide⟩
theorem steps_rd {w : World} {ao : Option Addr} {L : List (Nat × Int)} (h : StepsAt w ao L) : Rd encT w ao L := by
  intro j hj
  obtain ⟨bs, off, e, hb, c0, c1⟩ := h j hj
  refine ⟨bs, off, e, hb, fun i u hu => ?_⟩
  match i with
  | 0 => obtain rfl : Value.int .u64 ((L[j].1 : Nat) : Int) = u := by simpa [encT] using hu
         exact c0
  | 1 => obtain rfl : Value.int .i64 L[j].2 = u := by simpa [encT] using hu
         exact c1
  | (n + 2) => simp [encT] at hu
theorem Rd.step {w : World} {ao : Option Addr} {L : List (Nat × Int)} (h : Rd encT w ao L) (j : Nat) (hj : j < L.length) : ∃ bs off, ao = some ⟨bs, off, none⟩ ∧ bs < w.heap.size ∧ w.cell? ⟨bs, off + j * 2, none⟩ = some (.int .u64 ((L[j].1 : Nat) : Int)) ∧ w.cell? ⟨bs, off + j * 2 + 1, none⟩ = some (.int .i64 L[j].2) := by
  obtain ⟨bs, off, e, hb, c⟩ := h j hj
  exact ⟨bs, off, e, hb, by simpa [encT] using c 0 _ rfl, by simpa [encT] using c 1 _ rfl⟩
theorem rw_sl {α : Type} {E : Enc α} {w : World} {T T' : TypeId} {L : List α} {k : IntKind} {p q : Option Addr} {c c' : Nat} {A : List Nat} (h : Rw E T w p c L) (hs : Sl k T' w q c' A) (hT : T ≠ T') : ∀ a b, q = some a → p = some b → a.block ≠ b.block := by
  rintro a b rfl rfl e
  rcases h.shape with ⟨e', _⟩ | ⟨g, e', _, _, _, cur, hh, _⟩
  · cases e'
  rcases hs.shape with ⟨e2, _⟩ | ⟨g2, e2, _, _, _, cur2, hh2, _⟩
  · cases e2
  cases e'; cases e2
  simp only at e
  subst e
  rw [hh] at hh2
  simp only [Option.some.injEq, Obj.cells.injEq] at hh2
  exact hT hh2.2.1
theorem rw_box {α : Type} {E : Enc α} {w : World} {T T' : TypeId} {L : List α} {p : Option Addr} {c g : Nat} {v : Value} (h : Rw E T w p c L) (hs : Boxed w g T' v) (hT : T ≠ T') : ∀ b, p = some b → b.block ≠ g := by
  rintro b rfl e
  rcases h.shape with ⟨e', _⟩ | ⟨g', e', _, _, _, cur, hh, _⟩
  · cases e'
  cases e'
  simp only at e
  subst e
  have h2 : w.heap[g']? = _ := hs
  rw [hh] at h2
  simp only [Option.some.injEq, Obj.cells.injEq] at h2
  exact hT h2.2.1
/-- While the steps are taken out. -/
structure LpR (w : World) (g6 g7 S y : Nat) (D : List (Nat × Int)) (q : Option Addr) (c : Nat) (wr : World) : Prop where
  k6 : ∃ q6 c6, Boxed wr g6 26 (.slice q6 (lb S).length c6) ∧ NatIn wr q6 c6 S
  k7 : ∃ q7 c7, Boxed wr g7 26 (.slice q7 (lb y).length c7) ∧ NatIn wr q7 c7 y
  d : Rw encT 32 wr q c D
  new : ∀ a, q = some a → w.heap.size ≤ a.block
  m : Below w.heap.size w wr
  l6 : w.heap.size ≤ g6
  l7 : w.heap.size ≤ g7
  ne : g6 ≠ g7
theorem LpR.old {w : World} {g6 g7 S y : Nat} {D : List (Nat × Int)} {q : Option Addr} {c : Nat} {wr w' : World} (h : LpR w g6 g7 S y D q c wr) (hb : Below wr.heap.size wr w') : LpR w g6 g7 S y D q c w' := by
  obtain ⟨⟨q6, c6, b6, n6⟩, ⟨q7, c7, b7, n7⟩, d, new, m, l6, l7, ne⟩ := h
  exact ⟨⟨q6, c6, Boxed.below' b6 hb b6.lt, n6.old hb⟩, ⟨q7, c7, Boxed.below' b7 hb b7.lt, n7.old hb⟩, d.old hb, new, m.trans (hb.mono m.size), l6, l7, ne⟩
theorem LpR.store {w : World} {g6 g7 S y z : Nat} {D : List (Nat × Int)} {q q' : Option Addr} {c c' : Nat} {wr : World} (h : LpR w g6 g7 S y D q c wr) (hz : NatIn wr q' c' z) : LpR w g6 g7 S z D q c (wr.setCell ⟨g7, 0, none⟩ (.slice q' (lb z).length c')) := by
  obtain ⟨⟨q6, c6, b6, n6⟩, ⟨q7, c7, b7, n7⟩, d, new, m, l6, l7, ne⟩ := h
  have hm : Mod (· = g7) wr (wr.setCell ⟨g7, 0, none⟩ (.slice q' (lb z).length c')) := (Mod.refl (· = g7) wr).setCell (p := ⟨g7, 0, none⟩) (fun _ => rfl) _
  exact ⟨⟨q6, c6, Boxed.mod' b6 hm ne, n6.kept hm (Boxed.apart b7 n6 (by decide))⟩, ⟨q', c', b7.set _, hz.kept hm (Boxed.apart b7 hz (by decide))⟩, d.kept hm (rw_box d b7 (by decide)), new, m.setCell (p := ⟨g7, 0, none⟩) l7 _, l6, l7, ne⟩
theorem LpR.push {w : World} {g6 g7 S y : Nat} {D D' : List (Nat × Int)} {q q' : Option Addr} {c c' : Nat} {wr w' : World} (h : LpR w g6 g7 S y D q c wr) (hP : PushR encT 32 wr q D' q' c' w') : LpR w g6 g7 S y D' q' c' w' := by
  obtain ⟨⟨q6, c6, b6, n6⟩, ⟨q7, c7, b7, n7⟩, d, new, m, l6, l7, ne⟩ := h
  obtain ⟨hR, hm, hor⟩ := hP
  have x6 := rw_box d b6 (by decide)
  have x7 := rw_box d b7 (by decide)
  have y6 := rw_sl d n6 (by decide)
  have y7 := rw_sl d n7 (by decide)
  refine ⟨⟨q6, c6, Boxed.mod' b6 hm ?_, n6.kept hm ?_⟩, ⟨q7, c7, Boxed.mod' b7 hm ?_, n7.kept hm ?_⟩, hR, ?_, m.trans (hm.to_below m.size ?_), l6, l7, ne⟩
  · rintro ⟨a, e, e2⟩; exact x6 a e e2.symm
  · rintro a e ⟨b, e1, e2⟩; exact y6 a b e e1 e2
  · rintro ⟨a, e, e2⟩; exact x7 a e e2.symm
  · rintro a e ⟨b, e1, e2⟩; exact y7 a b e e1 e2
  · intro a e
    rcases hor a e with h1 | h1
    · exact new _ h1
    · exact Nat.le_trans m.size h1
  · rintro j hj ⟨a, e, rfl⟩; have := new a e; omega
theorem gsum_add (x a : Nat) (L : List (Nat × Int)) : gsum (x + a) L = gsum x L + a := by
  unfold gsum
  induction L generalizing x with
  | nil => rfl
  | cons s L ih => rw [List.foldl_cons, List.foldl_cons, ← ih]; congr 1; omega
theorem gsum_app (x : Nat) (A B : List (Nat × Int)) : gsum x (A ++ B) = gsum (gsum x A) B := by unfold gsum; rw [List.foldl_append]
theorem gsum_at (x : Nat) (L : List (Nat × Int)) (k : Nat) (h : k < L.length) : gsum (x + gw L[k].1 L[k].2) (L.take k ++ L.drop (k + 1)) = gsum x L := by
  have e : L = L.take k ++ (L[k] :: L.drop (k + 1)) := by rw [← List.drop_eq_getElem_cons h, List.take_append_drop]
  have e2 : gsum x L = gsum x (L.take k ++ (L[k] :: L.drop (k + 1))) := by rw [← e]
  rw [e2, gsum_app, gsum_app, gsum_add]
  rfl
theorem mem_at {L : List (Nat × Int)} {k : Nat} {s : Nat × Int} (h : s ∈ L.take k ++ L.drop (k + 1)) : s ∈ L := by
  rcases List.mem_append.1 h with h | h
  · exact List.mem_of_mem_take h
  · exact List.mem_of_mem_drop h
theorem len_at {L : List (Nat × Int)} {k : Nat} (h : k < L.length) : (L.take k ++ L.drop (k + 1)).length = L.length - 1 := by simp; omega
/-- A number as a value: it stays. -/
def natSt (n : Nat) : Stays := ⟨fun v w => NV n v w, fun h hb => NV.old h hb⟩
theorem Rd.drop {α : Type} {E : Enc α} {w : World} {bs off : Nat} {L : List α} (h : Rd E w (some ⟨bs, off, none⟩) L) (n : Nat) : Rd E w (some ⟨bs, off + n * E.k, none⟩) (L.drop n) := by
  intro j hj
  have hj2 : n + j < L.length := by rw [List.length_drop] at hj; omega
  obtain ⟨b, o, e, hb, c⟩ := h (n + j) hj2
  cases e
  refine ⟨bs, off + n * E.k, rfl, hb, fun i u hu => ?_⟩
  rw [List.getElem_drop] at hu
  have := c i u hu
  rw [Nat.add_mul] at this
  rw [show off + n * E.k + j * E.k + i = off + (n * E.k + j * E.k) + i from by omega]
  exact this
theorem Rw.take {α : Type} {E : Enc α} {T : TypeId} {w : World} {p : Option Addr} {cap : Nat} {L : List α} (h : Rw E T w p cap L) (n : Nat) : Rw E T w p cap (L.take n) := by
  rcases h.shape with ⟨rfl, rfl, rfl⟩ | ⟨g, rfl, _, h1, h2, cur, hh, h3, h4⟩
  · rw [List.take_nil]; exact Rw.empty _ _
  · refine Rw.of_row hh (Nat.le_trans (List.length_take_le' _ _) h1) h2 h3 ?_
    have hl : (L.take n).length * E.k ≤ L.length * E.k := Nat.mul_le_mul_right _ (List.length_take_le' _ _)
    have := congrArg (List.take ((L.take n).length * E.k)) h4
    rw [List.take_take, Nat.min_eq_left hl] at this
    rw [this]
    have e : E.all L = E.all (L.take n) ++ E.all (L.drop n) := by rw [← E.all_app, List.take_append_drop]
    rw [e, List.take_left' (E.all_len _)]
end Go.Proofs.YtdahkemeoefndaaDoor.NN

namespace Go.Proofs.YtdahkemeoefndaaDoor.NN
open Go.RowKit

theorem wp_pushR {α : Type} {P : Program} {o : Oper} {a : Act} {K : Act → World → Prop} {Q : Exit → Act → World → Prop} {w : World} (E : Enc α) (s x : Operand) (Ts T : TypeId) (z : Value) (by_ : Nat)
    (ho : o.op = .call { callee := .builtin .append, args := #[s, x], argTypes := #[Ts, Ts] }) (hT : P.underlying Ts = some (.slice T)) (hi : (P.info? T).map (fun i => (i.zero, i.size, i.bytes)) = some (some z, E.k, by_)) (hzs : z.cells.size = E.k) (hby : by_ ≤ 1024)
    (p : Option Addr) (cap n : Nat) (L : List α) (hn : L.length = n) (hs : a.eval s = .slice p n cap) (hS : Rw E T w p cap L) (ao : Option Addr) (m cx : Nat) (Y : List α) (hm : Y.length = m) (hx : a.eval x = .slice ao m cx) (hY : Rd E w ao Y) (hl : n + m ≤ 100000000000)
    (h : ∀ q c w', PushR E T w p (L ++ Y) q c w' → K (a.put o.dst (.slice q (n + m) c)) w') : o.wp P a w K Q := by
  cases hq : P.info? T with
  | none => rw [hq] at hi; cases hi
  | some i =>
    rw [hq] at hi
    simp only [Option.map_some, Option.some.injEq, Prod.mk.injEq] at hi
    obtain ⟨hz, h1, h2⟩ := hi
    subst hn
    subst hm
    have hmul : (L.length + Y.length) * by_ ≤ 140737488355328 := Nat.le_trans (Nat.mul_le_mul hl hby) (by decide)
    by_cases h0 : 0 < Y.length
    · obtain ⟨bs, off, rfl, hbs, _⟩ := hY 0 h0
      refine wp_append_lies w s x Ts ho 0 T i z E.k by_ hT hq hz h1 h2 hzs E.pos _ L.length (E.all L) hs hS ⟨bs, off, none⟩ Y.length cx (E.all Y) hx (E.all_len Y) ?_ (E.all_one _) h0 (by unfold maxLen; omega) hmul (Nat.zero_le _) _ rfl ?_
      · intro j u hj
        have hjl : j < Y.length * E.k := by
          have := (List.getElem?_eq_some_iff.1 hj).1
          rwa [E.all_len] at this
        have hd : j / E.k < Y.length := by rw [Nat.div_lt_iff_lt_mul E.pos]; exact hjl
        have hr : j % E.k < E.k := Nat.mod_lt _ E.pos
        have he : j / E.k * E.k + j % E.k = j := by rw [Nat.mul_comm]; exact Nat.div_add_mod j E.k
        obtain ⟨bs', off', e, _, c1⟩ := hY (j / E.k) hd
        cases e
        have hadd : (⟨bs, off, none⟩ : Addr).add j = ⟨bs, off + j, none⟩ := by unfold Addr.add; split <;> simp_all
        rw [← he, E.all_get Y _ _ hd hr] at hj
        have := c1 _ _ hj
        rw [Nat.add_assoc, he] at this
        rw [hadd, this]
      · intro g c w' hown hgrow hat _
        refine h (some ⟨g, 0, none⟩) c w' ⟨?_, ?_, ?_⟩
        · unfold Rw; rw [List.length_append, E.all_app]; exact hown
        · refine (Mod.refl _ w).grown hgrow ?_
          intro j hj _
          cases p with
          | none => simp [Value.ownBlock] at hj
          | some a => simp [Value.ownBlock] at hj; exact ⟨a, rfl, hj.symm⟩
        · rintro a' e; cases e
          rcases hat with hat | hat
          · left
            rcases hS.shape with ⟨rfl, _⟩ | ⟨g', rfl, _⟩
            · simp [Value.ownBlock] at hat
            · simp [Value.ownBlock] at hat; subst hat; rfl
          · right; rw [hat]; exact Nat.le_refl _
    · obtain rfl : Y = [] := List.eq_nil_of_length_eq_zero (by omega)
      have hfin := h p cap w ⟨by rw [List.append_nil]; exact hS, Mod.refl _ w, fun a e => .inl e⟩
      have hle : L.length ≤ cap := hS.cap_le
      have hno : p = none → L.length = 0 ∧ cap = 0 := by
        intro e
        rcases hS.shape with ⟨_, rfl, hc⟩ | ⟨g', e', _⟩
        · exact ⟨rfl, hc⟩
        · rw [e] at e'; cases e'
      have hrun := run_append_no (P := P) (w := w) Ts o.type T i hT hq p L.length cap hle hno ao cx
      unfold Oper.wp
      simp only [List.length_nil] at hx
      simp [execOp, ho, resolve, invoke, builtin, hs, hx, hrun, Result.andThen]
      simp at hfin
      exact hfin
theorem at_rem (x : Int) (m : Nat) (h0 : 0 < m) (h8 : m ≤ 8) : ∃ k : Nat, k < m ∧ (wrap64 (x.tmod m + m)).tmod m = (k : Int) := by
  have h1 := Int.tmod_lt_of_pos x (show (0 : Int) < m by omega)
  have h2 := Int.lt_tmod_of_pos x (show (0 : Int) < m by omega)
  obtain ⟨y, hy⟩ : ∃ y, y = x.tmod m + m := ⟨_, rfl⟩
  have h3 : wrap64 y = y := by unfold wrap64; omega
  rw [← hy, h3]
  have h4 : (0 : Int) ≤ y := by omega
  have h5 := Int.tmod_lt_of_pos y (show (0 : Int) < m by omega)
  have h6 := Int.tmod_nonneg (m : Int) h4
  exact ⟨(y.tmod m).toNat, by omega, (Int.toNat_of_nonneg h6).symm⟩
theorem wrap_next (k m : Nat) (h : (k : Int) < m) (h8 : m ≤ 8) : IntKind.i64.wrap ((k : Int) + 1) = (k : Int) + 1 := by rw [IntKind.wrap_i64]; omega
end Go.Proofs.YtdahkemeoefndaaDoor.NN

namespace Go.Proofs.YtdahkemeoefndaaDoor
open Go

/-- Each of the chain waits for the one ahead of it. -/
def chainOk (md : Region.Mode) (ops : Array Oper) (C : List Nat) : Bool :=
  (List.range C.length).all fun m => match C[m]?, C[m + 1]? with
    | some i, some j => (match ops[j]? with | some p => p.after.any (fun e => Region.binds md e && e.on == i) | none => false)
    | _, _ => true
/-- Operation j waits for i, by n edges at most. -/
def reach (md : Region.Mode) (ops : Array Oper) : Nat → Nat → Nat → Bool
  | 0, _, _ => false
  | n + 1, j, i => match ops[j]? with
    | some p => p.after.any (fun e => Region.binds md e && (e.on == i || reach md ops n e.on i))
    | none => false
/-- The chain's place b waits for operation i (or there is no such place). -/
def aheadOf (md : Region.Mode) (ops : Array Oper) (C : List Nat) (i b : Nat) : Bool :=
  b == C.length || (match C[b]? with
    | some j => reach md ops 16 j i
    | none => false)

/-- Only slots of the operations turn; that of a chain's operation that isn't done yet hasn't. -/
structure AgreeC (ops : Array Oper) (C : List Nat) (k : Nat) (a0 a : Act) : Prop extends Agree ops a0 a where
  kp : ∀ (m i : Nat) (o : Oper) (t : Tmp), k ≤ m → C[m]? = some i → ops[i]? = some o → o.dst = some t → a.eval (.tmp t) = a0.eval (.tmp t)

section
variable {P : Program} {ops : Array Oper} {Q : Exit → Act → World → Prop} {md : Region.Mode} {V : Tmp → Value → Prop} {G : Nat → Value → World → Prop} {C : List Nat} {a0 : Act}

/-- What one operation owes while k of the chain are done, k' behind it. -/
def OwesAt (P : Program) (md : Region.Mode) (ops : Array Oper) (Q : Exit → Act → World → Prop) (V : Tmp → Value → Prop) (G : Nat → Value → World → Prop) (C : List Nat) (a0 : Act) (i : Nat) (o : Oper) (k : Nat) : Prop :=
  ∀ a w x, AgreeC ops C k a0 a → G k x w → AllV (fun t v _ => V t v) a w (waits md ops o) →
    wpOp P ops Q i (fun a' w' => ∃ v, a' = a.put o.dst v ∧ (∀ t, o.dst = some t → V t v) ∧ G k x w') a w
/-- The slot of the chain's last one that is done holds x. -/
def Holds' (ops : Array Oper) (C : List Nat) (a : Act) (k : Nat) (x : Value) : Prop := ∀ (m i : Nat) (o : Oper) (t : Tmp), k = m + 1 → C[m]? = some i → ops[i]? = some o → o.dst = some t → a.eval (.tmp t) = x
/-- What the chain's operation m owes. -/
def OwesIn (P : Program) (md : Region.Mode) (ops : Array Oper) (Q : Exit → Act → World → Prop) (V : Tmp → Value → Prop) (G : Nat → Value → World → Prop) (C : List Nat) (a0 : Act) (i : Nat) (o : Oper) (m : Nat) : Prop :=
  ∀ a w x, AgreeC ops C m a0 a → G m x w → Holds' ops C a m x → AllV (fun t v _ => V t v) a w (waits md ops o) →
    wpOp P ops Q i (fun a' w' => ∃ v, a' = a.put o.dst v ∧ (∀ t, o.dst = some t → V t v) ∧ G (m + 1) v w') a w
def OwesC (P : Program) (md : Region.Mode) (ops : Array Oper) (Q : Exit → Act → World → Prop) (V : Tmp → Value → Prop) (G : Nat → Value → World → Prop) (C : List Nat) (a0 : Act) (i : Nat) (o : Oper) : Prop :=
  (∃ m, C[m]? = some i ∧ OwesIn P md ops Q V G C a0 i o m) ∨ (C.contains i = false ∧ ∃ b, aheadOf md ops C i b = true ∧ ∀ k, k ≤ b → OwesAt P md ops Q V G C a0 i o k)

theorem any_edge {md : Region.Mode} {p : Oper} {i : Nat} (h : p.after.any (fun e => Region.binds md e && e.on == i) = true) : ∃ e ∈ p.after, Region.binds md e = true ∧ e.on = i := by
  obtain ⟨j, hj, h1⟩ := Array.any_iff_exists.1 h
  obtain ⟨_, _, h2⟩ := h1
  rw [Bool.and_eq_true, beq_iff_eq] at h2
  exact ⟨_, Array.getElem_mem _, h2.1, h2.2⟩
theorem chain_edge {m i j : Nat} {p : Oper} (h : chainOk md ops C = true) (hi : C[m]? = some i) (hj : C[m + 1]? = some j) (hp : ops[j]? = some p) : ∃ e ∈ p.after, Region.binds md e = true ∧ e.on = i := by
  have := List.all_eq_true.1 h m (List.mem_range.2 (List.getElem?_eq_some_iff.1 hi).1)
  simp only [hi, hj, hp] at this
  exact any_edge this

theorem reach_done {L : Array Bool} (cl : ∀ (i : Nat) (o : Oper), ops[i]? = some o → L.getD i true = true → ∀ e ∈ o.after, Region.binds md e = true → L.getD e.on false = true) :
    ∀ (n j i : Nat), reach md ops n j i = true → L.getD j true = true → L.getD i false = true
  | 0, _, _, h, _ => by cases h
  | n + 1, j, i, h, hl => by
    unfold reach at h
    cases hp : ops[j]? with
    | none => rw [hp] at h; cases h
    | some p =>
      rw [hp] at h
      obtain ⟨q, _, h1⟩ := Array.any_iff_exists.1 h
      obtain ⟨_, _, h2⟩ := h1
      rw [Bool.and_eq_true, Bool.or_eq_true, beq_iff_eq] at h2
      have h3 := cl j p hp hl _ (Array.getElem_mem _) h2.1
      rcases h2.2 with e | hr
      · rw [← e]; exact h3
      · refine reach_done cl n _ i hr ?_
        have : p.after[q].on < L.size := by
          apply Nat.lt_of_not_le; intro hle
          simp [Array.getElem?_eq_none hle] at h3
        simp [this] at h3 ⊢
        exact h3
theorem getD_tf {L : Array Bool} {n i : Nat} (hL : L.size = n) (hi : i < n) : L.getD i true = L.getD i false := by
  simp [show i < L.size by omega]
theorem getD_set_at {L : Array Bool} {i : Nat} (hi : i < L.size) (d : Bool) : (L.setIfInBounds i true).getD i d = true := by simp [hi]
theorem getD_set_ne' {L : Array Bool} {i j : Nat} (h : j ≠ i) (d : Bool) : (L.setIfInBounds i true).getD j d = L.getD j d := by
  have := Ne.symm h
  simp [Array.getD_eq_getD_getElem?, this]

/-- What is known while the region goes. -/
structure ChainAt (md : Region.Mode) (ops : Array Oper) (V : Tmp → Value → Prop) (G : Nat → Value → World → Prop) (C : List Nat) (a0 : Act) (L : Array Bool) (a : Act) (w : World) (k : Nat) (x : Value) : Prop where
  g : G k x w
  ho : Holds' ops C a k x
  le : k ≤ C.length
  ch : ∀ (m i : Nat), C[m]? = some i → (L.getD i true = true ↔ m < k)
  cl : ∀ (i : Nat) (o : Oper), ops[i]? = some o → L.getD i true = true → ∀ e ∈ o.after, Region.binds md e = true → L.getD e.on false = true
  ag : Agree ops a0 a
  kp : ∀ (i : Nat) (o : Oper) (t : Tmp), ops[i]? = some o → L.getD i true = false → o.dst = some t → a.eval (.tmp t) = a0.eval (.tmp t)
  v : ∀ (i : Nat) (o : Oper) (t : Tmp), ops[i]? = some o → L.getD i true = true → o.dst = some t → V t (a.eval (.tmp t))

theorem ChainAt.agc {L : Array Bool} {a : Act} {w : World} {k : Nat} {x : Value} (h : ChainAt md ops V G C a0 L a w k x) : AgreeC ops C k a0 a :=
  ⟨h.ag, fun m i o t hm hi ho ht => h.kp i o t ho (by
    cases hl : L.getD i true with
    | false => rfl
    | true => exact absurd ((h.ch m i hi).1 hl) (by omega)) ht⟩
theorem wpAny_chain (hok : DrawOk ops a0.tmps.size) (hch : chainOk md ops C = true) (hnd : C.Nodup) (hCl : ∀ i ∈ C, i < ops.size) (step : ∀ (i : Nat) (o : Oper), ops[i]? = some o → OwesC P md ops Q V G C a0 i o)
    (fin : ∀ a w x, Agree ops a0 a → G C.length x w → Holds' ops C a C.length x → (∀ (i : Nat) (o : Oper) (t : Tmp), ops[i]? = some o → o.dst = some t → V t (a.eval (.tmp t))) → Q .normal a w) :
    ∀ (fuel : Nat) (L : Array Bool) (a : Act) (w : World) (k : Nat) (x : Value), unl L ops.size ≤ fuel → L.size = ops.size → ChainAt md ops V G C a0 L a w k x → wpAny P md ops Q fuel L a w := by
  have allL : ∀ L : Array Bool, L.size = ops.size → Region.ready md ops L = [] → ∀ (i : Nat) (o : Oper), ops[i]? = some o → L.getD i true = true := by
    intro L hL hr i o ho
    cases hc : L.getD i true with
    | true => rfl
    | false =>
      obtain ⟨j, hj⟩ := ready_some (md := md) hok hL i (Array.getElem?_eq_some_iff.1 ho).1 hc
      rw [hr] at hj; cases hj
  have done : ∀ (L : Array Bool) (a : Act) (w : World) (k : Nat) (x : Value), L.size = ops.size → ChainAt md ops V G C a0 L a w k x → Region.ready md ops L = [] → Q .normal a w := by
    intro L a w k x hL h hr
    have hk : k = C.length := by
      refine Nat.le_antisymm h.le (Nat.le_of_not_lt fun hlt => ?_)
      have hm : C[k]? = some C[k] := List.getElem?_eq_getElem hlt
      have hi := hCl _ (List.getElem_mem hlt)
      exact Nat.lt_irrefl _ ((h.ch k _ hm).1 (allL L hL hr _ _ (Array.getElem?_eq_getElem hi)))
    subst hk
    exact fin a w x h.ag h.g h.ho (fun i o t ho ht => h.v i o t ho (allL L hL hr i o ho) ht)
  intro fuel
  induction fuel with
  | zero =>
    intro L a w k x hu hL h
    have hr : Region.ready md ops L = [] := by
      apply List.eq_nil_iff_forall_not_mem.2
      intro j hj
      obtain ⟨hun, o, ho, _⟩ := mem_ready.1 hj
      have := unl_pos L ops.size j (Array.getElem?_eq_some_iff.1 ho).1 hun
      omega
    exact ⟨hr, done L a w k x hL h hr⟩
  | succ fuel ih =>
    intro L a w k x hu hL h
    refine ⟨fun hr => done L a w k x hL h hr, fun i hi => ?_⟩
    obtain ⟨hun, o, ho, hall⟩ := mem_ready.1 hi
    have hil : i < ops.size := (Array.getElem?_eq_some_iff.1 ho).1
    have hw : AllV (fun t v _ => V t v) a w (waits md ops o) := AllV.of (by
      intro t ht
      unfold waits at ht
      obtain ⟨e, he, hd⟩ := List.mem_filterMap.1 ht
      obtain ⟨he1, he2⟩ := List.mem_filter.1 he
      cases hj : ops[e.on]? with
      | none => rw [hj] at hd; cases hd
      | some p =>
        rw [hj] at hd
        have hl := hall e (by simpa using he1) he2
        exact h.v e.on p t hj (by rw [getD_tf hL (Array.getElem?_eq_some_iff.1 hj).1]; exact hl) hd)
    -- what follows, with k' of the chain done
    have next : ∀ (k' : Nat) (y : Value → Value), k' ≤ C.length → (∀ v, Holds' ops C (a.put o.dst v) k' (y v)) → (∀ (m j : Nat), C[m]? = some j → ((L.setIfInBounds i true).getD j true = true ↔ m < k')) →
        wpOp P ops Q i (fun a' w' => ∃ v, a' = a.put o.dst v ∧ (∀ t, o.dst = some t → V t v) ∧ G k' (y v) w') a w → wpOp P ops Q i (fun a' w' => wpAny P md ops Q fuel (L.setIfInBounds i true) a' w') a w := by
      intro k' y hk' hho hch' hop
      refine wpOp_mono (fun a' w' hh => ?_) hop
      obtain ⟨v, rfl, hvi, hG'⟩ := hh
      refine ih _ _ _ k' (y v) ?_ (by simpa using hL) ⟨hG', hho v, hk', hch', ?_, ?_, ?_, ?_⟩
      · have := unl_set L i hun ops.size
        rw [if_pos hil] at this; omega
      · intro j p hp hl e he hb
        by_cases hji : j = i
        · subst hji
          rw [ho] at hp; cases hp
          have := hall e he hb
          by_cases hei : e.on = j
          · rw [hei, getD_set_at (by omega)]
          · rw [getD_set_ne' hei]; exact this
        · rw [getD_set_ne' hji] at hl
          have := h.cl j p hp hl e he hb
          by_cases hei : e.on = i
          · rw [hei, getD_set_at (by omega)]
          · rw [getD_set_ne' hei]; exact this
      · refine ⟨by rw [size_put]; exact h.ag.size, by rw [defers_put]; exact h.ag.defers, fun t ht => ?_⟩
        rw [Act.eval_put (fun d hd e => ht i o ho (by cases e; exact hd))]
        exact h.ag.same t ht
      · intro j p t hp hl ht
        have e : j ≠ i := by
          rintro rfl
          rw [getD_set_at (by omega)] at hl; cases hl
        rw [Act.eval_put (fun d hd e2 => by cases e2; exact hok.apart i j o p t ho hp e hd ht)]
        rw [getD_set_ne' e] at hl
        exact h.kp j p t hp hl ht
      · intro j p t hp hl ht
        by_cases e : j = i
        · subst e
          rw [ho] at hp; cases hp
          rw [ht, eval_put_same (by rw [h.ag.size]; exact hok.room j o t ho ht)]
          exact hvi t ht
        · rw [Act.eval_put (fun d hd e2 => by cases e2; exact hok.apart i j o p t ho hp e hd ht)]
          rw [getD_set_ne' e] at hl
          exact h.v j p t hp hl ht
    rcases step i o ho with ⟨m, hm, hop⟩ | ⟨hni, b, hb, hop⟩
    · have hmk : m = k := by
        have h1 : ¬ m < k := fun hlt => by rw [(h.ch m i hm).2 hlt] at hun; cases hun
        have h2 : m ≤ k := by
          cases m with
          | zero => exact Nat.zero_le _
          | succ m =>
            have hlt : m < C.length := by have := (List.getElem?_eq_some_iff.1 hm).1; omega
            have hj : C[m]? = some C[m] := List.getElem?_eq_getElem hlt
            obtain ⟨e, he, hbd, hon⟩ := chain_edge hch hj hm ho
            have := hall e he hbd
            rw [hon] at this
            exact (h.ch m _ hj).1 (by rw [getD_tf hL (hCl _ (List.getElem_mem hlt))]; exact this)
        omega
      subst hmk
      have hmlt : m < C.length := (List.getElem?_eq_some_iff.1 hm).1
      refine next (m + 1) (fun v => v) hmlt ?_ ?_ (hop a w x h.agc h.g h.ho hw)
      · intro v m2 j p t hm2 hj hp ht
        obtain rfl : m2 = m := by omega
        rw [hm] at hj; cases hj
        rw [ho] at hp; cases hp
        rw [ht, eval_put_same (by rw [h.ag.size]; exact hok.room i o t ho ht)]
      intro m2 j hj
      by_cases hji : j = i
      · subst hji
        have : m2 = m := by
          obtain ⟨l2, e2⟩ := List.getElem?_eq_some_iff.1 hj
          obtain ⟨l1, e1⟩ := List.getElem?_eq_some_iff.1 hm
          exact (List.getElem_inj hnd).1 (e2.trans e1.symm)
        subst this
        rw [getD_set_at (by omega)]
        exact ⟨fun _ => Nat.lt_succ_self _, fun _ => rfl⟩
      · rw [getD_set_ne' hji, h.ch m2 j hj]
        have : m2 ≠ m := by
          rintro rfl
          rw [hm] at hj; cases hj; exact hji rfl
        omega
    · have hkb : k ≤ b := by
        unfold aheadOf at hb
        rw [Bool.or_eq_true, beq_iff_eq] at hb
        rcases hb with rfl | hb
        · exact h.le
        · cases hj : C[b]? with
          | none => rw [hj] at hb; cases hb
          | some j =>
            rw [hj] at hb
            simp only at hb
            refine Nat.le_of_not_lt fun hlt => ?_
            have := reach_done h.cl 16 j i hb ((h.ch b j hj).2 hlt)
            rw [← getD_tf hL hil, hun] at this
            cases this
      refine next k (fun _ => x) h.le ?_ ?_ (hop k hkb a w x h.agc h.g hw)
      · intro v m2 j p t hm2 hj hp ht
        have hji : j ≠ i := by
          rintro rfl
          have := List.mem_of_getElem? hj
          rw [List.contains_eq_mem, decide_eq_false_iff_not] at hni
          exact hni this
        rw [Act.eval_put (fun d hd e2 => by cases e2; exact hok.apart i j o p t ho hp hji hd ht)]
        exact h.ho m2 j p t hm2 hj hp ht
      intro m2 j hj
      have hji : j ≠ i := by
        rintro rfl
        have := List.mem_of_getElem? hj
        rw [List.contains_eq_mem, decide_eq_false_iff_not] at hni
        exact hni this
      rw [getD_set_ne' hji, h.ch m2 j hj]

/-- The obligations one after the other. -/
def OweAllC (P : Program) (md : Region.Mode) (ops : Array Oper) (Q : Exit → Act → World → Prop) (V : Tmp → Value → Prop) (G : Nat → Value → World → Prop) (C : List Nat) (a0 : Act) : Nat → List Oper → Prop
  | _, [] => True
  | k, o :: r => OwesC P md ops Q V G C a0 k o ∧ OweAllC P md ops Q V G C a0 (k + 1) r
theorem OweAllC.get : ∀ {l : List Oper} {k : Nat}, OweAllC P md ops Q V G C a0 k l → ∀ (i : Nat) (o : Oper), l[i]? = some o → OwesC P md ops Q V G C a0 (k + i) o
  | _ :: _, k, h, 0, o, hi => by cases hi; exact h.1
  | _ :: r, k, h, i + 1, o, hi => by
    have := OweAllC.get h.2 i o (by simpa using hi)
    rwa [show k + 1 + i = k + (i + 1) by omega] at this
  | [], _, _, i, o, hi => by simp at hi
theorem OweAllC.cons {k : Nat} {o : Oper} {r : List Oper} (h : OwesC P md ops Q V G C a0 k o) (h2 : OweAllC P md ops Q V G C a0 (k + 1) r) : OweAllC P md ops Q V G C a0 k (o :: r) := ⟨h, h2⟩
theorem OweAllC.nil {k : Nat} : OweAllC P md ops Q V G C a0 k [] := trivial

theorem wp_region_chain {id : Nat} {w : World} (V : Tmp → Value → Prop) (G : Nat → Value → World → Prop) (C : List Nat) (N : Nat) (hm : P.follows .mixedOrders = true) (hok : drawOk ops N = true) (hN : a0.tmps.size = N)
    (hch : chainOk .any ops C = true) (hnd : decide C.Nodup = true) (hCl : C.all (· < ops.size) = true) (hG : G 0 undef w.drew)
    (step : OweAllC P .any ops Q V G C a0 0 ops.toList)
    (fin : ∀ f w x, G C.length x w → (∀ (m i : Nat) (o : Oper) (t : Tmp), C.length = m + 1 → C[m]? = some i → ops[i]? = some o → o.dst = some t → f t = x) → (∀ (i : Nat) (o : Oper) (t : Tmp), ops[i]? = some o → o.dst = some t → V t (f t)) → Q .normal (puts f (dsts ops) a0) w) : (Code.region id ops true).wp P Q a0 w := by
  subst hN
  have hok := drawOk_spec hok
  have hCl' : ∀ i ∈ C, i < ops.size := fun i hi => by simpa using List.all_eq_true.1 hCl i hi
  have hL0 : ∀ i, i < ops.size → (Array.replicate ops.size false).getD i true = false := fun i hi => by simp [hi]
  refine wp_region_any hm (wpAny_chain (V := V) (G := G) (C := C) hok hch (of_decide_eq_true hnd) hCl' (fun i o ho => ?_) (fun a w x ha hg hh hv => ?_) ops.size _ a0 _ 0 undef (unl_le _ _) (by simp) ⟨hG, (fun m i o t h => by omega), Nat.zero_le _, ?_, ?_, ⟨rfl, rfl, fun _ _ => rfl⟩, (fun _ _ _ _ _ _ => rfl), ?_⟩)
  · have := step.get i o (by simpa using ho)
    rwa [Nat.zero_add] at this
  · rw [ha.puts hok]
    exact fin _ w x hg hh hv
  · intro m i hi
    have := hCl' i (List.mem_of_getElem? hi)
    rw [hL0 i this]
    simp
  · intro i o ho hl
    rw [hL0 i (Array.getElem?_eq_some_iff.1 ho).1] at hl; cases hl
  · intro i o t ho hl _
    rw [hL0 i (Array.getElem?_eq_some_iff.1 ho).1] at hl; cases hl

/-- An operation beside the chain that yields a value and turns nothing. -/
theorem owesC_val {i : Nat} {o : Oper} {t : Tmp} (b : Nat) (hb : aheadOf md ops C i b = true) (hni : C.contains i = false) (hi : ops[i]? = some o) (ht : o.dst = some t)
    (h : ∀ k a w x, k ≤ b → AgreeC ops C k a0 a → G k x w → AllV (fun t v _ => V t v) a w (waits md ops o) → ∃ v, Region.wanted o (yielded ops a.tmps) = true ∧ (execOp a.eval o).run P w = .ok (.value v) w ∧ V t v) : OwesC P md ops Q V G C a0 i o := by
  refine .inr ⟨hni, b, hb, fun k hk a w x ha hG hV => ?_⟩
  obtain ⟨v, hw, hr, hv⟩ := h k a w x hk ha hG hV
  unfold wpOp
  rw [hi]
  simp only [hw, if_true, Oper.wp, hr, Oper.upon]
  exact .inl ⟨v, rfl, fun u hu => by rw [ht] at hu; cases hu; exact hv, hG⟩
/-- A call beside the chain. -/
theorem owesC_side {i : Nat} {o : Oper} {t : Tmp} (b : Nat) (hb : aheadOf md ops C i b = true) (hni : C.contains i = false) (hi : ops[i]? = some o) (ht : o.dst = some t) (f : FuncId)
    (h : ∀ k a w x, k ≤ b → AgreeC ops C k a0 a → G k x w → AllV (fun t v _ => V t v) a w (waits md ops o) → ∃ args, Region.wanted o (yielded ops a.tmps) = true ∧ (execOp a.eval o).run P w = .ok (.enter f args) w ∧
      Calls P f args w fun e w' => ∃ v, e = .returned v ∧ V t v ∧ G k x w') : OwesC P md ops Q V G C a0 i o := by
  refine .inr ⟨hni, b, hb, fun k hk a w x ha hG hV => ?_⟩
  obtain ⟨args, hw, hr, hc⟩ := h k a w x hk ha hG hV
  unfold wpOp
  rw [hi]
  simp only [hw, if_true, Oper.wp, hr, Oper.upon]
  refine .inl (hc.mono ?_)
  rintro e w' ⟨v, rfl, h1, h2⟩
  exact ⟨v, rfl, fun u hu => by rw [ht] at hu; cases hu; exact h1, h2⟩
/-- A call of the chain. -/
theorem owesC_call {i : Nat} {o : Oper} {t : Tmp} (m : Nat) (hm : C[m]? = some i) (hi : ops[i]? = some o) (ht : o.dst = some t) (f : FuncId)
    (h : ∀ a w x, AgreeC ops C m a0 a → G m x w → Holds' ops C a m x → AllV (fun t v _ => V t v) a w (waits md ops o) → ∃ args, Region.wanted o (yielded ops a.tmps) = true ∧ (execOp a.eval o).run P w = .ok (.enter f args) w ∧
      Calls P f args w fun e w' => ∃ v, e = .returned v ∧ V t v ∧ G (m + 1) v w') : OwesC P md ops Q V G C a0 i o := by
  refine .inl ⟨m, hm, fun a w x ha hG hh hV => ?_⟩
  obtain ⟨args, hw, hr, hc⟩ := h a w x ha hG hh hV
  unfold wpOp
  rw [hi]
  simp only [hw, if_true, Oper.wp, hr, Oper.upon]
  refine .inl (hc.mono ?_)
  rintro e w' ⟨v, rfl, h1, h2⟩
  exact ⟨v, rfl, fun u hu => by rw [ht] at hu; cases hu; exact h1, h2⟩
/-- An operation of the chain that yields a value and turns memory. -/
theorem owesC_mem {i : Nat} {o : Oper} {t : Tmp} (m : Nat) (hm : C[m]? = some i) (hi : ops[i]? = some o) (ht : o.dst = some t)
    (h : ∀ a w x, AgreeC ops C m a0 a → G m x w → Holds' ops C a m x → AllV (fun t v _ => V t v) a w (waits md ops o) → ∃ v w', Region.wanted o (yielded ops a.tmps) = true ∧ (execOp a.eval o).run P w = .ok (.value v) w' ∧ V t v ∧ G (m + 1) v w') : OwesC P md ops Q V G C a0 i o := by
  refine .inl ⟨m, hm, fun a w x ha hG hh hV => ?_⟩
  obtain ⟨v, w', hw, hr, h1, h2⟩ := h a w x ha hG hh hV
  unfold wpOp
  rw [hi]
  simp only [hw, if_true, Oper.wp, hr, Oper.upon]
  exact .inl ⟨v, rfl, fun u hu => by rw [ht] at hu; cases hu; exact h1, h2⟩
/-- A store of the chain. -/
theorem owesC_store {i : Nat} {o : Oper} (m : Nat) (hm : C[m]? = some i) (hi : ops[i]? = some o) (ht : o.dst = none)
    (h : ∀ a w x, AgreeC ops C m a0 a → G m x w → Holds' ops C a m x → AllV (fun t v _ => V t v) a w (waits md ops o) → ∃ w', Region.wanted o (yielded ops a.tmps) = true ∧ (execOp a.eval o).run P w = .ok .skip w' ∧ G (m + 1) undef w') : OwesC P md ops Q V G C a0 i o := by
  refine .inl ⟨m, hm, fun a w x ha hG hh hV => ?_⟩
  obtain ⟨w', hw, hr, h2⟩ := h a w x ha hG hh hV
  unfold wpOp
  rw [hi]
  simp only [hw, if_true, Oper.wp, hr, Oper.upon]
  exact .inl ⟨undef, rfl, fun u hu => (by rw [ht] at hu; cases hu), h2⟩
/-- An operation of the chain by its own law (an append). -/
theorem owesC_law {i : Nat} {o : Oper} (m : Nat) (hm : C[m]? = some i) (hi : ops[i]? = some o)
    (h : ∀ a w x, AgreeC ops C m a0 a → G m x w → Holds' ops C a m x → AllV (fun t v _ => V t v) a w (waits md ops o) → Region.wanted o (yielded ops a.tmps) = true ∧
      ∀ K : Act → World → Prop, (∀ v w', (∀ t, o.dst = some t → V t v) → G (m + 1) v w' → K (a.put o.dst v) w') → o.wp P a w K Q) : OwesC P md ops Q V G C a0 i o := by
  refine .inl ⟨m, hm, fun a w x ha hG hh hV => ?_⟩
  obtain ⟨hw, hl⟩ := h a w x ha hG hh hV
  unfold wpOp
  rw [hi]
  simp only [hw, if_true]
  exact .inl (hl _ (fun v w' h1 h2 => ⟨v, rfl, h1, h2⟩))
end
end Go.Proofs.YtdahkemeoefndaaDoor
namespace Go.Proofs.YtdahkemeoefndaaDoor
open Go
/-- A slot is written, by an operation of no region. -/
def mv (t : Tmp) (v : Value) : Oper := { dst := some t, op := .move (.const v), type := 0, pos := "", after := #[], guard := none }
theorem moves_back {P : Program} {ops : Array Oper} {Q : Exit → Act → World → Prop} (f : Tmp → Value) : ∀ (l : List Tmp) (a : Act) (w : World), wpList P ops Q (l.map fun t => mv t (f t)) a w → Q .normal (puts f l a) w
  | [], _, _, h => h
  | t :: r, a, w, h => by
    refine moves_back (P := P) (ops := ops) f r (a.put (some t) (f t)) w ?_
    rw [List.map_cons, wpList] at h
    have hw : Region.wanted (mv t (f t)) (yielded ops a.tmps) = true := rfl
    rw [if_pos hw] at h
    rcases h with h | h
    · unfold Oper.wp at h
      have he : (execOp a.eval (mv t (f t))).run P w = .ok (.value (f t)) w := rfl
      rw [he] at h
      exact h
    · exfalso
      have he : ((execOp a.eval (mv t (f t))).runT P w #[]).2 = #[] := rfl
      have h1 := h.1.1
      rw [he] at h1
      simp at h1
end Go.Proofs.YtdahkemeoefndaaDoor

namespace Go.Proofs.YtdahkemeoefndaaDoor

def beBytes (n : Nat) : List UInt8 := if n = 0 then [] else beBytes (n / 256) ++ [UInt8.ofNat (n % 256)]
termination_by n
decreasing_by omega

theorem beBytes_zero : beBytes 0 = [] := by rw [beBytes]; simp
theorem beBytes_pos (n : Nat) (h : 0 < n) : beBytes n = beBytes (n / 256) ++ [UInt8.ofNat (n % 256)] := by
  rw [beBytes]; simp [show n ≠ 0 by omega]
theorem beBytes_len (k : Nat) : ∀ n, n < 256 ^ k → (beBytes n).length ≤ k := by
  induction k with
  | zero => intro n h; simp at h; subst h; simp [beBytes_zero]
  | succ k ih =>
    intro n h
    by_cases h0 : 0 < n
    · rw [beBytes_pos n h0]
      have := ih (n / 256) (by rw [Nat.pow_succ] at h; omega)
      simp; omega
    · obtain rfl : n = 0 := by omega
      simp [beBytes_zero]

/-- The first k of the L bytes of n. -/
def digs (n L k : Nat) : List UInt8 := (List.range k).map fun i => UInt8.ofNat (n / 2 ^ (8 * (L - 1 - i)))
theorem digs_succ (n L k : Nat) : digs n L (k + 1) = digs n L k ++ [UInt8.ofNat (n / 2 ^ (8 * (L - 1 - k)))] := by
  simp [digs, List.range_succ]
theorem digs_len (n L k : Nat) : (digs n L k).length = k := by simp [digs]

theorem digs_up (n L : Nat) (k : Nat) (hk : k ≤ L) : digs (n / 256) L k = digs n (L + 1) k := by
  unfold digs
  apply List.map_congr_left
  intro i hi
  have hi' : i < k := List.mem_range.1 hi
  rw [Nat.div_div_eq_div_mul, show L + 1 - 1 - i = (L - 1 - i) + 1 by omega, Nat.mul_add, Nat.pow_add, Nat.mul_comm (2 ^ _)]

theorem ofNat_mod (n : Nat) : UInt8.ofNat (n % 256) = UInt8.ofNat n := by
  apply UInt8.toNat_inj.1; simp

theorem digs_be (L : Nat) : ∀ n, (beBytes n).length = L → digs n L L = beBytes n := by
  induction L with
  | zero => intro n h; rw [List.length_eq_zero_iff.1 h]; rfl
  | succ L ih =>
    intro n h
    by_cases h0 : 0 < n
    · rw [beBytes_pos n h0] at h ⊢
      simp at h
      rw [digs_succ, ← digs_up n L L (Nat.le_refl _), ih _ h]
      simp [ofNat_mod]
    · obtain rfl : n = 0 := by omega
      simp [beBytes_zero] at h

theorem beBytes_lo (n : Nat) : n < 256 ^ (beBytes n).length := by
  induction n using Nat.strongRecOn with
  | _ n ih =>
    by_cases h0 : 0 < n
    · rw [beBytes_pos n h0]
      have := ih (n / 256) (by omega)
      simp only [List.length_append, List.length_singleton, Nat.pow_succ]
      omega
    · obtain rfl : n = 0 := by omega
      simp [beBytes_zero]
theorem beBytes_hi (n : Nat) (h : 0 < n) : 256 ^ ((beBytes n).length - 1) ≤ n := by
  induction n using Nat.strongRecOn with
  | _ n ih =>
    rw [beBytes_pos n h]
    simp only [List.length_append, List.length_singleton, Nat.add_sub_cancel]
    by_cases h1 : 0 < n / 256
    · have := ih (n / 256) (by omega) h1
      have hl : 0 < (beBytes (n / 256)).length := by rw [beBytes_pos _ h1]; simp
      obtain ⟨l, hl'⟩ : ∃ l, (beBytes (n / 256)).length = l + 1 := ⟨_, (Nat.succ_pred_eq_of_pos hl).symm⟩
      rw [hl'] at this ⊢
      simp only [Nat.add_sub_cancel] at this
      rw [Nat.pow_succ]; omega
    · rw [show n / 256 = 0 by omega, beBytes_zero]; simp; omega

theorem bitLenAux_spec (f : Nat) : ∀ x, x < 2 ^ f → x < 2 ^ Lib.bitLenAux f x ∧ (0 < x → 0 < Lib.bitLenAux f x ∧ 2 ^ (Lib.bitLenAux f x - 1) ≤ x) ∧ Lib.bitLenAux f x ≤ f := by
  induction f with
  | zero => intro x h; simp at h; subst h; simp [Lib.bitLenAux]
  | succ f ih =>
    intro x h
    unfold Lib.bitLenAux
    by_cases h0 : x = 0
    · subst h0; simp
    · rw [if_neg h0]
      obtain ⟨a, b, c⟩ := ih (x / 2) (by rw [Nat.pow_succ] at h; omega)
      refine ⟨by rw [Nat.pow_add]; omega, fun _ => ⟨by omega, ?_⟩, by omega⟩
      rw [Nat.add_sub_cancel_left]
      by_cases h1 : 0 < x / 2
      · obtain ⟨p, q⟩ := b h1
        obtain ⟨l, hl⟩ : ∃ l, Lib.bitLenAux f (x / 2) = l + 1 := ⟨_, (Nat.succ_pred_eq_of_pos p).symm⟩
        rw [hl] at q ⊢
        simp only [Nat.add_sub_cancel] at q
        rw [Nat.pow_succ]; omega
      · have : x / 2 = 0 := by omega
        rw [this]
        cases f <;> simp [Lib.bitLenAux] <;> omega

theorem bitLen_bytes (n : Nat) (h : n < 2 ^ 64) : Lib.bitLen n ≤ 64 ∧ (Lib.bitLen n + 7) / 8 = (beBytes n).length := by
  obtain ⟨a, b, c⟩ := bitLenAux_spec 64 n h
  refine ⟨c, ?_⟩
  by_cases h00 : n = 0
  · subst h00; rw [beBytes_zero]; rfl
  show (Lib.bitLenAux 64 n + 7) / 8 = _
  generalize Lib.bitLenAux 64 n = q at a b c
  have h1 := beBytes_lo n
  have h0 : 0 < n := by omega
  have h2 := beBytes_hi n h0
  obtain ⟨b1, b2⟩ := b h0
  generalize (beBytes n).length = L at h1 h2
  rw [show (256 : Nat) = 2 ^ 8 from rfl, ← Nat.pow_mul] at h1 h2
  have e1 : q - 1 < 8 * L := (Nat.pow_lt_pow_iff_right (by decide)).1 (Nat.lt_of_le_of_lt b2 h1)
  have e2 : 8 * (L - 1) < q := (Nat.pow_lt_pow_iff_right (by decide)).1 (Nat.lt_of_le_of_lt h2 a)
  omega

/-- A number's bytes, as the chapter says (a number below 0 counts as 0). -/
def numL (x : Int) : List UInt8 := UInt8.ofNat (beBytes x.toNat).length :: beBytes x.toNat
theorem numL_eq (n : Nat) : numL n = UInt8.ofNat (beBytes n).length :: digs n (beBytes n).length (beBytes n).length := by
  unfold numL; rw [Int.toNat_natCast, digs_be _ n rfl]

/-- The number whose bytes they are. -/
def beVal (l : List UInt8) : Nat := l.foldl (fun a b => a * 256 + b.toNat) 0
theorem beVal_snoc (l : List UInt8) (b : UInt8) : beVal (l ++ [b]) = beVal l * 256 + b.toNat := by simp [beVal]
theorem beVal_take_lt (l : List UInt8) : ∀ k, k ≤ l.length → beVal (l.take k) < 256 ^ k
  | 0, _ => by simp [beVal]
  | k + 1, h => by
    have ih := beVal_take_lt l k (by omega)
    rw [List.take_succ_eq_append_getElem (show k < l.length by omega), beVal_snoc, Nat.pow_succ]
    have := (l[k]'(by omega)).toNat_lt
    omega
theorem take_snoc (l : List UInt8) (k : Nat) (h : k < l.length) : l.take (k + 1) = l.take k ++ [l[k]] := by
  rw [List.take_succ_eq_append_getElem h]

/-- What stands at the head of bytes: a number, how many bytes it takes, the error's number. -/
def headL : List UInt8 → Nat × Nat × Int
  | [] => (0, 0, 2)
  | c :: r =>
    if c.toNat = 0 then (0, 1, 0) else if 8 < c.toNat then (0, 0, 3) else
    match r with
    | [] => (0, 0, 2)
    | d :: _ => if d.toNat = 0 then (0, 0, 3) else if r.length < c.toNat then (0, 0, 2) else
      if 9223372036854775807 < beVal (r.take c.toNat) then (0, 0, 3) else (beVal (r.take c.toNat), c.toNat + 1, 0)

theorem beVal_be (n : Nat) : beVal (beBytes n) = n := by
  induction n using Nat.strongRecOn with
  | _ n ih =>
    by_cases h0 : 0 < n
    · rw [beBytes_pos n h0, beVal_snoc, ih _ (by omega)]
      simp; omega
    · obtain rfl : n = 0 := by omega
      rw [beBytes_zero]; rfl
theorem beBytes_first (n : Nat) (h : 0 < n) : ∃ d r, beBytes n = d :: r ∧ d.toNat ≠ 0 := by
  induction n using Nat.strongRecOn with
  | _ n ih =>
    rw [beBytes_pos n h]
    by_cases h1 : 0 < n / 256
    · obtain ⟨d, r, e, hd⟩ := ih _ (by omega) h1
      exact ⟨d, r ++ [UInt8.ofNat (n % 256)], by rw [e]; rfl, hd⟩
    · rw [show n / 256 = 0 by omega, beBytes_zero]
      exact ⟨_, [], rfl, by simp; omega⟩
theorem headL_num (n : Nat) (h : n ≤ 9223372036854775807) (r : List UInt8) : headL (numL n ++ r) = (n, (numL n).length, 0) := by
  have hl := beBytes_len 8 n (by simp; omega)
  unfold numL
  rw [Int.toNat_natCast]
  have hc : (UInt8.ofNat (beBytes n).length).toNat = (beBytes n).length := by simp; omega
  by_cases h0 : 0 < n
  · obtain ⟨d, t, e, hd⟩ := beBytes_first n h0
    have hv := beVal_be n
    rw [e] at hl hc hv ⊢
    simp only [List.cons_append, headL, hc]
    rw [if_neg (by simp), if_neg (by simp only [List.length_cons] at hl ⊢; omega), if_neg hd, if_neg (by simp)]
    have e2 : (d :: (t ++ r)).take (d :: t).length = d :: t := by simp
    rw [e2, hv, if_neg (by omega)]
    simp
  · obtain rfl : n = 0 := by omega
    rw [beBytes_zero]; rfl
theorem numL_toNat (x : Int) : numL x = numL (x.toNat : Int) := by unfold numL; rw [Int.toNat_natCast]
theorem numL_inj (n m : Nat) (hn : n ≤ 9223372036854775807) (hm : m ≤ 9223372036854775807) (r : List UInt8) (h : numL m = numL n ++ r) : n = m := by
  have a := headL_num n hn r
  have b := headL_num m hm []
  rw [List.append_nil, h, a] at b
  exact (Prod.mk.injEq _ _ _ _ ▸ b).1

end Go.Proofs.YtdahkemeoefndaaDoor

namespace Go.Proofs.YtdahkemeoefndaaDoor.NN
open Go.RowKit

theorem info_step : (Tryd.prog.info? 32).map (fun i => (i.zero, i.size, i.bytes)) = some (some (.agg #[.int .u64 0, .int .i64 0]), 2, 16) := by kernel_rfl

theorem lg_two : lg 2 = 256 := by decide +kernel
set_option maxRecDepth 40000 in
set_option maxHeartbeats 16000000 in
theorem weights_any (ao : Option Addr) (cap : Nat) (L0 : List (Nat × Int)) (po : Option Addr) (capK : Nat) (M : List Int) (w : World)
    (hS : StepsAt w ao L0) (hok : StepsOk L0) (hc : L0.length ≤ cap) (hM : Rd encI w po M) (hMb : ∀ x ∈ M, -9223372036854775808 ≤ x ∧ x ≤ 9223372036854775807) :
    Calls Tryd.prog 3 #[.slice ao L0.length cap, .slice po M.length capK] w fun r w' => r = .returned (.bool true) ∧ Below w.heap.size w w' := by
  obtain ⟨l0, hl0⟩ : ∃ n, n = L0.length := ⟨_, rfl⟩
  obtain ⟨lM, hlM⟩ : ∃ n, n = M.length := ⟨_, rfl⟩
  rw [← hl0] at hc ⊢
  rw [← hlM]
  have Hl0 := Lib.hid hl0
  have HlM := Lib.hid hlM
  have HS := Lib.hid hS
  have HOK := Lib.hid hok
  have HM := Lib.hid hM
  have HMb := Lib.hid hMb
  clear hl0 hlM hS hok hM hMb
  go_enter Tryd.func3, Tryd.ntmps3
  go_upto_if 15 with fail
  go_cut [0] (fun s0 wx => ∃ (L : List (Nat × Int)) (n c : Nat), s0 = .slice ao n c ∧ L.length = n ∧ n ≤ 8 ∧ StepsOk L ∧ StepsAt w ao L ∧ wx = w)
  case first =>
    by_cases h8 : 8 < l0
    · have h9 : (8 : Int) < l0 := by omega
      obtain ⟨bs, off, rfl, hbs, -⟩ := HS.out 0 (by rw [← Hl0.out]; omega)
      have h10 : (8 : Int) ≤ cap := by omega
      have h11 : 8 ≤ cap := by omega
      go_wp2_with fail
      go_meet
      exact ⟨L0.take 8, 8, cap, by simp, by rw [List.length_take, ← Hl0.out]; omega, Nat.le_refl _, StepsOk.take HOK.out 8, HS.out.take 8, rfl⟩
    · have h9 : ¬ (8 : Int) < l0 := by omega
      go_wp2_with fail
      go_meet
      exact ⟨L0, l0, cap, rfl, Hl0.out.symm, by omega, HOK.out, HS.out, rfl⟩
  case rest =>
  obtain ⟨L, n, c, rfl, hLn, hn8, hok, hS, rfl⟩ := hcut
  clear hc HS HOK Hl0
  rename World => w
  obtain ⟨S, hSd⟩ : ∃ S, S = gsum 5 L := ⟨_, rfl⟩
  have hSl : S < 10 ^ 40 := by rw [hSd]; exact gsum_lt 5 L hok (by decide) (by omega)
  have hSb : (lb S).length ≤ 40 := lb_pow hSl
  have HSl := Lib.hid hSl
  have h5l : (lb 5).length ≤ 2 := lb_64 (by decide)
  have HSd := Lib.hid hSd
  have HLn := Lib.hid hLn
  have HOK := Lib.hid hok
  have HS := Lib.hid hS
  clear hSd hLn hok hS hSl
  go_wp2_with fail
  refine (nofn_any 5 w (Lib.hid (by decide))).mono ?_
  rintro r w1 ⟨q1, c1, rfl, hN1, hb1, hf1⟩
  have hsum := sum_any q1 c1 5 ao c L w1 hN1 (HS.out.old hb1) (by rw [HLn.out]; omega) HOK.out (by omega)
  rw [HLn.out, ← HSd.out] at hsum
  clear hN1 hf1
  have HB1 := Lib.hid hb1
  clear hb1
  go_wp2_with fail
  refine hsum.mono ?_
  clear hsum
  rintro r w2 ⟨q6, c6, rfl, n6, hb2⟩
  have HB2 := Lib.hid (HB1.out.trans (hb2.mono HB1.out.size))
  have HN6 := Lib.hid n6
  clear HB1 hb2 n6
  obtain ⟨m6, hm6⟩ : ∃ m, m = (lb S).length := ⟨_, rfl⟩
  rw [← hm6] at hSb ⊢
  have Hm6 := Lib.hid hm6
  clear hm6
  go_wp2_with fail
  refine (nofn_any 5 _ (Lib.hid (by decide))).mono ?_
  rintro r w3 ⟨q7, c7, rfl, n7, hb3, -⟩
  have HA : Hid (StepsAt (w3.alloc (.cells #[.slice q7 (lb 5).length c7] 26)) ao L ∧ LpR w w2.heap.size w3.heap.size S 5 [] none 0 (w3.alloc (.cells #[.slice q7 (lb 5).length c7] 26))) := Lib.hid (by
    have b1 : Below w.heap.size w (w2.alloc (.cells #[.slice q6 m6 c6] 26)) := HB2.out.alloc HB2.out.size _
    have b2 := b1.trans (hb3.mono b1.size)
    have b3 := b2.alloc b2.size (.cells #[.slice q7 (lb 5).length c7] 26)
    have k6 : Boxed (w2.alloc (.cells #[.slice q6 m6 c6] 26)) w2.heap.size 26 (.slice q6 m6 c6) := Boxed.new _ _ _
    have k6b := Boxed.below' k6 hb3 k6.lt
    have h2 := HB2.out.size
    have h3 := hb3.size
    rw [World.size_alloc] at h3
    refine ⟨HS.out.old b3, ⟨q6, c6, ?_, ((HN6.out.alloc _).old hb3).alloc _⟩, ⟨q7, c7, Boxed.new _ _ _, n7.alloc _⟩, Rw.empty _ _, (fun a e => by cases e), b3, h2, by omega, by omega⟩
    rw [← Hm6.out]
    exact k6b.alloc _)
  clear n7 hb3 HB2 HN6
  go_upto_region 6 with fail
  generalize w3.alloc (.cells #[.slice q7 (lb 5).length c7] 26) = W at HA ⊢
  generalize w3.heap.size = g7 at HA ⊢
  generalize w2.heap.size = g6 at HA ⊢
  have HR0 : Hid (StepsAt (W.alloc (.cells #[] 32)) ao L ∧ LpR w g6 g7 S 5 [] (some ⟨W.heap.size, 0, none⟩) 0 (W.alloc (.cells #[] 32))) := Lib.hid (by
    have b : Below W.heap.size W (W.alloc (.cells #[] 32)) := (Below.refl _ _).alloc (Nat.le_refl _) _
    obtain ⟨h1, h2⟩ := HA.out
    have h3 := h2.old b
    refine ⟨h1.old b, h3.k6, h3.k7, Rw.made 32 W ([] : List (Nat × Int)) (Nat.zero_le _), ?_, h3.m, h3.l6, h3.l7, h3.ne⟩
    rintro a e; cases e
    exact h2.m.size)
  clear HA
  go_wp2_with (at_builtin; refine wpList_pushR encT rfl (.tmp 24) (.tmp 25) 22 32 _ 16 rfl Tryd.underlying22 info_step rfl (by decide) (some ⟨W.heap.size, 0, none⟩) 0 0 [] rfl rfl HR0.out.2.d ao n c L HLn.out rfl (steps_rd HR0.out.1) (by omega) ?_; intro q c' W2 hP)
  have HL := Lib.hid (HR0.out.2.push hP)
  clear hP HR0
  go_wp2_with fail
  go_loopw [8, 9, 10, 28] (fun s8 _ _ s28 wr => ∃ (i m y : Nat) (D : List (Nat × Int)) (q : Option Addr) (c : Nat), m + i = n ∧ s28 = .int .i64 (i : Int) ∧ s8 = .slice q m c ∧ D.length = m ∧ StepsOk D ∧ gsum y D = S ∧ Hid (LpR w g6 g7 S y D q c wr)) (fun _ _ _ i _ => n - (intOf i).toNat)
  case atStart => exact ⟨0, n, 5, L, q, c', by omega, rfl, rfl, HLn.out, HOK.out, HSd.out.symm, by simpa using HL⟩
  case round =>
    clear HL
    obtain ⟨i, m, y, D, q, c', hmi, rfl, rfl, hD, hok, hg, HR⟩ := hrel
    by_cases hin : i < n
    · have i1 : (i : Int) < n := by omega
      have i0 : (0 : Int) ≤ i := by omega
      have m0 : 0 < m := by omega
      have m8 : m ≤ 8 := by omega
      have Hok := Lib.hid hok
      have Hg := Lib.hid hg
      have HD := Lib.hid hD
      clear hok hg hD
      go_upto_if 34 with fail
      rename World => wr
      go_cut [10] (fun s10 wx => ∃ k : Nat, s10 = .int .i64 (k : Int) ∧ k < m ∧ wx = wr)
      case first =>
        by_cases hM : i < lM
        · have i2 : (i : Int) < lM := by omega
          obtain ⟨bs, off, rfl, hbs, cm⟩ := HM.out i (by rw [← HlM.out]; exact hM)
          have cc0 : wr.cell? ⟨bs, off + i, none⟩ = some (.int .i64 (M[i]'(by rw [← HlM.out]; exact hM))) := by
            have h1 := cm 0 _ rfl
            have h2 := HR.out.m.cell (p := ⟨bs, off + i, none⟩) hbs
            rw [h2]; simpa [encI] using h1
          have hx := HMb.out _ (List.getElem_mem (show i < M.length by rw [← HlM.out]; exact hM))
          generalize M[i]'(by rw [← HlM.out]; exact hM) = x at cc0 hx
          clear cm
          have m1 : ¬ ((m : Int) = 0) := by omega
          go_wp2_with fail
          obtain ⟨k, hk, e⟩ := at_rem x m m0 m8
          go_meet
          exact ⟨k, by rw [e], hk, rfl⟩
        · have i2 : ¬ (i : Int) < lM := by omega
          go_wp2_with fail
          go_meet
          exact ⟨0, rfl, m0, rfl⟩
      case rest =>
      obtain ⟨k, rfl, hk, rfl⟩ := hcut
      rename World => wr
      have hkD : k < D.length := by rw [HD.out]; exact hk
      obtain ⟨bs, off, rfl, hbs, r0, r1⟩ := Rd.step (HR.out.d.rd) k hkD
      obtain ⟨p1, hp1⟩ : ∃ z, z = D[k].1 := ⟨_, rfl⟩
      obtain ⟨w1, hw1⟩ : ∃ z, z = D[k].2 := ⟨_, rfl⟩
      obtain ⟨g, hg⟩ : ∃ z, z = gw p1 w1 := ⟨_, rfl⟩
      have ho := Hok.out _ (List.getElem_mem hkD)
      rw [← hp1, ← hw1] at ho
      rw [← hp1] at r0
      rw [← hw1] at r1
      have lgb : (lb g).length ≤ 40 := by rw [hg]; exact Nat.le_trans (lb_pow (gw_small p1 w1 ho.1 ho.2.2)) (by decide)
      have lyb : (lb y).length ≤ 40 := lb_pow (Nat.lt_of_le_of_lt (by rw [← Hg.out]; exact gsum_ge y D) HSl.out)
      have hgo := fun w => gof_any p1 w1 w (Lib.hid ho.1) (Lib.hid ho.2.2)
      rw [← hg] at hgo
      have Hgo := Lib.hid hgo
      have HD2 : Hid (gsum (y + g) (D.take k ++ D.drop (k + 1)) = S ∧ StepsOk (D.take k ++ D.drop (k + 1)) ∧ (D.take k ++ D.drop (k + 1)).length = m - 1) := Lib.hid ⟨by rw [hg, hp1, hw1, gsum_at y D k hkD]; exact Hg.out, (fun s hs => Hok.out s (mem_at hs)), by rw [len_at hkD, HD.out]⟩
      have k0 : (0 : Int) ≤ k := by omega
      have k1 : (k : Int) < m := by omega
      have rr0 : Hid (∀ w', Below wr.heap.size wr w' → w'.cell? ⟨bs, off + k * 2, none⟩ = some (.int .u64 (p1 : Int))) := Lib.hid (fun w' hb => (hb.cell (p := ⟨bs, off + k * 2, none⟩) hbs).trans r0)
      have rr1 : Hid (∀ w', Below wr.heap.size wr w' → w'.cell? ⟨bs, off + k * 2 + 1, none⟩ = some (.int .i64 w1)) := Lib.hid (fun w' hb => (hb.cell (p := ⟨bs, off + k * 2 + 1, none⟩) hbs).trans r1)
      clear hgo hg ho hp1 hw1 r0 r1 hbs
      go_upto_region 13 with fail
      refine wp_region_last (W := wr) (fun t => match t with
        | 48 => .eq (.slice (some ⟨bs, off, none⟩) m c')
        | 49 => .eq (.int .i64 (k : Int))
        | 50 => .eq (.pointer (some ⟨bs, off + k * 2, none⟩))
        | 51 => .eq (.pointer (some ⟨bs, off + k * 2, none⟩))
        | 52 => .eq (.int .u64 (p1 : Int))
        | 53 => .eq (.slice (some ⟨bs, off, none⟩) m c')
        | 54 => .eq (.int .i64 (k : Int))
        | 55 => .eq (.pointer (some ⟨bs, off + k * 2, none⟩))
        | 56 => .eq (.pointer (some ⟨bs, off + k * 2 + 1, none⟩))
        | 57 => .eq (.int .i64 w1)
        | 58 => .nat g
        | 59 => .nat y
        | 60 => .nat (y + g)
        | _ => .any) 13 (fun w' => ∃ u1 q2 c2, Below wr.heap.size wr u1 ∧ NatIn u1 q2 c2 (y + g) ∧ w' = u1.setCell ⟨g7, 0, none⟩ (.slice q2 (lb (y + g)).length c2)) 102 (by kernel_rfl) (by decide +kernel) rfl (Below.refl _ _).drew rfl (by
        refine OweAll3.cons (owes3_val rfl rfl rfl (by decide) ⟨⟨0, .phase⟩, by simp, rfl, rfl⟩ fun a u1 ha hG hV => ?_) ?_
        · skip
          have h8 := ha.outer 8 (by decide +kernel)
          simp only [Act.eval] at h8
          exact ⟨.slice (some ⟨bs, off, none⟩) m c', wanted_free rfl, by simp [execOp, go_sem, h8], rfl⟩
        refine OweAll3.cons (owes3_val rfl rfl rfl (by decide) ⟨⟨1, .phase⟩, by simp, rfl, rfl⟩ fun a u1 ha hG hV => ?_) ?_
        · skip
          have h10 := ha.outer 10 (by decide +kernel)
          simp only [Act.eval] at h10
          exact ⟨.int .i64 (k : Int), wanted_free rfl, by simp [execOp, go_sem, h10], rfl⟩
        refine OweAll3.cons (owes3_val rfl rfl rfl (by decide) ⟨⟨2, .phase⟩, by simp, rfl, rfl⟩ fun a u1 ha hG hV => ?_) ?_
        · skip
          have h48 : a.tmps.getD 48 undef = .slice (some ⟨bs, off, none⟩) m c' := hV.get 48 (by decide +kernel)
          have h49 : a.tmps.getD 49 undef = .int .i64 (k : Int) := hV.get 49 (by decide +kernel)
          exact ⟨.pointer (some ⟨bs, off + k * 2, none⟩), wanted_free rfl, by simp [execOp, go_sem, h48, h49, k0, k1], rfl⟩
        refine OweAll3.cons (owes3_val rfl rfl rfl (by decide) ⟨⟨3, .phase⟩, by simp, rfl, rfl⟩ fun a u1 ha hG hV => ?_) ?_
        · skip
          have h50 : a.tmps.getD 50 undef = .pointer (some ⟨bs, off + k * 2, none⟩) := hV.get 50 (by decide +kernel)
          exact ⟨.pointer (some ⟨bs, off + k * 2, none⟩), wanted_free rfl, by simp [execOp, go_sem, h50], rfl⟩
        refine OweAll3.cons (owes3_val rfl rfl rfl (by decide) ⟨⟨4, .phase⟩, by simp, rfl, rfl⟩ fun a u1 ha hG hV => ?_) ?_
        · skip
          have h51 : a.tmps.getD 51 undef = .pointer (some ⟨bs, off + k * 2, none⟩) := hV.get 51 (by decide +kernel)
          have cc := rr0.out u1 hG
          exact ⟨.int .u64 (p1 : Int), wanted_free rfl, by simp [execOp, go_sem, h51, cc], rfl⟩
        refine OweAll3.cons (owes3_val rfl rfl rfl (by decide) ⟨⟨5, .phase⟩, by simp, rfl, rfl⟩ fun a u1 ha hG hV => ?_) ?_
        · skip
          have h8 := ha.outer 8 (by decide +kernel)
          simp only [Act.eval] at h8
          exact ⟨.slice (some ⟨bs, off, none⟩) m c', wanted_free rfl, by simp [execOp, go_sem, h8], rfl⟩
        refine OweAll3.cons (owes3_val rfl rfl rfl (by decide) ⟨⟨6, .phase⟩, by simp, rfl, rfl⟩ fun a u1 ha hG hV => ?_) ?_
        · skip
          have h10 := ha.outer 10 (by decide +kernel)
          simp only [Act.eval] at h10
          exact ⟨.int .i64 (k : Int), wanted_free rfl, by simp [execOp, go_sem, h10], rfl⟩
        refine OweAll3.cons (owes3_val rfl rfl rfl (by decide) ⟨⟨7, .phase⟩, by simp, rfl, rfl⟩ fun a u1 ha hG hV => ?_) ?_
        · skip
          have h53 : a.tmps.getD 53 undef = .slice (some ⟨bs, off, none⟩) m c' := hV.get 53 (by decide +kernel)
          have h54 : a.tmps.getD 54 undef = .int .i64 (k : Int) := hV.get 54 (by decide +kernel)
          exact ⟨.pointer (some ⟨bs, off + k * 2, none⟩), wanted_free rfl, by simp [execOp, go_sem, h53, h54, k0, k1], rfl⟩
        refine OweAll3.cons (owes3_val rfl rfl rfl (by decide) ⟨⟨8, .phase⟩, by simp, rfl, rfl⟩ fun a u1 ha hG hV => ?_) ?_
        · skip
          have h55 : a.tmps.getD 55 undef = .pointer (some ⟨bs, off + k * 2, none⟩) := hV.get 55 (by decide +kernel)
          exact ⟨.pointer (some ⟨bs, off + k * 2 + 1, none⟩), wanted_free rfl, by simp [execOp, go_sem, h55], rfl⟩
        refine OweAll3.cons (owes3_val rfl rfl rfl (by decide) ⟨⟨9, .phase⟩, by simp, rfl, rfl⟩ fun a u1 ha hG hV => ?_) ?_
        · skip
          have h56 : a.tmps.getD 56 undef = .pointer (some ⟨bs, off + k * 2 + 1, none⟩) := hV.get 56 (by decide +kernel)
          have cc := rr1.out u1 hG
          exact ⟨.int .i64 w1, wanted_free rfl, by simp [execOp, go_sem, h56, cc], rfl⟩
        refine OweAll3.cons (owes3_call rfl rfl 7 rfl (by decide) ⟨⟨10, .phase⟩, by simp, rfl, rfl⟩ fun a u1 ha hG hV => ?_) ?_
        · skip
          have h52 : a.tmps.getD 52 undef = .int .u64 (p1 : Int) := hV.get 52 (by decide +kernel)
          have h57 : a.tmps.getD 57 undef = .int .i64 w1 := hV.get 57 (by decide +kernel)
          refine ⟨#[.int .u64 (p1 : Int), .int .i64 w1], wanted_free rfl, by simp [go_sem, h52, h57], ?_⟩
          refine (Hgo.out u1).mono ?_
          rintro r u2 ⟨qr, cr, rfl, hN, hb, -⟩; exact ⟨_, rfl, ⟨qr, cr, rfl, hN⟩, hb⟩
        refine OweAll3.cons (owes3_val rfl rfl rfl (by decide) ⟨⟨11, .phase⟩, by simp, rfl, rfl⟩ fun a u1 ha hG hV => ?_) ?_
        · skip
          have h7 := ha.outer 7 (by decide +kernel)
          simp only [Act.eval] at h7
          obtain ⟨q7', c7', b7, n7⟩ := (HR.out.old hG).k7
          have c5 := b7.cell
          exact ⟨.agg #[.slice q7' (lb y).length c7'], wanted_free rfl, by simp [execOp, go_sem, h7, c5], ⟨_, _, rfl, n7⟩⟩
        refine OweAll3.cons (owes3_call rfl rfl 8 rfl (by decide) ⟨⟨12, .phase⟩, by simp, rfl, rfl⟩ fun a u1 ha hG hV => ?_) ?_
        · skip
          obtain ⟨q17, c17, h17, n17⟩ : NV y (a.tmps.getD 59 undef) u1 := hV.get 59 (by decide +kernel)
          obtain ⟨q22, c22, h22, n22⟩ : NV g (a.tmps.getD 58 undef) u1 := hV.get 58 (by decide +kernel)
          refine ⟨#[.agg #[.slice q22 (lb g).length c22], .agg #[.slice q17 (lb y).length c17]], wanted_free rfl, by simp [go_sem, h17, h22], ?_⟩
          have hadd := add_any q22 q17 c22 c17 g y u1 n22 n17 (by omega) (by omega)
          rw [Nat.add_comm g y] at hadd
          refine hadd.mono ?_
          rintro r u2 ⟨qr, cr, rfl, hN, hb, -⟩; exact ⟨_, rfl, ⟨qr, cr, rfl, hN⟩, hb⟩
        refine OweAll3.cons (owes3_store rfl rfl rfl fun a u1 ha hG hV => ?_) ?_
        · skip
          have h7 := ha.outer 7 (by decide +kernel)
          simp only [Act.eval] at h7
          obtain ⟨q23, c23, h23, n23⟩ : NV (y + g) (a.tmps.getD 60 undef) u1 := hV.get 60 (by decide +kernel)
          obtain ⟨q7', c7', b7, n7⟩ := (HR.out.old hG).k7
          have c5 := b7.cell
          have f5 := b7.frozen
          exact ⟨_, by simp [execOp, go_sem, h7, h23, c5, f5], u1, q23, c23, hG, n23, rfl⟩
        exact OweAll3.nil) ?_
      rintro f w' ⟨u1, q2, c2, hb1, hN2, rfl⟩
      rename_i hK
      refine hK _ _ ?_
      clear hK
      have HR2 := Lib.hid ((HR.out.old hb1).store hN2)
      clear hb1 hN2 HR rr0 rr1 Hgo
      simp only [dsts, puts, List.filterMap_cons, List.filterMap_nil, List.foldl_cons, List.foldl_nil, Act.put, List.setIfInBounds_toArray, List.set_cons_succ, List.set_cons_zero]
      generalize u1.setCell ⟨g7, 0, none⟩ (.slice q2 (lb (y + g)).length c2) = wq at HR2 ⊢
      go_upto_region 14 with fail
      have HR3 : k < c' := by have := HR2.out.d.cap_le; rw [HD.out] at this; omega
      have HR4 : m ≤ c' := by have := HR2.out.d.cap_le; rw [HD.out] at this; exact this
      have HG0 : Hid ((fun (j : Nat) (x : Value) (xw : World) => (j = 0 → LpR w g6 g7 S (y + g) D (some ⟨bs, off, none⟩) c' xw) ∧ (1 ≤ j → ∃ q3 c3, x = .slice q3 (m - 1) c3 ∧ LpR w g6 g7 S (y + g) (D.take k ++ D.drop (k + 1)) q3 c3 xw)) 0 undef wq.drew) := Lib.hid ⟨fun _ => HR2.out.old (Below.refl _ _).drew, fun h => absurd h (by omega)⟩
      clear HR2
      have k2 : ((k + 1 : Nat) : Int) = (k : Int) + 1 := by omega
      have k3 : (k : Int) + 1 ≤ m := by omega
      have k4 : (0 : Int) ≤ (k : Int) + 1 := by omega
      have wk : IntKind.i64.wrap ((k : Int) + 1) = (k : Int) + 1 := wrap_next k m k1 m8
      have kc : (k : Int) ≤ c' := Int.ofNat_le.2 (Nat.le_of_lt HR3)
      obtain ⟨ao2, hao⟩ : ∃ x, x = (if c' = k + 1 then some (⟨bs, off, none⟩ : Addr) else some ⟨bs, off + (k + 1) * 2, none⟩) := ⟨_, rfl⟩
      have Hao := Lib.hid hao
      clear hao
      have HY : Hid (∀ xw : World, Rd encT xw (some ⟨bs, off, none⟩) D → Rd encT xw ao2 (D.drop (k + 1))) := Lib.hid (fun xw h => by
        rw [Hao.out]
        by_cases hc : c' = k + 1
        · rw [if_pos hc, List.drop_eq_nil_of_le (by rw [HD.out]; exact Nat.le_trans HR4 (Nat.le_of_eq hc))]
          exact Rd.nil _ _
        · rw [if_neg hc]
          exact Rd.drop h (k + 1))
      refine wp_region_chain (fun t v => match t with
        | 61 => v = .slice (some ⟨bs, off, none⟩) m c'
        | 62 => v = .int .i64 (k : Int)
        | 63 => v = .slice (some ⟨bs, off, none⟩) k c'
        | 64 => v = .slice (some ⟨bs, off, none⟩) m c'
        | 65 => v = .int .i64 (k : Int)
        | 66 => v = .int .i64 ((k : Int) + 1)
        | 67 => v = .slice ao2 (m - (k + 1)) (c' - (k + 1))
        | _ => True) (fun (j : Nat) (x : Value) (xw : World) => (j = 0 → LpR w g6 g7 S (y + g) D (some ⟨bs, off, none⟩) c' xw) ∧ (1 ≤ j → ∃ q3 c3, x = .slice q3 (m - 1) c3 ∧ LpR w g6 g7 S (y + g) (D.take k ++ D.drop (k + 1)) q3 c3 xw)) [7, 8] 102 (by kernel_rfl) (by decide +kernel) rfl (by decide +kernel) (by decide) (by decide) HG0.out (by
        refine OweAllC.cons (owesC_val 1 (by decide +kernel) (by decide) rfl rfl fun k' a xw x hk ha hG hV => ?_) ?_
        · skip
          have h8 := ha.kp 1 8 _ 8 (by omega) rfl rfl rfl
          simp only [Act.eval] at h8
          exact ⟨.slice (some ⟨bs, off, none⟩) m c', wanted_free rfl, by simp [execOp, go_sem, h8], rfl⟩
        refine OweAllC.cons (owesC_val 1 (by decide +kernel) (by decide) rfl rfl fun k' a xw x hk ha hG hV => ?_) ?_
        · skip
          have h10 := ha.outer 10 (by decide +kernel)
          simp only [Act.eval] at h10
          exact ⟨.int .i64 (k : Int), wanted_free rfl, by simp [execOp, go_sem, h10], rfl⟩
        refine OweAllC.cons (owesC_val 0 (by decide +kernel) (by decide) rfl rfl fun k' a xw x hk ha hG hV => ?_) ?_
        · skip
          have h61 : a.tmps.getD 61 undef = .slice (some ⟨bs, off, none⟩) m c' := hV.get 61 (by decide +kernel)
          have h62 : a.tmps.getD 62 undef = .int .i64 (k : Int) := hV.get 62 (by decide +kernel)
          exact ⟨.slice (some ⟨bs, off, none⟩) k c', wanted_free rfl, by simp [execOp, go_sem, h61, h62, k0, kc], rfl⟩
        refine OweAllC.cons (owesC_val 1 (by decide +kernel) (by decide) rfl rfl fun k' a xw x hk ha hG hV => ?_) ?_
        · skip
          have h8 := ha.kp 1 8 _ 8 (by omega) rfl rfl rfl
          simp only [Act.eval] at h8
          exact ⟨.slice (some ⟨bs, off, none⟩) m c', wanted_free rfl, by simp [execOp, go_sem, h8], rfl⟩
        refine OweAllC.cons (owesC_val 1 (by decide +kernel) (by decide) rfl rfl fun k' a xw x hk ha hG hV => ?_) ?_
        · skip
          have h10 := ha.outer 10 (by decide +kernel)
          simp only [Act.eval] at h10
          exact ⟨.int .i64 (k : Int), wanted_free rfl, by simp [execOp, go_sem, h10], rfl⟩
        refine OweAllC.cons (owesC_val 0 (by decide +kernel) (by decide) rfl rfl fun k' a xw x hk ha hG hV => ?_) ?_
        · skip
          have h65 : a.tmps.getD 65 undef = .int .i64 (k : Int) := hV.get 65 (by decide +kernel)
          exact ⟨.int .i64 ((k : Int) + 1), wanted_free rfl, by simp [execOp, go_sem, h65, wk], rfl⟩
        refine OweAllC.cons (owesC_val 0 (by decide +kernel) (by decide) rfl rfl fun k' a xw x hk ha hG hV => ?_) ?_
        · skip
          have h64 : a.tmps.getD 64 undef = .slice (some ⟨bs, off, none⟩) m c' := hV.get 64 (by decide +kernel)
          have h66 : a.tmps.getD 66 undef = .int .i64 ((k : Int) + 1) := hV.get 66 (by decide +kernel)
          exact ⟨.slice ao2 (m - (k + 1)) (c' - (k + 1)), wanted_free rfl, by rw [Hao.out]; simp [execOp, go_sem, h64, h66, k3, k4], rfl⟩
        refine OweAllC.cons (owesC_law 0 rfl rfl fun a xw x ha hG hx hV => ?_) ?_
        · skip
          have h63 : a.tmps.getD 63 undef = .slice (some ⟨bs, off, none⟩) k c' := hV.get 63 (by decide +kernel)
          have h67 : a.tmps.getD 67 undef = .slice ao2 (m - (k + 1)) (c' - (k + 1)) := hV.get 67 (by decide +kernel)
          have hL := hG.1 rfl
          refine ⟨wanted_free rfl, fun K hK => ?_⟩
          refine wp_pushR encT (.tmp 63) (.tmp 67) 22 32 _ 16 rfl Tryd.underlying22 info_step rfl (by decide) (some ⟨bs, off, none⟩) c' k (D.take k) (by rw [List.length_take, HD.out]; omega) h63 (Rw.take hL.d k) ao2 (m - (k + 1)) (c' - (k + 1)) (D.drop (k + 1)) (by rw [List.length_drop, HD.out]) h67 (HY.out xw hL.d.rd) (by omega) (fun q3 c3 w3 hP => hK _ _ (fun t ht => by cases ht; trivial) ⟨fun h => absurd h (by omega), fun _ => ⟨q3, c3, by rw [show k + (m - (k + 1)) = m - 1 from by omega], hL.push hP⟩⟩)
        refine OweAllC.cons (owesC_mem 1 rfl rfl rfl fun a xw x ha hG hx hV => ?_) ?_
        · skip
          obtain ⟨q3, c3, rfl, hL⟩ := hG.2 (by omega)
          have h68 := hx 0 7 _ 68 rfl rfl rfl rfl
          simp only [Act.eval] at h68
          exact ⟨.slice q3 (m - 1) c3, xw, wanted_free rfl, by simp [execOp, go_sem, h68], trivial, fun h => absurd h (by omega), fun _ => ⟨q3, c3, rfl, hL⟩⟩
        exact OweAllC.nil
        ) ?_
      intro f wz xz hG hx hv
      have e8 : f 8 = xz := hx 1 8 _ 8 rfl rfl rfl rfl
      first | (rename_i hK; refine hK _ _ ?_; clear hK) | (rename_i hK _; refine hK _ _ ?_; clear hK) | (rename_i hK _ _; refine hK _ _ ?_; clear hK) | (rename_i hK _ _ _; refine hK _ _ ?_; clear hK)
      clear hv hx
      obtain ⟨q3, c3, rfl, hL⟩ := hG.2 (by decide)
      have HL3 := Lib.hid hL
      clear hL hG HG0 HY Hao
      simp only [dsts, puts, List.filterMap_cons, List.filterMap_nil, List.foldl_cons, List.foldl_nil, Act.put, List.setIfInBounds_toArray, List.set_cons_succ, List.set_cons_zero, e8]
      clear e8
      go_wp2_with fail
      go_roundw
      case rel => exact ⟨i + 1, m - 1, y + g, D.take k ++ D.drop (k + 1), q3, c3, by omega, by go_num, rfl, HD2.out.2.2, HD2.out.2.1, HD2.out.1, HL3⟩
      case measure => simp [intOf]; omega
    · obtain rfl : m = 0 := by omega
      obtain rfl : D = [] := List.eq_nil_of_length_eq_zero hD
      obtain rfl : y = S := by simpa [gsum] using hg
      obtain ⟨⟨q6, c6, b6, n6⟩, ⟨q7, c7, b7, n7⟩, -, -, hmB, -, -, -⟩ := HR.out
      have lS : (lb y).length ≤ 40 := lb_pow HSl.out
      obtain ⟨z, hz⟩ : ∃ z, z = y - 5 := ⟨_, rfl⟩
      have h5y : Hid (5 ≤ y) := Lib.hid (by rw [HSd.out]; exact gsum_ge 5 L)
      have hz0 : Hid (gsum 0 L = z) := Lib.hid (by
        have e := gsum_add 0 5 L
        rw [Nat.zero_add, ← HSd.out] at e
        omega)
      have lz : (lb z).length ≤ 40 := lb_pow (Nat.lt_of_le_of_lt (by rw [hz]; exact Nat.sub_le _ _) HSl.out)
      have Hz := Lib.hid hz
      have i2 : ¬ (i : Int) < n := by omega
      have HmB := Lib.hid hmB
      clear hz hmB HR hg hok hD
      go_upto_region 16 with fail
      rename World => wr
      refine wp_region_puts2 (Γ := Option Nat) none (fun t vv γ w' => R.VR (
        match t with
        | 71 => .nat y
        | 72 => .nat 5
        | 73 => .sub z
        | 70 => .sub z
        | 74 => .nat z
        | 75 => .eq (.bool true)
        | 11 => .ptr
        | 12 => .eq (.bool true)
        | _ => .any) vv γ w') (R.UU 7 z) (R.GG wr) 102 (by kernel_rfl) (by decide +kernel) rfl ⟨(Below.refl _ _).drew, fun g e => by cases e⟩ (by
        refine OweAll2.cons (R.owes2_val rfl rfl (by decide) fun γ a u1 ha hG hV hU => ?_) ?_
        · skip
          have h6 := ha.outer 6 (by decide +kernel)
          simp only [Act.eval] at h6
          have cc := (Boxed.below' b6 hG.b b6.lt).cell
          exact ⟨.agg #[.slice q6 (lb y).length c6], wanted_free rfl, by simp [execOp, go_sem, h6, cc], ⟨_, _, rfl, n6.old hG.b, hG.far n6⟩⟩
        refine OweAll2.cons (R.owes2_call rfl rfl (by decide) 6 fun γ a u1 ha hG hV hU => ?_) ?_
        · skip
          refine ⟨#[.int .u64 5], wanted_free rfl, by simp [go_sem], ?_⟩
          refine (nofn_any 5 u1 (Lib.hid (by decide))).mono ?_
          rintro r w2 ⟨qr, cr, rfl, hN, hb, hf⟩; exact ⟨_, rfl, ⟨qr, cr, rfl, hN, hG.fresh hf⟩, hb⟩
        refine OweAll2.cons (R.owes2_call rfl rfl (by decide) 9 fun γ a u1 ha hG hV hU => ?_) ?_
        · skip
          obtain ⟨q14, c14, h14, n14, o14⟩ : R.NG y (a.tmps.getD 71 undef) γ u1 := hV.get 71 (by decide +kernel)
          obtain ⟨q18, c18, h18, n18, o18⟩ : R.NG 5 (a.tmps.getD 72 undef) γ u1 := hV.get 72 (by decide +kernel)
          refine ⟨#[.agg #[.slice q14 (lb y).length c14], .agg #[.slice q18 (lb 5).length c18]], wanted_free rfl, by simp [go_sem, h14, h18], ?_⟩
          have hmm := sub_yes q14 q18 c14 c18 y 5 u1 n14 n18 (by omega) h5y
          rw [← Hz.out] at hmm
          refine hmm.mono ?_
          rintro r w2 ⟨qr, cr, rfl, hN, hb, hf⟩; exact ⟨_, rfl, ⟨qr, cr, rfl, hN, hG.fresh hf⟩, hb⟩
        refine OweAll2.cons (R.owes2_val rfl rfl (by decide) fun γ a u1 ha hG hV hU => ?_) ?_
        · skip
          obtain ⟨q20, c20, h73, n20, o20⟩ : R.SG z (a.tmps.getD 73 undef) γ u1 := hV.get 73 (by decide +kernel)
          exact ⟨.tuple #[.agg #[.slice q20 (lb z).length c20], .bool true], wanted_free rfl, by simp [execOp, go_sem, h73], ⟨_, _, rfl, n20, o20⟩⟩
        refine OweAll2.cons (R.owes2_val rfl rfl (by decide) fun γ a u1 ha hG hV hU => ?_) ?_
        · skip
          obtain ⟨q20, c20, h70, n20, o20⟩ : R.SG z (a.tmps.getD 70 undef) γ u1 := hV.get 70 (by decide +kernel)
          exact ⟨.agg #[.slice q20 (lb z).length c20], wanted_free rfl, by simp [execOp, go_sem, h70], ⟨_, _, rfl, n20, o20⟩⟩
        refine OweAll2.cons (R.owes2_val rfl rfl (by decide) fun γ a u1 ha hG hV hU => ?_) ?_
        · skip
          obtain ⟨q20, c20, h70, n20, o20⟩ : R.SG z (a.tmps.getD 70 undef) γ u1 := hV.get 70 (by decide +kernel)
          exact ⟨.bool true, wanted_free rfl, by simp [execOp, go_sem, h70], rfl⟩
        refine OweAll2.cons (R.owes2_alloc (t := 11) (z := .slice none 0 0) rfl rfl (by decide) rfl rfl ?_ (fun j p hp hj => (drawOk2_spec (md := .any) (N := 102) (by decide +kernel)).apart 6 j _ p 11 rfl hp hj rfl) ?_ ?_) ?_
        · intro x hx h
          split at h <;> first | contradiction | exact hx rfl
        · intro p hp
          obtain rfl := Option.some.inj hp
          exact ⟨⟨6, .data⟩, by simp, rfl, rfl⟩
        · intro a u1
          simp [execOp, go_sem]
        refine OweAll2.cons (R.owes2_store rfl rfl rfl fun γ a u1 ha hG hV => ?_) ?_
        · skip
          obtain ⟨g6', e6, h6, z6, bb6⟩ : R.PG (a.tmps.getD 11 undef) γ u1 := hV.get 11 (by decide +kernel)
          obtain ⟨q21, c21, h21, n21, o21⟩ : R.NG z (a.tmps.getD 74 undef) γ u1 := hV.get 74 (by decide +kernel)
          have c6 := bb6.cell
          have f6 := bb6.frozen
          exact ⟨g6', q21, c21, e6, ⟨z6, bb6⟩, n21, o21, by simp [execOp, go_sem, h6, h21, c6, f6]⟩
        refine OweAll2.cons (R.owes2_val rfl rfl (by decide) fun γ a u1 ha hG hV hU => ?_) ?_
        · skip
          have h75 : a.tmps.getD 75 undef = (.bool true) := hV.get 75 (by decide +kernel)
          exact ⟨.bool true, wanted_free rfl, by simp [execOp, go_sem, h75], rfl⟩
        exact OweAll2.nil) ?_
      intro f γ W2 hG hv hU
      obtain ⟨gs, eg, h11, -⟩ : R.PG (f 11) γ W2 := hv 6 _ 11 rfl rfl
      have h12 : f 12 = .bool true := hv 8 _ 12 rfl rfl
      have hu : R.UU 7 z 7 γ W2 := hU 7 _ rfl
      unfold R.UU at hu
      rw [if_pos rfl] at hu
      obtain ⟨gs', qs, cs, eg', kb, nb, -⟩ := hu
      have e : gs' = gs := by rw [eg] at eg'; exact (Option.some.inj eg').symm
      subst e
      rename_i hK
      refine hK _ _ ?_
      clear hK hv hU eg eg'
      have hGb := hG.b
      have b6 := Boxed.below' b6 hGb b6.lt
      have b7 := Boxed.below' b7 hGb b7.lt
      have n6 := n6.old hGb
      have n7 := n7.old hGb
      have HmB := Lib.hid (HmB.out.trans (hGb.mono HmB.out.size))
      clear hG hGb
      simp only [dsts, puts, List.filterMap_cons, List.filterMap_nil, List.foldl_cons, List.foldl_nil, Act.put, List.setIfInBounds_toArray, List.set_cons_succ, List.set_cons_zero, h11, h12]
      clear h11 h12
      have HSum : Hid (∀ u1, Below W2.heap.size W2 u1 → Calls Tryd.prog 5 #[.agg #[.slice none 0 0], .slice ao n c] u1 fun r w' => ∃ q c, r = .returned (.agg #[.slice q (lb z).length c]) ∧ NatIn w' q c z ∧ Below u1.heap.size u1 w') := Lib.hid (fun u1 hb => by
        have hz1 : NatIn u1 none 0 0 := by show Sl _ _ _ _ _ (lb 0); rw [lb_zero]; exact Sl.empty _ _ _
        have h := sum_any none 0 0 ao c L u1 hz1 (HS.out.old (HmB.out.trans (hb.mono HmB.out.size))) (by rw [HLn.out]; omega) HOK.out (by rw [lb_zero]; exact Nat.zero_le _)
        rw [HLn.out, hz0.out, show (lb 0).length = 0 by rw [lb_zero]; rfl] at h
        exact h)
      have HLog : Hid (∀ u1, Calls Tryd.prog 12 #[.int .u64 2] u1 fun r w' => r = .returned (.int .i64 256) ∧ Below u1.heap.size u1 w') := Lib.hid (fun u1 => by
        have h := log_any 2 u1 (Lib.hid (by decide))
        rw [lg_two] at h
        exact h)
      go_upto_region 17 with fail
      refine wp_region_puts (fun t v w => VK (match t with
        | 76 => .st (natSt y)
        | 77 => .st (natSt y)
        | 78 => .eq (.int .i64 0)
        | 79 => .eq (Value.bool true)
        | 80 => .eq (Value.bool true)
        | 81 => .eq (Value.bool true)
        | 82 => .eq (Value.bool true)
        | 83 => .eq (Value.bool true)
        | 84 => .st (natSt z)
        | 85 => .eq (.agg #[.slice none 0 0])
        | 86 => .eq (.slice ao n c)
        | 87 => .st (natSt z)
        | 88 => .eq (.int .i64 0)
        | 89 => .eq (Value.bool true)
        | 90 => .eq (Value.bool true)
        | 91 => .eq (Value.bool true)
        | 92 => .st (natSt y)
        | 93 => .eq (.string ⟨(dec y).toArray⟩)
        | 94 => .st (natSt y)
        | 95 => .eq (.string ⟨(dec y).toArray⟩)
        | 96 => .eq (Value.bool true)
        | 97 => .eq (Value.bool true)
        | 98 => .eq (Value.bool true)
        | 99 => .eq (.int .i64 256)
        | 100 => .eq (Value.bool true)
        | 101 => .eq (Value.bool true)
        | 4 => .eq (Value.bool true)
        | _ => .any) v w) (fun w' => Below W2.heap.size W2 w') 102 (by kernel_rfl) (by decide +kernel) rfl (Below.refl _ _).drew (by
        refine OweAll.cons (owesK rfl rfl fun a w1 ha hG hV => ?_) ?_
        · skip
          have h6 := ha.outer 6 (by decide +kernel)
          simp only [Act.eval] at h6
          have cc := (Boxed.below' b6 hG b6.lt).cell
          exact ⟨.agg #[.slice q6 (lb y).length c6], w1, wanted_free rfl, by simp [execOp, go_sem, h6, cc], Below.refl _ _, ⟨q6, c6, rfl, n6.old hG⟩⟩
        refine OweAll.cons (owesK rfl rfl fun a w1 ha hG hV => ?_) ?_
        · skip
          have h7 := ha.outer 7 (by decide +kernel)
          simp only [Act.eval] at h7
          have cc := (Boxed.below' b7 hG b7.lt).cell
          exact ⟨.agg #[.slice q7 (lb y).length c7], w1, wanted_free rfl, by simp [execOp, go_sem, h7, cc], Below.refl _ _, ⟨q7, c7, rfl, n7.old hG⟩⟩
        refine OweAll.cons (owesK_call rfl rfl 10 fun a w1 ha hG hV => ?_) ?_
        · skip
          have s76 : (natSt y).p (a.tmps.getD 76 undef) w1 := hV.get 76 (by decide +kernel)
          have s77 : (natSt y).p (a.tmps.getD 77 undef) w1 := hV.get 77 (by decide +kernel)
          obtain ⟨qa, ca, ha1, na⟩ := s76
          obtain ⟨qb, cb, hb1, nb1⟩ := s77
          refine ⟨#[.agg #[.slice qa (lb y).length ca], .agg #[.slice qb (lb y).length cb]], wanted_free rfl, by simp [go_sem, ha1, hb1], ?_⟩
          refine (cmp_any qa qb ca cb y y w1 na nb1 (by omega)).mono ?_
          rintro r u2 ⟨rfl, hb⟩; exact ⟨_, rfl, by show Value.int .i64 (cmpI y y) = .int .i64 0; unfold cmpI; simp, hb⟩
        refine OweAll.cons (owesK rfl rfl fun a w1 ha hG hV => ?_) ?_
        · skip
          have h78 : a.tmps.getD 78 undef = .int .i64 0 := hV.get 78 (by decide +kernel)
          exact ⟨Value.bool true, w1, wanted_free rfl, by simp [execOp, go_sem, h78], Below.refl _ _, rfl⟩
        refine OweAll.cons (owesK rfl rfl fun a w1 ha hG hV => ?_) ?_
        · skip
          have h79 : a.tmps.getD 79 undef = Value.bool true := hV.get 79 (by decide +kernel)
          exact ⟨Value.bool true, w1, wanted_free rfl, by simp [execOp, go_sem, h79], Below.refl _ _, rfl⟩
        refine OweAll.cons (owesK rfl rfl fun a w1 ha hG hV => ?_) ?_
        · skip
          have h12 := ha.outer 12 (by decide +kernel)
          simp only [Act.eval] at h12
          exact ⟨Value.bool true, w1, (wanted_of (t := 80) rfl rfl (hV.get 80 (by decide +kernel))), by simp [execOp, go_sem, h12], Below.refl _ _, rfl⟩
        refine OweAll.cons (owesK rfl rfl fun a w1 ha hG hV => ?_) ?_
        · skip
          have h80 : a.tmps.getD 80 undef = Value.bool true := hV.get 80 (by decide +kernel)
          have h81 : a.tmps.getD 81 undef = Value.bool true := hV.get 81 (by decide +kernel)
          exact ⟨Value.bool true, w1, wanted_free rfl, by simp [execOp, go_sem, h80, h81], Below.refl _ _, rfl⟩
        refine OweAll.cons (owesK rfl rfl fun a w1 ha hG hV => ?_) ?_
        · skip
          have h82 : a.tmps.getD 82 undef = Value.bool true := hV.get 82 (by decide +kernel)
          exact ⟨Value.bool true, w1, wanted_free rfl, by simp [execOp, go_sem, h82], Below.refl _ _, rfl⟩
        refine OweAll.cons (owesK rfl rfl fun a w1 ha hG hV => ?_) ?_
        · skip
          have h11 := ha.outer 11 (by decide +kernel)
          simp only [Act.eval] at h11
          have cc := (Boxed.below' kb hG kb.lt).cell
          exact ⟨.agg #[.slice qs (lb z).length cs], w1, (wanted_of (t := 83) rfl rfl (hV.get 83 (by decide +kernel))), by simp [execOp, go_sem, h11, cc], Below.refl _ _, ⟨qs, cs, rfl, nb.old hG⟩⟩
        refine OweAll.cons (owesK rfl rfl fun a w1 ha hG hV => ?_) ?_
        · skip
          exact ⟨.agg #[.slice none 0 0], w1, (wanted_of (t := 83) rfl rfl (hV.get 83 (by decide +kernel))), by simp [execOp, go_sem], Below.refl _ _, rfl⟩
        refine OweAll.cons (owesK rfl rfl fun a w1 ha hG hV => ?_) ?_
        · skip
          have h0 := ha.outer 0 (by decide +kernel)
          simp only [Act.eval] at h0
          exact ⟨.slice ao n c, w1, (wanted_of (t := 83) rfl rfl (hV.get 83 (by decide +kernel))), by simp [execOp, go_sem, h0], Below.refl _ _, rfl⟩
        refine OweAll.cons (owesK_call rfl rfl 5 fun a w1 ha hG hV => ?_) ?_
        · skip
          have h85 : a.tmps.getD 85 undef = .agg #[.slice none 0 0] := hV.get 85 (by decide +kernel)
          have h86 : a.tmps.getD 86 undef = .slice ao n c := hV.get 86 (by decide +kernel)
          refine ⟨#[.agg #[.slice none 0 0], .slice ao n c], (wanted_of (t := 83) rfl rfl (hV.get 83 (by decide +kernel))), by simp [go_sem, h85, h86], ?_⟩
          refine (HSum.out w1 hG).mono ?_
          rintro r u2 ⟨qr, cr, rfl, hN, hb⟩; exact ⟨_, rfl, ⟨qr, cr, rfl, hN⟩, hb⟩
        refine OweAll.cons (owesK_call rfl rfl 10 fun a w1 ha hG hV => ?_) ?_
        · skip
          have s84 : (natSt z).p (a.tmps.getD 84 undef) w1 := hV.get 84 (by decide +kernel)
          have s87 : (natSt z).p (a.tmps.getD 87 undef) w1 := hV.get 87 (by decide +kernel)
          obtain ⟨qa, ca, ha1, na⟩ := s84
          obtain ⟨qb, cb, hb1, nb1⟩ := s87
          refine ⟨#[.agg #[.slice qa (lb z).length ca], .agg #[.slice qb (lb z).length cb]], (wanted_of (t := 83) rfl rfl (hV.get 83 (by decide +kernel))), by simp [go_sem, ha1, hb1], ?_⟩
          refine (cmp_any qa qb ca cb z z w1 na nb1 (by omega)).mono ?_
          rintro r u2 ⟨rfl, hb⟩; exact ⟨_, rfl, by show Value.int .i64 (cmpI z z) = .int .i64 0; unfold cmpI; simp, hb⟩
        refine OweAll.cons (owesK rfl rfl fun a w1 ha hG hV => ?_) ?_
        · skip
          have h88 : a.tmps.getD 88 undef = .int .i64 0 := hV.get 88 (by decide +kernel)
          exact ⟨Value.bool true, w1, (wanted_of (t := 83) rfl rfl (hV.get 83 (by decide +kernel))), by simp [execOp, go_sem, h88], Below.refl _ _, rfl⟩
        refine OweAll.cons (owesK rfl rfl fun a w1 ha hG hV => ?_) ?_
        · skip
          have h83 : a.tmps.getD 83 undef = Value.bool true := hV.get 83 (by decide +kernel)
          have h89 : a.tmps.getD 89 undef = Value.bool true := hV.get 89 (by decide +kernel)
          exact ⟨Value.bool true, w1, wanted_free rfl, by simp [execOp, go_sem, h83, h89], Below.refl _ _, rfl⟩
        refine OweAll.cons (owesK rfl rfl fun a w1 ha hG hV => ?_) ?_
        · skip
          have h90 : a.tmps.getD 90 undef = Value.bool true := hV.get 90 (by decide +kernel)
          exact ⟨Value.bool true, w1, wanted_free rfl, by simp [execOp, go_sem, h90], Below.refl _ _, rfl⟩
        refine OweAll.cons (owesK rfl rfl fun a w1 ha hG hV => ?_) ?_
        · skip
          have h6 := ha.outer 6 (by decide +kernel)
          simp only [Act.eval] at h6
          have cc := (Boxed.below' b6 hG b6.lt).cell
          exact ⟨.agg #[.slice q6 (lb y).length c6], w1, (wanted_of (t := 91) rfl rfl (hV.get 91 (by decide +kernel))), by simp [execOp, go_sem, h6, cc], Below.refl _ _, ⟨q6, c6, rfl, n6.old hG⟩⟩
        refine OweAll.cons (owesK_call rfl rfl 11 fun a w1 ha hG hV => ?_) ?_
        · skip
          have s92 : (natSt y).p (a.tmps.getD 92 undef) w1 := hV.get 92 (by decide +kernel)
          obtain ⟨qa, ca, ha1, na⟩ := s92
          refine ⟨#[.agg #[.slice qa (lb y).length ca]], (wanted_of (t := 91) rfl rfl (hV.get 91 (by decide +kernel))), by simp [go_sem, ha1], ?_⟩
          refine (text_any qa ca y w1 na (by omega)).mono ?_
          rintro r u2 ⟨rfl, hb⟩; exact ⟨_, rfl, rfl, hb⟩
        refine OweAll.cons (owesK rfl rfl fun a w1 ha hG hV => ?_) ?_
        · skip
          have h7 := ha.outer 7 (by decide +kernel)
          simp only [Act.eval] at h7
          have cc := (Boxed.below' b7 hG b7.lt).cell
          exact ⟨.agg #[.slice q7 (lb y).length c7], w1, (wanted_of (t := 91) rfl rfl (hV.get 91 (by decide +kernel))), by simp [execOp, go_sem, h7, cc], Below.refl _ _, ⟨q7, c7, rfl, n7.old hG⟩⟩
        refine OweAll.cons (owesK_call rfl rfl 11 fun a w1 ha hG hV => ?_) ?_
        · skip
          have s94 : (natSt y).p (a.tmps.getD 94 undef) w1 := hV.get 94 (by decide +kernel)
          obtain ⟨qa, ca, ha1, na⟩ := s94
          refine ⟨#[.agg #[.slice qa (lb y).length ca]], (wanted_of (t := 91) rfl rfl (hV.get 91 (by decide +kernel))), by simp [go_sem, ha1], ?_⟩
          refine (text_any qa ca y w1 na (by omega)).mono ?_
          rintro r u2 ⟨rfl, hb⟩; exact ⟨_, rfl, rfl, hb⟩
        refine OweAll.cons (owesK rfl rfl fun a w1 ha hG hV => ?_) ?_
        · skip
          have h93 : a.tmps.getD 93 undef = .string ⟨(dec y).toArray⟩ := hV.get 93 (by decide +kernel)
          have h95 : a.tmps.getD 95 undef = .string ⟨(dec y).toArray⟩ := hV.get 95 (by decide +kernel)
          exact ⟨Value.bool true, w1, (wanted_of (t := 91) rfl rfl (hV.get 91 (by decide +kernel))), by simp [execOp, go_sem, h93, h95], Below.refl _ _, rfl⟩
        refine OweAll.cons (owesK rfl rfl fun a w1 ha hG hV => ?_) ?_
        · skip
          have h91 : a.tmps.getD 91 undef = Value.bool true := hV.get 91 (by decide +kernel)
          have h96 : a.tmps.getD 96 undef = Value.bool true := hV.get 96 (by decide +kernel)
          exact ⟨Value.bool true, w1, wanted_free rfl, by simp [execOp, go_sem, h91, h96], Below.refl _ _, rfl⟩
        refine OweAll.cons (owesK rfl rfl fun a w1 ha hG hV => ?_) ?_
        · skip
          have h97 : a.tmps.getD 97 undef = Value.bool true := hV.get 97 (by decide +kernel)
          exact ⟨Value.bool true, w1, wanted_free rfl, by simp [execOp, go_sem, h97], Below.refl _ _, rfl⟩
        refine OweAll.cons (owesK_call rfl rfl 12 fun a w1 ha hG hV => ?_) ?_
        · skip
          refine ⟨#[.int .u64 2], (wanted_of (t := 98) rfl rfl (hV.get 98 (by decide +kernel))), by simp [go_sem], ?_⟩
          refine (HLog.out w1).mono ?_
          rintro r u2 ⟨rfl, hb⟩; exact ⟨_, rfl, rfl, hb⟩
        refine OweAll.cons (owesK rfl rfl fun a w1 ha hG hV => ?_) ?_
        · skip
          have h99 : a.tmps.getD 99 undef = .int .i64 256 := hV.get 99 (by decide +kernel)
          exact ⟨Value.bool true, w1, (wanted_of (t := 98) rfl rfl (hV.get 98 (by decide +kernel))), by simp [execOp, go_sem, h99], Below.refl _ _, rfl⟩
        refine OweAll.cons (owesK rfl rfl fun a w1 ha hG hV => ?_) ?_
        · skip
          have h98 : a.tmps.getD 98 undef = Value.bool true := hV.get 98 (by decide +kernel)
          have h100 : a.tmps.getD 100 undef = Value.bool true := hV.get 100 (by decide +kernel)
          exact ⟨Value.bool true, w1, wanted_free rfl, by simp [execOp, go_sem, h98, h100], Below.refl _ _, rfl⟩
        refine OweAll.cons (owesK rfl rfl fun a w1 ha hG hV => ?_) ?_
        · skip
          have h101 : a.tmps.getD 101 undef = Value.bool true := hV.get 101 (by decide +kernel)
          exact ⟨Value.bool true, w1, wanted_free rfl, by simp [execOp, go_sem, h101], Below.refl _ _, rfl⟩
        exact OweAll.nil
        ) ?_
      intro f wz hG hv
      have e4 : f 4 = Value.bool true := hv 26 _ 4 rfl rfl
      rename_i hK
      refine hK _ _ ?_
      clear hK hv
      simp only [dsts, puts, List.filterMap_cons, List.filterMap_nil, List.foldl_cons, List.foldl_nil, Act.put, List.setIfInBounds_toArray, List.set_cons_succ, List.set_cons_zero, e4]
      clear e4
      have HF := Lib.hid (HmB.out.trans (hG.mono HmB.out.size))
      clear hG b6 b7 n6 n7 kb nb HSum HLog HmB
      go_wp2_with fail
      go_ret
      exact ⟨rfl, HF.out⟩
end Go.Proofs.YtdahkemeoefndaaDoor.NN

namespace Go.Proofs.YtdahkemeoefndaaDoor.NN
open Go.ChangeShapes Go.WideShapes Go.ChangeAt Go.RowKit Go.Deep

theorem cell_lt {w : World} {a : Addr} {v : Value} (h : w.cell? a = some v) : a.block < w.heap.size := by
  unfold World.cell? at h
  apply Nat.lt_of_not_le; intro hle
  rw [Array.getElem?_eq_none hle] at h
  simp at h

set_option maxRecDepth 20000 in
theorem open_steps {H : Type} {enc : TypeId × Value → H} {W : World} {base : Nat} {v : Value} {d : DataW H} {ps : List MemPlace} (hval : Value.okWide Tryd.prog W .any base 22 v) (h : DataW.Trod enc Tryd.prog W 0 (fun _ => true) true 22 v d ps) :
    ∃ ao cap L, v = .slice ao L.length cap ∧ StepsAt W ao L ∧ StepsOk L ∧ L.length ≤ cap := by
  obtain ⟨a, len, cap, rfl⟩ := okWide_slice Tryd.underlying22 hval
  obtain ⟨fuel, hf⟩ := h
  rcases open_slice_pairs Tryd.underlying22 Tryd.underlying32 (by kernel_rfl) rfl rfl (by kernel_rfl) (by kernel_rfl) hf with ⟨hc, _⟩ | ⟨a', len', cap', m, k, V0, V1, D0, D1, P0, P1, hc, _, hl, _, hmm, _, hall⟩
  · have hc2 : [Value.slice a len cap] = [Value.slice none 0 0] := hc
    simp only [List.cons.injEq, Value.slice.injEq, and_true] at hc2
    obtain ⟨rfl, rfl, rfl⟩ := hc2
    exact ⟨none, 0, [], rfl, (fun j h => by simp at h), (fun s hs => by cases hs), Nat.le_refl _⟩
  · have hc2 : [Value.slice a len cap] = [Value.slice (some a') len' cap'] := hc
    simp only [List.cons.injEq, Value.slice.injEq, and_true] at hc2
    obtain ⟨rfl, rfl, rfl⟩ := hc2
    simp only [if_true] at hmm
    subst hmm
    have h0 : ∀ i, i < len → ∃ n : Nat, V0 i = .int .u64 (n : Int) ∧ n < 18446744073709551616 := by
      intro i hi
      obtain ⟨N, h1, _, h3⟩ := DataW.trod_int Tryd.underlying29 (hall i (by omega)).2.2.1
      simp only [List.cons.injEq, and_true] at h1
      have b := bounds_u64 h3
      exact ⟨N.toNat, by rw [h1, Int.toNat_of_nonneg b.1], by omega⟩
    have h1 : ∀ i, i < len → ∃ n : Int, V1 i = .int .i64 n ∧ -9223372036854775808 ≤ n ∧ n ≤ 9223372036854775807 := by
      intro i hi
      obtain ⟨N, h1, _, h3⟩ := DataW.trod_int Tryd.underlying3 (hall i (by omega)).2.2.2
      simp only [List.cons.injEq, and_true] at h1
      have b := bounds_i64 h3
      exact ⟨N, h1, by omega, by omega⟩
    have hj : ∀ i, i < len → ∃ s : Nat × Int, V0 i = .int .u64 (s.1 : Int) ∧ V1 i = .int .i64 s.2 ∧ s.1 < 18446744073709551616 ∧ -9223372036854775808 ≤ s.2 ∧ s.2 ≤ 9223372036854775807 := by
      intro i hi
      obtain ⟨n, e0, b0⟩ := h0 i hi
      obtain ⟨z, e1, b1⟩ := h1 i hi
      exact ⟨(n, z), e0, e1, b0, b1⟩
    obtain ⟨f, hf2⟩ := choose_lt hj
    refine ⟨some a', m, (List.range len).map f, by simp, ?_, ?_, by simpa using hl⟩
    · intro j hjl
      have hjn : j < len := by simpa using hjl
      obtain ⟨bs, off, spot⟩ := a'
      have hspot : spot = none := by simpa [Addr.add] using World.cell?_spot (hall 0 (by omega)).1
      subst hspot
      obtain ⟨e0, e1, _⟩ := hf2 j hjn
      obtain ⟨c0, c1, _⟩ := hall j (by omega)
      rw [e0] at c0
      rw [e1] at c1
      have c0' : W.cell? ⟨bs, off + j * 2, none⟩ = some (.int .u64 ((f j).1 : Int)) := by simpa [Addr.add_lit] using c0
      have c1' : W.cell? ⟨bs, off + j * 2 + 1, none⟩ = some (.int .i64 (f j).2) := by simpa [Addr.add_lit, Nat.add_assoc] using c1
      refine ⟨bs, off, rfl, ?_, by simpa using c0', by simpa using c1'⟩
      exact cell_lt c0'
    · intro s hs
      obtain ⟨i, hi, rfl⟩ := List.mem_map.1 hs
      exact (hf2 i (List.mem_range.1 hi)).2.2
end Go.Proofs.YtdahkemeoefndaaDoor.NN

namespace Go.Proofs.YtdahkemeoefndaaDoor.NN
open Go.ChangeShapes Go.WideShapes Go.ChangeAt Go.RowKit Go.Deep

set_option maxRecDepth 20000 in
theorem open_intsR {H : Type} {enc : TypeId × Value → H} {W : World} {base : Nat} {v : Value} {d : DataW H} {ps : List MemPlace} (hval : Value.okWide Tryd.prog W .any base 23 v) (h : DataW.Trod enc Tryd.prog W 0 (fun _ => true) true 23 v d ps) :
    ∃ ao cap S, v = .slice ao S.length cap ∧ Rd encI W ao S ∧ (∀ x ∈ S, -9223372036854775808 ≤ x ∧ x ≤ 9223372036854775807) := by
  obtain ⟨a, len, cap, rfl⟩ := okWide_slice Tryd.underlying23 hval
  obtain ⟨fuel, hf⟩ := h
  rcases open_slice1 Tryd.underlying23 (by kernel_rfl) hf with ⟨hc, _⟩ | ⟨a', len', cap', m, k, V, D, Pl, hc, _, hl, hm, hmm, _, hall⟩
  · have hc2 : [Value.slice a len cap] = [Value.slice none 0 0] := hc
    simp only [List.cons.injEq, Value.slice.injEq, and_true] at hc2
    obtain ⟨rfl, rfl, rfl⟩ := hc2
    exact ⟨none, 0, [], rfl, Rd.nil _ _, fun x hx => by simp at hx⟩
  · have hc2 : [Value.slice a len cap] = [Value.slice (some a') len' cap'] := hc
    simp only [List.cons.injEq, Value.slice.injEq, and_true] at hc2
    obtain ⟨rfl, rfl, rfl⟩ := hc2
    simp only [if_true] at hmm
    subst hmm
    have hj : ∀ i, i < len → ∃ s : Int, V i = .int .i64 s ∧ -9223372036854775808 ≤ s ∧ s ≤ 9223372036854775807 := by
      intro i hi
      obtain ⟨N, h1, _, hw⟩ := DataW.trod_int Tryd.underlying3 (hall i (by omega)).2
      simp only [List.cons.injEq, and_true] at h1
      have b := bounds_i64 hw
      exact ⟨N, h1, by omega, by omega⟩
    obtain ⟨f, hf2⟩ := choose_lt hj
    obtain ⟨bs, off, spot⟩ := a'
    by_cases h0 : 0 < m
    · have hspot : spot = none := by simpa [Addr.add] using World.cell?_spot (hall 0 (by omega)).1
      subst hspot
      refine ⟨some ⟨bs, off, none⟩, m, (List.range len).map f, by simp, ?_, ?_⟩
      · intro j hjl
        have hjn : j < len := by simpa using hjl
        have e0 := (hf2 j hjn).1
        obtain ⟨c0, _⟩ := hall j (by omega)
        rw [e0] at c0
        have c0' : W.cell? ⟨bs, off + j, none⟩ = some (.int .i64 (f j)) := by simpa [Addr.add_lit] using c0
        refine ⟨bs, off, rfl, cell_lt c0', fun i u hu => ?_⟩
        have hi0 : i = 0 := by
          have := (List.getElem?_eq_some_iff.1 hu).1
          simp [encI] at this; exact this
        subst hi0
        simp only [encI, List.getElem?_cons_zero, Option.some.injEq] at hu
        subst hu
        simpa [encI] using c0'
      · intro x hx
        obtain ⟨i, hi, rfl⟩ := List.mem_map.1 hx
        exact (hf2 i (List.mem_range.1 hi)).2
    · have hl0 : len = 0 := by omega
      subst hl0
      exact ⟨some ⟨bs, off, spot⟩, m, [], rfl, (fun j hj => by simp at hj), fun x hx => by simp at hx⟩
end Go.Proofs.YtdahkemeoefndaaDoor.NN
