/- Texts 3: what the laws lean on. -/
import Derived.Test.YtdahkemeoefndaaDoorM2
import Derived.Test.YtdahkemeoefndaaDoorShelf
import Derived.Test.YtdahkemeoefndaaDoorRev
import Derived.Laws.BytesArg
import Derived.Deep.LoopGhost
import Derived.Deep.RegionHeld3
import Derived.Lib.ItoaNum
import Derived.OwnWalkIn
import Derived.StillTailTactics
import Derived.Orders
import Derived.Tactics
import Derived.Test.YtdahkemeoefndaaDoorM1
namespace Go.Proofs.YtdahkemeoefndaaDoor.NN
open Go.RowKit Go.Shelf
attribute [local go_sem] Oper.semAt_some

/-- -1, 0, 1. -/
def cmpI (x y : Nat) : Int := if x < y then -1 else if y < x then 1 else 0
theorem len_lt {x y : Nat} (h : (lb x).length < (lb y).length) : x < y := by
  apply Nat.lt_of_not_le; intro hle
  have := dg_len_mono 4294967296 (by decide) hle
  change (lb y).length ≤ (lb x).length at this
  omega
/-- One limb more from above. -/
theorem high_step {x y i : Nat} (h : x / 4294967296 ^ (i + 1) = y / 4294967296 ^ (i + 1)) :
    (x / 4294967296 ^ i % 4294967296 < y / 4294967296 ^ i % 4294967296 → x < y) ∧ (y / 4294967296 ^ i % 4294967296 < x / 4294967296 ^ i % 4294967296 → y < x) ∧ (x / 4294967296 ^ i % 4294967296 = y / 4294967296 ^ i % 4294967296 → x / 4294967296 ^ i = y / 4294967296 ^ i) := by
  have hx : 4294967296 * (x / 4294967296 ^ (i + 1)) + x / 4294967296 ^ i % 4294967296 = x / 4294967296 ^ i := by rw [Nat.pow_succ, ← Nat.div_div_eq_div_mul]; exact Nat.div_add_mod _ _
  have hy : 4294967296 * (y / 4294967296 ^ (i + 1)) + y / 4294967296 ^ i % 4294967296 = y / 4294967296 ^ i := by rw [Nat.pow_succ, ← Nat.div_div_eq_div_mul]; exact Nat.div_add_mod _ _
  have mono : ∀ a b : Nat, a / 4294967296 ^ i < b / 4294967296 ^ i → a < b := by
    intro a b hab; apply Nat.lt_of_not_le; intro hle; have := Nat.div_le_div_right (c := 4294967296 ^ i) hle; omega
  have m1 := mono x y
  have m2 := mono y x
  rw [h] at hx
  generalize y / 4294967296 ^ (i + 1) = c at *
  generalize x / 4294967296 ^ i % 4294967296 = dx at *
  generalize y / 4294967296 ^ i % 4294967296 = dy at *
  generalize x / 4294967296 ^ i = a at *
  generalize y / 4294967296 ^ i = b at *
  exact ⟨fun hl => m1 (by omega), fun hl => m2 (by omega), fun he => by omega⟩

/-- The memory of a comparison. -/
def CmpW (w : World) (B N n cp cq x y : Nat) (p q : Option Addr) (res : Int) (W : World) : Prop :=
  NatIn W p cp x ∧ NatIn W q cq y ∧ Boxed W N 26 (.slice p n cp) ∧ Boxed W (N + 1) 26 (.slice q n cq) ∧ Boxed W (N + 1 + 1) 3 (.int .i64 res) ∧ Boxed W (N + 1 + 1 + 1) 24 (.slice p n cp) ∧ Below w.heap.size w W ∧ B ≤ W.heap.size
theorem CmpW.step {w : World} {B N n cp cq x y : Nat} {p q : Option Addr} {res : Int} {W W' : World} (h : CmpW w B N n cp cq x y p q res W) (hm : Mod (fun i => B ≤ i) W W') (hN : N = w.heap.size) (hB : N + 4 ≤ B) (hp : ∀ a, p = some a → a.block < B) (hq : ∀ a, q = some a → a.block < B) : CmpW w B N n cp cq x y p q res W' := by
  obtain ⟨h1, h2, h3, h4, h5, h6, h7, h8⟩ := h
  exact ⟨h1.kept hm (fun a e => by have := hp a e; omega), h2.kept hm (fun a e => by have := hq a e; omega), Boxed.mod' h3 hm (by omega), Boxed.mod' h4 hm (by omega), Boxed.mod' h5 hm (by omega), Boxed.mod' h6 hm (by omega),
    h7.trans (hm.to_below (by have := h7.size; omega) (by intro k hk h; omega)), Nat.le_trans h8 hm.size⟩
theorem CmpW.put {w : World} {B N n cp cq x y : Nat} {p q : Option Addr} {res : Int} {W : World} (h : CmpW w B N n cp cq x y p q res W) (hN : N = w.heap.size) (hB : N + 4 ≤ B) (hp : ∀ a, p = some a → a.block < N) (hq : ∀ a, q = some a → a.block < N) (r2 : Int) :
    KeepsFrom B W (W.setCell ⟨N + 1 + 1, 0, none⟩ (.int .i64 r2)) ∧ CmpW w B N n cp cq x y p q r2 (W.setCell ⟨N + 1 + 1, 0, none⟩ (.int .i64 r2)) := by
  obtain ⟨h1, h2, h3, h4, h5, h6, h7, h8⟩ := h
  have hm : Mod (fun i => i = N + 1 + 1) W (W.setCell ⟨N + 1 + 1, 0, none⟩ (.int .i64 r2)) := (Mod.refl (fun i => i = N + 1 + 1) W).setCell (p := ⟨N + 1 + 1, 0, none⟩) (fun _ => rfl) _
  exact ⟨⟨hm.size, fun j o hj hk _ => (hm.block j (Array.getElem?_eq_some_iff.1 hk).1 (by omega)).trans hk⟩,
    h1.kept hm (fun a e => by have := hp a e; omega), h2.kept hm (fun a e => by have := hq a e; omega), Boxed.mod' h3 hm (by omega), Boxed.mod' h4 hm (by omega), h5.set _, Boxed.mod' h6 hm (by omega),
    h7.setCell (p := ⟨N + 1 + 1, 0, none⟩) (by show w.heap.size ≤ N + 1 + 1; omega) _, Nat.le_trans h8 hm.size⟩
def CmpI (w : World) (B N n cp cq x y : Nat) (p q : Option Addr) (k : Nat) (W : World) : Prop :=
  x / 4294967296 ^ (n - k) = y / 4294967296 ^ (n - k) ∧ CmpW w B N n cp cq x y p q 0 W
def CmpX (w : World) (B N n cp cq x y : Nat) (p q : Option Addr) (c : Code) (_ : Nat) (W : World) : Prop :=
  c = .ret ∧ CmpW w B N n cp cq x y p q (cmpI x y) W

set_option maxHeartbeats 1000000 in
theorem cmp_len (p q : Option Addr) (cp cq x y : Nat) (w : World) (hne : (lb x).length ≠ (lb y).length) :
    Calls Tryd.prog 10 #[.agg #[.slice p (lb x).length cp], .agg #[.slice q (lb y).length cq]] w fun r w' => r = .returned (.int .i64 (cmpI x y)) ∧ Below w.heap.size w w' := by
  rcases Nat.lt_or_gt_of_ne hne with hlt | hlt
  · have e : cmpI x y = -1 := by have := len_lt hlt; unfold cmpI; rw [if_pos this]
    rw [e]
    go_enter Tryd.func10, Tryd.ntmps10
    go_wp2_with fail
    refine bodyPost_ret (v := .int .i64 (-1)) (by simp [results, Tryd.results10, go_sem]) rfl ⟨rfl, ?_⟩
    exact (((Below.refl _ _).alloc (Nat.le_refl _) _).alloc (by simp) _).alloc (by simp; omega) _
  · have e : cmpI x y = 1 := by have := len_lt hlt; unfold cmpI; rw [if_neg (by omega), if_pos this]
    rw [e]
    go_enter Tryd.func10, Tryd.ntmps10
    go_wp2_with fail
    refine bodyPost_ret (v := .int .i64 1) (by simp [results, Tryd.results10, go_sem]) rfl ⟨rfl, ?_⟩
    exact (((Below.refl _ _).alloc (Nat.le_refl _) _).alloc (by simp) _).alloc (by simp; omega) _

set_option maxRecDepth 100000 in
set_option maxHeartbeats 2000000 in
theorem cmp_same (p q : Option Addr) (cp cq x y : Nat) (w : World) (hx : NatIn w p cp x) (hy : NatIn w q cq y) (hl : (lb x).length ≤ 1000000) (he : Hid ((lb x).length = (lb y).length)) :
    Calls Tryd.prog 10 #[.agg #[.slice p (lb x).length cp], .agg #[.slice q (lb y).length cq]] w fun r w' => r = .returned (.int .i64 (cmpI x y)) ∧ Below w.heap.size w w' := by
  obtain ⟨n, hn⟩ : ∃ n, n = (lb x).length := ⟨_, rfl⟩
  rw [← he.out, ← hn]
  rw [← hn] at hl
  have Hn := Lib.hid hn
  clear hn
  obtain ⟨A, hA⟩ : ∃ A, A = lb x := ⟨_, rfl⟩
  have HA := Lib.hid hA
  clear hA
  refine (callsIn_wide (n := 3)).1 ?_
  refine callsIn_of_wp_marks Tryd.func10 rfl trivial ?_ rfl
  simp only [Tryd.ntmps10, List.size_toArray, List.length_cons, List.length_nil, Nat.reduceAdd, Nat.reduceSub, Array.replicate_succ, Array.replicate_zero, List.push_toArray, List.append_toArray, List.nil_append, List.cons_append]
  gi_wp2_with (refine ⟨trivial, ?_⟩; gi_at_call 29; refine (backward_in Fence.wide (3 - 1) trivial rfl _ _ _ _).mono ?_; rintro e w' ⟨rfl, rfl⟩)
  obtain ⟨W0, hW0⟩ : ∃ W0, W0 = (((w.alloc (.cells #[.slice p n cp] 26)).alloc (.cells #[.slice q n cq] 26)).alloc (.cells #[.int .i64 0] 3)).alloc (.cells #[.slice p n cp] 24) := ⟨_, rfl⟩
  have hB0 : Below w.heap.size w W0 := by rw [hW0]; exact ((((Below.refl _ _).alloc (Nat.le_refl _) _).alloc (by simp) _).alloc (by simp; omega) _).alloc (by simp; omega) _
  have hs0 : W0.heap.size = w.heap.size + 4 := by rw [hW0]; simp
  have hpl : ∀ a, p = some a → a.block < w.heap.size := by rintro a rfl; exact hx.lt
  have hql : ∀ a, q = some a → a.block < w.heap.size := by rintro a rfl; exact hy.lt
  have k1 : Boxed W0 w.heap.size 26 (.slice p n cp) := by rw [hW0]; exact (((Boxed.new w _ _).alloc _).alloc _).alloc _
  have k2 : Boxed W0 (w.heap.size + 1) 26 (.slice q n cq) := by
    have := ((Boxed.new (w.alloc (.cells #[.slice p n cp] 26)) 26 (.slice q n cq)).alloc (.cells #[.int .i64 0] 3)).alloc (.cells #[.slice p n cp] 24)
    rw [hW0]; rwa [World.size_alloc] at this
  have k3 : Boxed W0 (w.heap.size + 1 + 1) 3 (.int .i64 0) := by
    have := (Boxed.new ((w.alloc (.cells #[.slice p n cp] 26)).alloc (.cells #[.slice q n cq] 26)) 3 (.int .i64 0)).alloc (.cells #[.slice p n cp] 24)
    rw [hW0]; rwa [World.size_alloc, World.size_alloc] at this
  have k4 : Boxed W0 (w.heap.size + 1 + 1 + 1) 24 (.slice p n cp) := by
    have := Boxed.new (((w.alloc (.cells #[.slice p n cp] 26)).alloc (.cells #[.slice q n cq] 26)).alloc (.cells #[.int .i64 0] 3)) 24 (.slice p n cp)
    rw [hW0]; rwa [World.size_alloc, World.size_alloc, World.size_alloc] at this
  rw [← hW0]
  clear hW0
  have hAl : A.length = n := by rw [HA.out, Hn.out]
  have hxn : x < 4294967296 ^ n := by rw [Hn.out]; exact lt_pow_dg 4294967296 (by decide) x
  have hyn : y < 4294967296 ^ n := by rw [Hn.out, he.out]; exact lt_pow_dg 4294967296 (by decide) y
  have h0 : CmpI w W0.heap.size w.heap.size n cp cq x y p q 0 W0 := by
    have e1 : Sl .u32 59 W0 p cp (lb x) := hx.old hB0
    refine ⟨?_, e1, hy.old hB0, k1, k2, k3, k4, hB0, Nat.le_refl _⟩
    rw [Nat.sub_zero, Nat.div_eq_of_lt hxn, Nat.div_eq_of_lt hyn]
  have HAl := Lib.hid hAl
  clear k1 k2 k3 k4 hB0 hx hy hAl hxn hyn
  refine wpIn_rounds (F := Fence.wide) rfl (by decide) (gf := 43) (lb := #[.pointer (some ⟨w.heap.size + 1 + 1 + 1, 0, none⟩)]) rfl trivial (enters_of Tryd.func43 (by kernel_rfl) rfl)
    (back_rounds Fence.wide (3 - 1) trivial rfl (by decide) (w.heap.size + 1 + 1 + 1) p cp A (by rw [HAl.out]; exact hl) _) (fun _ => rfl)
    (CmpI w W0.heap.size w.heap.size n cp cq x y p q) (CmpX w W0.heap.size w.heap.size n cp cq x y p q) ?hR ?hI ?hX h0
    (fun k => { tmps := #[.agg #[.slice p n cp], .agg #[.slice q n cq], .pointer (some ⟨w.heap.size, 0, none⟩), .pointer (some ⟨w.heap.size + 1, 0, none⟩), .pointer (some ⟨w.heap.size + 1 + 1, 0, none⟩), .int .i64 ((A.length - 1 - k : Nat) : Int), .int .u32 ((A.getD (A.length - 1 - k) 0 : Nat) : Int), .bool false, .pointer (some ⟨w.heap.size, 0, none⟩), .slice p n cp, .int .i64 n, .pointer (some ⟨w.heap.size + 1, 0, none⟩), .slice q n cq, .int .i64 n, .bool false, .bool false, .pointer (some ⟨w.heap.size, 0, none⟩), .slice p n cp, .int .i64 n, .pointer (some ⟨w.heap.size + 1, 0, none⟩), .slice q n cq, .int .i64 n, .bool false, .pointer (some ⟨w.heap.size, 0, none⟩), .slice p n cp, .func (.func 43) #[] #[.pointer (some ⟨w.heap.size + 1 + 1 + 1, 0, none⟩)], .int .i64 ((A.length - 1 - k : Nat) : Int), .int .u32 ((A.getD (A.length - 1 - k) 0 : Nat) : Int), undef, undef, undef, undef, undef, undef, undef, undef, undef, undef, undef, undef, undef, undef, undef, undef], defers := [] }) ?assign ?body ?done ?stop
  case hI =>
    rintro k W W' row ⟨h1, h2⟩ hg hr
    exact ⟨h1, h2.step ((Mod.refl _ _).grown hg (fun k e _ => (hr k e).1)) rfl (by omega) (fun a e => by have := hpl a e; omega) (fun a e => by have := hql a e; omega)⟩
  case hX =>
    rintro c k W W' row ⟨h1, h2⟩ hg hr
    exact ⟨h1, h2.step ((Mod.refl _ _).grown hg (fun k e _ => (hr k e).1)) rfl (by omega) (fun a e => by have := hpl a e; omega) (fun a e => by have := hql a e; omega)⟩
  case hR =>
    rintro k W ⟨_, h1, h2, b1, b2, b3, b4, hm, hB⟩
    refine ⟨by rw [HAl.out]; exact b4.cell, fun i hi hik => ?_⟩
    have h1' : Sl .u32 59 W p cp A := by rw [HA.out]; exact h1
    obtain ⟨g, rfl⟩ := h1'.isPtr (by intro e; rw [e] at hi; simp at hi)
    exact ⟨g, rfl, h1'.cell i hi⟩
  case assign =>
    intro l k W K hK
    unfold backArgs
    generalize A.getD (A.length - 1 - k) 0 = v at hK ⊢
    generalize A.length - 1 - k = i at hK ⊢
    gi_wp2
    exact hK
  case body =>
    rintro l k W ⟨hv, hC⟩ hk
    rw [HAl.out] at hk
    obtain ⟨i, hi⟩ : ∃ i, i = A.length - 1 - k := ⟨_, rfl⟩
    have hik : i + k + 1 = n := by have := HAl.out; omega
    have hst := high_step (x := x) (y := y) (i := i) (by rw [show i + 1 = n - k by omega]; exact hv)
    obtain ⟨dx, hdx⟩ : ∃ d, d = x / 4294967296 ^ i % 4294967296 := ⟨_, rfl⟩
    obtain ⟨dy, hdy⟩ : ∃ d, d = y / 4294967296 ^ i % 4294967296 := ⟨_, rfl⟩
    rw [← hdx, ← hdy] at hst
    have hgd : A.getD i 0 = dx := by rw [hdx, HA.out]; exact dg_getD 4294967296 (by decide) x i
    rw [← hi, hgd]
    obtain ⟨h1, h2, b1, b2, b3, b4, hm, hB⟩ := hC
    have hiy : i < (lb y).length := by rw [← he.out, ← Hn.out]; omega
    obtain ⟨g, rfl⟩ := h2.isPtr (by intro e; rw [e] at hiy; simp at hiy)
    have cy : W.cell? ⟨g, i, none⟩ = some (.int .u32 (dy : Int)) := by rw [hdy, ← dg_at 4294967296 (by decide) y i hiy]; exact h2.cell i hiy
    have c2 := b2.cell
    have c3 := b3.cell
    have f3 := b3.frozen
    have hput := CmpW.put (r2 := cmpI x y) ⟨h1, h2, b1, b2, b3, b4, hm, hB⟩ rfl (by omega) hpl hql
    have hC : CmpW w W0.heap.size w.heap.size n cp cq x y p (some ⟨g, 0, none⟩) 0 W := ⟨h1, h2, b1, b2, b3, b4, hm, hB⟩
    have i0 : (0 : Int) ≤ i := by omega
    have i1 : (i : Int) < n := by omega
    have Hst := Lib.hid hst
    have Hput := Lib.hid hput
    have HC := Lib.hid hC
    have Hik := Lib.hid hik
    clear hst hput hC h1 h2 b1 b2 b3 b4 hm hB hv hi hdx hdy hgd hik h0 hpl hql hs0 hk
    rcases Nat.lt_trichotomy dx dy with hlt | heq | hgt
    · have e : cmpI x y = -1 := by unfold cmpI; rw [if_pos (Hst.out.1 hlt)]
      have He := Lib.hid e
      clear e
      gi_wp2
      have := Hput.out
      rw [He.out] at this
      exact ⟨this.1, rfl, by rw [He.out]; exact this.2⟩
    · have hnx : x / 4294967296 ^ (n - (k + 1)) = y / 4294967296 ^ (n - (k + 1)) := by have := Hst.out.2.2 heq; have hk := Hik.out; rw [show n - (k + 1) = i by omega]; exact this
      have Hnx := Lib.hid hnx
      have n1 : ¬ dx < dy := by omega
      have n2 : ¬ dy < dx := by omega
      clear hnx heq
      gi_wp2
      exact ⟨KeepsFrom.refl _ _, Hnx.out, HC.out⟩
    · have e : cmpI x y = 1 := by unfold cmpI; have := Hst.out.2.1 hgt; rw [if_neg (by omega), if_pos this]
      have n1 : ¬ dx < dy := by omega
      have He := Lib.hid e
      clear e
      gi_wp2
      have := Hput.out
      rw [He.out] at this
      exact ⟨this.1, rfl, by rw [He.out]; exact this.2⟩
  case done =>
    rintro D W hD ⟨hv, hC⟩ hK
    rw [HAl.out, Nat.sub_self, Nat.pow_zero, Nat.div_one, Nat.div_one] at hv
    have e : cmpI x y = 0 := by unfold cmpI; rw [if_neg (by omega), if_neg (by omega)]
    have He := Lib.hid e
    have hput := CmpW.put (r2 := 0) hC rfl (by omega) hpl hql
    obtain ⟨_, _, _, _, b3, _, _, hB⟩ := hC
    have c3 := b3.cell
    have f3 := b3.frozen
    have hKs : (W.setCell ⟨w.heap.size + 1 + 1, 0, none⟩ (.int .i64 0)).heap[D]? = some (.deferred (some [])) := (Below.heap_setCell _ _ _ _ (by show D ≠ w.heap.size + 1 + 1; omega)).trans hK
    clear e hv
    gi_wp2
    refine ⟨by simp, .inl ⟨_, _, rfl, run_takeDeferred hKs, ?_⟩⟩
    have hfin := hput.2.step ((Mod.refl _ _).grown (grownBy_putObj' (W.setCell ⟨w.heap.size + 1 + 1, 0, none⟩ (.int .i64 0)) D (.deferred none)) (fun k e _ => by cases e; exact hD)) rfl (by omega) (fun a e => by have := hpl a e; omega) (fun a e => by have := hql a e; omega)
    obtain ⟨_, _, _, _, r3, _, rB, _⟩ := hfin
    have rc := r3.cell
    exact ⟨.int .i64 0, by simp [results, Tryd.results10, go_sem, rc], by rw [He.out], rB⟩
  case stop =>
    rintro D c k W hD hk ⟨rfl, hC⟩ hK
    gi_wp2
    refine ⟨by simp, .inl ⟨_, _, rfl, run_takeDeferred hK, ?_⟩⟩
    have hfin := hC.step ((Mod.refl _ _).grown (grownBy_putObj' W D (.deferred none)) (fun k e _ => by cases e; exact hD)) rfl (by omega) (fun a e => by have := hpl a e; omega) (fun a e => by have := hql a e; omega)
    obtain ⟨_, _, _, _, r3, _, rB, _⟩ := hfin
    have rc := r3.cell
    exact ⟨.int .i64 (cmpI x y), by simp [results, Tryd.results10, go_sem, rc], rfl, rB⟩

theorem cmp_any (p q : Option Addr) (cp cq x y : Nat) (w : World) (hx : NatIn w p cp x) (hy : NatIn w q cq y) (hl : (lb x).length ≤ 1000000) :
    Calls Tryd.prog 10 #[.agg #[.slice p (lb x).length cp], .agg #[.slice q (lb y).length cq]] w fun r w' => r = .returned (.int .i64 (cmpI x y)) ∧ Below w.heap.size w w' := by
  by_cases he : (lb x).length = (lb y).length
  · exact cmp_same p q cp cq x y w hx hy hl he
  · exact cmp_len p q cp cq x y w he
end Go.Proofs.YtdahkemeoefndaaDoor.NN

namespace Go.Proofs.YtdahkemeoefndaaDoor.NN

/-- Letters of numbers. -/
def chars (l : List Nat) : List UInt8 := l.map UInt8.ofNat
/-- A number's decimal digits, the highest first. -/
def dec (x : Nat) : List UInt8 := if x = 0 then [48] else chars ((dg 10 x).reverse.map (48 + ·))

/-- Digits without the noughts ahead are those of their value. -/
theorem strip_dg (b : Nat) (hb : 2 ≤ b) (n : Nat) : ∀ D : List Nat, D.length = n → (∀ z ∈ D, z < b) → D.reverse.dropWhile (· == 0) = (dg b (vl b D)).reverse := by
  induction n with
  | zero => intro D h _; have := List.eq_nil_of_length_eq_zero h; subst this; simp [vl, dg_zero]
  | succ n ih =>
    intro D h hD
    have hne : D ≠ [] := by intro e; subst e; simp at h
    obtain ⟨l, z, rfl⟩ : ∃ l z, D = l ++ [z] := ⟨D.dropLast, D.getLast hne, (List.dropLast_concat_getLast hne).symm⟩
    rw [List.reverse_append, List.reverse_singleton, List.singleton_append, List.dropWhile_cons]
    by_cases hz : z = 0
    · subst hz
      rw [if_pos (by rfl), vl_snoc_zero]
      exact ih l (by simpa using h) (fun y hy => hD y (by simp [hy]))
    · rw [if_neg (by simpa using hz), dg_vl b hb _ hD (by intro y hy; rw [List.getLast?_append] at hy; simp at hy; omega)]
      simp
theorem trim_chars (D : List Nat) (hD : ∀ z ∈ D, z < 10) : ((chars (D.map (48 + ·))).reverse.dropWhile (· == 48)) = chars ((dg 10 (vl 10 D)).reverse.map (48 + ·)) := by
  have h := strip_dg 10 (by decide) D.length D rfl hD
  have key : ∀ l : List Nat, (∀ z ∈ l, z < 10) → (chars (l.map (48 + ·))).dropWhile (· == 48) = chars ((l.dropWhile (· == 0)).map (48 + ·)) := by
    intro l hl
    induction l with
    | nil => rfl
    | cons z l ih =>
      have hz := hl z (by simp)
      have hl' := ih (fun y hy => hl y (by simp [hy]))
      simp only [chars, List.map_cons, List.dropWhile_cons] at hl' ⊢
      by_cases h0 : z = 0
      · subst h0; rw [if_pos (by rfl), if_pos (by rfl)]; exact hl'
      · have e1 : (UInt8.ofNat (48 + z) == 48) = false := by
          rw [beq_eq_false_iff_ne]; intro e
          have := congrArg UInt8.toNat e
          rw [UInt8.toNat_ofNat_of_lt' (show 48 + z < 256 by omega)] at this
          have e48 : UInt8.toNat 48 = 48 := rfl
          rw [e48] at this; omega
        have e2 : (z == 0) = false := by rw [beq_eq_false_iff_ne]; exact h0
        rw [e1, e2]; rfl
  have e : (chars (D.map (48 + ·))).reverse = chars (D.reverse.map (48 + ·)) := by simp [chars, List.map_reverse]
  rw [e, key D.reverse (fun z hz => hD z (List.mem_reverse.1 hz)), h]
theorem chars_app (a b : List Nat) : chars (a ++ b) = chars a ++ chars b := by simp [chars]

/-- Digits that are taken off one after the other. -/
theorem take_digit (D : List Nat) (r k y x : Nat) (h : vl 10 D + 10 ^ D.length * (r + 10 ^ (k + 1) * y) = x) :
    vl 10 (D ++ [r % 10]) + 10 ^ (D ++ [r % 10]).length * (r / 10 + 10 ^ k * y) = x := by
  rw [vl_app, List.length_append, List.length_singleton, Nat.pow_succ 10 D.length]
  rw [Nat.pow_succ] at h
  have e1 : r + 10 ^ k * 10 * y = r % 10 + 10 * (r / 10 + 10 ^ k * y) := by
    have := Nat.mod_add_div r 10
    rw [Nat.mul_add, show 10 * (10 ^ k * y) = 10 ^ k * 10 * y by rw [Nat.mul_comm (10 ^ k) 10, Nat.mul_assoc]]
    omega
  rw [e1, Nat.mul_add] at h
  simp only [vl, Nat.mul_zero, Nat.add_zero]
  rw [Nat.mul_assoc]
  omega
end Go.Proofs.YtdahkemeoefndaaDoor.NN

namespace Go.Proofs.YtdahkemeoefndaaDoor.NN
open Go.RowKit

/-- Behind an append: the slice holds more, in its own block or in a new one. -/
def Pushed (k : IntKind) (T : TypeId) (w : World) (p : Option Addr) (B : List Nat) (q : Option Addr) (cap : Nat) (w' : World) : Prop :=
  Sl k T w' q cap B ∧ Mod (fun i => ∃ a, p = some a ∧ i = a.block) w w' ∧ ∃ g, q = some ⟨g, 0, none⟩ ∧ (p = some ⟨g, 0, none⟩ ∨ w.heap.size ≤ g)

/-- Numbers are appended that a new block holds. -/
theorem wpList_push {P : Program} {ops : Array Oper} {rest : List Oper} {o : Oper} {a : Act} {Q : Exit → Act → World → Prop} {w : World} (hgd : o.guard = none) (s x : Operand) (k : IntKind) (Ts T : TypeId) (z : Value) (bytes : Nat)
    (ho : o.op = .call { callee := .builtin .append, args := #[s, x], argTypes := #[Ts, Ts] }) (hT : P.underlying Ts = some (.slice T)) (hi : (P.info? T).map (fun i => (i.zero, i.size, i.bytes)) = some (some z, 1, bytes)) (hzs : z.cells.size = 1) (hby : bytes ≤ 8)
    (p : Option Addr) (cap n m : Nat) (A Y : List Nat) (hn : A.length = n) (hY : Y.length = m) (h0 : 0 < m) (hs : a.eval s = .slice p n cap) (hS : Sl k T w p cap A) (hx : a.eval x = .slice (some ⟨w.heap.size, 0, none⟩) m m) (hl : n + m ≤ 1000000000000)
    (h : ∀ q c w', Pushed k T w p (A ++ Y) q c w' → wpList P ops Q rest (a.put o.dst (.slice q (n + m) c)) w') :
    wpList P ops Q (o :: rest) a (w.alloc (.cells (nums k Y).toArray T)) := by
  obtain ⟨i, hi', hz, h1, h2⟩ := info_parts hi
  subst hn
  subst hY
  have hSo : (w.alloc (.cells (nums k Y).toArray T)).ownsRow 0 T 1 (.slice p A.length cap) A.length (nums k A) := hS.alloc _
  refine wpList_append_lies _ hgd s x Ts ho 0 T i z 1 bytes hT hi' hz h1 h2 hzs (by decide) _ A.length (nums k A) hs hSo ⟨w.heap.size, 0, none⟩ Y.length Y.length (nums k Y) hx (by simp [nums_len]) ?_ (nums_one _ _) h0 (by unfold maxLen; omega) ?_ (Nat.zero_le _) _ rfl ?_
  · intro j u hj
    have hadd : (⟨w.heap.size, 0, none⟩ : Addr).add j = ⟨w.heap.size, j, none⟩ := by unfold Addr.add; split <;> simp_all
    rw [hadd, cell_of_row _ w.heap.size j _ T (0, 0) (heap_alloc_new _ _)]
    simpa using hj
  · have := Nat.mul_le_mul hl hby; omega
  · intro g c w' hown hgrow hat _
    refine h (some ⟨g, 0, none⟩) c w' ⟨?_, ?_, g, rfl, ?_⟩
    · unfold Sl; rw [List.length_append, show nums k (A ++ Y) = nums k A ++ nums k Y by simp [nums]]; exact hown
    · refine ((Mod.refl _ w).alloc _).grown hgrow ?_
      intro j hj _
      cases p with
      | none => simp [Value.ownBlock] at hj
      | some a => simp [Value.ownBlock] at hj; exact ⟨a, rfl, hj.symm⟩
    · rcases hat with hat | hat
      · left
        rcases hS.shape with ⟨rfl, _⟩ | ⟨g', rfl, _⟩
        · simp [Value.ownBlock] at hat
        · simp [Value.ownBlock] at hat; subst hat; rfl
      · right; rw [hat]; simp

theorem info_u8 : (Tryd.prog.info? 5).map (fun i => (i.zero, i.size, i.bytes)) = some (some (.int .u8 0), 1, 1) := by kernel_rfl

/-- 'string(b)'. -/
theorem conv_str (p : Option Addr) (cap n : Nat) (A : List Nat) (hn : A.length = n) (w : World) (hS : Sl .u8 5 w p cap A) :
    (convert 42 9 (.slice p n cap)).run Tryd.prog w = .ok (.string ⟨(chars A).toArray⟩) w := by
  subst hn
  rcases hS.shape with ⟨rfl, rfl, rfl⟩ | ⟨g, rfl, _⟩
  · kernel_rfl
  · rw [run_convert_bytes_arg w 42 5 Tryd.underlying42 Tryd.underlying5 g 0 A.length cap (A.map fun (x : Nat) => (x : Int)) (by simp) (fun i hi => by
      rw [Nat.zero_add, hS.cell i hi]
      simp [List.getD, hi]) 9 Tryd.underlying9]
    simp [strOfNums, chars, Function.comp_def]

open Go.Sort in
theorem reverse_any (g cap : Nat) (A : List Nat) (w : World) (hS : Sl .u8 5 w (some ⟨g, 0, none⟩) cap A) (hl : A.length ≤ 1000000000) :
    Calls Tryd.prog 32 #[.slice (some ⟨g, 0, none⟩) A.length cap] w fun e w' => e = .returned (.tuple #[]) ∧ Sl .u8 5 w' (some ⟨g, 0, none⟩) cap A.reverse ∧ Mod (· = g) w w' := by
  have hH : Go.Sort.Holds (fun x : Nat => Value.int .u8 (x : Int)) w g 0 A.toArray := by
    intro j hj
    have hj' : j < A.length := by simpa using hj
    refine ⟨?_, by rw [Nat.zero_add]; exact hS.froz j⟩
    rw [Nat.zero_add, hS.cell j hj', getElem!_pos A.toArray j hj]
    simp
  refine (Tryd.slices_Reverse (fun x : Nat => Value.int .u8 (x : Int)) (fun _ => rfl) g 0 cap A w hH (by omega)).mono ?_
  rintro e w' ⟨rfl, n, rfl⟩
  have hm : Mod (· = g) w (putRow (fun x : Nat => Value.int .u8 (x : Int)) (Go.Sort.ahead w n) g 0 A.reverse.toArray) := by
    refine ⟨rfl, rfl, rfl, by simp [Go.Sort.ahead], fun k _ hk => ?_⟩
    show (w.heap.modify g _)[k]? = w.heap[k]?
    rw [Array.getElem?_modify, if_neg (fun e => hk e.symm)]
  refine ⟨rfl, ?_, hm⟩
  rcases hS.shape with ⟨h, _⟩ | ⟨g', h, hlt, h1, h2, cur, hh, h3, h4⟩
  · cases h
  · simp only [Option.some.injEq, Addr.mk.injEq] at h
    obtain ⟨rfl, _⟩ := h
    have hrow : (putRow (fun x : Nat => Value.int .u8 (x : Int)) (Go.Sort.ahead w n) g 0 A.reverse.toArray).heap[g]? = some (.cells (putCells (fun x : Nat => Value.int .u8 (x : Int)) 0 A.reverse.toArray cur) 5 (0, 0)) := by
      show (w.heap.modify g _)[g]? = _
      rw [Array.getElem?_modify, if_pos rfl, hh]; rfl
    refine Sl.of_row hrow (by simpa using h1) h2 (by simpa [putCells] using h3) ?_
    apply List.ext_getElem
    · simp [putCells, nums_len]; omega
    · intro i hi1 hi2
      have hiA : i < A.length := by simpa [nums_len] using hi2
      have hr : i < A.reverse.toArray.size := by simpa using hiA
      simp only [putCells, List.getElem_take, Array.getElem_toList, Array.getElem_mapIdx, nums, List.getElem_map]
      rw [if_pos ⟨Nat.zero_le _, by simpa using hiA⟩, Nat.sub_zero, getElem!_pos A.reverse.toArray i hr]
      simp

theorem trimleft_any (l : List UInt8) (c : UInt8) (hc : c.toNat < 128) (w : World) :
    Calls Tryd.prog 33 #[.string ⟨l.toArray⟩, .string ⟨#[c]⟩] w fun e w' => e = .returned (.string ⟨(l.dropWhile (· == c)).toArray⟩) ∧ w = w' :=
  Lib.flip (Tryd.strings_TrimLeft_one ⟨l.toArray⟩ c hc w)
end Go.Proofs.YtdahkemeoefndaaDoor.NN

namespace Go.Proofs.YtdahkemeoefndaaDoor.NN
open Go.RowKit

theorem digits_le {D n x : Nat} (h : 10 ^ D ≤ x) (hx : x < 4294967296 ^ n) : D ≤ 10 * n := by
  apply Nat.le_of_not_lt; intro hlt
  have h1 : (10 : Nat) ^ (10 * n) ≤ 10 ^ D := Nat.pow_le_pow_right (by decide) (by omega)
  have h2 : (4294967296 : Nat) ^ n ≤ (10 ^ 10) ^ n := Nat.pow_le_pow_left (by decide) n
  rw [← Nat.pow_mul] at h2
  omega
/-- What Text has laid by. -/
structure TxtR (w : World) (x gl : Nat) (D : List Nat) (pd : Option Addr) (cd : Nat) (wr : World) : Prop where
  s : Sl .u8 5 wr pd cd (D.map (48 + ·))
  lt : ∀ z ∈ D, z < 10
  m : Below w.heap.size w wr
  fd : ∀ a, pd = some a → gl < a.block
  lo : w.heap.size ≤ gl
  gs : gl < wr.heap.size
theorem TxtR.mod {w : World} {x gl : Nat} {D : List Nat} {pd : Option Addr} {cd : Nat} {wr w' : World} {S : Nat → Prop} (h : TxtR w x gl D pd cd wr) (hm : Mod S wr w') (hS : ∀ i, i < w.heap.size → ¬ S i) (hp : ∀ a, pd = some a → ¬ S a.block) : TxtR w x gl D pd cd w' :=
  ⟨h.s.kept hm hp, h.lt, h.m.trans (hm.to_below h.m.size (fun i hi => hS i hi)), h.fd, h.lo, Nat.lt_of_lt_of_le h.gs hm.size⟩
theorem TxtR.below {w : World} {x gl : Nat} {D : List Nat} {pd : Option Addr} {cd : Nat} {wr w' : World} (h : TxtR w x gl D pd cd wr) (hb : Below wr.heap.size wr w') : TxtR w x gl D pd cd w' :=
  h.mod (Mod.of_below hb) (fun i hi hle => by have := h.m.size; omega) (fun a e hle => by subst e; have := h.s.lt; omega)
theorem TxtR.push {w : World} {x gl d t : Nat} {D : List Nat} {pd pq : Option Addr} {cd cq : Nat} {wr w' : World} (h : TxtR w x gl D pd cd wr) (hP : Pushed .u8 5 wr pd (D.map (48 + ·) ++ [t]) pq cq w') (ht : t = 48 + d) (hd : d < 10) : TxtR w x gl (D ++ [d]) pq cq w' := by
  obtain ⟨hS, hm, g, rfl, hor⟩ := hP
  have hfd := h.fd
  have hlo := h.lo
  refine ⟨by rw [List.map_append, List.map_singleton, ← ht]; exact hS, ?_, h.m.trans (hm.to_below h.m.size (by rintro i hi ⟨a, e, he⟩; have := hfd a e; omega)), ?_, hlo, Nat.lt_of_lt_of_le h.gs hm.size⟩
  · intro z hz
    rcases List.mem_append.1 hz with hz | hz
    · exact h.lt z hz
    · rw [List.mem_singleton.1 hz]; exact hd
  · rintro a e
    cases e
    rcases hor with hor | hor
    · exact hfd _ hor
    · exact Nat.lt_of_lt_of_le h.gs hor
theorem dec_of {x : Nat} {D : List Nat} (hx : x ≠ 0) (hD : ∀ z ∈ D, z < 10) (hv : vl 10 D = x) : (chars (D.map (48 + ·))).reverse.dropWhile (· == 48) = dec x := by
  rw [trim_chars D hD, hv, dec, if_neg hx]
theorem chars_rev (l : List Nat) : chars l.reverse = (chars l).reverse := by simp [chars]

set_option maxHeartbeats 4000000 in
theorem text_any (p : Option Addr) (cp x : Nat) (w : World) (hx : NatIn w p cp x) (lx : (lb x).length ≤ 100000) :
    Calls Tryd.prog 11 #[.agg #[.slice p (lb x).length cp]] w fun r w' => r = .returned (.string ⟨(dec x).toArray⟩) ∧ Below w.heap.size w w' := by
  by_cases hx0 : x = 0
  · subst hx0
    have e0 : (0 == 0) = true := rfl
    go_enter Tryd.func11, Tryd.ntmps11
    go_wp2_with fail
    refine (zero_any p cp 0 _).mono ?_
    rintro r w1 ⟨rfl, hb⟩
    have hB : Below w.heap.size w w1 := ((Below.refl _ _).alloc (Nat.le_refl _) _).trans (hb.mono (by simp))
    clear hb
    go_wp2_with fail
    go_ret
    exact ⟨rfl, hB⟩
  · have e0 : (x == 0) = false := by rw [beq_eq_false_iff_ne]; exact hx0
    go_enter Tryd.func11, Tryd.ntmps11
    go_wp2_with fail
    refine (zero_any p cp x _).mono ?_
    rintro r w1 ⟨rfl, hb⟩
    have k1 : Boxed w1 w.heap.size 26 (.slice p (lb x).length cp) := Boxed.below' (Boxed.new w _ _) hb (by simp)
    have hB : Below w.heap.size w w1 := ((Below.refl _ _).alloc (Nat.le_refl _) _).trans (hb.mono (by simp))
    have hx1 := hx.old hB
    have c1 := k1.cell
    clear hb k1
    go_wp2_with fail
    refine (clone_any p cp (lb x) w1 hx1 (by omega)).mono ?_
    rintro r w2 ⟨q, c, rfl, hS2, hb2, hf2⟩
    have hB2 := hB.trans (hb2.mono hB.size)
    have hf2' : ∀ a, q = some a → a.block < w2.heap.size := by rintro a rfl; exact hS2.lt
    have hgl : w.heap.size ≤ w2.heap.size := hB2.size
    have hB3 : Below w.heap.size w (w2.alloc (.cells #[.slice q (lb x).length c] 26)) := hB2.alloc hgl _
    have k4 := Boxed.new w2 26 (.slice q (lb x).length c)
    have hS3 : NatIn (w2.alloc (.cells #[.slice q (lb x).length c] 26)) q c x := hS2.alloc _
    have hsz : w2.heap.size < (w2.alloc (.cells #[.slice q (lb x).length c] 26)).heap.size := by simp
    have hf3 : ∀ a, q = some a → w.heap.size ≤ a.block := fun a e => Nat.le_trans hB.size (hf2 a e)
    clear hx hx1 c1 hB hS2 hb2 hf2 hB2
    go_wp2_with fail
    generalize (w2.alloc (.cells #[.slice q (lb x).length c] 26)) = W at hB3 k4 hS3 hsz ⊢
    generalize w2.heap.size = gl at hf2' hgl k4 hsz ⊢
    have hbd : Hid (∀ (D : List Nat) (y : Nat), vl 10 D + 10 ^ D.length * y = x → y ≠ 0 → D.length ≤ 1000000) := Lib.hid (by
      intro D y h hy
      have h1 : 10 ^ D.length * 1 ≤ 10 ^ D.length * y := Nat.mul_le_mul_left _ (by omega)
      have := digits_le (show 10 ^ D.length ≤ x by omega) (lt_pow_dg 4294967296 (by decide) x)
      change D.length ≤ 10 * (lb x).length at this
      omega)
    have hR0 : TxtR w x gl [] none 0 W := ⟨Sl.empty _ _ _, by simp, hB3, (fun a h => by cases h), hgl, hsz⟩
    go_loopg [3] (x + 1) (fun k s3 wr => ∃ (D : List Nat) (pd : Option Addr) (cd y : Nat) (q : Option Addr) (c nd : Nat), s3 = .slice pd nd cd ∧ Hid (nd = D.length) ∧ nd ≤ 1000009 ∧ y < k ∧ TxtR w x gl D pd cd wr ∧ Hid (vl 10 D + 10 ^ D.length * y = x) ∧ (lb y).length ≤ 100000 ∧
      Boxed wr gl 26 (.slice q (lb y).length c) ∧ NatIn wr q c y ∧ (∀ a, q = some a → w.heap.size ≤ a.block ∧ a.block ≠ gl ∧ ∀ b, pd = some b → b.block ≠ a.block))
    case atStart => exact ⟨[], none, 0, x, q, c, 0, rfl, rfl, by omega, by omega, hR0, Lib.hid (by simp [vl]), lx, k4, hS3, fun a e => ⟨hf3 a e, by have := hf2' a e; omega, fun b h => by cases h⟩⟩
    case round =>
      clear hR0 hB3 k4 hS3 hsz hf3 hf2'
      obtain ⟨D, pd, cd, y, q, c, nd, rfl, hnd, hnb, hyk, hR, hval, ly, kb, hN, hq⟩ := hrel
      have c4 := kb.cell
      by_cases hy0 : y = 0
      · subst hy0
        have ey : (0 == 0) = true := rfl
        go_wp2_with fail
        refine (zero_any q c 0 wr).mono ?_
        rintro r w1 ⟨rfl, hb⟩
        have hR1 := hR.below hb
        clear c4 kb hN hq hb hR
        have hv := hval.out
        rw [Nat.mul_zero, Nat.add_zero] at hv
        have hDne : D.map (48 + ·) ≠ [] := by intro e; have : D = [] := by simpa using e
                                              subst this; simp [vl] at hv; omega
        obtain ⟨g, rfl⟩ := hR1.s.isPtr hDne
        have hg := hR1.fd _ rfl
        have hgw : w.heap.size ≤ g := by have := hR1.lo; have : gl < g := hg; omega
        have hrv := reverse_any g cd (D.map (48 + ·)) w1 hR1.s (by rw [List.length_map, ← hnd.out]; omega)
        rw [List.length_map, ← hnd.out] at hrv
        go_wp2_with fail
        refine hrv.mono ?_
        clear hrv
        rintro r w2 ⟨rfl, hS2, hm2⟩
        obtain ⟨R, hRe⟩ : ∃ R, R = (D.map (48 + ·)).reverse := ⟨_, rfl⟩
        rw [← hRe] at hS2
        have hcv := conv_str (some ⟨g, 0, none⟩) cd nd R (by rw [hRe, List.length_reverse, List.length_map, hnd.out]) w2 hS2
        have hB2 : Below w.heap.size w w2 := hR1.m.trans (hm2.to_below hR1.m.size (by intro k hk h; omega))
        have hfin : Hid ((chars R).dropWhile (· == 48) = dec x) := Lib.hid (by rw [hRe, chars_rev, dec_of hx0 hR1.lt hv])
        have HRe := Lib.hid hRe
        have Hv := Lib.hid hv
        clear hRe hv hS2 hm2 hR1 hg hgw
        go_wp2_with fail
        refine (trimleft_any (chars R) 48 (by decide) w2).mono ?_
        rintro r w3 ⟨rfl, rfl⟩
        rw [hfin.out]
        clear hcv
        go_wp2_with fail
        go_ret
        exact ⟨rfl, hB2⟩
      · have ey : (y == 0) = false := by rw [beq_eq_false_iff_ne]; exact hy0
        go_wp2_with fail
        refine (zero_any q c y wr).mono ?_
        rintro r w1 ⟨rfl, hb⟩
        have hR1 := hR.below hb
        have kb1 := Boxed.below' kb hb hR.gs
        have hN1 := hN.old hb
        have c1 := kb1.cell
        clear c4 kb hN hb hR
        go_wp2_with fail
        have hdv := divide_any q c y 1000000000 (lb y) w1 hN1 rfl (by omega) (by decide) (by decide)
        refine hdv.mono ?_
        clear hdv
        rintro r w2 ⟨rfl, S, hSl, hSb, hSv, hS2, hm2⟩
        have hR2 := hR1.mod hm2 (fun i hi h => by obtain ⟨a, e, h⟩ := h; have := (hq a e).1; omega) (fun b e h => by obtain ⟨a, e', h⟩ := h; exact (hq a e').2.2 b e h)
        have kb2 := Boxed.mod' kb1 hm2 (by rintro ⟨a, e, h⟩; exact (hq a e).2.1 h.symm)
        have c2 := kb2.cell
        obtain ⟨y', hy'⟩ : ∃ y', y' = y / 1000000000 := ⟨_, rfl⟩
        obtain ⟨r0, hr0⟩ : ∃ r0, r0 = y % 1000000000 := ⟨_, rfl⟩
        rw [← hy'] at hSv
        rw [← hr0]
        have HSl := Lib.hid hSl
        have HSv := Lib.hid hSv
        have hval1 : Hid (vl 10 D + 10 ^ D.length * (r0 + 10 ^ 9 * y') = x) := Lib.hid (by rw [← hval.out, hr0, hy']; congr 2; exact Nat.mod_add_div y 1000000000)
        have hr9 : r0 < 10 ^ 9 := by rw [hr0]; exact Nat.mod_lt _ (by decide)
        have hyl : y' < y := by rw [hy']; exact Nat.div_lt_self (by omega) (by decide)
        have ly' : (lb y').length ≤ 100000 := Nat.le_trans (dg_len_mono 4294967296 (by decide) (Nat.le_of_lt hyl)) ly
        clear c1 kb1 hN1 hm2 hR1 hSl hSv hy' hr0
        go_wp2_with fail
        have htr := trim_any q c S w2 hS2 hSb (by rw [HSl.out]; omega)
        rw [HSl.out, HSv.out] at htr
        refine htr.mono ?_
        clear htr
        rintro r w3 ⟨q3, c3, rfl, hN3, hb3, hq3⟩
        have hR3 := hR2.below hb3
        have kb3 := Boxed.below' kb2 hb3 hR2.gs
        have hq3' : ∀ a, q3 = some a → w.heap.size ≤ a.block ∧ a.block ≠ gl ∧ ∀ b, pd = some b → b.block ≠ a.block := by
          rintro a rfl
          rcases hq3 with h | h
          · cases h
          · exact hq a h.symm
        have c4 := kb3.cell
        have f4 := kb3.frozen
        have hR4 := hR3.mod ((Mod.refl (· = gl) w3).setCell (p := ⟨gl, 0, none⟩) (fun _ => rfl) (.slice q3 (lb y').length c3)) (fun i hi h => by have := hR3.lo; omega) (fun b e h => by have := hR3.fd b e; omega)
        have kb4 : Boxed (w3.setCell ⟨gl, 0, none⟩ (.slice q3 (lb y').length c3)) gl 26 (.slice q3 (lb y').length c3) := kb3.set _
        have hN4 : NatIn (w3.setCell ⟨gl, 0, none⟩ (.slice q3 (lb y').length c3)) q3 c3 y' := hN3.other ⟨gl, 0, none⟩ _ (fun a e => (hq3' a e).2.1)
        clear c2 kb2 hR2 hS2 hb3 hq3 hq hN3 hR3 hSb kb3
        have hnb6 : nd ≤ 1000000 := by rw [hnd.out]; exact hbd.out D y hval.out hy0
        go_wp2_with fail
        generalize w3.setCell ⟨gl, 0, none⟩ (.slice q3 (lb y').length c3) = W4 at hR4 kb4 hN4 ⊢
        clear c4 f4
        obtain ⟨wo, rfl⟩ : ∃ wo : World, wo = wr := ⟨_, rfl⟩
        go_loopw [3, 5, 21] (fun s3 s5 s21 wr => ∃ (j k r : Nat) (D : List Nat) (pd : Option Addr) (cd nd : Nat), j + k = 9 ∧ nd + k ≤ 1000009 ∧ s21 = .int .i64 (j : Int) ∧ s5 = .int .u32 (r : Int) ∧ Hid (r < 10 ^ k) ∧ r < 1000000000 ∧ s3 = .slice pd nd cd ∧ Hid (nd = D.length) ∧ TxtR w x gl D pd cd wr ∧ Hid (vl 10 D + 10 ^ D.length * (r + 10 ^ k * y') = x) ∧
          Boxed wr gl 26 (.slice q3 (lb y').length c3) ∧ NatIn wr q3 c3 y' ∧ (∀ a, q3 = some a → w.heap.size ≤ a.block ∧ a.block ≠ gl ∧ ∀ b, pd = some b → b.block ≠ a.block)) (fun _ _ j _ => 9 - (intOf j).toNat)
        case atStart => exact ⟨0, 9, r0, D, pd, cd, nd, rfl, by omega, rfl, rfl, hr9, hr9, rfl, hnd, hR4, hval1, kb4, hN4, hq3'⟩
        case round =>
          clear hR4 kb4 hN4 hq3' hval1 hval hnd hr9
          obtain ⟨j, k, r, D, pd, cd, nd, hjk, hnk, rfl, rfl, hr, hr9, rfl, hnd, hR, hval, kb, hN, hq⟩ := hrel
          by_cases hj9 : j < 9
          · obtain ⟨k', rfl⟩ : ∃ k', k = k' + 1 := ⟨k - 1, by omega⟩
            have hv2 := take_digit D r k' y' x hval.out
            have hr2 : r / 10 < 10 ^ k' := by have := hr.out; rw [Nat.pow_succ] at this; omega
            obtain ⟨d, hd⟩ : ∃ d, d = r % 10 := ⟨_, rfl⟩
            obtain ⟨t, ht⟩ : ∃ t, t = 48 + d := ⟨_, rfl⟩
            obtain ⟨r', hr'⟩ : ∃ r', r' = r / 10 := ⟨_, rfl⟩
            rw [← hd, ← hr'] at hv2
            rw [← hr'] at hr2
            have e1 : (r : Int) % 10 = d := by omega
            have e2 : (d : Int) % 256 = d := by omega
            have e3 : (48 + (d : Int)) = t := by omega
            have e4 : (48 + (d : Int)) % 256 = t := by omega
            have e5 : (r : Int) / 10 = r' := by omega
            have e6 : (t : Int) % 256 = t := by omega
            have hd10 : d < 10 := by omega
            have Hv2 := Lib.hid hv2
            have Ht := Lib.hid ht
            have Hr2 := Lib.hid hr2
            have hr9' : r' < 1000000000 := by omega
            have hDm : (D.map (48 + ·)).length = nd := by rw [List.length_map, hnd.out]
            have HDm := Lib.hid hDm
            clear hv2 hd ht hr' hr2 hval hr hDm
            go_wp2_with (at_builtin; refine wpList_push rfl _ _ .u8 42 5 (.int .u8 0) 1 rfl Tryd.underlying42 info_u8 rfl (by decide) pd cd nd 1 (D.map (48 + ·)) [t] HDm.out rfl (by decide) rfl hR.s rfl (by omega) ?_; intro pq cq W5 hP)
            have hR5 := hR.push hP Ht.out hd10
            obtain ⟨hS5, hm5, gq, rfl, hor⟩ := hP
            have hfd := hR.fd
            have kb5 := Boxed.mod' kb hm5 (by rintro ⟨a, e, he⟩; have := hfd a e; omega)
            have hN5 : NatIn W5 q3 c3 y' := hN.kept hm5 (by rintro a e ⟨b, e', he⟩; exact (hq a e).2.2 b e' he.symm)
            have hq5 : ∀ a, q3 = some a → w.heap.size ≤ a.block ∧ a.block ≠ gl ∧ ∀ b, (some ⟨gq, 0, none⟩ : Option Addr) = some b → b.block ≠ a.block := by
              intro a e
              refine ⟨(hq a e).1, (hq a e).2.1, ?_⟩
              intro b hb
              cases hb
              rcases hor with hor | hor
              · exact (hq a e).2.2 _ hor
              · subst e; have := hN.lt; show gq ≠ a.block; omega
            clear hS5 hm5 hor hfd hR kb hN hq
            go_wp2_with fail
            go_roundw
            case rel => exact ⟨j + 1, k', r', D ++ [d], some ⟨gq, 0, none⟩, cq, nd + 1, by omega, by omega, by go_num, rfl, Hr2.out, hr9', rfl, Lib.hid (by rw [List.length_append, hnd.out]; rfl), hR5, Hv2.out, kb5, hN5, hq5⟩
            case measure => simp [intOf]; omega
          · obtain rfl : j = 9 := by omega
            obtain rfl : k = 0 := by omega
            have hv := hval.out
            have hr0 : r = 0 := by have := hr.out; rw [Nat.pow_zero] at this; omega
            rw [hr0, Nat.pow_zero, Nat.one_mul, Nat.zero_add] at hv
            have Hv := Lib.hid hv
            clear hv hr0 hval
            go_wp2_with fail
            go_roundg (y' + 1)
            case measure => omega
            case rel => exact ⟨D, pd, cd, y', q3, c3, nd, rfl, hnd, by omega, by omega, hR, Hv, ly', kb, hN, hq⟩
end Go.Proofs.YtdahkemeoefndaaDoor.NN

namespace Go.Proofs.YtdahkemeoefndaaDoor.NN
open Go.RowKit

/-- How many bits a number has. -/
def bl (n : Nat) : Nat := (dg 2 n).length
theorem bl_zero : bl 0 = 0 := by unfold bl; rw [dg_zero]; rfl
theorem bl_unique {x L : Nat} (h0 : 1 ≤ L) (h1 : 2 ^ (L - 1) ≤ x) (h2 : x < 2 ^ L) : bl x = L := by
  have a := dg_len_le 2 (by decide) x L h2
  have b : ¬ bl x ≤ L - 1 := by
    intro hle
    have h3 : x < 2 ^ bl x := lt_pow_dg 2 (by decide) x
    have h4 : 2 ^ bl x ≤ 2 ^ (L - 1) := Nat.pow_le_pow_right (by decide) hle
    omega
  unfold bl at *
  omega
theorem bl_bounds {x : Nat} (h : x ≠ 0) : 1 ≤ bl x ∧ 2 ^ (bl x - 1) ≤ x ∧ x < 2 ^ bl x := by
  have h1 : 0 < bl x := by
    apply Nat.pos_of_ne_zero; intro e
    exact h (dg_nil 2 (by decide) (List.eq_nil_of_length_eq_zero e))
  exact ⟨h1, pow_le_dg 2 (by decide) x h1, lt_pow_dg 2 (by decide) x⟩
theorem bl_lib (x : Nat) (hx : x < 4294967296) : Lib.bitLen x = bl x := by
  by_cases h : x = 0
  · subst h; rw [bl_zero]; rfl
  · have hb := Lib.bitLenAux_bounds 64 x (Nat.lt_trans hx (by decide)) h
    exact (bl_unique hb.1 hb.2.1 hb.2.2).symm
theorem bl_limbs {x n : Nat} (hn : (lb x).length = n + 1) : bl x = 32 * n + bl (x / 4294967296 ^ n) := by
  have h1 : 4294967296 ^ n ≤ x := by
    have := pow_le_dg 4294967296 (by decide) x (by show 0 < (lb x).length; omega)
    change 4294967296 ^ ((lb x).length - 1) ≤ x at this
    rwa [hn, Nat.add_sub_cancel] at this
  have hp : (4294967296 : Nat) ^ n = 2 ^ (32 * n) := by rw [Nat.pow_mul]
  have hpos : 0 < (4294967296 : Nat) ^ n := Nat.pow_pos (by decide)
  have hq : x / 4294967296 ^ n ≠ 0 := by
    have := Nat.div_pos h1 hpos; omega
  obtain ⟨b1, b2, b3⟩ := bl_bounds hq
  apply bl_unique (by omega)
  · rw [show 32 * n + bl (x / 4294967296 ^ n) - 1 = 32 * n + (bl (x / 4294967296 ^ n) - 1) by omega, Nat.pow_add, ← hp]
    have := Nat.mul_le_mul_left (4294967296 ^ n) b2
    have h3 := Nat.mul_div_le x (4294967296 ^ n)
    omega
  · rw [Nat.pow_add, ← hp]
    have h3 := Nat.mul_le_mul_left (4294967296 ^ n) (show x / 4294967296 ^ n + 1 ≤ 2 ^ bl (x / 4294967296 ^ n) from b3)
    have h4 := Nat.lt_mul_div_succ x hpos
    omega

theorem bl_le {y n : Nat} (h : (lb y).length ≤ n) : bl y ≤ 32 * n := by
  apply dg_len_le 2 (by decide)
  have h1 := lt_pow_dg 4294967296 (by decide) y
  change y < 4294967296 ^ (lb y).length at h1
  have h2 : (4294967296 : Nat) ^ (lb y).length ≤ 4294967296 ^ n := Nat.pow_le_pow_right (by decide) h
  rw [Nat.pow_mul]
  exact Nat.lt_of_lt_of_le h1 h2
theorem lb_mul (x y : Nat) : (lb (x * y)).length ≤ (lb x).length + (lb y).length := dg_len_mul _ (by decide) x y
theorem lb_add (x y : Nat) : (lb (x + y)).length ≤ max (lb x).length (lb y).length + 1 := dg_len_add _ (by decide) x y
theorem lb_le {x y : Nat} (h : x ≤ y) : (lb x).length ≤ (lb y).length := dg_len_mono _ (by decide) h
theorem lb_64 {x : Nat} (h : x < 18446744073709551616) : (lb x).length ≤ 2 := dg_len_le _ (by decide) x 2 h

set_option maxHeartbeats 1000000 in
theorem bits_any (p : Option Addr) (cp x : Nat) (w : World) (hx : NatIn w p cp x) (lx : (lb x).length ≤ 100000) :
    Calls Tryd.prog 34 #[.agg #[.slice p (lb x).length cp]] w fun r w' => r = .returned (.int .i64 (bl x : Int)) ∧ Below w.heap.size w w' := by
  by_cases hx0 : x = 0
  · subst hx0
    have e0 : (0 == 0) = true := rfl
    rw [bl_zero]
    go_enter Tryd.func34, Tryd.ntmps34
    go_wp2_with fail
    refine (zero_any p cp 0 _).mono ?_
    rintro r w1 ⟨rfl, hb⟩
    have hB : Below w.heap.size w w1 := ((Below.refl _ _).alloc (Nat.le_refl _) _).trans (hb.mono (by simp))
    clear hb
    go_wp2_with fail
    go_ret
    exact ⟨rfl, hB⟩
  · have e0 : (x == 0) = false := by rw [beq_eq_false_iff_ne]; exact hx0
    have hne : lb x ≠ [] := fun e => hx0 (lb_nil.1 e)
    obtain ⟨g, rfl⟩ := hx.isPtr hne
    obtain ⟨n, hn⟩ : ∃ n, (lb x).length = n + 1 := ⟨(lb x).length - 1, by have := List.length_pos_iff.2 hne; omega⟩
    obtain ⟨t, ht⟩ : ∃ t, t = x / 4294967296 ^ n := ⟨_, rfl⟩
    have ht32 : t < 4294967296 := by
      have := lt_pow_dg 4294967296 (by decide) x
      change x < 4294967296 ^ (lb x).length at this
      rw [hn, Nat.pow_succ] at this
      rw [ht, Nat.div_lt_iff_lt_mul (Nat.pow_pos (by decide)), Nat.mul_comm]; exact this
    have hbl : bl x = 32 * n + bl t := by rw [ht]; exact bl_limbs hn
    have hlt : n < (lb x).length := by omega
    have hcl : (lb x)[n]'hlt = t := by
      have := dg_at 4294967296 (by decide) x n hlt
      change (lb x)[n]'hlt = _ at this
      rw [this, ← ht, Nat.mod_eq_of_lt ht32]
    have Hbl := Lib.hid hbl
    have hz := zero_any (some ⟨g, 0, none⟩) cp x (w.alloc (.cells #[.slice (some ⟨g, 0, none⟩) (lb x).length cp] 26))
    have htb : bl t ≤ 32 := dg_len_le 2 (by decide) t 32 (Nat.lt_of_lt_of_le ht32 (by decide))
    rw [hn] at lx hz ⊢
    have Hn := Lib.hid hn
    have hc : w.cell? ⟨g, n, none⟩ = some (.int .u32 (t : Int)) := by have := hx.cell n hlt; rw [hcl] at this; exact this
    have hgl : g < w.heap.size := hx.lt
    clear hn ht hbl hcl
    go_enter Tryd.func34, Tryd.ntmps34
    go_wp2_with fail
    refine hz.mono ?_
    clear hz
    rintro r w1 ⟨rfl, hb⟩
    have k1 : Boxed w1 w.heap.size 26 (.slice (some ⟨g, 0, none⟩) (n + 1) cp) := Boxed.below' (Boxed.new w _ _) hb (by simp)
    have hB : Below w.heap.size w w1 := ((Below.refl _ _).alloc (Nat.le_refl _) _).trans (hb.mono (by simp))
    have c1 := k1.cell
    have hc1 : w1.cell? ⟨g, n, none⟩ = some (.int .u32 (t : Int)) := (hB.cell (p := ⟨g, n, none⟩) hgl).trans hc
    have i0 : (0 : Int) ≤ n := by omega
    have i1 : (n : Int) < n + 1 := by omega
    have w1' : IntKind.i64.wrap (32 * (n : Int)) = 32 * (n : Int) := by rw [IntKind.wrap_i64]; omega
    clear hb k1 hc
    go_wp2_with fail
    refine (Tryd.bits_Len32 (t : Int) w1 (by omega) (by omega)).mono ?_
    rintro r w2 ⟨rfl, rfl⟩
    rw [Int.toNat_natCast, bl_lib t ht32]
    have w2' : IntKind.i64.wrap (32 * (n : Int) + bl t) = 32 * (n : Int) + bl t := by rw [IntKind.wrap_i64]; omega
    go_wp2_with fail
    go_ret
    exact ⟨by rw [Hbl.out]; exact congrArg (fun z => Ending.returned (.int .i64 z)) (by simp), hB⟩
end Go.Proofs.YtdahkemeoefndaaDoor.NN

namespace Go.Proofs.YtdahkemeoefndaaDoor.NN

/-- A number's bytes, the highest first. -/
def byts (x : Nat) : List UInt8 := chars (dg 256 x).reverse
/-- The number of bytes, the highest first. -/
def bval (l : List UInt8) : Nat := vl 256 (l.map UInt8.toNat).reverse
/-- A limb's four bytes. -/
def be4 (v : Nat) : List Nat := [v / 16777216, v / 65536 % 256, v / 256 % 256, v % 256]
theorem be4_lt {v : Nat} (h : v < 4294967296) : ∀ z ∈ be4 v, z < 256 := by
  intro z hz
  simp only [be4, List.mem_cons, List.not_mem_nil, or_false] at hz
  omega
theorem vl_be4 (L : List Nat) (v : Nat) : vl 256 (L ++ be4 v).reverse = v + 4294967296 * vl 256 L.reverse := by
  rw [List.reverse_append]
  simp only [be4, List.reverse_cons, List.reverse_nil, List.nil_append, List.cons_append, vl]
  omega
theorem strip_bytes (L : List Nat) (hL : ∀ z ∈ L, z < 256) : (chars L).dropWhile (· == 0) = byts (vl 256 L.reverse) := by
  have h := strip_dg 256 (by decide) L.reverse.length L.reverse rfl (fun z hz => hL z (List.mem_reverse.1 hz))
  rw [List.reverse_reverse] at h
  have key : ∀ l : List Nat, (∀ z ∈ l, z < 256) → (chars l).dropWhile (· == 0) = chars (l.dropWhile (· == 0)) := by
    intro l hl
    induction l with
    | nil => rfl
    | cons z l ih =>
      have hz := hl z (by simp)
      have hl' := ih (fun y hy => hl y (by simp [hy]))
      simp only [chars, List.map_cons, List.dropWhile_cons] at hl' ⊢
      by_cases h0 : z = 0
      · subst h0; rw [if_pos (by rfl), if_pos (by rfl)]; exact hl'
      · have e1 : (UInt8.ofNat z == 0) = false := by
          rw [beq_eq_false_iff_ne]; intro e
          have := congrArg UInt8.toNat e
          rw [UInt8.toNat_ofNat_of_lt' (show z < 256 by omega)] at this
          exact h0 this
        have e2 : (z == 0) = false := by rw [beq_eq_false_iff_ne]; exact h0
        rw [e1, e2]; rfl
  rw [key L hL, h]; rfl
theorem map_toNat_chars (L : List Nat) (hL : ∀ z ∈ L, z < 256) : (chars L).map UInt8.toNat = L := by
  induction L with
  | nil => rfl
  | cons z L ih =>
    have hz := hL z (by simp)
    have := ih (fun y hy => hL y (by simp [hy]))
    simp only [chars, List.map_cons] at this ⊢
    rw [this, UInt8.toNat_ofNat_of_lt' (show z < 256 by omega)]
theorem chars_map_toNat (l : List UInt8) : chars (l.map UInt8.toNat) = l := by
  induction l with
  | nil => rfl
  | cons c l ih => simp only [chars, List.map_cons] at ih ⊢; rw [ih, UInt8.ofNat_toNat]
theorem bval_byts (x : Nat) : bval (byts x) = x := by
  unfold bval byts
  rw [map_toNat_chars _ (fun z hz => dg_lt 256 (by decide) x z (List.mem_reverse.1 hz)), List.reverse_reverse, vl_dg 256 (by decide)]
theorem bval_lt (l : List UInt8) : ∀ z ∈ (l.map UInt8.toNat).reverse, z < 256 := by
  intro z hz
  obtain ⟨c, _, rfl⟩ := List.mem_map.1 (List.mem_reverse.1 hz)
  exact c.toNat_lt
/-- Bytes without a nought ahead are those of their number. -/
theorem byts_bval (l : List UInt8) (h : l.head? ≠ some 0) : byts (bval l) = l := by
  unfold byts bval
  rw [dg_vl 256 (by decide) _ (bval_lt l), List.reverse_reverse, chars_map_toNat]
  intro z hz hz0
  subst hz0
  rw [List.getLast?_reverse, List.head?_map] at hz
  cases l with
  | nil => cases hz
  | cons c l =>
    apply h
    have hc : c.toNat = 0 := Option.some.inj hz
    rw [List.head?_cons]
    congr 1
    exact UInt8.toNat_inj.1 hc
theorem byts_len (x : Nat) : (byts x).length = (dg 256 x).length := by simp [byts, chars]
theorem byts_head (x : Nat) : (byts x).head? ≠ some 0 := by
  intro h
  unfold byts at h
  cases hd : (dg 256 x).reverse with
  | nil => rw [hd] at h; cases h
  | cons z r =>
    rw [hd] at h
    have hz : UInt8.ofNat z = 0 := Option.some.inj h
    have hm : z ∈ dg 256 x := List.mem_reverse.1 (by rw [hd]; simp)
    have hl : (dg 256 x).getLast? = some z := by rw [← List.head?_reverse, hd]; rfl
    have h1 := dg_top 256 (by decide) x z hl
    have h2 := dg_lt 256 (by decide) x z hm
    have := congrArg UInt8.toNat hz
    rw [UInt8.toNat_ofNat_of_lt' (show z < 256 from h2)] at this
    exact h1 this
/-- A place of digits. -/
theorem vl_at (b : Nat) (D : List Nat) (hD : ∀ z ∈ D, z < b) (i : Nat) (hi : i < D.length) : vl b D / b ^ i % b = D[i] := by
  induction D generalizing i with
  | nil => simp at hi
  | cons x l ih =>
    have hx := hD x (by simp)
    cases i with
    | zero =>
      simp only [Nat.pow_zero, Nat.div_one, List.getElem_cons_zero, vl]
      rw [Nat.add_mul_mod_self_left, Nat.mod_eq_of_lt hx]
    | succ i =>
      simp only [List.getElem_cons_succ, vl]
      rw [Nat.pow_succ, Nat.mul_comm (b ^ i) b, ← Nat.div_div_eq_div_mul, Nat.add_mul_div_left _ _ (by omega), Nat.div_eq_of_lt hx, Nat.zero_add]
      exact ih (fun z hz => hD z (by simp [hz])) i (by simpa using hi)
/-- One byte more of a number that is put together in limbs. -/
theorem limb_step (S : List Nat) (x i c : Nat) (hv : vl 4294967296 S = x % 256 ^ i) (hq : i / 4 < S.length) (hc : c = x / 256 ^ i % 256) :
    S[i / 4] < 256 ^ (i % 4) ∧ vl 4294967296 (S.set (i / 4) (S[i / 4] + c * 256 ^ (i % 4))) = x % 256 ^ (i + 1) := by
  have e : (256 : Nat) ^ i = 4294967296 ^ (i / 4) * 256 ^ (i % 4) := by
    have h4 : (4294967296 : Nat) = 256 ^ 4 := by decide
    rw [h4, ← Nat.pow_mul, ← Nat.pow_add, Nat.div_add_mod]
  have h0 := vl_set 4294967296 S (i / 4) 0 hq
  have h1 := vl_set 4294967296 S (i / 4) (S[i / 4] + c * 256 ^ (i % 4)) hq
  rw [Nat.mul_zero, Nat.add_zero] at h0
  have hlt : x % 256 ^ i < 256 ^ i := Nat.mod_lt _ (Nat.pow_pos (by decide))
  refine ⟨?_, ?_⟩
  · apply Nat.lt_of_not_le; intro hle
    have := Nat.mul_le_mul_left (4294967296 ^ (i / 4)) hle
    omega
  · rw [mod_succ, ← hv, ← hc, e]
    rw [Nat.mul_add, show 4294967296 ^ (i / 4) * (c * 256 ^ (i % 4)) = 4294967296 ^ (i / 4) * 256 ^ (i % 4) * c by rw [Nat.mul_comm c, Nat.mul_assoc]] at h1
    omega
end Go.Proofs.YtdahkemeoefndaaDoor.NN

namespace Go.Proofs.YtdahkemeoefndaaDoor.NN
open Go.RowKit Go.Shelf
attribute [local go_sem] Oper.semAt_some

/-- Numbers are appended that a new block holds: inside a fence. -/
theorem wpListIn_push {F : Fence} {nF : Nat} {P : Program} {ops : Array Oper} {rest : List Oper} {o : Oper} {a : Act} {Q : Exit → Act → World → Prop} {w : World} (hgd : o.guard = none) (s x : Operand) (k : IntKind) (Ts T : TypeId) (z : Value) (bytes : Nat)
    (ho : o.op = .call { callee := .builtin .append, args := #[s, x], argTypes := #[Ts, Ts] }) (hT : P.underlying Ts = some (.slice T)) (hi : (P.info? T).map (fun i => (i.zero, i.size, i.bytes)) = some (some z, 1, bytes)) (hzs : z.cells.size = 1) (hby : bytes ≤ 8)
    (p : Option Addr) (cap n m : Nat) (A Y : List Nat) (hn : A.length = n) (hY : Y.length = m) (h0 : 0 < m) (hs : a.eval s = .slice p n cap) (hS : Sl k T w p cap A) (hx : a.eval x = .slice (some ⟨w.heap.size, 0, none⟩) m m) (hl : n + m ≤ 1000000000000)
    (h : ∀ q c w', Pushed k T w p (A ++ Y) q c w' → wpListIn F nF P ops Q rest (a.put o.dst (.slice q (n + m) c)) w') :
    wpListIn F nF P ops Q (o :: rest) a (w.alloc (.cells (nums k Y).toArray T)) := by
  obtain ⟨i, hi', hz, h1, h2⟩ := info_parts hi
  subst hn
  subst hY
  have hSo : (w.alloc (.cells (nums k Y).toArray T)).ownsRow 0 T 1 (.slice p A.length cap) A.length (nums k A) := hS.alloc _
  refine wpListIn_plain hgd fun K hK => ?_
  obtain ⟨g, c, w', hr, hown, hgrow, hat, _⟩ := run_append_lies (P := P) (w.alloc (.cells (nums k Y).toArray T)) Ts o.type 0 T i z 1 bytes hT hi' hz h1 h2 hzs (by decide) _ A.length (nums k A) hSo ⟨w.heap.size, 0, none⟩ Y.length Y.length (nums k Y) (by simp [nums_len]) (by
    intro j u hj
    have hadd : (⟨w.heap.size, 0, none⟩ : Addr).add j = ⟨w.heap.size, j, none⟩ := by unfold Addr.add; split <;> simp_all
    rw [hadd, cell_of_row _ w.heap.size j _ T (0, 0) (heap_alloc_new _ _)]
    simpa using hj) (nums_one _ _) h0 (by unfold maxLen; omega) (by have := Nat.mul_le_mul hl hby; omega) (Nat.zero_le _) _ rfl
  unfold Oper.wpIn
  refine ⟨by simp [Oper.about, ho, resolve, Target.leads, Sem.run_pure], ?_⟩
  rw [Oper.semAt_plain F _ _ (by rw [ho]; intro c hc'; cases hc')]
  simp [execOp, ho, resolve, invoke, builtin, hs, hx, hr, Result.andThen]
  refine hK _ _ (h (some ⟨g, 0, none⟩) c w' ⟨?_, ?_, g, rfl, ?_⟩)
  · unfold Sl; rw [List.length_append, show nums k (A ++ Y) = nums k A ++ nums k Y by simp [nums]]; exact hown
  · refine ((Mod.refl _ w).alloc _).grown hgrow ?_
    intro j hj _
    cases p with
    | none => simp [Value.ownBlock] at hj
    | some a => simp [Value.ownBlock] at hj; exact ⟨a, rfl, hj.symm⟩
  · rcases hat with hat | hat
    · left
      rcases hS.shape with ⟨rfl, _⟩ | ⟨g', rfl, _⟩
      · simp [Value.ownBlock] at hat
      · simp [Value.ownBlock] at hat; subst hat; rfl
    · right; rw [hat]; simp

/-- The memory of Bytes: k limbs from behind are laid by. -/
structure BytS (w : World) (B x n cp : Nat) (p : Option Addr) (k nd : Nat) (L : List Nat) (pq : Option Addr) (cq : Nat) (W : World) : Prop where
  len : L.length = nd
  nd4 : nd = 4 * k
  lt : ∀ z ∈ L, z < 256
  val : vl 256 L.reverse = x / 4294967296 ^ (n - k)
  s : Sl .u8 5 W pq cq L
  new : ∀ a, pq = some a → B ≤ a.block
  b1 : Boxed W (w.heap.size + 1) 42 (.slice pq nd cq)
  b2 : Boxed W (w.heap.size + 1 + 1) 24 (.slice p n cp)
  lim : NatIn W p cp x
  m : Below w.heap.size w W
  hB : B ≤ W.heap.size
theorem BytS.step {w : World} {B x n cp : Nat} {p : Option Addr} {k nd : Nat} {L : List Nat} {pq : Option Addr} {cq : Nat} {W W' : World} {S : Nat → Prop} (h : BytS w B x n cp p k nd L pq cq W) (hm : Mod S W W') (hw : w.heap.size + 3 ≤ B) (hp : ∀ a, p = some a → a.block < w.heap.size)
    (hS : ∀ i, S i → B ≤ i) (hq : ∀ a, pq = some a → ¬ S a.block) : BytS w B x n cp p k nd L pq cq W' :=
  ⟨h.len, h.nd4, h.lt, h.val, h.s.kept hm hq, h.new, Boxed.mod' h.b1 hm (fun e => by have := hS _ e; omega), Boxed.mod' h.b2 hm (fun e => by have := hS _ e; omega), h.lim.kept hm (fun a e hs => by have := hS _ hs; have := hp a e; omega),
    h.m.trans (hm.to_below h.m.size (fun i hi hs => by have := hS _ hs; omega)), Nat.le_trans h.hB hm.size⟩
def BytI (w : World) (B x n cp : Nat) (p : Option Addr) (k : Nat) (W : World) : Prop := ∃ nd L pq cq, BytS w B x n cp p k nd L pq cq W
theorem BytI.own {w : World} {B x n cp : Nat} {p : Option Addr} (hw : w.heap.size + 3 ≤ B) (hp : ∀ a, p = some a → a.block < w.heap.size) : OwnFrom B (BytI w B x n cp p) := by
  rintro k W W' row ⟨nd, L, pq, cq, h⟩ hg hr
  have hm : Mod (fun i => row = some i) W W' := (Mod.refl _ _).grown hg (fun k e _ => e)
  refine ⟨nd, L, pq, cq, h.step hm hw hp (fun i e => (hr i e).1) (fun a e hs => ?_)⟩
  subst e
  obtain ⟨o, ho, hc⟩ := (hr _ hs).2
  rcases h.s.shape with ⟨e, _⟩ | ⟨g, e, _, _, _, cur, hh, _⟩
  · cases e
  · cases e
    rw [show (⟨g, 0, none⟩ : Addr).block = g from rfl, hh] at ho
    cases ho; cases hc
theorem BytS.next {w : World} {B x n cp : Nat} {p : Option Addr} {k nd : Nat} {L : List Nat} {pq : Option Addr} {cq : Nat} {W W5 : World} (h : BytS w B x n cp p k nd L pq cq W) (hw : w.heap.size + 3 ≤ B) (hp : ∀ a, p = some a → a.block < w.heap.size) (i v : Nat) (hik : i + k + 1 = n) (hv : v = x / 4294967296 ^ i % 4294967296)
    {pq2 : Option Addr} {cq2 : Nat} (hP : Pushed .u8 5 W pq (L ++ be4 v) pq2 cq2 W5) :
    KeepsFrom B W (W5.setCell ⟨w.heap.size + 1, 0, none⟩ (.slice pq2 (nd + 4) cq2)) ∧ BytI w B x n cp p (k + 1) (W5.setCell ⟨w.heap.size + 1, 0, none⟩ (.slice pq2 (nd + 4) cq2)) := by
  obtain ⟨hS, hm, g, rfl, hor⟩ := hP
  have hgB : B ≤ g := by
    rcases hor with e | e
    · exact h.new _ e
    · have := h.hB; omega
  have hv4 : v < 4294967296 := by rw [hv]; exact Nat.mod_lt _ (by decide)
  have hm2 : Mod (fun i => (∃ a, pq = some a ∧ i = a.block) ∨ i = w.heap.size + 1) W (W5.setCell ⟨w.heap.size + 1, 0, none⟩ (.slice (some ⟨g, 0, none⟩) (nd + 4) cq2)) :=
    Mod.setCell (S := fun i => (∃ a, pq = some a ∧ i = a.block) ∨ i = w.heap.size + 1) (p := ⟨w.heap.size + 1, 0, none⟩) (hm.mono (fun i _ hs => Or.inl hs)) (fun _ => Or.inr rfl) _
  have hBp : ∀ i, (∃ a, pq = some a ∧ i = a.block) → B ≤ i := by rintro i ⟨a, e, rfl⟩; exact h.new a e
  refine ⟨⟨hm2.size, fun j o hj hk hc => ?_⟩, nd + 4, L ++ be4 v, some ⟨g, 0, none⟩, cq2, ?_, ?_, ?_, ?_, ?_, ?_, ?_, ?_, ?_, ?_, ?_⟩
  · have hjl := (Array.getElem?_eq_some_iff.1 hk).1
    refine (hm2.block j hjl ?_).trans hk
    rintro (⟨a, e, rfl⟩ | e)
    · subst e
      rcases h.s.shape with ⟨e, _⟩ | ⟨g', e, _, _, _, cur, hh, _⟩
      · cases e
      · cases e
        rw [show (⟨g', 0, none⟩ : Addr).block = g' from rfl, hh] at hk
        cases hk; cases hc
    · omega
  · rw [List.length_append, h.len]; rfl
  · have := h.nd4; omega
  · intro z hz
    rcases List.mem_append.1 hz with hz | hz
    · exact h.lt z hz
    · exact be4_lt hv4 z hz
  · rw [vl_be4, h.val, show n - k = i + 1 by omega, show n - (k + 1) = i by omega, hv, Nat.pow_succ, ← Nat.div_div_eq_div_mul]
    exact Nat.mod_add_div _ _
  · exact hS.other ⟨w.heap.size + 1, 0, none⟩ _ (fun a e => by cases e; show g ≠ w.heap.size + 1; omega)
  · rintro a e; cases e; exact hgB
  · exact (Boxed.mod' h.b1 hm (fun e => by have := hBp _ e; omega)).set _
  · exact Boxed.mod' h.b2 hm2 (by rintro (e | e); · have := hBp _ e; omega
                                  · omega)
  · exact h.lim.kept hm2 (fun a e hs => by have := hp a e; rcases hs with hs | hs; · have := hBp _ hs; omega
                                           · omega)
  · exact h.m.trans (hm2.to_below h.m.size (by rintro i hi (hs | hs); · have := hBp _ hs; omega
                                               · omega))
  · exact Nat.le_trans h.hB hm2.size

set_option maxRecDepth 100000 in
set_option maxHeartbeats 20000000 in
theorem bytes_any (p : Option Addr) (cp x : Nat) (w : World) (hx : NatIn w p cp x) (hl : (lb x).length ≤ 100000) :
    Calls Tryd.prog 15 #[.agg #[.slice p (lb x).length cp]] w fun r w' => r = .returned (.string ⟨(byts x).toArray⟩) ∧ Below w.heap.size w w' := by
  obtain ⟨n, hn⟩ : ∃ n, n = (lb x).length := ⟨_, rfl⟩
  rw [← hn] at hl ⊢
  have Hn := Lib.hid hn
  clear hn
  refine (callsIn_wide (n := 3)).1 ?_
  refine callsIn_of_wp_marks Tryd.func15 rfl trivial ?_ rfl
  simp only [Tryd.ntmps15, List.size_toArray, List.length_cons, List.length_nil, Nat.reduceAdd, Nat.reduceSub, Array.replicate_succ, Array.replicate_zero, List.push_toArray, List.append_toArray, List.nil_append, List.cons_append]
  gi_wp2_with (refine ⟨trivial, ?_⟩; gi_at_call 29; refine (backward_in Fence.wide (3 - 1) trivial rfl _ _ _ _).mono ?_; rintro e w' ⟨rfl, rfl⟩)
  obtain ⟨W0, hW0⟩ : ∃ W0, W0 = (((w.alloc (.cells #[.slice p n cp] 26)).alloc (.cells #[.slice none 0 0] 42)).alloc (.cells #[.slice p n cp] 24)) := ⟨_, rfl⟩
  have hB0 : Below w.heap.size w W0 := by rw [hW0]; exact (((Below.refl _ _).alloc (Nat.le_refl _) _).alloc (by simp) _).alloc (by simp; omega) _
  have hs0 : W0.heap.size = w.heap.size + 3 := by rw [hW0]; simp
  have hpl : ∀ a, p = some a → a.block < w.heap.size := by rintro a rfl; exact hx.lt
  have k1 : Boxed W0 (w.heap.size + 1) 42 (.slice none 0 0) := by
    have := (Boxed.new (w.alloc (.cells #[.slice p n cp] 26)) 42 (.slice none 0 0)).alloc (.cells #[.slice p n cp] 24)
    rw [hW0]; rwa [World.size_alloc] at this
  have k2 : Boxed W0 (w.heap.size + 1 + 1) 24 (.slice p n cp) := by
    have := Boxed.new ((w.alloc (.cells #[.slice p n cp] 26)).alloc (.cells #[.slice none 0 0] 42)) 24 (.slice p n cp)
    rw [hW0]; rwa [World.size_alloc, World.size_alloc] at this
  rw [← hW0]
  clear hW0
  have hxn : x < 4294967296 ^ n := by rw [Hn.out]; exact lt_pow_dg 4294967296 (by decide) x
  have h0 : BytI w W0.heap.size x n cp p 0 W0 :=
    ⟨0, [], none, 0, rfl, rfl, by simp, by rw [Nat.sub_zero, Nat.div_eq_of_lt hxn]; rfl, Sl.empty _ _ _, (fun a e => by cases e), k1, k2, hx.old hB0, hB0, Nat.le_refl _⟩
  obtain ⟨A, hA⟩ : ∃ A, A = lb x := ⟨_, rfl⟩
  have HA := Lib.hid hA
  have hAl : A.length = n := by rw [hA, Hn.out]
  have HAl := Lib.hid hAl
  clear k1 k2 hB0 hx hA hxn hAl
  refine wpIn_rounds (F := Fence.wide) rfl (by decide) (gf := 43) (lb := #[.pointer (some ⟨w.heap.size + 1 + 1, 0, none⟩)]) rfl trivial (enters_of Tryd.func43 (by kernel_rfl) rfl)
    (back_rounds Fence.wide (3 - 1) trivial rfl (by decide) (w.heap.size + 1 + 1) p cp A (by rw [HAl.out]; omega) _) (fun _ => rfl)
    (BytI w W0.heap.size x n cp p) (fun _ _ _ => False) ?hR (BytI.own (by omega) hpl) (fun _ _ _ _ _ hs _ _ => hs) h0
    (fun k => { tmps := #[.agg #[.slice p n cp], .pointer (some ⟨w.heap.size, 0, none⟩), .string ⟨#[]⟩, .pointer (some ⟨w.heap.size + 1, 0, none⟩), undef, .int .u32 ((A.getD (A.length - 1 - k) 0 : Nat) : Int), .pointer (some ⟨w.heap.size, 0, none⟩), .slice p n cp, .func (.func 43) #[] #[.pointer (some ⟨w.heap.size + 1 + 1, 0, none⟩)], .int .i64 ((A.length - 1 - k : Nat) : Int), .int .u32 ((A.getD (A.length - 1 - k) 0 : Nat) : Int), undef, undef, undef, undef, undef, undef, undef, undef, undef, undef, undef, undef, undef, undef, undef, undef, undef], defers := [] }) ?assign ?body ?done ?stop
  case hR =>
    rintro k W ⟨nd, L, pq, cq, h⟩
    refine ⟨by rw [HAl.out]; exact h.b2.cell, fun i hi hik => ?_⟩
    have h1' : Sl .u32 59 W p cp A := by rw [HA.out]; exact h.lim
    obtain ⟨g, rfl⟩ := h1'.isPtr (by intro e; rw [e] at hi; simp at hi)
    exact ⟨g, rfl, h1'.cell i hi⟩
  case assign =>
    intro l k W K hK
    unfold backArgs
    generalize A.getD (A.length - 1 - k) 0 = v at hK ⊢
    generalize A.length - 1 - k = i at hK ⊢
    gi_wp2
    exact hK
  case body =>
    rintro l k W ⟨nd, L, pq, cq, h⟩ hk
    rw [HAl.out] at hk
    obtain ⟨i, hi⟩ : ∃ i, i = A.length - 1 - k := ⟨_, rfl⟩
    have hik : i + k + 1 = n := by have := HAl.out; omega
    obtain ⟨v, hv⟩ : ∃ d, d = x / 4294967296 ^ i % 4294967296 := ⟨_, rfl⟩
    have hgd : A.getD i 0 = v := by rw [hv, HA.out]; exact dg_getD 4294967296 (by decide) x i
    rw [← hi, hgd]
    have lv : v < 4294967296 := by rw [hv]; exact Nat.mod_lt _ (by decide)
    have c1 := h.b1.cell
    have f1 := h.b1.frozen
    have Hend := Lib.hid (fun pq2 cq2 W5 hP => h.next (W5 := W5) (pq2 := pq2) (cq2 := cq2) (by omega) hpl i v hik hv hP)
    have HS := Lib.hid h.s
    have HL := Lib.hid h.len
    have hnd : nd ≤ 400000 := by have := h.nd4; omega
    have hB1 : w.heap.size + 1 < W.heap.size := by have := h.hB; omega
    have Hb1 := Lib.hid h.b1
    have hnq : ∀ a, pq = some a → a.block ≠ w.heap.size + 1 := by intro a e; have := h.new a e; omega
    have Hnq := Lib.hid hnq
    obtain ⟨z1, hz1⟩ : ∃ z, z = v / 16777216 := ⟨_, rfl⟩
    obtain ⟨z2, hz2⟩ : ∃ z, z = v / 65536 % 256 := ⟨_, rfl⟩
    obtain ⟨z3, hz3⟩ : ∃ z, z = v / 256 % 256 := ⟨_, rfl⟩
    obtain ⟨z4, hz4⟩ : ∃ z, z = v % 256 := ⟨_, rfl⟩
    have e1 : (v : Int) / 16777216 = z1 := by omega
    have e2 : (v : Int) / 65536 % 256 = z2 := by omega
    have e3 : (v : Int) / 256 % 256 = z3 := by omega
    have e4 : (v : Int) % 256 = z4 := by omega
    have hbe : be4 v = [z1, z2, z3, z4] := by unfold be4; rw [hz1, hz2, hz3, hz4]
    rw [hbe] at Hend
    clear h hv hgd hi h0 hpl hs0 hk hik hnq hz1 hz2 hz3 hz4 hbe
    gi_wp2_with (gi_at_builtin; refine wpListIn_push rfl _ _ .u8 42 5 (.int .u8 0) 1 rfl Tryd.underlying42 info_u8 rfl (by decide) pq cq nd 4 L [z1, z2, z3, z4] HL.out rfl (by decide) rfl HS.out rfl (by omega) ?_; intro pq2 cq2 W5 hP; have b5 := Boxed.mod' Hb1.out hP.2.1 (by rintro ⟨a, e, h⟩; exact Hnq.out a e h.symm); have c5 := b5.cell; have f5 := b5.frozen; have HP := Lib.hid hP; clear hP b5)
    exact Hend.out _ _ _ HP.out
  case done =>
    rintro D W hD ⟨nd, L, pq, cq, h⟩ hK
    have hv := h.val
    have hnd := h.nd4
    rw [HAl.out] at hv hnd
    rw [Nat.sub_self, Nat.pow_zero, Nat.div_one] at hv
    have hfin := strip_bytes L h.lt
    rw [hv] at hfin
    have Hfin := Lib.hid hfin
    have c1 := h.b1.cell
    have hcv := conv_str pq cq nd L h.len W h.s
    have hbl := h.m
    clear hfin hv h0 hnd h
    gi_wp2_with (refine ⟨trivial, ?_⟩; gi_at_call 33; refine (callsIn_wide.2 (trimleft_any (chars L) 0 (by decide) W)).mono ?_; rintro e w' ⟨rfl, rfl⟩)
    refine ⟨by simp, .inl ⟨_, _, rfl, run_takeDeferred hK, ?_⟩⟩
    have hmD : Mod (fun i => W0.heap.size ≤ i) W (W.putObj D (.deferred none)) := (Mod.refl _ _).grown (grownBy_putObj' _ D _) (fun k e _ => by cases e; exact hD)
    exact ⟨_, results_tmp rfl _ _ _, by rw [← Hfin.out]; rfl, hbl.trans (hmD.to_below hbl.size (by intro i hi hs; omega))⟩
  case stop =>
    rintro D c k W _ _ h _
    exact h.elim
end Go.Proofs.YtdahkemeoefndaaDoor.NN

namespace Go.Proofs.YtdahkemeoefndaaDoor.NN
open Go.RowKit

theorem or_byte (o c r : Nat) (ho : o < 256 ^ r) : o ||| c * 256 ^ r = o + c * 256 ^ r := by
  have e : (256 : Nat) ^ r = 2 ^ (8 * r) := by rw [Nat.pow_mul]
  rw [e] at ho ⊢
  have := Nat.two_pow_add_eq_or_of_lt (i := 8 * r) ho c
  rw [Nat.mul_comm c, Nat.or_comm, ← this, Nat.add_comm]

set_option maxHeartbeats 2000000 in
theorem from_no (l : List UInt8) (w : World) (hl : l.length ≤ 1000000000) (hno : 160 < l.length ∨ l.head? = some 0) :
    Calls Tryd.prog 20 #[.string ⟨l.toArray⟩] w fun r w' => r = .returned (.tuple #[.agg #[.slice none 0 0], .bool false]) ∧ Below w.heap.size w w' := by
  obtain ⟨s, hs⟩ : ∃ s, s = ByteArray.mk l.toArray := ⟨_, rfl⟩
  rw [← hs]
  obtain ⟨n, hn⟩ : ∃ n, n = l.length := ⟨_, rfl⟩
  have n1 : s.size = n := by rw [hs, hn]; rfl
  have hL : s.toList = l := by rw [hs, ByteArray.toList_mk]
  have hB : Below w.heap.size w ((w.alloc (.cells #[.slice none 0 0] 26)).setCell ⟨w.heap.size, 0, none⟩ (.slice none 0 0)) := ((Below.refl _ _).alloc (Nat.le_refl _) _).setCell (p := ⟨w.heap.size, 0, none⟩) (Nat.le_refl _) _
  have HB := Lib.hid hB
  by_cases h160 : 160 < n
  · have b1 : (160 : Int) < n := by omega
    clear hL hs hno hn hl hB
    go_enter Tryd.func20, Tryd.ntmps20
    go_wp2_with fail
    refine bodyPost_ret (v := .tuple #[.agg #[.slice none 0 0], .bool false]) (by simp [results, Tryd.results20, go_sem]) rfl ⟨rfl, ?_⟩
    first | exact HB.out | exact (Below.refl _ _).alloc (Nat.le_refl _) _
  · have hh : l.head? = some 0 := by rcases hno with h | h; · omega
                                     · exact h
    have hne : l ≠ [] := by intro e; rw [e] at hh; cases hh
    have e0 : (s.toList == []) = false := by rw [hL, beq_eq_false_iff_ne]; exact hne
    have n0 : 0 < n := by rw [hn]; exact List.length_pos_iff.2 hne
    have b1 : ¬ (160 : Int) < n := by omega
    have h0 : 0 < s.size := by omega
    have g0 : s[0]'h0 = 0 := by subst hs; cases l with
      | nil => exact absurd rfl hne
      | cons a t => exact Option.some.inj hh
    have hv : ((0 : UInt8).toNat : Int) = 0 := rfl
    clear hL hs hno hn hl hB hh hne
    go_enter Tryd.func20, Tryd.ntmps20
    go_wp2_with fail
    refine bodyPost_ret (v := .tuple #[.agg #[.slice none 0 0], .bool false]) (by simp [results, Tryd.results20, go_sem]) rfl ⟨rfl, ?_⟩
    first | exact HB.out | exact (Below.refl _ _).alloc (Nat.le_refl _) _

/-- While it is put together: i bytes are. -/
structure FroR (w : World) (g m x i : Nat) (S : List Nat) (wr : World) : Prop where
  s : Sl .u32 59 wr (some ⟨g, 0, none⟩) m S
  len : S.length = m
  lt : ∀ z ∈ S, z < 4294967296
  val : vl 4294967296 S = x % 256 ^ i
  bx : Boxed wr w.heap.size 26 (.slice none 0 0)
  m : Below w.heap.size w wr
theorem FroR.next {w : World} {g m x i : Nat} {S : List Nat} {wr : World} (h : FroR w g m x i S wr) (hg : w.heap.size < g) (hq : i / 4 < S.length) (c : Nat) (hc : c = x / 256 ^ i % 256) :
    S[i / 4] < 256 ^ (i % 4) ∧ FroR w g m x (i + 1) (S.set (i / 4) (S[i / 4] + c * 256 ^ (i % 4))) ((wr.setCell ⟨g, i / 4, none⟩ (.int .u32 ((S[i / 4] + c * 256 ^ (i % 4) : Nat) : Int))).drew) := by
  obtain ⟨h1, h2⟩ := limb_step S x i c h.val hq hc
  have hc256 : c < 256 := by rw [hc]; exact Nat.mod_lt _ (by decide)
  have hz : S[i / 4] + c * 256 ^ (i % 4) < 4294967296 := by
    have : i % 4 = 0 ∨ i % 4 = 1 ∨ i % 4 = 2 ∨ i % 4 = 3 := by omega
    rcases this with e | e | e | e <;> rw [e] at h1 ⊢ <;> omega
  have hm : Mod (· = g) wr (wr.setCell ⟨g, i / 4, none⟩ (.int .u32 ((S[i / 4] + c * 256 ^ (i % 4) : Nat) : Int))) := (Mod.refl (· = g) wr).setCell (p := ⟨g, i / 4, none⟩) (fun _ => rfl) _
  refine ⟨h1, (h.s.set _ _).drew, by simpa using h.len, set_lt h.lt hz, h2, ?_, ?_⟩
  · exact Boxed.below' (Boxed.mod' h.bx hm (by omega)) (Below.refl _ _).drew (by have := h.bx.lt; have := hm.size; omega)
  · exact (h.m.setCell (p := ⟨g, i / 4, none⟩) (by show w.heap.size ≤ g; omega) _).drew

set_option maxRecDepth 20000 in
set_option maxHeartbeats 4000000 in
theorem from_yes (l : List UInt8) (w : World) (hl : l.length ≤ 160) (hh : l.head? ≠ some 0) :
    Calls Tryd.prog 20 #[.string ⟨l.toArray⟩] w fun r w' => ∃ q c, r = .returned (.tuple #[.agg #[.slice q (lb (bval l)).length c], .bool true]) ∧ NatIn w' q c (bval l) ∧ Below w.heap.size w w' ∧ (∀ a, q = some a → w.heap.size ≤ a.block) := by
  obtain ⟨s, hs⟩ : ∃ s, s = ByteArray.mk l.toArray := ⟨_, rfl⟩
  rw [← hs]
  obtain ⟨n, hn⟩ : ∃ n, n = l.length := ⟨_, rfl⟩
  have n1 : s.size = n := by rw [hs, hn]; rfl
  have hL : s.toList = l := by rw [hs, ByteArray.toList_mk]
  obtain ⟨x, hx⟩ : ∃ x, x = bval l := ⟨_, rfl⟩
  rw [← hx]
  have hget : Hid (∀ i j (h : j < s.size), i + j + 1 = n → s[j].toNat = x / 256 ^ i % 256) := Lib.hid (by
    intro i j h hij
    have hlen : (l.map UInt8.toNat).reverse.length = n := by simp [hn]
    have := vl_at 256 (l.map UInt8.toNat).reverse (bval_lt l) i (by omega)
    rw [hx]; unfold bval; rw [this]
    subst hs
    simp only [List.getElem_reverse, List.getElem_map, List.length_map]
    show l[j].toNat = _
    congr 2
    omega)
  have hxn : Hid (x % 256 ^ n = x) := Lib.hid (by
    apply Nat.mod_eq_of_lt
    have := vl_lt 256 (l.map UInt8.toNat).reverse (bval_lt l)
    rw [List.length_reverse, List.length_map, ← hn] at this
    rw [hx]; exact this)
  obtain ⟨b, hb⟩ : ∃ b, (s.toList == []) = b := ⟨_, rfl⟩
  have hfirst : b = true ∨ ∃ (h0 : 0 < s.size), b = false ∧ s[0]'h0 ≠ 0 := by
    rw [hL] at hb
    by_cases hne : l = []
    · left; rw [← hb, hne]; rfl
    · right
      refine ⟨by rw [n1, hn]; exact List.length_pos_iff.2 hne, by rw [← hb, beq_eq_false_iff_ne]; exact hne, ?_⟩
      subst hs
      intro e
      apply hh
      cases l with
      | nil => exact absurd rfl hne
      | cons a t => exact congrArg some e
  have b1 : ¬ (160 : Int) < n := by omega
  have hl160 : n ≤ 160 := by omega
  obtain ⟨m, hm⟩ : ∃ m, m = (n + 3) / 4 := ⟨_, rfl⟩
  have hmn : n ≤ 4 * m := by omega
  have hm41 : m ≤ 41 := by omega
  have d1 : ((n : Int) + 4 - 1) / 4 = (m : Int) := by omega
  have d2 : ((n : Int) + 4 - 1).tdiv 4 = (m : Int) := by rw [Int.tdiv_eq_ediv_of_nonneg (by omega)]; exact d1
  have d3 : (0 : Int) ≤ (n : Int) + 4 - 1 := by omega
  clear hn hs hL hx hh hl hm
  have kB : Boxed (w.alloc (.cells #[.slice none 0 0] 26)) w.heap.size 26 (.slice none 0 0) := Boxed.new _ _ _
  have hB : Below w.heap.size w (w.alloc (.cells #[.slice none 0 0] 26)) := (Below.refl _ _).alloc (Nat.le_refl _) _
  rcases hfirst with rfl | ⟨h0, rfl, hne0⟩
  · skip
    go_enter Tryd.func20, Tryd.ntmps20
    go_wp2_with (first | (at_make; refine wpList_make32 rfl _ _ rfl m _ _ rfl rfl (by go_num) (by go_num) (by omega) ?_; intro W1 hS1 hb1 hl1; have hR0 : FroR w (w.alloc (.cells #[.slice none 0 0] 26)).heap.size m x 0 _ W1 := ⟨hS1, by simp, by intro z hz; rw [List.eq_of_mem_replicate hz]; decide, by rw [vl_zeros]; simp [Nat.mod_one], Boxed.below' kB hb1 kB.lt, hB.trans (hb1.mono (by simp))⟩) | fail)
    clear hS1 hb1 hl1 kB hB hb d1 d2 d3
    rw [World.size_alloc] at hR0
    go_loopw [27] (fun s27 wr => ∃ (i : Nat) (S : List Nat), i ≤ n ∧ s27 = .int .i64 (i : Int) ∧ FroR w (w.heap.size + 1) m x i S wr) (fun i _ => n - (intOf i).toNat)
    case atStart => exact ⟨0, _, by omega, rfl, hR0⟩
    case round =>
      clear hR0
      obtain ⟨i, S, hi, rfl, hR⟩ := hrel
      by_cases hin : i < n
      · obtain ⟨j, hj⟩ : ∃ j, i + j + 1 = n := ⟨n - 1 - i, by omega⟩
        have hjs : j < s.size := by omega
        obtain ⟨cv, hcv⟩ : ∃ v, s[j]'hjs = v := ⟨_, rfl⟩
        have hcx := hget.out i j hjs hj
        rw [hcv] at hcx
        obtain ⟨c, hc⟩ : ∃ c, cv.toNat = c := ⟨_, rfl⟩
        rw [hc] at hcx
        have hc256 : c < 256 := by rw [← hc]; exact cv.toNat_lt
        have hql : i / 4 < S.length := by rw [hR.len]; omega
        have hnx := hR.next (by omega) hql c hcx
        obtain ⟨q, hq⟩ : ∃ q, q = i / 4 := ⟨_, rfl⟩
        obtain ⟨r, hr⟩ : ∃ r, r = i % 4 := ⟨_, rfl⟩
        simp only [← hq, ← hr] at hnx hql
        have cS := hR.s.cell q hql
        have fS := hR.s.froz q
        obtain ⟨o, ho⟩ : ∃ o, o = S[q] := ⟨_, rfl⟩
        rw [← ho] at hnx cS
        obtain ⟨ho1, hnx⟩ := hnx
        have hor := or_byte o c r ho1
        have e1 : (n : Int) - 1 - (i : Int) = (j : Int) := by omega
        have e2 : (i : Int) / 4 = (q : Int) := by omega
        have e3 : (i : Int) % 4 = (r : Int) := by omega
        have i0 : (0 : Int) ≤ i := by omega
        have i1 : (i : Int) < n := by omega
        have q0 : (0 : Int) ≤ q := by omega
        have q1 : (q : Int) < m := by omega
        have j1 : (j : Int) < n := by omega
        have j2 : (0 : Int) ≤ j := by omega
        have hmix : Tryd.prog.follows .mixedOrders = true := by kernel_rfl
        have hr4 : r = 0 ∨ r = 1 ∨ r = 2 ∨ r = 3 := by omega
        have hn9 : n ≤ 160 := hl160
        have wq : IntKind.i64.wrap (q : Int) = q := by rw [IntKind.wrap_i64]; omega
        have wj : IntKind.i64.wrap (j : Int) = j := by rw [IntKind.wrap_i64]; omega
        have wn : IntKind.i64.wrap ((n : Int) - 1) = (n : Int) - 1 := by rw [IntKind.wrap_i64]; omega
        have qt : (q : Int).toNat = q := by omega
        clear hR hget hcx hj hq hr ho
        rcases hr4 with rfl | rfl | rfl | rfl
        · simp only [Nat.reducePow, Nat.mul_one] at hor hnx ho1
          replace e3 : (i : Int).tmod 4 = 0 := by rw [Int.tmod_eq_emod_of_nonneg i0]; omega
          have w8 : IntKind.i64.wrap 0 = 0 := by decide
          have w9 : IntKind.i64.wrap (8 * 0) = 0 := by decide
          generalize hz : o + _ = z at hor hnx
          have e4 : bits BinOp.or IntKind.u32 (o : Int) ((c : Int)) = (z : Int) := by
            rw [show ((c : Int) : Int) = ((c : Nat) : Int) by omega, u32_or_nat _ _ (by omega) (by omega), hor]
          have e5 : IntKind.u32.wrap ((c : Int)) = (c : Int) := by rw [IntKind.wrap_u32]; omega
          clear hz hor ho1
          go_upto_region 7 with fail
          go_still_tail 19, (by kernel_rfl)
          change wpList _ _ _ _ _ wr.drew
          go_wp2_with fail
          go_roundw
          case rel => exact ⟨i + 1, _, by omega, by go_num, hnx⟩
          case measure => simp [intOf]; omega
        · simp only [Nat.reducePow] at hor hnx ho1
          replace e3 : (i : Int).tmod 4 = 1 := by rw [Int.tmod_eq_emod_of_nonneg i0]; omega
          have w8 : IntKind.i64.wrap 8 = 8 := by decide
          have w9 : IntKind.i64.wrap (8 * 1) = 8 := by decide
          generalize hz : o + _ = z at hor hnx
          have e4 : bits BinOp.or IntKind.u32 (o : Int) ((c : Int) * 256) = (z : Int) := by
            rw [show ((c : Int) * 256 : Int) = ((c * 256 : Nat) : Int) by omega, u32_or_nat _ _ (by omega) (by omega), hor]
          have e5 : IntKind.u32.wrap ((c : Int) * 256) = (c : Int) * 256 := by rw [IntKind.wrap_u32]; omega
          clear hz hor ho1
          go_upto_region 7 with fail
          go_still_tail 19, (by kernel_rfl)
          change wpList _ _ _ _ _ wr.drew
          go_wp2_with fail
          go_roundw
          case rel => exact ⟨i + 1, _, by omega, by go_num, hnx⟩
          case measure => simp [intOf]; omega
        · simp only [Nat.reducePow] at hor hnx ho1
          replace e3 : (i : Int).tmod 4 = 2 := by rw [Int.tmod_eq_emod_of_nonneg i0]; omega
          have w8 : IntKind.i64.wrap 16 = 16 := by decide
          have w9 : IntKind.i64.wrap (8 * 2) = 16 := by decide
          generalize hz : o + _ = z at hor hnx
          have e4 : bits BinOp.or IntKind.u32 (o : Int) ((c : Int) * 65536) = (z : Int) := by
            rw [show ((c : Int) * 65536 : Int) = ((c * 65536 : Nat) : Int) by omega, u32_or_nat _ _ (by omega) (by omega), hor]
          have e5 : IntKind.u32.wrap ((c : Int) * 65536) = (c : Int) * 65536 := by rw [IntKind.wrap_u32]; omega
          clear hz hor ho1
          go_upto_region 7 with fail
          go_still_tail 19, (by kernel_rfl)
          change wpList _ _ _ _ _ wr.drew
          go_wp2_with fail
          go_roundw
          case rel => exact ⟨i + 1, _, by omega, by go_num, hnx⟩
          case measure => simp [intOf]; omega
        · simp only [Nat.reducePow] at hor hnx ho1
          replace e3 : (i : Int).tmod 4 = 3 := by rw [Int.tmod_eq_emod_of_nonneg i0]; omega
          have w8 : IntKind.i64.wrap 24 = 24 := by decide
          have w9 : IntKind.i64.wrap (8 * 3) = 24 := by decide
          generalize hz : o + _ = z at hor hnx
          have e4 : bits BinOp.or IntKind.u32 (o : Int) ((c : Int) * 16777216) = (z : Int) := by
            rw [show ((c : Int) * 16777216 : Int) = ((c * 16777216 : Nat) : Int) by omega, u32_or_nat _ _ (by omega) (by omega), hor]
          have e5 : IntKind.u32.wrap ((c : Int) * 16777216) = (c : Int) * 16777216 := by rw [IntKind.wrap_u32]; omega
          clear hz hor ho1
          go_upto_region 7 with fail
          go_still_tail 19, (by kernel_rfl)
          change wpList _ _ _ _ _ wr.drew
          go_wp2_with fail
          go_roundw
          case rel => exact ⟨i + 1, _, by omega, by go_num, hnx⟩
          case measure => simp [intOf]; omega
      · obtain rfl : i = n := by omega
        have hv := hR.val
        rw [hxn.out] at hv
        have hS := hR.s
        have hSl := hR.len
        have hSb := hR.lt
        have kb := hR.bx
        have hB2 := hR.m
        have htr := trim_any (some ⟨w.heap.size + 1, 0, none⟩) m S wr hS hSb (by omega)
        rw [hSl, hv] at htr
        clear hR hv hget hxn hSl
        go_wp2_with fail
        refine htr.mono ?_
        clear htr
        rintro r w3 ⟨q3, c3, rfl, hN, hb3, hq3⟩
        have k3 := Boxed.below' kb hb3 kb.lt
        have hB3 := hB2.trans (hb3.mono hB2.size)
        have hf3 : ∀ a, q3 = some a → a.block = w.heap.size + 1 := by
          rintro a rfl
          rcases hq3 with h | h
          · cases h
          · cases h; rfl
        have c4 := k3.cell
        have f4 := k3.frozen
        clear kb hB2 hb3 hq3 hS hSb
        go_wp2_with fail
        have c5 := (k3.set (.slice q3 (lb x).length c3)).cell
        refine bodyPost_ret (v := .tuple #[.agg #[.slice q3 (lb x).length c3], .bool true]) (by simp [results, Tryd.results20, go_sem, c5]) rfl ⟨q3, c3, rfl, ?_, ?_, fun a e => by have := hf3 a e; omega⟩
        · exact hN.other ⟨w.heap.size, 0, none⟩ _ (fun a e => by have := hf3 a e; show a.block ≠ w.heap.size; omega)
        · exact hB3.setCell (p := ⟨w.heap.size, 0, none⟩) (Nat.le_refl _) _
  · obtain ⟨v0, hv0⟩ : ∃ v, s[0]'h0 = v := ⟨_, rfl⟩
    rw [hv0] at hne0
    have hne1 : ((v0.toNat : Int) == 0) = false := by rw [beq_eq_false_iff_ne]; intro e; exact hne0 (UInt8.toNat_inj.1 (by show v0.toNat = 0; omega))
    clear hne0
    go_enter Tryd.func20, Tryd.ntmps20
    go_wp2_with (first | (at_make; refine wpList_make32 rfl _ _ rfl m _ _ rfl rfl (by go_num) (by go_num) (by omega) ?_; intro W1 hS1 hb1 hl1; have hR0 : FroR w (w.alloc (.cells #[.slice none 0 0] 26)).heap.size m x 0 _ W1 := ⟨hS1, by simp, by intro z hz; rw [List.eq_of_mem_replicate hz]; decide, by rw [vl_zeros]; simp [Nat.mod_one], Boxed.below' kB hb1 kB.lt, hB.trans (hb1.mono (by simp))⟩) | fail)
    clear hS1 hb1 hl1 kB hB hb d1 d2 d3
    rw [World.size_alloc] at hR0
    go_loopw [27] (fun s27 wr => ∃ (i : Nat) (S : List Nat), i ≤ n ∧ s27 = .int .i64 (i : Int) ∧ FroR w (w.heap.size + 1) m x i S wr) (fun i _ => n - (intOf i).toNat)
    case atStart => exact ⟨0, _, by omega, rfl, hR0⟩
    case round =>
      clear hR0
      obtain ⟨i, S, hi, rfl, hR⟩ := hrel
      by_cases hin : i < n
      · obtain ⟨j, hj⟩ : ∃ j, i + j + 1 = n := ⟨n - 1 - i, by omega⟩
        have hjs : j < s.size := by omega
        obtain ⟨cv, hcv⟩ : ∃ v, s[j]'hjs = v := ⟨_, rfl⟩
        have hcx := hget.out i j hjs hj
        rw [hcv] at hcx
        obtain ⟨c, hc⟩ : ∃ c, cv.toNat = c := ⟨_, rfl⟩
        rw [hc] at hcx
        have hc256 : c < 256 := by rw [← hc]; exact cv.toNat_lt
        have hql : i / 4 < S.length := by rw [hR.len]; omega
        have hnx := hR.next (by omega) hql c hcx
        obtain ⟨q, hq⟩ : ∃ q, q = i / 4 := ⟨_, rfl⟩
        obtain ⟨r, hr⟩ : ∃ r, r = i % 4 := ⟨_, rfl⟩
        simp only [← hq, ← hr] at hnx hql
        have cS := hR.s.cell q hql
        have fS := hR.s.froz q
        obtain ⟨o, ho⟩ : ∃ o, o = S[q] := ⟨_, rfl⟩
        rw [← ho] at hnx cS
        obtain ⟨ho1, hnx⟩ := hnx
        have hor := or_byte o c r ho1
        have e1 : (n : Int) - 1 - (i : Int) = (j : Int) := by omega
        have e2 : (i : Int) / 4 = (q : Int) := by omega
        have e3 : (i : Int) % 4 = (r : Int) := by omega
        have i0 : (0 : Int) ≤ i := by omega
        have i1 : (i : Int) < n := by omega
        have q0 : (0 : Int) ≤ q := by omega
        have q1 : (q : Int) < m := by omega
        have j1 : (j : Int) < n := by omega
        have j2 : (0 : Int) ≤ j := by omega
        have hmix : Tryd.prog.follows .mixedOrders = true := by kernel_rfl
        have hr4 : r = 0 ∨ r = 1 ∨ r = 2 ∨ r = 3 := by omega
        have hn9 : n ≤ 160 := hl160
        have wq : IntKind.i64.wrap (q : Int) = q := by rw [IntKind.wrap_i64]; omega
        have wj : IntKind.i64.wrap (j : Int) = j := by rw [IntKind.wrap_i64]; omega
        have wn : IntKind.i64.wrap ((n : Int) - 1) = (n : Int) - 1 := by rw [IntKind.wrap_i64]; omega
        have qt : (q : Int).toNat = q := by omega
        clear hR hget hcx hj hq hr ho
        rcases hr4 with rfl | rfl | rfl | rfl
        · simp only [Nat.reducePow, Nat.mul_one] at hor hnx ho1
          replace e3 : (i : Int).tmod 4 = 0 := by rw [Int.tmod_eq_emod_of_nonneg i0]; omega
          have w8 : IntKind.i64.wrap 0 = 0 := by decide
          have w9 : IntKind.i64.wrap (8 * 0) = 0 := by decide
          generalize hz : o + _ = z at hor hnx
          have e4 : bits BinOp.or IntKind.u32 (o : Int) ((c : Int)) = (z : Int) := by
            rw [show ((c : Int) : Int) = ((c : Nat) : Int) by omega, u32_or_nat _ _ (by omega) (by omega), hor]
          have e5 : IntKind.u32.wrap ((c : Int)) = (c : Int) := by rw [IntKind.wrap_u32]; omega
          clear hz hor ho1
          go_upto_region 7 with fail
          go_still_tail 19, (by kernel_rfl)
          change wpList _ _ _ _ _ wr.drew
          go_wp2_with fail
          go_roundw
          case rel => exact ⟨i + 1, _, by omega, by go_num, hnx⟩
          case measure => simp [intOf]; omega
        · simp only [Nat.reducePow] at hor hnx ho1
          replace e3 : (i : Int).tmod 4 = 1 := by rw [Int.tmod_eq_emod_of_nonneg i0]; omega
          have w8 : IntKind.i64.wrap 8 = 8 := by decide
          have w9 : IntKind.i64.wrap (8 * 1) = 8 := by decide
          generalize hz : o + _ = z at hor hnx
          have e4 : bits BinOp.or IntKind.u32 (o : Int) ((c : Int) * 256) = (z : Int) := by
            rw [show ((c : Int) * 256 : Int) = ((c * 256 : Nat) : Int) by omega, u32_or_nat _ _ (by omega) (by omega), hor]
          have e5 : IntKind.u32.wrap ((c : Int) * 256) = (c : Int) * 256 := by rw [IntKind.wrap_u32]; omega
          clear hz hor ho1
          go_upto_region 7 with fail
          go_still_tail 19, (by kernel_rfl)
          change wpList _ _ _ _ _ wr.drew
          go_wp2_with fail
          go_roundw
          case rel => exact ⟨i + 1, _, by omega, by go_num, hnx⟩
          case measure => simp [intOf]; omega
        · simp only [Nat.reducePow] at hor hnx ho1
          replace e3 : (i : Int).tmod 4 = 2 := by rw [Int.tmod_eq_emod_of_nonneg i0]; omega
          have w8 : IntKind.i64.wrap 16 = 16 := by decide
          have w9 : IntKind.i64.wrap (8 * 2) = 16 := by decide
          generalize hz : o + _ = z at hor hnx
          have e4 : bits BinOp.or IntKind.u32 (o : Int) ((c : Int) * 65536) = (z : Int) := by
            rw [show ((c : Int) * 65536 : Int) = ((c * 65536 : Nat) : Int) by omega, u32_or_nat _ _ (by omega) (by omega), hor]
          have e5 : IntKind.u32.wrap ((c : Int) * 65536) = (c : Int) * 65536 := by rw [IntKind.wrap_u32]; omega
          clear hz hor ho1
          go_upto_region 7 with fail
          go_still_tail 19, (by kernel_rfl)
          change wpList _ _ _ _ _ wr.drew
          go_wp2_with fail
          go_roundw
          case rel => exact ⟨i + 1, _, by omega, by go_num, hnx⟩
          case measure => simp [intOf]; omega
        · simp only [Nat.reducePow] at hor hnx ho1
          replace e3 : (i : Int).tmod 4 = 3 := by rw [Int.tmod_eq_emod_of_nonneg i0]; omega
          have w8 : IntKind.i64.wrap 24 = 24 := by decide
          have w9 : IntKind.i64.wrap (8 * 3) = 24 := by decide
          generalize hz : o + _ = z at hor hnx
          have e4 : bits BinOp.or IntKind.u32 (o : Int) ((c : Int) * 16777216) = (z : Int) := by
            rw [show ((c : Int) * 16777216 : Int) = ((c * 16777216 : Nat) : Int) by omega, u32_or_nat _ _ (by omega) (by omega), hor]
          have e5 : IntKind.u32.wrap ((c : Int) * 16777216) = (c : Int) * 16777216 := by rw [IntKind.wrap_u32]; omega
          clear hz hor ho1
          go_upto_region 7 with fail
          go_still_tail 19, (by kernel_rfl)
          change wpList _ _ _ _ _ wr.drew
          go_wp2_with fail
          go_roundw
          case rel => exact ⟨i + 1, _, by omega, by go_num, hnx⟩
          case measure => simp [intOf]; omega
      · obtain rfl : i = n := by omega
        have hv := hR.val
        rw [hxn.out] at hv
        have hS := hR.s
        have hSl := hR.len
        have hSb := hR.lt
        have kb := hR.bx
        have hB2 := hR.m
        have htr := trim_any (some ⟨w.heap.size + 1, 0, none⟩) m S wr hS hSb (by omega)
        rw [hSl, hv] at htr
        clear hR hv hget hxn hSl
        go_wp2_with fail
        refine htr.mono ?_
        clear htr
        rintro r w3 ⟨q3, c3, rfl, hN, hb3, hq3⟩
        have k3 := Boxed.below' kb hb3 kb.lt
        have hB3 := hB2.trans (hb3.mono hB2.size)
        have hf3 : ∀ a, q3 = some a → a.block = w.heap.size + 1 := by
          rintro a rfl
          rcases hq3 with h | h
          · cases h
          · cases h; rfl
        have c4 := k3.cell
        have f4 := k3.frozen
        clear kb hB2 hb3 hq3 hS hSb
        go_wp2_with fail
        have c5 := (k3.set (.slice q3 (lb x).length c3)).cell
        refine bodyPost_ret (v := .tuple #[.agg #[.slice q3 (lb x).length c3], .bool true]) (by simp [results, Tryd.results20, go_sem, c5]) rfl ⟨q3, c3, rfl, ?_, ?_, fun a e => by have := hf3 a e; omega⟩
        · exact hN.other ⟨w.heap.size, 0, none⟩ _ (fun a e => by have := hf3 a e; show a.block ≠ w.heap.size; omega)
        · exact hB3.setCell (p := ⟨w.heap.size, 0, none⟩) (Nat.le_refl _) _
end Go.Proofs.YtdahkemeoefndaaDoor.NN

namespace Go.Proofs.YtdahkemeoefndaaDoor
open Go

/-- How many of the first n are not listed yet. -/
def unl (L : Array Bool) : Nat → Nat
  | 0 => 0
  | n + 1 => unl L n + (if L.getD n true then 0 else 1)
theorem unl_le (L : Array Bool) : ∀ n, unl L n ≤ n
  | 0 => Nat.le_refl _
  | n + 1 => by have := unl_le L n; simp only [unl]; split <;> omega
theorem set_self (L : Array Bool) (i : Nat) : (L.setIfInBounds i true).getD i true = true := by
  by_cases h : i < L.size
  · simp [h]
  · simp [h]
theorem unl_set (L : Array Bool) (i : Nat) (hi : L.getD i true = false) : ∀ n, unl (L.setIfInBounds i true) n + (if i < n then 1 else 0) = unl L n
  | 0 => rfl
  | n + 1 => by
    have ih := unl_set L i hi n
    simp only [unl]
    by_cases h : n = i
    · subst h
      rw [set_self, hi]
      simp at ih ⊢
      exact ih
    · rw [getD_set_ne true (Ne.symm h)]
      generalize (if L.getD n true = true then 0 else 1) = z
      by_cases h2 : i < n
      · rw [if_pos h2] at ih; rw [if_pos (by omega)]; omega
      · rw [if_neg h2] at ih; rw [if_neg (by omega)]; omega
theorem unl_pos (L : Array Bool) : ∀ n i, i < n → L.getD i true = false → 0 < unl L n
  | n + 1, i, h, hi => by
    simp only [unl]
    by_cases e : i = n
    · subst e; rw [hi]; simp
    · have := unl_pos L n i (by omega) hi; omega

/-- What is in the slots that the operations know: those of the list. -/
def AllV (V : Tmp → Value → World → Prop) (a : Act) (w : World) : List Tmp → Prop
  | [] => True
  | t :: r => V t (a.eval (.tmp t)) w ∧ AllV V a w r
theorem AllV.of {V : Tmp → Value → World → Prop} {a : Act} {w : World} : ∀ {l : List Tmp}, (∀ t ∈ l, V t (a.eval (.tmp t)) w) → AllV V a w l
  | [], _ => trivial
  | t :: r, h => ⟨h t (by simp), AllV.of (fun u hu => h u (by simp [hu]))⟩

/-- The slots whose values an operation waits for. -/
def waits (md : Region.Mode) (ops : Array Oper) (o : Oper) : List Tmp :=
  (o.after.toList.filter (Region.binds md)).filterMap fun e => (ops[e.on]?).bind (·.dst)

structure Agree (ops : Array Oper) (a0 a : Act) : Prop where
  size : a.tmps.size = a0.tmps.size
  defers : a.defers = a0.defers
  same : ∀ t, (∀ (i : Nat) (o : Oper), ops[i]? = some o → o.dst ≠ some t) → a.eval (.tmp t) = a0.eval (.tmp t)

def drawOk (ops : Array Oper) (N : Nat) : Bool :=
  (List.range ops.size).all fun i => match ops[i]? with
    | none => true
    | some o => o.after.all (fun e => decide (e.on < i)) && (match o.dst with
      | none => true
      | some d => decide (d < N) && (List.range ops.size).all fun j => j == i || (match ops[j]? with | some p => p.dst != some d | none => true))

structure DrawOk (ops : Array Oper) (N : Nat) : Prop where
  before : ∀ (i : Nat) (o : Oper), ops[i]? = some o → ∀ e ∈ o.after, e.on < i
  room : ∀ (i : Nat) (o : Oper) (d : Tmp), ops[i]? = some o → o.dst = some d → d < N
  apart : ∀ (i j : Nat) (o p : Oper) (d : Tmp), ops[i]? = some o → ops[j]? = some p → j ≠ i → o.dst = some d → p.dst ≠ some d
theorem drawOk_spec {ops : Array Oper} {N : Nat} (h : drawOk ops N = true) : DrawOk ops N := by
  have key : ∀ (i : Nat) (o : Oper), ops[i]? = some o → o.after.all (fun e => decide (e.on < i)) = true ∧ (match o.dst with
      | none => true
      | some d => decide (d < N) && (List.range ops.size).all fun j => j == i || (match ops[j]? with | some p => p.dst != some d | none => true)) = true := by
    intro i o ho
    have hlt : i < ops.size := (Array.getElem?_eq_some_iff.1 ho).1
    have := List.all_eq_true.1 h i (List.mem_range.2 hlt)
    simp only [ho, Bool.and_eq_true] at this
    exact this
  refine ⟨fun i o ho e he => ?_, fun i o d ho hd => ?_, fun i j o p d ho hp hj hd hpd => ?_⟩
  · have := Array.all_eq_true_iff_forall_mem.1 (key i o ho).1 e he
    exact of_decide_eq_true this
  · have := (key i o ho).2
    rw [hd] at this
    simp only [Bool.and_eq_true] at this
    exact of_decide_eq_true this.1
  · have := (key i o ho).2
    rw [hd] at this
    simp only [Bool.and_eq_true] at this
    have h2 := List.all_eq_true.1 this.2 j (List.mem_range.2 (Array.getElem?_eq_some_iff.1 hp).1)
    simp only [hp, Bool.or_eq_true, beq_iff_eq, hj, false_or, bne_iff_ne, ne_eq] at h2
    exact h2 hpd

/-- What one operation owes. -/
def Owes (P : Program) (md : Region.Mode) (ops : Array Oper) (Q : Exit → Act → World → Prop) (V : Tmp → Value → World → Prop) (G : World → Prop) (a0 : Act) (i : Nat) (o : Oper) : Prop :=
  ∀ a w, Agree ops a0 a → G w → AllV V a w (waits md ops o) →
    wpOp P ops Q i (fun a' w' => ∃ v, a' = a.put o.dst v ∧ (∀ t, o.dst = some t → V t v w') ∧ G w' ∧ ∀ t x, V t x w → V t x w') a w

theorem eval_put_same {a : Act} {d : Tmp} (h : d < a.tmps.size) (v : Value) : (a.put (some d) v).eval (.tmp d) = v := by
  simp [Act.put, Act.eval, h]
theorem size_put (a : Act) (d : Option Tmp) (v : Value) : (a.put d v).tmps.size = a.tmps.size := by
  cases d <;> simp [Act.put]
theorem defers_put (a : Act) (d : Option Tmp) (v : Value) : (a.put d v).defers = a.defers := by
  cases d <;> rfl

section
variable {P : Program} {ops : Array Oper} {Q : Exit → Act → World → Prop} {md : Region.Mode} {V : Tmp → Value → World → Prop} {G : World → Prop} {a0 : Act}

theorem ready_some (hok : DrawOk ops a0.tmps.size) {L : Array Bool} (hL : L.size = ops.size) : ∀ i, i < ops.size → L.getD i true = false → ∃ j, j ∈ Region.ready md ops L := by
  intro i
  induction i using Nat.strongRecOn with
  | ind i ih =>
    intro hi hun
    have ho : ops[i]? = some ops[i] := Array.getElem?_eq_getElem hi
    by_cases h : ∀ e ∈ ops[i].after, Region.binds md e = true → L.getD e.on false = true
    · exact ⟨i, mem_ready.2 ⟨hun, _, ho, h⟩⟩
    · have ⟨e, he⟩ := Classical.not_forall.1 h
      have ⟨he1, he2⟩ := Classical.not_imp.1 he
      have ⟨hb, hf⟩ := Classical.not_imp.1 he2
      have hlt := hok.before i _ ho e he1
      have hel : e.on < L.size := by omega
      refine ih e.on hlt (by omega) ?_
      simp [hel] at hf ⊢
      exact hf

theorem wpAny_vals (hok : DrawOk ops a0.tmps.size) (step : ∀ (i : Nat) (o : Oper), ops[i]? = some o → Owes P md ops Q V G a0 i o)
    (fin : ∀ a w, Agree ops a0 a → G w → (∀ (i : Nat) (o : Oper) (t : Tmp), ops[i]? = some o → o.dst = some t → V t (a.eval (.tmp t)) w) → Q .normal a w) :
    ∀ (fuel : Nat) (L : Array Bool) (a : Act) (w : World), unl L ops.size ≤ fuel → L.size = ops.size → Agree ops a0 a → G w →
      (∀ (i : Nat) (o : Oper) (t : Tmp), ops[i]? = some o → L.getD i true = true → o.dst = some t → V t (a.eval (.tmp t)) w) → wpAny P md ops Q fuel L a w := by
  have allL : ∀ L : Array Bool, L.size = ops.size → Region.ready md ops L = [] → ∀ (i : Nat) (o : Oper), ops[i]? = some o → L.getD i true = true := by
    intro L hL hr i o ho
    cases hc : L.getD i true with
    | true => rfl
    | false =>
      obtain ⟨j, hj⟩ := ready_some (md := md) hok hL i (Array.getElem?_eq_some_iff.1 ho).1 hc
      rw [hr] at hj; cases hj
  intro fuel
  induction fuel with
  | zero =>
    intro L a w hu hL ha hG hv
    have hr : Region.ready md ops L = [] := by
      apply List.eq_nil_iff_forall_not_mem.2
      intro j hj
      obtain ⟨hun, o, ho, _⟩ := mem_ready.1 hj
      have := unl_pos L ops.size j (Array.getElem?_eq_some_iff.1 ho).1 hun
      omega
    exact ⟨hr, fin a w ha hG (fun i o t ho ht => hv i o t ho (allL L hL hr i o ho) ht)⟩
  | succ fuel ih =>
    intro L a w hu hL ha hG hv
    refine ⟨fun hr => fin a w ha hG (fun i o t ho ht => hv i o t ho (allL L hL hr i o ho) ht), fun i hi => ?_⟩
    obtain ⟨hun, o, ho, hall⟩ := mem_ready.1 hi
    have hil : i < ops.size := (Array.getElem?_eq_some_iff.1 ho).1
    have hw : AllV V a w (waits md ops o) := AllV.of (by
      intro t ht
      unfold waits at ht
      obtain ⟨e, he, hd⟩ := List.mem_filterMap.1 ht
      obtain ⟨he1, he2⟩ := List.mem_filter.1 he
      cases hj : ops[e.on]? with
      | none => rw [hj] at hd; cases hd
      | some p =>
        rw [hj] at hd
        have hl := hall e (by simpa using he1) he2
        have hel : e.on < L.size := by rw [hL]; exact (Array.getElem?_eq_some_iff.1 hj).1
        exact hv e.on p t hj (by simp [hel] at hl ⊢; exact hl) hd)
    refine wpOp_mono (fun a' w' h => ?_) (step i o ho a w ha hG hw)
    obtain ⟨v, rfl, hvi, hG', hst⟩ := h
    refine ih _ _ _ ?_ (by simpa using hL) ?_ hG' ?_
    · have := unl_set L i hun ops.size
      rw [if_pos hil] at this; omega
    · refine ⟨by rw [size_put]; exact ha.size, by rw [defers_put]; exact ha.defers, fun t ht => ?_⟩
      rw [Act.eval_put (fun d hd e => ht i o ho (by cases e; exact hd))]
      exact ha.same t ht
    · intro j p t hp hl ht
      by_cases e : j = i
      · subst e
        rw [ho] at hp; cases hp
        rw [ht, eval_put_same (by rw [ha.size]; exact hok.room j o t ho ht)]
        exact hvi t ht
      · rw [Act.eval_put (fun d hd e2 => by cases e2; exact hok.apart i j o p t ho hp e hd ht)]
        rw [getD_set_ne true (Ne.symm e)] at hl
        exact hst _ _ (hv j p t hp hl ht)

/-- The obligations one after the other. -/
def OweAll (P : Program) (md : Region.Mode) (ops : Array Oper) (Q : Exit → Act → World → Prop) (V : Tmp → Value → World → Prop) (G : World → Prop) (a0 : Act) : Nat → List Oper → Prop
  | _, [] => True
  | k, o :: r => Owes P md ops Q V G a0 k o ∧ OweAll P md ops Q V G a0 (k + 1) r
theorem OweAll.get : ∀ {l : List Oper} {k : Nat}, OweAll P md ops Q V G a0 k l → ∀ (i : Nat) (o : Oper), l[i]? = some o → Owes P md ops Q V G a0 (k + i) o
  | _ :: _, k, h, 0, o, hi => by cases hi; exact h.1
  | _ :: r, k, h, i + 1, o, hi => by
    have := OweAll.get h.2 i o (by simpa using hi)
    rwa [show k + 1 + i = k + (i + 1) by omega] at this
  | [], _, _, i, o, hi => by simp at hi
theorem OweAll.cons {k : Nat} {o : Oper} {r : List Oper} (h : Owes P md ops Q V G a0 k o) (h2 : OweAll P md ops Q V G a0 (k + 1) r) : OweAll P md ops Q V G a0 k (o :: r) := ⟨h, h2⟩
theorem OweAll.nil {k : Nat} : OweAll P md ops Q V G a0 k [] := trivial

/-- A region that draws its order. -/
theorem wp_region_vals {id : Nat} {w : World} (V : Tmp → Value → World → Prop) (G : World → Prop) (N : Nat) (hm : P.follows .mixedOrders = true) (hok : drawOk ops N = true) (hN : a0.tmps.size = N) (hG : G w.drew)
    (step : OweAll P .any ops Q V G a0 0 ops.toList)
    (fin : ∀ a w, Agree ops a0 a → G w → (∀ (i : Nat) (o : Oper) (t : Tmp), ops[i]? = some o → o.dst = some t → V t (a.eval (.tmp t)) w) → Q .normal a w) : (Code.region id ops true).wp P Q a0 w := by
  subst hN
  have hok := drawOk_spec hok
  refine wp_region_any hm (wpAny_vals hok (V := V) (G := G) (fun i o ho => ?_) fin ops.size _ a0 _ (unl_le _ _) (by simp) ⟨rfl, rfl, fun _ _ => rfl⟩ hG ?_)
  · have := step.get i o (by simpa using ho)
    rwa [Nat.zero_add] at this
  · intro i o t ho hl _
    have hlt := (Array.getElem?_eq_some_iff.1 ho).1
    simp [hlt] at hl

/-- The slots of the operations. -/
def dsts (ops : Array Oper) : List Tmp := ops.toList.filterMap (·.dst)
def puts (f : Tmp → Value) (l : List Tmp) (b : Act) : Act := l.foldl (fun b t => b.put (some t) (f t)) b
theorem puts_spec (f : Tmp → Value) : ∀ (l : List Tmp) (b : Act), (∀ t ∈ l, t < b.tmps.size) →
    (puts f l b).tmps.size = b.tmps.size ∧ (puts f l b).defers = b.defers ∧ ∀ t, (puts f l b).eval (.tmp t) = if t ∈ l then f t else b.eval (.tmp t)
  | [], b, _ => ⟨rfl, rfl, fun t => by simp [puts]⟩
  | u :: r, b, h => by
    have ih := puts_spec f r (b.put (some u) (f u)) (fun t ht => by rw [size_put]; exact h t (by simp [ht]))
    refine ⟨ih.1.trans (size_put _ _ _), ih.2.1.trans (defers_put _ _ _), fun t => ?_⟩
    have e : puts f (u :: r) b = puts f r (b.put (some u) (f u)) := rfl
    rw [e, ih.2.2 t]
    by_cases h1 : t ∈ r
    · rw [if_pos h1, if_pos (by simp [h1])]
    · rw [if_neg h1]
      by_cases h2 : t = u
      · subst h2; rw [eval_put_same (h t (by simp)), if_pos (by simp)]
      · rw [Act.eval_put (fun d hd e2 => by cases hd; cases e2; exact h2 rfl), if_neg (by simp [h1, h2])]
theorem act_ext {a b : Act} (hs : a.tmps.size = b.tmps.size) (hd : a.defers = b.defers) (h : ∀ t, a.eval (.tmp t) = b.eval (.tmp t)) : a = b := by
  obtain ⟨ta, da⟩ := a
  obtain ⟨tb, db⟩ := b
  have : ta = tb := by
    apply Array.ext hs
    intro i h1 h2
    have := h i
    simpa [Act.eval, h1, h2] using this
  subst this
  cases hd
  rfl
theorem Agree.puts {a : Act} (ha : Agree ops a0 a) (hok : DrawOk ops a0.tmps.size) : a = puts (fun t => a.eval (.tmp t)) (dsts ops) a0 := by
  have hm : ∀ t ∈ dsts ops, ∃ (i : Nat) (o : Oper), ops[i]? = some o ∧ o.dst = some t := by
    intro t ht
    obtain ⟨o, ho, hd⟩ := List.mem_filterMap.1 ht
    obtain ⟨i, hi, e⟩ := List.getElem_of_mem ho
    refine ⟨i, o, ?_, hd⟩
    rw [← e]
    simp at hi
    simp [hi]
  have hp := puts_spec (fun t => a.eval (.tmp t)) (dsts ops) a0 (fun t ht => by obtain ⟨i, o, hi, hd⟩ := hm t ht; exact hok.room i o t hi hd)
  refine act_ext (ha.size.trans hp.1.symm) (ha.defers.trans hp.2.1.symm) (fun t => ?_)
  rw [hp.2.2 t]
  by_cases h : t ∈ dsts ops
  · rw [if_pos h]
  · rw [if_neg h]
    refine ha.same t (fun i o hi hd => h ?_)
    exact List.mem_filterMap.2 ⟨o, by simpa using Array.mem_of_getElem? hi, hd⟩

/-- A region that draws its order, what follows it at a known frame. -/
theorem wp_region_puts {id : Nat} {w : World} (V : Tmp → Value → World → Prop) (G : World → Prop) (N : Nat) (hm : P.follows .mixedOrders = true) (hok : drawOk ops N = true) (hN : a0.tmps.size = N) (hG : G w.drew)
    (step : OweAll P .any ops Q V G a0 0 ops.toList)
    (fin : ∀ f w, G w → (∀ (i : Nat) (o : Oper) (t : Tmp), ops[i]? = some o → o.dst = some t → V t (f t) w) → Q .normal (puts f (dsts ops) a0) w) : (Code.region id ops true).wp P Q a0 w :=
  wp_region_vals V G N hm hok hN hG step (fun a w ha hG hv => by
    subst hN
    rw [ha.puts (drawOk_spec hok)]
    exact fin _ w hG hv)

theorem AllV.get {a : Act} {w : World} : ∀ {l : List Tmp}, AllV V a w l → ∀ t, l.contains t = true → V t (a.eval (.tmp t)) w
  | [], _, t, h => by simp at h
  | u :: r, hh, t, h => by
    by_cases e : t = u
    · subst e; exact hh.1
    · exact AllV.get hh.2 t (by simpa [e] using h)
theorem Agree.outer {a : Act} (h : Agree ops a0 a) (t : Tmp) (ht : ops.all (fun o => o.dst != some t) = true) : a.eval (.tmp t) = a0.eval (.tmp t) := by
  refine h.same t (fun i o ho e => ?_)
  have := Array.all_eq_true_iff_forall_mem.1 ht o (Array.mem_of_getElem? ho)
  rw [e] at this; simp at this
theorem getD_bool {a : Act} {t : Tmp} {b : Bool} (h : a.eval (.tmp t) = .bool b) : a.tmps[t]? = some (.bool b) := by
  unfold Act.eval at h
  cases hc : a.tmps[t]? with
  | none => simp [hc, undef] at h
  | some x => simp [hc] at h; rw [h]
theorem wanted_of {o : Oper} {a : Act} {g : Nat} {want : Bool} {t : Tmp} (hg : o.guard = some (g, want)) (hd : (ops[g]?).bind (·.dst) = some t) (h : a.eval (.tmp t) = .bool want) : Region.wanted o (yielded ops a.tmps) = true := by
  unfold Region.wanted yielded
  rw [hg]
  simp only [hd, Option.bind_some, getD_bool h]
  simp
theorem wanted_free {o : Oper} {a : Act} (hg : o.guard = none) : Region.wanted o (yielded ops a.tmps) = true := by
  unfold Region.wanted; rw [hg]

/-- An operation that yields a value and turns nothing. -/
theorem owes_val {i : Nat} {o : Oper} {t : Tmp} (hi : ops[i]? = some o) (ht : o.dst = some t) (h : ∀ a w, Agree ops a0 a → G w → AllV V a w (waits md ops o) →
    ∃ v, Region.wanted o (yielded ops a.tmps) = true ∧ (execOp a.eval o).run P w = .ok (.value v) w ∧ V t v w) : Owes P md ops Q V G a0 i o := by
  intro a w ha hG hV
  obtain ⟨v, hw, hr, hv⟩ := h a w ha hG hV
  unfold wpOp
  rw [hi]
  simp only [hw, if_true, Oper.wp, hr, Oper.upon]
  exact .inl ⟨v, rfl, fun u hu => by rw [ht] at hu; cases hu; exact hv, hG, fun _ _ h => h⟩
/-- A call. -/
theorem owes_call {i : Nat} {o : Oper} {t : Tmp} (hi : ops[i]? = some o) (ht : o.dst = some t) (f : FuncId) (h : ∀ a w, Agree ops a0 a → G w → AllV V a w (waits md ops o) →
    ∃ args, Region.wanted o (yielded ops a.tmps) = true ∧ (execOp a.eval o).run P w = .ok (.enter f args) w ∧
      Calls P f args w fun e w' => ∃ v, e = .returned v ∧ V t v w' ∧ G w' ∧ ∀ t x, V t x w → V t x w') : Owes P md ops Q V G a0 i o := by
  intro a w ha hG hV
  obtain ⟨args, hw, hr, hc⟩ := h a w ha hG hV
  unfold wpOp
  rw [hi]
  simp only [hw, if_true, Oper.wp, hr, Oper.upon]
  refine .inl (hc.mono ?_)
  rintro e w' ⟨v, rfl, h1, h2, h3⟩
  exact ⟨v, rfl, fun u hu => by rw [ht] at hu; cases hu; exact h1, h2, h3⟩
end
end Go.Proofs.YtdahkemeoefndaaDoor

namespace Go.Proofs.YtdahkemeoefndaaDoor
open Go.RowKit

/-- What stays where nothing below turns. -/
structure Stays where
  p : Value → World → Prop
  old : ∀ {v : Value} {w w' : World}, p v w → Below w.heap.size w w' → p v w'
inductive Kd where
  | any
  | eq (v : Value)
  | st (s : Stays)
def VK : Kd → Value → World → Prop
  | .any, _, _ => True
  | .eq x, v, _ => v = x
  | .st s, v, w => s.p v w
theorem VK.old {k : Kd} {v : Value} {w w' : World} (h : VK k v w) (hb : Below w.heap.size w w') : VK k v w' := by
  cases k with
  | any => trivial
  | eq x => exact h
  | st s => exact s.old h hb
theorem not_wanted {ops : Array Oper} {o : Oper} {a : Act} {g : Nat} {want : Bool} {t : Tmp} {v : Value} (hg : o.guard = some (g, want)) (hd : (ops[g]?).bind (·.dst) = some t) (h : a.eval (.tmp t) = v) (hv : v ≠ .bool want) : Region.wanted o (yielded ops a.tmps) = false := by
  unfold Region.wanted yielded
  rw [hg]
  simp only [hd, Option.bind_some]
  unfold Act.eval at h
  cases hc : a.tmps[t]? with
  | none => rfl
  | some x =>
    simp [hc] at h
    subst h
    cases x with
    | bool b =>
      simp only [beq_eq_false_iff_ne, ne_eq, Option.some.injEq]
      intro e; exact hv (by rw [e])
    | _ => rfl
section
variable {P : Program} {ops : Array Oper} {Q : Exit → Act → World → Prop} {md : Region.Mode} {K : Tmp → Kd} {W : World} {a0 : Act}
/-- An operation that is not wanted. -/
theorem owesK_not {i : Nat} {o : Oper} {t : Tmp} (hi : ops[i]? = some o) (ht : o.dst = some t)
    (h : ∀ a w, Agree ops a0 a → Below W.heap.size W w → AllV (fun t v w => VK (K t) v w) a w (waits md ops o) → Region.wanted o (yielded ops a.tmps) = false ∧ VK (K t) undef w) : Owes P md ops Q (fun t v w => VK (K t) v w) (fun w => Below W.heap.size W w) a0 i o := by
  intro a w ha hG hV
  obtain ⟨hw, hv⟩ := h a w ha hG hV
  unfold wpOp
  rw [hi]
  simp only [hw]
  exact ⟨undef, rfl, fun u hu => by rw [ht] at hu; cases hu; exact hv, hG, fun _ _ h => h⟩
/-- An operation that yields a value, and may make memory. -/
theorem owesK {i : Nat} {o : Oper} {t : Tmp} (hi : ops[i]? = some o) (ht : o.dst = some t) (h : ∀ a w, Agree ops a0 a → Below W.heap.size W w → AllV (fun t v w => VK (K t) v w) a w (waits md ops o) →
    ∃ v w', Region.wanted o (yielded ops a.tmps) = true ∧ (execOp a.eval o).run P w = .ok (.value v) w' ∧ Below w.heap.size w w' ∧ VK (K t) v w') : Owes P md ops Q (fun t v w => VK (K t) v w) (fun w => Below W.heap.size W w) a0 i o := by
  intro a w ha hG hV
  obtain ⟨v, w', hw, hr, hb, hv⟩ := h a w ha hG hV
  unfold wpOp
  rw [hi]
  simp only [hw, if_true, Oper.wp, hr, Oper.upon]
  exact .inl ⟨v, rfl, fun u hu => by rw [ht] at hu; cases hu; exact hv, hG.trans (hb.mono hG.size), fun _ _ h => VK.old h hb⟩
/-- A call. -/
theorem owesK_call {i : Nat} {o : Oper} {t : Tmp} (hi : ops[i]? = some o) (ht : o.dst = some t) (f : FuncId) (h : ∀ a w, Agree ops a0 a → Below W.heap.size W w → AllV (fun t v w => VK (K t) v w) a w (waits md ops o) →
    ∃ args, Region.wanted o (yielded ops a.tmps) = true ∧ (execOp a.eval o).run P w = .ok (.enter f args) w ∧
      Calls P f args w fun e w' => ∃ v, e = .returned v ∧ VK (K t) v w' ∧ Below w.heap.size w w') : Owes P md ops Q (fun t v w => VK (K t) v w) (fun w => Below W.heap.size W w) a0 i o := by
  intro a w ha hG hV
  obtain ⟨args, hw, hr, hc⟩ := h a w ha hG hV
  unfold wpOp
  rw [hi]
  simp only [hw, if_true, Oper.wp, hr, Oper.upon]
  refine .inl (hc.mono ?_)
  rintro e w' ⟨v, rfl, h1, hb⟩
  exact ⟨v, rfl, fun u hu => by rw [ht] at hu; cases hu; exact h1, hG.trans (hb.mono hG.size), fun _ _ h => VK.old h hb⟩
end
end Go.Proofs.YtdahkemeoefndaaDoor

namespace Go.Proofs.YtdahkemeoefndaaDoor
open Go

/-- Each of the chain waits for the one ahead of it. -/
def chainOk (md : Region.Mode) (ops : Array Oper) (C : List Nat) : Bool :=
  (List.range C.length).all fun m => match C[m]?, C[m + 1]? with
    | some i, some j => (match ops[j]? with | some p => p.after.any (fun e => Region.binds md e && e.on == i) | none => false)
    | _, _ => true
/-- Operation j waits for i, by n edges at most. -/
def reach (md : Region.Mode) (ops : Array Oper) : Nat → Nat → Nat → Bool
  | 0, _, _ => false
  | n + 1, j, i => match ops[j]? with
    | some p => p.after.any (fun e => Region.binds md e && (e.on == i || reach md ops n e.on i))
    | none => false
/-- The chain's place b waits for operation i (or there is no such place). -/
def aheadOf (md : Region.Mode) (ops : Array Oper) (C : List Nat) (i b : Nat) : Bool :=
  b == C.length || (match C[b]? with
    | some j => reach md ops 16 j i
    | none => false)

/-- Only slots of the operations turn; that of a chain's operation that isn't done yet hasn't. -/
structure AgreeC (ops : Array Oper) (C : List Nat) (k : Nat) (a0 a : Act) : Prop extends Agree ops a0 a where
  kp : ∀ (m i : Nat) (o : Oper) (t : Tmp), k ≤ m → C[m]? = some i → ops[i]? = some o → o.dst = some t → a.eval (.tmp t) = a0.eval (.tmp t)

section
variable {P : Program} {ops : Array Oper} {Q : Exit → Act → World → Prop} {md : Region.Mode} {V : Tmp → Value → Prop} {G : Nat → Value → World → Prop} {C : List Nat} {a0 : Act}

/-- What one operation owes while k of the chain are done, k' behind it. -/
def OwesAt (P : Program) (md : Region.Mode) (ops : Array Oper) (Q : Exit → Act → World → Prop) (V : Tmp → Value → Prop) (G : Nat → Value → World → Prop) (C : List Nat) (a0 : Act) (i : Nat) (o : Oper) (k : Nat) : Prop :=
  ∀ a w x, AgreeC ops C k a0 a → G k x w → AllV (fun t v _ => V t v) a w (waits md ops o) →
    wpOp P ops Q i (fun a' w' => ∃ v, a' = a.put o.dst v ∧ (∀ t, o.dst = some t → V t v) ∧ G k x w') a w
/-- The slot of the chain's last one that is done holds x. -/
def Holds' (ops : Array Oper) (C : List Nat) (a : Act) (k : Nat) (x : Value) : Prop := ∀ (m i : Nat) (o : Oper) (t : Tmp), k = m + 1 → C[m]? = some i → ops[i]? = some o → o.dst = some t → a.eval (.tmp t) = x
/-- What the chain's operation m owes. -/
def OwesIn (P : Program) (md : Region.Mode) (ops : Array Oper) (Q : Exit → Act → World → Prop) (V : Tmp → Value → Prop) (G : Nat → Value → World → Prop) (C : List Nat) (a0 : Act) (i : Nat) (o : Oper) (m : Nat) : Prop :=
  ∀ a w x, AgreeC ops C m a0 a → G m x w → Holds' ops C a m x → AllV (fun t v _ => V t v) a w (waits md ops o) →
    wpOp P ops Q i (fun a' w' => ∃ v, a' = a.put o.dst v ∧ (∀ t, o.dst = some t → V t v) ∧ G (m + 1) v w') a w
def OwesC (P : Program) (md : Region.Mode) (ops : Array Oper) (Q : Exit → Act → World → Prop) (V : Tmp → Value → Prop) (G : Nat → Value → World → Prop) (C : List Nat) (a0 : Act) (i : Nat) (o : Oper) : Prop :=
  (∃ m, C[m]? = some i ∧ OwesIn P md ops Q V G C a0 i o m) ∨ (C.contains i = false ∧ ∃ b, aheadOf md ops C i b = true ∧ ∀ k, k ≤ b → OwesAt P md ops Q V G C a0 i o k)

theorem any_edge {md : Region.Mode} {p : Oper} {i : Nat} (h : p.after.any (fun e => Region.binds md e && e.on == i) = true) : ∃ e ∈ p.after, Region.binds md e = true ∧ e.on = i := by
  obtain ⟨j, hj, h1⟩ := Array.any_iff_exists.1 h
  obtain ⟨_, _, h2⟩ := h1
  rw [Bool.and_eq_true, beq_iff_eq] at h2
  exact ⟨_, Array.getElem_mem _, h2.1, h2.2⟩
theorem chain_edge {m i j : Nat} {p : Oper} (h : chainOk md ops C = true) (hi : C[m]? = some i) (hj : C[m + 1]? = some j) (hp : ops[j]? = some p) : ∃ e ∈ p.after, Region.binds md e = true ∧ e.on = i := by
  have := List.all_eq_true.1 h m (List.mem_range.2 (List.getElem?_eq_some_iff.1 hi).1)
  simp only [hi, hj, hp] at this
  exact any_edge this

theorem reach_done {L : Array Bool} (cl : ∀ (i : Nat) (o : Oper), ops[i]? = some o → L.getD i true = true → ∀ e ∈ o.after, Region.binds md e = true → L.getD e.on false = true) :
    ∀ (n j i : Nat), reach md ops n j i = true → L.getD j true = true → L.getD i false = true
  | 0, _, _, h, _ => by cases h
  | n + 1, j, i, h, hl => by
    unfold reach at h
    cases hp : ops[j]? with
    | none => rw [hp] at h; cases h
    | some p =>
      rw [hp] at h
      obtain ⟨q, _, h1⟩ := Array.any_iff_exists.1 h
      obtain ⟨_, _, h2⟩ := h1
      rw [Bool.and_eq_true, Bool.or_eq_true, beq_iff_eq] at h2
      have h3 := cl j p hp hl _ (Array.getElem_mem _) h2.1
      rcases h2.2 with e | hr
      · rw [← e]; exact h3
      · refine reach_done cl n _ i hr ?_
        have : p.after[q].on < L.size := by
          apply Nat.lt_of_not_le; intro hle
          simp [Array.getElem?_eq_none hle] at h3
        simp [this] at h3 ⊢
        exact h3
theorem getD_tf {L : Array Bool} {n i : Nat} (hL : L.size = n) (hi : i < n) : L.getD i true = L.getD i false := by
  simp [show i < L.size by omega]
theorem getD_set_at {L : Array Bool} {i : Nat} (hi : i < L.size) (d : Bool) : (L.setIfInBounds i true).getD i d = true := by simp [hi]
theorem getD_set_ne' {L : Array Bool} {i j : Nat} (h : j ≠ i) (d : Bool) : (L.setIfInBounds i true).getD j d = L.getD j d := by
  have := Ne.symm h
  simp [Array.getD_eq_getD_getElem?, this]

/-- What is known while the region goes. -/
structure ChainAt (md : Region.Mode) (ops : Array Oper) (V : Tmp → Value → Prop) (G : Nat → Value → World → Prop) (C : List Nat) (a0 : Act) (L : Array Bool) (a : Act) (w : World) (k : Nat) (x : Value) : Prop where
  g : G k x w
  ho : Holds' ops C a k x
  le : k ≤ C.length
  ch : ∀ (m i : Nat), C[m]? = some i → (L.getD i true = true ↔ m < k)
  cl : ∀ (i : Nat) (o : Oper), ops[i]? = some o → L.getD i true = true → ∀ e ∈ o.after, Region.binds md e = true → L.getD e.on false = true
  ag : Agree ops a0 a
  kp : ∀ (i : Nat) (o : Oper) (t : Tmp), ops[i]? = some o → L.getD i true = false → o.dst = some t → a.eval (.tmp t) = a0.eval (.tmp t)
  v : ∀ (i : Nat) (o : Oper) (t : Tmp), ops[i]? = some o → L.getD i true = true → o.dst = some t → V t (a.eval (.tmp t))

theorem ChainAt.agc {L : Array Bool} {a : Act} {w : World} {k : Nat} {x : Value} (h : ChainAt md ops V G C a0 L a w k x) : AgreeC ops C k a0 a :=
  ⟨h.ag, fun m i o t hm hi ho ht => h.kp i o t ho (by
    cases hl : L.getD i true with
    | false => rfl
    | true => exact absurd ((h.ch m i hi).1 hl) (by omega)) ht⟩
theorem wpAny_chain (hok : DrawOk ops a0.tmps.size) (hch : chainOk md ops C = true) (hnd : C.Nodup) (hCl : ∀ i ∈ C, i < ops.size) (step : ∀ (i : Nat) (o : Oper), ops[i]? = some o → OwesC P md ops Q V G C a0 i o)
    (fin : ∀ a w x, Agree ops a0 a → G C.length x w → Holds' ops C a C.length x → (∀ (i : Nat) (o : Oper) (t : Tmp), ops[i]? = some o → o.dst = some t → V t (a.eval (.tmp t))) → Q .normal a w) :
    ∀ (fuel : Nat) (L : Array Bool) (a : Act) (w : World) (k : Nat) (x : Value), unl L ops.size ≤ fuel → L.size = ops.size → ChainAt md ops V G C a0 L a w k x → wpAny P md ops Q fuel L a w := by
  have allL : ∀ L : Array Bool, L.size = ops.size → Region.ready md ops L = [] → ∀ (i : Nat) (o : Oper), ops[i]? = some o → L.getD i true = true := by
    intro L hL hr i o ho
    cases hc : L.getD i true with
    | true => rfl
    | false =>
      obtain ⟨j, hj⟩ := ready_some (md := md) hok hL i (Array.getElem?_eq_some_iff.1 ho).1 hc
      rw [hr] at hj; cases hj
  have done : ∀ (L : Array Bool) (a : Act) (w : World) (k : Nat) (x : Value), L.size = ops.size → ChainAt md ops V G C a0 L a w k x → Region.ready md ops L = [] → Q .normal a w := by
    intro L a w k x hL h hr
    have hk : k = C.length := by
      refine Nat.le_antisymm h.le (Nat.le_of_not_lt fun hlt => ?_)
      have hm : C[k]? = some C[k] := List.getElem?_eq_getElem hlt
      have hi := hCl _ (List.getElem_mem hlt)
      exact Nat.lt_irrefl _ ((h.ch k _ hm).1 (allL L hL hr _ _ (Array.getElem?_eq_getElem hi)))
    subst hk
    exact fin a w x h.ag h.g h.ho (fun i o t ho ht => h.v i o t ho (allL L hL hr i o ho) ht)
  intro fuel
  induction fuel with
  | zero =>
    intro L a w k x hu hL h
    have hr : Region.ready md ops L = [] := by
      apply List.eq_nil_iff_forall_not_mem.2
      intro j hj
      obtain ⟨hun, o, ho, _⟩ := mem_ready.1 hj
      have := unl_pos L ops.size j (Array.getElem?_eq_some_iff.1 ho).1 hun
      omega
    exact ⟨hr, done L a w k x hL h hr⟩
  | succ fuel ih =>
    intro L a w k x hu hL h
    refine ⟨fun hr => done L a w k x hL h hr, fun i hi => ?_⟩
    obtain ⟨hun, o, ho, hall⟩ := mem_ready.1 hi
    have hil : i < ops.size := (Array.getElem?_eq_some_iff.1 ho).1
    have hw : AllV (fun t v _ => V t v) a w (waits md ops o) := AllV.of (by
      intro t ht
      unfold waits at ht
      obtain ⟨e, he, hd⟩ := List.mem_filterMap.1 ht
      obtain ⟨he1, he2⟩ := List.mem_filter.1 he
      cases hj : ops[e.on]? with
      | none => rw [hj] at hd; cases hd
      | some p =>
        rw [hj] at hd
        have hl := hall e (by simpa using he1) he2
        exact h.v e.on p t hj (by rw [getD_tf hL (Array.getElem?_eq_some_iff.1 hj).1]; exact hl) hd)
    -- what follows, with k' of the chain done
    have next : ∀ (k' : Nat) (y : Value → Value), k' ≤ C.length → (∀ v, Holds' ops C (a.put o.dst v) k' (y v)) → (∀ (m j : Nat), C[m]? = some j → ((L.setIfInBounds i true).getD j true = true ↔ m < k')) →
        wpOp P ops Q i (fun a' w' => ∃ v, a' = a.put o.dst v ∧ (∀ t, o.dst = some t → V t v) ∧ G k' (y v) w') a w → wpOp P ops Q i (fun a' w' => wpAny P md ops Q fuel (L.setIfInBounds i true) a' w') a w := by
      intro k' y hk' hho hch' hop
      refine wpOp_mono (fun a' w' hh => ?_) hop
      obtain ⟨v, rfl, hvi, hG'⟩ := hh
      refine ih _ _ _ k' (y v) ?_ (by simpa using hL) ⟨hG', hho v, hk', hch', ?_, ?_, ?_, ?_⟩
      · have := unl_set L i hun ops.size
        rw [if_pos hil] at this; omega
      · intro j p hp hl e he hb
        by_cases hji : j = i
        · subst hji
          rw [ho] at hp; cases hp
          have := hall e he hb
          by_cases hei : e.on = j
          · rw [hei, getD_set_at (by omega)]
          · rw [getD_set_ne' hei]; exact this
        · rw [getD_set_ne' hji] at hl
          have := h.cl j p hp hl e he hb
          by_cases hei : e.on = i
          · rw [hei, getD_set_at (by omega)]
          · rw [getD_set_ne' hei]; exact this
      · refine ⟨by rw [size_put]; exact h.ag.size, by rw [defers_put]; exact h.ag.defers, fun t ht => ?_⟩
        rw [Act.eval_put (fun d hd e => ht i o ho (by cases e; exact hd))]
        exact h.ag.same t ht
      · intro j p t hp hl ht
        have e : j ≠ i := by
          rintro rfl
          rw [getD_set_at (by omega)] at hl; cases hl
        rw [Act.eval_put (fun d hd e2 => by cases e2; exact hok.apart i j o p t ho hp e hd ht)]
        rw [getD_set_ne' e] at hl
        exact h.kp j p t hp hl ht
      · intro j p t hp hl ht
        by_cases e : j = i
        · subst e
          rw [ho] at hp; cases hp
          rw [ht, eval_put_same (by rw [h.ag.size]; exact hok.room j o t ho ht)]
          exact hvi t ht
        · rw [Act.eval_put (fun d hd e2 => by cases e2; exact hok.apart i j o p t ho hp e hd ht)]
          rw [getD_set_ne' e] at hl
          exact h.v j p t hp hl ht
    rcases step i o ho with ⟨m, hm, hop⟩ | ⟨hni, b, hb, hop⟩
    · have hmk : m = k := by
        have h1 : ¬ m < k := fun hlt => by rw [(h.ch m i hm).2 hlt] at hun; cases hun
        have h2 : m ≤ k := by
          cases m with
          | zero => exact Nat.zero_le _
          | succ m =>
            have hlt : m < C.length := by have := (List.getElem?_eq_some_iff.1 hm).1; omega
            have hj : C[m]? = some C[m] := List.getElem?_eq_getElem hlt
            obtain ⟨e, he, hbd, hon⟩ := chain_edge hch hj hm ho
            have := hall e he hbd
            rw [hon] at this
            exact (h.ch m _ hj).1 (by rw [getD_tf hL (hCl _ (List.getElem_mem hlt))]; exact this)
        omega
      subst hmk
      have hmlt : m < C.length := (List.getElem?_eq_some_iff.1 hm).1
      refine next (m + 1) (fun v => v) hmlt ?_ ?_ (hop a w x h.agc h.g h.ho hw)
      · intro v m2 j p t hm2 hj hp ht
        obtain rfl : m2 = m := by omega
        rw [hm] at hj; cases hj
        rw [ho] at hp; cases hp
        rw [ht, eval_put_same (by rw [h.ag.size]; exact hok.room i o t ho ht)]
      intro m2 j hj
      by_cases hji : j = i
      · subst hji
        have : m2 = m := by
          obtain ⟨l2, e2⟩ := List.getElem?_eq_some_iff.1 hj
          obtain ⟨l1, e1⟩ := List.getElem?_eq_some_iff.1 hm
          exact (List.getElem_inj hnd).1 (e2.trans e1.symm)
        subst this
        rw [getD_set_at (by omega)]
        exact ⟨fun _ => Nat.lt_succ_self _, fun _ => rfl⟩
      · rw [getD_set_ne' hji, h.ch m2 j hj]
        have : m2 ≠ m := by
          rintro rfl
          rw [hm] at hj; cases hj; exact hji rfl
        omega
    · have hkb : k ≤ b := by
        unfold aheadOf at hb
        rw [Bool.or_eq_true, beq_iff_eq] at hb
        rcases hb with rfl | hb
        · exact h.le
        · cases hj : C[b]? with
          | none => rw [hj] at hb; cases hb
          | some j =>
            rw [hj] at hb
            simp only at hb
            refine Nat.le_of_not_lt fun hlt => ?_
            have := reach_done h.cl 16 j i hb ((h.ch b j hj).2 hlt)
            rw [← getD_tf hL hil, hun] at this
            cases this
      refine next k (fun _ => x) h.le ?_ ?_ (hop k hkb a w x h.agc h.g hw)
      · intro v m2 j p t hm2 hj hp ht
        have hji : j ≠ i := by
          rintro rfl
          have := List.mem_of_getElem? hj
          rw [List.contains_eq_mem, decide_eq_false_iff_not] at hni
          exact hni this
        rw [Act.eval_put (fun d hd e2 => by cases e2; exact hok.apart i j o p t ho hp hji hd ht)]
        exact h.ho m2 j p t hm2 hj hp ht
      intro m2 j hj
      have hji : j ≠ i := by
        rintro rfl
        have := List.mem_of_getElem? hj
        rw [List.contains_eq_mem, decide_eq_false_iff_not] at hni
        exact hni this
      rw [getD_set_ne' hji, h.ch m2 j hj]

/-- The obligations one after the other. -/
def OweAllC (P : Program) (md : Region.Mode) (ops : Array Oper) (Q : Exit → Act → World → Prop) (V : Tmp → Value → Prop) (G : Nat → Value → World → Prop) (C : List Nat) (a0 : Act) : Nat → List Oper → Prop
  | _, [] => True
  | k, o :: r => OwesC P md ops Q V G C a0 k o ∧ OweAllC P md ops Q V G C a0 (k + 1) r
theorem OweAllC.get : ∀ {l : List Oper} {k : Nat}, OweAllC P md ops Q V G C a0 k l → ∀ (i : Nat) (o : Oper), l[i]? = some o → OwesC P md ops Q V G C a0 (k + i) o
  | _ :: _, k, h, 0, o, hi => by cases hi; exact h.1
  | _ :: r, k, h, i + 1, o, hi => by
    have := OweAllC.get h.2 i o (by simpa using hi)
    rwa [show k + 1 + i = k + (i + 1) by omega] at this
  | [], _, _, i, o, hi => by simp at hi
theorem OweAllC.cons {k : Nat} {o : Oper} {r : List Oper} (h : OwesC P md ops Q V G C a0 k o) (h2 : OweAllC P md ops Q V G C a0 (k + 1) r) : OweAllC P md ops Q V G C a0 k (o :: r) := ⟨h, h2⟩
theorem OweAllC.nil {k : Nat} : OweAllC P md ops Q V G C a0 k [] := trivial

theorem wp_region_chain {id : Nat} {w : World} (V : Tmp → Value → Prop) (G : Nat → Value → World → Prop) (C : List Nat) (N : Nat) (hm : P.follows .mixedOrders = true) (hok : drawOk ops N = true) (hN : a0.tmps.size = N)
    (hch : chainOk .any ops C = true) (hnd : decide C.Nodup = true) (hCl : C.all (· < ops.size) = true) (hG : G 0 undef w.drew)
    (step : OweAllC P .any ops Q V G C a0 0 ops.toList)
    (fin : ∀ f w x, G C.length x w → (∀ (m i : Nat) (o : Oper) (t : Tmp), C.length = m + 1 → C[m]? = some i → ops[i]? = some o → o.dst = some t → f t = x) → (∀ (i : Nat) (o : Oper) (t : Tmp), ops[i]? = some o → o.dst = some t → V t (f t)) → Q .normal (puts f (dsts ops) a0) w) : (Code.region id ops true).wp P Q a0 w := by
  subst hN
  have hok := drawOk_spec hok
  have hCl' : ∀ i ∈ C, i < ops.size := fun i hi => by simpa using List.all_eq_true.1 hCl i hi
  have hL0 : ∀ i, i < ops.size → (Array.replicate ops.size false).getD i true = false := fun i hi => by simp [hi]
  refine wp_region_any hm (wpAny_chain (V := V) (G := G) (C := C) hok hch (of_decide_eq_true hnd) hCl' (fun i o ho => ?_) (fun a w x ha hg hh hv => ?_) ops.size _ a0 _ 0 undef (unl_le _ _) (by simp) ⟨hG, (fun m i o t h => by omega), Nat.zero_le _, ?_, ?_, ⟨rfl, rfl, fun _ _ => rfl⟩, (fun _ _ _ _ _ _ => rfl), ?_⟩)
  · have := step.get i o (by simpa using ho)
    rwa [Nat.zero_add] at this
  · rw [ha.puts hok]
    exact fin _ w x hg hh hv
  · intro m i hi
    have := hCl' i (List.mem_of_getElem? hi)
    rw [hL0 i this]
    simp
  · intro i o ho hl
    rw [hL0 i (Array.getElem?_eq_some_iff.1 ho).1] at hl; cases hl
  · intro i o t ho hl _
    rw [hL0 i (Array.getElem?_eq_some_iff.1 ho).1] at hl; cases hl

/-- An operation beside the chain that yields a value and turns nothing. -/
theorem owesC_val {i : Nat} {o : Oper} {t : Tmp} (b : Nat) (hb : aheadOf md ops C i b = true) (hni : C.contains i = false) (hi : ops[i]? = some o) (ht : o.dst = some t)
    (h : ∀ k a w x, k ≤ b → AgreeC ops C k a0 a → G k x w → AllV (fun t v _ => V t v) a w (waits md ops o) → ∃ v, Region.wanted o (yielded ops a.tmps) = true ∧ (execOp a.eval o).run P w = .ok (.value v) w ∧ V t v) : OwesC P md ops Q V G C a0 i o := by
  refine .inr ⟨hni, b, hb, fun k hk a w x ha hG hV => ?_⟩
  obtain ⟨v, hw, hr, hv⟩ := h k a w x hk ha hG hV
  unfold wpOp
  rw [hi]
  simp only [hw, if_true, Oper.wp, hr, Oper.upon]
  exact .inl ⟨v, rfl, fun u hu => by rw [ht] at hu; cases hu; exact hv, hG⟩
/-- A call beside the chain. -/
theorem owesC_side {i : Nat} {o : Oper} {t : Tmp} (b : Nat) (hb : aheadOf md ops C i b = true) (hni : C.contains i = false) (hi : ops[i]? = some o) (ht : o.dst = some t) (f : FuncId)
    (h : ∀ k a w x, k ≤ b → AgreeC ops C k a0 a → G k x w → AllV (fun t v _ => V t v) a w (waits md ops o) → ∃ args, Region.wanted o (yielded ops a.tmps) = true ∧ (execOp a.eval o).run P w = .ok (.enter f args) w ∧
      Calls P f args w fun e w' => ∃ v, e = .returned v ∧ V t v ∧ G k x w') : OwesC P md ops Q V G C a0 i o := by
  refine .inr ⟨hni, b, hb, fun k hk a w x ha hG hV => ?_⟩
  obtain ⟨args, hw, hr, hc⟩ := h k a w x hk ha hG hV
  unfold wpOp
  rw [hi]
  simp only [hw, if_true, Oper.wp, hr, Oper.upon]
  refine .inl (hc.mono ?_)
  rintro e w' ⟨v, rfl, h1, h2⟩
  exact ⟨v, rfl, fun u hu => by rw [ht] at hu; cases hu; exact h1, h2⟩
/-- A call of the chain. -/
theorem owesC_call {i : Nat} {o : Oper} {t : Tmp} (m : Nat) (hm : C[m]? = some i) (hi : ops[i]? = some o) (ht : o.dst = some t) (f : FuncId)
    (h : ∀ a w x, AgreeC ops C m a0 a → G m x w → Holds' ops C a m x → AllV (fun t v _ => V t v) a w (waits md ops o) → ∃ args, Region.wanted o (yielded ops a.tmps) = true ∧ (execOp a.eval o).run P w = .ok (.enter f args) w ∧
      Calls P f args w fun e w' => ∃ v, e = .returned v ∧ V t v ∧ G (m + 1) v w') : OwesC P md ops Q V G C a0 i o := by
  refine .inl ⟨m, hm, fun a w x ha hG hh hV => ?_⟩
  obtain ⟨args, hw, hr, hc⟩ := h a w x ha hG hh hV
  unfold wpOp
  rw [hi]
  simp only [hw, if_true, Oper.wp, hr, Oper.upon]
  refine .inl (hc.mono ?_)
  rintro e w' ⟨v, rfl, h1, h2⟩
  exact ⟨v, rfl, fun u hu => by rw [ht] at hu; cases hu; exact h1, h2⟩
/-- An operation of the chain that yields a value and turns memory. -/
theorem owesC_mem {i : Nat} {o : Oper} {t : Tmp} (m : Nat) (hm : C[m]? = some i) (hi : ops[i]? = some o) (ht : o.dst = some t)
    (h : ∀ a w x, AgreeC ops C m a0 a → G m x w → Holds' ops C a m x → AllV (fun t v _ => V t v) a w (waits md ops o) → ∃ v w', Region.wanted o (yielded ops a.tmps) = true ∧ (execOp a.eval o).run P w = .ok (.value v) w' ∧ V t v ∧ G (m + 1) v w') : OwesC P md ops Q V G C a0 i o := by
  refine .inl ⟨m, hm, fun a w x ha hG hh hV => ?_⟩
  obtain ⟨v, w', hw, hr, h1, h2⟩ := h a w x ha hG hh hV
  unfold wpOp
  rw [hi]
  simp only [hw, if_true, Oper.wp, hr, Oper.upon]
  exact .inl ⟨v, rfl, fun u hu => by rw [ht] at hu; cases hu; exact h1, h2⟩
/-- A store of the chain. -/
theorem owesC_store {i : Nat} {o : Oper} (m : Nat) (hm : C[m]? = some i) (hi : ops[i]? = some o) (ht : o.dst = none)
    (h : ∀ a w x, AgreeC ops C m a0 a → G m x w → Holds' ops C a m x → AllV (fun t v _ => V t v) a w (waits md ops o) → ∃ w', Region.wanted o (yielded ops a.tmps) = true ∧ (execOp a.eval o).run P w = .ok .skip w' ∧ G (m + 1) undef w') : OwesC P md ops Q V G C a0 i o := by
  refine .inl ⟨m, hm, fun a w x ha hG hh hV => ?_⟩
  obtain ⟨w', hw, hr, h2⟩ := h a w x ha hG hh hV
  unfold wpOp
  rw [hi]
  simp only [hw, if_true, Oper.wp, hr, Oper.upon]
  exact .inl ⟨undef, rfl, fun u hu => (by rw [ht] at hu; cases hu), h2⟩
/-- An operation of the chain by its own law (an append). -/
theorem owesC_law {i : Nat} {o : Oper} (m : Nat) (hm : C[m]? = some i) (hi : ops[i]? = some o)
    (h : ∀ a w x, AgreeC ops C m a0 a → G m x w → Holds' ops C a m x → AllV (fun t v _ => V t v) a w (waits md ops o) → Region.wanted o (yielded ops a.tmps) = true ∧
      ∀ K : Act → World → Prop, (∀ v w', (∀ t, o.dst = some t → V t v) → G (m + 1) v w' → K (a.put o.dst v) w') → o.wp P a w K Q) : OwesC P md ops Q V G C a0 i o := by
  refine .inl ⟨m, hm, fun a w x ha hG hh hV => ?_⟩
  obtain ⟨hw, hl⟩ := h a w x ha hG hh hV
  unfold wpOp
  rw [hi]
  simp only [hw, if_true]
  exact .inl (hl _ (fun v w' h1 h2 => ⟨v, rfl, h1, h2⟩))
end
end Go.Proofs.YtdahkemeoefndaaDoor
namespace Go.Proofs.YtdahkemeoefndaaDoor
open Go
/-- A slot is written, by an operation of no region. -/
def mv (t : Tmp) (v : Value) : Oper := { dst := some t, op := .move (.const v), type := 0, pos := "", after := #[], guard := none }
theorem moves_back {P : Program} {ops : Array Oper} {Q : Exit → Act → World → Prop} (f : Tmp → Value) : ∀ (l : List Tmp) (a : Act) (w : World), wpList P ops Q (l.map fun t => mv t (f t)) a w → Q .normal (puts f l a) w
  | [], _, _, h => h
  | t :: r, a, w, h => by
    refine moves_back (P := P) (ops := ops) f r (a.put (some t) (f t)) w ?_
    rw [List.map_cons, wpList] at h
    have hw : Region.wanted (mv t (f t)) (yielded ops a.tmps) = true := rfl
    rw [if_pos hw] at h
    rcases h with h | h
    · unfold Oper.wp at h
      have he : (execOp a.eval (mv t (f t))).run P w = .ok (.value (f t)) w := rfl
      rw [he] at h
      exact h
    · exfalso
      have he : ((execOp a.eval (mv t (f t))).runT P w #[]).2 = #[] := rfl
      have h1 := h.1.1
      rw [he] at h1
      simp at h1
end Go.Proofs.YtdahkemeoefndaaDoor
