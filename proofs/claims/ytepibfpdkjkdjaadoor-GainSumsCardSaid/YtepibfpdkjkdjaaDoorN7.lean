import Derived.Test.YtepibfpdkjkdjaaDoorN6
namespace Go.Proofs.YtepibfpdkjkdjaaDoor
open Go.RowKit Go.Shelf
attribute [local go_sem] Oper.semAt_some

/-- -1, 0, 1. -/
def cmpI (x y : Nat) : Int := if x < y then -1 else if y < x then 1 else 0
theorem len_lt {x y : Nat} (h : (lb x).length < (lb y).length) : x < y := by
  apply Nat.lt_of_not_le; intro hle
  have := dg_len_mono 4294967296 (by decide) hle
  change (lb y).length ≤ (lb x).length at this
  omega
/-- One limb more from above. -/
theorem high_step {x y i : Nat} (h : x / 4294967296 ^ (i + 1) = y / 4294967296 ^ (i + 1)) :
    (x / 4294967296 ^ i % 4294967296 < y / 4294967296 ^ i % 4294967296 → x < y) ∧ (y / 4294967296 ^ i % 4294967296 < x / 4294967296 ^ i % 4294967296 → y < x) ∧ (x / 4294967296 ^ i % 4294967296 = y / 4294967296 ^ i % 4294967296 → x / 4294967296 ^ i = y / 4294967296 ^ i) := by
  have hx : 4294967296 * (x / 4294967296 ^ (i + 1)) + x / 4294967296 ^ i % 4294967296 = x / 4294967296 ^ i := by rw [Nat.pow_succ, ← Nat.div_div_eq_div_mul]; exact Nat.div_add_mod _ _
  have hy : 4294967296 * (y / 4294967296 ^ (i + 1)) + y / 4294967296 ^ i % 4294967296 = y / 4294967296 ^ i := by rw [Nat.pow_succ, ← Nat.div_div_eq_div_mul]; exact Nat.div_add_mod _ _
  have mono : ∀ a b : Nat, a / 4294967296 ^ i < b / 4294967296 ^ i → a < b := by
    intro a b hab; apply Nat.lt_of_not_le; intro hle; have := Nat.div_le_div_right (c := 4294967296 ^ i) hle; omega
  have m1 := mono x y
  have m2 := mono y x
  rw [h] at hx
  generalize y / 4294967296 ^ (i + 1) = c at *
  generalize x / 4294967296 ^ i % 4294967296 = dx at *
  generalize y / 4294967296 ^ i % 4294967296 = dy at *
  generalize x / 4294967296 ^ i = a at *
  generalize y / 4294967296 ^ i = b at *
  exact ⟨fun hl => m1 (by omega), fun hl => m2 (by omega), fun he => by omega⟩

/-- The memory of a comparison. -/
def CmpW (w : World) (B N n cp cq x y : Nat) (p q : Option Addr) (res : Int) (W : World) : Prop :=
  NatIn W p cp x ∧ NatIn W q cq y ∧ Boxed W N 25 (.slice p n cp) ∧ Boxed W (N + 1) 25 (.slice q n cq) ∧ Boxed W (N + 1 + 1) 3 (.int .i64 res) ∧ Boxed W (N + 1 + 1 + 1) 23 (.slice p n cp) ∧ Below w.heap.size w W ∧ B ≤ W.heap.size
theorem CmpW.step {w : World} {B N n cp cq x y : Nat} {p q : Option Addr} {res : Int} {W W' : World} (h : CmpW w B N n cp cq x y p q res W) (hm : Mod (fun i => B ≤ i) W W') (hN : N = w.heap.size) (hB : N + 4 ≤ B) (hp : ∀ a, p = some a → a.block < B) (hq : ∀ a, q = some a → a.block < B) : CmpW w B N n cp cq x y p q res W' := by
  obtain ⟨h1, h2, h3, h4, h5, h6, h7, h8⟩ := h
  exact ⟨h1.kept hm (fun a e => by have := hp a e; omega), h2.kept hm (fun a e => by have := hq a e; omega), Boxed.mod' h3 hm (by omega), Boxed.mod' h4 hm (by omega), Boxed.mod' h5 hm (by omega), Boxed.mod' h6 hm (by omega),
    h7.trans (hm.to_below (by have := h7.size; omega) (by intro k hk h; omega)), Nat.le_trans h8 hm.size⟩
theorem CmpW.put {w : World} {B N n cp cq x y : Nat} {p q : Option Addr} {res : Int} {W : World} (h : CmpW w B N n cp cq x y p q res W) (hN : N = w.heap.size) (hB : N + 4 ≤ B) (hp : ∀ a, p = some a → a.block < N) (hq : ∀ a, q = some a → a.block < N) (r2 : Int) :
    KeepsFrom B W (W.setCell ⟨N + 1 + 1, 0, none⟩ (.int .i64 r2)) ∧ CmpW w B N n cp cq x y p q r2 (W.setCell ⟨N + 1 + 1, 0, none⟩ (.int .i64 r2)) := by
  obtain ⟨h1, h2, h3, h4, h5, h6, h7, h8⟩ := h
  have hm : Mod (fun i => i = N + 1 + 1) W (W.setCell ⟨N + 1 + 1, 0, none⟩ (.int .i64 r2)) := (Mod.refl (fun i => i = N + 1 + 1) W).setCell (p := ⟨N + 1 + 1, 0, none⟩) (fun _ => rfl) _
  exact ⟨⟨hm.size, fun j o hj hk _ => (hm.block j (Array.getElem?_eq_some_iff.1 hk).1 (by omega)).trans hk⟩,
    h1.kept hm (fun a e => by have := hp a e; omega), h2.kept hm (fun a e => by have := hq a e; omega), Boxed.mod' h3 hm (by omega), Boxed.mod' h4 hm (by omega), h5.set _, Boxed.mod' h6 hm (by omega),
    h7.setCell (p := ⟨N + 1 + 1, 0, none⟩) (by show w.heap.size ≤ N + 1 + 1; omega) _, Nat.le_trans h8 hm.size⟩
def CmpI (w : World) (B N n cp cq x y : Nat) (p q : Option Addr) (k : Nat) (W : World) : Prop :=
  x / 4294967296 ^ (n - k) = y / 4294967296 ^ (n - k) ∧ CmpW w B N n cp cq x y p q 0 W
def CmpX (w : World) (B N n cp cq x y : Nat) (p q : Option Addr) (c : Code) (_ : Nat) (W : World) : Prop :=
  c = .ret ∧ CmpW w B N n cp cq x y p q (cmpI x y) W

set_option maxHeartbeats 1000000 in
theorem cmp_len (p q : Option Addr) (cp cq x y : Nat) (w : World) (hne : (lb x).length ≠ (lb y).length) :
    Calls Tryd.prog 26 #[.agg #[.slice p (lb x).length cp], .agg #[.slice q (lb y).length cq]] w fun r w' => r = .returned (.int .i64 (cmpI x y)) ∧ Below w.heap.size w w' := by
  rcases Nat.lt_or_gt_of_ne hne with hlt | hlt
  · have e : cmpI x y = -1 := by have := len_lt hlt; unfold cmpI; rw [if_pos this]
    rw [e]
    go_enter Tryd.func26, Tryd.ntmps26
    go_wp2_with fail
    refine bodyPost_ret (v := .int .i64 (-1)) (by simp [results, Tryd.results26, go_sem]) rfl ⟨rfl, ?_⟩
    exact (((Below.refl _ _).alloc (Nat.le_refl _) _).alloc (by simp) _).alloc (by simp; omega) _
  · have e : cmpI x y = 1 := by have := len_lt hlt; unfold cmpI; rw [if_neg (by omega), if_pos this]
    rw [e]
    go_enter Tryd.func26, Tryd.ntmps26
    go_wp2_with fail
    refine bodyPost_ret (v := .int .i64 1) (by simp [results, Tryd.results26, go_sem]) rfl ⟨rfl, ?_⟩
    exact (((Below.refl _ _).alloc (Nat.le_refl _) _).alloc (by simp) _).alloc (by simp; omega) _

set_option maxRecDepth 100000 in
set_option maxHeartbeats 2000000 in
theorem cmp_same (p q : Option Addr) (cp cq x y : Nat) (w : World) (hx : NatIn w p cp x) (hy : NatIn w q cq y) (hl : (lb x).length ≤ 1000000) (he : Hid ((lb x).length = (lb y).length)) :
    Calls Tryd.prog 26 #[.agg #[.slice p (lb x).length cp], .agg #[.slice q (lb y).length cq]] w fun r w' => r = .returned (.int .i64 (cmpI x y)) ∧ Below w.heap.size w w' := by
  obtain ⟨n, hn⟩ : ∃ n, n = (lb x).length := ⟨_, rfl⟩
  rw [← he.out, ← hn]
  rw [← hn] at hl
  have Hn := Lib.hid hn
  clear hn
  obtain ⟨A, hA⟩ : ∃ A, A = lb x := ⟨_, rfl⟩
  have HA := Lib.hid hA
  clear hA
  refine (callsIn_wide (n := 3)).1 ?_
  refine callsIn_of_wp_marks Tryd.func26 rfl trivial ?_ rfl
  simp only [Tryd.ntmps26, List.size_toArray, List.length_cons, List.length_nil, Nat.reduceAdd, Nat.reduceSub, Array.replicate_succ, Array.replicate_zero, List.push_toArray, List.append_toArray, List.nil_append, List.cons_append]
  gi_wp2_with (refine ⟨trivial, ?_⟩; gi_at_call 58; refine (backward_in Fence.wide (3 - 1) trivial rfl _ _ _ _).mono ?_; rintro e w' ⟨rfl, rfl⟩)
  obtain ⟨W0, hW0⟩ : ∃ W0, W0 = (((w.alloc (.cells #[.slice p n cp] 25)).alloc (.cells #[.slice q n cq] 25)).alloc (.cells #[.int .i64 0] 3)).alloc (.cells #[.slice p n cp] 23) := ⟨_, rfl⟩
  have hB0 : Below w.heap.size w W0 := by rw [hW0]; exact ((((Below.refl _ _).alloc (Nat.le_refl _) _).alloc (by simp) _).alloc (by simp; omega) _).alloc (by simp; omega) _
  have hs0 : W0.heap.size = w.heap.size + 4 := by rw [hW0]; simp
  have hpl : ∀ a, p = some a → a.block < w.heap.size := by rintro a rfl; exact hx.lt
  have hql : ∀ a, q = some a → a.block < w.heap.size := by rintro a rfl; exact hy.lt
  have k1 : Boxed W0 w.heap.size 25 (.slice p n cp) := by rw [hW0]; exact (((Boxed.new w _ _).alloc _).alloc _).alloc _
  have k2 : Boxed W0 (w.heap.size + 1) 25 (.slice q n cq) := by
    have := ((Boxed.new (w.alloc (.cells #[.slice p n cp] 25)) 25 (.slice q n cq)).alloc (.cells #[.int .i64 0] 3)).alloc (.cells #[.slice p n cp] 23)
    rw [hW0]; rwa [World.size_alloc] at this
  have k3 : Boxed W0 (w.heap.size + 1 + 1) 3 (.int .i64 0) := by
    have := (Boxed.new ((w.alloc (.cells #[.slice p n cp] 25)).alloc (.cells #[.slice q n cq] 25)) 3 (.int .i64 0)).alloc (.cells #[.slice p n cp] 23)
    rw [hW0]; rwa [World.size_alloc, World.size_alloc] at this
  have k4 : Boxed W0 (w.heap.size + 1 + 1 + 1) 23 (.slice p n cp) := by
    have := Boxed.new (((w.alloc (.cells #[.slice p n cp] 25)).alloc (.cells #[.slice q n cq] 25)).alloc (.cells #[.int .i64 0] 3)) 23 (.slice p n cp)
    rw [hW0]; rwa [World.size_alloc, World.size_alloc, World.size_alloc] at this
  rw [← hW0]
  clear hW0
  have hAl : A.length = n := by rw [HA.out, Hn.out]
  have hxn : x < 4294967296 ^ n := by rw [Hn.out]; exact lt_pow_dg 4294967296 (by decide) x
  have hyn : y < 4294967296 ^ n := by rw [Hn.out, he.out]; exact lt_pow_dg 4294967296 (by decide) y
  have h0 : CmpI w W0.heap.size w.heap.size n cp cq x y p q 0 W0 := by
    have e1 : Sl .u32 38 W0 p cp (lb x) := hx.old hB0
    refine ⟨?_, e1, hy.old hB0, k1, k2, k3, k4, hB0, Nat.le_refl _⟩
    rw [Nat.sub_zero, Nat.div_eq_of_lt hxn, Nat.div_eq_of_lt hyn]
  have HAl := Lib.hid hAl
  clear k1 k2 k3 k4 hB0 hx hy hAl hxn hyn
  refine wpIn_rounds (F := Fence.wide) rfl (by decide) (gf := 69) (lb := #[.pointer (some ⟨w.heap.size + 1 + 1 + 1, 0, none⟩)]) rfl trivial (enters_of Tryd.func69 (by kernel_rfl) rfl)
    (back_rounds Fence.wide (3 - 1) trivial rfl (by decide) (w.heap.size + 1 + 1 + 1) p cp A (by rw [HAl.out]; exact hl) _) (fun _ => rfl)
    (CmpI w W0.heap.size w.heap.size n cp cq x y p q) (CmpX w W0.heap.size w.heap.size n cp cq x y p q) ?hR ?hI ?hX h0
    (fun k => { tmps := #[.agg #[.slice p n cp], .agg #[.slice q n cq], .pointer (some ⟨w.heap.size, 0, none⟩), .pointer (some ⟨w.heap.size + 1, 0, none⟩), .pointer (some ⟨w.heap.size + 1 + 1, 0, none⟩), .int .i64 ((A.length - 1 - k : Nat) : Int), .int .u32 ((A.getD (A.length - 1 - k) 0 : Nat) : Int), .bool false, .pointer (some ⟨w.heap.size, 0, none⟩), .slice p n cp, .int .i64 n, .pointer (some ⟨w.heap.size + 1, 0, none⟩), .slice q n cq, .int .i64 n, .bool false, .bool false, .pointer (some ⟨w.heap.size, 0, none⟩), .slice p n cp, .int .i64 n, .pointer (some ⟨w.heap.size + 1, 0, none⟩), .slice q n cq, .int .i64 n, .bool false, .pointer (some ⟨w.heap.size, 0, none⟩), .slice p n cp, .func (.func 69) #[] #[.pointer (some ⟨w.heap.size + 1 + 1 + 1, 0, none⟩)], .int .i64 ((A.length - 1 - k : Nat) : Int), .int .u32 ((A.getD (A.length - 1 - k) 0 : Nat) : Int), undef, undef, undef, undef, undef, undef, undef, undef, undef, undef, undef, undef, undef, undef, undef, undef], defers := [] }) ?assign ?body ?done ?stop
  case hI =>
    rintro k W W' row ⟨h1, h2⟩ hg hr
    exact ⟨h1, h2.step ((Mod.refl _ _).grown hg (fun k e _ => (hr k e).1)) rfl (by omega) (fun a e => by have := hpl a e; omega) (fun a e => by have := hql a e; omega)⟩
  case hX =>
    rintro c k W W' row ⟨h1, h2⟩ hg hr
    exact ⟨h1, h2.step ((Mod.refl _ _).grown hg (fun k e _ => (hr k e).1)) rfl (by omega) (fun a e => by have := hpl a e; omega) (fun a e => by have := hql a e; omega)⟩
  case hR =>
    rintro k W ⟨_, h1, h2, b1, b2, b3, b4, hm, hB⟩
    refine ⟨by rw [HAl.out]; exact b4.cell, fun i hi hik => ?_⟩
    have h1' : Sl .u32 38 W p cp A := by rw [HA.out]; exact h1
    obtain ⟨g, rfl⟩ := h1'.isPtr (by intro e; rw [e] at hi; simp at hi)
    exact ⟨g, rfl, h1'.cell i hi⟩
  case assign =>
    intro l k W K hK
    unfold backArgs
    generalize A.getD (A.length - 1 - k) 0 = v at hK ⊢
    generalize A.length - 1 - k = i at hK ⊢
    gi_wp2
    exact hK
  case body =>
    rintro l k W ⟨hv, hC⟩ hk
    rw [HAl.out] at hk
    obtain ⟨i, hi⟩ : ∃ i, i = A.length - 1 - k := ⟨_, rfl⟩
    have hik : i + k + 1 = n := by have := HAl.out; omega
    have hst := high_step (x := x) (y := y) (i := i) (by rw [show i + 1 = n - k by omega]; exact hv)
    obtain ⟨dx, hdx⟩ : ∃ d, d = x / 4294967296 ^ i % 4294967296 := ⟨_, rfl⟩
    obtain ⟨dy, hdy⟩ : ∃ d, d = y / 4294967296 ^ i % 4294967296 := ⟨_, rfl⟩
    rw [← hdx, ← hdy] at hst
    have hgd : A.getD i 0 = dx := by rw [hdx, HA.out]; exact dg_getD 4294967296 (by decide) x i
    rw [← hi, hgd]
    obtain ⟨h1, h2, b1, b2, b3, b4, hm, hB⟩ := hC
    have hiy : i < (lb y).length := by rw [← he.out, ← Hn.out]; omega
    obtain ⟨g, rfl⟩ := h2.isPtr (by intro e; rw [e] at hiy; simp at hiy)
    have cy : W.cell? ⟨g, i, none⟩ = some (.int .u32 (dy : Int)) := by rw [hdy, ← dg_at 4294967296 (by decide) y i hiy]; exact h2.cell i hiy
    have c2 := b2.cell
    have c3 := b3.cell
    have f3 := b3.frozen
    have hput := CmpW.put (r2 := cmpI x y) ⟨h1, h2, b1, b2, b3, b4, hm, hB⟩ rfl (by omega) hpl hql
    have hC : CmpW w W0.heap.size w.heap.size n cp cq x y p (some ⟨g, 0, none⟩) 0 W := ⟨h1, h2, b1, b2, b3, b4, hm, hB⟩
    have i0 : (0 : Int) ≤ i := by omega
    have i1 : (i : Int) < n := by omega
    have Hst := Lib.hid hst
    have Hput := Lib.hid hput
    have HC := Lib.hid hC
    have Hik := Lib.hid hik
    clear hst hput hC h1 h2 b1 b2 b3 b4 hm hB hv hi hdx hdy hgd hik h0 hpl hql hs0 hk
    rcases Nat.lt_trichotomy dx dy with hlt | heq | hgt
    · have e : cmpI x y = -1 := by unfold cmpI; rw [if_pos (Hst.out.1 hlt)]
      have He := Lib.hid e
      clear e
      gi_wp2
      have := Hput.out
      rw [He.out] at this
      exact ⟨this.1, rfl, by rw [He.out]; exact this.2⟩
    · have hnx : x / 4294967296 ^ (n - (k + 1)) = y / 4294967296 ^ (n - (k + 1)) := by have := Hst.out.2.2 heq; have hk := Hik.out; rw [show n - (k + 1) = i by omega]; exact this
      have Hnx := Lib.hid hnx
      have n1 : ¬ dx < dy := by omega
      have n2 : ¬ dy < dx := by omega
      clear hnx heq
      gi_wp2
      exact ⟨KeepsFrom.refl _ _, Hnx.out, HC.out⟩
    · have e : cmpI x y = 1 := by unfold cmpI; have := Hst.out.2.1 hgt; rw [if_neg (by omega), if_pos this]
      have n1 : ¬ dx < dy := by omega
      have He := Lib.hid e
      clear e
      gi_wp2
      have := Hput.out
      rw [He.out] at this
      exact ⟨this.1, rfl, by rw [He.out]; exact this.2⟩
  case done =>
    rintro D W hD ⟨hv, hC⟩ hK
    rw [HAl.out, Nat.sub_self, Nat.pow_zero, Nat.div_one, Nat.div_one] at hv
    have e : cmpI x y = 0 := by unfold cmpI; rw [if_neg (by omega), if_neg (by omega)]
    have He := Lib.hid e
    have hput := CmpW.put (r2 := 0) hC rfl (by omega) hpl hql
    obtain ⟨_, _, _, _, b3, _, _, hB⟩ := hC
    have c3 := b3.cell
    have f3 := b3.frozen
    have hKs : (W.setCell ⟨w.heap.size + 1 + 1, 0, none⟩ (.int .i64 0)).heap[D]? = some (.deferred (some [])) := (Below.heap_setCell _ _ _ _ (by show D ≠ w.heap.size + 1 + 1; omega)).trans hK
    clear e hv
    gi_wp2
    refine ⟨by simp, .inl ⟨_, _, rfl, run_takeDeferred hKs, ?_⟩⟩
    have hfin := hput.2.step ((Mod.refl _ _).grown (grownBy_putObj' (W.setCell ⟨w.heap.size + 1 + 1, 0, none⟩ (.int .i64 0)) D (.deferred none)) (fun k e _ => by cases e; exact hD)) rfl (by omega) (fun a e => by have := hpl a e; omega) (fun a e => by have := hql a e; omega)
    obtain ⟨_, _, _, _, r3, _, rB, _⟩ := hfin
    have rc := r3.cell
    exact ⟨.int .i64 0, by simp [results, Tryd.results26, go_sem, rc], by rw [He.out], rB⟩
  case stop =>
    rintro D c k W hD hk ⟨rfl, hC⟩ hK
    gi_wp2
    refine ⟨by simp, .inl ⟨_, _, rfl, run_takeDeferred hK, ?_⟩⟩
    have hfin := hC.step ((Mod.refl _ _).grown (grownBy_putObj' W D (.deferred none)) (fun k e _ => by cases e; exact hD)) rfl (by omega) (fun a e => by have := hpl a e; omega) (fun a e => by have := hql a e; omega)
    obtain ⟨_, _, _, _, r3, _, rB, _⟩ := hfin
    have rc := r3.cell
    exact ⟨.int .i64 (cmpI x y), by simp [results, Tryd.results26, go_sem, rc], rfl, rB⟩

theorem cmp_any (p q : Option Addr) (cp cq x y : Nat) (w : World) (hx : NatIn w p cp x) (hy : NatIn w q cq y) (hl : (lb x).length ≤ 1000000) :
    Calls Tryd.prog 26 #[.agg #[.slice p (lb x).length cp], .agg #[.slice q (lb y).length cq]] w fun r w' => r = .returned (.int .i64 (cmpI x y)) ∧ Below w.heap.size w w' := by
  by_cases he : (lb x).length = (lb y).length
  · exact cmp_same p q cp cq x y w hx hy hl he
  · exact cmp_len p q cp cq x y w he
end Go.Proofs.YtepibfpdkjkdjaaDoor
