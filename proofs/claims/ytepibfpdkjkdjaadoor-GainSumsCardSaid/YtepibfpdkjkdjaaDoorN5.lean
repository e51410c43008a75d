import Derived.Test.YtepibfpdkjkdjaaDoorN4
import Derived.Test.YtepibfpdkjkdjaaDoorBack
namespace Go.Proofs.YtepibfpdkjkdjaaDoor
open Go.RowKit Go.Shelf
attribute [local go_sem] Oper.semAt_some

/-- A region without a defer statement goes in a round as outside of one. -/
theorem wpAnyIn_inRound {F : Fence} {n : Nat} {P : Program} {md : Region.Mode} {ops : Array Oper} {Q : Exit → Act → World → Prop} {l : Nat} (hnd : ∀ (i : Nat) (o : Oper), ops[i]? = some o → ∀ c : Call, o.op ≠ Op.defer c) :
    ∀ (fuel : Nat) (listed : Array Bool) (a : Act) (w : World), wpAnyIn F n P md ops Q fuel listed a w → wpAnyIn (F.inRound l) n P md ops Q fuel listed a w := by
  intro fuel
  induction fuel with
  | zero => intro listed a w h; exact h
  | succ fuel ih =>
    intro listed a w h
    refine ⟨h.1, fun i hi => ?_⟩
    have h2 := wpOpIn_mono (fun a w => ih (listed.setIfInBounds i true) a w) (h.2 i hi)
    unfold wpOpIn at h2 ⊢
    split
    · rename_i ho; rw [ho] at h2; exact h2
    · rename_i o ho
      rw [ho] at h2
      simp only at h2
      split
      · rename_i hw
        rw [if_pos hw] at h2
        refine ⟨h2.1, ?_⟩
        have h3 := h2.2
        rw [Oper.semAt_eq _ _ _ (hnd i o ho)] at h3 ⊢
        exact h3
      · rename_i hw
        rw [if_neg hw] at h2
        exact h2
def noDefer (ops : Array Oper) : Bool := ops.all fun o => match o.op with | .defer _ => false | _ => true
theorem noDefer_spec {ops : Array Oper} (h : noDefer ops = true) : ∀ (i : Nat) (o : Oper), ops[i]? = some o → ∀ c : Call, o.op ≠ Op.defer c := by
  intro i o ho c e
  obtain ⟨hi, rfl⟩ := Array.getElem?_eq_some_iff.1 ho
  have := (Array.all_eq_true.1 h) i hi
  rw [e] at this
  cases this
theorem region_inRound {F : Fence} {n : Nat} {P : Program} {ops : Array Oper} {Q : Exit → Act → World → Prop} {l id : Nat} {a : Act} {w : World} (hm : P.follows .mixedOrders = true) (hnd : noDefer ops = true)
    (h : wpAnyIn F n P .any ops Q ops.size (Array.replicate ops.size false) a w.drew) : (Code.region id ops true).wpIn (F.inRound l) n P Q a w :=
  wpIn_region_any hm (wpAnyIn_inRound (noDefer_spec hnd) _ _ _ _ h)

/-- While it is divided: k limbs from behind are. -/
structure DivI (n x d k : Nat) (S : List Nat) (r : Nat) : Prop where
  len : S.length = n
  lt : ∀ z ∈ S, z < 4294967296
  low : ∀ t (h : t < S.length), t + k < n → S[t] = x / 4294967296 ^ t % 4294967296
  val : vl 4294967296 (S.drop (n - k)) = x / 4294967296 ^ (n - k) / d
  r : r = x / 4294967296 ^ (n - k) % d
theorem DivI.next {n x d k : Nat} {S : List Nat} {r : Nat} (h : DivI n x d k S r) (i : Nat) (hi : i + k + 1 = n) (hd : 0 < d) (v : Nat) (hv : v = x / 4294967296 ^ i % 4294967296) :
    DivI n x d (k + 1) (S.set i ((r * 4294967296 + v) / d)) ((r * 4294967296 + v) % d) := by
  have hl : i < S.length := by rw [h.len]; omega
  have hs := div_step 4294967296 x i d
  have hr := h.r
  rw [show n - k = i + 1 by omega] at hr
  rw [← hr, ← hv] at hs
  have hrd : r < d := by rw [hr]; exact Nat.mod_lt _ hd
  have hv4 : v < 4294967296 := by rw [hv]; exact Nat.mod_lt _ (by decide)
  have hq : (r * 4294967296 + v) / d < 4294967296 := by
    rw [Nat.div_lt_iff_lt_mul hd]
    have := Nat.mul_le_mul_right 4294967296 (show r + 1 ≤ d by omega)
    rw [Nat.mul_comm 4294967296 d]; omega
  refine ⟨by simpa using h.len, set_lt h.lt hq, ?_, ?_, ?_⟩
  · intro t ht htk
    rw [List.getElem_set_ne (by omega)]
    exact h.low t (by simpa using ht) (by omega)
  · have hval := h.val
    rw [show n - k = i + 1 by omega] at hval
    rw [show n - (k + 1) = i by omega, List.drop_eq_getElem_cons (by simpa using hl), List.getElem_set_self, List.drop_set_of_lt (by omega), vl, hval, hs.1]
    omega
  · rw [show n - (k + 1) = i by omega]; exact hs.2.symm

/-- The memory of a division. -/
def DivW (w : World) (B N n cap x d : Nat) (p : Option Addr) (k : Nat) (W : World) : Prop :=
  ∃ S r, DivI n x d k S r ∧ Sl .u32 38 W p cap S ∧ Boxed W N 23 (.slice p n cap) ∧ Boxed W (N + 1) 38 (.int .u32 (d : Int)) ∧ Boxed W (N + 1 + 1) 38 (.int .u32 (r : Int)) ∧ Boxed W (N + 1 + 1 + 1) 23 (.slice p n cap) ∧
    Mod (fun i => ∃ a, p = some a ∧ i = a.block) w W ∧ B ≤ W.heap.size
theorem DivW.own {w : World} {B N n cap x d : Nat} {p : Option Addr} (hN : N + 3 < B) (hp : ∀ a, p = some a → a.block < B) (hw : w.heap.size ≤ B) : OwnFrom B (DivW w B N n cap x d p) := by
  rintro k W W' row ⟨S, r, h1, h2, h3, h4, h5, h6, h7, h8⟩ hg hr
  have hm : Mod (fun i => B ≤ i) W W' := (Mod.refl _ _).grown hg (fun k e _ => (hr k e).1)
  exact ⟨S, r, h1, h2.kept hm (fun a e => by have := hp a e; omega), Boxed.mod' h3 hm (by omega), Boxed.mod' h4 hm (by omega), Boxed.mod' h5 hm (by omega), Boxed.mod' h6 hm (by omega),
    h7.trans hm (by intro i hi h; omega), Nat.le_trans h8 hm.size⟩

/-- One round more. -/
theorem DivW.next {w : World} {B N n cap x d k g i v : Nat} {S : List Nat} {r : Nat} {W W' : World} (hI : DivI n x d k S r) (hSl : Sl .u32 38 W (some ⟨g, 0, none⟩) cap S) (b1 : Boxed W N 23 (.slice (some ⟨g, 0, none⟩) n cap)) (b2 : Boxed W (N + 1) 38 (.int .u32 (d : Int)))
    (b3 : Boxed W (N + 1 + 1) 38 (.int .u32 (r : Int))) (b4 : Boxed W (N + 1 + 1 + 1) 23 (.slice (some ⟨g, 0, none⟩) n cap)) (hm : Mod (fun i => ∃ a, some (⟨g, 0, none⟩ : Addr) = some a ∧ i = a.block) w W) (hB : B ≤ W.heap.size)
    (hN : N = w.heap.size) (hNB : N + 4 ≤ B) (hg : g < N) (hik : i + k + 1 = n) (hd : 0 < d) (hv : v = x / 4294967296 ^ i % 4294967296)
    (e1 : W'.heap = ((W.setCell ⟨g, i, none⟩ (.int .u32 (((r * 4294967296 + v) / d : Nat) : Int))).setCell ⟨N + 1 + 1, 0, none⟩ (.int .u32 (((r * 4294967296 + v) % d : Nat) : Int))).heap) (e2 : W'.os = W.os) (e3 : W'.tape = W.tape) (e4 : W'.output = W.output) :
    KeepsFrom B W W' ∧ DivW w B N n cap x d (some ⟨g, 0, none⟩) (k + 1) W' := by
  obtain ⟨V, hV⟩ : ∃ V, V = (W.setCell ⟨g, i, none⟩ (.int .u32 (((r * 4294967296 + v) / d : Nat) : Int))).setCell ⟨N + 1 + 1, 0, none⟩ (.int .u32 (((r * 4294967296 + v) % d : Nat) : Int)) := ⟨_, rfl⟩
  rw [← hV] at e1
  have hW : Mod (fun _ => False) V W' := ⟨by rw [e2, hV]; rfl, by rw [e3, hV]; rfl, by rw [e4, hV]; rfl, by rw [e1]; exact Nat.le_refl _, fun k _ _ => by rw [e1]⟩
  have hM1 : Mod (fun j => j = g ∨ j = N + 1 + 1) W V := by rw [hV]; exact ((Mod.refl _ W).setCell (p := ⟨g, i, none⟩) (fun _ => Or.inl rfl) _).setCell (p := ⟨N + 1 + 1, 0, none⟩) (fun _ => Or.inr rfl) _
  have hM := hM1.trans hW (fun _ _ h => h.elim)
  have s1 := (hSl.set i ((r * 4294967296 + v) / d)).other ⟨N + 1 + 1, 0, none⟩ (.int .u32 (((r * 4294967296 + v) % d : Nat) : Int)) (by rintro a e; cases e; show g ≠ N + 1 + 1; omega)
  rw [← hV] at s1
  have s3 : Boxed V (N + 1 + 1) 38 (.int .u32 (((r * 4294967296 + v) % d : Nat) : Int)) := by
    rw [hV]; exact (Boxed.mod' b3 ((Mod.refl (· = g) W).setCell (p := ⟨g, i, none⟩) (fun _ => rfl) _) (by omega)).set _
  refine ⟨⟨hM.size, fun j o hj hk _ => (hM.block j (Array.getElem?_eq_some_iff.1 hk).1 (by omega)).trans hk⟩, _, _, hI.next i hik hd v hv, s1.kept hW (fun _ _ h => h), Boxed.mod' b1 hM (by omega), Boxed.mod' b2 hM (by omega), Boxed.mod' s3 hW (fun h => h), Boxed.mod' b4 hM (by omega), ?_, Nat.le_trans hB hM.size⟩
  refine hm.trans hM ?_
  rintro j hj (rfl | rfl)
  · exact ⟨_, rfl, rfl⟩
  · omega

set_option maxRecDepth 100000 in
set_option maxHeartbeats 20000000 in
theorem divide_any (p : Option Addr) (cap x d : Nat) (A : List Nat) (w : World) (hS : Sl .u32 38 w p cap A) (hA : Hid (A = lb x)) (hl : A.length ≤ 1000000) (hd : 0 < d) (hdd : d < 4294967296) :
    Calls Tryd.prog 54 #[.slice p A.length cap, .int .u32 d] w fun e w' => e = .returned (.int .u32 ((x % d : Nat) : Int)) ∧ ∃ S : List Nat, S.length = A.length ∧ (∀ z ∈ S, z < 4294967296) ∧ vl 4294967296 S = x / d ∧ Sl .u32 38 w' p cap S ∧ Mod (fun i => ∃ a, p = some a ∧ i = a.block) w w' := by
  obtain ⟨n, hn⟩ : ∃ n, n = A.length := ⟨_, rfl⟩
  rw [← hn] at hl ⊢
  have Hn := Lib.hid hn
  clear hn
  refine (callsIn_wide (n := 3)).1 ?_
  refine callsIn_of_wp_marks Tryd.func54 rfl trivial ?_ rfl
  simp only [Tryd.ntmps54, List.size_toArray, List.length_cons, List.length_nil, Nat.reduceAdd, Nat.reduceSub, Array.replicate_succ, Array.replicate_zero, List.push_toArray, List.append_toArray, List.nil_append, List.cons_append]
  gi_wp2_with (refine ⟨trivial, ?_⟩; gi_at_call 58; refine (backward_in Fence.wide (3 - 1) trivial rfl _ _ _ _).mono ?_; rintro e w' ⟨rfl, rfl⟩)
  obtain ⟨W0, hW0⟩ : ∃ W0, W0 = (((w.alloc (.cells #[.slice p n cap] 23)).alloc (.cells #[.int .u32 (d : Int)] 38)).alloc (.cells #[.int .u32 0] 38)).alloc (.cells #[.slice p n cap] 23) := ⟨_, rfl⟩
  have hB0 : Below w.heap.size w W0 := by rw [hW0]; exact ((((Below.refl _ _).alloc (Nat.le_refl _) _).alloc (by simp) _).alloc (by simp; omega) _).alloc (by simp; omega) _
  have hs0 : W0.heap.size = w.heap.size + 4 := by rw [hW0]; simp
  have hpl : ∀ a, p = some a → a.block < w.heap.size := by rintro a rfl; exact hS.lt
  have k1 : Boxed W0 w.heap.size 23 (.slice p n cap) := by rw [hW0]; exact (((Boxed.new w _ _).alloc _).alloc _).alloc _
  have k2 : Boxed W0 (w.heap.size + 1) 38 (.int .u32 (d : Int)) := by
    have := ((Boxed.new (w.alloc (.cells #[.slice p n cap] 23)) 38 (.int .u32 (d : Int))).alloc (.cells #[.int .u32 0] 38)).alloc (.cells #[.slice p n cap] 23)
    rw [hW0]; rwa [World.size_alloc] at this
  have k3 : Boxed W0 (w.heap.size + 1 + 1) 38 (.int .u32 0) := by
    have := (Boxed.new ((w.alloc (.cells #[.slice p n cap] 23)).alloc (.cells #[.int .u32 (d : Int)] 38)) 38 (.int .u32 0)).alloc (.cells #[.slice p n cap] 23)
    rw [hW0]; rwa [World.size_alloc, World.size_alloc] at this
  have k4 : Boxed W0 (w.heap.size + 1 + 1 + 1) 23 (.slice p n cap) := by
    have := Boxed.new (((w.alloc (.cells #[.slice p n cap] 23)).alloc (.cells #[.int .u32 (d : Int)] 38)).alloc (.cells #[.int .u32 0] 38)) 23 (.slice p n cap)
    rw [hW0]; rwa [World.size_alloc, World.size_alloc, World.size_alloc] at this
  rw [← hW0]
  clear hW0
  have hAb : ∀ z ∈ A, z < 4294967296 := by rw [hA.out]; exact lb_lt x
  have hAt : ∀ t (h : t < A.length), A[t] = x / 4294967296 ^ t % 4294967296 := by
    intro t ht
    have h2 : t < (lb x).length := by rw [← hA.out]; exact ht
    have := dg_at 4294967296 (by decide) x t h2
    rw [← this]; simp only [hA.out]; rfl
  have hI0 : DivI n x d 0 A 0 := by
    have hx : x < 4294967296 ^ n := by rw [Hn.out, hA.out]; exact lt_pow_dg 4294967296 (by decide) x
    refine ⟨Hn.out.symm, hAb, fun t h _ => hAt t h, ?_, ?_⟩
    · rw [Nat.sub_zero, List.drop_of_length_le (by rw [← Hn.out]; exact Nat.le_refl _), Nat.div_eq_of_lt hx]; simp [vl]
    · rw [Nat.sub_zero, Nat.div_eq_of_lt hx, Nat.zero_mod]
  have h0 : DivW w W0.heap.size w.heap.size n cap x d p 0 W0 :=
    ⟨A, 0, hI0, hS.old hB0, k1, k2, k3, k4, (Mod.of_below hB0).mono (by intro i hi h; omega), Nat.le_refl _⟩
  clear k1 k2 k3 k4 hI0 hB0
  refine wpIn_rounds (F := Fence.wide) rfl (by decide) (gf := 69) (lb := #[.pointer (some ⟨w.heap.size + 1 + 1 + 1, 0, none⟩)]) rfl trivial (enters_of Tryd.func69 (by kernel_rfl) rfl)
    (back_rounds Fence.wide (3 - 1) trivial rfl (by decide) (w.heap.size + 1 + 1 + 1) p cap A (by rw [← Hn.out]; exact hl) _) (fun _ => rfl)
    (DivW w W0.heap.size w.heap.size n cap x d p) (fun _ _ _ => False) ?hR (DivW.own (by omega) (fun a e => by have := hpl a e; omega) (by omega)) (fun _ _ _ _ _ hs _ _ => hs) h0
    (fun k => { tmps := #[.slice p n cap, .int .u32 d, .pointer (some ⟨w.heap.size, 0, none⟩), .pointer (some ⟨w.heap.size + 1, 0, none⟩), .int .u32 0, .pointer (some ⟨w.heap.size + 1 + 1, 0, none⟩), .int .i64 ((A.length - 1 - k : Nat) : Int), .int .u32 ((A.getD (A.length - 1 - k) 0 : Nat) : Int), .slice p n cap, .func (.func 69) #[] #[.pointer (some ⟨w.heap.size + 1 + 1 + 1, 0, none⟩)], .int .i64 ((A.length - 1 - k : Nat) : Int), .int .u32 ((A.getD (A.length - 1 - k) 0 : Nat) : Int), undef, undef, undef, undef, undef, undef, undef, undef, undef, undef, undef], defers := [] }) ?assign ?body ?done ?stop
  case hR =>
    rintro k W ⟨S, r, hI, hSl, b1, b2, b3, b4, hm, hB⟩
    refine ⟨by rw [← Hn.out]; exact b4.cell, fun i hi hik => ?_⟩
    have hiS : i < S.length := by rw [hI.len, Hn.out]; exact hi
    obtain ⟨g, rfl⟩ := hSl.isPtr (by intro e; subst e; simp at hiS)
    refine ⟨g, rfl, ?_⟩
    rw [hSl.cell i hiS, hI.low i hiS (by rw [Hn.out]; omega), hAt i hi]
  case assign =>
    intro l k W K hK
    unfold backArgs
    generalize A.getD (A.length - 1 - k) 0 = v at hK ⊢
    generalize A.length - 1 - k = i at hK ⊢
    gi_wp2
    exact hK
  case body =>
    rintro l k W ⟨S, r, hI, hSl, b1, b2, b3, b4, hm, hB⟩ hk
    obtain ⟨i, hi⟩ : ∃ i, i = A.length - 1 - k := ⟨_, rfl⟩
    have hik : i + k + 1 = n := by rw [Hn.out]; omega
    have hiA : i < A.length := by rw [← Hn.out]; omega
    have hiS : i < S.length := by rw [hI.len]; omega
    obtain ⟨v, hv⟩ : ∃ v, v = A.getD i 0 := ⟨_, rfl⟩
    have hv2 : v = x / 4294967296 ^ i % 4294967296 := by rw [hv, List.getD_eq_getElem?_getD, List.getElem?_eq_getElem hiA]; exact hAt i hiA
    have hv4 : v < 4294967296 := by rw [hv2]; exact Nat.mod_lt _ (by decide)
    have hrd : r < d := by rw [hI.r]; exact Nat.mod_lt _ hd
    obtain ⟨g, rfl⟩ := hSl.isPtr (by intro e; subst e; simp at hiS)
    have hg : g < w.heap.size := hpl _ rfl
    rw [← hi, ← hv]
    have c1 := b1.cell
    have c2 := b2.cell
    have c3 := b3.cell
    have f3 := b3.frozen
    have cS := hSl.cell i hiS
    have fS := hSl.froz i
    generalize S[i] = old at cS
    have i0 : (0 : Int) ≤ i := by omega
    have i1 : (i : Int) < n := by omega
    have n1 : ¬ w.heap.size + 1 + 1 = g := by omega
    have n2 : ¬ g = w.heap.size + 1 + 1 := by omega
    have Hend := Lib.hid (fun W' => DivW.next (B := W0.heap.size) (W' := W') hI hSl b1 b2 b3 b4 hm hB rfl (by omega) hg hik hd hv2)
    have hmix : Tryd.prog.follows .mixedOrders = true := by kernel_rfl
    have Hg := Lib.hid hg
    clear hi hv hv2 hAt hAb h0 hI hSl b1 b2 b3 b4 hm hB hpl hS hk hik hiA hiS hs0 hA Hn hl hd hg
    gi_wp2
    refine region_inRound hmix (by decide +kernel) ?_
    generalize hq : (r * 4294967296 + v) / d = q at Hend
    generalize hr2 : (r * 4294967296 + v) % d = r2 at Hend
    have hdv : ∀ w, Calls Tryd.prog 64 #[.int .u32 r, .int .u32 v, .int .u32 d] w fun r' w' => r' = .returned (.tuple #[.int .u32 (q : Int), .int .u32 (r2 : Int)]) ∧ ∃ n, w' = w.drewN n := by
      intro w; have := div32_any r v d w hrd hv4 hdd; rw [hq, hr2] at this; exact this
    have Hdv := Lib.hid hdv
    clear hq hr2 hdv hrd hv4 hdd Hg
    repeat' first
      | exact AllReadyIn.nil
      | refine AllReadyIn.cons rfl (fun K hK => ?_) ?_
      | (refine wpAnyIn_done (by decide +kernel) ?_ _; exact Hend.out _ rfl rfl rfl rfl)
      | refine wpAnyIn_take (i := 1) (v := .int .i64 (i : Int)) rfl rfl (by decide +kernel) (by decide +kernel) (by decide +kernel) (fun _ _ _ h => h) ⟨Or.inl ⟨by rfl, by (intro w; go_simp)⟩, fun _ => rfl⟩ ?_
      | refine wpAnyIn_take (i := 3) (v := .int .u32 (v : Int)) rfl rfl (by decide +kernel) (by decide +kernel) (by decide +kernel) (fun _ _ _ h => h) ⟨Or.inl ⟨by rfl, by (intro w; go_simp)⟩, fun _ => rfl⟩ ?_
      | refine wpAnyIn_take (i := 6) (v := .tuple #[.int .u32 (q : Int), .int .u32 (r2 : Int)]) rfl rfl (by decide +kernel) (by decide +kernel) (by decide +kernel) (fun _ _ _ h => h) ⟨Or.inl ⟨by rfl, by (intro w; go_simp)⟩, fun _ => rfl⟩ ?_
      | refine wpAnyIn_take (i := 7) (v := .int .u32 (q : Int)) rfl rfl (by decide +kernel) (by decide +kernel) (by decide +kernel) (fun _ _ _ h => h) ⟨Or.inl ⟨by rfl, by (intro w; go_simp)⟩, fun _ => rfl⟩ ?_
      | refine wpAnyIn_take (i := 8) (v := .int .u32 (r2 : Int)) rfl rfl (by decide +kernel) (by decide +kernel) (by decide +kernel) (fun _ _ _ h => h) ⟨Or.inl ⟨by rfl, by (intro w; go_simp)⟩, fun _ => rfl⟩ ?_
      | refine wpAnyIn_take (i := 9) (v := .pointer (some ⟨g, i, none⟩)) rfl rfl (by decide +kernel) (by decide +kernel) (by decide +kernel) (fun _ _ _ h => h) ⟨Or.inl ⟨by rfl, by (intro w; go_simp)⟩, fun _ => rfl⟩ ?_
      | refine wpAnyIn_ready (rs := [0, 2, 4]) (by decide +kernel) (by simp) ?_
      | refine wpAnyIn_ready (rs := [2, 4]) (by decide +kernel) (by simp) ?_
      | refine wpAnyIn_ready (rs := [0, 4]) (by decide +kernel) (by simp) ?_
      | refine wpAnyIn_ready (rs := [0, 2]) (by decide +kernel) (by simp) ?_
      | refine wpAnyIn_ready (rs := [0]) (by decide +kernel) (by simp) ?_
      | refine wpAnyIn_ready (rs := [2]) (by decide +kernel) (by simp) ?_
      | refine wpAnyIn_ready (rs := [4]) (by decide +kernel) (by simp) ?_
      | refine wpAnyIn_ready (rs := [0, 5]) (by decide +kernel) (by simp) ?_
      | refine wpAnyIn_ready (rs := [5]) (by decide +kernel) (by simp) ?_
      | refine wpAnyIn_ready (rs := [10]) (by decide +kernel) (by simp) ?_
      | refine wpAnyIn_ready (rs := [11]) (by decide +kernel) (by simp) ?_
      | (go_simp; refine hK _ _ ?_; clear hK K)
      | (go_simp; refine ⟨trivial, ?_⟩; refine (callsIn_wide.2 (Hdv.out _)).mono ?_; rintro e w' ⟨rfl, nq, rfl⟩; refine hK _ _ ?_; clear hK K)
  case done =>
    rintro D W hD ⟨S, r, hI, hSl, b1, b2, b3, b4, hm, hB⟩ hK
    have c3 := b3.cell
    gi_wp2
    refine ⟨by simp, .inl ⟨_, _, rfl, run_takeDeferred hK, ?_⟩⟩
    rw [← Hn.out] at hI
    have hv := hI.val
    have hr := hI.r
    rw [Nat.sub_self, List.drop_zero, Nat.pow_zero, Nat.div_one] at hv
    rw [Nat.sub_self, Nat.pow_zero, Nat.div_one] at hr
    have hmD : Mod (fun i => W0.heap.size ≤ i) W (W.putObj D (.deferred none)) := (Mod.refl _ _).grown (grownBy_putObj' _ D _) (fun k e _ => by cases e; exact hD)
    exact ⟨_, results_tmp rfl _ _ _, by rw [← hr]; rfl, S, hI.len, hI.lt, hv, hSl.kept hmD (fun a e => by have := hpl a e; omega), hm.trans hmD (by intro i hi h; omega)⟩
  case stop =>
    rintro D c k W _ _ h _
    exact h.elim
end Go.Proofs.YtepibfpdkjkdjaaDoor
