/- nat.Bytes. -/
import Derived.Test.YtepibfpdkjkdjaaDoorN9
import Derived.Test.YtepibfpdkjkdjaaDoorNum4
import Derived.OwnWalkIn
namespace Go.Proofs.YtepibfpdkjkdjaaDoor
open Go.RowKit Go.Shelf
attribute [local go_sem] Oper.semAt_some

/-- Numbers are appended that a new block holds: inside a fence. -/
theorem wpListIn_push {F : Fence} {nF : Nat} {P : Program} {ops : Array Oper} {rest : List Oper} {o : Oper} {a : Act} {Q : Exit → Act → World → Prop} {w : World} (hgd : o.guard = none) (s x : Operand) (k : IntKind) (Ts T : TypeId) (z : Value) (bytes : Nat)
    (ho : o.op = .call { callee := .builtin .append, args := #[s, x], argTypes := #[Ts, Ts] }) (hT : P.underlying Ts = some (.slice T)) (hi : (P.info? T).map (fun i => (i.zero, i.size, i.bytes)) = some (some z, 1, bytes)) (hzs : z.cells.size = 1) (hby : bytes ≤ 8)
    (p : Option Addr) (cap n m : Nat) (A Y : List Nat) (hn : A.length = n) (hY : Y.length = m) (h0 : 0 < m) (hs : a.eval s = .slice p n cap) (hS : Sl k T w p cap A) (hx : a.eval x = .slice (some ⟨w.heap.size, 0, none⟩) m m) (hl : n + m ≤ 1000000000000)
    (h : ∀ q c w', Pushed k T w p (A ++ Y) q c w' → wpListIn F nF P ops Q rest (a.put o.dst (.slice q (n + m) c)) w') :
    wpListIn F nF P ops Q (o :: rest) a (w.alloc (.cells (nums k Y).toArray T)) := by
  obtain ⟨i, hi', hz, h1, h2⟩ := info_parts hi
  subst hn
  subst hY
  have hSo : (w.alloc (.cells (nums k Y).toArray T)).ownsRow 0 T 1 (.slice p A.length cap) A.length (nums k A) := hS.alloc _
  refine wpListIn_plain hgd fun K hK => ?_
  obtain ⟨g, c, w', hr, hown, hgrow, hat, _⟩ := run_append_lies (P := P) (w.alloc (.cells (nums k Y).toArray T)) Ts o.type 0 T i z 1 bytes hT hi' hz h1 h2 hzs (by decide) _ A.length (nums k A) hSo ⟨w.heap.size, 0, none⟩ Y.length Y.length (nums k Y) (by simp [nums_len]) (by
    intro j u hj
    have hadd : (⟨w.heap.size, 0, none⟩ : Addr).add j = ⟨w.heap.size, j, none⟩ := by unfold Addr.add; split <;> simp_all
    rw [hadd, cell_of_row _ w.heap.size j _ T (0, 0) (heap_alloc_new _ _)]
    simpa using hj) (nums_one _ _) h0 (by unfold maxLen; omega) (by have := Nat.mul_le_mul hl hby; omega) (Nat.zero_le _) _ rfl
  unfold Oper.wpIn
  refine ⟨by simp [Oper.about, ho, resolve, Target.leads, Sem.run_pure], ?_⟩
  rw [Oper.semAt_plain F _ _ (by rw [ho]; intro c hc'; cases hc')]
  simp [execOp, ho, resolve, invoke, builtin, hs, hx, hr, Result.andThen]
  refine hK _ _ (h (some ⟨g, 0, none⟩) c w' ⟨?_, ?_, g, rfl, ?_⟩)
  · unfold Sl; rw [List.length_append, show nums k (A ++ Y) = nums k A ++ nums k Y by simp [nums]]; exact hown
  · refine ((Mod.refl _ w).alloc _).grown hgrow ?_
    intro j hj _
    cases p with
    | none => simp [Value.ownBlock] at hj
    | some a => simp [Value.ownBlock] at hj; exact ⟨a, rfl, hj.symm⟩
  · rcases hat with hat | hat
    · left
      rcases hS.shape with ⟨rfl, _⟩ | ⟨g', rfl, _⟩
      · simp [Value.ownBlock] at hat
      · simp [Value.ownBlock] at hat; subst hat; rfl
    · right; rw [hat]; simp

/-- The memory of Bytes: k limbs from behind are laid by. -/
structure BytS (w : World) (B x n cp : Nat) (p : Option Addr) (k nd : Nat) (L : List Nat) (pq : Option Addr) (cq : Nat) (W : World) : Prop where
  len : L.length = nd
  nd4 : nd = 4 * k
  lt : ∀ z ∈ L, z < 256
  val : vl 256 L.reverse = x / 4294967296 ^ (n - k)
  s : Sl .u8 5 W pq cq L
  new : ∀ a, pq = some a → B ≤ a.block
  b1 : Boxed W (w.heap.size + 1) 71 (.slice pq nd cq)
  b2 : Boxed W (w.heap.size + 1 + 1) 23 (.slice p n cp)
  lim : NatIn W p cp x
  m : Below w.heap.size w W
  hB : B ≤ W.heap.size
theorem BytS.step {w : World} {B x n cp : Nat} {p : Option Addr} {k nd : Nat} {L : List Nat} {pq : Option Addr} {cq : Nat} {W W' : World} {S : Nat → Prop} (h : BytS w B x n cp p k nd L pq cq W) (hm : Mod S W W') (hw : w.heap.size + 3 ≤ B) (hp : ∀ a, p = some a → a.block < w.heap.size)
    (hS : ∀ i, S i → B ≤ i) (hq : ∀ a, pq = some a → ¬ S a.block) : BytS w B x n cp p k nd L pq cq W' :=
  ⟨h.len, h.nd4, h.lt, h.val, h.s.kept hm hq, h.new, Boxed.mod' h.b1 hm (fun e => by have := hS _ e; omega), Boxed.mod' h.b2 hm (fun e => by have := hS _ e; omega), h.lim.kept hm (fun a e hs => by have := hS _ hs; have := hp a e; omega),
    h.m.trans (hm.to_below h.m.size (fun i hi hs => by have := hS _ hs; omega)), Nat.le_trans h.hB hm.size⟩
def BytI (w : World) (B x n cp : Nat) (p : Option Addr) (k : Nat) (W : World) : Prop := ∃ nd L pq cq, BytS w B x n cp p k nd L pq cq W
theorem BytI.own {w : World} {B x n cp : Nat} {p : Option Addr} (hw : w.heap.size + 3 ≤ B) (hp : ∀ a, p = some a → a.block < w.heap.size) : OwnFrom B (BytI w B x n cp p) := by
  rintro k W W' row ⟨nd, L, pq, cq, h⟩ hg hr
  have hm : Mod (fun i => row = some i) W W' := (Mod.refl _ _).grown hg (fun k e _ => e)
  refine ⟨nd, L, pq, cq, h.step hm hw hp (fun i e => (hr i e).1) (fun a e hs => ?_)⟩
  subst e
  obtain ⟨o, ho, hc⟩ := (hr _ hs).2
  rcases h.s.shape with ⟨e, _⟩ | ⟨g, e, _, _, _, cur, hh, _⟩
  · cases e
  · cases e
    rw [show (⟨g, 0, none⟩ : Addr).block = g from rfl, hh] at ho
    cases ho; cases hc
theorem BytS.next {w : World} {B x n cp : Nat} {p : Option Addr} {k nd : Nat} {L : List Nat} {pq : Option Addr} {cq : Nat} {W W5 : World} (h : BytS w B x n cp p k nd L pq cq W) (hw : w.heap.size + 3 ≤ B) (hp : ∀ a, p = some a → a.block < w.heap.size) (i v : Nat) (hik : i + k + 1 = n) (hv : v = x / 4294967296 ^ i % 4294967296)
    {pq2 : Option Addr} {cq2 : Nat} (hP : Pushed .u8 5 W pq (L ++ be4 v) pq2 cq2 W5) :
    KeepsFrom B W (W5.setCell ⟨w.heap.size + 1, 0, none⟩ (.slice pq2 (nd + 4) cq2)) ∧ BytI w B x n cp p (k + 1) (W5.setCell ⟨w.heap.size + 1, 0, none⟩ (.slice pq2 (nd + 4) cq2)) := by
  obtain ⟨hS, hm, g, rfl, hor⟩ := hP
  have hgB : B ≤ g := by
    rcases hor with e | e
    · exact h.new _ e
    · have := h.hB; omega
  have hv4 : v < 4294967296 := by rw [hv]; exact Nat.mod_lt _ (by decide)
  have hm2 : Mod (fun i => (∃ a, pq = some a ∧ i = a.block) ∨ i = w.heap.size + 1) W (W5.setCell ⟨w.heap.size + 1, 0, none⟩ (.slice (some ⟨g, 0, none⟩) (nd + 4) cq2)) :=
    Mod.setCell (S := fun i => (∃ a, pq = some a ∧ i = a.block) ∨ i = w.heap.size + 1) (p := ⟨w.heap.size + 1, 0, none⟩) (hm.mono (fun i _ hs => Or.inl hs)) (fun _ => Or.inr rfl) _
  have hBp : ∀ i, (∃ a, pq = some a ∧ i = a.block) → B ≤ i := by rintro i ⟨a, e, rfl⟩; exact h.new a e
  refine ⟨⟨hm2.size, fun j o hj hk hc => ?_⟩, nd + 4, L ++ be4 v, some ⟨g, 0, none⟩, cq2, ?_, ?_, ?_, ?_, ?_, ?_, ?_, ?_, ?_, ?_, ?_⟩
  · have hjl := (Array.getElem?_eq_some_iff.1 hk).1
    refine (hm2.block j hjl ?_).trans hk
    rintro (⟨a, e, rfl⟩ | e)
    · subst e
      rcases h.s.shape with ⟨e, _⟩ | ⟨g', e, _, _, _, cur, hh, _⟩
      · cases e
      · cases e
        rw [show (⟨g', 0, none⟩ : Addr).block = g' from rfl, hh] at hk
        cases hk; cases hc
    · omega
  · rw [List.length_append, h.len]; rfl
  · have := h.nd4; omega
  · intro z hz
    rcases List.mem_append.1 hz with hz | hz
    · exact h.lt z hz
    · exact be4_lt hv4 z hz
  · rw [vl_be4, h.val, show n - k = i + 1 by omega, show n - (k + 1) = i by omega, hv, Nat.pow_succ, ← Nat.div_div_eq_div_mul]
    exact Nat.mod_add_div _ _
  · exact hS.other ⟨w.heap.size + 1, 0, none⟩ _ (fun a e => by cases e; show g ≠ w.heap.size + 1; omega)
  · rintro a e; cases e; exact hgB
  · exact (Boxed.mod' h.b1 hm (fun e => by have := hBp _ e; omega)).set _
  · exact Boxed.mod' h.b2 hm2 (by rintro (e | e); · have := hBp _ e; omega
                                  · omega)
  · exact h.lim.kept hm2 (fun a e hs => by have := hp a e; rcases hs with hs | hs; · have := hBp _ hs; omega
                                           · omega)
  · exact h.m.trans (hm2.to_below h.m.size (by rintro i hi (hs | hs); · have := hBp _ hs; omega
                                               · omega))
  · exact Nat.le_trans h.hB hm2.size

set_option maxRecDepth 100000 in
set_option maxHeartbeats 20000000 in
theorem bytes_any (p : Option Addr) (cp x : Nat) (w : World) (hx : NatIn w p cp x) (hl : (lb x).length ≤ 100000) :
    Calls Tryd.prog 32 #[.agg #[.slice p (lb x).length cp]] w fun r w' => r = .returned (.string ⟨(byts x).toArray⟩) ∧ Below w.heap.size w w' := by
  obtain ⟨n, hn⟩ : ∃ n, n = (lb x).length := ⟨_, rfl⟩
  rw [← hn] at hl ⊢
  have Hn := Lib.hid hn
  clear hn
  refine (callsIn_wide (n := 3)).1 ?_
  refine callsIn_of_wp_marks Tryd.func32 rfl trivial ?_ rfl
  simp only [Tryd.ntmps32, List.size_toArray, List.length_cons, List.length_nil, Nat.reduceAdd, Nat.reduceSub, Array.replicate_succ, Array.replicate_zero, List.push_toArray, List.append_toArray, List.nil_append, List.cons_append]
  gi_wp2_with (refine ⟨trivial, ?_⟩; gi_at_call 58; refine (backward_in Fence.wide (3 - 1) trivial rfl _ _ _ _).mono ?_; rintro e w' ⟨rfl, rfl⟩)
  obtain ⟨W0, hW0⟩ : ∃ W0, W0 = (((w.alloc (.cells #[.slice p n cp] 25)).alloc (.cells #[.slice none 0 0] 71)).alloc (.cells #[.slice p n cp] 23)) := ⟨_, rfl⟩
  have hB0 : Below w.heap.size w W0 := by rw [hW0]; exact (((Below.refl _ _).alloc (Nat.le_refl _) _).alloc (by simp) _).alloc (by simp; omega) _
  have hs0 : W0.heap.size = w.heap.size + 3 := by rw [hW0]; simp
  have hpl : ∀ a, p = some a → a.block < w.heap.size := by rintro a rfl; exact hx.lt
  have k1 : Boxed W0 (w.heap.size + 1) 71 (.slice none 0 0) := by
    have := (Boxed.new (w.alloc (.cells #[.slice p n cp] 25)) 71 (.slice none 0 0)).alloc (.cells #[.slice p n cp] 23)
    rw [hW0]; rwa [World.size_alloc] at this
  have k2 : Boxed W0 (w.heap.size + 1 + 1) 23 (.slice p n cp) := by
    have := Boxed.new ((w.alloc (.cells #[.slice p n cp] 25)).alloc (.cells #[.slice none 0 0] 71)) 23 (.slice p n cp)
    rw [hW0]; rwa [World.size_alloc, World.size_alloc] at this
  rw [← hW0]
  clear hW0
  have hxn : x < 4294967296 ^ n := by rw [Hn.out]; exact lt_pow_dg 4294967296 (by decide) x
  have h0 : BytI w W0.heap.size x n cp p 0 W0 :=
    ⟨0, [], none, 0, rfl, rfl, by simp, by rw [Nat.sub_zero, Nat.div_eq_of_lt hxn]; rfl, Sl.empty _ _ _, (fun a e => by cases e), k1, k2, hx.old hB0, hB0, Nat.le_refl _⟩
  obtain ⟨A, hA⟩ : ∃ A, A = lb x := ⟨_, rfl⟩
  have HA := Lib.hid hA
  have hAl : A.length = n := by rw [hA, Hn.out]
  have HAl := Lib.hid hAl
  clear k1 k2 hB0 hx hA hxn hAl
  refine wpIn_rounds (F := Fence.wide) rfl (by decide) (gf := 69) (lb := #[.pointer (some ⟨w.heap.size + 1 + 1, 0, none⟩)]) rfl trivial (enters_of Tryd.func69 (by kernel_rfl) rfl)
    (back_rounds Fence.wide (3 - 1) trivial rfl (by decide) (w.heap.size + 1 + 1) p cp A (by rw [HAl.out]; omega) _) (fun _ => rfl)
    (BytI w W0.heap.size x n cp p) (fun _ _ _ => False) ?hR (BytI.own (by omega) hpl) (fun _ _ _ _ _ hs _ _ => hs) h0
    (fun k => { tmps := #[.agg #[.slice p n cp], .pointer (some ⟨w.heap.size, 0, none⟩), .string ⟨#[]⟩, .pointer (some ⟨w.heap.size + 1, 0, none⟩), undef, .int .u32 ((A.getD (A.length - 1 - k) 0 : Nat) : Int), .pointer (some ⟨w.heap.size, 0, none⟩), .slice p n cp, .func (.func 69) #[] #[.pointer (some ⟨w.heap.size + 1 + 1, 0, none⟩)], .int .i64 ((A.length - 1 - k : Nat) : Int), .int .u32 ((A.getD (A.length - 1 - k) 0 : Nat) : Int), undef, undef, undef, undef, undef, undef, undef, undef, undef, undef, undef, undef, undef, undef, undef, undef, undef], defers := [] }) ?assign ?body ?done ?stop
  case hR =>
    rintro k W ⟨nd, L, pq, cq, h⟩
    refine ⟨by rw [HAl.out]; exact h.b2.cell, fun i hi hik => ?_⟩
    have h1' : Sl .u32 38 W p cp A := by rw [HA.out]; exact h.lim
    obtain ⟨g, rfl⟩ := h1'.isPtr (by intro e; rw [e] at hi; simp at hi)
    exact ⟨g, rfl, h1'.cell i hi⟩
  case assign =>
    intro l k W K hK
    unfold backArgs
    generalize A.getD (A.length - 1 - k) 0 = v at hK ⊢
    generalize A.length - 1 - k = i at hK ⊢
    gi_wp2
    exact hK
  case body =>
    rintro l k W ⟨nd, L, pq, cq, h⟩ hk
    rw [HAl.out] at hk
    obtain ⟨i, hi⟩ : ∃ i, i = A.length - 1 - k := ⟨_, rfl⟩
    have hik : i + k + 1 = n := by have := HAl.out; omega
    obtain ⟨v, hv⟩ : ∃ d, d = x / 4294967296 ^ i % 4294967296 := ⟨_, rfl⟩
    have hgd : A.getD i 0 = v := by rw [hv, HA.out]; exact dg_getD 4294967296 (by decide) x i
    rw [← hi, hgd]
    have lv : v < 4294967296 := by rw [hv]; exact Nat.mod_lt _ (by decide)
    have c1 := h.b1.cell
    have f1 := h.b1.frozen
    have Hend := Lib.hid (fun pq2 cq2 W5 hP => h.next (W5 := W5) (pq2 := pq2) (cq2 := cq2) (by omega) hpl i v hik hv hP)
    have HS := Lib.hid h.s
    have HL := Lib.hid h.len
    have hnd : nd ≤ 400000 := by have := h.nd4; omega
    have hB1 : w.heap.size + 1 < W.heap.size := by have := h.hB; omega
    have Hb1 := Lib.hid h.b1
    have hnq : ∀ a, pq = some a → a.block ≠ w.heap.size + 1 := by intro a e; have := h.new a e; omega
    have Hnq := Lib.hid hnq
    obtain ⟨z1, hz1⟩ : ∃ z, z = v / 16777216 := ⟨_, rfl⟩
    obtain ⟨z2, hz2⟩ : ∃ z, z = v / 65536 % 256 := ⟨_, rfl⟩
    obtain ⟨z3, hz3⟩ : ∃ z, z = v / 256 % 256 := ⟨_, rfl⟩
    obtain ⟨z4, hz4⟩ : ∃ z, z = v % 256 := ⟨_, rfl⟩
    have e1 : (v : Int) / 16777216 = z1 := by omega
    have e2 : (v : Int) / 65536 % 256 = z2 := by omega
    have e3 : (v : Int) / 256 % 256 = z3 := by omega
    have e4 : (v : Int) % 256 = z4 := by omega
    have hbe : be4 v = [z1, z2, z3, z4] := by unfold be4; rw [hz1, hz2, hz3, hz4]
    rw [hbe] at Hend
    clear h hv hgd hi h0 hpl hs0 hk hik hnq hz1 hz2 hz3 hz4 hbe
    gi_wp2_with (gi_at_builtin; refine wpListIn_push rfl _ _ .u8 71 5 (.int .u8 0) 1 rfl Tryd.underlying71 info_u8 rfl (by decide) pq cq nd 4 L [z1, z2, z3, z4] HL.out rfl (by decide) rfl HS.out rfl (by omega) ?_; intro pq2 cq2 W5 hP; have b5 := Boxed.mod' Hb1.out hP.2.1 (by rintro ⟨a, e, h⟩; exact Hnq.out a e h.symm); have c5 := b5.cell; have f5 := b5.frozen; have HP := Lib.hid hP; clear hP b5)
    exact Hend.out _ _ _ HP.out
  case done =>
    rintro D W hD ⟨nd, L, pq, cq, h⟩ hK
    have hv := h.val
    have hnd := h.nd4
    rw [HAl.out] at hv hnd
    rw [Nat.sub_self, Nat.pow_zero, Nat.div_one] at hv
    have hfin := strip_bytes L h.lt
    rw [hv] at hfin
    have Hfin := Lib.hid hfin
    have c1 := h.b1.cell
    have hcv := conv_str pq cq nd L h.len W h.s
    have hbl := h.m
    clear hfin hv h0 hnd h
    gi_wp2_with (refine ⟨trivial, ?_⟩; gi_at_call 56; refine (callsIn_wide.2 (trimleft_any (chars L) 0 (by decide) W)).mono ?_; rintro e w' ⟨rfl, rfl⟩)
    refine ⟨by simp, .inl ⟨_, _, rfl, run_takeDeferred hK, ?_⟩⟩
    have hmD : Mod (fun i => W0.heap.size ≤ i) W (W.putObj D (.deferred none)) := (Mod.refl _ _).grown (grownBy_putObj' _ D _) (fun k e _ => by cases e; exact hD)
    exact ⟨_, results_tmp rfl _ _ _, by rw [← Hfin.out]; rfl, hbl.trans (hmD.to_below hbl.size (by intro i hi hs; omega))⟩
  case stop =>
    rintro D c k W _ _ h _
    exact h.elim
end Go.Proofs.YtepibfpdkjkdjaaDoor
