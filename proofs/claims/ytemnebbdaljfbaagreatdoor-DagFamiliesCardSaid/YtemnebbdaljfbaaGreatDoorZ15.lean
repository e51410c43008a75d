/- Texts 15: what the laws lean on. -/
import Derived.RangeFuncNested
import Derived.RangeFuncBox
import Derived.RangeFuncLeaves
import Derived.RangeFuncGives
import Derived.WalkKit
import Derived.OwnWalkIn
import Derived.Test.YtemnebbdaljfbaaGreatDoorZ5
import Derived.Sort.MapsRangeIn
import Derived.Sort.KeysCollected
import Derived.Test.YtemnebbdaljfbaaGreatDoorZ1
import Derived.Deep.AppendLies
import Derived.Great.BuildSlice
import Derived.Great.FillDense
import Derived.LoopNIn
import Derived.LoopIn
import Derived.TacticsInMore
import Derived.RegionIn
import Derived.Test.YtemnebbdaljfbaaGreatDoorZ3
import Derived.Test.YtemnebbdaljfbaaGreatDoorSortT
import Derived.Test.YtemnebbdaljfbaaGreatDoorZ7
import Derived.Test.YtemnebbdaljfbaaGreatDoorZ6
import Derived.Test.YtemnebbdaljfbaaGreatDoorZ14
set_option linter.unusedVariables false
set_option linter.unusedSimpArgs false
namespace Go.Proofs.YtemnebbdaljfbaaGreatDoor
open Go.RowKit

/-- A round ends: it goes on. -/
def roundGo {α : Type} (B : Nat) (I : List α → World → Prop) (pre : List α) (x : α) (W : World) : Exit → Act → World → Prop
  | .normal, _, W' => KeepsFrom B W W' ∧ KeepsWalks W W' ∧ I (pre ++ [x]) W'
  | _, _, _ => False

variable {F : Fence} {n : Nat} {P : Program}

theorem wpIn_gives {α : Type} {g : Operand} {ps : Array Tmp} {assign body : Code} {Q : Exit → Act → World → Prop} {a : Act} {w : World}
    (hro : F.round = none) (h1 : 1 ≤ n) {gf : Nat} {lb : Array Value} (hg : a.eval g = .func (.func gf) #[] lb) (hFg : F.fn gf) (eg : ∀ args w, (callFunc gf args).run P w = .ok (.enter gf args) w)
    {enc : α → Value} {S : List α → Prop} {N : Nat} {w0 : World} (hseq : SeqGives F (n - 1) P gf lb enc S N w0) (hb0 : Below w0.heap.size w0 w) (hps : ps.size = 1)
    (I : List α → World → Prop) (hI : OwnFrom w.heap.size I) (h0 : I [] w) (B : α → Act → World → Prop) (hB : ∀ a, OwnFrom w.heap.size (fun x W => B x a W))
    (hassign : ∀ (l : Nat) (pre : List α) (x : α) (W : World) (K : Act → World → Prop), I pre W → w.heap.size ≤ W.heap.size → (∀ a W', I pre W' → B x a W' → KeepsFrom w.heap.size W W' → KeepsWalks W W' → K a W') →
      assign.wpIn (F.inRound l) (n - 1 - 1) P (Exit.then K (fun _ _ _ => False)) { tmps := (ps.zip #[enc x]).foldl (fun t (p, v) => t.setIfInBounds p v) a.tmps, defers := [] } W)
    (hbody : ∀ (l : Nat) (pre : List α) (x : α) (b : Act) (W : World), I pre W → B x b W → pre.length < N → body.wpIn (F.inRound l) (n - 1 - 1) P (roundGo w.heap.size I pre x W) b W)
    (hdone : ∀ (D : Nat) (xs : List α) (W : World), w.heap.size ≤ D → S xs → I xs W → W.heap[D]? = some (.deferred (some [])) → Q .normal { a with defers := { target := .collected D, args := #[] } :: a.defers } W) :
    (Code.rangeFunc g ps assign body).wpIn F n P Q a w := by
  refine wpIn_rangeFunc fun fn hfn => ?_
  rw [hro]
  obtain ⟨rec, hrec⟩ : ∃ rec : LoopState → Option Code → Loop, rec = fun st pe => { state := st, pending := pe, fn, tmps := a.tmps, params := ps, assign, body, defers := w.heap.size } := ⟨_, rfl⟩
  obtain ⟨V, hV⟩ : ∃ V, V = (w.alloc (.deferred (some []))).alloc (.loop (rec .ready none)) := ⟨_, rfl⟩
  have rL : V.heap[w.heap.size + 1]? = some (.loop (rec .ready none)) := by
    have := World.alloc_heap_new (w.alloc (.deferred (some []))) (.loop (rec .ready none)); rw [World.size_alloc] at this; rw [hV]; exact this
  have rD : V.heap[w.heap.size]? = some (.deferred (some [])) := by rw [hV]; exact (Below.heap_alloc _ _ _ (by simp)).trans (World.alloc_heap_new w _)
  have vI : I [] V := by rw [hV]; exact hI.alloc _ (hI.alloc _ h0)
  have vB : Below w0.heap.size w0 V := by rw [hV]; exact hb0.trans ((((Below.refl _ w).alloc (Nat.le_refl _) _).alloc (by simp) _).mono hb0.size)
  have vS : w.heap.size + 2 ≤ V.heap.size := by rw [hV]; simp
  refine ⟨w.heap.size + 1, [{ target := .collected w.heap.size, args := #[] }], V, { target := .fn (.func gf) lb, args := #[.func (.yield (w.heap.size + 1)) #[] #[]] }, V, gf,
    #[.func (.yield (w.heap.size + 1)) #[] #[]] ++ lb, V, ?_, ?_, ?_, ?_, fun _ => h1, ?_⟩
  · rw [hV, hrec]; exact run_enterLoop_outer _ _ _ _ _
  · simp only [resolve, hg]; simp [go_sem]
  · intro f' hf'; simp [Target.leads] at hf'; subst hf'; exact hFg
  · simp [invoke, go_sem, eg]
  clear hV
  -- the two blocks of the loop's own lie on where no walk's object turns
  have keep : ∀ {A C : World} {row : Option Nat} {j : Nat} {o : Obj}, A.grownBy C row → (∀ r, row = some r → V.heap.size ≤ r ∧ ∃ o : Obj, A.heap[r]? = some o ∧ o.isWalk = true) → A.heap[j]? = some o → o.isWalk = false → C.heap[j]? = some o :=
    fun hg' hr hj ho => (grownBy_keeps hg' (fun r e => (hr r e).2) hj ho).trans hj
  have own : ∀ {A : World} {row : Option Nat}, (∀ r, row = some r → V.heap.size ≤ r ∧ ∃ o : Obj, A.heap[r]? = some o ∧ o.isWalk = true) → ∀ r, row = some r → w.heap.size ≤ r ∧ ∃ o : Obj, A.heap[r]? = some o ∧ o.isCells = false :=
    fun hr r e => by obtain ⟨hB, o, ho, hw⟩ := hr r e; exact ⟨by omega, o, ho, Obj.not_cells_of_walk hw⟩
  refine (hseq (w.heap.size + 1)
    (fun k W => I k W ∧ W.heap[w.heap.size + 1]? = some (.loop (rec .ready none)) ∧ W.heap[w.heap.size]? = some (.deferred (some [])))
    V vB (fun s A C row hs hg' hr => ⟨hI s A C row hs.1 hg' (own hr), keep hg' hr hs.2.1 rfl, keep hg' hr hs.2.2 rfl⟩) ?_ ⟨vI, rL, rD⟩).mono ?_
  · rintro pre x W ⟨hi, hl, hd⟩ hk
    have hy := run_yield (P := P) (args := #[enc x]) hl (by rw [hrec]; exact hps.symm)
    rw [hrec] at hy
    refine ⟨fn, _, assign, body, hy, roundIn_of_wpIn hfn (hassign _ pre x W _ hi (Nat.le_of_lt (Array.getElem?_eq_some_iff.1 hd).1) (fun b1 W1 hi1 hB1 hkf hkw => ?_))⟩
    have hl1 := hkf.same _ _ (by omega) hl rfl
    have hd1 := hkf.same _ _ (Nat.le_refl _) hd rfl
    refine ⟨_, run_beginRound hl1 (by rw [hrec]), ?_⟩
    obtain ⟨X, hX⟩ : ∃ X, X = W1.putObj (w.heap.size + 1) (.loop { rec .ready none with state := .busy }) := ⟨_, rfl⟩
    have xl : X.heap[w.heap.size + 1]? = some (.loop { rec .ready none with state := .busy }) := by rw [hX]; exact World.putObj_heap_same (Array.getElem?_eq_some_iff.1 hl1).1
    have xd : X.heap[w.heap.size]? = some (.deferred (some [])) := by rw [hX]; exact (World.putObj_heap_other (by omega)).trans hd1
    have xi : I pre X := by rw [hX]; exact hI.putObj _ hi1 (by omega) hl1 rfl
    have xb : B x b1 X := by rw [hX]; exact (hB b1).putObj _ hB1 (by omega) hl1 rfl
    have xk : KeepsWalks W X := hkw.trans (by rw [hX]; exact KeepsWalks.putObj _ hl1 rfl)
    rw [← hX]
    clear hX
    refine wpIn_mono (hbody _ pre x b1 X xi xb hk) ?_
    rintro e b Y hp
    cases e with
    | normal =>
      have yl := hp.1.same _ _ (by omega) xl rfl
      have := run_endRound (P := P) none yl
      rw [hrec] at this
      exact ⟨_, _, this, rfl, ⟨hI.putObj _ hp.2.2 (by omega) yl rfl, World.putObj_heap_same (Array.getElem?_eq_some_iff.1 yl).1 |>.trans (by rw [hrec]; rfl), (World.putObj_heap_other (by omega)).trans (hp.1.same _ _ (Nat.le_refl _) xd rfl)⟩, (xk.trans hp.2.1).trans (KeepsWalks.putObj _ yl rfl)⟩
    | ret => exact hp.elim
    | exit id => exact hp.elim
    | goto t => exact hp.elim
    | panic ch => exact hp.elim
    | outgrown => exact hp.elim
  · rintro e X ⟨⟨v, rfl⟩, xs, hS, hi, hl, hd⟩
    exact ⟨none, _, by have := run_endLoop (P := P) hl (by rw [hrec]; simp); rw [hrec] at this; exact this, hdone _ xs _ (Nat.le_refl _) hS (hI.putObj _ hi (by omega) hl rfl) ((World.putObj_heap_other (by omega)).trans hd)⟩
end Go.Proofs.YtemnebbdaljfbaaGreatDoor

namespace Go.Proofs.YtemnebbdaljfbaaGreatDoor
open Go.RowKit Go.ChangeMaps Go.WideShapes

section
variable {α : Type} [DecidableEq α] {E : KeyE α} {L : List (α × Value)} {left : Lit → Bool} {ss : List α}
/-- The keys met so far: no one twice; those that are no more to come. -/
structure Coll (E : KeyE α) (L : List (α × Value)) (left : Lit → Bool) (ss : List α) : Prop where
  nd : ss.Nodup
  mem : ∀ x, x ∈ ss ↔ (hasE x L = true ∧ left (E.lit x) = false)
theorem Coll.start (E : KeyE α) (L : List (α × Value)) : Coll E L (Maps.has (E.d L)) [] :=
  ⟨List.nodup_nil, fun x => by rw [has_dE]; cases hasE x L <;> simp⟩
theorem Coll.step (h : Coll E L left ss) {x : α} (hlk : left (E.lit x) = true) (hh : hasE x L = true) : Coll E L (fun z => left z && !z.sameKey (E.lit x)) (ss ++ [x]) := by
  have hnew : x ∉ ss := fun hx => by have := ((h.mem x).1 hx).2; rw [hlk] at this; cases this
  refine ⟨List.nodup_append.2 ⟨h.nd, by simp, fun a ha b hb => by simp at hb; subst hb; exact fun e => hnew (e ▸ ha)⟩, fun y => ?_⟩
  rw [List.mem_append, List.mem_singleton, h.mem y]
  by_cases hy : y = x
  · subst hy; simp [hh, E.same]
  · simp [hy, E.same]
theorem Coll.perm (h : Coll E L left ss) (hap : ApartE L) (hl : ∀ kl, left kl = false) : ss.Perm (L.map (·.1)) := by
  refine (List.perm_ext_iff_of_nodup h.nd ?_).2 (fun x => ?_)
  · exact List.pairwise_map.2 hap
  · rw [h.mem x, hl, hasE_iff]; simp
variable {P : Program} {K : TypeId} {w : World} {b : Nat}
/-- What comes out of a range over a map. -/
theorem MapK.key_of (h : MapK P K E w b L) (kd : Maps.Keyed P K) {enc : α → Value} (henc : ∀ x ∈ L, keyOf P K (enc x.1) = some (E.lit x.1)) {key : Value} {kl : Lit} {y : DataW Value} (hk : keyOf P K key = some kl) (hat : ∀ zd, (E.d L).atKey kl zd = y) : ∃ x, hasE x L = true ∧ kl = E.lit x ∧ key = enc x := by
  have hh : Maps.has (E.d L) kl = true := Maps.has_true_of_atKey hat
  have hh2 : (E.es L).any (fun p => p.1.sameKey kl) = true := hh
  rw [anyE, List.any_eq_true] at hh2
  obtain ⟨x, hx, he⟩ := hh2
  have e : E.lit x.1 = kl := WideAt.sameKey_eq he
  subst e
  exact ⟨x.1, hasE_iff.2 (List.mem_map_of_mem hx), rfl, kd.inj hk (henc x hx)⟩
end
theorem wpListIn_exec {F : Fence} {n : Nat} {P : Program} {ops : Array Oper} {rest : List Oper} {o : Oper} {a : Act} {w w' : World} {Q : Exit → Act → World → Prop} {v : Value} (hgd : o.guard = none) (hc : ∀ c, o.op ≠ .defer c) (hab : o.about P w a.eval = none)
    (hr : (execOp a.eval o).run P w = .ok (.value v) w') (h : wpListIn F n P ops Q rest (a.put o.dst v) w') : wpListIn F n P ops Q (o :: rest) a w := by
  refine wpListIn_plain hgd fun K hK => ?_
  unfold Oper.wpIn
  refine ⟨(fun f hf => by rw [hab] at hf; cases hf), ?_⟩
  rw [Oper.semAt_plain F _ _ hc, hr]
  exact hK _ _ h
theorem rowC_new (w : World) (o : Obj) (old cs : Array Value) (t : TypeId) (ho : o = .cells old t (0, 0)) : ((w.alloc o).setRow w.heap.size cs).heap[w.heap.size]? = some (.cells cs t (0, 0)) ∧ Below w.heap.size w ((w.alloc o).setRow w.heap.size cs) := by
  subst ho
  have hb : Below w.heap.size w (w.alloc (.cells old t)) := (Below.refl _ w).alloc (Nat.le_refl _) _
  exact ⟨setRow_heap _ _ old cs t (0, 0) (heap_alloc_new w _), hb.trans (((Mod.refl (fun _ => False) (w.alloc (.cells old t))).setRow (g := w.heap.size) cs).to_below hb.size (by rintro i hi (h | h) <;> first | exact h | omega))⟩
theorem wpListIn_gen {F : Fence} {n : Nat} {P : Program} {ops : Array Oper} {rest : List Oper} {a : Act} {w : World} {Q : Exit → Act → World → Prop} (R : World → Prop) (hR : R w) (h : ∀ w', R w' → wpListIn F n P ops Q rest a w') : wpListIn F n P ops Q rest a w := h w hR
/-- A whole variable is stored: inside a fence. -/
theorem wpListIn_store_row {F : Fence} {n : Nat} {P : Program} {ops : Array Oper} {rest : List Oper} {o : Oper} {a : Act} {w : World} {Q : Exit → Act → World → Prop} (hgd : o.guard = none) (hdst : o.dst = none) (ty : TypeId) (x y : Operand) (ho : o.op = .store ty x y)
    (g : Nat) (hx : a.eval x = .pointer (some ⟨g, 0, none⟩)) (t : TypeId) (old cs : Array Value) (hy : a.eval y = .agg cs) (hg : w.heap[g]? = some (.cells old t (0, 0))) (hsz : old.size = cs.size)
    (hi : (P.info? ty).map (·.size) = some cs.size) (h1 : ∀ v ∈ cs.toList, v.oneCell' = true)
    (h : wpListIn F n P ops Q rest a (w.setRow g cs)) : wpListIn F n P ops Q (o :: rest) a w := by
  have hst := run_storeCells_at P g 0 t cs.toList 0 old w hg (by simp; omega) h1
  have e : (old.toList.take (0 + 0) ++ cs.toList ++ old.toList.drop (0 + 0 + cs.toList.length)).toArray = cs := by
    have : old.toList.drop (0 + 0 + cs.toList.length) = [] := List.drop_eq_nil_of_le (by simp; omega)
    rw [this]; simp
  rw [e] at hst
  cases hq : P.info? ty with
  | none => simp [hq] at hi
  | some i =>
    have hs : i.size = cs.size := by simpa [hq] using hi
    have hv : (storeVar ty ⟨g, 0, none⟩ (.agg cs)).run P w = .ok () (w.setRow g cs) := by
      simp [storeVar, sizeOf, typeInfo, hq, hs, Value.cells, hst]
    refine wpListIn_plain hgd fun K hK => ?_
    unfold Oper.wpIn
    refine ⟨by simp [Oper.about, ho], ?_⟩
    rw [Oper.semAt_plain F _ _ (by rw [ho]; intro c hc; cases hc)]
    unfold execOp
    simp only [ho, hx, hy, Instr.storeAt, Instr.sureAddr, Sem.run_bind, Sem.run_pure, Result.andThen_ok, hv]
    exact hK _ _ (by rw [hdst]; exact h)
theorem build_elem {α : Type} {P : Program} {o : Oper} {a : Act} {w : World} (E : Enc α) (Ts T : TypeId) (z : Value) (by_ : Nat) (hT : P.underlying Ts = some (.slice T)) (hi : (P.info? T).map (fun i => (i.zero, i.size, i.bytes)) = some (some z, E.k, by_)) (hk : E.k ≤ 1000)
    (x : Operand) (ho : o.op = .buildSlice Ts 1 #[(0, x)]) (y : α) (v : Value) (hv : v.cells = (E.f y).toArray) (hx : a.eval x = v) :
    (execOp a.eval o).run P w = .ok (.value (.slice (some ⟨w.heap.size, 0, none⟩) 1 1)) (w.alloc (.cells (E.f y).toArray T)) := by
  cases hq : P.info? T with
  | none => rw [hq] at hi; cases hi
  | some i =>
    rw [hq] at hi
    simp only [Option.map_some, Option.some.injEq, Prod.mk.injEq] at hi
    obtain ⟨hz, h1, _⟩ := hi
    have hpos := E.pos
    have hf := Great.fill_whole (s := E.k) E.pos [v] ((Array.range (1 * E.k)).map (z.cells[· % z.cells.size]!)) (by intro u hu; rw [List.mem_singleton.1 hu, hv, List.size_toArray, E.len]) (by simp)
    have hb := run_buildSlice (P := P) w Ts T 1 #[(0, v)] (E.f y).toArray i z hT hq hz (by rw [h1]; omega) (by rw [h1]; omega) (by
      rw [h1]
      refine hf.trans ?_
      simp [hv])
    unfold execOp
    simp only [ho, List.map_toArray, List.map_cons, List.map_nil, hx, Sem.run_bind, hb, Result.andThen_ok, Sem.run_pure]
/-- Elements are appended: inside a fence. -/
theorem wpListIn_pushE {α : Type} {F : Fence} {nF : Nat} {P : Program} {ops : Array Oper} {rest : List Oper} {o : Oper} {a : Act} {Q : Exit → Act → World → Prop} {w : World} (E : Enc α) (hgd : o.guard = none) (s x : Operand) (Ts T : TypeId) (z : Value) (by_ : Nat)
    (ho : o.op = .call { callee := .builtin .append, args := #[s, x], argTypes := #[Ts, Ts] }) (hT : P.underlying Ts = some (.slice T)) (hi : (P.info? T).map (fun i => (i.zero, i.size, i.bytes)) = some (some z, E.k, by_)) (hzs : z.cells.size = E.k) (hby : by_ ≤ 1024)
    (p : Option Addr) (cap n : Nat) (L : List α) (hn : L.length = n) (hs : a.eval s = .slice p n cap) (hS : Rw E T w p cap L) (ao : Option Addr) (m cx : Nat) (Y : List α) (hm : Y.length = m) (h0 : 0 < m) (hx : a.eval x = .slice ao m cx) (hY : Rd E w ao Y) (hl : n + m ≤ 100000000000)
    (h : ∀ q c w', PushR E T w p (L ++ Y) q c w' → wpListIn F nF P ops Q rest (a.put o.dst (.slice q (n + m) c)) w') :
    wpListIn F nF P ops Q (o :: rest) a w := by
  cases hq : P.info? T with
  | none => rw [hq] at hi; cases hi
  | some i =>
    rw [hq] at hi
    simp only [Option.map_some, Option.some.injEq, Prod.mk.injEq] at hi
    obtain ⟨hz, h1, h2⟩ := hi
    subst hn
    subst hm
    have hmul : (L.length + Y.length) * by_ ≤ 140737488355328 := Nat.le_trans (Nat.mul_le_mul hl hby) (by decide)
    obtain ⟨bs, off, rfl, hbs, _⟩ := hY 0 h0
    refine wpListIn_plain hgd fun K hK => ?_
    obtain ⟨g, c, w', hr, hown, hgrow, hat, _⟩ := run_append_lies (P := P) w Ts o.type 0 T i z E.k by_ hT hq hz h1 h2 hzs E.pos _ L.length (E.all L) hS ⟨bs, off, none⟩ Y.length cx (E.all Y) (E.all_len Y) (by
      intro j u hj
      have hjl : j < Y.length * E.k := by
        have := (List.getElem?_eq_some_iff.1 hj).1
        rwa [E.all_len] at this
      have hd : j / E.k < Y.length := by rw [Nat.div_lt_iff_lt_mul E.pos]; exact hjl
      have hr : j % E.k < E.k := Nat.mod_lt _ E.pos
      have he : j / E.k * E.k + j % E.k = j := by rw [Nat.mul_comm]; exact Nat.div_add_mod j E.k
      obtain ⟨bs', off', e, _, c1⟩ := hY (j / E.k) hd
      cases e
      have hadd : (⟨bs, off, none⟩ : Addr).add j = ⟨bs, off + j, none⟩ := by unfold Addr.add; split <;> simp_all
      rw [← he, E.all_get Y _ _ hd hr] at hj
      have := c1 _ _ hj
      rw [Nat.add_assoc, he] at this
      rw [hadd, this]) (E.all_one _) h0 (by unfold maxLen; omega) hmul (Nat.zero_le _) _ rfl
    unfold Oper.wpIn
    refine ⟨by simp [Oper.about, ho, resolve, Target.leads, Sem.run_pure], ?_⟩
    rw [Oper.semAt_plain F _ _ (by rw [ho]; intro c hc'; cases hc')]
    simp [execOp, ho, resolve, invoke, builtin, hs, hx, hr, Result.andThen]
    refine hK _ _ (h (some ⟨g, 0, none⟩) c w' ⟨?_, ?_, ?_⟩)
    · unfold Rw; rw [List.length_append, E.all_app]; exact hown
    · refine (Mod.refl _ w).grown hgrow ?_
      intro j hj _
      cases p with
      | none => simp [Value.ownBlock] at hj
      | some a => simp [Value.ownBlock] at hj; exact ⟨a, rfl, hj.symm⟩
    · rintro a' e; cases e
      rcases hat with hat | hat
      · left
        rcases hS.shape with ⟨rfl, _⟩ | ⟨g', rfl, _⟩
        · simp [Value.ownBlock] at hat
        · simp [Value.ownBlock] at hat; subst hat; rfl
      · right; rw [hat]; exact Nat.le_refl _
end Go.Proofs.YtemnebbdaljfbaaGreatDoor

namespace Go.Proofs.YtemnebbdaljfbaaGreatDoor
open Go.RowKit Go.Shelf Go.Maps
attribute [local go_sem] Oper.semAt_some

theorem keysF_henc {w : World} {b : Nat} {L : List (List UInt8 × Value)} (h : MapK Tryz.prog 9 keyS w b L) : ∀ x ∈ L, keyOf Tryz.prog 9 ((fun x : List UInt8 => Value.string ⟨x.toArray⟩) x.1) = some (keyS.lit x.1) := (fun x hx => keyS_of x.1 (by obtain ⟨v, hv⟩ := h.ky x hx; obtain ⟨y, _, e, hl⟩ := Maps.keyOf_str Tryz.underlying9 hv; have e2 : x.1 = y := (by simpa [keyS] using e); rw [e2]; exact hl))
set_option maxRecDepth 100000 in
set_option maxHeartbeats 2000000 in
/-- The iterator: each key once, in some order. -/
theorem mkeysF1_in (F : Fence) (n : Nat) (h10 : F.fn 101) (hro : F.round = none) (hn : 1 ≤ n) (l Bm b : Nat) (L : List (List UInt8 × Value)) (J : List (List UInt8) → World → Prop)
    (hY : ∀ pre x W, J pre W → pre.length < L.length → YieldAt F (n - 1) Tryz.prog l #[(fun x : List UInt8 => Value.string ⟨x.toArray⟩) x] W fun e W' => e = .returned (.bool true) ∧ J (pre ++ [x]) W' ∧ KeepsWalks W W')
    (W : World) (hJ : AbidesFrom W.heap.size J) (hm : W.cell? ⟨Bm, 0, none⟩ = some (.map (some b))) (hown : MapK Tryz.prog 9 keyS W b L) (h0 : J [] W) :
    CallsIn F n Tryz.prog 101 #[.func (.yield l) #[] #[], .pointer (some ⟨Bm, 0, none⟩)] W fun e W' => (∃ v, e = .returned v) ∧ ∃ ss : List (List UInt8), ss.Perm (L.map (·.1)) ∧ J ss W' := by
  have HM := Lib.hid hown
  have HY := Lib.hid hY
  have HJ := Lib.hid hJ
  have H0 := Lib.hid h0
  have HOW := hown.own
  clear hown hY hJ h0
  refine callsIn_of_wp Tryz.func101 rfl h10 ?_ hro
  simp only [Tryz.ntmps101, List.size_toArray, List.length_cons, List.length_nil, Nat.reduceAdd, Nat.reduceSub, Array.replicate_succ, Array.replicate_zero, List.push_toArray, List.append_toArray, List.nil_append, List.cons_append]
  gi_wp2_with (first
    | (gi_at_range; refine wpListIn_range_own _ rfl _ 80 rfl 9 39 keyedS Tryz.underlying80 _ b L.length _ rfl HOW ?_; intro w0 hrg0 hg0 hs0)
    | gi_in)
  first | go_frame | skip
  gi_loopw [3] (fun _ wr => ∃ (left : Lit → Bool) (cnt : Nat) (ss : List (List UInt8)), wr.ranges Tryz.prog 9 RVE b W.heap.size L.length (keyS.d L) left cnt ∧ ss.length + cnt ≤ L.length ∧ Coll keyS L left ss ∧ J ss wr)
    (fun _ wr => wr.rangeLeft b W.heap.size)
  case atStart =>
    exact ⟨_, _, [], hrg0, by rw [size_dE]; simp, Coll.start keyS L, HJ.out [] W w0 none H0.out hg0 (fun r e => by cases e)⟩
  case round =>
    obtain ⟨left, cnt, ss, hrg, hcs, hC, hJs⟩ := hrel
    gi_wp2_with (first
      | (gi_at_next; refine wpListIn_next_ranges _ rfl _ rfl 9 keyedS RVE (fun v : Value => v) (fun v : Value => v) (fun key kl _ => ⟨key, rfl⟩) (fun v _ _ => ⟨v, rfl⟩) b W.heap.size L.length _ _ _ rfl hrg ?_ ?_)
      | gi_in)
    · -- nothing is left
      intro hc0 hl0
      gi_wp2
      go_end0
      exact ⟨⟨_, rfl⟩, ss, hC.perm HM.out.ap hl0, hJs⟩
    · -- an entry has come
      intro key c kl yd yp w2 cnt2 hkey hlk hv hv2 hat hrg2 hlt hg2 hs2 hen
      obtain ⟨x, hx, rfl, rfl⟩ := HM.out.key_of keyedS (enc := (fun x : List UInt8 => Value.string ⟨x.toArray⟩)) (keysF_henc HM.out) hkey hat
      have hJ2 : J ss w2 := HJ.out ss wr w2 (some W.heap.size) hJs hg2 (fun r e => by cases e; exact ⟨Nat.le_refl _, hrg.iter_walk⟩)
      obtain ⟨fn, tmps, assign, body, hy, hR⟩ := HY.out ss x w2 hJ2 (by omega)
      clear hs2
      gi_wp2
      refine hR.mono ?_
      rintro e W3 ⟨rfl, hJ3, hk3⟩
      gi_wp2
      have hrg3 := hrg2.of_walks hk3
      go_roundw
      case rel => exact ⟨_, cnt2, ss ++ [x], hrg3, by simp; omega, hC.step hlk hx, hJ3⟩
      case measure => rw [hrg3.left_eq, hrg.left_eq]; exact hlt
theorem mkeysF_gives (F : Fence) (n : Nat) (h10 : F.fn 101) (hro : F.round = none) (hn : 1 ≤ n) (Bm b : Nat) (L : List (List UInt8 × Value)) (w : World) (hBm : Bm < w.heap.size) (hm : w.cell? ⟨Bm, 0, none⟩ = some (.map (some b))) (hown : MapK Tryz.prog 9 keyS w b L) :
    SeqGives F n Tryz.prog 101 #[.pointer (some ⟨Bm, 0, none⟩)] (fun x : List UInt8 => Value.string ⟨x.toArray⟩) (fun ss => ss.Perm (L.map (·.1))) L.length w := fun l J W hW hJ hY h0 =>
  mkeysF1_in F n h10 hro hn l Bm b L J hY W hJ ((hW.cell (p := ⟨Bm, 0, none⟩) hBm).trans hm) (hown.old hW) h0
/-- maps.Keys. -/
theorem mkeysF_any (mb : Option Nat) (w : World) :
    Calls Tryz.prog 71 #[.map mb] w fun e w' => e = .returned (.func (.func 101) #[] #[.pointer (some ⟨w.heap.size, 0, none⟩)]) ∧ w' = w.alloc (.cells #[.map mb] 80) := by
  have hmf : ∀ (fn : Fn) (first cap : Array Value) (w : World), (Instr.makeFunc fn first cap).run Tryz.prog w = .ok (.func fn first cap) w := fun _ _ _ _ => rfl
  go_enter Tryz.func71, Tryz.ntmps71
  go_wp2_with fail
  go_ret
  exact ⟨rfl, rfl⟩
section
variable (w : World)
/-- The memory of AppendSeq. -/
structure GatF (w : World) (ss : List (List UInt8)) (q : Option Addr) (cq : Nat) (W : World) : Prop where
  s : Rw encS 9 W q cq ss
  new : ∀ a, q = some a → w.heap.size + 1 ≤ a.block
  bx : W.heap[w.heap.size]? = some (.cells #[.slice q ss.length cq] 27 (0, 0))
  m : Below w.heap.size w W
  hB : w.heap.size + 1 ≤ W.heap.size
def GatFI (w : World) (ss : List (List UInt8)) (W : World) : Prop := ∃ q cq, GatF w ss q cq W
variable {w}
theorem GatF.step {ss : List (List UInt8)} {q : Option Addr} {cq : Nat} {W W' : World} {S : Nat → Prop} (h : GatF w ss q cq W) (hm : Mod S W W') (hS : ∀ i, S i → w.heap.size + 1 ≤ i) (hq : ∀ a, q = some a → ¬ S a.block) : GatF w ss q cq W' :=
  ⟨h.s.kept hm hq, h.new, (hm.block _ (by have := h.hB; omega) (fun hs => by have := hS _ hs; omega)).trans h.bx,
    h.m.trans (hm.to_below h.m.size (fun i hi hs => by have := hS _ hs; omega)), Nat.le_trans h.hB hm.size⟩
theorem GatFI.own : OwnFrom (w.heap.size + 1) (GatFI w) := by
  rintro k W W' row ⟨q, cq, h⟩ hg hr
  have hm : Mod (fun i => row = some i) W W' := (Mod.refl _ _).grown hg (fun k e _ => e)
  refine ⟨q, cq, h.step hm (fun i e => (hr i e).1) (fun a e hs => ?_)⟩
  subst e
  obtain ⟨o, ho, hc⟩ := (hr _ hs).2
  rcases h.s.shape with ⟨e, _⟩ | ⟨g, e, _, _, _, cur, hh, _⟩
  · cases e
  · cases e
    rw [show (⟨g, 0, none⟩ : Addr).block = g from rfl, hh] at ho
    cases ho; cases hc
theorem GatF.next {ss : List (List UInt8)} {x : List UInt8} {q : Option Addr} {cq : Nat} {W W1 W5 : World} (h : GatF w ss q cq W) (hb : Below W.heap.size W W1)
    {q2 : Option Addr} {cq2 : Nat} (hP : PushR encS 9 W1 q (ss ++ [x]) q2 cq2 W5) :
    KeepsFrom (w.heap.size + 1) W (W5.setCell ⟨w.heap.size, 0, none⟩ (.slice q2 (ss.length + 1) cq2)) ∧ KeepsWalks W (W5.setCell ⟨w.heap.size, 0, none⟩ (.slice q2 (ss.length + 1) cq2)) ∧ GatFI w (ss ++ [x]) (W5.setCell ⟨w.heap.size, 0, none⟩ (.slice q2 (ss.length + 1) cq2)) := by
  obtain ⟨hS, hm, hor⟩ := hP
  have hnew : ∀ a, q2 = some a → w.heap.size + 1 ≤ a.block := by
    intro a e
    rcases hor a e with e | e
    · exact h.new _ e
    · have := h.hB; have := hb.size; omega
  have hm0 : Mod (fun i => ∃ a, q = some a ∧ i = a.block) W W5 := ((Mod.of_below hb).mono (T := fun i => ∃ a, q = some a ∧ i = a.block) (fun i hi h => absurd hi (by omega))).trans hm (fun _ _ h => h)
  have hm2 : Mod (fun i => (∃ a, q = some a ∧ i = a.block) ∨ i = w.heap.size) W (W5.setCell ⟨w.heap.size, 0, none⟩ (.slice q2 (ss.length + 1) cq2)) :=
    Mod.setCell (S := fun i => (∃ a, q = some a ∧ i = a.block) ∨ i = w.heap.size) (p := ⟨w.heap.size, 0, none⟩) (hm0.mono (fun i _ hs => Or.inl hs)) (fun _ => Or.inr rfl) _
  have hBp : ∀ i, (∃ a, q = some a ∧ i = a.block) → w.heap.size + 1 ≤ i := by rintro i ⟨a, e, rfl⟩; exact h.new a e
  have hbx5 : W5.heap[w.heap.size]? = some (.cells #[.slice q ss.length cq] 27 (0, 0)) := (hm0.block _ (by have := h.hB; omega) (fun hs => by have := hBp _ hs; omega)).trans h.bx
  have hnc : ∀ j o, W.heap[j]? = some o → ((∃ a, q = some a ∧ j = a.block) ∨ j = w.heap.size) → ∃ cs T fr, o = .cells cs T fr := by
    rintro j o hk (⟨a, e, rfl⟩ | rfl)
    · subst e
      rcases h.s.shape with ⟨e, _⟩ | ⟨g', e, _, _, _, cur, hh, _⟩
      · cases e
      · cases e
        rw [show (⟨g', 0, none⟩ : Addr).block = g' from rfl, hh] at hk
        cases hk; exact ⟨_, _, _, rfl⟩
    · rw [h.bx] at hk; cases hk; exact ⟨_, _, _, rfl⟩
  refine ⟨⟨hm2.size, fun j o hj hk hc => ?_⟩, ⟨hm2.size, fun j o hk hc => ?_⟩, q2, cq2, ⟨?_, hnew, ?_, ?_, Nat.le_trans h.hB hm2.size⟩⟩
  · refine (hm2.block j (Array.getElem?_eq_some_iff.1 hk).1 (fun hs => ?_)).trans hk
    obtain ⟨cs, T, fr, rfl⟩ := hnc j o hk hs
    cases hc
  · refine (hm2.block j (Array.getElem?_eq_some_iff.1 hk).1 (fun hs => ?_)).trans hk
    obtain ⟨cs, T, fr, rfl⟩ := hnc j o hk hs
    cases hc
  · refine hS.kept (S := fun i => i = w.heap.size) ((Mod.refl (fun i => i = w.heap.size) W5).setCell (fun _ => rfl) _) (fun a e hs => by have := hnew a e; omega)
  · rw [heap_setCell_same W5 w.heap.size 0 _ 27 (.slice q2 (ss.length + 1) cq2) hbx5, List.length_append]; rfl
  · exact h.m.trans (hm2.to_below h.m.size (by rintro i hi (hs | hs)
                                               · have := hBp _ hs; omega
                                               · omega))
end
set_option maxRecDepth 100000 in
set_option maxHeartbeats 8000000 in
/-- slices.AppendSeq against whatever iterator. -/
theorem appseqF_any (w : World) (gf : Nat) (lb : Array Value) (eg : ∀ args w, (callFunc gf args).run Tryz.prog w = .ok (.enter gf args) w) (S : List (List UInt8) → Prop) (N : Nat) (hN : N ≤ 1000000) (hseq : SeqGives Fence.wide (3 - 1) Tryz.prog gf lb (fun x : List UInt8 => Value.string ⟨x.toArray⟩) S N w) :
    Calls Tryz.prog 133 #[.slice none 0 0, .func (.func gf) #[] lb] w fun e w' => ∃ q cq ss, e = .returned (.slice q ss.length cq) ∧ S ss ∧ Rw encS 9 w' q cq ss ∧ (∀ a, q = some a → w.heap.size ≤ a.block) ∧ Below w.heap.size w w' := by
  obtain ⟨W0, hW0⟩ : ∃ W0, W0 = w.alloc (.cells #[.slice none 0 0] 27) := ⟨_, rfl⟩
  have hs0 : W0.heap.size = w.heap.size + 1 := by rw [hW0]; simp
  have hB0 : Below w.heap.size w W0 := by rw [hW0]; exact (Below.refl _ _).alloc (Nat.le_refl _) _
  have h0 : GatFI w [] W0 := ⟨none, 0, Rw.empty _ _, (fun a e => by cases e), by rw [hW0]; exact heap_alloc_new _ _, hB0, by omega⟩
  obtain ⟨vs, hvs⟩ : ∃ vs : Value, vs = .func (.func gf) #[] lb := ⟨_, rfl⟩
  refine (callsIn_wide (n := 3)).1 ?_
  refine callsIn_of_wp_marks Tryz.func133 rfl trivial ?_ rfl
  simp only [Tryz.ntmps133, List.size_toArray, List.length_cons, List.length_nil, Nat.reduceAdd, Nat.reduceSub, Array.replicate_succ, Array.replicate_zero, List.push_toArray, List.append_toArray, List.nil_append, List.cons_append]
  gi_wp2_with fail
  rw [← hW0]
  clear hW0
  have hI : OwnFrom W0.heap.size (GatFI w) := by rw [hs0]; exact GatFI.own
  refine wpIn_gives (F := Fence.wide) rfl (by decide) (gf := gf) (lb := lb) rfl trivial eg hseq hB0 rfl (GatFI w) hI h0 (fun x a W => a = { tmps := #[.slice none 0 0, .func (.func gf) #[] lb, .pointer (some ⟨w.heap.size, 0, none⟩), undef, .slice none 0 0, Value.string ⟨x.toArray⟩, .func (.func gf) #[] lb, Value.string ⟨x.toArray⟩, undef, undef, undef, undef, undef], defers := [] }) ?hB ?assign ?body ?done
  case hB => intro a x W W' row h _ _; exact h
  case assign =>
    intro l pre x W K hI1 hsz hK
    have HK := Lib.hid hK
    have HI := Lib.hid hI1
    obtain ⟨y, hy⟩ : ∃ y : Value, y = Value.string ⟨x.toArray⟩ := ⟨_, rfl⟩
    rw [← hy] at HK ⊢
    rw [← hvs] at HK ⊢
    clear hy hvs hI1 hK h0 hI
    gi_wp2
    exact HK.out _ _ HI.out rfl (KeepsFrom.refl _ _) (KeepsWalks.refl _)
  case body =>
    rintro l pre x b W ⟨q, cq, h⟩ rfl hk
    have c1 : W.cell? ⟨w.heap.size, 0, none⟩ = some (.slice q pre.length cq) := by unfold World.cell?; rw [h.bx]; rfl
    have hb1 : Below W.heap.size W (W.alloc (.cells (encS.f x).toArray 9)) := (Below.refl _ _).alloc (Nat.le_refl _) _
    have Hend : Hid (∀ q2 cq2 W5, PushR encS 9 (W.alloc (.cells (encS.f x).toArray 9)) q (pre ++ [x]) q2 cq2 W5 → roundGo (w.heap.size + 1) (GatFI w) pre x W .normal { tmps := #[], defers := [] } (W5.setCell ⟨w.heap.size, 0, none⟩ (.slice q2 (pre.length + 1) cq2))) := Lib.hid (by
      intro q2 cq2 W5 hP
      exact h.next hb1 hP)
    have HS1 := Lib.hid (h.s.old hb1)
    have HY : Hid (Rd encS (W.alloc (.cells (encS.f x).toArray 9)) (some ⟨W.heap.size, 0, none⟩) [x]) := Lib.hid (by have := Rd.made encS W 9 [x] (by simp [maxLen]); rw [show encS.all [x] = encS.f x by simp [Enc.all]] at this; exact this)
    have hk9 : pre.length ≤ 1000000 := by omega
    have HBX : Hid (∀ q2 cq2 W5, PushR encS 9 (W.alloc (.cells (encS.f x).toArray 9)) q (pre ++ [x]) q2 cq2 W5 → W5.heap[w.heap.size]? = some (.cells #[.slice q pre.length cq] 27 (0, 0))) := Lib.hid (by
      intro q2 cq2 W5 hP
      have h1 := (hb1.block w.heap.size (by have := h.hB; omega)).trans h.bx
      refine (hP.2.1.block w.heap.size (by have := h.hB; have := hb1.size; omega) ?_).trans h1
      rintro ⟨a, e, h2⟩
      have := h.new a e; omega)
    obtain ⟨m, hm⟩ : ∃ m, m = pre.length := ⟨_, rfl⟩
    have HM : Hid (pre.length = m) := Lib.hid hm.symm
    obtain ⟨XC, hXC⟩ : ∃ XC : Array Value, XC = (encS.f x).toArray := ⟨_, rfl⟩
    obtain ⟨y, hy⟩ : ∃ y : Value, y = Value.string ⟨x.toArray⟩ := ⟨_, rfl⟩
    have HYC : Hid (y.cells = (encS.f x).toArray) := Lib.hid (by rw [hy]; rfl)
    have HXC := Lib.hid hXC
    have HYV := Lib.hid hy
    have HBD : Hid (∀ (o : Oper) (a : Act) (xx : Operand), o.op = .buildSlice 27 1 #[(0, xx)] → a.eval xx = y → (execOp a.eval o).run Tryz.prog W = .ok (.value (.slice (some ⟨W.heap.size, 0, none⟩) 1 1)) (W.alloc (.cells XC 9))) := Lib.hid (fun o a xx ho hx => by have hb := build_elem (P := Tryz.prog) (w := W) encS 27 9 (.string ⟨#[]⟩) 16 Tryz.underlying27 (by kernel_rfl) (by decide) xx ho x y HYC.out hx; rw [← HXC.out] at hb; exact hb)
    rw [← hm, ← hXC] at Hend HBX
    rw [← hXC] at HS1 HY
    rw [hs0]
    rw [← hy]
    rw [← hvs]
    rw [← hm] at hk9 c1
    have hE : ∀ (q2 : Option Addr) (cq2 : Nat) (W5 : World) (a : Act), PushR encS 9 (W.alloc (.cells XC 9)) q (pre ++ [x]) q2 cq2 W5 → roundGo (w.heap.size + 1) (GatFI w) pre x W .normal a (W5.setCell ⟨w.heap.size, 0, none⟩ (.slice q2 (m + 1) cq2)) := fun q2 cq2 W5 a hP => Hend.out q2 cq2 W5 hP
    have HE := Lib.hid hE
    clear hb1 h hk hI h0 hy hm hXC hE Hend
    gi_wp2_with (first
      | (refine wpListIn_exec rfl (fun c hc => by cases hc) (by simp [Oper.about]) (HBD.out _ _ (.tmp 9) rfl rfl) ?_; go_frame)
      | (gi_at_builtin; (refine wpListIn_pushE encS rfl _ _ 27 9 (.string ⟨#[]⟩) 16 rfl Tryz.underlying27 (by kernel_rfl) rfl (by decide) q cq m pre HM.out rfl HS1.out (some ⟨W.heap.size, 0, none⟩) 1 1 [x] rfl (by decide) rfl HY.out (by omega) ?_; intro q2 cq2 W5 hP; have b5 := HBX.out q2 cq2 W5 hP; have c5 : W5.cell? ⟨w.heap.size, 0, none⟩ = some (.slice q m cq) := (by unfold World.cell?; rw [b5]; rfl); have f5 := frozen_of_row W5 w.heap.size 0 _ 27 b5; have HP := Lib.hid hP; clear hP b5)))
    exact HE.out _ _ _ _ HP.out
  case done =>
    rintro D xs W hD hS ⟨q, cq, h⟩ hK
    have c1 : W.cell? ⟨w.heap.size, 0, none⟩ = some (.slice q xs.length cq) := by unfold World.cell?; rw [h.bx]; rfl
    have HH := Lib.hid h
    have HSS := Lib.hid hS
    have HSE := Lib.hid hseq
    rw [← hvs]
    clear h h0 hI hS hseq
    gi_wp2
    refine ⟨by simp, .inl ⟨_, _, rfl, run_takeDeferred hK, ?_⟩⟩
    have hmD : Mod (fun i => W0.heap.size ≤ i) W (W.putObj D (.deferred none)) := (Mod.refl _ _).grown (grownBy_putObj' _ D _) (fun k e _ => by cases e; exact hD)
    refine ⟨_, results_tmp rfl _ _ _, q, cq, xs, rfl, HSS.out, ?_, fun a e => ?_, ?_⟩
    · refine HH.out.s.kept (S := fun i => i = D) ((Mod.refl _ _).grown (grownBy_putObj' _ D _) (fun k e _ => by cases e; rfl)) (fun a e h2 => ?_)
      rcases HH.out.s.shape with ⟨e', _⟩ | ⟨g', e', _, _, _, cur, hh, _⟩
      · rw [e] at e'; cases e'
      · rw [e] at e'; cases e'
        rw [show (⟨g', 0, none⟩ : Addr).block = g' from rfl] at h2
        subst h2
        rw [hK] at hh; cases hh
    · have := HH.out.new a e; omega
    · exact HH.out.m.trans (hmD.to_below HH.out.m.size (fun i hi h2 => by omega))
theorem collectF_any (w : World) (gf : Nat) (lb : Array Value) (eg : ∀ args w, (callFunc gf args).run Tryz.prog w = .ok (.enter gf args) w) (S : List (List UInt8) → Prop) (N : Nat) (hN : N ≤ 1000000) (hseq : SeqGives Fence.wide (3 - 1) Tryz.prog gf lb (fun x : List UInt8 => Value.string ⟨x.toArray⟩) S N w) :
    Calls Tryz.prog 99 #[.func (.func gf) #[] lb] w fun e w' => ∃ q cq ss, e = .returned (.slice q ss.length cq) ∧ S ss ∧ Rw encS 9 w' q cq ss ∧ (∀ a, q = some a → w.heap.size ≤ a.block) ∧ Below w.heap.size w w' := by
  have H := Lib.hid (appseqF_any w gf lb eg S N hN hseq)
  clear hseq
  go_enter Tryz.func99, Tryz.ntmps99
  go_wp2_with fail
  refine H.out.mono ?_
  rintro e w1 ⟨q, cq, ss, rfl, hr⟩
  have HR := Lib.hid hr
  clear hr H
  go_wp2_with fail
  go_ret
  exact ⟨q, cq, ss, rfl, HR.out⟩
end Go.Proofs.YtemnebbdaljfbaaGreatDoor

namespace Go.Proofs.YtemnebbdaljfbaaGreatDoor
open Go.RowKit Go.Sort

theorem leq_total (a b : List UInt8) : (decide (a ≤ b) || decide (b ≤ a)) = true := by
  by_cases h : a ≤ b
  · simp [h]
  · simp [List.le_of_lt (List.not_le.1 h)]
theorem Rw.holdsS {T : TypeId} {w : World} {g c : Nat} {L : List (List UInt8)} (h : Rw encS T w (some ⟨g, 0, none⟩) c L) : Go.Sort.Holds encStr w g 0 L.toArray := by
  rcases h.shape with ⟨e, _⟩ | ⟨g', e, hl, h1, h2, cur, hh, h3, h4⟩
  · cases e
  simp only [Option.some.injEq, Addr.mk.injEq] at e
  obtain ⟨rfl, _⟩ := e
  intro j hj
  have hj2 : j < L.length := by simpa using hj
  refine ⟨?_, frozen_of_row w g _ _ T hh⟩
  rw [cell_of_row w g _ _ T (0, 0) hh, Nat.zero_add, ← Array.getElem?_toList]
  have e2 : (cur.toList.take (L.length * encS.k))[j]? = some (encStr L[j]) := by rw [h4, encS_all]; simp [hj2, encStr]
  rw [List.getElem?_take_of_lt (by simp [encS]; omega)] at e2
  rw [e2]
  simp [hj2]
theorem Rw.sortedS {T : TypeId} {w : World} {g c : Nat} {L : List (List UInt8)} (h : Rw encS T w (some ⟨g, 0, none⟩) c L) (d : List (List UInt8)) (hd : d.length = L.length) (m : Nat) (os : Array Obj) :
    Rw encS T (grow (putRow encStr (Sort.ahead w m) g 0 d.toArray) os) (some ⟨g, 0, none⟩) c d ∧ Mod (fun i => i = g) w (grow (putRow encStr (Sort.ahead w m) g 0 d.toArray) os) := by
  rcases h.shape with ⟨e, _⟩ | ⟨g', e, hl, h1, h2, cur, hh, h3, h4⟩
  · cases e
  simp only [Option.some.injEq, Addr.mk.injEq] at e
  obtain ⟨rfl, _⟩ := e
  have eh : (grow (putRow encStr (Sort.ahead w m) g 0 d.toArray) os).heap = (w.heap.modify g (onCells (putCells encStr 0 d.toArray))) ++ os := rfl
  have hk : ∀ k, k < w.heap.size → (grow (putRow encStr (Sort.ahead w m) g 0 d.toArray) os).heap[k]? = if g = k then some (.cells (putCells encStr 0 d.toArray cur) T (0, 0)) else w.heap[k]? := by
    intro k hk
    rw [eh, Array.getElem?_append_left (by rw [Array.size_modify]; exact hk), Array.getElem?_modify]
    by_cases e1 : g = k
    · subst e1; rw [if_pos rfl, if_pos rfl, hh]; rfl
    · rw [if_neg e1, if_neg e1]
  have hsz : w.heap.size ≤ (grow (putRow encStr (Sort.ahead w m) g 0 d.toArray) os).heap.size := by
    rw [eh, Array.size_append, Array.size_modify]; omega
  refine ⟨Rw.of_row (by rw [hk g hl, if_pos rfl]) (by rw [hd]; exact h1) h2 (by rw [← h3]; simp [putCells]) ?_, rfl, rfl, rfl, hsz, fun k hk1 hn => by rw [hk k hk1, if_neg (fun e => hn e.symm)]⟩
  rw [encS_all]
  have hcl : L.length ≤ cur.size := by rw [h3]; simpa [encS] using h1
  apply List.ext_getElem?
  intro t
  by_cases ht : t < d.length
  · rw [List.getElem?_take_of_lt (by simpa [encS] using ht), Array.getElem?_toList]
    have htc : t < cur.size := by omega
    simp [putCells, htc, ht, encStr]
  · rw [List.getElem?_eq_none (by rw [List.length_take]; exact Nat.le_trans (Nat.min_le_left _ _) (by simpa [encS] using ht)), List.getElem?_eq_none (by simpa using ht)]
/-- slices.Sort at texts. -/
theorem nsort_any {w : World} {q : Option Addr} {c : Nat} {ks : List (List UInt8)} (h : Rw encS 9 w q c ks) (hn : ks.length ≤ 1000000) :
    Calls Tryz.prog 100 #[.slice q ks.length c] w fun e w' => e = .returned (.tuple #[]) ∧ Rw encS 9 w' q c (ks.mergeSort fun x y => decide (x ≤ y)) ∧ Mod (fun i => ∃ a, q = some a ∧ i = a.block) w w' := by
  have h2 := h
  rcases h.shape with ⟨rfl, rfl, rfl⟩ | ⟨g, rfl, hl, h1, _⟩
  · refine (Tryz.slices_Sort_string_none none 0 w).mono ?_
    rintro r w' ⟨rfl, rfl⟩
    exact ⟨rfl, by simpa using h2, Mod.refl _ _⟩
  · refine (Tryz.slices_Sort_string g 0 c ks w h2.holdsS hl (by omega)).mono ?_
    rintro r w' ⟨rfl, n, os, rfl⟩
    obtain ⟨h3, h4⟩ := h2.sortedS (ks.mergeSort fun x y => decide (x ≤ y)) (List.length_mergeSort ks) n os
    exact ⟨rfl, h3, h4.mono (fun i _ e => ⟨_, rfl, e⟩)⟩
end Go.Proofs.YtemnebbdaljfbaaGreatDoor

namespace Go.Proofs.YtemnebbdaljfbaaGreatDoor
open Go.RowKit

/-- A cell that is stored as it is. -/
theorem mod_same {w : World} {g i : Nat} {cur : Array Value} {T : TypeId} {v : Value} (hh : w.heap[g]? = some (.cells cur T (0, 0))) (hc : cur[i]? = some v) : Mod (fun _ => False) w (w.setCell ⟨g, i, none⟩ v) := by
  have hm := (Mod.refl (fun i => i = g) w).setCell (p := ⟨g, i, none⟩) (fun _ => rfl) v
  refine ⟨hm.os, hm.tape, hm.output, hm.size, fun k hk _ => ?_⟩
  by_cases e : k = g
  · subst e
    rw [heap_setCell_same w k i cur T v hh, hh]
    congr 2
    apply Array.ext'
    obtain ⟨hl, he⟩ := Array.getElem?_eq_some_iff.1 hc
    apply List.ext_getElem?
    intro j
    simp only [Array.toList_setIfInBounds, List.getElem?_set]
    by_cases ej : i = j
    · subst ej; simp [hl, he]
    · simp [ej]
  · exact hm.block k hk e
set_option maxRecDepth 20000 in
set_option maxHeartbeats 4000000 in
theorem sortedS_any (w : World) (Bm b : Nat) (L : List (List UInt8 × Value)) (hm : w.cell? ⟨Bm, 0, none⟩ = some (.map (some b))) (hBm : Bm < w.heap.size) (hown : MapK Tryz.prog 9 keyS w b L) (hn : L.length ≤ 1000000) :
    Calls Tryz.prog 70 #[.func (.func 101) #[] #[.pointer (some ⟨Bm, 0, none⟩)]] w fun e w' => ∃ q cq, e = .returned (.slice q L.length cq) ∧ Rw encS 9 w' q cq ((L.map (·.1)).mergeSort fun x y => decide (x ≤ y)) ∧ (∀ a, q = some a → w.heap.size ≤ a.block) ∧ Below w.heap.size w w' := by
  have HC := Lib.hid (collectF_any w 101 #[.pointer (some ⟨Bm, 0, none⟩)] (enters_of Tryz.func101 (by kernel_rfl) rfl) _ L.length hn (mkeysF_gives Fence.wide (3 - 1) trivial rfl (by decide) Bm b L w hBm hm hown))
  have HN := Lib.hid hn
  clear hm hBm hown hn
  go_enter Tryz.func70, Tryz.ntmps70
  go_wp2_with fail
  refine HC.out.mono ?_
  rintro e w1 ⟨q, cq, ss, rfl, hS, hrw, hnew, hb⟩
  have hlen : ss.length = L.length := by have := hS.length_eq; simpa using this
  have HK : Hid ((ss.mergeSort fun x y => decide (x ≤ y)) = ((L.map (·.1)).mergeSort fun x y => decide (x ≤ y))) := Lib.hid (mergeSort_of_perm hS)
  have HSO := Lib.hid (nsort_any (w := w1) hrw (by rw [hlen]; exact HN.out))
  rw [hlen, HK.out] at HSO
  rw [hlen]
  have HNEW := Lib.hid hnew
  have HB := Lib.hid hb
  obtain ⟨n, hn⟩ : ∃ n, n = L.length := ⟨_, rfl⟩
  rw [← hn] at HSO ⊢
  have HNL := Lib.hid hn
  clear hS hrw hnew hb hlen HC HK hn
  go_wp2_with fail
  refine HSO.out.mono ?_
  rintro r w2 ⟨rfl, hrw2, hm2⟩
  have HR := Lib.hid hrw2
  have HM := Lib.hid (HB.out.trans (hm2.to_below HB.out.size (by rintro i hi ⟨a, e, rfl⟩; have := HNEW.out a e; omega)))
  clear hrw2 hm2 HSO
  go_wp2_with fail
  go_ret
  exact ⟨q, cq, by rw [← HNL.out]; rfl, HR.out, HNEW.out, HM.out⟩
section
variable {S R : Nat → Prop} {w : World} {da : Nat} {X : DD}
theorem fE_ts (F : List Fam) : (fE F).map (·.1) = F.map (·.t) := by unfold fE; rw [List.map_map]; rfl
/-- What the loop of Families keeps. -/
structure FmS (w : World) (q : Option Addr) (c : Nat) (M : List (List UInt8)) (wr : World) : Prop where
  rw : Rw encS 9 wr q c M
  b : Below w.heap.size w wr
set_option maxRecDepth 20000 in
set_option maxHeartbeats 4000000 in
theorem dgfamilies_any (h : DG S R w da X) (ht : ∀ f ∈ X.F, f.t.length ≤ 1000000000) : Calls Tryz.prog 29 #[.pointer (some ⟨da, 0, none⟩)] w fun r w' => ∃ q c, r = .returned (.slice q X.F.length c) ∧ Rw encS 9 w' q c ((X.F.map (·.t)).mergeSort fun x y => decide (x ≤ y)) ∧ (∀ a, q = some a → w.heap.size ≤ a.block) ∧ Below w.heap.size w w' := by
  have cc : w.cell? ⟨da, 1, none⟩ = some (.map (some X.m2)) := cell_of_row _ da 1 _ _ _ h.box
  have HMK := Lib.hid (mkeysF_any (some X.m2) w)
  obtain ⟨w1, hw1⟩ : ∃ w1, w1 = w.alloc (.cells #[.map (some X.m2)] 80) := ⟨_, rfl⟩
  have hb1 : Below w.heap.size w w1 := by rw [hw1]; exact alloc1 _ _
  have HB1 := Lib.hid hb1
  have HSF := Lib.hid (sortedS_any w1 w.heap.size X.m2 (fE X.F) (by rw [hw1]; unfold World.cell?; rw [heap_alloc_new]; rfl) (by rw [hw1]; simp) (h.fm.old hb1) (by rw [fE_len]; exact Nat.le_trans h.fn (Nat.le_trans h.len (by decide))))
  rw [fE_len, fE_ts] at HSF
  obtain ⟨M, hM⟩ : ∃ M, M = (X.F.map (·.t)).mergeSort fun x y => decide (x ≤ y) := ⟨_, rfl⟩
  have HML : Hid (M.length = X.F.length) := Lib.hid (by rw [hM, List.length_mergeSort, List.length_map])
  have HMT : Hid (∀ t ∈ M, t.length ≤ 1000000000) := Lib.hid (fun t htm => by
    rw [hM, (List.mergeSort_perm _ _).mem_iff] at htm
    obtain ⟨f, hf, rfl⟩ := List.mem_map.1 htm
    exact ht f hf)
  rw [← hM] at HSF ⊢
  obtain ⟨k, hk⟩ : ∃ k, k = X.F.length := ⟨_, rfl⟩
  have hk9 : k ≤ 1000000 := by rw [hk]; exact Nat.le_trans h.fn (Nat.le_trans h.len (by decide))
  rw [← hk] at HSF HML ⊢
  rw [← hw1] at HMK
  clear h hk hb1 hw1 hM ht
  go_enter Tryz.func29, Tryz.ntmps29
  go_wp2_with fail
  refine HMK.out.mono ?_
  rintro r w2 ⟨rfl, rfl⟩
  go_wp2_with fail
  refine HSF.out.mono ?_
  rintro r w3 ⟨q, c, rfl, hrw, hnew, hb⟩
  have HN : Hid (∀ a, q = some a → w.heap.size ≤ a.block) := Lib.hid (fun a e => Nat.le_trans HB1.out.size (hnew a e))
  have H0 : Hid (FmS w q c M w3) := Lib.hid ⟨hrw, HB1.out.trans (hb.mono HB1.out.size)⟩
  clear hrw hnew hb HSF HMK
  go_wp2_with fail
  go_loopw [14] (fun s14 wr => ∃ i : Nat, i ≤ k ∧ s14 = .int .i64 (i : Int) ∧ Hid (FmS w q c M wr)) (fun s14 _ => k - (intOf s14).toNat)
  case atStart => exact ⟨0, Nat.zero_le _, rfl, H0⟩
  case round =>
    clear H0
    obtain ⟨i, hik, rfl, HS⟩ := hrel
    have i0 : (0 : Int) ≤ i := by omega
    by_cases hlt : i < k
    · have hlt' : (i : Int) < k := by omega
      have hiM : i < M.length := by have := HML.out; omega
      obtain ⟨t, ht⟩ : ∃ t, t = M[i] := ⟨_, rfl⟩
      obtain ⟨g, rfl⟩ : ∃ g, q = some ⟨g, 0, none⟩ := by
        rcases HS.out.rw.shape with ⟨_, h0, _⟩ | ⟨g, e, _⟩
        · rw [h0] at hiM; simp at hiM
        · exact ⟨g, e⟩
      have HCL := Lib.hid (fun (u : World) => tsclone_any t u (by have := HMT.out t (by rw [ht]; exact List.getElem_mem _); omega))
      have HTL : Hid (t.length ≤ 1000000000) := Lib.hid (HMT.out t (by rw [ht]; exact List.getElem_mem _))
      have hcell : wr.cell? ⟨g, i, none⟩ = some (.string ⟨t.toArray⟩) := by
        obtain ⟨bs, off, e, _, c1⟩ := HS.out.rw.rd.str i hiM
        cases e
        rw [Nat.zero_add] at c1
        rw [c1, ht]
      have HCE := Lib.hid hcell
      clear ht hiM
      go_wp2_with fail
      refine (HCL.out wr).mono ?_
      rintro r w5 ⟨rfl, hb5⟩
      have hrw5 := HS.out.rw.old hb5
      have hB5 := HS.out.b.trans (hb5.mono HS.out.b.size)
      obtain ⟨cur, hh, hcur⟩ : ∃ cur : Array Value, w5.heap[g]? = some (.cells cur 9 (0, 0)) ∧ cur[i]? = some (.string ⟨t.toArray⟩) := by
        rcases hrw5.shape with ⟨e, _⟩ | ⟨g', e, _, _, _, cur, hh, _⟩
        · cases e
        · cases e
          refine ⟨cur, hh, ?_⟩
          have := (hb5.cell (p := ⟨g, i, none⟩) HS.out.rw.lt).trans HCE.out
          rwa [cell_of_row _ g i _ _ _ hh] at this
      have c5 : w5.cell? ⟨g, i, none⟩ = some (.string ⟨t.toArray⟩) := by rw [cell_of_row _ g i _ _ _ hh]; exact hcur
      have f5 : w5.frozen? ⟨g, i, none⟩ = false := frozen_of_row _ g i _ _ hh
      have HM5 := Lib.hid (mod_same hh hcur)
      have HR5 := Lib.hid hrw5
      have HB5 := Lib.hid hB5
      clear hrw5 hB5 hh hcur hb5 hcell HCL
      go_wp2_with fail
      go_roundw
      case rel => exact ⟨i + 1, by omega, by go_num, Lib.hid ⟨HR5.out.kept HM5.out (fun _ _ h => h), HB5.out.trans (HM5.out.to_below HB5.out.size (fun _ _ h => h.elim))⟩⟩
      case measure => simp [intOf]; omega
    · obtain rfl : i = k := by omega
      have hlt' : ¬ (i : Int) < i := by omega
      go_wp2_with fail
      go_ret
      exact ⟨q, c, rfl, HS.out.rw, HN.out, HS.out.b⟩
end
end Go.Proofs.YtemnebbdaljfbaaGreatDoor

namespace Go.Proofs.YtemnebbdaljfbaaGreatDoor
open Go.RowKit

theorem exec_field_hd {o : Oper} {a : Act} {w : World} {x : Operand} (ho : o.op = .field 72 x 1) (b : Blk) (hx : a.eval x = .agg b.cells.toArray) : (execOp a.eval o).run Tryz.prog w = .ok (.value (.agg (hcells b.h b.q b.c))) w := by
  have e : List.take 7 (List.drop 32 b.cells) = [.int .i64 b.h.ht, .int .i64 b.h.mi, .string ⟨b.h.tk.toArray⟩, .int .i64 b.h.wi, .int .u64 (b.h.pw : Int), .slice b.q b.h.ps.length b.c, .int .i64 b.h.sa] := by
    simp [Blk.cells, hcells, List.drop_append, vals_len, b.id.2]
  unfold execOp
  simp [ho, hx, Instr.field, run_underlying Tryz.underlying72, part, asAgg, e, Tryz.sizeOf41]
  rfl
theorem uniq_idF : ∀ {K : List Blk}, (K.map (·.id)).Nodup → ∀ b ∈ K, ∀ b' ∈ K, b.id = b'.id → b = b'
  | [], _, b, hb, _, _, _ => by cases hb
  | x :: K, hn, b, hb, b', hb', e => by
    rw [List.map_cons, List.nodup_cons] at hn
    rcases List.mem_cons.1 hb with rfl | hb2
    · rcases List.mem_cons.1 hb' with rfl | hb3
      · rfl
      · exact absurd (by rw [e]; exact List.mem_map_of_mem hb3) hn.1
    · rcases List.mem_cons.1 hb' with rfl | hb3
      · exact absurd (by rw [← e]; exact List.mem_map_of_mem hb2) hn.1
      · exact uniq_idF hn.2 b hb2 b' hb3 e
theorem blks_of {K : List Blk} {t : List UInt8} : ∀ (ns : List Nm), (∀ n ∈ ns, ∃ b ∈ K, famK b = t ∧ b.id = n) → ∃ Fb : List Blk, Fb.map (·.id) = ns ∧ ∀ b ∈ Fb, b ∈ K ∧ famK b = t
  | [], _ => ⟨[], rfl, fun b hb => by cases hb⟩
  | n :: ns, h => by
    obtain ⟨b, hb, e1, e2⟩ := h n (by simp)
    obtain ⟨Fb, h1, h2⟩ := blks_of ns (fun m hm => h m (by simp [hm]))
    refine ⟨b :: Fb, by rw [List.map_cons, h1, e2], fun x hx => ?_⟩
    rcases List.mem_cons.1 hx with rfl | hx
    · exact ⟨hb, e1⟩
    · exact h2 x hx
section
variable {S R : Nat → Prop} {w : World} {da : Nat} {X : DD}
set_option maxRecDepth 20000 in
/-- What the lookup of a family tells. -/
theorem dg_lkF (h : DG S R w da X) (t : List UInt8) (ht : t.length ≤ maxLen) : ∃ (fq : Option Addr) (fc : Nat) (L : List Blk), Rd encN w fq (L.map (·.id)) ∧ L.length ≤ X.K.length ∧ (∀ b ∈ L, b ∈ X.K ∧ famK b = t) ∧ (L.map (·.id)).Pairwise lN ∧ (∀ b ∈ X.K, famK b = t → b.id ∈ L.map (·.id)) ∧
    (Instr.lookup 80 (.map (some X.m2)) (.string ⟨t.toArray⟩) false).run Tryz.prog w = .ok (.slice fq L.length fc) w := by
  have hl := h.fm.look keyedS Tryz.underlying80 (z := .slice none 0 0) (by kernel_rfl) (keyS_of t ht)
  cases hh : hasE t (fE X.F) with
  | true =>
    obtain ⟨f, hf, rfl, hg⟩ := h.lookF (z := .slice none 0 0) hh
    obtain ⟨h1, h2⟩ := h.fs f hf
    obtain ⟨L, e, h3⟩ := blks_of f.ns (fun n hn => (h2 n).1 hn)
    have hlen : L.length = f.ns.length := by rw [← e, List.length_map]
    refine ⟨f.q, f.c, L, by rw [e]; exact (h.fr f hf).rd, by rw [hlen]; exact h.fl f hf, h3, by rw [e]; exact h1, fun b hb eb => by rw [e]; exact (h2 b.id).2 ⟨b, hb, eb, rfl⟩, ?_⟩
    rw [hl, hg, hlen]; rfl
  | false =>
    refine ⟨none, 0, [], Rd.nil _ _, Nat.zero_le _, (fun b hb => by cases hb), List.Pairwise.nil, fun b hb eb => ?_, ?_⟩
    · obtain ⟨f, hf, e⟩ := h.fb b hb
      exfalso
      have : hasE t (fE X.F) = true := (fE_has _ _).2 ⟨f, hf, by rw [e, eb]⟩
      rw [hh] at this; cases this
    · rw [hl, getE_no hh]; rfl
set_option maxRecDepth 20000 in
set_option maxHeartbeats 8000000 in
theorem dgfamily_any (h : DG S R w da X) (t : List UInt8) (ht : t.length ≤ maxLen) :
    Calls Tryz.prog 30 #[.pointer (some ⟨da, 0, none⟩), .string ⟨t.toArray⟩] w fun r w' => ∃ q c L, r = .returned (.slice q L.length c) ∧ (∀ b ∈ L, b ∈ X.K ∧ famK b = t) ∧ (L.map (·.id)).Pairwise lN ∧ (∀ b ∈ X.K, famK b = t → b.id ∈ L.map (·.id)) ∧ L.length ≤ X.K.length ∧ OwR w w' L L.length q c := by
  obtain ⟨fq, fc, L, hrd, hlen, hLK, hpw, hall, hlk⟩ := dg_lkF h t ht
  obtain ⟨F, hF⟩ : ∃ F : Ending → World → Prop, F = fun r w' => ∃ q c L, r = .returned (.slice q L.length c) ∧ (∀ b ∈ L, b ∈ X.K ∧ famK b = t) ∧ (L.map (·.id)).Pairwise lN ∧ (∀ b ∈ X.K, famK b = t → b.id ∈ L.map (·.id)) ∧ L.length ≤ X.K.length ∧ OwR w w' L L.length q c := ⟨_, rfl⟩
  have HF : Hid (∀ (q : Option Addr) (c : Nat) (w' : World), OwR w w' L L.length q c → F (.returned (.slice q L.length c)) w') := Lib.hid (fun q c w' ho => by rw [hF]; exact ⟨q, c, L, rfl, hLK, hpw, hall, hlen, ho⟩)
  rw [← hF]
  have cc : w.cell? ⟨da, 1, none⟩ = some (.map (some X.m2)) := cell_of_row _ da 1 _ _ _ h.box
  have HCC1 : Hid (∀ w1, Below w.heap.size w w1 → w1.cell? ⟨da, 0, none⟩ = some (.map (some X.m1))) := Lib.hid (fun w1 hb => cell_of_row _ da 0 _ _ _ (h.old hb).box)
  have HLK1 : Hid (∀ b ∈ L, ∀ w1, Below w.heap.size w w1 → (Instr.lookup 79 (.map (some X.m1)) (.agg (vals b.id.1).toArray) false).run Tryz.prog w1 = .ok (.agg b.cells.toArray) w1) := Lib.hid (fun b hb w1 hw => by
    have hh : hasE b.id (kE X.K) = true := (kE_has _ _).2 ⟨b, (hLK b hb).1, rfl⟩
    have hl := (h.old hw).bm.look keyedN Tryz.underlying79 (zblk_zero w1) (keyN_of b.id)
    obtain ⟨b', hb', e, hg⟩ := h.look (z := .agg zBlk.cells.toArray) hh
    have : b' = b := uniq_idF h.nodup b' hb' b (hLK b hb).1 e
    rw [hl, hg, this])
  have HOKK : Hid (∀ b ∈ L, okK w b) := Lib.hid (fun b hb => h.okK (hLK b hb).1)
  have HRD := Lib.hid hrd
  obtain ⟨W, hW⟩ : ∃ W, W = w := ⟨_, rfl⟩
  have H0 : Hid (OwR W w L 0 none 0) := Lib.hid ⟨⟨[], rfl, Rw.empty _ _, rfl, fun b hb => by cases hb⟩, by rw [hW]; exact Below.refl _ _, fun a e => by cases e⟩
  have HWW := Lib.hid hW
  rw [← hW] at HF HCC1 HLK1 HOKK HRD
  have hn9 : L.length ≤ 1000000 := Nat.le_trans hlen (Nat.le_trans h.len (by decide))
  obtain ⟨n, hn⟩ : ∃ n, n = L.length := ⟨_, rfl⟩
  have HN := Lib.hid hn
  rw [← hn] at HF hn9 hlk
  clear h hrd hlen hLK hpw hall hF hn hW
  go_enter Tryz.func30, Tryz.ntmps30
  go_wp2_with fail
  go_loopw [5, 15] (fun s5 s15 wr => ∃ (k : Nat) (q : Option Addr) (c : Nat), k ≤ n ∧ s5 = .slice q k c ∧ s15 = .int .i64 (k : Int) ∧ Hid (OwR W wr L k q c)) (fun _ s15 _ => n - (intOf s15).toNat)
  case atStart => exact ⟨0, none, 0, Nat.zero_le _, rfl, rfl, H0⟩
  case round =>
    clear H0 cc hlk
    obtain ⟨k, q, c, hkn, rfl, rfl, HS⟩ := hrel
    have k0 : (0 : Int) ≤ k := by omega
    by_cases hlt : k < n
    · have hlt' : (k : Int) < n := by omega
      have hkl : k < L.length := by have := HN.out; omega
      obtain ⟨bs, off, rfl, hbs, hc⟩ := (HRD.out.old HS.out.b) k (by rw [List.length_map]; exact hkl)
      obtain ⟨b, hb⟩ : ∃ b, b = L[k] := ⟨_, rfl⟩
      have HBL : Hid (b ∈ L) := Lib.hid (by rw [hb]; exact List.getElem_mem _)
      rw [List.getElem_map, ← hb] at hc
      have HCC : Hid (∀ i u, (encN.f b.id)[i]? = some u → wr.cell? ⟨bs, off + k * 32 + i, none⟩ = some u) := Lib.hid hc
      have HNX : Hid ((L.take (k + 1)).map Blk.is = (L.take k).map Blk.is ++ [b.is]) := Lib.hid (by rw [List.take_succ_eq_append_getElem hkl, List.map_append, ← hb]; rfl)
      have HOK : Hid (okK wr b) := Lib.hid ((HOKK.out b HBL.out).old HS.out.b)
      have HLK0 := Lib.hid (HLK1.out b HBL.out)
      clear hb hc hbs hkl
      have HSZ : Hid ((vals b.id.1).toArray.size = 32) := Lib.hid (id_size b.id.2)
      have HQ3 : Hid ((Tryz.prog.info? 70).map (·.size) = some (vals b.id.1).toArray.size) := Lib.hid (id_info b.id.2)
      have HQ4 : Hid (∀ v ∈ (vals b.id.1).toArray.toList, v.oneCell' = true) := Lib.hid (id_one b.id.1)
      have HFD : Hid (∀ (o : Oper) (a : Act) (u : World), o.op = .field 72 (.tmp 26) 1 → a.eval (.tmp 26) = .agg b.cells.toArray → (execOp a.eval o).run Tryz.prog u = .ok (.value (.agg (hcells b.h b.q b.c))) u) := Lib.hid (fun o a u ho ha => exec_field_hd ho b ha)
      have HOW : Hid (∀ w, Below wr.heap.size wr w → Calls Tryz.prog 73 #[.agg (hcells b.h b.q b.c)] w fun r w' => ∃ q c, r = .returned (.agg (hcells b.h q c)) ∧ Rw encN 70 w' q c b.h.ps ∧ (∀ a, q = some a → w.heap.size ≤ a.block) ∧ Below w.heap.size w w') := Lib.hid (fun w hb => tsown_any b.h b.q b.c w (HOK.out.rd.old hb) HOK.out.ad HOK.out.n HOK.out.k)
      have HWR : Hid (W.heap.size ≤ wr.heap.size) := Lib.hid HS.out.b.size
      go_upto_region 5 with (first
        | (refine wpList_exec rfl (exec_load_mid (.tmp 17) rfl bs (off + k * 32) rfl b.id HCC.out) ?_; go_frame)
        | (refine wpList_store_row rfl rfl 70 (.tmp 7) (.tmp 18) rfl wr.heap.size rfl 70 _ (vals b.id.1).toArray rfl (heap_alloc_new wr _) HSZ.out.symm HQ3.out HQ4.out ?_))
      refine wp_gen (fun W1 => W1.heap[wr.heap.size]? = some (.cells (vals b.id.1).toArray 70 (0, 0)) ∧ Below wr.heap.size wr W1) (row_new wr _ _ (vals b.id.1).toArray 70 rfl) (fun W1 hW1 => ?_)
      have HRW0 := Lib.hid hW1.1
      have HB1 := Lib.hid hW1.2
      have HCC1r : Hid (∀ w1, Below wr.heap.size wr w1 → w1.cell? ⟨da, 0, none⟩ = some (.map (some X.m1))) := Lib.hid (fun w1 hb => HCC1.out w1 (HS.out.b.trans (hb.mono HS.out.b.size)))
      have HLK : Hid (∀ w1, Below wr.heap.size wr w1 → (Instr.lookup 79 (.map (some X.m1)) (.agg (vals b.id.1).toArray) false).run Tryz.prog w1 = .ok (.agg b.cells.toArray) w1) := Lib.hid (fun w1 hb => HLK0.out w1 (HS.out.b.trans (hb.mono HS.out.b.size)))
      clear hW1
      obtain ⟨g, hg⟩ : ∃ g, g = wr.heap.size := ⟨_, rfl⟩
      rw [← hg]
      have HRW := Lib.hid HRW0.out
      rw [← hg] at HRW
      have HPU : Hid (∀ (D : List Blk) (w1 w' : World) (q' : Option Addr) (c' : Nat) (q2 : Option Addr) (c2 : Nat), D.length = k → Rw encK 72 wr q c D → D.map Blk.is = (L.take k).map Blk.is → (∀ b ∈ D, okW W wr b) → Below wr.heap.size wr w1 → Rw encN 70 w1 q' c' b.h.ps → (∀ a, q' = some a → W.heap.size ≤ a.block) → PushR encK 72 w1 q (D ++ [⟨b.id, b.h, q', c'⟩]) q2 c2 w' → OwR W w' L (k + 1) q2 c2) := Lib.hid (fun D w1 w' q' c' q2 c2 a1 a2 a3 a4 a5 a6 a7 a8 => OwR.push HS.out a1 a2 a3 a4 HNX.out HOK.out a5 a6 a7 a8)
      clear HRW0 hg HCC HQ3 HQ4 HSZ
      have HG0 : Hid ((fun (j : Nat) (x : Value) (w1 : World) => (j ≤ 3 → (Below wr.heap.size wr w1 ∧ w1.heap[g]? = some (.cells (vals b.id.1).toArray 70 (0, 0)))) ∧ (j = 1 → ∃ q' c', x = .agg (hcells b.h q' c') ∧ Rw encN 70 w1 q' c' b.h.ps ∧ ∀ a, q' = some a → W.heap.size ≤ a.block) ∧ (j = 2 → ∃ q' c', x = .agg (⟨b.id, b.h, q', c'⟩ : Blk).cells.toArray ∧ Rw encN 70 w1 q' c' b.h.ps ∧ ∀ a, q' = some a → W.heap.size ≤ a.block) ∧ (j = 3 → ∃ q' c', (∃ p, x = .slice (some ⟨p, 0, none⟩) 1 1 ∧ Rd encK w1 (some ⟨p, 0, none⟩) [(⟨b.id, b.h, q', c'⟩ : Blk)]) ∧ Rw encN 70 w1 q' c' b.h.ps ∧ ∀ a, q' = some a → W.heap.size ≤ a.block) ∧ (j = 4 → ∃ q2 c2, x = .slice q2 (k + 1) c2 ∧ OwR W w1 L (k + 1) q2 c2) ∧ (j = 5 → ∃ q2 c2, x = .slice q2 (k + 1) c2 ∧ OwR W w1 L (k + 1) q2 c2)) 0 undef W1.drew) := Lib.hid ⟨fun _ => ⟨HB1.out.trans (((Below.refl _ W1).drew).mono HB1.out.size), HRW.out⟩, (fun h => absurd h (by omega)), (fun h => absurd h (by omega)), (fun h => absurd h (by omega)), (fun h => absurd h (by omega)), (fun h => absurd h (by omega))⟩
      refine wp_region_chain2 (fun t v => match t with
        | 19 => v = .slice q k c
        | 20 => v = .agg (vals b.id.1).toArray
        | 21 => v = .pointer (some ⟨da, 0, none⟩)
        | 22 => v = .pointer (some ⟨da, 0, none⟩)
        | 23 => v = .pointer (some ⟨da, 0, none⟩)
        | 24 => v = .map (some X.m1)
        | 25 => v = .agg (vals b.id.1).toArray
        | 26 => v = .agg b.cells.toArray
        | 27 => v = .agg (hcells b.h b.q b.c)
        | _ => True) (fun (j : Nat) (x : Value) (w1 : World) => (j ≤ 3 → (Below wr.heap.size wr w1 ∧ w1.heap[g]? = some (.cells (vals b.id.1).toArray 70 (0, 0)))) ∧ (j = 1 → ∃ q' c', x = .agg (hcells b.h q' c') ∧ Rw encN 70 w1 q' c' b.h.ps ∧ ∀ a, q' = some a → W.heap.size ≤ a.block) ∧ (j = 2 → ∃ q' c', x = .agg (⟨b.id, b.h, q', c'⟩ : Blk).cells.toArray ∧ Rw encN 70 w1 q' c' b.h.ps ∧ ∀ a, q' = some a → W.heap.size ≤ a.block) ∧ (j = 3 → ∃ q' c', (∃ p, x = .slice (some ⟨p, 0, none⟩) 1 1 ∧ Rd encK w1 (some ⟨p, 0, none⟩) [(⟨b.id, b.h, q', c'⟩ : Blk)]) ∧ Rw encN 70 w1 q' c' b.h.ps ∧ ∀ a, q' = some a → W.heap.size ≤ a.block) ∧ (j = 4 → ∃ q2 c2, x = .slice q2 (k + 1) c2 ∧ OwR W w1 L (k + 1) q2 c2) ∧ (j = 5 → ∃ q2 c2, x = .slice q2 (k + 1) c2 ∧ OwR W w1 L (k + 1) q2 c2)) [9, 10, 11, 12, 13] 34 (by kernel_rfl) (by decide +kernel) rfl (by decide +kernel) (by decide) (by decide) HG0.out (by
        refine OweAllC.cons (owesC_val 3 (by decide +kernel) (by decide) rfl rfl fun k' a w1 x hk ha hG hV => ?_) ?_
        · skip
          have h5 := ha.kp 4 13 _ 5 (by omega) rfl rfl rfl
          simp only [Act.eval] at h5
          exact ⟨.slice q k c, wanted_free rfl, by simp [execOp, go_sem, h5], rfl⟩
        refine OweAllC.cons (owesC_val 1 (by decide +kernel) (by decide) rfl rfl fun k' a w1 x hk ha hG hV => ?_) ?_
        · skip
          have h7 := ha.outer 7 (by decide +kernel)
          simp only [Act.eval] at h7
          obtain ⟨hbw, hrow⟩ := hG.1 (by omega)
          exact ⟨.agg (vals b.id.1).toArray, wanted_free rfl, exec_load_mid (.tmp 7) rfl g 0 h7 b.id (fun i u hu => by rw [cell_of_row _ g (0 + i) _ _ _ hrow, Nat.zero_add, List.getElem?_toArray]; exact hu), rfl⟩
        refine OweAllC.cons (owesC_val 0 (by decide +kernel) (by decide) rfl rfl fun k' a w1 x hk ha hG hV => ?_) ?_
        · skip
          have h0 := ha.outer 0 (by decide +kernel)
          simp only [Act.eval] at h0
          exact ⟨.pointer (some ⟨da, 0, none⟩), wanted_free rfl, by simp [execOp, go_sem, h0], rfl⟩
        refine OweAllC.cons (owesC_val 0 (by decide +kernel) (by decide) rfl rfl fun k' a w1 x hk ha hG hV => ?_) ?_
        · skip
          have h21 : a.tmps.getD 21 undef = .pointer (some ⟨da, 0, none⟩) := hV.get 21 (by decide +kernel)
          exact ⟨.pointer (some ⟨da, 0, none⟩), wanted_free rfl, by simp [execOp, go_sem, h21], rfl⟩
        refine OweAllC.cons (owesC_val 0 (by decide +kernel) (by decide) rfl rfl fun k' a w1 x hk ha hG hV => ?_) ?_
        · skip
          have h22 : a.tmps.getD 22 undef = .pointer (some ⟨da, 0, none⟩) := hV.get 22 (by decide +kernel)
          exact ⟨.pointer (some ⟨da, 0, none⟩), wanted_free rfl, by simp [execOp, go_sem, h22], rfl⟩
        refine OweAllC.cons (owesC_val 0 (by decide +kernel) (by decide) rfl rfl fun k' a w1 x hk ha hG hV => ?_) ?_
        · skip
          have h23 : a.tmps.getD 23 undef = .pointer (some ⟨da, 0, none⟩) := hV.get 23 (by decide +kernel)
          obtain ⟨hbw, hrow⟩ := hG.1 (by omega)
          have cc : w1.cell? ⟨da, 0, none⟩ = some (.map (some X.m1)) := HCC1r.out w1 hbw
          exact ⟨.map (some X.m1), wanted_free rfl, by simp [execOp, go_sem, h23, cc], rfl⟩
        refine OweAllC.cons (owesC_val 0 (by decide +kernel) (by decide) rfl rfl fun k' a w1 x hk ha hG hV => ?_) ?_
        · skip
          have h7 := ha.outer 7 (by decide +kernel)
          simp only [Act.eval] at h7
          obtain ⟨hbw, hrow⟩ := hG.1 (by omega)
          exact ⟨.agg (vals b.id.1).toArray, wanted_free rfl, exec_load_mid (.tmp 7) rfl g 0 h7 b.id (fun i u hu => by rw [cell_of_row _ g (0 + i) _ _ _ hrow, Nat.zero_add, List.getElem?_toArray]; exact hu), rfl⟩
        refine OweAllC.cons (owesC_val 0 (by decide +kernel) (by decide) rfl rfl fun k' a w1 x hk ha hG hV => ?_) ?_
        · skip
          have h24 : a.tmps.getD 24 undef = .map (some X.m1) := hV.get 24 (by decide +kernel)
          have h25 : a.tmps.getD 25 undef = .agg (vals b.id.1).toArray := hV.get 25 (by decide +kernel)
          obtain ⟨hbw, hrow⟩ := hG.1 (by omega)
          have hlk := HLK.out w1 hbw
          exact ⟨.agg b.cells.toArray, wanted_free rfl, by simp [execOp, go_sem, h24, h25, hlk], rfl⟩
        refine OweAllC.cons (owesC_val 0 (by decide +kernel) (by decide) rfl rfl fun k' a w1 x hk ha hG hV => ?_) ?_
        · skip
          have h26 : a.tmps.getD 26 undef = .agg b.cells.toArray := hV.get 26 (by decide +kernel)
          exact ⟨.agg (hcells b.h b.q b.c), wanted_free rfl, HFD.out _ _ _ rfl h26, rfl⟩
        refine OweAllC.cons (owesC_call 0 rfl rfl rfl 73 fun a w1 x ha hG hx hV => ?_) ?_
        · skip
          have h27 : a.tmps.getD 27 undef = .agg (hcells b.h b.q b.c) := hV.get 27 (by decide +kernel)
          refine ⟨#[.agg (hcells b.h b.q b.c)], wanted_free rfl, by simp [execOp, resolve, invoke, go_sem, h27], ?_⟩
          obtain ⟨hbw, hrow⟩ := hG.1 (by omega)
          refine (HOW.out w1 hbw).mono ?_
          rintro r u2 ⟨q', c', rfl, hR, hq, hb⟩
          exact ⟨_, rfl, trivial, (fun _ => ⟨hbw.trans (hb.mono hbw.size), (hb.block _ (Array.getElem?_eq_some_iff.1 hrow).1).trans hrow⟩), (fun _ => ⟨q', c', rfl, hR, fun a e => Nat.le_trans (Nat.le_trans HWR.out hbw.size) (hq a e)⟩), (fun h => absurd h (by omega)), (fun h => absurd h (by omega)), (fun h => absurd h (by omega)), (fun h => absurd h (by omega))⟩
        refine OweAllC.cons (owesC_mem 1 rfl rfl rfl fun a w1 x ha hG hx hV => ?_) ?_
        · skip
          have h20 : a.tmps.getD 20 undef = .agg (vals b.id.1).toArray := hV.get 20 (by decide +kernel)
          have g20 : a.tmps[20]?.getD undef = .agg (vals b.id.1).toArray := by simpa using h20
          have h28 := hx 0 9 _ 28 rfl rfl rfl rfl
          obtain ⟨hbw, hrow⟩ := hG.1 (by omega)
          obtain ⟨q', c', rfl, hR, hq⟩ := hG.2.1 rfl
          exact ⟨_, w1, wanted_free rfl, build_blk (.tmp 20) (.tmp 28) rfl (⟨b.id, b.h, q', c'⟩ : Blk) h20 h28, trivial, (fun _ => ⟨hbw, hrow⟩), (fun h => absurd h (by omega)), (fun _ => ⟨q', c', rfl, hR, hq⟩), (fun h => absurd h (by omega)), (fun h => absurd h (by omega)), (fun h => absurd h (by omega))⟩
        refine OweAllC.cons (owesC_mem 2 rfl rfl rfl fun a w1 x ha hG hx hV => ?_) ?_
        · skip
          have h29 := hx 1 10 _ 29 rfl rfl rfl rfl
          obtain ⟨hbw, hrow⟩ := hG.1 (by omega)
          obtain ⟨q', c', rfl, hR, hq⟩ := hG.2.2.1 rfl
          have hb : Below w1.heap.size w1 (w1.alloc (.cells (⟨b.id, b.h, q', c'⟩ : Blk).cells.toArray 72)) := (Below.refl _ _).alloc (Nat.le_refl _) _
          have hr : Rd encK (w1.alloc (.cells (⟨b.id, b.h, q', c'⟩ : Blk).cells.toArray 72)) (some ⟨w1.heap.size, 0, none⟩) [(⟨b.id, b.h, q', c'⟩ : Blk)] := by have := Rd.made encK w1 72 [(⟨b.id, b.h, q', c'⟩ : Blk)] (by simp [maxLen]); rw [enc_oneK] at this; exact this
          exact ⟨_, _, wanted_free rfl, build_blks (.tmp 29) rfl (⟨b.id, b.h, q', c'⟩ : Blk) h29, trivial, (fun _ => ⟨hbw.trans (hb.mono hbw.size), (hb.block _ (Array.getElem?_eq_some_iff.1 hrow).1).trans hrow⟩), (fun h => absurd h (by omega)), (fun h => absurd h (by omega)), (fun _ => ⟨q', c', ⟨_, rfl, hr⟩, hR.old hb, hq⟩), (fun h => absurd h (by omega)), (fun h => absurd h (by omega))⟩
        refine OweAllC.cons (owesC_law 3 rfl rfl fun a w1 x ha hG hx hV => ?_) ?_
        · skip
          have h19 : a.tmps.getD 19 undef = .slice q k c := hV.get 19 (by decide +kernel)
          have h30 := hx 2 11 _ 30 rfl rfl rfl rfl
          obtain ⟨hbw, hrow⟩ := hG.1 (by omega)
          obtain ⟨q', c', ⟨p, rfl, hr⟩, hR, hq⟩ := hG.2.2.2.1 rfl
          obtain ⟨D, hDl, hRw, hDi, hDo⟩ := HS.out.ex
          obtain ⟨z, hz1, hz2, hz3⟩ := info_blk
          refine ⟨wanted_free rfl, fun K hK => ?_⟩
          refine wp_pushR1 encK (.tmp 19) (.tmp 30) 50 72 z _ rfl Tryz.underlying50 hz1 hz2 hz3 q c k D hDl h19 (hRw.old hbw) (some ⟨p, 0, none⟩) 1 (⟨b.id, b.h, q', c'⟩ : Blk) h30 hr (by omega) ?_
          intro q2 c2 w' hP
          exact hK _ _ (fun t ht => by cases ht; trivial) ⟨(fun h => absurd h (by omega)), (fun h => absurd h (by omega)), (fun h => absurd h (by omega)), (fun h => absurd h (by omega)), (fun _ => ⟨q2, c2, rfl, HPU.out D w1 w' q' c' q2 c2 hDl hRw hDi hDo hbw hR hq hP⟩), (fun h => absurd h (by omega))⟩
        refine OweAllC.cons (owesC_mem 4 rfl rfl rfl fun a w1 x ha hG hx hV => ?_) ?_
        · skip
          have h31 := hx 3 12 _ 31 rfl rfl rfl rfl
          simp only [Act.eval] at h31
          obtain ⟨q2, c2, rfl, hO⟩ := hG.2.2.2.2.1 rfl
          exact ⟨_, w1, wanted_free rfl, by simp [execOp, go_sem, h31], trivial, (fun h => absurd h (by omega)), (fun h => absurd h (by omega)), (fun h => absurd h (by omega)), (fun h => absurd h (by omega)), (fun h => absurd h (by omega)), (fun _ => ⟨q2, c2, rfl, hO⟩)⟩
        exact OweAllC.nil
        ) ?_
      intro f wz xz hG hx hv
      have e5 : f 5 = xz := hx 4 13 _ 5 rfl rfl rfl rfl
      first | (rename_i hK; refine hK _ _ ?_; clear hK) | (rename_i hK _; refine hK _ _ ?_; clear hK) | (rename_i hK _ _; refine hK _ _ ?_; clear hK) | (rename_i hK _ _ _; refine hK _ _ ?_; clear hK)
      clear hv hx
      simp only [dsts, puts, List.filterMap_cons, List.filterMap_nil, List.foldl_cons, List.foldl_nil, Act.put, List.setIfInBounds_toArray, List.set_cons_succ, List.set_cons_zero, e5]
      clear e5
      obtain ⟨q2, c2, rfl, hO⟩ := hG.2.2.2.2.2 rfl
      have HO := Lib.hid hO
      clear hG HG0 hO
      go_wp2_with fail
      go_roundw
      case rel => exact ⟨k + 1, q2, c2, by omega, rfl, by go_num, HO⟩
      case measure => simp [intOf]; omega
    · obtain rfl : k = n := by omega
      have hlt' : ¬ (k : Int) < k := by omega
      clear hlt
      go_wp2_with fail
      exact HF.out q c _ HS.out
end
end Go.Proofs.YtemnebbdaljfbaaGreatDoor

namespace Go.Proofs.YtemnebbdaljfbaaGreatDoor
open Go.RowKit

section
variable {w w1 w2 : World} {da : Nat} {hq : Option Addr} {D : List RH} {wr : World} {k : Nat} {L : List RBk} {q : Option Addr}
/-- What the reference reads lies where the dag does not write. -/
theorem AdS.mid {w7 w8 : World} {S R : Nat → Prop} {X : DD} {y : RH} (h : AdS w w1 w2 da hq D wr k L q) (hB : BtH w1 w2 hq D)
    (hdg : DG S R wr da X) (hR : ∀ j, R j → w.heap.size ≤ j ∧ (j < w1.heap.size ∨ w2.heap.size ≤ j)) (hnR : ∀ a, q = some a → ¬ R a.block)
    (h7 : Below wr.heap.size wr w7) (hy : y ∈ D) (hm : Mod S w7 w8) : Rd encRB w8 q L ∧ (∀ r ∈ L, fmR w8 r.x) ∧ okH w8 y := by
  have hSR : ∀ j, S j → R j := hdg.rs
  have hfr : ∀ j, S j → ¬ (w1.heap.size ≤ j ∧ j < w2.heap.size) := fun j hj hh => by have := (hR j (hSR j hj)).2; omega
  have hD : ∀ z ∈ D, okH w8 z := fun z hz => ((h.ok z hz).old h7).kept hm (fun a e hs => hfr _ hs (hB.2 z hz a e))
  refine ⟨(h.rd.old h7).mod hm (fun a e hs => hnR a e (hSR _ hs)), fun r hr => ?_, hD y hy⟩
  have hf := h.fm r hr
  rcases h.src r hr with e | ⟨hd, _⟩
  · rw [e]; exact ⟨grh_ok w8, by decide⟩
  · exact ⟨hD _ hd, hf.pw⟩
theorem AdS.add2 {w7 w8 w9 : World} {q' : Option Addr} {S R : Nat → Prop} {X : DD} {y : RH} (h : AdS w w1 w2 da hq D wr k L q) (hB : BtH w1 w2 hq D)
    (hdg : DG S R wr da X) (hkl : KL X.K L) (hid : ∀ b ∈ X.K, b.id = nmH b.h) (hR : ∀ j, R j → w.heap.size ≤ j ∧ (j < w1.heap.size ∨ w2.heap.size ≤ j)) (hnR : ∀ a, q = some a → ¬ R a.block)
    (h7 : Below wr.heap.size wr w7) (hy : y ∈ D) (hc : chkR y = 0) (ha : AddP S R w7 da X (ownH y.h) w8)
    (h9 : Below w8.heap.size w8 w9) (hL : Rd encRB w9 q' (L ++ [⟨nmR y.h, y⟩])) (hq' : ∀ a, q' = some a → q = some a ∨ w8.heap.size ≤ a.block) : AdS w w1 w2 da hq D w9 (k + 1) (L ++ [⟨nmR y.h, y⟩]) q' := by
  obtain ⟨S', R', F', b, hbi, hd, hm, hS', hR'⟩ := ha
  have hSR : ∀ j, S j → R j := hdg.rs
  have hlt : ∀ a, q = some a → a.block < wr.heap.size := fun a e => by
    obtain ⟨b', o, e2, hb', _⟩ := h.rd 0 h.pos
    rw [e] at e2; cases e2; exact hb'
  have hfr : ∀ j, S j → ¬ (w1.heap.size ≤ j ∧ j < w2.heap.size) := fun j hj hh => by have := (hR j (hSR j hj)).2; omega
  have hyp := (h.ok y hy).p
  have hb8 : Below w.heap.size w w8 := by
    have h1 : Below w.heap.size w w7 := h.b.trans (h7.mono h.b.size)
    exact h1.trans (hm.to_below h1.size (fun j hj hs => by have := (hR j (hSR j hs)).1; omega))
  refine ⟨⟨S', R', _, hd.old h9, hkl.add hyp hbi, ?_, ?_, ?_⟩, hL, ?_, ?_, ?_, ((h.hd.old h7).mod hm (fun a e hs => hfr _ hs (hB.1 a e))).old h9, ?_, ?_, ?_⟩
  · intro b' hb'
    rcases List.mem_cons.1 hb' with rfl | hb'
    · have e1 : b'.id = nmH (ownH y.h) := congrArg (·.1) hbi
      have e2 : b'.h = ownH y.h := congrArg (·.2) hbi
      rw [e1, e2]
    · exact hid b' hb'
  · intro j hj
    rcases hR' j hj with h1 | h1
    · exact hR j h1
    · have := h7.size; have := h.s2; have := h.b.size; omega
  · intro a e hr
    rcases hq' a e with h2 | h2
    · rcases hR' _ hr with h1 | h1
      · exact hnR a h2 h1
      · have := hlt a h2; have := h7.size; omega
    · have := hd.rl _ hr; omega
  · have := h.len; rw [List.length_append, List.length_singleton]; omega
  · rw [List.length_append, List.length_singleton]; omega
  · intro r hr
    rcases List.mem_append.1 hr with h1 | h1
    · exact h.src r h1
    · rw [List.mem_singleton.1 h1]; exact .inr ⟨hy, hc⟩
  · intro z hz
    exact (((h.ok z hz).old h7).kept hm (fun a e hs => hfr _ hs (hB.2 z hz a e))).old h9
  · exact hb8.trans (h9.mono hb8.size)
  · have := h.s2; have := h7.size; have := hm.size; have := h9.size; omega
end
end Go.Proofs.YtemnebbdaljfbaaGreatDoor

namespace Go.Proofs.YtemnebbdaljfbaaGreatDoor
open Go.RowKit

theorem cmpB_lt : ∀ a b : List UInt8, Lib.compareBytes a b < 0 ↔ a < b
  | [], [] => by simp [Lib.compareBytes]
  | [], _ :: _ => by simp [Lib.compareBytes]
  | _ :: _, [] => by simp [Lib.compareBytes]
  | a :: l, b :: m => by
    rw [List.cons_lt_cons_iff]
    simp only [Lib.compareBytes]
    by_cases h1 : a < b
    · simp [h1]
    · by_cases h2 : b < a
      · rw [if_neg h1, if_pos h2]
        constructor
        · intro h; exact absurd h (by decide)
        · rintro (h | ⟨h, _⟩)
          · exact absurd h h1
          · subst h; exact absurd h2 h1
      · have e : a = b := UInt8.toNat_inj.1 (by rw [UInt8.lt_iff_toNat_lt] at h1 h2; omega)
        rw [if_neg h1, if_neg h2, cmpB_lt l m]
        constructor
        · intro h; exact .inr ⟨e, h⟩
        · rintro (h | ⟨_, h⟩)
          · exact absurd h h1
          · exact h
theorem insB_memI (s : List UInt8) (l : List (List UInt8)) (x : List UInt8) : x ∈ insB s l ↔ x = s ∨ x ∈ l := by
  induction l with
  | nil => simp [insB]
  | cons t r ih =>
    rw [insB]
    by_cases h1 : Lib.compareBytes s t < 0
    · rw [if_pos h1]; simp
    · rw [if_neg h1]
      by_cases h2 : Lib.compareBytes t s < 0
      · rw [if_pos h2, List.mem_cons, ih, List.mem_cons]
        constructor
        · rintro (h | h | h) <;> simp [h]
        · rintro (h | h | h) <;> simp [h]
      · have e := cmpB_eq s t h1 h2
        rw [if_neg h2, List.mem_cons, e]
        constructor
        · intro h; exact .inr h
        · rintro (h | h)
          · exact .inl h
          · exact h
theorem insB_strict (s : List UInt8) (l : List (List UInt8)) (h : l.Pairwise (· < ·)) : (insB s l).Pairwise (· < ·) := by
  induction l with
  | nil => exact List.pairwise_singleton _ _
  | cons t r ih =>
    obtain ⟨h1, h2⟩ := List.pairwise_cons.1 h
    rw [insB]
    by_cases a : Lib.compareBytes s t < 0
    · rw [if_pos a]
      refine List.pairwise_cons.2 ⟨fun x hx => ?_, h⟩
      rcases List.mem_cons.1 hx with rfl | hx
      · exact (cmpB_lt _ _).1 a
      · exact List.lt_trans ((cmpB_lt _ _).1 a) (h1 x hx)
    · rw [if_neg a]
      by_cases b : Lib.compareBytes t s < 0
      · rw [if_pos b]
        refine List.pairwise_cons.2 ⟨fun x hx => ?_, ih h2⟩
        rcases (insB_memI s r x).1 hx with rfl | hx
        · exact (cmpB_lt _ _).1 b
        · exact h1 x hx
      · rw [if_neg b]; exact h
theorem rsort_both (L : List (List UInt8)) : (rsort L).Pairwise (· < ·) ∧ ∀ x, x ∈ rsort L ↔ x ∈ L := by
  have hg : ∀ (L A : List (List UInt8)), A.Pairwise (· < ·) → (L.foldl (fun out s => insB s out) A).Pairwise (· < ·) ∧ ∀ x, x ∈ L.foldl (fun out s => insB s out) A ↔ x ∈ A ∨ x ∈ L := by
    intro L
    induction L with
    | nil => intro A hA; exact ⟨hA, fun x => by simp⟩
    | cons s l ih =>
      intro A hA
      obtain ⟨h1, h2⟩ := ih (insB s A) (insB_strict s A hA)
      refine ⟨h1, fun x => ?_⟩
      rw [List.foldl_cons, h2, insB_memI, List.mem_cons]
      constructor
      · rintro ((h | h) | h) <;> simp [h]
      · rintro (h | h | h) <;> simp [h]
  obtain ⟨h1, h2⟩ := hg L [] List.Pairwise.nil
  exact ⟨h1, fun x => by rw [rsort, h2]; simp⟩
theorem lt_uniq {A B : List (List UInt8)} (hA : A.Pairwise (· < ·)) (hB : B.Pairwise (· < ·)) (h : ∀ x, x ∈ A ↔ x ∈ B) : A = B := by
  have ne : ∀ {L : List (List UInt8)}, L.Pairwise (· < ·) → L.Nodup := fun hL => hL.imp (fun {a b} h e => by subst e; exact absurd h (List.lt_irrefl _))
  exact List.Perm.eq_of_pairwise (le := fun a b : List UInt8 => a < b) (fun a b _ _ h1 h2 => absurd (List.lt_trans h1 h2) (List.lt_irrefl _)) hA hB ((List.perm_ext_iff_of_nodup (ne hA) (ne hB)).2 h)
theorem msort_strict {B : List (List UInt8)} (hB : B.Nodup) : (B.mergeSort fun x y => decide (x ≤ y)).Pairwise (· < ·) := by
  have h1 := List.pairwise_mergeSort (le := fun x y : List UInt8 => decide (x ≤ y)) (fun a b c h1 h2 => by simp only [decide_eq_true_eq] at *; exact List.le_trans h1 h2) (fun a b => leq_total a b) B
  have h2 : (B.mergeSort fun x y => decide (x ≤ y)).Nodup := (List.mergeSort_perm B _).nodup_iff.2 hB
  refine (List.Pairwise.and h1 h2).imp ?_
  rintro a b ⟨h3, h4⟩
  simp only [decide_eq_true_eq] at h3
  rcases Classical.em (a < b) with h | h
  · exact h
  · exact absurd (List.le_antisymm h3 (List.not_lt.1 h)) h4
theorem sortT_eq {A B : List (List UInt8)} (hB : B.Nodup) (h : ∀ x, x ∈ A ↔ x ∈ B) : rsort A = B.mergeSort fun x y => decide (x ≤ y) :=
  lt_uniq (rsort_both A).1 (msort_strict hB) (fun x => by rw [(rsort_both A).2, h, (List.mergeSort_perm B _).mem_iff])
/-- No family's text begins as a letter does. -/
theorem fam_none {α : Type} (h : Hd α) (K : List UInt8) (ht : h.ht ≤ 9223372036854775807) : hfam h K ≠ [110, 111, 110, 101] := by
  unfold hfam numL
  intro e
  have e1 : UInt8.ofNat (beBytes h.ht.toNat).length = 110 := by
    have := congrArg (fun l => l.head?) e
    simpa using this
  have hl : (beBytes h.ht.toNat).length ≤ 8 := by
    have := numL_len h.ht (by omega)
    unfold numL at this
    simp only [List.length_cons] at this
    omega
  have e2 := congrArg UInt8.toNat e1
  rw [UInt8.toNat_ofNat_of_lt' (Nat.lt_of_le_of_lt hl (by decide))] at e2
  have : (110 : UInt8).toNat = 110 := rfl
  omega
theorem famK_len {b : Blk} (h : HOk b.h) (hp : b.h.ps.length ≤ 5) : (famK b).length ≤ 1000 := by
  have h1 := kset_len b.h.ps
  have h2 : (kB (kset b.h.ps)).length = (kset b.h.ps).length * 32 := kB_len _
  have n1 := numL_len b.h.ht (by have := h.b1.2; omega)
  have n2 := numL_len (pwN b.h.pw) (by have := pwN_bd b.h.pw; omega)
  have n3 := numL_len ((kB (kset b.h.ps)).length : Int) (by omega)
  unfold famK hfam
  simp only [List.length_append]
  omega
/-- What the dag and the reference say of families. -/
theorem KL.fams {K : List Blk} {L : List RBk} (h : KL K L) (hp : ∀ r ∈ L, ∀ p ∈ r.x.h.ps, p.length = 32) : (∀ b ∈ K, ∃ r ∈ L, r.nm = b.id.1 ∧ famR r.x = famK b) ∧ ∀ r ∈ L, ∃ b ∈ K, b.id.1 = r.nm ∧ famK b = famR r.x := by
  refine ⟨fun b hb => ?_, fun r hr => ?_⟩
  · obtain ⟨r, hr, e1, e2⟩ := h.kl b hb
    refine ⟨r, hr, e1, ?_⟩
    rw [famR_own (hp r hr), e2]; rfl
  · obtain ⟨b, hb, e1, e2⟩ := h.lk r hr
    refine ⟨b, hb, e1, ?_⟩
    rw [famR_own (hp r hr), ← e2]; rfl
end Go.Proofs.YtemnebbdaljfbaaGreatDoor
