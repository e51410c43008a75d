/- Texts 6: what the laws lean on. -/
import Derived.Test.YtjjkobbajbbgdaaGreatDoorZ5
namespace Go.Proofs.YtjjkobbajbbgdaaGreatDoor
open Go.RowKit

theorem build_one {α : Type} {P : Program} {o : Oper} {a : Act} {w : World} (E : Enc α) (Ts T : TypeId) (z : Value) (by_ : Nat) (hT : P.underlying Ts = some (.slice T)) (hi : (P.info? T).map (fun i => (i.zero, i.size, i.bytes)) = some (some z, E.k, by_)) (hk : E.k ≤ 1000)
    (x : Operand) (ho : o.op = .buildSlice Ts 1 #[(0, x)]) (y : α) (v : Value) (hv : v.cells = (E.f y).toArray) (hx : a.eval x = v) :
    (execOp a.eval o).run P w = .ok (.value (.slice (some ⟨w.heap.size, 0, none⟩) 1 1)) (w.alloc (.cells (E.f y).toArray T)) := by
  cases hq : P.info? T with
  | none => rw [hq] at hi; cases hi
  | some i =>
    rw [hq] at hi
    simp only [Option.map_some, Option.some.injEq, Prod.mk.injEq] at hi
    obtain ⟨hz, h1, _⟩ := hi
    have hpos := E.pos
    have hf := Great.fill_whole (s := E.k) E.pos [v] ((Array.range (1 * E.k)).map (z.cells[· % z.cells.size]!)) (by intro u hu; rw [List.mem_singleton.1 hu, hv, List.size_toArray, E.len]) (by simp)
    have hb := run_buildSlice (P := P) w Ts T 1 #[(0, v)] (E.f y).toArray i z hT hq hz (by rw [h1]; omega) (by rw [h1]; omega) (by
      rw [h1]
      refine hf.trans ?_
      simp [hv])
    unfold execOp
    simp only [ho, List.map_toArray, List.map_cons, List.map_nil, hx, Sem.run_bind, hb, Result.andThen_ok, Sem.run_pure]
/-- One element more. -/
theorem wp_pushR1 {α : Type} {P : Program} {o : Oper} {a : Act} {K : Act → World → Prop} {Q : Exit → Act → World → Prop} {w : World} (E : Enc α) (s x : Operand) (Ts T : TypeId) (z : Value) (by_ : Nat)
    (ho : o.op = .call { callee := .builtin .append, args := #[s, x], argTypes := #[Ts, Ts] }) (hT : P.underlying Ts = some (.slice T)) (hi : (P.info? T).map (fun i => (i.zero, i.size, i.bytes)) = some (some z, E.k, by_)) (hzs : z.cells.size = E.k) (hby : by_ ≤ 1024)
    (p : Option Addr) (cap n : Nat) (L : List α) (hn : L.length = n) (hs : a.eval s = .slice p n cap) (hS : Rw E T w p cap L) (ao : Option Addr) (cx : Nat) (y : α) (hx : a.eval x = .slice ao 1 cx) (hY : Rd E w ao [y]) (hl : n ≤ 1000000000)
    (h : ∀ q c w', PushR E T w p (L ++ [y]) q c w' → K (a.put o.dst (.slice q (n + 1) c)) w') : o.wp P a w K Q := by
  cases hq : P.info? T with
  | none => rw [hq] at hi; cases hi
  | some i =>
    rw [hq] at hi
    simp only [Option.map_some, Option.some.injEq, Prod.mk.injEq] at hi
    obtain ⟨hz, h1, h2⟩ := hi
    subst hn
    have hmul : (L.length + 1) * by_ ≤ 140737488355328 := Nat.le_trans (Nat.mul_le_mul (show L.length + 1 ≤ 1000000001 by omega) hby) (by decide)
    obtain ⟨bs, off, rfl, hbs, hc⟩ := hY 0 (by simp)
    refine wp_append_lies w s x Ts ho 0 T i z E.k by_ hT hq hz h1 h2 hzs E.pos _ L.length (E.all L) hs hS ⟨bs, off, none⟩ 1 cx (E.f y) hx (by rw [E.len]; omega) ?_ (E.one _) (by decide) (by unfold maxLen; omega) hmul (Nat.zero_le _) _ rfl ?_
    · intro j u hj
      have := hc j u hj
      have hadd : (⟨bs, off, none⟩ : Addr).add j = ⟨bs, off + j, none⟩ := by unfold Addr.add; split <;> simp_all
      rw [hadd]
      simpa using this
    · intro g c w' hown hgrow hat _
      refine h (some ⟨g, 0, none⟩) c w' ⟨?_, ?_, ?_⟩
      · have e : E.all (L ++ [y]) = E.all L ++ E.f y := by rw [E.all_app]; simp [Enc.all]
        unfold Rw; rw [List.length_append, e]; exact hown
      · refine (Mod.refl _ w).grown hgrow ?_
        intro j hj _
        cases p with
        | none => simp [Value.ownBlock] at hj
        | some a => simp [Value.ownBlock] at hj; exact ⟨a, rfl, hj.symm⟩
      · rintro a' e; cases e
        rcases hat with hat | hat
        · left
          rcases hS.shape with ⟨rfl, _⟩ | ⟨g', rfl, _⟩
          · simp [Value.ownBlock] at hat
          · simp [Value.ownBlock] at hat; subst hat; rfl
        · right; rw [hat]; exact Nat.le_refl _
theorem exec_store_one {P : Program} {o : Oper} {a : Act} {w : World} (ty : TypeId) (x y : Operand) (ho : o.op = .store ty x y) (ad : Addr) (hx : a.eval x = .pointer (some ad)) (v : Value) (hy : a.eval y = v) (hv : (storeVar ty ad v).run P w = .ok () (w.setCell ad v)) :
    (execOp a.eval o).run P w = .ok .skip (w.setCell ad v) := by
  unfold execOp
  simp only [ho, hx, hy, Instr.storeAt, Instr.sureAddr, Sem.run_bind, Sem.run_pure, Result.andThen_ok, hv]
theorem chL_set (P T : List Nat) (hP : IsTab P) (hT : IsTab T) (q : Option Addr) (n cap wp : Nat) : ((chL P q n cap wp).toArray.toList.take 0 ++ nums .i64 T ++ (chL P q n cap wp).toArray.toList.drop (0 + (nums .i64 T).length)).toArray = (chL T q n cap wp).toArray := by
  congr 1
  rw [List.take_zero, List.nil_append, Nat.zero_add, nums_len, hT.len]
  unfold chL
  rw [List.drop_append_of_le_length (by simp [nums_len, hP.len]), List.drop_of_length_le (by simp [nums_len, hP.len])]
  rfl
theorem chL_put (P : List Nat) (hP : IsTab P) (q q' : Option Addr) (n cap n' cap' wp : Nat) : (chL P q n cap wp).toArray.set! 64 (.slice q' n' cap') = (chL P q' n' cap' wp).toArray := by
  simp only [Array.set!_eq_setIfInBounds, List.setIfInBounds_toArray]
  congr 1
  unfold chL
  rw [List.set_append_right _ _ (by simp [nums_len, hP.len])]
  simp [nums_len, hP.len]
theorem FC.ne {w : World} {c : Nat} {P : List Nat} {D : List Cc} {q : Option Addr} {cap wp b : Nat} (h : FC w c P D q cap wp b) : (∀ a, q = some a → a.block ≠ c) ∧ wp ≠ c ∧ b ≠ c := by
  refine ⟨?_, ?_, ?_⟩
  · rintro a rfl e
    rcases h.rw.shape with ⟨e1, _⟩ | ⟨g, e1, _, _, _, cur, hh, _⟩
    · cases e1
    · cases e1
      simp only at e
      rw [e, h.blk] at hh
      simp only [Option.some.injEq, Obj.cells.injEq] at hh
      exact absurd hh.2.1 (by decide)
  · intro e
    have h1 := h.pl
    rw [e, h.blk] at h1
    simp only [Option.some.injEq, Obj.cells.injEq] at h1
    exact absurd h1.2.1 (by decide)
  · exact fun e => h.mp.notCells h.blk e.symm
theorem FC.settab {w w' : World} {c : Nat} {P T : List Nat} {D : List Cc} {q : Option Addr} {cap wp b : Nat} (h : FC w c P D q cap wp b) (hT : IsTab T) (hm : Mod (· = c) w w') (hb : w'.heap[c]? = some (.cells (chL T q D.length cap wp).toArray 61 (0, 0))) : FC w' c T D q cap wp b :=
  ⟨hb, hT, h.rw.kept hm (fun a e => h.ne.1 a e), (hm.block wp h.plt h.ne.2.1).trans h.pl, h.mp.kept hm h.ne.2.2, h.fl⟩
/-- One certificate more: the row is pushed, then its slice is stored. -/
theorem FC.push {u v : World} {c : Nat} {P : List Nat} {D : List Cc} {q q' : Option Addr} {cap cap' wp b : Nat} {y : Cc} (h : FC u c P D q cap wp b) (hp : PushR encC 47 u q (D ++ [y]) q' cap' v) (hf : y.c.fin.length ≤ 1000000) :
    FC (v.setCell ⟨c, 64, none⟩ (.slice q' (D.length + 1) cap')) c P (D ++ [y]) q' cap' wp b ∧ Mod (fun i => i = c ∨ ∃ a, q = some a ∧ i = a.block) u (v.setCell ⟨c, 64, none⟩ (.slice q' (D.length + 1) cap')) := by
  obtain ⟨hR, hM, ho⟩ := hp
  have hlt := h.lt
  have hbv : v.heap[c]? = some (.cells (chL P q D.length cap wp).toArray 61 (0, 0)) := (hM.block c hlt (by rintro ⟨a, e, e2⟩; exact h.ne.1 a e e2.symm)).trans h.blk
  have hpv : v.heap[wp]? = some (.cells #[.int .i64 4, .map (some b)] 85 (0, 0)) := by
    refine (hM.block wp h.plt ?_).trans h.pl
    rintro ⟨a, e, e2⟩
    subst e
    rcases h.rw.shape with ⟨e1, _⟩ | ⟨g, e1, _, _, _, cur, hh, _⟩
    · cases e1
    · cases e1
      have h1 := h.pl
      rw [e2, hh] at h1
      simp only [Option.some.injEq, Obj.cells.injEq] at h1
      exact absurd h1.2.1 (by decide)
  have hmv : MapK Tryz.prog 9 keyS v b [] := by
    refine h.mp.kept hM ?_
    rintro ⟨a, e, e2⟩
    subst e
    rcases h.rw.shape with ⟨e1, _⟩ | ⟨g, e1, _, _, _, cur, hh, _⟩
    · cases e1
    · cases e1
      exact h.mp.notCells hh e2.symm
  have hS : Mod (· = c) v (v.setCell ⟨c, 64, none⟩ (.slice q' (D.length + 1) cap')) := (Mod.refl (· = c) v).setCell (fun _ => rfl) _
  have hq' : ∀ a, q' = some a → a.block ≠ c := by
    intro a e e2
    rcases ho a e with h1 | h1
    · exact h.ne.1 a h1 e2
    · omega
  have hwc : wp ≠ c := h.ne.2.1
  have hbc : b ≠ c := h.ne.2.2
  refine ⟨⟨?_, h.tab, hR.kept hS (fun a e => hq' a e), (hS.block wp (Array.getElem?_eq_some_iff.1 hpv).1 hwc).trans hpv, hmv.kept hS hbc, ?_⟩, ?_⟩
  · rw [heap_setCell_same v c 64 _ 61 _ hbv, List.length_append, List.length_singleton]
    congr 2
    have := chL_put P h.tab q q' D.length cap (D.length + 1) cap' wp
    rw [← this, Array.set!_eq_setIfInBounds]
  · intro x hx
    rcases List.mem_append.1 hx with h1 | h1
    · exact h.fl x h1
    · rw [List.mem_singleton.1 h1]; exact hf
  · exact (hM.mono (fun i _ h => .inr h)).setCell (fun _ => .inl rfl) _
noncomputable def zCt : Value := .agg #[.int .i64 0, .string ⟨#[]⟩, .string ⟨#[]⟩, .slice none 0 0, .slice none 0 0]
noncomputable def byCt : Nat := (Tryz.prog.info? 47).elim 0 (·.bytes)
theorem info_ct5 : (Tryz.prog.info? 47).map (fun i => (i.zero, i.size, i.bytes)) = some (some zCt, 5, byCt) := by kernel_rfl
theorem byCt_le : byCt ≤ 1024 := by decide +kernel
theorem FC.pushed {u v : World} {c : Nat} {P : List Nat} {D B : List Cc} {q q' : Option Addr} {cap cap' wp b : Nat} (h : FC u c P D q cap wp b) (hp : PushR encC 47 u q B q' cap' v) : v.heap[c]? = some (.cells (chL P q D.length cap wp).toArray 61 (0, 0)) :=
  (hp.2.1.block c h.lt (by rintro ⟨a, e, e2⟩; exact h.ne.1 a e e2.symm)).trans h.blk
set_option maxRecDepth 20000 in
set_option maxHeartbeats 4000000 in
theorem accept_any {w : World} {b0 : Nat} {P : List Nat} {D : List Cc} {qd : Option Addr} {cap wp mb : Nat} (h : FC w b0 P D qd cap wp mb) (hD : D.length ≤ 1000000) (c : Ct) (p q : Option Addr) (cp cq : Nat) (hfl : c.fin.length ≤ 1000000) (T : List Nat) (hTT : IsTab T)
    (hnx : ∀ u, Below w.heap.size w u → Calls Tryz.prog 47 #[.agg (ctc c p q cp cq), tval P] u fun r w' => r = .returned (.tuple #[tval T, .int .i64 0]) ∧ Below u.heap.size u w') :
    Calls Tryz.prog 29 #[.pointer (some ⟨b0, 0, none⟩), .agg (ctc c p q cp cq)] w fun r w' => r = .returned (.tuple #[]) ∧ ∃ q' cap', FC w' b0 T (D ++ [⟨c, p, q, cp, cq⟩]) q' cap' wp mb ∧ Mod (fun i => i = b0 ∨ ∃ a, qd = some a ∧ i = a.block) w w' ∧ (∀ a, q' = some a → qd = some a ∨ w.heap.size ≤ a.block) := by
  obtain ⟨F, hF⟩ : ∃ F : Ending → World → Prop, F = fun r w' => r = .returned (.tuple #[]) ∧ ∃ q' cap', FC w' b0 T (D ++ [⟨c, p, q, cp, cq⟩]) q' cap' wp mb ∧ Mod (fun i => i = b0 ∨ ∃ a, qd = some a ∧ i = a.block) w w' ∧ (∀ a, q' = some a → qd = some a ∨ w.heap.size ≤ a.block) := ⟨_, rfl⟩
  rw [← hF]
  have HF := Lib.hid hF
  have HH := Lib.hid h
  have HD := Lib.hid hD
  have HFL := Lib.hid hfl
  have htabc : Hid (∀ i u, (nums .i64 P)[i]? = some u → w.cell? ⟨b0, 0 + i, none⟩ = some u) := Lib.hid h.tabc
  have HP := Lib.hid h.tab
  have HTT := Lib.hid hTT
  have HLT := Lib.hid h.lt
  have HNX := Lib.hid hnx
  obtain ⟨y, hy⟩ : ∃ y : Cc, y = ⟨c, p, q, cp, cq⟩ := ⟨_, rfl⟩
  have HY := Lib.hid hy
  obtain ⟨X, hX⟩ : ∃ X : Array Value, X = ctc c p q cp cq := ⟨_, rfl⟩
  have HXI : Hid ((Tryz.prog.info? 47).map (·.size) = some X.size) := Lib.hid (by rw [hX]; unfold ctc; kernel_rfl)
  have HXE : Hid (encC.f y = X.toList) := Lib.hid (by rw [hy, hX]; rfl)
  have HX1 : Hid (∀ v ∈ X.toList, v.oneCell' = true) := Lib.hid (by rw [hX]; exact ctc_one _ _ _ _ _)
  obtain ⟨TP, hTP⟩ : ∃ TP, TP = tval P := ⟨_, rfl⟩
  obtain ⟨TQ, hTQ⟩ : ∃ TQ, TQ = tval T := ⟨_, rfl⟩
  have HTP := Lib.hid hTP
  have HTQ := Lib.hid hTQ
  rw [← hX, ← hTP, ← hTQ] at HNX
  rw [← hX]
  have hb : Below w.heap.size w (w.alloc (.cells X 47)) := (Below.refl _ w).alloc (Nat.le_refl _) _
  have hrow := heap_alloc_new w (.cells X 47)
  obtain ⟨W1, hW1⟩ : ∃ W1, W1 = w.alloc (.cells X 47) := ⟨_, rfl⟩
  obtain ⟨g, hg⟩ : ∃ g, g = w.heap.size := ⟨_, rfl⟩
  rw [← hg, ← hW1] at hrow
  rw [← hW1] at hb
  have HW := Lib.hid hW1
  have HG := Lib.hid hg
  have HB := Lib.hid hb
  have HROW := Lib.hid hrow
  have HG0 : Hid ((fun (j : Nat) (_ : Value) (w1 : World) => (j ≤ 1 → Below W1.heap.size W1 w1) ∧ (j = 2 → ∃ u, Below W1.heap.size W1 u ∧ w1 = u.setRow b0 (chL T qd D.length cap wp).toArray)) 0 undef W1.drew) := Lib.hid ⟨fun _ => (Below.refl _ W1).drew, (fun h => absurd h (by omega))⟩
  clear h hD hTT hfl hnx hF hy hX hTP hTQ hb hrow hW1 hg
  go_enter Tryz.func29, Tryz.ntmps29
  go_wp2_with fail
  rw [← HW.out, ← HG.out]
  refine wp_region_chain2 (fun t v => match t with
    | 5 => v = .pointer (some ⟨b0, 0, none⟩)
    | 6 => v = .agg X
    | 7 => v = .pointer (some ⟨b0, 0, none⟩)
    | 8 => v = .pointer (some ⟨b0, 0, none⟩)
    | 9 => v = .pointer (some ⟨b0, 0, none⟩)
    | 10 => v = TP
    | 11 => v = .tuple #[TQ, .int .i64 0]
    | 4 => v = .tuple #[TQ, .int .i64 0]
    | 12 => v = TQ
    | 13 => v = .int .i64 0
    | 14 => v = .pointer (some ⟨b0, 0, none⟩)
    | 15 => v = .pointer (some ⟨b0, 0, none⟩)
    | _ => True) (fun (j : Nat) (_ : Value) (w1 : World) => (j ≤ 1 → Below W1.heap.size W1 w1) ∧ (j = 2 → ∃ u, Below W1.heap.size W1 u ∧ w1 = u.setRow b0 (chL T qd D.length cap wp).toArray)) [6, 12] 26 (by kernel_rfl) (by decide +kernel) rfl (by decide +kernel) (by decide) (by decide) HG0.out (by
    refine OweAllC.cons (owesC_val 1 (by decide +kernel) (by decide) rfl rfl fun k' a w1 x hk ha hG hV => ?_) ?_
    · skip
      have h0 := ha.outer 0 (by decide +kernel)
      simp only [Act.eval] at h0
      exact ⟨.pointer (some ⟨b0, 0, none⟩), wanted_free rfl, by simp [execOp, go_sem, h0], rfl⟩
    refine OweAllC.cons (owesC_val 0 (by decide +kernel) (by decide) rfl rfl fun k' a w1 x hk ha hG hV => ?_) ?_
    · skip
      have h3 := ha.outer 3 (by decide +kernel)
      simp only [Act.eval] at h3
      have cc := ((hG.1 (by omega)).block g (Array.getElem?_eq_some_iff.1 HROW.out).1).trans HROW.out
      exact ⟨.agg X, wanted_free rfl, exec_load_row 47 (.tmp 3) rfl g h3 47 X (0, 0) _ cc Tryz.underlying47 rfl HXI.out, rfl⟩
    refine OweAllC.cons (owesC_val 0 (by decide +kernel) (by decide) rfl rfl fun k' a w1 x hk ha hG hV => ?_) ?_
    · skip
      have h0 := ha.outer 0 (by decide +kernel)
      simp only [Act.eval] at h0
      exact ⟨.pointer (some ⟨b0, 0, none⟩), wanted_free rfl, by simp [execOp, go_sem, h0], rfl⟩
    refine OweAllC.cons (owesC_val 0 (by decide +kernel) (by decide) rfl rfl fun k' a w1 x hk ha hG hV => ?_) ?_
    · skip
      have h7 : a.tmps.getD 7 undef = .pointer (some ⟨b0, 0, none⟩) := hV.get 7 (by decide +kernel)
      exact ⟨.pointer (some ⟨b0, 0, none⟩), wanted_free rfl, by simp [execOp, go_sem, h7], rfl⟩
    refine OweAllC.cons (owesC_val 0 (by decide +kernel) (by decide) rfl rfl fun k' a w1 x hk ha hG hV => ?_) ?_
    · skip
      have h8 : a.tmps.getD 8 undef = .pointer (some ⟨b0, 0, none⟩) := hV.get 8 (by decide +kernel)
      exact ⟨.pointer (some ⟨b0, 0, none⟩), wanted_free rfl, by simp [execOp, go_sem, h8], rfl⟩
    refine OweAllC.cons (owesC_val 0 (by decide +kernel) (by decide) rfl rfl fun k' a w1 x hk ha hG hV => ?_) ?_
    · skip
      have h9 : a.tmps.getD 9 undef = .pointer (some ⟨b0, 0, none⟩) := hV.get 9 (by decide +kernel)
      have hB := HB.out.trans ((hG.1 (by omega)).mono HB.out.size)
      exact ⟨TP, wanted_free rfl, (exec_load_tab (.tmp 9) rfl b0 0 h9 P HP.out (fun i u hu => (World.cell?_of_block (hB.block b0 HLT.out)).trans (htabc.out i u hu))).trans (by rw [HTP.out]), rfl⟩
    refine OweAllC.cons (owesC_call 0 rfl rfl rfl 47 fun a w1 x ha hG hx hV => ?_) ?_
    · skip
      have h6 : a.tmps.getD 6 undef = .agg X := hV.get 6 (by decide +kernel)
      have h10 : a.tmps.getD 10 undef = TP := hV.get 10 (by decide +kernel)
      refine ⟨#[.agg X, TP], wanted_free rfl, by simp [execOp, resolve, invoke, go_sem, h6, h10], ?_⟩
      have hg1 := hG.1 (by omega)
      have hB := HB.out.trans (hg1.mono HB.out.size)
      refine (HNX.out w1 hB).mono ?_
      rintro r u2 ⟨rfl, hb⟩
      exact ⟨_, rfl, rfl, (fun _ => hg1.trans (hb.mono hg1.size)), (fun h => absurd h (by omega))⟩
    refine OweAllC.cons (owesC_val 1 (by decide +kernel) (by decide) rfl rfl fun k' a w1 x hk ha hG hV => ?_) ?_
    · skip
      have h11 : a.tmps.getD 11 undef = .tuple #[TQ, .int .i64 0] := hV.get 11 (by decide +kernel)
      exact ⟨.tuple #[TQ, .int .i64 0], wanted_free rfl, by simp [execOp, go_sem, h11], rfl⟩
    refine OweAllC.cons (owesC_val 1 (by decide +kernel) (by decide) rfl rfl fun k' a w1 x hk ha hG hV => ?_) ?_
    · skip
      have h4 : a.tmps.getD 4 undef = .tuple #[TQ, .int .i64 0] := hV.get 4 (by decide +kernel)
      exact ⟨TQ, wanted_free rfl, by simp [execOp, go_sem, h4], rfl⟩
    refine OweAllC.cons (owesC_val 2 (by decide +kernel) (by decide) rfl rfl fun k' a w1 x hk ha hG hV => ?_) ?_
    · skip
      have h4 : a.tmps.getD 4 undef = .tuple #[TQ, .int .i64 0] := hV.get 4 (by decide +kernel)
      exact ⟨.int .i64 0, wanted_free rfl, by simp [execOp, go_sem, h4], rfl⟩
    refine OweAllC.cons (owesC_val 1 (by decide +kernel) (by decide) rfl rfl fun k' a w1 x hk ha hG hV => ?_) ?_
    · skip
      have h5 : a.tmps.getD 5 undef = .pointer (some ⟨b0, 0, none⟩) := hV.get 5 (by decide +kernel)
      exact ⟨.pointer (some ⟨b0, 0, none⟩), wanted_free rfl, by simp [execOp, go_sem, h5], rfl⟩
    refine OweAllC.cons (owesC_val 1 (by decide +kernel) (by decide) rfl rfl fun k' a w1 x hk ha hG hV => ?_) ?_
    · skip
      have h14 : a.tmps.getD 14 undef = .pointer (some ⟨b0, 0, none⟩) := hV.get 14 (by decide +kernel)
      exact ⟨.pointer (some ⟨b0, 0, none⟩), wanted_free rfl, by simp [execOp, go_sem, h14], rfl⟩
    refine OweAllC.cons (owesC_store 1 rfl rfl rfl fun a w1 x ha hG hx hV => ?_) ?_
    · skip
      have h15 : a.tmps.getD 15 undef = .pointer (some ⟨b0, 0, none⟩) := hV.get 15 (by decide +kernel)
      have h12 : a.tmps.getD 12 undef = TQ := hV.get 12 (by decide +kernel)
      have hg1 := hG.1 (by omega)
      have hB := HB.out.trans (hg1.mono HB.out.size)
      have hrow := (hB.block b0 HLT.out).trans HH.out.blk
      refine ⟨w1.setRow b0 (chL T qd D.length cap wp).toArray, wanted_free rfl, ?_, (fun h => absurd h (by omega)), (fun _ => ⟨w1, hg1, rfl⟩)⟩
      rw [← chL_set P T HP.out HTT.out qd D.length cap wp]
      exact exec_store_at (P := Tryz.prog) 26 (.tmp 15) (.tmp 12) rfl b0 0 h15 61 _ (nums .i64 T) (h12.trans HTQ.out) hrow (by rw [List.size_toArray, chL_len HP.out, nums_len, HTT.out.len]; decide) (by rw [nums_len, HTT.out.len]; kernel_rfl) (nums_one .i64 T)
    exact OweAllC.nil
    ) ?_
  intro f wz xz hG hx hv
  first | (rename_i hK; refine hK _ _ ?_; clear hK) | (rename_i hK _; refine hK _ _ ?_; clear hK) | (rename_i hK _ _; refine hK _ _ ?_; clear hK) | (rename_i hK _ _ _; refine hK _ _ ?_; clear hK)
  clear hv hx
  simp only [dsts, puts, List.filterMap_cons, List.filterMap_nil, List.foldl_cons, List.foldl_nil, Act.put, List.setIfInBounds_toArray, List.set_cons_succ, List.set_cons_zero]
  obtain ⟨u1, hu1, rfl⟩ := hG.2 rfl
  have HBU := Lib.hid (HB.out.trans (hu1.mono HB.out.size))
  have hrb : u1.heap[b0]? = some (.cells (chL P qd D.length cap wp).toArray 61 (0, 0)) := (HBU.out.block b0 HLT.out).trans HH.out.blk
  have HFU := Lib.hid (HH.out.old HBU.out)
  have HF2 : Hid (FC (u1.setRow b0 (chL T qd D.length cap wp).toArray) b0 T D qd cap wp mb) := Lib.hid (HFU.out.settab HTT.out (((Mod.refl (fun _ => False) u1).setRow (g := b0) _).mono (by rintro i hi (h | h) <;> first | exact h.elim | exact h)) (setRow_heap _ _ _ _ _ _ hrb))
  have HM2 : Hid (Mod (· = b0) w (u1.setRow b0 (chL T qd D.length cap wp).toArray)) := Lib.hid ((((Mod.of_below HBU.out).mono (T := fun i => i = b0) (fun i hi h => by omega)).setRow (g := b0) _).mono (by rintro i hi (h | h) <;> exact h))
  have HR2 : Hid ((u1.setRow b0 (chL T qd D.length cap wp).toArray).heap[g]? = some (.cells X 47 (0, 0))) := Lib.hid (by
    have hgl := (Array.getElem?_eq_some_iff.1 HROW.out).1
    have h1 := (hu1.block g hgl).trans HROW.out
    have h2 := HLT.out
    have h3 := HG.out
    exact (((Mod.refl (fun _ => False) u1).setRow (g := b0) (chL T qd D.length cap wp).toArray).block g (Array.getElem?_eq_some_iff.1 h1).1 (by rintro (h | h); exact h; omega)).trans h1)
  obtain ⟨W2, hW2⟩ : ∃ W2, W2 = u1.setRow b0 (chL T qd D.length cap wp).toArray := ⟨_, rfl⟩
  rw [← hW2] at HF2 HM2 HR2 ⊢
  have HG1' : Hid ((fun (j : Nat) (x : Value) (w1 : World) => (j ≤ 1 → Below W2.heap.size W2 w1) ∧ (j = 1 → ∃ g2, x = .slice (some ⟨g2, 0, none⟩) 1 1 ∧ Rd encC w1 (some ⟨g2, 0, none⟩) [y]) ∧ (j = 2 → ∃ q' c' u, x = .slice q' (D.length + 1) c' ∧ Below W2.heap.size W2 u ∧ PushR encC 47 u qd (D ++ [y]) q' c' w1) ∧ (j = 3 → ∃ q' c' u v, Below W2.heap.size W2 u ∧ PushR encC 47 u qd (D ++ [y]) q' c' v ∧ w1 = v.setCell ⟨b0, 64, none⟩ (.slice q' (D.length + 1) c'))) 0 undef W2.drew) := Lib.hid ⟨fun _ => (Below.refl _ W2).drew, (fun h => absurd h (by omega)), (fun h => absurd h (by omega)), (fun h => absurd h (by omega))⟩
  clear hW2 hG HG0 hu1 hrb HFU HBU HROW HW HB HNX htabc
  go_wp2_with fail
  have HG0 := HG1'
  clear HG1'
  refine wp_region_chain2 (fun t v => match t with
    | 16 => v = .pointer (some ⟨b0, 0, none⟩)
    | 17 => v = .pointer (some ⟨b0, 0, none⟩)
    | 18 => v = .pointer (some ⟨b0, 0, none⟩)
    | 19 => v = .pointer (some ⟨b0, 64, none⟩)
    | 20 => v = .slice qd D.length cap
    | 21 => v = .agg X
    | 24 => v = .pointer (some ⟨b0, 0, none⟩)
    | 25 => v = .pointer (some ⟨b0, 64, none⟩)
    | _ => True) (fun (j : Nat) (x : Value) (w1 : World) => (j ≤ 1 → Below W2.heap.size W2 w1) ∧ (j = 1 → ∃ g2, x = .slice (some ⟨g2, 0, none⟩) 1 1 ∧ Rd encC w1 (some ⟨g2, 0, none⟩) [y]) ∧ (j = 2 → ∃ q' c' u, x = .slice q' (D.length + 1) c' ∧ Below W2.heap.size W2 u ∧ PushR encC 47 u qd (D ++ [y]) q' c' w1) ∧ (j = 3 → ∃ q' c' u v, Below W2.heap.size W2 u ∧ PushR encC 47 u qd (D ++ [y]) q' c' v ∧ w1 = v.setCell ⟨b0, 64, none⟩ (.slice q' (D.length + 1) c'))) [6, 7, 10] 26 (by kernel_rfl) (by decide +kernel) rfl (by decide +kernel) (by decide) (by decide) HG0.out (by
    refine OweAllC.cons (owesC_val 2 (by decide +kernel) (by decide) rfl rfl fun k' a w1 x hk ha hG hV => ?_) ?_
    · skip
      have h0 := ha.outer 0 (by decide +kernel)
      simp only [Act.eval] at h0
      exact ⟨.pointer (some ⟨b0, 0, none⟩), wanted_free rfl, by simp [execOp, go_sem, h0], rfl⟩
    refine OweAllC.cons (owesC_val 1 (by decide +kernel) (by decide) rfl rfl fun k' a w1 x hk ha hG hV => ?_) ?_
    · skip
      have h0 := ha.outer 0 (by decide +kernel)
      simp only [Act.eval] at h0
      exact ⟨.pointer (some ⟨b0, 0, none⟩), wanted_free rfl, by simp [execOp, go_sem, h0], rfl⟩
    refine OweAllC.cons (owesC_val 1 (by decide +kernel) (by decide) rfl rfl fun k' a w1 x hk ha hG hV => ?_) ?_
    · skip
      have h17 : a.tmps.getD 17 undef = .pointer (some ⟨b0, 0, none⟩) := hV.get 17 (by decide +kernel)
      exact ⟨.pointer (some ⟨b0, 0, none⟩), wanted_free rfl, by simp [execOp, go_sem, h17], rfl⟩
    refine OweAllC.cons (owesC_val 1 (by decide +kernel) (by decide) rfl rfl fun k' a w1 x hk ha hG hV => ?_) ?_
    · skip
      have h18 : a.tmps.getD 18 undef = .pointer (some ⟨b0, 0, none⟩) := hV.get 18 (by decide +kernel)
      exact ⟨.pointer (some ⟨b0, 64, none⟩), wanted_free rfl, by simp [execOp, go_sem, h18], rfl⟩
    refine OweAllC.cons (owesC_val 1 (by decide +kernel) (by decide) rfl rfl fun k' a w1 x hk ha hG hV => ?_) ?_
    · skip
      have h19 : a.tmps.getD 19 undef = .pointer (some ⟨b0, 64, none⟩) := hV.get 19 (by decide +kernel)
      have hbw := hG.1 (by omega)
      have cc := (HF2.out.old hbw).c64
      exact ⟨.slice qd D.length cap, wanted_free rfl, by simp [execOp, go_sem, h19, cc], rfl⟩
    refine OweAllC.cons (owesC_val 0 (by decide +kernel) (by decide) rfl rfl fun k' a w1 x hk ha hG hV => ?_) ?_
    · skip
      have h3 := ha.outer 3 (by decide +kernel)
      simp only [Act.eval] at h3
      have hbw := hG.1 (by omega)
      have cc := (hbw.block g (Array.getElem?_eq_some_iff.1 HR2.out).1).trans HR2.out
      exact ⟨.agg X, wanted_free rfl, exec_load_row 47 (.tmp 3) rfl g h3 47 X (0, 0) _ cc Tryz.underlying47 rfl HXI.out, rfl⟩
    refine OweAllC.cons (owesC_mem 0 rfl rfl rfl fun a w1 x ha hG hx hV => ?_) ?_
    · skip
      have h21 : a.tmps.getD 21 undef = .agg X := hV.get 21 (by decide +kernel)
      have g21 : a.tmps[21]?.getD undef = .agg X := by simpa using h21
      have hbw := hG.1 (by omega)
      have hb : Below w1.heap.size w1 (w1.alloc (.cells (encC.f y).toArray 47)) := (Below.refl _ _).alloc (Nat.le_refl _) _
      have hr : Rd encC (w1.alloc (.cells (encC.f y).toArray 47)) (some ⟨w1.heap.size, 0, none⟩) [y] := by have := (Rw.made (E := encC) 47 w1 [y] (by simp [maxLen])).rd; rw [show encC.all [y] = encC.f y by simp [Enc.all]] at this; exact this
      exact ⟨_, _, wanted_free rfl, build_one encC 59 47 zCt byCt Tryz.underlying59 info_ct5 (by decide) (.tmp 21) rfl y (.agg X) (by rw [HXE.out]; simp [Value.cells]) h21, trivial, (fun _ => hbw.trans (hb.mono hbw.size)), (fun _ => ⟨w1.heap.size, rfl, hr⟩), (fun h => absurd h (by omega)), (fun h => absurd h (by omega))⟩
    refine OweAllC.cons (owesC_law 1 rfl rfl fun a w1 x ha hG hx hV => ?_) ?_
    · skip
      have h20 : a.tmps.getD 20 undef = .slice qd D.length cap := hV.get 20 (by decide +kernel)
      have h22 := hx 0 6 _ 22 rfl rfl rfl rfl
      have hbw := hG.1 (by omega)
      obtain ⟨g2, rfl, hr⟩ := hG.2.1 rfl
      refine ⟨wanted_free rfl, fun K hK => ?_⟩
      refine wp_pushR1 encC (.tmp 20) (.tmp 22) 59 47 zCt byCt rfl Tryz.underlying59 info_ct5 rfl byCt_le qd cap D.length D rfl h20 (HF2.out.old hbw).rw (some ⟨g2, 0, none⟩) 1 y h22 hr (by have := HD.out; omega) ?_
      intro q2 c2 w' hP
      exact hK _ _ (fun t ht => by cases ht; trivial) ⟨(fun h => absurd h (by omega)), (fun h => absurd h (by omega)), (fun _ => ⟨q2, c2, w1, rfl, hbw, hP⟩), (fun h => absurd h (by omega))⟩
    refine OweAllC.cons (owesC_val 2 (by decide +kernel) (by decide) rfl rfl fun k' a w1 x hk ha hG hV => ?_) ?_
    · skip
      have h16 : a.tmps.getD 16 undef = .pointer (some ⟨b0, 0, none⟩) := hV.get 16 (by decide +kernel)
      exact ⟨.pointer (some ⟨b0, 0, none⟩), wanted_free rfl, by simp [execOp, go_sem, h16], rfl⟩
    refine OweAllC.cons (owesC_val 2 (by decide +kernel) (by decide) rfl rfl fun k' a w1 x hk ha hG hV => ?_) ?_
    · skip
      have h24 : a.tmps.getD 24 undef = .pointer (some ⟨b0, 0, none⟩) := hV.get 24 (by decide +kernel)
      exact ⟨.pointer (some ⟨b0, 64, none⟩), wanted_free rfl, by simp [execOp, go_sem, h24], rfl⟩
    refine OweAllC.cons (owesC_store 2 rfl rfl rfl fun a w1 x ha hG hx hV => ?_) ?_
    · skip
      have h25 : a.tmps.getD 25 undef = .pointer (some ⟨b0, 64, none⟩) := hV.get 25 (by decide +kernel)
      have h23 := hx 1 7 _ 23 rfl rfl rfl rfl
      obtain ⟨q2, c2, u, hxx, hbu, hP⟩ := hG.2.2.1 rfl
      rw [hxx] at h23
      simp only [Act.eval] at h23
      have hbv := FC.pushed (HF2.out.old hbu) hP
      have cc := cell_of_row w1 b0 64 _ _ _ hbv
      have cf := frozen_of_row w1 b0 64 _ _ hbv
      obtain ⟨v64, cc⟩ : ∃ v64, w1.cell? ⟨b0, 64, none⟩ = some v64 := ⟨_, cc.trans (Array.getElem?_eq_getElem (by rw [List.size_toArray, chL_len HTT.out]; decide))⟩
      exact ⟨w1.setCell ⟨b0, 64, none⟩ (.slice q2 (D.length + 1) c2), wanted_free rfl, by simp [execOp, go_sem, h25, h23, cc, cf], (fun h => absurd h (by omega)), (fun h => absurd h (by omega)), (fun h => absurd h (by omega)), (fun _ => ⟨q2, c2, u, w1, hbu, hP, rfl⟩)⟩
    exact OweAllC.nil
    ) ?_
  intro f wz xz hG hx hv
  clear hv hx
  simp only [dsts, puts, List.filterMap_cons, List.filterMap_nil, List.foldl_cons, List.foldl_nil, Act.put, List.setIfInBounds_toArray, List.set_cons_succ, List.set_cons_zero]
  obtain ⟨q2, c2, u, v, hbu, hP, rfl⟩ := hG.2.2.2 rfl
  have hpush := FC.push (HF2.out.old hbu) hP (by rw [HY.out]; exact HFL.out)
  have hm1 : Mod (fun i => i = b0 ∨ ∃ a, qd = some a ∧ i = a.block) w u := (HM2.out.mono (fun i _ h => .inl h)).trans ((Mod.of_below hbu).mono (T := fun i => i = b0 ∨ ∃ a, qd = some a ∧ i = a.block) (fun i hi h => by omega)) (fun _ _ h => h)
  have hsz : w.heap.size ≤ u.heap.size := Nat.le_trans HM2.out.size hbu.size
  have HPU := Lib.hid hpush
  have HOO := Lib.hid hP.2.2
  have HM1 := Lib.hid hm1
  have HSZ := Lib.hid hsz
  clear hpush hP hm1 hsz hG HG0 hbu
  rw [HF.out]
  refine ⟨rfl, _, by simp [results, Tryz.results29], rfl, q2, c2, ?_, HM1.out.trans HPU.out.2 (fun _ _ h => h), fun a e => ?_⟩
  · rw [← HY.out]; exact HPU.out.1
  · rcases HOO.out a e with h | h
    · exact .inl h
    · exact .inr (Nat.le_trans HSZ.out h)
end Go.Proofs.YtjjkobbajbbgdaaGreatDoor

namespace Go.Proofs.YtjjkobbajbbgdaaGreatDoor
open Go.RowKit

set_option maxRecDepth 20000 in
set_option maxHeartbeats 2000000 in
theorem ripe_none {w : World} {b0 : Nat} {P : List Nat} {D : List Cc} {qd : Option Addr} {cap wp mb : Nat} (h : FC w b0 P D qd cap wp mb) (V : Value) :
    Calls Tryz.prog 48 #[.pointer (some ⟨b0, 0, none⟩), V] w fun r w' => r = .returned (.tuple #[.agg #[.int .i64 0, .string ⟨#[]⟩, .string ⟨#[]⟩, .slice none 0 0, .slice none 0 0], .int .i64 0, .bool false]) ∧ Below w.heap.size w w' := by
  have hb : Below w.heap.size w (w.alloc (.cells #[.int .i64 0, .string ⟨#[]⟩, .string ⟨#[]⟩, .slice none 0 0, .slice none 0 0] 47)) := (Below.refl _ w).alloc (Nat.le_refl _) _
  have hk := fkeys_none (h.old hb)
  have c65 := (h.old hb).c65
  have hr := heap_alloc_new w (.cells #[.int .i64 0, .string ⟨#[]⟩, .string ⟨#[]⟩, .slice none 0 0, .slice none 0 0] 47)
  have HR := Lib.hid hr
  have HK := Lib.hid hk
  have HB := Lib.hid hb
  have hlt := h.lt
  clear h hk hb hr
  go_enter Tryz.func48, Tryz.ntmps48
  go_wp2_with fail
  refine HK.out.mono ?_
  rintro e w2 ⟨rfl, hb2⟩
  have HB2 := Lib.hid (HB.out.trans (hb2.mono HB.out.size))
  have hr2 := (hb2.block _ (Array.getElem?_eq_some_iff.1 HR.out).1).trans HR.out
  have HR2 := Lib.hid hr2
  clear hb2 HK HR HB c65 hlt
  obtain ⟨g, hg⟩ : ∃ g, g = w.heap.size := ⟨_, rfl⟩
  rw [← hg] at hr2 HR2
  have HG := Lib.hid hg
  have hgw : w.heap.size ≤ g := by omega
  clear hg
  go_wp2_with fail
  rw [← HG.out]
  go_loopw [18] (fun s18 wr => s18 = .int .i64 0 ∧ wr = w2) (fun _ _ => 0)
  case atStart => exact ⟨rfl, rfl⟩
  case round =>
    obtain ⟨rfl, rfl⟩ := hrel
    have HW : Hid (Below w.heap.size w (wr.setRow g #[.int .i64 0, .string ⟨#[]⟩, .string ⟨#[]⟩, .slice none 0 0, .slice none 0 0])) := Lib.hid (HB2.out.trans (((Mod.refl (fun _ => False) wr).setRow (g := g) #[.int .i64 0, .string ⟨#[]⟩, .string ⟨#[]⟩, .slice none 0 0, .slice none 0 0]).to_below HB2.out.size (by rintro i hi (h | h); exact h; omega)))
    have L1 : Hid ((Go.loadVar 47 ⟨g, 0, none⟩).run Tryz.prog (wr.setRow g #[.int .i64 0, .string ⟨#[]⟩, .string ⟨#[]⟩, .slice none 0 0, .slice none 0 0]) = .ok (.agg #[.int .i64 0, .string ⟨#[]⟩, .string ⟨#[]⟩, .slice none 0 0, .slice none 0 0]) (wr.setRow g #[.int .i64 0, .string ⟨#[]⟩, .string ⟨#[]⟩, .slice none 0 0, .slice none 0 0])) := Lib.hid (run_loadVar_row _ g 47 47 _ (0, 0) _ (setRow_heap wr g _ #[.int .i64 0, .string ⟨#[]⟩, .string ⟨#[]⟩, .slice none 0 0, .slice none 0 0] 47 (0, 0) hr2) Tryz.underlying47 rfl ct_info)
    have hq : ∀ v ∈ (#[.int .i64 0, .string ⟨#[]⟩, .string ⟨#[]⟩, .slice none 0 0, .slice none 0 0] : Array Value).toList, v.oneCell' = true := ctc_one zct none none 0 0
    go_wp2_with (refine wpList_store_row rfl rfl 47 (.tmp 4) (.tmp 40) rfl g rfl 47 _ #[.int .i64 0, .string ⟨#[]⟩, .string ⟨#[]⟩, .slice none 0 0, .slice none 0 0] rfl hr2 rfl ct_info hq ?_)
    exact bodyPost_ret (v := .tuple #[.agg #[.int .i64 0, .string ⟨#[]⟩, .string ⟨#[]⟩, .slice none 0 0, .slice none 0 0], .int .i64 0, .bool false]) (by simp [results, Tryz.results48, asAddr, L1.out]) rfl ⟨rfl, HW.out⟩
set_option maxRecDepth 20000 in
set_option maxHeartbeats 2000000 in
theorem retry_none {w : World} {b0 : Nat} {P : List Nat} {D : List Cc} {qd : Option Addr} {cap wp mb : Nat} (h : FC w b0 P D qd cap wp mb) (V : Value) :
    Calls Tryz.prog 30 #[.pointer (some ⟨b0, 0, none⟩), V] w fun r w' => r = .returned (.int .i64 0) ∧ Below w.heap.size w w' := by
  have HK := Lib.hid (ripe_none h V)
  clear h
  go_enter Tryz.func30, Tryz.ntmps30
  go_wp2_with fail
  go_loopw [5] (fun s5 wr => s5 = .int .i64 0 ∧ wr = w) (fun _ _ => 0)
  case atStart => exact ⟨rfl, rfl⟩
  case round =>
    obtain ⟨rfl, rfl⟩ := hrel
    go_wp2_with fail
    refine HK.out.mono ?_
    rintro e w2 ⟨rfl, hb2⟩
    have HB2 := Lib.hid (hb2.trans ((Below.refl w2.heap.size w2 |>.alloc (Nat.le_refl _) (.cells #[.int .i64 0, .string ⟨#[]⟩, .string ⟨#[]⟩, .slice none 0 0, .slice none 0 0] 47)).mono hb2.size))
    clear hb2 HK
    go_wp2_with fail
    go_ret
    exact ⟨rfl, HB2.out⟩
end Go.Proofs.YtjjkobbajbbgdaaGreatDoor

namespace Go.Proofs.YtjjkobbajbbgdaaGreatDoor
open Go.RowKit

theorem row_put {w : World} {g : Nat} {X : Array Value} {T : TypeId} (h : w.heap[g]? = some (.cells X T (0, 0))) (i : Nat) (v : Value) (hv : X[i]? = some v) : (w.setCell ⟨g, i, none⟩ v).heap[g]? = some (.cells X T (0, 0)) := by
  rw [heap_setCell_same w g i _ T _ h]
  congr 2
  apply Array.ext_getElem?
  intro k
  by_cases hk : k = i
  · subst hk
    rw [hv]
    have := (Array.getElem?_eq_some_iff.1 hv).1
    simp [this]
  · simp [Array.getElem?_setIfInBounds, Ne.symm hk]
def VO (N n1 n2 g : Nat) (sg : List Int) (ch : List (Int × Int)) (p q : Option Addr) (cp cq : Nat) : Tmp → Value → World → Prop := fun t v w => match t with
  | 11 => v = .pointer (some ⟨g, 3, none⟩)
  | 12 => v = .slice p n1 cp
  | 13 => ∃ p' c', v = .slice p' n1 c' ∧ Rw encI 3 w p' c' sg ∧ ∀ a, p' = some a → N ≤ a.block
  | 14 => v = .pointer (some ⟨g, 4, none⟩)
  | 15 => v = .slice q n2 cq
  | 16 => ∃ p' c', v = .slice p' n2 c' ∧ Rw encP 31 w p' c' ch ∧ ∀ a, p' = some a → N ≤ a.block
  | 17 => v = .pointer (some ⟨g, 3, none⟩)
  | 18 => v = .pointer (some ⟨g, 4, none⟩)
  | _ => True
theorem VO.kept {N n1 n2 g : Nat} {sg : List Int} {ch : List (Int × Int)} {p q : Option Addr} {cp cq : Nat} {t : Tmp} {v : Value} {w w' : World} (hN : g < N) (hm : Mod (· = g) w w') (h : VO N n1 n2 g sg ch p q cp cq t v w) : VO N n1 n2 g sg ch p q cp cq t v w' := by
  by_cases h1 : t = 13
  · subst h1
    obtain ⟨p', c', e, hR, hf⟩ := h
    exact ⟨p', c', e, hR.kept hm (fun a e h => by have := hf a e; omega), hf⟩
  by_cases h2 : t = 16
  · subst h2
    obtain ⟨p', c', e, hR, hf⟩ := h
    exact ⟨p', c', e, hR.kept hm (fun a e h => by have := hf a e; omega), hf⟩
  have e : VO N n1 n2 g sg ch p q cp cq t v w = VO N n1 n2 g sg ch p q cp cq t v w' := by
    unfold VO
    split <;> first | rfl | exact absurd rfl h1 | exact absurd rfl h2
  rw [← e]; exact h
theorem Rd.far0 {α : Type} {E : Enc α} {W w' : World} {ao : Option Addr} {L : List α} {g : Nat} (h : Rd E W ao L) (hm : Mod (· = g) W w') (hb : ∀ a, ao = some a → 0 < L.length → a.block < g) : Rd E w' ao L := by
  intro j hj
  obtain ⟨bs, off, e, hlt, hc⟩ := h j hj
  have h1 := hb _ e (by omega)
  simp only at h1
  exact ⟨bs, off, e, Nat.lt_of_lt_of_le hlt hm.size, fun i u hu => (World.cell?_of_block (hm.block bs hlt (by omega))).trans (hc i u hu)⟩
set_option maxRecDepth 20000 in
set_option maxHeartbeats 4000000 in
theorem owned_any (c : Ct) (p q : Option Addr) (cp cq : Nat) (w : World) (hS : CtAt w c p q) (hp : p = none ∨ ∃ b off, p = some ⟨b, off, none⟩) (hq : q = none ∨ ∃ b off, q = some ⟨b, off, none⟩) (l1 : c.sg.length ≤ 1000000) (l2 : c.ch.length ≤ 1000000) (l3 : c.base.length ≤ 1000000) (l4 : c.fin.length ≤ 1000000) :
    Calls Tryz.prog 27 #[.agg (ctc c p q cp cq)] w fun r w' => ∃ p' q' cp' cq', r = .returned (.agg (ctc c p' q' cp' cq')) ∧ Rw encI 3 w' p' cp' c.sg ∧ Rw encP 31 w' q' cq' c.ch ∧ Below w.heap.size w w' := by
  obtain ⟨inst, base, fin, sg, ch⟩ := c
  obtain ⟨hS1, hS2⟩ := hS
  simp only at *
  obtain ⟨PP, hPP⟩ : ∃ F : Ending → World → Prop, F = fun r w' => ∃ p' q' cp' cq', r = .returned (.agg (ctc ⟨inst, base, fin, sg, ch⟩ p' q' cp' cq')) ∧ Rw encI 3 w' p' cp' sg ∧ Rw encP 31 w' q' cq' ch ∧ Below w.heap.size w w' := ⟨_, rfl⟩
  rw [← hPP]
  have HPP := Lib.hid hPP
  obtain ⟨n1, hn1⟩ : ∃ n, n = sg.length := ⟨_, rfl⟩
  obtain ⟨n2, hn2⟩ : ∃ n, n = ch.length := ⟨_, rfl⟩
  have HN1 := Lib.hid hn1
  have HN2 := Lib.hid hn2
  have hc1 : Hid (∀ u, Calls Tryz.prog 33 #[.string ⟨base.toArray⟩] u fun r w' => r = .returned (.string ⟨base.toArray⟩) ∧ Below u.heap.size u w') := Lib.hid (fun u => sclone_any _ u (by omega))
  have hc2 : Hid (∀ u, Calls Tryz.prog 33 #[.string ⟨fin.toArray⟩] u fun r w' => r = .returned (.string ⟨fin.toArray⟩) ∧ Below u.heap.size u w') := Lib.hid (fun u => sclone_any _ u (by omega))
  have hc3 : Hid (∀ u, Rd encI u p sg → Calls Tryz.prog 44 #[.slice p n1 cp] u fun r w' => ∃ p' c', r = .returned (.slice p' n1 c') ∧ Rw encI 3 w' p' c' sg ∧ (∀ a, p' = some a → u.heap.size ≤ a.block) ∧ Below u.heap.size u w') := Lib.hid (fun u h => by rw [hn1]; exact iclone_any p cp sg u h hp l1)
  have hc4 : Hid (∀ u, Rd encP u q ch → Calls Tryz.prog 45 #[.slice q n2 cq] u fun r w' => ∃ p' c', r = .returned (.slice p' n2 c') ∧ Rw encP 31 w' p' c' ch ∧ (∀ a, p' = some a → u.heap.size ≤ a.block) ∧ Below u.heap.size u w') := Lib.hid (fun u h => by rw [hn2]; exact eclone_any q cq ch u h hq l2)
  rw [show ctc ⟨inst, base, fin, sg, ch⟩ p q cp cq = #[.int .i64 inst, .string ⟨base.toArray⟩, .string ⟨fin.toArray⟩, .slice p n1 cp, .slice q n2 cq] by unfold ctc; simp only [hn1, hn2]]
  obtain ⟨X, hX⟩ : ∃ X : Array Value, X = #[.int .i64 inst, .string ⟨base.toArray⟩, .string ⟨fin.toArray⟩, .slice p n1 cp, .slice q n2 cq] := ⟨_, rfl⟩
  rw [← hX]
  have hX1 : Hid (X[1]? = some (.string ⟨base.toArray⟩) ∧ X[2]? = some (.string ⟨fin.toArray⟩) ∧ X[3]? = some (.slice p n1 cp) ∧ X[4]? = some (.slice q n2 cq)) := Lib.hid (by rw [hX]; exact ⟨rfl, rfl, rfl, rfl⟩)
  have HX := Lib.hid hX
  obtain ⟨ZZ, hZZ⟩ : ∃ Z : Array Value, Z = #[.int .i64 0, .string ⟨#[]⟩, .string ⟨#[]⟩, .slice none 0 0, .slice none 0 0] := ⟨_, rfl⟩
  have h2 := two_allocs w X ZZ 47 47
  obtain ⟨g, hg⟩ : ∃ g, g = w.heap.size := ⟨_, rfl⟩
  have hr1 : ((w.alloc (.cells X 47)).alloc (.cells ZZ 47)).heap[g + 1]? = some (.cells ZZ 47 (0, 0)) := by
    have := heap_alloc_new (w.alloc (.cells X 47)) (.cells ZZ 47); rw [hg]; simpa using this
  obtain ⟨W1, hW1⟩ : ∃ W1, W1 = (w.alloc (.cells X 47)).alloc (.cells ZZ 47) := ⟨_, rfl⟩
  rw [← hW1] at h2 hr1
  rw [← hg] at h2
  have hsz : W1.heap.size = g + 2 := by rw [hW1, hg]; simp
  have HSZ : Hid (g + 2 ≤ W1.heap.size) := Lib.hid (by omega)
  have HB1 : Hid (Below w.heap.size w W1) := Lib.hid (by rw [← hg]; exact h2.2)
  have HR1 := Lib.hid hr1
  have HZ := Lib.hid hZZ
  have HW := Lib.hid hW1
  have HG := Lib.hid hg
  have HS1 : Hid (Rd encI W1 p sg) := Lib.hid (hS1.old HB1.out)
  have HS2 : Hid (Rd encP W1 q ch) := Lib.hid (hS2.old HB1.out)
  have HPB : Hid ((∀ a, p = some a → 0 < sg.length → a.block < g) ∧ (∀ a, q = some a → 0 < ch.length → a.block < g)) := Lib.hid ⟨fun a e h => by obtain ⟨b, o, e2, hb, _⟩ := hS1 0 h; rw [e] at e2; cases e2; rw [hg]; exact hb, fun a e h => by obtain ⟨b, o, e2, hb, _⟩ := hS2 0 h; rw [e] at e2; cases e2; rw [hg]; exact hb⟩
  have HG0 : Hid ((fun (_ : Nat) (_ : Value) (w1 : World) => Mod (· = g) W1 w1 ∧ w1.heap[g]? = some (.cells X 47 (0, 0))) 0 undef W1.drew) := Lib.hid ⟨(Mod.refl _ W1).drew, h2.1⟩
  clear hS1 hS2 hp hq hPP hn1 hn2 hX hZZ h2 hg hr1 hW1 hsz l1 l2 l3 l4
  go_enter Tryz.func27, Tryz.ntmps27
  go_wp2_with fail
  rw [← HZ.out, ← HW.out, ← HG.out]
  refine wp_region_chain2 (fun t v => match t with
    | 3 => v = .pointer (some ⟨g, 1, none⟩)
    | 4 => v = .string ⟨base.toArray⟩
    | 5 => v = .string ⟨base.toArray⟩
    | 6 => v = .pointer (some ⟨g, 2, none⟩)
    | 7 => v = .string ⟨fin.toArray⟩
    | 8 => v = .string ⟨fin.toArray⟩
    | 9 => v = .pointer (some ⟨g, 1, none⟩)
    | 10 => v = .pointer (some ⟨g, 2, none⟩)
    | _ => True) (fun (_ : Nat) (_ : Value) (w1 : World) => Mod (· = g) W1 w1 ∧ w1.heap[g]? = some (.cells X 47 (0, 0))) [2, 5, 7, 9] 20 (by kernel_rfl) (by decide +kernel) rfl (by decide +kernel) (by decide) (by decide) HG0.out (by
    refine OweAllC.cons (owesC_val 0 (by decide +kernel) (by decide) rfl rfl fun k' a w1 x hk ha hG hV => ?_) ?_
    · skip
      have h1 := ha.outer 1 (by decide +kernel)
      simp only [Act.eval] at h1
      exact ⟨.pointer (some ⟨g, 1, none⟩), wanted_free rfl, by simp [execOp, go_sem, h1], rfl⟩
    refine OweAllC.cons (owesC_val 0 (by decide +kernel) (by decide) rfl rfl fun k' a w1 x hk ha hG hV => ?_) ?_
    · skip
      have h3 : a.tmps.getD 3 undef = .pointer (some ⟨g, 1, none⟩) := hV.get 3 (by decide +kernel)
      have cc := cell_of_row w1 g 1 _ _ _ hG.2
      rw [hX1.out.1] at cc
      exact ⟨.string ⟨base.toArray⟩, wanted_free rfl, by simp [execOp, go_sem, h3, cc], rfl⟩
    refine OweAllC.cons (owesC_call 0 rfl rfl rfl 33 fun a w1 x ha hG hx hV => ?_) ?_
    · skip
      have h4 : a.tmps.getD 4 undef = .string ⟨base.toArray⟩ := hV.get 4 (by decide +kernel)
      refine ⟨#[.string ⟨base.toArray⟩], wanted_free rfl, by simp [execOp, resolve, invoke, go_sem, h4], ?_⟩
      refine (hc1.out w1).mono ?_
      rintro r u2 ⟨rfl, hb⟩
      exact ⟨_, rfl, rfl, ⟨hG.1.trans ((Mod.of_below hb).mono (T := fun i => i = g) (fun i hi h => by have := hG.1.size; have := HSZ.out; omega)) (fun _ _ h => h), (hb.block g (Array.getElem?_eq_some_iff.1 hG.2).1).trans hG.2⟩⟩
    refine OweAllC.cons (owesC_val 1 (by decide +kernel) (by decide) rfl rfl fun k' a w1 x hk ha hG hV => ?_) ?_
    · skip
      have h1 := ha.outer 1 (by decide +kernel)
      simp only [Act.eval] at h1
      exact ⟨.pointer (some ⟨g, 2, none⟩), wanted_free rfl, by simp [execOp, go_sem, h1], rfl⟩
    refine OweAllC.cons (owesC_val 1 (by decide +kernel) (by decide) rfl rfl fun k' a w1 x hk ha hG hV => ?_) ?_
    · skip
      have h6 : a.tmps.getD 6 undef = .pointer (some ⟨g, 2, none⟩) := hV.get 6 (by decide +kernel)
      have cc := cell_of_row w1 g 2 _ _ _ hG.2
      rw [hX1.out.2.1] at cc
      exact ⟨.string ⟨fin.toArray⟩, wanted_free rfl, by simp [execOp, go_sem, h6, cc], rfl⟩
    refine OweAllC.cons (owesC_call 1 rfl rfl rfl 33 fun a w1 x ha hG hx hV => ?_) ?_
    · skip
      have h7 : a.tmps.getD 7 undef = .string ⟨fin.toArray⟩ := hV.get 7 (by decide +kernel)
      refine ⟨#[.string ⟨fin.toArray⟩], wanted_free rfl, by simp [execOp, resolve, invoke, go_sem, h7], ?_⟩
      refine (hc2.out w1).mono ?_
      rintro r u2 ⟨rfl, hb⟩
      exact ⟨_, rfl, rfl, ⟨hG.1.trans ((Mod.of_below hb).mono (T := fun i => i = g) (fun i hi h => by have := hG.1.size; have := HSZ.out; omega)) (fun _ _ h => h), (hb.block g (Array.getElem?_eq_some_iff.1 hG.2).1).trans hG.2⟩⟩
    refine OweAllC.cons (owesC_val 2 (by decide +kernel) (by decide) rfl rfl fun k' a w1 x hk ha hG hV => ?_) ?_
    · skip
      have h1 := ha.outer 1 (by decide +kernel)
      simp only [Act.eval] at h1
      exact ⟨.pointer (some ⟨g, 1, none⟩), wanted_free rfl, by simp [execOp, go_sem, h1], rfl⟩
    refine OweAllC.cons (owesC_store 2 rfl rfl rfl fun a w1 x ha hG hx hV => ?_) ?_
    · skip
      have h9 : a.tmps.getD 9 undef = .pointer (some ⟨g, 1, none⟩) := hV.get 9 (by decide +kernel)
      have h5 : a.tmps.getD 5 undef = .string ⟨base.toArray⟩ := hV.get 5 (by decide +kernel)
      have cf := frozen_of_row w1 g 1 _ _ hG.2
      have cc := cell_of_row w1 g 1 _ _ _ hG.2
      rw [hX1.out.1] at cc
      exact ⟨w1.setCell ⟨g, 1, none⟩ (.string ⟨base.toArray⟩), wanted_free rfl, by simp [execOp, go_sem, h9, h5, cc, cf], ⟨hG.1.setCell (fun _ => rfl) _, row_put hG.2 1 _ hX1.out.1⟩⟩
    refine OweAllC.cons (owesC_val 3 (by decide +kernel) (by decide) rfl rfl fun k' a w1 x hk ha hG hV => ?_) ?_
    · skip
      have h1 := ha.outer 1 (by decide +kernel)
      simp only [Act.eval] at h1
      exact ⟨.pointer (some ⟨g, 2, none⟩), wanted_free rfl, by simp [execOp, go_sem, h1], rfl⟩
    refine OweAllC.cons (owesC_store 3 rfl rfl rfl fun a w1 x ha hG hx hV => ?_) ?_
    · skip
      have h10 : a.tmps.getD 10 undef = .pointer (some ⟨g, 2, none⟩) := hV.get 10 (by decide +kernel)
      have h8 : a.tmps.getD 8 undef = .string ⟨fin.toArray⟩ := hV.get 8 (by decide +kernel)
      have cf := frozen_of_row w1 g 2 _ _ hG.2
      have cc := cell_of_row w1 g 2 _ _ _ hG.2
      rw [hX1.out.2.1] at cc
      exact ⟨w1.setCell ⟨g, 2, none⟩ (.string ⟨fin.toArray⟩), wanted_free rfl, by simp [execOp, go_sem, h10, h8, cc, cf], ⟨hG.1.setCell (fun _ => rfl) _, row_put hG.2 2 _ hX1.out.2.1⟩⟩
    exact OweAllC.nil
    ) ?_
  intro f wz xz hG hx hv
  first | (rename_i hK; refine hK _ _ ?_; clear hK) | (rename_i hK _; refine hK _ _ ?_; clear hK) | (rename_i hK _ _; refine hK _ _ ?_; clear hK) | (rename_i hK _ _ _; refine hK _ _ ?_; clear hK)
  clear hv hx
  simp only [dsts, puts, List.filterMap_cons, List.filterMap_nil, List.foldl_cons, List.foldl_nil, Act.put, List.setIfInBounds_toArray, List.set_cons_succ, List.set_cons_zero]
  have HM1 := Lib.hid hG.1
  have HRG := Lib.hid hG.2
  clear hG HG0
  go_wp2_with fail
  have HG0 : Hid ((fun (j : Nat) (_ : Value) (w1 : World) => Mod (· = g) W1 w1 ∧ (j ≤ 2 → w1.heap[g]? = some (.cells X 47 (0, 0))) ∧ (j = 3 → ∃ p' c', w1.heap[g]? = some (.cells #[.int .i64 inst, .string ⟨base.toArray⟩, .string ⟨fin.toArray⟩, .slice p' n1 c', .slice q n2 cq] 47 (0, 0)) ∧ Rw encI 3 w1 p' c' sg ∧ ∀ a, p' = some a → W1.heap.size ≤ a.block) ∧ (j = 4 → ∃ p' c' q' d', w1.heap[g]? = some (.cells #[.int .i64 inst, .string ⟨base.toArray⟩, .string ⟨fin.toArray⟩, .slice p' n1 c', .slice q' n2 d'] 47 (0, 0)) ∧ Rw encI 3 w1 p' c' sg ∧ Rw encP 31 w1 q' d' ch)) 0 undef wz.drew) := Lib.hid ⟨HM1.out.drew, (fun _ => HRG.out), (fun h => absurd h (by omega)), (fun h => absurd h (by omega))⟩
  refine CW.wp_region_chain2 (VO W1.heap.size n1 n2 g sg ch p q cp cq) (fun (j : Nat) (_ : Value) (w1 : World) => Mod (· = g) W1 w1 ∧ (j ≤ 2 → w1.heap[g]? = some (.cells X 47 (0, 0))) ∧ (j = 3 → ∃ p' c', w1.heap[g]? = some (.cells #[.int .i64 inst, .string ⟨base.toArray⟩, .string ⟨fin.toArray⟩, .slice p' n1 c', .slice q n2 cq] 47 (0, 0)) ∧ Rw encI 3 w1 p' c' sg ∧ ∀ a, p' = some a → W1.heap.size ≤ a.block) ∧ (j = 4 → ∃ p' c' q' d', w1.heap[g]? = some (.cells #[.int .i64 inst, .string ⟨base.toArray⟩, .string ⟨fin.toArray⟩, .slice p' n1 c', .slice q' n2 d'] 47 (0, 0)) ∧ Rw encI 3 w1 p' c' sg ∧ Rw encP 31 w1 q' d' ch)) [2, 5, 7, 9] 20 (by kernel_rfl) (by decide +kernel) rfl (by decide +kernel) (by decide) (by decide) HG0.out (by
    refine CW.OweAllC.cons (CW.owesC_val 0 (by decide +kernel) (by decide) rfl rfl fun k' a w1 x hk ha hG hV => ?_) ?_
    · skip
      have h1 := ha.outer 1 (by decide +kernel)
      simp only [Act.eval] at h1
      exact ⟨.pointer (some ⟨g, 3, none⟩), wanted_free rfl, by simp [execOp, go_sem, h1], rfl⟩
    refine CW.OweAllC.cons (CW.owesC_val 0 (by decide +kernel) (by decide) rfl rfl fun k' a w1 x hk ha hG hV => ?_) ?_
    · skip
      have h11 : a.tmps.getD 11 undef = .pointer (some ⟨g, 3, none⟩) := hV.get 11 (by decide +kernel)
      have cc := cell_of_row w1 g 3 _ _ _ (hG.2.1 (by omega))
      rw [hX1.out.2.2.1] at cc
      exact ⟨.slice p n1 cp, wanted_free rfl, by simp [execOp, go_sem, h11, cc], rfl⟩
    refine CW.OweAllC.cons (CW.owesC_call 0 rfl rfl rfl 44 fun a w1 x ha hG hx hV => ?_) ?_
    · skip
      have h12 : a.tmps.getD 12 undef = .slice p n1 cp := hV.get 12 (by decide +kernel)
      refine ⟨#[.slice p n1 cp], wanted_free rfl, by simp [execOp, resolve, invoke, go_sem, h12], ?_⟩
      have hL := Rd.far0 HS1.out hG.1 HPB.out.1
      refine (hc3.out w1 hL).mono ?_
      rintro r u2 ⟨p', c', rfl, hR, hf, hb⟩
      exact ⟨_, rfl, ⟨p', c', rfl, hR, fun a e => Nat.le_trans hG.1.size (hf a e)⟩, ⟨hG.1.trans ((Mod.of_below hb).mono (T := fun i => i = g) (fun i hi h => by have := hG.1.size; have := HSZ.out; omega)) (fun _ _ h => h), (fun _ => (hb.block g (Array.getElem?_eq_some_iff.1 (hG.2.1 (by omega))).1).trans (hG.2.1 (by omega))), (fun h => absurd h (by omega)), (fun h => absurd h (by omega))⟩, fun _ _ h => VO.kept (by have := HSZ.out; omega) ((Mod.of_below hb).mono (T := fun i => i = g) (fun i hi h => by have := hG.1.size; have := HSZ.out; omega)) h⟩
    refine CW.OweAllC.cons (CW.owesC_val 1 (by decide +kernel) (by decide) rfl rfl fun k' a w1 x hk ha hG hV => ?_) ?_
    · skip
      have h1 := ha.outer 1 (by decide +kernel)
      simp only [Act.eval] at h1
      exact ⟨.pointer (some ⟨g, 4, none⟩), wanted_free rfl, by simp [execOp, go_sem, h1], rfl⟩
    refine CW.OweAllC.cons (CW.owesC_val 1 (by decide +kernel) (by decide) rfl rfl fun k' a w1 x hk ha hG hV => ?_) ?_
    · skip
      have h14 : a.tmps.getD 14 undef = .pointer (some ⟨g, 4, none⟩) := hV.get 14 (by decide +kernel)
      have cc := cell_of_row w1 g 4 _ _ _ (hG.2.1 (by omega))
      rw [hX1.out.2.2.2] at cc
      exact ⟨.slice q n2 cq, wanted_free rfl, by simp [execOp, go_sem, h14, cc], rfl⟩
    refine CW.OweAllC.cons (CW.owesC_call 1 rfl rfl rfl 45 fun a w1 x ha hG hx hV => ?_) ?_
    · skip
      have h15 : a.tmps.getD 15 undef = .slice q n2 cq := hV.get 15 (by decide +kernel)
      refine ⟨#[.slice q n2 cq], wanted_free rfl, by simp [execOp, resolve, invoke, go_sem, h15], ?_⟩
      have hL := Rd.far0 HS2.out hG.1 HPB.out.2
      refine (hc4.out w1 hL).mono ?_
      rintro r u2 ⟨p', c', rfl, hR, hf, hb⟩
      exact ⟨_, rfl, ⟨p', c', rfl, hR, fun a e => Nat.le_trans hG.1.size (hf a e)⟩, ⟨hG.1.trans ((Mod.of_below hb).mono (T := fun i => i = g) (fun i hi h => by have := hG.1.size; have := HSZ.out; omega)) (fun _ _ h => h), (fun _ => (hb.block g (Array.getElem?_eq_some_iff.1 (hG.2.1 (by omega))).1).trans (hG.2.1 (by omega))), (fun h => absurd h (by omega)), (fun h => absurd h (by omega))⟩, fun _ _ h => VO.kept (by have := HSZ.out; omega) ((Mod.of_below hb).mono (T := fun i => i = g) (fun i hi h => by have := hG.1.size; have := HSZ.out; omega)) h⟩
    refine CW.OweAllC.cons (CW.owesC_val 2 (by decide +kernel) (by decide) rfl rfl fun k' a w1 x hk ha hG hV => ?_) ?_
    · skip
      have h1 := ha.outer 1 (by decide +kernel)
      simp only [Act.eval] at h1
      exact ⟨.pointer (some ⟨g, 3, none⟩), wanted_free rfl, by simp [execOp, go_sem, h1], rfl⟩
    refine CW.OweAllC.cons (CW.owesC_store 2 rfl rfl rfl fun a w1 x ha hG hx hV => ?_) ?_
    · skip
      have h17 : a.tmps.getD 17 undef = .pointer (some ⟨g, 3, none⟩) := hV.get 17 (by decide +kernel)
      obtain ⟨p', c', h13, hR, hf⟩ : ∃ p' c', a.tmps.getD 13 undef = .slice p' n1 c' ∧ Rw encI 3 w1 p' c' sg ∧ ∀ a, p' = some a → W1.heap.size ≤ a.block := hV.get 13 (by decide +kernel)
      have hrow := hG.2.1 (by omega)
      have cf := frozen_of_row w1 g 3 _ _ hrow
      have cc := cell_of_row w1 g 3 _ _ _ (hG.2.1 (by omega))
      rw [hX1.out.2.2.1] at cc
      have hS : Mod (· = g) w1 (w1.setCell ⟨g, 3, none⟩ (.slice p' n1 c')) := (Mod.refl (· = g) w1).setCell (fun _ => rfl) _
      refine ⟨w1.setCell ⟨g, 3, none⟩ (.slice p' n1 c'), wanted_free rfl, by simp [execOp, go_sem, h17, h13, cc, cf], ⟨hG.1.trans hS (fun _ _ h => h), (fun h => absurd h (by omega)), (fun _ => ⟨p', c', ?_, hR.kept hS (fun a e h => by have := hf a e; have := HSZ.out; omega), hf⟩), (fun h => absurd h (by omega))⟩, fun _ _ h => VO.kept (by have := HSZ.out; omega) hS h⟩
      rw [heap_setCell_same w1 g 3 _ 47 _ hrow, HX.out]; rfl
    refine CW.OweAllC.cons (CW.owesC_val 3 (by decide +kernel) (by decide) rfl rfl fun k' a w1 x hk ha hG hV => ?_) ?_
    · skip
      have h1 := ha.outer 1 (by decide +kernel)
      simp only [Act.eval] at h1
      exact ⟨.pointer (some ⟨g, 4, none⟩), wanted_free rfl, by simp [execOp, go_sem, h1], rfl⟩
    refine CW.OweAllC.cons (CW.owesC_store 3 rfl rfl rfl fun a w1 x ha hG hx hV => ?_) ?_
    · skip
      have h18 : a.tmps.getD 18 undef = .pointer (some ⟨g, 4, none⟩) := hV.get 18 (by decide +kernel)
      obtain ⟨q', d', h16, hR2, hf2⟩ : ∃ p' c', a.tmps.getD 16 undef = .slice p' n2 c' ∧ Rw encP 31 w1 p' c' ch ∧ ∀ a, p' = some a → W1.heap.size ≤ a.block := hV.get 16 (by decide +kernel)
      obtain ⟨p', c', hrow, hR, hf⟩ := hG.2.2.1 rfl
      have cf := frozen_of_row w1 g 4 _ _ hrow
      have cc := cell_of_row w1 g 4 _ _ _ hrow
      simp only [List.getElem?_toArray, List.getElem?_cons_succ, List.getElem?_cons_zero] at cc
      have hS : Mod (· = g) w1 (w1.setCell ⟨g, 4, none⟩ (.slice q' n2 d')) := (Mod.refl (· = g) w1).setCell (fun _ => rfl) _
      refine ⟨w1.setCell ⟨g, 4, none⟩ (.slice q' n2 d'), wanted_free rfl, by simp [execOp, go_sem, h18, h16, cc, cf], ⟨hG.1.trans hS (fun _ _ h => h), (fun h => absurd h (by omega)), (fun h => absurd h (by omega)), (fun _ => ⟨p', c', q', d', ?_, hR.kept hS (fun a e h => by have := hf a e; have := HSZ.out; omega), hR2.kept hS (fun a e h => by have := hf2 a e; have := HSZ.out; omega)⟩)⟩, fun _ _ h => VO.kept (by have := HSZ.out; omega) hS h⟩
      rw [heap_setCell_same w1 g 4 _ 47 _ hrow]; rfl
    exact CW.OweAllC.nil
    ) ?_
  intro f wz xz hG hx hv
  first | (rename_i hK; refine hK _ _ ?_; clear hK) | (rename_i hK _; refine hK _ _ ?_; clear hK) | (rename_i hK _ _; refine hK _ _ ?_; clear hK) | (rename_i hK _ _ _; refine hK _ _ ?_; clear hK)
  clear hv hx
  simp only [dsts, puts, List.filterMap_cons, List.filterMap_nil, List.foldl_cons, List.foldl_nil, Act.put, List.setIfInBounds_toArray, List.set_cons_succ, List.set_cons_zero]
  obtain ⟨p', c', q', d', hrow, hR, hR2⟩ := hG.2.2.2 rfl
  have HM := Lib.hid hG.1
  have HRR := Lib.hid (And.intro hR hR2)
  obtain ⟨Y, hY⟩ : ∃ Y : Array Value, Y = #[.int .i64 inst, .string ⟨base.toArray⟩, .string ⟨fin.toArray⟩, .slice p' n1 c', .slice q' n2 d'] := ⟨_, rfl⟩
  rw [← hY] at hrow
  have hYi : (Tryz.prog.info? 47).map (·.size) = some Y.size := by rw [hY]; kernel_rfl
  have hY1 : ∀ v ∈ Y.toList, v.oneCell' = true := by rw [hY]; intro v hv; simp only [List.mem_cons, List.not_mem_nil, or_false] at hv; rcases hv with rfl | rfl | rfl | rfl | rfl <;> rfl
  have hz1 : wz.heap[g + 1]? = some (.cells ZZ 47 (0, 0)) := (HM.out.block (g + 1) (by have := HSZ.out; omega) (by omega)).trans HR1.out
  have hzs : ZZ.size = Y.size := by rw [HZ.out, hY]; rfl
  have HY : Hid (Y = ctc ⟨inst, base, fin, sg, ch⟩ p' q' c' d') := Lib.hid (by rw [hY]; unfold ctc; simp only [HN1.out, HN2.out])
  have hS : Mod (fun i => False ∨ i = g + 1) wz (wz.setRow (g + 1) Y) := (Mod.refl (fun _ => False) wz).setRow (g := g + 1) Y
  have L0 := Lib.hid (setRow_heap wz (g + 1) _ Y 47 (0, 0) hz1)
  have hne : 3 ≠ 47 ∧ 31 ≠ 47 := by decide
  have ne1 : ∀ a, p' = some a → ¬ (False ∨ a.block = g + 1) := by
    rintro a rfl (h | h)
    · exact h
    · rcases hR.shape with ⟨e1, _⟩ | ⟨g1, e1, _, _, _, cur, hh, _⟩
      · cases e1
      · cases e1; simp only at h; rw [h, hz1] at hh; simp only [Option.some.injEq, Obj.cells.injEq] at hh; exact hne.1 hh.2.1.symm
  have ne2 : ∀ a, q' = some a → ¬ (False ∨ a.block = g + 1) := by
    rintro a rfl (h | h)
    · exact h
    · rcases hR2.shape with ⟨e1, _⟩ | ⟨g1, e1, _, _, _, cur, hh, _⟩
      · cases e1
      · cases e1; simp only at h; rw [h, hz1] at hh; simp only [Option.some.injEq, Obj.cells.injEq] at hh; exact hne.2 hh.2.1.symm
  have HRF := Lib.hid (And.intro (hR.kept hS ne1) (hR2.kept hS ne2))
  have HBF : Hid (Below w.heap.size w (wz.setRow (g + 1) Y)) := Lib.hid (by
    have h1 := (HB1.out)
    have h2 : Mod (fun i => i = g ∨ i = g + 1) W1 (wz.setRow (g + 1) Y) := (HM.out.mono (fun i _ h => .inl h)).trans (hS.mono (fun i _ h => .inr (h.elim (fun x => x.elim) id))) (fun _ _ h => h)
    exact h1.trans (h2.to_below h1.size (by rintro i hi (h | h) <;> (have := HG.out; omega))))
  clear hG HG0 hR hR2 hY hS ne1 ne2 HM
  go_wp2_with (first
    | (refine wpList_exec rfl (exec_load_row 47 (.tmp 1) rfl g rfl 47 Y (0, 0) _ hrow Tryz.underlying47 rfl hYi) ?_)
    | (refine wpList_store_row rfl rfl 47 (.tmp 2) (.tmp 19) rfl (g + 1) rfl 47 ZZ Y rfl hz1 hzs hYi hY1 ?_))
  rw [HPP.out]
  exact bodyPost_ret (v := .agg Y) (results_cell_row Tryz.results27 _ _ (g + 1) 47 _ (0, 0) _ rfl L0.out Tryz.underlying47 rfl hYi) rfl ⟨p', q', c', d', by rw [HY.out], HRF.out.1, HRF.out.2, HBF.out⟩
end Go.Proofs.YtjjkobbajbbgdaaGreatDoor

namespace Go.Proofs.YtjjkobbajbbgdaaGreatDoor
open Go.RowKit

set_option maxRecDepth 20000 in
set_option maxHeartbeats 2000000 in
theorem fname_any (c : Ct) (p q : Option Addr) (cp cq : Nat) (w : World) (hL : CtAt w c p q) (ok : CtOk c) (hT : TabAt w) :
    Calls Tryz.prog 32 #[.agg (ctc c p q cp cq)] w fun r w' => r = .returned (.string ⟨(shaB (ctB c)).toArray⟩) ∧ Below w.heap.size w w' := by
  have hk : Hid (∀ u, Below w.heap.size w u → Calls Tryz.prog 43 #[.agg (ctc c p q cp cq)] u fun r w' => r = .returned (.agg (vals (shaB (ctB c))).toArray) ∧ Below u.heap.size u w') := Lib.hid (fun u hb => kid_any c p q cp cq u (hL.old hb) ok (hT.old hb))
  have hz := zid_run
  have hZl := shaB_len (ctB c)
  have q2 := zid_len.trans (id_size hZl).symm
  have q3 := id_info hZl
  have q4 := id_one (shaB (ctB c))
  obtain ⟨S, hS⟩ : ∃ S, S = shaB (ctB c) := ⟨_, rfl⟩
  rw [← hS] at hk hZl q2 q3 q4 ⊢
  generalize (vals zid).toArray = ZA at hz q2
  obtain ⟨Y, hY⟩ : ∃ Y, Y = (vals S).toArray := ⟨_, rfl⟩
  rw [← hY] at q2 q3 q4 hk
  have HY := Lib.hid hY
  obtain ⟨X, hX⟩ : ∃ X : Array Value, X = ctc c p q cp cq := ⟨_, rfl⟩
  have HXI : Hid ((Tryz.prog.info? 47).map (·.size) = some X.size) := Lib.hid (by rw [hX]; unfold ctc; kernel_rfl)
  rw [← hX] at hk ⊢
  have hb1 : Hid (Below w.heap.size w (w.alloc (.cells X 47))) := Lib.hid ((Below.refl _ w).alloc (Nat.le_refl _) _)
  have hr := heap_alloc_new w (.cells X 47)
  obtain ⟨W1, hW1⟩ : ∃ W1, W1 = w.alloc (.cells X 47) := ⟨_, rfl⟩
  obtain ⟨g, hg⟩ : ∃ g, g = w.heap.size := ⟨_, rfl⟩
  rw [← hW1] at hb1
  rw [← hW1, ← hg] at hr
  have HR := Lib.hid (And.intro hr HXI.out)
  have HW := Lib.hid hW1
  have HG := Lib.hid hg
  have HZl := Lib.hid hZl
  clear hL ok hT hS hY hX hr hW1 hg hZl
  go_enter Tryz.func32, Tryz.ntmps32
  go_wp2_with (rw [← HW.out, ← HG.out]; refine wpList_exec rfl (exec_load_row 47 (.tmp 1) rfl g rfl 47 X (0, 0) _ HR.out.1 Tryz.underlying47 rfl HR.out.2) ?_)
  refine (hk.out W1 hb1.out).mono ?_
  rintro r w2 ⟨rfl, hb2⟩
  have HB2 := Lib.hid (hb1.out.trans (hb2.mono hb1.out.size))
  have hg1 := heap_alloc_new w2 (.cells ZA 36)
  obtain ⟨W3, hW3⟩ : ∃ W3, W3 = (w2.alloc (.cells ZA 36)).setRow w2.heap.size Y := ⟨_, rfl⟩
  have HB3 : Hid (Below w.heap.size w W3) := Lib.hid (by rw [hW3]; exact HB2.out.trans (stored_below.mono HB2.out.size))
  have hid3 : IdAt W3 w2.heap.size S := by rw [hW3, HY.out]; exact IdAt.stored HZl.out
  have htx := hid3.text
  have HW3 := Lib.hid hW3
  have hlt3 := hid3.lt
  clear hb2 hk HB2 hW3 hid3
  go_wp2_with (first | (refine wpList_store_row rfl rfl 36 (.tmp 3) (.tmp 5) rfl w2.heap.size rfl 36 ZA Y rfl hg1 q2 (by rw [HY.out]; exact id_info HZl.out) (by rw [HY.out]; exact id_one S) ?_; rw [← HW3.out]))
  go_ret
  exact ⟨rfl, HB3.out⟩
theorem exec_alloc_cert {o : Oper} {a : Act} {w : World} (ho : o.op = .alloc 47) : (execOp a.eval o).run Tryz.prog w = .ok (.value (.pointer (some ⟨w.heap.size, 0, none⟩))) (w.alloc (.cells #[.int .i64 0, .string ⟨#[]⟩, .string ⟨#[]⟩, .slice none 0 0, .slice none 0 0] 47)) := by
  unfold execOp
  simp [ho, go_sem]
def VH (X : Array Value) (NM : List UInt8) (b0 wp N : Nat) : Tmp → Value → World → Prop := fun t v w => match t with
  | 8 => v = .pointer (some ⟨b0, 0, none⟩)
  | 9 => v = .pointer (some ⟨b0, 0, none⟩)
  | 10 => v = .pointer (some ⟨b0, 65, none⟩)
  | 11 => v = .pointer (some ⟨wp, 0, none⟩)
  | 12 => v = .agg X
  | 13 => v = .string ⟨NM.toArray⟩
  | 14 => v = .tuple #[.agg #[.int .i64 0, .string ⟨#[]⟩, .string ⟨#[]⟩, .slice none 0 0, .slice none 0 0], .bool false]
  | 7 => v = .tuple #[.agg #[.int .i64 0, .string ⟨#[]⟩, .string ⟨#[]⟩, .slice none 0 0, .slice none 0 0], .bool false]
  | 15 => v = .agg #[.int .i64 0, .string ⟨#[]⟩, .string ⟨#[]⟩, .slice none 0 0, .slice none 0 0]
  | 16 => v = .bool false
  | 6 => v = .bool false
  | 5 => ∃ g2 cs, v = .pointer (some ⟨g2, 0, none⟩) ∧ N ≤ g2 ∧ w.heap[g2]? = some (.cells cs 47 (0, 0)) ∧ cs.size = 5
  | _ => True
theorem VH.other {X : Array Value} {NM : List UInt8} {b0 wp N : Nat} {t : Tmp} {v : Value} {w w' : World} (ht : t ≠ 5) (h : VH X NM b0 wp N t v w) : VH X NM b0 wp N t v w' := by
  have : VH X NM b0 wp N t v w = VH X NM b0 wp N t v w' := by
    unfold VH
    split <;> first | rfl | exact absurd rfl ht
  rw [← this]; exact h
theorem VH.kept {X : Array Value} {NM : List UInt8} {b0 wp N : Nat} {t : Tmp} {v : Value} {w w' : World} (hb : Below w.heap.size w w') (h : VH X NM b0 wp N t v w) : VH X NM b0 wp N t v w' := by
  by_cases ht : t = 5
  · subst ht
    obtain ⟨g2, cs, h1, h2, h3, h4⟩ := h
    exact ⟨g2, cs, h1, h2, (hb.block g2 (Array.getElem?_eq_some_iff.1 h3).1).trans h3, h4⟩
  · exact VH.other ht h
theorem VH.set {X : Array Value} {NM : List UInt8} {b0 wp N : Nat} {t : Tmp} {v : Value} {w : World} {g : Nat} {cs C : Array Value} (hg : w.heap[g]? = some (.cells cs 47 (0, 0))) (hC : C.size = 5) (h : VH X NM b0 wp N t v w) : VH X NM b0 wp N t v (w.setRow g C) := by
  by_cases ht : t = 5
  · subst ht
    obtain ⟨g2, cs2, h1, h2, h3, h4⟩ := h
    by_cases e2 : g2 = g
    · subst e2
      exact ⟨g2, C, h1, h2, setRow_heap _ _ _ _ _ _ hg, hC⟩
    · exact ⟨g2, cs2, h1, h2, (((Mod.refl (fun _ => False) w).setRow (g := g) C).block g2 (Array.getElem?_eq_some_iff.1 h3).1 (by rintro (h | h); exact h; exact e2 h)).trans h3, h4⟩
  · exact VH.other ht h
set_option maxRecDepth 20000 in
set_option maxHeartbeats 4000000 in
theorem has_next {w : World} {b0 : Nat} {P : List Nat} {D : List Cc} {qd : Option Addr} {cap wp mb : Nat} (h : FC w b0 P D qd cap wp mb) (hT : TabAt w) (c : Ct) (p q : Option Addr) (cp cq : Nat) (hL : CtAt w c p q) (ok : CtOk c) (hi : c.inst = (D.length : Nat)) :
    Calls Tryz.prog 26 #[.pointer (some ⟨b0, 0, none⟩), .agg (ctc c p q cp cq)] w fun r w' => r = .returned (.bool false) ∧ Below w.heap.size w w' := by
  obtain ⟨X, hX⟩ : ∃ X : Array Value, X = ctc c p q cp cq := ⟨_, rfl⟩
  obtain ⟨NM, hNM⟩ : ∃ NM, NM = shaB (ctB c) := ⟨_, rfl⟩
  have hnm : Hid (∀ u, Below w.heap.size w u → Calls Tryz.prog 32 #[.agg X] u fun r w' => r = .returned (.string ⟨NM.toArray⟩) ∧ Below u.heap.size u w') := Lib.hid (fun u hb => by rw [hX, hNM]; exact fname_any c p q cp cq u (hL.old hb) ok (hT.old hb))
  have hget : Hid (∀ u, Below w.heap.size w u → Calls Tryz.prog 42 #[.pointer (some ⟨wp, 0, none⟩), .string ⟨NM.toArray⟩] u fun r w' => r = .returned (.tuple #[.agg #[.int .i64 0, .string ⟨#[]⟩, .string ⟨#[]⟩, .slice none 0 0, .slice none 0 0], .bool false]) ∧ Below u.heap.size u w') := Lib.hid (fun u hb => fget_none (h.old hb) NM (by rw [hNM, shaB_len]; decide))
  have hn : Hid (∀ u, Below w.heap.size w u → Calls Tryz.prog 14 #[.pointer (some ⟨b0, 0, none⟩)] u fun r w' => r = .returned (.int .i64 (D.length : Nat)) ∧ w' = u) := Lib.hid (fun u hb => fnext_any (h.old hb))
  have h65 : Hid (∀ u, Below w.heap.size w u → u.cell? ⟨b0, 65, none⟩ = some (.pointer (some ⟨wp, 0, none⟩))) := Lib.hid (fun u hb => (h.old hb).c65)
  have HXI : Hid ((Tryz.prog.info? 47).map (·.size) = some X.size) := Lib.hid (by rw [hX]; unfold ctc; kernel_rfl)
  have hX0 : Hid (X[0]? = some (.int .i64 (D.length : Nat))) := Lib.hid (by rw [hX, ← hi]; rfl)
  rw [← hX]
  generalize D.length = n at *
  have hb1 : Below w.heap.size w (w.alloc (.cells X 47)) := (Below.refl _ w).alloc (Nat.le_refl _) _
  have hr := heap_alloc_new w (.cells X 47)
  obtain ⟨W1, hW1⟩ : ∃ W1, W1 = w.alloc (.cells X 47) := ⟨_, rfl⟩
  obtain ⟨g, hg⟩ : ∃ g, g = w.heap.size := ⟨_, rfl⟩
  rw [← hW1] at hb1
  rw [← hW1, ← hg] at hr
  have HB := Lib.hid hb1
  have HROW := Lib.hid hr
  have HW := Lib.hid hW1
  have HG := Lib.hid hg
  have HG0 : Hid ((fun (_ : Nat) (_ : Value) (w1 : World) => Below W1.heap.size W1 w1) 0 undef W1.drew) := Lib.hid ((Below.refl _ W1).drew)
  clear h hT hL ok hi hX hNM hb1 hr hW1 hg
  go_enter Tryz.func26, Tryz.ntmps26
  go_wp2_with fail
  rw [← HW.out, ← HG.out]
  refine CW.wp_region_chain2 (VH X NM b0 wp W1.heap.size) (fun (_ : Nat) (_ : Value) (w1 : World) => Below W1.heap.size W1 w1) [5, 6, 11] 39 (by kernel_rfl) (by decide +kernel) rfl (by decide +kernel) (by decide) (by decide) HG0.out (by
    refine CW.OweAllC.cons (CW.owesC_val 1 (by decide +kernel) (by decide) rfl rfl fun k' a w1 x hk ha hG hV => ?_) ?_
    · skip
      have h0 := ha.outer 0 (by decide +kernel)
      simp only [Act.eval] at h0
      exact ⟨.pointer (some ⟨b0, 0, none⟩), wanted_free rfl, by simp [execOp, go_sem, h0], rfl⟩
    refine CW.OweAllC.cons (CW.owesC_val 1 (by decide +kernel) (by decide) rfl rfl fun k' a w1 x hk ha hG hV => ?_) ?_
    · skip
      have h8 : a.tmps.getD 8 undef = .pointer (some ⟨b0, 0, none⟩) := hV.get 8 (by decide +kernel)
      exact ⟨.pointer (some ⟨b0, 0, none⟩), wanted_free rfl, by simp [execOp, go_sem, h8], rfl⟩
    refine CW.OweAllC.cons (CW.owesC_val 1 (by decide +kernel) (by decide) rfl rfl fun k' a w1 x hk ha hG hV => ?_) ?_
    · skip
      have h9 : a.tmps.getD 9 undef = .pointer (some ⟨b0, 0, none⟩) := hV.get 9 (by decide +kernel)
      exact ⟨.pointer (some ⟨b0, 65, none⟩), wanted_free rfl, by simp [execOp, go_sem, h9], rfl⟩
    refine CW.OweAllC.cons (CW.owesC_val 1 (by decide +kernel) (by decide) rfl rfl fun k' a w1 x hk ha hG hV => ?_) ?_
    · skip
      have h10 : a.tmps.getD 10 undef = .pointer (some ⟨b0, 65, none⟩) := hV.get 10 (by decide +kernel)
      have hB := HB.out.trans (hG.mono HB.out.size)
      have cc := h65.out w1 hB
      exact ⟨.pointer (some ⟨wp, 0, none⟩), wanted_free rfl, by simp [execOp, go_sem, h10, cc], rfl⟩
    refine CW.OweAllC.cons (CW.owesC_val 0 (by decide +kernel) (by decide) rfl rfl fun k' a w1 x hk ha hG hV => ?_) ?_
    · skip
      have h3 := ha.outer 3 (by decide +kernel)
      simp only [Act.eval] at h3
      have cc := (hG.block g (Array.getElem?_eq_some_iff.1 HROW.out).1).trans HROW.out
      exact ⟨.agg X, wanted_free rfl, exec_load_row 47 (.tmp 3) rfl g h3 47 X (0, 0) _ cc Tryz.underlying47 rfl HXI.out, rfl⟩
    refine CW.OweAllC.cons (CW.owesC_call 0 rfl rfl rfl 32 fun a w1 x ha hG hx hV => ?_) ?_
    · skip
      have h12 : a.tmps.getD 12 undef = .agg X := hV.get 12 (by decide +kernel)
      refine ⟨#[.agg X], wanted_free rfl, by simp [execOp, resolve, invoke, go_sem, h12], ?_⟩
      have hB := HB.out.trans (hG.mono HB.out.size)
      refine (hnm.out w1 hB).mono ?_
      rintro r u2 ⟨rfl, hb⟩
      exact ⟨_, rfl, rfl, hG.trans (hb.mono hG.size), fun _ _ h => VH.kept hb h⟩
    refine CW.OweAllC.cons (CW.owesC_call 1 rfl rfl rfl 42 fun a w1 x ha hG hx hV => ?_) ?_
    · skip
      have h11 : a.tmps.getD 11 undef = .pointer (some ⟨wp, 0, none⟩) := hV.get 11 (by decide +kernel)
      have h13 : a.tmps.getD 13 undef = .string ⟨NM.toArray⟩ := hV.get 13 (by decide +kernel)
      refine ⟨#[.pointer (some ⟨wp, 0, none⟩), .string ⟨NM.toArray⟩], wanted_free rfl, by simp [execOp, resolve, invoke, go_sem, h11, h13], ?_⟩
      have hB := HB.out.trans (hG.mono HB.out.size)
      refine (hget.out w1 hB).mono ?_
      rintro r u2 ⟨rfl, hb⟩
      exact ⟨_, rfl, rfl, hG.trans (hb.mono hG.size), fun _ _ h => VH.kept hb h⟩
    refine CW.OweAllC.cons (CW.owesC_val 2 (by decide +kernel) (by decide) rfl rfl fun k' a w1 x hk ha hG hV => ?_) ?_
    · skip
      have h14 : a.tmps.getD 14 undef = .tuple #[.agg #[.int .i64 0, .string ⟨#[]⟩, .string ⟨#[]⟩, .slice none 0 0, .slice none 0 0], .bool false] := hV.get 14 (by decide +kernel)
      exact ⟨.tuple #[.agg #[.int .i64 0, .string ⟨#[]⟩, .string ⟨#[]⟩, .slice none 0 0, .slice none 0 0], .bool false], wanted_free rfl, by simp [execOp, go_sem, h14], rfl⟩
    refine CW.OweAllC.cons (CW.owesC_val 2 (by decide +kernel) (by decide) rfl rfl fun k' a w1 x hk ha hG hV => ?_) ?_
    · skip
      have h7 : a.tmps.getD 7 undef = .tuple #[.agg #[.int .i64 0, .string ⟨#[]⟩, .string ⟨#[]⟩, .slice none 0 0, .slice none 0 0], .bool false] := hV.get 7 (by decide +kernel)
      exact ⟨.agg #[.int .i64 0, .string ⟨#[]⟩, .string ⟨#[]⟩, .slice none 0 0, .slice none 0 0], wanted_free rfl, by simp [execOp, go_sem, h7], rfl⟩
    refine CW.OweAllC.cons (CW.owesC_val 3 (by decide +kernel) (by decide) rfl rfl fun k' a w1 x hk ha hG hV => ?_) ?_
    · skip
      have h7 : a.tmps.getD 7 undef = .tuple #[.agg #[.int .i64 0, .string ⟨#[]⟩, .string ⟨#[]⟩, .slice none 0 0, .slice none 0 0], .bool false] := hV.get 7 (by decide +kernel)
      exact ⟨.bool false, wanted_free rfl, by simp [execOp, go_sem, h7], rfl⟩
    refine CW.OweAllC.cons (CW.owesC_made 2 (by decide +kernel) (by decide) rfl rfl fun k' a w1 x hk ha hG hV => ?_) ?_
    · skip
      have hal : Below w1.heap.size w1 (w1.alloc (.cells #[.int .i64 0, .string ⟨#[]⟩, .string ⟨#[]⟩, .slice none 0 0, .slice none 0 0] 47)) := (Below.refl _ _).alloc (Nat.le_refl _) _
      exact ⟨_, _, wanted_free rfl, exec_alloc_cert rfl, ⟨w1.heap.size, _, rfl, hG.size, heap_alloc_new w1 _, rfl⟩, hG.trans (hal.mono hG.size), fun _ _ h => VH.kept hal h⟩
    refine CW.OweAllC.cons (CW.owesC_store 2 rfl rfl rfl fun a w1 x ha hG hx hV => ?_) ?_
    · skip
      have h15 : a.tmps.getD 15 undef = .agg #[.int .i64 0, .string ⟨#[]⟩, .string ⟨#[]⟩, .slice none 0 0, .slice none 0 0] := hV.get 15 (by decide +kernel)
      obtain ⟨g2, cs, h5, hg2, hh2, hcs⟩ : ∃ g2 cs, a.tmps.getD 5 undef = .pointer (some ⟨g2, 0, none⟩) ∧ W1.heap.size ≤ g2 ∧ w1.heap[g2]? = some (.cells cs 47 (0, 0)) ∧ cs.size = 5 := hV.get 5 (by decide +kernel)
      exact ⟨_, wanted_free rfl, exec_store_row 47 (.tmp 5) (.tmp 15) rfl g2 h5 47 _ _ h15 hh2 (by rw [hcs]; rfl) ct_info (ctc_one zct none none 0 0), (hG.trans (((Mod.refl (fun _ => False) w1).setRow (g := g2) _).to_below hG.size (by rintro i hi (h | h); exact h; omega))), fun _ _ h => VH.set hh2 rfl h⟩
    refine CW.OweAllC.cons (CW.owesC_val 3 (by decide +kernel) (by decide) rfl rfl fun k' a w1 x hk ha hG hV => ?_) ?_
    · skip
      have h16 : a.tmps.getD 16 undef = .bool false := hV.get 16 (by decide +kernel)
      exact ⟨.bool false, wanted_free rfl, by simp [execOp, go_sem, h16], rfl⟩
    exact CW.OweAllC.nil
    ) ?_
  intro f wz xz hG hx hv
  have e6 : f 6 = .bool false := hv 12 _ 6 rfl rfl
  first | (rename_i hK; refine hK _ _ ?_; clear hK) | (rename_i hK _; refine hK _ _ ?_; clear hK) | (rename_i hK _ _; refine hK _ _ ?_; clear hK) | (rename_i hK _ _ _; refine hK _ _ ?_; clear hK)
  clear hv hx
  simp only [dsts, puts, List.filterMap_cons, List.filterMap_nil, List.foldl_cons, List.foldl_nil, Act.put, List.setIfInBounds_toArray, List.set_cons_succ, List.set_cons_zero, e6]
  clear e6
  have HB2 := Lib.hid (HB.out.trans (hG.mono HB.out.size))
  have HR2 := Lib.hid ((hG.block g (Array.getElem?_eq_some_iff.1 HROW.out).1).trans HROW.out)
  obtain ⟨W2, hW2⟩ : ∃ W2, W2 = wz := ⟨_, rfl⟩
  rw [← hW2] at HB2 HR2 ⊢
  clear hG HG0 hW2
  go_wp2_with fail
  refine wp_region_puts (fun t v w => VK (match t with
    | 17 => .eq (Value.bool false)
    | 18 => .eq (Value.bool false)
    | 19 => .eq (.pointer (some ⟨g, 0, none⟩))
    | 20 => .eq (.int .i64 (n : Nat))
    | 21 => .eq (.pointer (some ⟨b0, 0, none⟩))
    | 22 => .eq (.int .i64 (n : Nat))
    | 23 => .eq (Value.bool false)
    | 24 => .eq (Value.bool false)
    | 25 => .eq (undef)
    | 26 => .eq (undef)
    | 27 => .eq (undef)
    | 28 => .eq (undef)
    | 29 => .eq (undef)
    | 30 => .eq (undef)
    | 31 => .eq (undef)
    | 32 => .eq (undef)
    | 33 => .eq (undef)
    | 34 => .eq (undef)
    | 35 => .eq (undef)
    | 36 => .eq (undef)
    | 37 => .eq (Value.bool false)
    | 38 => .eq (Value.bool false)
    | 4 => .eq (.bool false)
    | _ => .any) v w) (fun w' => Below W2.heap.size W2 w') 39 (by kernel_rfl) (by decide +kernel) rfl (Below.refl _ _).drew (by
    refine OweAll.cons (owesK rfl rfl fun a w1 ha hG hV => ?_) ?_
    · skip
      have h6 := ha.outer 6 (by decide +kernel)
      simp only [Act.eval] at h6
      exact ⟨Value.bool false, w1, wanted_free rfl, by simp [execOp, go_sem, h6], Below.refl _ _, rfl⟩
    refine OweAll.cons (owesK rfl rfl fun a w1 ha hG hV => ?_) ?_
    · skip
      have h17 : a.tmps.getD 17 undef = Value.bool false := hV.get 17 (by decide +kernel)
      exact ⟨Value.bool false, w1, wanted_free rfl, by simp [execOp, go_sem, h17], Below.refl _ _, rfl⟩
    refine OweAll.cons (owesK rfl rfl fun a w1 ha hG hV => ?_) ?_
    · skip
      have h3 := ha.outer 3 (by decide +kernel)
      simp only [Act.eval] at h3
      exact ⟨.pointer (some ⟨g, 0, none⟩), w1, (wanted_of (t := 18) rfl rfl (hV.get 18 (by decide +kernel))), by simp [execOp, go_sem, h3], Below.refl _ _, rfl⟩
    refine OweAll.cons (owesK rfl rfl fun a w1 ha hG hV => ?_) ?_
    · skip
      have h19 : a.tmps.getD 19 undef = .pointer (some ⟨g, 0, none⟩) := hV.get 19 (by decide +kernel)
      have cc := cell_of_row w1 g 0 _ _ _ ((hG.block g (Array.getElem?_eq_some_iff.1 HR2.out).1).trans HR2.out)
      rw [hX0.out] at cc
      exact ⟨.int .i64 (n : Nat), w1, (wanted_of (t := 18) rfl rfl (hV.get 18 (by decide +kernel))), by simp [execOp, go_sem, h19, cc], Below.refl _ _, rfl⟩
    refine OweAll.cons (owesK rfl rfl fun a w1 ha hG hV => ?_) ?_
    · skip
      have h0 := ha.outer 0 (by decide +kernel)
      simp only [Act.eval] at h0
      exact ⟨.pointer (some ⟨b0, 0, none⟩), w1, (wanted_of (t := 18) rfl rfl (hV.get 18 (by decide +kernel))), by simp [execOp, go_sem, h0], Below.refl _ _, rfl⟩
    refine OweAll.cons (owesK_call rfl rfl 14 fun a w1 ha hG hV => ?_) ?_
    · skip
      have h21 : a.tmps.getD 21 undef = .pointer (some ⟨b0, 0, none⟩) := hV.get 21 (by decide +kernel)
      refine ⟨#[.pointer (some ⟨b0, 0, none⟩)], (wanted_of (t := 18) rfl rfl (hV.get 18 (by decide +kernel))), by simp [execOp, resolve, invoke, go_sem, h21], ?_⟩
      refine (hn.out w1 (HB2.out.trans (hG.mono HB2.out.size))).mono ?_
      rintro r u2 ⟨rfl, rfl⟩; exact ⟨_, rfl, rfl, Below.refl _ _⟩
    refine OweAll.cons (owesK rfl rfl fun a w1 ha hG hV => ?_) ?_
    · skip
      have h20 : a.tmps.getD 20 undef = .int .i64 (n : Nat) := hV.get 20 (by decide +kernel)
      have h22 : a.tmps.getD 22 undef = .int .i64 (n : Nat) := hV.get 22 (by decide +kernel)
      have nn : ¬ (n : Int) < n := by omega
      exact ⟨Value.bool false, w1, (wanted_of (t := 18) rfl rfl (hV.get 18 (by decide +kernel))), by simp [execOp, go_sem, h20, h22, nn], Below.refl _ _, rfl⟩
    refine OweAll.cons (owesK rfl rfl fun a w1 ha hG hV => ?_) ?_
    · skip
      have h23 : a.tmps.getD 23 undef = Value.bool false := hV.get 23 (by decide +kernel)
      exact ⟨Value.bool false, w1, (wanted_of (t := 18) rfl rfl (hV.get 18 (by decide +kernel))), by simp [execOp, go_sem, h23], Below.refl _ _, rfl⟩
    refine OweAll.cons (owesK_not rfl rfl fun a w1 ha hG hV => ⟨not_wanted (t := 24) rfl rfl (hV.get 24 (by decide +kernel)) (by first | simp; done | (intro h; cases h)), rfl⟩) ?_
    refine OweAll.cons (owesK_not rfl rfl fun a w1 ha hG hV => ⟨not_wanted (t := 24) rfl rfl (hV.get 24 (by decide +kernel)) (by first | simp; done | (intro h; cases h)), rfl⟩) ?_
    refine OweAll.cons (owesK_not rfl rfl fun a w1 ha hG hV => ⟨not_wanted (t := 24) rfl rfl (hV.get 24 (by decide +kernel)) (by first | simp; done | (intro h; cases h)), rfl⟩) ?_
    refine OweAll.cons (owesK_not rfl rfl fun a w1 ha hG hV => ⟨not_wanted (t := 24) rfl rfl (hV.get 24 (by decide +kernel)) (by first | simp; done | (intro h; cases h)), rfl⟩) ?_
    refine OweAll.cons (owesK_not rfl rfl fun a w1 ha hG hV => ⟨not_wanted (t := 24) rfl rfl (hV.get 24 (by decide +kernel)) (by first | simp; done | (intro h; cases h)), rfl⟩) ?_
    refine OweAll.cons (owesK_not rfl rfl fun a w1 ha hG hV => ⟨not_wanted (t := 24) rfl rfl (hV.get 24 (by decide +kernel)) (by first | simp; done | (intro h; cases h)), rfl⟩) ?_
    refine OweAll.cons (owesK_not rfl rfl fun a w1 ha hG hV => ⟨not_wanted (t := 24) rfl rfl (hV.get 24 (by decide +kernel)) (by first | simp; done | (intro h; cases h)), rfl⟩) ?_
    refine OweAll.cons (owesK_not rfl rfl fun a w1 ha hG hV => ⟨not_wanted (t := 24) rfl rfl (hV.get 24 (by decide +kernel)) (by first | simp; done | (intro h; cases h)), rfl⟩) ?_
    refine OweAll.cons (owesK_not rfl rfl fun a w1 ha hG hV => ⟨not_wanted (t := 24) rfl rfl (hV.get 24 (by decide +kernel)) (by first | simp; done | (intro h; cases h)), rfl⟩) ?_
    refine OweAll.cons (owesK_not rfl rfl fun a w1 ha hG hV => ⟨not_wanted (t := 24) rfl rfl (hV.get 24 (by decide +kernel)) (by first | simp; done | (intro h; cases h)), rfl⟩) ?_
    refine OweAll.cons (owesK_not rfl rfl fun a w1 ha hG hV => ⟨not_wanted (t := 24) rfl rfl (hV.get 24 (by decide +kernel)) (by first | simp; done | (intro h; cases h)), rfl⟩) ?_
    refine OweAll.cons (owesK_not rfl rfl fun a w1 ha hG hV => ⟨not_wanted (t := 24) rfl rfl (hV.get 24 (by decide +kernel)) (by first | simp; done | (intro h; cases h)), rfl⟩) ?_
    refine OweAll.cons (owesK rfl rfl fun a w1 ha hG hV => ?_) ?_
    · skip
      have h24 : a.tmps.getD 24 undef = Value.bool false := hV.get 24 (by decide +kernel)
      exact ⟨Value.bool false, w1, (wanted_of (t := 18) rfl rfl (hV.get 18 (by decide +kernel))), by simp [execOp, go_sem, h24], Below.refl _ _, rfl⟩
    refine OweAll.cons (owesK rfl rfl fun a w1 ha hG hV => ?_) ?_
    · skip
      have h18 : a.tmps.getD 18 undef = Value.bool false := hV.get 18 (by decide +kernel)
      have h37 : a.tmps.getD 37 undef = Value.bool false := hV.get 37 (by decide +kernel)
      exact ⟨Value.bool false, w1, wanted_free rfl, by simp [execOp, go_sem, h18, h37], Below.refl _ _, rfl⟩
    refine OweAll.cons (owesK rfl rfl fun a w1 ha hG hV => ?_) ?_
    · skip
      have h38 : a.tmps.getD 38 undef = Value.bool false := hV.get 38 (by decide +kernel)
      exact ⟨.bool false, w1, wanted_free rfl, by simp [execOp, go_sem, h38], Below.refl _ _, rfl⟩
    exact OweAll.nil
    ) ?_
  intro f wz hG hv
  have e4 : f 4 = .bool false := hv 22 _ 4 rfl rfl
  rename_i hK
  refine hK _ _ ?_
  clear hK hv
  simp only [dsts, puts, List.filterMap_cons, List.filterMap_nil, List.foldl_cons, List.foldl_nil, Act.put, List.setIfInBounds_toArray, List.set_cons_succ, List.set_cons_zero, e4]
  clear e4
  have HB3 := Lib.hid (HB2.out.trans (hG.mono HB2.out.size))
  clear hG
  go_wp2_with fail
  go_ret
  exact ⟨rfl, HB3.out⟩
end Go.Proofs.YtjjkobbajbbgdaaGreatDoor

namespace Go.Proofs.YtjjkobbajbbgdaaGreatDoor
open Go.RowKit

theorem foldl_setA (off : Nat) (v cs : Array Value) : (v.zipIdx.foldl (fun cs (x : Value × Nat) => cs.setIfInBounds (off + x.2) x.1) cs).size = cs.size ∧ ∀ k, (v.zipIdx.foldl (fun cs (x : Value × Nat) => cs.setIfInBounds (off + x.2) x.1) cs)[k]? = if off ≤ k ∧ k < off + v.size ∧ k < cs.size then v[k - off]? else cs[k]? := by
  rw [← Array.foldl_toList, Array.toList_zipIdx]
  have h := Great.foldl_set off v.toList 0 cs
  refine ⟨h.1, fun k => ?_⟩
  have := h.2 k
  simp only [Nat.add_zero, Array.length_toList, Array.getElem?_toList] at this
  exact this
/-- A struct built of its first and its third field, the second being zero. -/
theorem fill_13 (u v : Value) (z : Array Value) (n : Nat) (hu : u.cells.size = n) (hv : v.cells.size = 1) (hz : z.size = n + 2) : Instr.fill (fun i => [(0, n), (n, 1), (n + 1, 1)][i]?) z [(0, u), (2, v)] = some (u.cells ++ #[z[n]'(by omega)] ++ v.cells) := by
  have h1 := foldl_setA 0 u.cells z
  have h2 := foldl_setA (n + 1) v.cells (u.cells.zipIdx.foldl (fun cs (x : Value × Nat) => cs.setIfInBounds (0 + x.2) x.1) z)
  have e : Instr.fill (fun i => [(0, n), (n, 1), (n + 1, 1)][i]?) z [(0, u), (2, v)] = some (v.cells.zipIdx.foldl (fun cs (x : Value × Nat) => cs.setIfInBounds (n + 1 + x.2) x.1) (u.cells.zipIdx.foldl (fun cs (x : Value × Nat) => cs.setIfInBounds (0 + x.2) x.1) z)) := by
    have q1 : (decide (u.cells.size ≠ n) || decide (0 + u.cells.size > z.size)) = false := by simp [hu]; omega
    have q2 : (decide (v.cells.size ≠ 1) || decide (n + 1 + v.cells.size > (u.cells.zipIdx.foldl (fun cs (x : Value × Nat) => cs.setIfInBounds (0 + x.2) x.1) z).size)) = false := by rw [h1.1]; simp [hv]; omega
    unfold Instr.fill
    simp only [List.getElem?_cons_zero]
    rw [q1]
    simp only [Bool.false_eq_true, if_false]
    unfold Instr.fill
    simp only [List.getElem?_cons_succ, List.getElem?_cons_zero]
    rw [q2]
    simp only [Bool.false_eq_true, if_false]
    unfold Instr.fill
    rfl
  rw [e]
  congr 1
  apply Array.ext_getElem?
  intro k
  rw [h2.2 k, h1.1, h1.2 k, Array.getElem?_append, Array.getElem?_append]
  by_cases hk : k < n
  · rw [if_neg (by omega), if_pos (by omega), if_pos (by simp; omega), if_pos (by omega)]; simp
  · by_cases hk2 : k = n
    · subst hk2
      rw [if_neg (by omega), if_neg (by omega), if_pos (by simp; omega), if_neg (by omega)]
      simp [hu, Array.getElem?_eq_getElem (show k < z.size by omega)]
    · by_cases hk3 : k = n + 1
      · subst hk3
        rw [if_pos (by omega), if_neg (by simp; omega)]
        simp [hu]
      · rw [if_neg (by omega), if_neg (by omega), if_neg (by simp; omega), Array.getElem?_eq_none (by omega), Array.getElem?_eq_none (by simp; omega)]
theorem build_chain {o : Oper} {a : Act} {w : World} (x y : Operand) (ho : o.op = .build 61 #[(0, x), (2, y)]) (P : List Nat) (hP : IsTab P) (wp : Nat) (hx : a.eval x = tval P) (hy : a.eval y = .pointer (some ⟨wp, 0, none⟩)) :
    (execOp a.eval o).run Tryz.prog w = .ok (.value (.agg (chL P none 0 0 wp).toArray)) w := by
  unfold execOp
  simp only [ho, List.map_toArray, List.map_cons, List.map_nil, hx, hy]
  obtain ⟨z, hz, hzs, hzn⟩ : ∃ z : Value, (∀ w, (zeroValue 61).run Tryz.prog w = .ok z w) ∧ z.cells.size = 66 ∧ z.cells[64]? = some (.slice none 0 0) := ⟨_, Tryz.zeroValue61, rfl, rfl⟩
  have hu : (tval P).cells.size = 64 := by unfold tval; show (nums .i64 P).toArray.size = 64; rw [List.size_toArray, nums_len, hP.len]
  have hf := fill_13 (tval P) (.pointer (some ⟨wp, 0, none⟩)) z.cells 64 hu rfl hzs
  have e : (tval P).cells ++ #[z.cells[64]'(by omega)] ++ (Value.pointer (some ⟨wp, 0, none⟩)).cells = (chL P none 0 0 wp).toArray := by
    have : z.cells[64]'(by omega) = .slice none 0 0 := by
      have := Array.getElem?_eq_getElem (show 64 < z.cells.size by omega)
      rw [this] at hzn; exact Option.some.inj hzn
    rw [this]
    unfold tval chL
    show (nums .i64 P).toArray ++ #[_] ++ #[_] = _
    simp
  rw [e] at hf
  simp [Instr.build, run_underlying Tryz.underlying61, Tryz.sizeOf26, Tryz.sizeOf59, Tryz.sizeOf57, hz, hf]
theorem box_chain {o : Oper} {a : Act} {w : World} (x : Operand) (ho : o.op = .box 61 x) (C : Array Value) (hx : a.eval x = .agg C) : (execOp a.eval o).run Tryz.prog w = .ok (.value (.pointer (some ⟨w.heap.size, 0, none⟩))) (w.alloc (.cells C 61)) := by
  unfold execOp
  simp only [ho, hx]
  simp [go_sem]
set_option maxRecDepth 20000 in
set_option maxHeartbeats 4000000 in
theorem fnew_any (P : List Nat) (hP : IsTab P) (w : World) :
    Calls Tryz.prog 6 #[tval P, .int .i64 4] w fun r w' => ∃ c wp mb, r = .returned (.pointer (some ⟨c, 0, none⟩)) ∧ FC w' c P [] none 0 wp mb ∧ w.heap.size ≤ c ∧ Below w.heap.size w w' := by
  obtain ⟨F, hF⟩ : ∃ F : Ending → World → Prop, F = fun r w' => ∃ c wp mb, r = .returned (.pointer (some ⟨c, 0, none⟩)) ∧ FC w' c P [] none 0 wp mb ∧ w.heap.size ≤ c ∧ Below w.heap.size w w' := ⟨_, rfl⟩
  rw [← hF]
  have HF := Lib.hid hF
  have HP := Lib.hid hP
  have HPN := Lib.hid fpnew_any
  have hAs : (nums .i64 P).toArray.size = 64 := by rw [List.size_toArray, nums_len, hP.len]
  unfold tval
  obtain ⟨A, hA⟩ : ∃ A, A = (nums .i64 P).toArray := ⟨_, rfl⟩
  have HA : Hid (Value.agg A = tval P) := Lib.hid (by rw [hA]; rfl)
  rw [← hA] at hAs ⊢
  have HI : Hid ((Tryz.prog.info? 26).map (·.size) = some A.size) := Lib.hid (by rw [hAs]; kernel_rfl)
  have hb1 : Below w.heap.size w (w.alloc (.cells A 26)) := (Below.refl _ w).alloc (Nat.le_refl _) _
  have hr := heap_alloc_new w (.cells A 26)
  obtain ⟨W1, hW1⟩ : ∃ W1, W1 = w.alloc (.cells A 26) := ⟨_, rfl⟩
  obtain ⟨g, hg⟩ : ∃ g, g = w.heap.size := ⟨_, rfl⟩
  rw [← hW1] at hb1
  rw [← hW1, ← hg] at hr
  have HB := Lib.hid hb1
  have HROW := Lib.hid hr
  have HW := Lib.hid hW1
  have HG := Lib.hid hg
  have HG0 : Hid ((fun (j : Nat) (x : Value) (w1 : World) => (j ≤ 2 → Below W1.heap.size W1 w1) ∧ (j = 1 → ∃ wp mb, x = .pointer (some ⟨wp, 0, none⟩) ∧ w1.heap[wp]? = some (.cells #[.int .i64 4, .map (some mb)] 85 (0, 0)) ∧ MapK Tryz.prog 9 keyS w1 mb []) ∧ (j = 2 → ∃ wp mb, x = .agg (chL P none 0 0 wp).toArray ∧ w1.heap[wp]? = some (.cells #[.int .i64 4, .map (some mb)] 85 (0, 0)) ∧ MapK Tryz.prog 9 keyS w1 mb []) ∧ (3 ≤ j → ∃ c wp mb, x = .pointer (some ⟨c, 0, none⟩) ∧ FC w1 c P [] none 0 wp mb ∧ W1.heap.size ≤ c ∧ Below W1.heap.size W1 w1)) 0 undef W1.drew) := Lib.hid ⟨fun _ => (Below.refl _ W1).drew, (fun h => absurd h (by omega)), (fun h => absurd h (by omega)), (fun h => absurd h (by omega))⟩
  clear hF hP hA hb1 hr hW1 hg hAs
  go_enter Tryz.func6, Tryz.ntmps6
  go_wp2_with fail
  rw [← HW.out, ← HG.out]
  refine wp_region_chain2 (fun t v => match t with
    | 5 => v = tval P
    | 6 => v = .int .i64 4
    | _ => True) (fun (j : Nat) (x : Value) (w1 : World) => (j ≤ 2 → Below W1.heap.size W1 w1) ∧ (j = 1 → ∃ wp mb, x = .pointer (some ⟨wp, 0, none⟩) ∧ w1.heap[wp]? = some (.cells #[.int .i64 4, .map (some mb)] 85 (0, 0)) ∧ MapK Tryz.prog 9 keyS w1 mb []) ∧ (j = 2 → ∃ wp mb, x = .agg (chL P none 0 0 wp).toArray ∧ w1.heap[wp]? = some (.cells #[.int .i64 4, .map (some mb)] 85 (0, 0)) ∧ MapK Tryz.prog 9 keyS w1 mb []) ∧ (3 ≤ j → ∃ c wp mb, x = .pointer (some ⟨c, 0, none⟩) ∧ FC w1 c P [] none 0 wp mb ∧ W1.heap.size ≤ c ∧ Below W1.heap.size W1 w1)) [2, 3, 4, 5] 10 (by kernel_rfl) (by decide +kernel) rfl (by decide +kernel) (by decide) (by decide) HG0.out (by
    refine OweAllC.cons (owesC_val 1 (by decide +kernel) (by decide) rfl rfl fun k' a w1 x hk ha hG hV => ?_) ?_
    · skip
      have h2 := ha.outer 2 (by decide +kernel)
      simp only [Act.eval] at h2
      have hbw := hG.1 (by omega)
      have cc := (hbw.block g (Array.getElem?_eq_some_iff.1 HROW.out).1).trans HROW.out
      exact ⟨tval P, wanted_free rfl, (exec_load_row 26 (.tmp 2) rfl g h2 26 A (0, 0) _ cc Tryz.underlying26 rfl HI.out).trans (by rw [HA.out]), rfl⟩
    refine OweAllC.cons (owesC_val 0 (by decide +kernel) (by decide) rfl rfl fun k' a w1 x hk ha hG hV => ?_) ?_
    · skip
      have h1 := ha.outer 1 (by decide +kernel)
      simp only [Act.eval] at h1
      exact ⟨.int .i64 4, wanted_free rfl, by simp [execOp, go_sem, h1], rfl⟩
    refine OweAllC.cons (owesC_call 0 rfl rfl rfl 18 fun a w1 x ha hG hx hV => ?_) ?_
    · skip
      have h6 : a.tmps.getD 6 undef = .int .i64 4 := hV.get 6 (by decide +kernel)
      refine ⟨#[.int .i64 4], wanted_free rfl, by simp [execOp, resolve, invoke, go_sem, h6], ?_⟩
      have hbw := hG.1 (by omega)
      refine (HPN.out w1).mono ?_
      rintro r u2 ⟨wp, mb, rfl, h1, h2, _, _, hb⟩
      exact ⟨_, rfl, trivial, (fun _ => hbw.trans (hb.mono hbw.size)), (fun _ => ⟨wp, mb, rfl, h1, h2⟩), (fun h => absurd h (by omega)), (fun h => absurd h (by omega))⟩
    refine OweAllC.cons (owesC_mem 1 rfl rfl rfl fun a w1 x ha hG hx hV => ?_) ?_
    · skip
      have h5 : a.tmps.getD 5 undef = tval P := hV.get 5 (by decide +kernel)
      have g5 : a.tmps[5]?.getD undef = tval P := by simpa using h5
      have h7 := hx 0 2 _ 7 rfl rfl rfl rfl
      have hbw := hG.1 (by omega)
      obtain ⟨wp, mb, rfl, h1, h2⟩ := hG.2.1 rfl
      exact ⟨_, w1, wanted_free rfl, build_chain (.tmp 5) (.tmp 7) rfl P HP.out wp h5 h7, trivial, (fun _ => hbw), (fun h => absurd h (by omega)), (fun _ => ⟨wp, mb, rfl, h1, h2⟩), (fun h => absurd h (by omega))⟩
    refine OweAllC.cons (owesC_mem 2 rfl rfl rfl fun a w1 x ha hG hx hV => ?_) ?_
    · skip
      have h8 := hx 1 3 _ 8 rfl rfl rfl rfl
      have hbw := hG.1 (by omega)
      obtain ⟨wp, mb, rfl, h1, h2⟩ := hG.2.2.1 rfl
      have hb : Below w1.heap.size w1 (w1.alloc (.cells (chL P none 0 0 wp).toArray 61)) := (Below.refl _ _).alloc (Nat.le_refl _) _
      exact ⟨_, _, wanted_free rfl, box_chain (.tmp 8) rfl _ h8, trivial, (fun h => absurd h (by omega)), (fun h => absurd h (by omega)), (fun h => absurd h (by omega)), (fun _ => ⟨w1.heap.size, wp, mb, rfl, ⟨heap_alloc_new w1 _, HP.out, Rw.empty _ _, (hb.block wp (Array.getElem?_eq_some_iff.1 h1).1).trans h1, h2.old hb, (fun x hx => by cases hx)⟩, hbw.size, hbw.trans (hb.mono hbw.size)⟩)⟩
    refine OweAllC.cons (owesC_mem 3 rfl rfl rfl fun a w1 x ha hG hx hV => ?_) ?_
    · skip
      have h9 := hx 2 4 _ 9 rfl rfl rfl rfl
      simp only [Act.eval] at h9
      obtain ⟨c, wp, mb, rfl, hf, hc, hb⟩ := hG.2.2.2 (by omega)
      exact ⟨_, w1, wanted_free rfl, by simp [execOp, go_sem, h9], trivial, (fun h => absurd h (by omega)), (fun h => absurd h (by omega)), (fun h => absurd h (by omega)), (fun _ => ⟨c, wp, mb, rfl, hf, hc, hb⟩)⟩
    exact OweAllC.nil
    ) ?_
  intro f wz xz hG hx hv
  have e4 : f 4 = xz := hx 3 5 _ 4 rfl rfl rfl rfl
  first | (rename_i hK; refine hK _ _ ?_; clear hK) | (rename_i hK _; refine hK _ _ ?_; clear hK) | (rename_i hK _ _; refine hK _ _ ?_; clear hK) | (rename_i hK _ _ _; refine hK _ _ ?_; clear hK)
  clear hv hx
  simp only [dsts, puts, List.filterMap_cons, List.filterMap_nil, List.foldl_cons, List.foldl_nil, Act.put, List.setIfInBounds_toArray, List.set_cons_succ, List.set_cons_zero, e4]
  clear e4
  obtain ⟨c, wp, mb, rfl, hf, hc, hb⟩ := hG.2.2.2 (by decide)
  have H1 := Lib.hid (And.intro hf hc)
  have H2 := Lib.hid (HB.out.trans (hb.mono HB.out.size))
  clear hG HG0 hf hc hb
  go_wp2_with fail
  rw [HF.out]
  exact ⟨c, wp, mb, rfl, H1.out.1, Nat.le_trans HB.out.size H1.out.2, H2.out⟩
end Go.Proofs.YtjjkobbajbbgdaaGreatDoor

namespace Go.Proofs.YtjjkobbajbbgdaaGreatDoor
open Go.RowKit

set_option maxRecDepth 20000 in
set_option maxHeartbeats 4000000 in
theorem offer_no {w : World} {b0 : Nat} {P : List Nat} {D : List Cc} {qd : Option Addr} {cap wp mb : Nat} (h : FC w b0 P D qd cap wp mb) (hT : TabAt w) (hD : D.length ≤ 1000000) (c : Ct) (p q : Option Addr) (cp cq : Nat) (hL : CtAt w c p q) (hp : p = none ∨ ∃ b off, p = some ⟨b, off, none⟩) (hq : q = none ∨ ∃ b off, q = some ⟨b, off, none⟩)
    (ok : CtOk c) (hi : c.inst = (D.length : Nat)) (hbase : c.base = finB D) (l1 : c.sg.length ≤ 1000000) (l2 : c.ch.length ≤ 1000000) (l3 : c.base.length ≤ 1000000) (l4 : c.fin.length ≤ 1000000) (V : Value) (hqu : ¬ 2 * tsum P < 3 * tsum (sig P c.sg)) :
    Calls Tryz.prog 10 #[.pointer (some ⟨b0, 0, none⟩), .agg (ctc c p q cp cq), V] w fun r w' => r = .returned (.tuple #[.bool false, .int .i64 14]) ∧ Below w.heap.size w w' := by
  have hck : Hid (∀ u, Below w.heap.size w u → Calls Tryz.prog 25 #[.agg (ctc c p q cp cq)] u fun r w' => r = .returned (.int .i64 0) ∧ Below u.heap.size u w') := Lib.hid (fun u hu => by have := kcheck_any c p q cp cq u (hL.old hu) l1 l2 l3 l4; rw [ck_ok.2 ok] at this; exact this)
  have hhas : Hid (∀ u, Below w.heap.size w u → Calls Tryz.prog 26 #[.pointer (some ⟨b0, 0, none⟩), .agg (ctc c p q cp cq)] u fun r w' => r = .returned (.bool false) ∧ Below u.heap.size u w') := Lib.hid (fun u hu => has_next (h.old hu) (hT.old hu) c p q cp cq (hL.old hu) ok hi)
  have hown : Hid (∀ u, Below w.heap.size w u → Calls Tryz.prog 27 #[.agg (ctc c p q cp cq)] u fun r w' => ∃ p' q' cp' cq', r = .returned (.agg (ctc c p' q' cp' cq')) ∧ Rw encI 3 w' p' cp' c.sg ∧ Rw encP 31 w' q' cq' c.ch ∧ Below u.heap.size u w') := Lib.hid (fun u hu => owned_any c p q cp cq u (hL.old hu) hp hq l1 l2 l3 l4)
  have hver : Hid (∀ (u : World) (p' q' : Option Addr) (cp' cq' : Nat), Below w.heap.size w u → CtAt u c p' q' → Calls Tryz.prog 28 #[.pointer (some ⟨b0, 0, none⟩), .agg (ctc c p' q' cp' cq'), V] u fun r w' => r = .returned (.int .i64 14) ∧ Below u.heap.size u w') := Lib.hid (fun u p' q' cp' cq' hu hc =>
    verdict_next (h.old hu) c p' q' cp' cq' hi hD V 14 (fun v hv => judge_no ((h.old hu).old hv) ((hT.old hu).old hv) hD c p' q' cp' cq' hbase V (List.replicate 64 0) isTab_zero (fun x hx => knext_no c p' q' cp' cq' P x h.tab ((hc.old hv).old hx) l1 l2 hqu)))
  have HXI : Hid (∀ p q cp cq, (Tryz.prog.info? 47).map (·.size) = some (ctc c p q cp cq).size) := Lib.hid (fun p q cp cq => by unfold ctc; kernel_rfl)
  have HX1 : Hid (∀ p q cp cq, ∀ v ∈ (ctc c p q cp cq).toList, v.oneCell' = true) := Lib.hid (fun p q cp cq => ctc_one _ _ _ _ _)
  have HXS : Hid (∀ p q cp cq, (ctc c p q cp cq).size = 5) := Lib.hid (fun _ _ _ _ => rfl)
  obtain ⟨X, hX⟩ : ∃ X : Array Value, X = ctc c p q cp cq := ⟨_, rfl⟩
  have hXi := HXI.out p q cp cq
  have hXs := HXS.out p q cp cq
  rw [← hX] at hck hhas hown hXi hXs ⊢
  have hb1 : Below w.heap.size w (w.alloc (.cells X 47)) := (Below.refl _ w).alloc (Nat.le_refl _) _
  have hr := heap_alloc_new w (.cells X 47)
  obtain ⟨W1, hW1⟩ : ∃ W1, W1 = w.alloc (.cells X 47) := ⟨_, rfl⟩
  obtain ⟨g, hg⟩ : ∃ g, g = w.heap.size := ⟨_, rfl⟩
  rw [← hW1] at hb1
  rw [← hW1, ← hg] at hr
  have HB := Lib.hid hb1
  have HROW := Lib.hid (And.intro hr hXi)
  have HW := Lib.hid hW1
  have HG := Lib.hid hg
  have HXSS := Lib.hid hXs
  have hgw : w.heap.size ≤ g := by omega
  clear h hT hL hp hq ok hi hbase l1 l2 l3 l4 hqu hb1 hr hW1 hg hX hXi hXs
  go_enter Tryz.func10, Tryz.ntmps10
  go_wp2_with (rw [← HW.out, ← HG.out]; refine wpList_exec rfl (exec_load_row 47 (.tmp 4) rfl g rfl 47 X (0, 0) _ HROW.out.1 Tryz.underlying47 rfl HROW.out.2) ?_)
  refine (hck.out W1 HB.out).mono ?_
  rintro e w2 ⟨rfl, hb2⟩
  have HB2 := Lib.hid (HB.out.trans (hb2.mono HB.out.size))
  have HR2 := Lib.hid ((hb2.block _ (Array.getElem?_eq_some_iff.1 HROW.out.1).1).trans HROW.out.1)
  have HII := Lib.hid HROW.out.2
  clear hb2 hck HROW
  go_wp2_with (refine wpList_exec rfl (exec_load_row 47 (.tmp 4) rfl g rfl 47 X (0, 0) _ HR2.out Tryz.underlying47 rfl HII.out) ?_)
  refine (hhas.out w2 HB2.out).mono ?_
  rintro e w3 ⟨rfl, hb3⟩
  have HB3 := Lib.hid (HB2.out.trans (hb3.mono HB2.out.size))
  have HR3 := Lib.hid ((hb3.block _ (Array.getElem?_eq_some_iff.1 HR2.out).1).trans HR2.out)
  clear hb3 hhas HR2
  go_wp2_with (refine wpList_exec rfl (exec_load_row 47 (.tmp 4) rfl g rfl 47 X (0, 0) _ HR3.out Tryz.underlying47 rfl HII.out) ?_)
  refine (hown.out w3 HB3.out).mono ?_
  rintro e w4 ⟨p', q', cp', cq', rfl, hRp, hRq, hb4⟩
  have HB4 := Lib.hid (HB3.out.trans (hb4.mono HB3.out.size))
  have hr4 := (hb4.block _ (Array.getElem?_eq_some_iff.1 HR3.out).1).trans HR3.out
  have hS : Mod (fun i => False ∨ i = g) w4 (w4.setRow g (ctc c p' q' cp' cq')) := (Mod.refl (fun _ => False) w4).setRow (g := g) _
  have hne : 3 ≠ 47 ∧ 31 ≠ 47 := by decide
  have hc5 : Hid (CtAt (w4.setRow g (ctc c p' q' cp' cq')) c p' q') := Lib.hid (by
    refine ⟨(hRp.kept hS ?_).rd, (hRq.kept hS ?_).rd⟩
    · rintro a rfl (h | h)
      · exact h
      · rcases hRp.shape with ⟨e1, _⟩ | ⟨g1, e1, _, _, _, cur, hh, _⟩
        · cases e1
        · cases e1; simp only at h; rw [h, hr4] at hh; simp only [Option.some.injEq, Obj.cells.injEq] at hh; exact hne.1 hh.2.1.symm
    · rintro a rfl (h | h)
      · exact h
      · rcases hRq.shape with ⟨e1, _⟩ | ⟨g1, e1, _, _, _, cur, hh, _⟩
        · cases e1
        · cases e1; simp only at h; rw [h, hr4] at hh; simp only [Option.some.injEq, Obj.cells.injEq] at hh; exact hne.2 hh.2.1.symm)
  have HB5 : Hid (Below w.heap.size w (w4.setRow g (ctc c p' q' cp' cq'))) := Lib.hid (HB4.out.trans (hS.to_below HB4.out.size (by rintro i hi (h | h); exact h; omega)))
  have HR5 : Hid ((w4.setRow g (ctc c p' q' cp' cq')).heap[g]? = some (.cells (ctc c p' q' cp' cq') 47 (0, 0))) := Lib.hid (setRow_heap _ _ _ _ _ _ hr4)
  have hYi := HXI.out p' q' cp' cq'
  have hY1 := HX1.out p' q' cp' cq'
  have hYs : X.size = (ctc c p' q' cp' cq').size := by rw [HXSS.out, HXS.out]
  have HV := fun u hu hc => hver.out u p' q' cp' cq' hu hc
  have HVV := Lib.hid HV
  obtain ⟨Y, hY⟩ : ∃ Y, Y = ctc c p' q' cp' cq' := ⟨_, rfl⟩
  rw [← hY] at hc5 HB5 HR5 hYi hY1 hYs HVV
  rw [← hY]
  obtain ⟨W5, hW5⟩ : ∃ W5, W5 = w4.setRow g Y := ⟨_, rfl⟩
  rw [← hW5] at hc5 HB5 HR5
  have HW5 := Lib.hid hW5
  have HYI := Lib.hid hYi
  clear hb4 hown HR3 hRp hRq hS HV hver hY hW5 HXI HX1 HXS HII
  go_wp2_with (first
    | (refine wpList_store_row rfl rfl 47 (.tmp 4) (.tmp 19) rfl g rfl 47 X Y rfl hr4 hYs hYi hY1 ?_; rw [← HW5.out])
    | (refine wpList_exec rfl (exec_load_row 47 (.tmp 4) rfl g rfl 47 Y (0, 0) _ HR5.out Tryz.underlying47 rfl HYI.out) ?_))
  refine (HVV.out W5 HB5.out hc5.out).mono ?_
  rintro e w6 ⟨rfl, hb6⟩
  have HB6 := Lib.hid (HB5.out.trans (hb6.mono HB5.out.size))
  clear hb6 HVV
  go_wp2_with fail
  go_ret2
  exact ⟨rfl, HB6.out⟩
end Go.Proofs.YtjjkobbajbbgdaaGreatDoor

namespace Go.Proofs.YtjjkobbajbbgdaaGreatDoor
open Go.RowKit

set_option maxRecDepth 20000 in
set_option maxHeartbeats 4000000 in
theorem offer_yes {w : World} {b0 : Nat} {P : List Nat} {D : List Cc} {qd : Option Addr} {cap wp mb : Nat} (h : FC w b0 P D qd cap wp mb) (hT : TabAt w) (hD : D.length ≤ 1000000) (c : Ct) (p q : Option Addr) (cp cq : Nat) (hL : CtAt w c p q) (hp : p = none ∨ ∃ b off, p = some ⟨b, off, none⟩) (hq : q = none ∨ ∃ b off, q = some ⟨b, off, none⟩)
    (ok : CtOk c) (hi : c.inst = (D.length : Nat)) (hbase : c.base = finB D) (l1 : c.sg.length ≤ 1000000) (l2 : c.ch.length ≤ 1000000) (l3 : c.base.length ≤ 1000000) (l4 : c.fin.length ≤ 1000000) (V : Value) (hqu : 2 * tsum P < 3 * tsum (sig P c.sg)) (hch : chgE P c.ch = 0)
    (hse : ∀ (u : World) (p' q' : Option Addr) (cp' cq' : Nat), Below w.heap.size w u → Calls Tryz.prog 76 #[.agg (ctc c p' q' cp' cq'), V] u fun r w' => r = .returned (.int .i64 0) ∧ Below u.heap.size u w') :
    Calls Tryz.prog 10 #[.pointer (some ⟨b0, 0, none⟩), .agg (ctc c p q cp cq), V] w fun r w' => r = .returned (.tuple #[.bool true, .int .i64 0]) ∧ ∃ p' q' cp' cq' qd' cap', FC w' b0 (chgT P c.ch) (D ++ [⟨c, p', q', cp', cq'⟩]) qd' cap' wp mb ∧ Mod (fun i => i = b0 ∨ ∃ a, qd = some a ∧ i = a.block) w w' ∧ (∀ a, qd' = some a → qd = some a ∨ w.heap.size ≤ a.block) := by
  obtain ⟨PP, hPP⟩ : ∃ F : Ending → World → Prop, F = fun r w' => r = .returned (.tuple #[.bool true, .int .i64 0]) ∧ ∃ p' q' cp' cq' qd' cap', FC w' b0 (chgT P c.ch) (D ++ [⟨c, p', q', cp', cq'⟩]) qd' cap' wp mb ∧ Mod (fun i => i = b0 ∨ ∃ a, qd = some a ∧ i = a.block) w w' ∧ (∀ a, qd' = some a → qd = some a ∨ w.heap.size ≤ a.block) := ⟨_, rfl⟩
  rw [← hPP]
  have HPP := Lib.hid hPP
  have HH := Lib.hid h
  have hnx : Hid (∀ (u : World) (p' q' : Option Addr) (cp' cq' : Nat), CtAt u c p' q' → Calls Tryz.prog 47 #[.agg (ctc c p' q' cp' cq'), tval P] u fun r w' => r = .returned (.tuple #[tval (chgT P c.ch), .int .i64 0]) ∧ Below u.heap.size u w') := Lib.hid (fun u p' q' cp' cq' hc => by have := knext_any c p' q' cp' cq' P u h.tab hc l1 l2 hqu; rw [hch] at this; exact this)
  have HTT := Lib.hid (chgT_tab (E := c.ch) h.tab)
  have HD := Lib.hid hD
  have HFL := Lib.hid l4
  have hck : Hid (∀ u, Below w.heap.size w u → Calls Tryz.prog 25 #[.agg (ctc c p q cp cq)] u fun r w' => r = .returned (.int .i64 0) ∧ Below u.heap.size u w') := Lib.hid (fun u hu => by have := kcheck_any c p q cp cq u (hL.old hu) l1 l2 l3 l4; rw [ck_ok.2 ok] at this; exact this)
  have hhas : Hid (∀ u, Below w.heap.size w u → Calls Tryz.prog 26 #[.pointer (some ⟨b0, 0, none⟩), .agg (ctc c p q cp cq)] u fun r w' => r = .returned (.bool false) ∧ Below u.heap.size u w') := Lib.hid (fun u hu => has_next (h.old hu) (hT.old hu) c p q cp cq (hL.old hu) ok hi)
  have hown : Hid (∀ u, Below w.heap.size w u → Calls Tryz.prog 27 #[.agg (ctc c p q cp cq)] u fun r w' => ∃ p' q' cp' cq', r = .returned (.agg (ctc c p' q' cp' cq')) ∧ Rw encI 3 w' p' cp' c.sg ∧ Rw encP 31 w' q' cq' c.ch ∧ Below u.heap.size u w') := Lib.hid (fun u hu => owned_any c p q cp cq u (hL.old hu) hp hq l1 l2 l3 l4)
  have hver : Hid (∀ (u : World) (p' q' : Option Addr) (cp' cq' : Nat), Below w.heap.size w u → CtAt u c p' q' → Calls Tryz.prog 28 #[.pointer (some ⟨b0, 0, none⟩), .agg (ctc c p' q' cp' cq'), V] u fun r w' => r = .returned (.int .i64 0) ∧ Below u.heap.size u w') := Lib.hid (fun u p' q' cp' cq' hu hc =>
    verdict_next (h.old hu) c p' q' cp' cq' hi hD V 0 (fun v hv => judge_ok ((h.old hu).old hv) ((hT.old hu).old hv) hD c p' q' cp' cq' hbase V (chgT P c.ch) 0 HTT.out (fun x hx => hnx.out x p' q' cp' cq' ((hc.old hv).old hx)) (fun x hx => hse x p' q' cp' cq' (hu.trans ((hv.mono hu.size).trans (hx.mono (Nat.le_trans hu.size hv.size)))))))
  have HXI : Hid (∀ p q cp cq, (Tryz.prog.info? 47).map (·.size) = some (ctc c p q cp cq).size) := Lib.hid (fun p q cp cq => by unfold ctc; kernel_rfl)
  have HX1 : Hid (∀ p q cp cq, ∀ v ∈ (ctc c p q cp cq).toList, v.oneCell' = true) := Lib.hid (fun p q cp cq => ctc_one _ _ _ _ _)
  have HXS : Hid (∀ p q cp cq, (ctc c p q cp cq).size = 5) := Lib.hid (fun _ _ _ _ => rfl)
  obtain ⟨X, hX⟩ : ∃ X : Array Value, X = ctc c p q cp cq := ⟨_, rfl⟩
  have hXi := HXI.out p q cp cq
  have hXs := HXS.out p q cp cq
  rw [← hX] at hck hhas hown hXi hXs ⊢
  have hb1 : Below w.heap.size w (w.alloc (.cells X 47)) := (Below.refl _ w).alloc (Nat.le_refl _) _
  have hr := heap_alloc_new w (.cells X 47)
  obtain ⟨W1, hW1⟩ : ∃ W1, W1 = w.alloc (.cells X 47) := ⟨_, rfl⟩
  obtain ⟨g, hg⟩ : ∃ g, g = w.heap.size := ⟨_, rfl⟩
  rw [← hW1] at hb1
  rw [← hW1, ← hg] at hr
  have HB := Lib.hid hb1
  have HROW := Lib.hid (And.intro hr hXi)
  have HW := Lib.hid hW1
  have HG := Lib.hid hg
  have HXSS := Lib.hid hXs
  have hgw : w.heap.size ≤ g := by omega
  clear h hT hL hp hq ok hi hbase l1 l2 l3 l4 hqu hch hse hD hPP hb1 hr hW1 hg hX hXi hXs
  go_enter Tryz.func10, Tryz.ntmps10
  go_wp2_with (rw [← HW.out, ← HG.out]; refine wpList_exec rfl (exec_load_row 47 (.tmp 4) rfl g rfl 47 X (0, 0) _ HROW.out.1 Tryz.underlying47 rfl HROW.out.2) ?_)
  refine (hck.out W1 HB.out).mono ?_
  rintro e w2 ⟨rfl, hb2⟩
  have HB2 := Lib.hid (HB.out.trans (hb2.mono HB.out.size))
  have HR2 := Lib.hid ((hb2.block _ (Array.getElem?_eq_some_iff.1 HROW.out.1).1).trans HROW.out.1)
  have HII := Lib.hid HROW.out.2
  clear hb2 hck HROW
  go_wp2_with (refine wpList_exec rfl (exec_load_row 47 (.tmp 4) rfl g rfl 47 X (0, 0) _ HR2.out Tryz.underlying47 rfl HII.out) ?_)
  refine (hhas.out w2 HB2.out).mono ?_
  rintro e w3 ⟨rfl, hb3⟩
  have HB3 := Lib.hid (HB2.out.trans (hb3.mono HB2.out.size))
  have HR3 := Lib.hid ((hb3.block _ (Array.getElem?_eq_some_iff.1 HR2.out).1).trans HR2.out)
  clear hb3 hhas HR2
  go_wp2_with (refine wpList_exec rfl (exec_load_row 47 (.tmp 4) rfl g rfl 47 X (0, 0) _ HR3.out Tryz.underlying47 rfl HII.out) ?_)
  refine (hown.out w3 HB3.out).mono ?_
  rintro e w4 ⟨p', q', cp', cq', rfl, hRp, hRq, hb4⟩
  have HB4 := Lib.hid (HB3.out.trans (hb4.mono HB3.out.size))
  have hr4 := (hb4.block _ (Array.getElem?_eq_some_iff.1 HR3.out).1).trans HR3.out
  have hS : Mod (fun i => False ∨ i = g) w4 (w4.setRow g (ctc c p' q' cp' cq')) := (Mod.refl (fun _ => False) w4).setRow (g := g) _
  have hne : 3 ≠ 47 ∧ 31 ≠ 47 := by decide
  have hc5 : Hid (CtAt (w4.setRow g (ctc c p' q' cp' cq')) c p' q') := Lib.hid (by
    refine ⟨(hRp.kept hS ?_).rd, (hRq.kept hS ?_).rd⟩
    · rintro a rfl (h | h)
      · exact h
      · rcases hRp.shape with ⟨e1, _⟩ | ⟨g1, e1, _, _, _, cur, hh, _⟩
        · cases e1
        · cases e1; simp only at h; rw [h, hr4] at hh; simp only [Option.some.injEq, Obj.cells.injEq] at hh; exact hne.1 hh.2.1.symm
    · rintro a rfl (h | h)
      · exact h
      · rcases hRq.shape with ⟨e1, _⟩ | ⟨g1, e1, _, _, _, cur, hh, _⟩
        · cases e1
        · cases e1; simp only at h; rw [h, hr4] at hh; simp only [Option.some.injEq, Obj.cells.injEq] at hh; exact hne.2 hh.2.1.symm)
  have HB5 : Hid (Below w.heap.size w (w4.setRow g (ctc c p' q' cp' cq'))) := Lib.hid (HB4.out.trans (hS.to_below HB4.out.size (by rintro i hi (h | h); exact h; omega)))
  have HR5 : Hid ((w4.setRow g (ctc c p' q' cp' cq')).heap[g]? = some (.cells (ctc c p' q' cp' cq') 47 (0, 0))) := Lib.hid (setRow_heap _ _ _ _ _ _ hr4)
  have hYi := HXI.out p' q' cp' cq'
  have hY1 := HX1.out p' q' cp' cq'
  have hYs : X.size = (ctc c p' q' cp' cq').size := by rw [HXSS.out, HXS.out]
  have HV := fun u hu hc => hver.out u p' q' cp' cq' hu hc
  have HVV := Lib.hid HV
  obtain ⟨Y, hY⟩ : ∃ Y, Y = ctc c p' q' cp' cq' := ⟨_, rfl⟩
  have HYE := Lib.hid hY
  rw [← hY] at hc5 HB5 HR5 hYi hY1 hYs HVV
  rw [← hY]
  obtain ⟨W5, hW5⟩ : ∃ W5, W5 = w4.setRow g Y := ⟨_, rfl⟩
  rw [← hW5] at hc5 HB5 HR5
  have HW5 := Lib.hid hW5
  have HYI := Lib.hid hYi
  clear hb4 hown HR3 hRp hRq hS HV hver hY hW5 HXI HX1 HXS HII
  go_wp2_with (first
    | (refine wpList_store_row rfl rfl 47 (.tmp 4) (.tmp 19) rfl g rfl 47 X Y rfl hr4 hYs hYi hY1 ?_; rw [← HW5.out])
    | (refine wpList_exec rfl (exec_load_row 47 (.tmp 4) rfl g rfl 47 Y (0, 0) _ HR5.out Tryz.underlying47 rfl HYI.out) ?_))
  refine (HVV.out W5 HB5.out hc5.out).mono ?_
  rintro e w6 ⟨rfl, hb6⟩
  have HB6 := Lib.hid (HB5.out.trans (hb6.mono HB5.out.size))
  have hc6 := hc5.out.old hb6
  have HR6 := Lib.hid ((hb6.block _ (Array.getElem?_eq_some_iff.1 HR5.out).1).trans HR5.out)
  have hacc := accept_any (HH.out.old HB6.out) HD.out c p' q' cp' cq' HFL.out (chgT P c.ch) HTT.out (fun u hu => hnx.out u p' q' cp' cq' (hc6.old hu))
  rw [← HYE.out] at hacc
  have HAC := Lib.hid hacc
  clear hb6 HVV hc6 hacc HR5 hc5
  go_wp2_with (refine wpList_exec rfl (exec_load_row 47 (.tmp 4) rfl g rfl 47 Y (0, 0) _ HR6.out Tryz.underlying47 rfl HYI.out) ?_)
  refine HAC.out.mono ?_
  rintro e w7 ⟨rfl, qd', cap', hf7, hm7, ho7⟩
  have HF7 := Lib.hid hf7
  have HRT := Lib.hid (retry_none hf7 V)
  have HM7 : Hid (Mod (fun i => i = b0 ∨ ∃ a, qd = some a ∧ i = a.block) w w7) := Lib.hid (((Mod.of_below HB6.out).mono (T := fun i => i = b0 ∨ ∃ a, qd = some a ∧ i = a.block) (fun i hi h => by omega)).trans hm7 (fun _ _ h => h))
  have HO7 : Hid (∀ a, qd' = some a → qd = some a ∨ w.heap.size ≤ a.block) := Lib.hid (fun a e => (ho7 a e).imp id (fun h => Nat.le_trans HB6.out.size h))
  clear HAC hf7 hm7 ho7 HR6
  go_wp2_with fail
  refine HRT.out.mono ?_
  rintro e w8 ⟨rfl, hb8⟩
  have HF8 := Lib.hid (HF7.out.old hb8)
  have HM8 : Hid (Mod (fun i => i = b0 ∨ ∃ a, qd = some a ∧ i = a.block) w w8) := Lib.hid (HM7.out.trans ((Mod.of_below hb8).mono (T := fun i => i = b0 ∨ ∃ a, qd = some a ∧ i = a.block) (fun i hi h => by have := HM7.out.size; omega)) (fun _ _ h => h))
  clear hb8 HRT HF7
  go_wp2_with fail
  rw [HPP.out]
  exact ⟨rfl, p', q', cp', cq', qd', cap', HF8.out, HM8.out, HO7.out⟩
end Go.Proofs.YtjjkobbajbbgdaaGreatDoor

namespace Go.Proofs.YtjjkobbajbbgdaaGreatDoor
open Go.RowKit

set_option maxRecDepth 20000 in
set_option maxHeartbeats 2000000 in
theorem ftable_any {w : World} {b0 : Nat} {P : List Nat} {D : List Cc} {qd : Option Addr} {cap wp mb : Nat} (h : FC w b0 P D qd cap wp mb) :
    Calls Tryz.prog 11 #[.pointer (some ⟨b0, 0, none⟩)] w fun r w' => r = .returned (tval P) ∧ Below w.heap.size w w' := by
  have HP := Lib.hid h.tab
  have hlt := h.lt
  obtain ⟨Z, hZ⟩ : ∃ Z, Z = (nums .i64 (List.replicate 64 0)).toArray := ⟨_, rfl⟩
  have hz : ∀ w : World, (zeroValue 26).run Tryz.prog w = .ok (.agg Z) w := by rw [hZ]; exact fun _ => by kernel_rfl
  have hZs : Z.size = 64 := by rw [hZ]; simp [nums_len]
  have hb : Below w.heap.size w (w.alloc (.cells Z 26)) := (Below.refl _ w).alloc (Nat.le_refl _) _
  have htc := Lib.hid ((h.old hb).tabc)
  have hg := heap_alloc_new w (.cells Z 26)
  unfold tval
  obtain ⟨A, hA⟩ : ∃ A, A = (nums .i64 P).toArray := ⟨_, rfl⟩
  have hAs : A.size = 64 := HP.out.row hA
  have HA : Hid (tval P = .agg A) := Lib.hid (by rw [hA]; rfl)
  rw [← hA]
  have h1 := (tab_one hA).out
  have hzA : Z.size = A.size := by rw [hZs, hAs]
  have hi : (Tryz.prog.info? 26).map (·.size) = some A.size := by rw [hAs]; kernel_rfl
  have L0 := Lib.hid (setRow_heap _ w.heap.size Z A 26 (0, 0) hg)
  have HB : Hid (Below w.heap.size w ((w.alloc (.cells Z 26)).setRow w.heap.size A)) := Lib.hid stored_below
  have HLD := Lib.hid (fun (o : Oper) (a : Act) (x : Operand) (ho : o.op = .load 26 x) (hx : a.eval x = .pointer (some ⟨b0, 0, none⟩)) => (exec_load_tab (o := o) (a := a) x ho b0 0 hx P HP.out htc.out).trans (by rw [HA.out]))
  clear h hZ hb hA hZs hAs htc
  go_enter Tryz.func11, Tryz.ntmps11
  go_wp2_with (first
    | (refine wpList_exec rfl (HLD.out _ _ (.tmp 5) rfl rfl) ?_)
    | (refine wpList_store_row rfl rfl 26 (.tmp 2) (.tmp 6) rfl w.heap.size rfl 26 Z A rfl hg hzA hi h1 ?_))
  exact bodyPost_ret (v := .agg A) (results_cell_row Tryz.results11 _ _ w.heap.size 26 _ (0, 0) _ rfl L0.out Tryz.underlying26 rfl hi) rfl ⟨rfl, HB.out⟩
theorem wpList_execG {P : Program} {ops : Array Oper} {rest : List Oper} {o : Oper} {a : Act} {w w' : World} {Q : Exit → Act → World → Prop} {v : Value} (hw : Region.wanted o (yielded ops a.tmps) = true) (hr : (execOp a.eval o).run P w = .ok (.value v) w') (h : wpList P ops Q rest (a.put o.dst v) w') : wpList P ops Q (o :: rest) a w :=
  wpList_step fun _ hK => by
    rw [if_pos hw]
    unfold Oper.wp
    rw [hr]
    exact hK _ _ h
def T1f (m : Nat) : List Nat := wth (List.replicate 64 0) [(0, m)]
theorem ent1 (m : Nat) (h0 : 1 ≤ m) (h1 : m ≤ 1099511627776) : EntsOk [(0, m)] 1 := by
  refine ⟨by intro e he; simp at he; subst he; exact Nat.zero_lt_succ _, by intro e he; simp at he; subst he; exact ⟨h0, h1⟩, by intro j hj; simp at hj⟩
theorem T1f_tab (m : Nat) (h0 : 1 ≤ m) (h1 : m ≤ 1099511627776) : IsTab (T1f m) := isTab_zero.wth (ent1 m h0 h1)
theorem T1f_sum : tsum (T1f 1) = 1 := by decide +kernel
theorem ents1_at (m : Nat) (w : World) : EntsAt (w.alloc (.cells #[.int .i64 0, .int .i64 (m : Int)] 31)) (some ⟨w.heap.size, 0, none⟩) [(0, m)] := by
  intro j hj
  have e : j = 0 := by simp at hj; exact hj
  subst e
  refine ⟨w.heap.size, 0, rfl, by simp, ?_, ?_⟩ <;> (rw [cell_of_row _ w.heap.size _ _ 31 (0, 0) (heap_alloc_new _ _)]; rfl)
/-- table.New of one entry, made where it stands. -/
theorem tnew1_any (m : Nat) (h0 : 1 ≤ m) (h1 : m ≤ 1099511627776) (w : World) : Calls Tryz.prog 5 #[.slice (some ⟨w.heap.size, 0, none⟩) 1 1] (w.alloc (.cells #[.int .i64 0, .int .i64 (m : Int)] 31)) fun r w' => r = .returned (.tuple #[tval (T1f m), .int .i64 0]) ∧ Below w.heap.size w w' := by
  have h := new_any (some ⟨w.heap.size, 0, none⟩) 1 [(0, m)] _ (ents1_at m w) (ent1 m h0 h1) (by simp) (by simp)
  refine h.mono ?_
  rintro r w' ⟨rfl, hb⟩
  have hb0 : Below w.heap.size w (w.alloc (.cells #[.int .i64 0, .int .i64 (m : Int)] 31)) := (Below.refl _ w).alloc (Nat.le_refl _) _
  exact ⟨rfl, hb0.trans (hb.mono hb0.size)⟩
/-- The root's key, made where it stands. -/
theorem rootkey_any (w : World) : Calls Tryz.prog 7 #[.slice (some ⟨w.heap.size, 0, none⟩) 1 1] (w.alloc (.cells (vals rootB).toArray 36)) fun r w' => r = .returned (.string ⟨rootB.toArray⟩) ∧ Below w.heap.size w w' := by
  have h := key_any (some ⟨w.heap.size, 0, none⟩) 1 [(⟨rootB, rootB_len⟩ : Nm)] _ (rootkey_rd w) (.inr ⟨_, _, rfl⟩) (by show 1 ≤ 1000000; decide)
  rw [kset_one] at h
  refine Calls.mono h ?_
  rintro r w' ⟨rfl, hb⟩
  have hb0 : Below w.heap.size w (w.alloc (.cells (vals rootB).toArray 36)) := (Below.refl _ w).alloc (Nat.le_refl _) _
  exact ⟨rfl, hb0.trans (hb.mono hb0.size)⟩
set_option maxRecDepth 20000 in
set_option maxHeartbeats 4000000 in
theorem awake17_any (w : World) (hT : TabAt w) : Calls Tryz.prog 4 #[] w fun r w' => r = .returned (.bool true) ∧ Below w.heap.size w w' := by
  have HT := Lib.hid hT
  have hTT := T1f_tab 1 (by decide) (by decide)
  have HTT := Lib.hid hTT
  have KN := Lib.hid (fun u => tnew1_any 1 (by decide) (by decide) u)
  have KF := Lib.hid (fun u => fnew_any (T1f 1) hTT u)
  have KS : Hid (∀ u, Calls Tryz.prog 15 #[tval (T1f 1)] u fun r w' => r = .returned (.int .i64 1) ∧ Below u.heap.size u w') := Lib.hid (fun u => by have := total_any (T1f 1) u hTT; rw [T1f_sum] at this; exact this)
  have KT : Hid (∀ (u : World) (b0 wp mb : Nat), FC u b0 (T1f 1) [] none 0 wp mb → Calls Tryz.prog 11 #[.pointer (some ⟨b0, 0, none⟩)] u fun r w' => r = .returned (tval (T1f 1)) ∧ Below u.heap.size u w') := Lib.hid (fun u b0 wp mb h => ftable_any h)
  obtain ⟨T1, hT1⟩ : ∃ T1, T1 = T1f 1 := ⟨_, rfl⟩
  rw [← hT1] at KN KF KS KT HTT
  obtain ⟨Z, hZ⟩ : ∃ Z, Z = (nums .i64 (List.replicate 64 0)).toArray := ⟨_, rfl⟩
  have hz : ∀ w : World, (zeroValue 26).run Tryz.prog w = .ok (.agg Z) w := by rw [hZ]; exact fun _ => by kernel_rfl
  have hZs : Z.size = 64 := by rw [hZ]; simp [nums_len]
  obtain ⟨A, hA⟩ : ∃ A, A = (nums .i64 T1).toArray := ⟨_, rfl⟩
  have hAs : A.size = 64 := HTT.out.row hA
  have HA : tval T1 = .agg A := by rw [hA]; rfl
  have h1 := (tab_one hA).out
  have hzA : Z.size = A.size := by rw [hZs, hAs]
  have hi : (Tryz.prog.info? 26).map (·.size) = some A.size := by rw [hAs]; kernel_rfl
  rw [HA] at KN KF KS KT
  have HII := Lib.hid hi
  have KR := Lib.hid root_any
  have KK := Lib.hid rootkey_any
  obtain ⟨RB, hRB⟩ : ∃ RB, RB = rootB := ⟨_, rfl⟩
  have HL : Hid (RB.length = 32) := Lib.hid (by rw [hRB]; exact rootB_len)
  have KE : Hid (finB [] = RB) := Lib.hid (by rw [hRB]; rfl)
  rw [← hRB] at KR KK
  clear hT hTT hT1 hZ hA hRB HA hZs hAs
  obtain ⟨W1, hW1⟩ : ∃ W1, W1 = w.alloc (.cells #[.int .i64 0, .int .i64 1] 31) := ⟨_, rfl⟩
  have KN1 := KN.out w
  rw [show ((1 : Nat) : Int) = 1 from rfl, ← hW1] at KN1
  have HKN := Lib.hid KN1
  have HW1 := Lib.hid hW1
  clear KN1 hW1 KN
  go_enter Tryz.func4, Tryz.ntmps4
  go_wp2_with fail
  rw [← HW1.out]
  refine HKN.out.mono ?_
  rintro r w2 ⟨rfl, hb2⟩
  have HB2 := Lib.hid hb2
  have hg2 := heap_alloc_new w2 (.cells Z 26)
  obtain ⟨W3, hW3⟩ : ∃ W3, W3 = (w2.alloc (.cells Z 26)).setRow w2.heap.size A := ⟨_, rfl⟩
  have HB3 : Hid (Below w.heap.size w W3) := Lib.hid (by rw [hW3]; exact HB2.out.trans (stored_below.mono HB2.out.size))
  have hr3 : W3.heap[w2.heap.size]? = some (.cells A 26 (0, 0)) := by rw [hW3]; exact setRow_heap _ _ _ _ _ _ hg2
  have HW3 := Lib.hid hW3
  clear hb2 hW3 HKN
  go_wp2_with (first
    | (refine wpList_store_row rfl rfl 26 (.tmp 1) (.tmp 8) rfl w2.heap.size rfl 26 Z A rfl hg2 hzA hi h1 ?_; rw [← HW3.out])
    | (refine wpList_exec rfl (exec_load_row 26 (.tmp 1) rfl w2.heap.size rfl 26 A (0, 0) _ hr3 Tryz.underlying26 rfl HII.out) ?_))
  refine (KF.out W3).mono ?_
  rintro r w4 ⟨c, wp, mb, rfl, hf, _, hb4⟩
  have HF := Lib.hid hf
  have HB4 := Lib.hid (HB3.out.trans (hb4.mono HB3.out.size))
  have HN := Lib.hid (fnext_any hf)
  clear hf hb4 hr3 hg2
  go_wp2_with fail
  refine HN.out.mono ?_
  rintro r w5 ⟨rfl, rfl⟩
  have HFI := Lib.hid (final_any HF.out (HT.out.old HB4.out) (by simp))
  rw [KE.out] at HFI
  clear HN
  simp only [List.length_nil]
  go_wp2_with fail
  refine HFI.out.mono ?_
  rintro r w6 ⟨rfl, hb6⟩
  have HB6 := Lib.hid (HB4.out.trans (hb6.mono HB4.out.size))
  have HF6 := Lib.hid (HF.out.old hb6)
  clear hb6 HFI HF
  go_wp2_with fail
  refine (KR.out w6 (HT.out.old HB6.out)).mono ?_
  rintro r w7 ⟨rfl, hb7⟩
  have HB7 := Lib.hid (HB6.out.trans (hb7.mono HB6.out.size))
  have HF7 := Lib.hid (HF6.out.old hb7)
  have HK7 := Lib.hid (KK.out w7)
  obtain ⟨W8, hW8⟩ : ∃ W8, W8 = w7.alloc (.cells (vals RB).toArray 36) := ⟨_, rfl⟩
  rw [← hW8] at HK7
  have HW8 := Lib.hid hW8
  clear hb7 HF6 hW8 KR KK
  go_wp2_with (refine wpList_execG (by simp [Region.wanted, yielded]) (build_name (.tmp 22) rfl RB HL.out rfl) ?_; rw [← HW8.out])
  refine HK7.out.mono ?_
  rintro r w9 ⟨rfl, hb9⟩
  have HB9 := Lib.hid (HB7.out.trans (hb9.mono HB7.out.size))
  have HF9 := Lib.hid (HF7.out.old hb9)
  have HT9 := Lib.hid (KT.out w9 _ _ _ HF9.out)
  clear hb9 HF7 HK7 KT
  go_wp2_with fail
  refine HT9.out.mono ?_
  rintro r w10 ⟨rfl, hb10⟩
  have HB10 := Lib.hid (HB9.out.trans (hb10.mono HB9.out.size))
  clear hb10 HT9 HF9
  go_wp2_with fail
  refine (KS.out w10).mono ?_
  rintro r w11 ⟨rfl, hb11⟩
  have HB11 := Lib.hid (HB10.out.trans (hb11.mono HB10.out.size))
  clear hb11 KS
  go_wp2_with fail
  go_ret
  exact ⟨rfl, HB11.out⟩
end Go.Proofs.YtjjkobbajbbgdaaGreatDoor

namespace Go.Proofs.YtjjkobbajbbgdaaGreatDoor
open Go.RowKit

theorem nmsOk_1 (s : List UInt8) (h : s.length = 32) : nmsOk s = true := by
  unfold nmsOk
  rw [decide_eq_true (by omega), Bool.true_and, show s.length / 32 - 1 = 0 by omega]; rfl
theorem rep_get (n j : Nat) : ((List.replicate n (0 : Nat))[j]?).getD 0 = 0 := by
  rw [List.getElem?_replicate]; split <;> rfl
theorem rep_set' (n i : Nat) : (List.replicate n 0).set i 0 = List.replicate n 0 := by
  apply List.ext_getElem?
  intro k
  rw [List.getElem?_set]
  by_cases h : i = k
  · subst h; by_cases hk : i < n <;> simp [List.getElem?_replicate, hk]
  · rw [if_neg h]
def oneT (i m : Nat) : List Nat := (List.replicate 64 0).set i m
theorem oneT_zero (m : Nat) : T1f m = oneT 0 m := rfl
theorem oneT_len (i m : Nat) : (oneT i m).length = 64 := by simp [oneT]
theorem oneT_tab (i m : Nat) (h : m ≤ 1099511627776) : IsTab (oneT i m) := ⟨oneT_len i m, fun p hp => by
  unfold oneT at hp
  rcases List.mem_or_eq_of_mem_set hp with h1 | h1
  · rw [List.eq_of_mem_replicate h1]; exact Nat.zero_le _
  · rw [h1]; exact h⟩
theorem oneT_get (i m j : Nat) (hi : i < 64) : (oneT i m).getD j 0 = if j = i then m else 0 := by
  unfold oneT
  rw [List.getD_eq_getElem?_getD, List.getElem?_set]
  by_cases h : i = j
  · subst h; simp [hi]
  · rw [if_neg h, if_neg (fun e => h e.symm)]
    exact rep_get 64 j
theorem oneT_pw (i m j : Nat) (hi : i < 64) (hj : j < 64) : pw (oneT i m) (j : Int) = if j = i then m else 0 := by
  unfold pw
  rw [if_pos (by omega), Int.toNat_natCast, oneT_get i m j hi]
theorem sig_self (i m : Nat) (hi : i < 64) (hm : 0 < m) : sig (oneT i m) [(i : Int)] = oneT i m := by
  show sg (oneT i m) (List.replicate 64 0) (i : Int) = _
  unfold sg
  rw [oneT_pw i m i hi hi, if_pos rfl, if_pos hm, Int.toNat_natCast]; rfl
theorem sig_other (i m j : Nat) (hi : i < 64) (hj : j < 64) (h : j ≠ i) : sig (oneT i m) [(j : Int)] = List.replicate 64 0 := by
  show sg (oneT i m) (List.replicate 64 0) (j : Int) = _
  unfold sg
  rw [oneT_pw i m j hi hj, if_neg h, if_neg (Nat.lt_irrefl 0)]
theorem tsum_zero : tsum (List.replicate 64 0) = 0 := by decide
theorem foldl_zero (n a : Nat) : (List.replicate n 0).foldl (· + ·) a = a := by
  induction n generalizing a with
  | zero => rfl
  | succ n ih => rw [List.replicate_succ, List.foldl_cons]; exact ih _
theorem foldl_set (n i m a : Nat) (h : i < n) : ((List.replicate n 0).set i m).foldl (· + ·) a = a + m := by
  induction n generalizing i a with
  | zero => omega
  | succ n ih =>
    rw [List.replicate_succ]
    cases i with
    | zero => rw [List.set_cons_zero, List.foldl_cons, foldl_zero]
    | succ i => rw [List.set_cons_succ, List.foldl_cons]; exact ih i _ (by omega)
theorem tsum_one (i m : Nat) (hi : i < 64) : tsum (oneT i m) = m := by
  unfold tsum oneT
  rw [foldl_set 64 i m 0 hi, Nat.zero_add]
theorem rep_set (i : Nat) : (List.replicate 64 0).set i 0 = List.replicate 64 0 := rep_set' 64 i
/-- By turns one miner gives all power to the next one. -/
def chg2 (i p : Nat) : List (Int × Int) := [((i : Int), 0), ((i : Int) + 1, (p : Int))]
theorem chg2_good (i p : Nat) (hi : i < 63) (hp : p ≤ 1099511627776) : good 0 (-1) (chg2 i p) = true := by
  simp only [chg2, good]
  simp
  omega
theorem chg2_wth (i m p : Nat) : wth (oneT i m) (natE (chg2 i p)) = oneT (i + 1) p := by
  have e : natE (chg2 i p) = [(i, 0), (i + 1, p)] := by
    unfold natE chg2
    simp only [List.map_cons, List.map_nil, Int.toNat_natCast]
    rw [show ((i : Int) + 1).toNat = i + 1 by omega]; rfl
  rw [e]
  show ((oneT i m).set i 0).set (i + 1) p = _
  unfold oneT
  rw [List.set_set, rep_set]
theorem oneT_ne (i p : Nat) (hi : i < 64) (hp : 0 < p) : oneT i p ≠ List.replicate 64 0 := by
  intro e
  have h := oneT_get i p i hi
  rw [e, if_pos rfl, List.getD_eq_getElem?_getD, rep_get 64 i] at h
  omega
theorem chg2_e (i m p : Nat) (hi : i < 63) (h0 : 0 < p) (hp : p ≤ 1099511627776) : chgE (oneT i m) (chg2 i p) = 0 := by
  unfold chgE
  rw [if_neg (by simp [chg2]), if_neg (by rw [chg2_good i p hi hp]; decide), if_neg (by rw [chg2_wth]; exact oneT_ne (i + 1) p (by omega) h0)]
theorem chg2_t (i m p : Nat) (hi : i < 63) (h0 : 0 < p) (hp : p ≤ 1099511627776) : chgT (oneT i m) (chg2 i p) = oneT (i + 1) p := by
  unfold chgT
  rw [if_pos (chg2_e i m p hi h0 hp), chg2_wth]
/-- The i-th certificate, signed by j. -/
def crt (i p : Nat) (j : Nat) (b k : List UInt8) : Ct := ⟨(i : Int), b, k, [(j : Int)], chg2 i p⟩
theorem crt_ok (i p j : Nat) (b k : List UInt8) (hi : i < 63) (hj : j < 64) (hp : p ≤ 1099511627776) (hb : b.length = 32) (hk : k.length = 32) : CtOk (crt i p j b k) :=
  ⟨by simp [crt], by simp [crt, chg2], by simp [crt], by simp [crt]; omega, nmsOk_1 b hb, nmsOk_1 k hk, chg2_good i p hi hp, by simp [crt, rise]; omega⟩
end Go.Proofs.YtjjkobbajbbgdaaGreatDoor
