/- Texts 3: what the laws lean on. -/
import Derived.Test.YtpdhmjmklmoknaaDoorZ2
import Derived.Laws.ResultCell
import Derived.Test.YtpdhmjmklmoknaaDoorZ1
import Derived.OwnWalkIn
import Derived.TacticsInMore
import Derived.RangeFuncCalls
import Derived.Deep.AppendLies
import Derived.Great.BuildSlice
set_option linter.unusedVariables false
set_option linter.unusedSimpArgs false
namespace Go.Proofs.YtpdhmjmklmoknaaDoor
open Go.RowKit Go.Shelf
attribute [local go_sem] Oper.semAt_some

/-- What is there behind k pieces. -/
def upN (x : St) (L : List (List UInt8)) : St := { x with names := x.names ++ L }
theorem upN_snoc (x : St) (P : List (List UInt8)) (k : Nat) (h : k < P.length) : upN x (P.take (k + 1)) = { upN x (P.take k) with names := (upN x (P.take k)).names ++ [P.getD k []] } := by
  have e : P.take (k + 1) = P.take k ++ [P[k]] := (List.take_append_getElem h).symm
  have hg : P.getD k [] = P[k] := by simp [List.getD_eq_getElem?_getD, h]
  rw [hg]; unfold upN; rw [e]; simp only [List.map_append, List.map_cons, List.map_nil, ← List.append_assoc]
structure LiIN (B : Nat) (w : World) (g : Nat) (x : St) (na ia : Option Addr) (P : List (List UInt8)) (k : Nat) (na' : Option Addr) (nc' : Nat) (ia' : Option Addr) (ic' : Nat) (W : World) : Prop where
  st : StB B W g (upN x (P.take k)) na' nc' ia' ic'
  n1 : ∀ a, na' = some a → na = some a ∨ w.heap.size + 5 ≤ a.block
  n2 : ∀ a, ia' = some a → ia = some a ∨ w.heap.size + 5 ≤ a.block
  ok : (P.take k).all nameB = true
  fb : Boxed W w.heap.size 36 (.func (.func 46) #[.pointer (some ⟨g, 0, none⟩)] #[])
  rb : Boxed W (w.heap.size + 1) 4 (.bool false)
  m : Mod (FPs g na ia) w W
  sz : w.heap.size + 5 ≤ W.heap.size
def LiN (B : Nat) (w : World) (g : Nat) (x : St) (na ia : Option Addr) (P : List (List UInt8)) (k : Nat) (W : World) : Prop := ∃ na' nc' ia' ic', LiIN B w g x na ia P k na' nc' ia' ic' W
/-- What is left where a piece is none. -/
def LxN (P : List (List UInt8)) (w : World) (g : Nat) (na ia : Option Addr) (c : Code) (_ : Nat) (W : World) : Prop := c = .ret ∧ P.all nameB = false ∧ Mod (FPs g na ia) w W ∧ W.cell? ⟨w.heap.size + 1, 0, none⟩ = some (.bool false) ∧ w.heap.size + 1 < W.heap.size

theorem LiIN.own {B : Nat} {w : World} {g : Nat} {x : St} {na ia : Option Addr} {P : List (List UInt8)} {k : Nat} {na' : Option Addr} {nc' : Nat} {ia' : Option Addr} {ic' : Nat} {W W' : World} (h : LiIN B w g x na ia P k na' nc' ia' ic' W) {S : Nat → Prop} (hm : Mod S W W') (hS : ∀ i, S i → w.heap.size + 2 ≤ i)
    (hg : ¬ S g) (ha : ∀ a, na' = some a → ¬ S a.block) (hb : ∀ a, ia' = some a → ¬ S a.block) : LiIN B w g x na ia P k na' nc' ia' ic' W' :=
  ⟨⟨(hm.block g h.st.lt hg).trans h.st.blk, h.st.rn.kept hm ha, h.st.ri.kept hm hb, h.st.lo, h.st.an, h.st.ai, h.st.ap⟩, h.n1, h.n2, h.ok, (hm.block _ h.fb.lt (fun e => by have := hS _ e; omega)).trans h.fb, (hm.block _ h.rb.lt (fun e => by have := hS _ e; omega)).trans h.rb,
    h.m.trans hm (fun i hi e => by have := hS _ e; omega), Nat.le_trans h.sz hm.size⟩
theorem cells_of_rowN {α : Type} {E : Enc α} {T : TypeId} {w : World} {a : Addr} {c : Nat} {L : List α} (h : Rw E T w (some a) c L) : ∃ cs, w.heap[a.block]? = some (.cells cs T (0, 0)) := by
  rcases h.shape with ⟨e, _⟩ | ⟨g, e, _, _, _, cur, hh, _⟩
  · cases e
  · cases e; exact ⟨_, hh⟩
theorem LiN.own {B : Nat} {w : World} {g : Nat} {x : St} {na ia : Option Addr} {P : List (List UInt8)} (B0 : Nat) (hB0 : w.heap.size + 5 ≤ B0) (hg0 : g < w.heap.size) : OwnFrom B0 (LiN B w g x na ia P) := by
  rintro k W W' row ⟨na', nc', ia', ic', h⟩ hgr hr
  have hm : Mod (fun i => row = some i) W W' := (Mod.refl _ _).grown hgr (fun k e _ => e)
  have nc : ∀ (i : Nat) (o : Obj), W.heap[i]? = some o → o.isCells = true → row ≠ some i := by
    rintro i o ho hc e
    obtain ⟨o2, ho2, hc2⟩ := (hr _ e).2
    rw [ho] at ho2; cases ho2; rw [hc] at hc2; cases hc2
  refine ⟨na', nc', ia', ic', h.own hm (fun i e => by have := (hr i e).1; omega) (fun e => ?_) (fun a e e2 => ?_) (fun a e e2 => ?_)⟩
  · exact nc _ _ h.st.blk rfl e
  · subst e; obtain ⟨cs, hh⟩ := cells_of_rowN h.st.rn; exact nc _ _ hh rfl e2
  · subst e; obtain ⟨cs, hh⟩ := cells_of_rowN h.st.ri; exact nc _ _ hh rfl e2
theorem LiN.set {B : Nat} {w : World} {g : Nat} {x : St} {na ia : Option Addr} {P : List (List UInt8)} (hn : ∀ a, na = some a → a.block < w.heap.size) (hi : ∀ a, ia = some a → a.block < w.heap.size) (hg0 : g < w.heap.size) (k : Nat) (W : World) (v : Value) (h : LiN B w g x na ia P k W) :
    LiN B w g x na ia P k (W.setCell ⟨w.heap.size + 2, 0, none⟩ v) := by
  obtain ⟨na', nc', ia', ic', h⟩ := h
  refine ⟨na', nc', ia', ic', h.own (S := fun i => i = w.heap.size + 2) ((Mod.refl (fun i => i = w.heap.size + 2) W).setCell (p := ⟨w.heap.size + 2, 0, none⟩) (fun _ => rfl) v) (fun i e => by omega) (by omega) (fun a e e2 => ?_) (fun a e e2 => ?_)⟩
  · rcases h.n1 a e with h1 | h1
    · have := hn a h1; omega
    · omega
  · rcases h.n2 a e with h1 | h1
    · have := hi a h1; omega
    · omega

/-- What a take leaves as it is. -/
theorem LiIN.fr {B : Nat} {w : World} {g : Nat} {x : St} {na ia : Option Addr} {P : List (List UInt8)} {k : Nat} {na' : Option Addr} {nc' : Nat} {ia' : Option Addr} {ic' : Nat} {W W2 : World} (h : LiIN B w g x na ia P k na' nc' ia' ic' W) (hm : Mod (FPs g na' ia') W W2)
    (hn : ∀ a, na = some a → a.block < w.heap.size) (hi : ∀ a, ia = some a → a.block < w.heap.size) (hg0 : g < w.heap.size) (B0 : Nat) :
    (∀ i, w.heap.size ≤ i → i < w.heap.size + 5 → W2.heap[i]? = W.heap[i]?) ∧ KeepsFrom B0 W W2 ∧ Mod (FPs g na ia) w W2 := by
  have hout : ∀ i, w.heap.size ≤ i → i < w.heap.size + 5 → ¬ FPs g na' ia' i := by
    rintro i h1 h2 (e | ⟨a, e, rfl⟩ | ⟨a, e, rfl⟩)
    · omega
    · rcases h.n1 a e with h3 | h3
      · have := hn a h3; omega
      · omega
    · rcases h.n2 a e with h3 | h3
      · have := hi a h3; omega
      · omega
  refine ⟨fun i h1 h2 => hm.block i (by have := h.sz; omega) (hout i h1 h2), ⟨hm.size, fun j o hj ho hc => (hm.block j (Array.getElem?_eq_some_iff.1 ho).1 ?_).trans ho⟩, h.m.trans hm ?_⟩
  · rintro (rfl | ⟨a, e, rfl⟩ | ⟨a, e, rfl⟩)
    · rw [h.st.blk] at ho; cases ho; cases hc
    · subst e; obtain ⟨cs, hh⟩ := cells_of_rowN h.st.rn; rw [hh] at ho; cases ho; cases hc
    · subst e; obtain ⟨cs, hh⟩ := cells_of_rowN h.st.ri; rw [hh] at ho; cases ho; cases hc
  · rintro i hi2 (e | ⟨a, e, rfl⟩ | ⟨a, e, rfl⟩)
    · exact .inl e
    · rcases h.n1 a e with h3 | h3
      · exact .inr (.inl ⟨a, h3, rfl⟩)
      · omega
    · rcases h.n2 a e with h3 | h3
      · exact .inr (.inr ⟨a, h3, rfl⟩)
      · omega

set_option maxRecDepth 100000 in
set_option maxHeartbeats 8000000 in
theorem ltakelistN_any (B g : Nat) (x : St) (na : Option Addr) (nc : Nat) (ia : Option Addr) (ic : Nat) (f : List UInt8) (w : World) (hS : StB B w g x na nc ia ic) (hB : B ≤ w.heap.size) (hf : f.length ≤ 100000000) (hk : x.names.length ≤ 100000000) :
    Calls Tryd.prog 47 #[.string ⟨f.toArray⟩, .func (.func 46) #[.pointer (some ⟨g, 0, none⟩)] #[]] w (TkP B w g na ia (if f = [45] then some x else if (spl 44 f).all nameB then some (upN x (spl 44 f)) else none)) := by
  have hmf : ∀ (fn : Fn) (first cap : Array Value) (w : World), (Instr.makeFunc fn first cap).run Tryd.prog w = .ok (.func fn first cap) w := fun _ _ _ _ => rfl
  obtain ⟨S, hSS⟩ : ∃ S, S = ByteArray.mk f.toArray := ⟨_, rfl⟩
  have hL : S.toList = f := by rw [hSS, ByteArray.toList_mk]
  rw [← hSS]
  have HS := Lib.hid hS
  have hg0 : g < w.heap.size := hS.lt
  have hna : Hid (∀ a, na = some a → a.block < w.heap.size) := Lib.hid (fun a e => by subst e; exact hS.rn.lt)
  have hia : Hid (∀ a, ia = some a → a.block < w.heap.size) := Lib.hid (fun a e => by subst e; exact hS.ri.lt)
  obtain ⟨W0, hW0⟩ : ∃ W0, W0 = (w.alloc (.cells #[.func (.func 46) #[.pointer (some ⟨g, 0, none⟩)] #[]] 36)).alloc (.cells #[.bool false] 4) := ⟨_, rfl⟩
  have hB0 : Below w.heap.size w W0 := by rw [hW0]; exact ((Below.refl _ _).alloc (Nat.le_refl _) _).alloc (by simp) _
  have hs0 : W0.heap.size = w.heap.size + 2 := by rw [hW0]; simp
  have hfb : Boxed W0 w.heap.size 36 (.func (.func 46) #[.pointer (some ⟨g, 0, none⟩)] #[]) := by rw [hW0]; exact (Boxed.new w _ _).alloc _
  have hrb : Boxed W0 (w.heap.size + 1) 4 (.bool false) := by
    have := Boxed.new (w.alloc (.cells #[.func (.func 46) #[.pointer (some ⟨g, 0, none⟩)] #[]] 36)) 4 (.bool false)
    rw [hW0]; rwa [World.size_alloc] at this
  have HW0 := Lib.hid hW0
  clear hS hW0
  by_cases h45 : f = [45]
  · have e0 : (S.toList == [45]) = true := by rw [hL, h45]; rfl
    rw [if_pos h45]
    have c1 := hrb.cell
    have f1 := hrb.frozen
    have d1 := (hrb.set (.bool true)).cell
    have HF : Hid (Mod (FPs g na ia) w (W0.setCell ⟨w.heap.size + 1, 0, none⟩ (.bool true)) ∧ StB B (W0.setCell ⟨w.heap.size + 1, 0, none⟩ (.bool true)) g x na nc ia ic) :=
      Lib.hid (by
        have hb := hB0.setCell (p := ⟨w.heap.size + 1, 0, none⟩) (by show w.heap.size ≤ w.heap.size + 1; omega) (.bool true)
        exact ⟨mod_none hb, HS.out.old hb⟩)
    clear hL hSS hfb hrb hB0 hs0
    go_enter Tryd.func47, Tryd.ntmps47
    go_upto_region 1 with fail
    rw [← HW0.out]
    go_wp2_with fail
    refine bodyPost_ret (v := .bool true) (by simp [results, Tryd.results47, go_sem, d1]) rfl ⟨rfl, HF.out.1, fun y hy => by cases hy; exact ⟨_, _, _, _, HF.out.2, Nw.refl _ _, Nw.refl _ _⟩⟩
  · have e0 : (S.toList == [45]) = false := by rw [hL, beq_eq_false_iff_ne]; exact h45
    rw [if_neg h45]
    have HSQ := Lib.hid (fun w => splitseq_any f 44 w)
    have HSS := Lib.hid hSS
    rw [← hSS] at HSQ
    obtain ⟨P, hP⟩ : ∃ P, P = spl 44 f := ⟨_, rfl⟩
    have hPl : P.length ≤ 100000001 := by rw [hP]; have := spl_len_le 44 f; omega
    have hPs : ∀ p ∈ P, p.length ≤ 1000000000 := by rw [hP]; intro p hp; have := spl_sizes 44 f p hp; omega
    have hPn : 1 ≤ P.length := by rw [hP]; exact List.length_pos_iff.2 (splA_ne _ _ _)
    rw [← hP]
    have HPP := Lib.hid hP
    have HPS := Lib.hid hPs
    obtain ⟨res, hres⟩ : ∃ res, res = (if P.all nameB = true then some (upN x P) else none) := ⟨_, rfl⟩
    rw [← hres]
    have HRES := Lib.hid hres
    have hI0 : LiIN B w g x na ia P 0 na nc ia ic (W0.alloc (.cells #[] 3) |>.alloc (.cells #[] 3) |>.alloc (.cells #[] 3)) → True := fun _ => trivial
    clear hI0 hL hSS h45 hP hPs hres
    refine (callsIn_wide (n := 3)).1 ?_
    refine callsIn_of_wp_marks Tryd.func47 rfl trivial ?_ rfl
    simp only [Tryd.ntmps47, List.size_toArray, List.length_cons, List.length_nil, Nat.reduceAdd, Nat.reduceSub, Array.replicate_succ, Array.replicate_zero, List.push_toArray, List.append_toArray, List.nil_append, List.cons_append]
    gi_wp2_with (refine ⟨trivial, (callsIn_wide.2 (HSQ.out _)).mono ?_⟩; rintro e W1 ⟨rfl, hq1, hq2, hq3, hq4⟩)
    rw [← HW0.out] at hq1 hq2 hq3 hq4
    simp only [hs0] at hq1 hq2 hq3 hq4
    have hS1 : StB B W1 g x na nc ia ic := (HS.out.old hB0).old (by rw [hs0]; exact hq1)
    have hB1 : Below w.heap.size w W1 := hB0.trans (hq1.mono (by omega))
    have hsz : W1.heap.size = w.heap.size + 5 := by omega
    have hI0 : LiN B w g x na ia P 0 W1 := ⟨na, nc, ia, ic, ⟨by rw [List.take_zero, show upN x [] = x by simp [upN]]; exact hS1, fun a e => .inl e, fun a e => .inl e, rfl, (hq1.block _ (by omega)).trans hfb, (hq1.block _ (by omega)).trans hrb, mod_none hB1, by omega⟩⟩
    have hIown := LiN.own (B := B) (w := w) (g := g) (x := x) (na := na) (ia := ia) (P := P) W1.heap.size (by omega) hg0
    have HQ4 := Lib.hid hq4
    have HQ3 := Lib.hid hq3
    have HSZ := Lib.hid hsz
    clear hq1 hq2 hq3 hq4 hS1 hB1 hfb hrb hB0 hs0 hsz
    refine wpIn_roundsS (F := Fence.wide) rfl (by decide) (gf := 38) (lb := #[.pointer (some ⟨w.heap.size + 1 + 1 + 1, 0, none⟩), .pointer (some ⟨w.heap.size + 1 + 1, 0, none⟩), .pointer (some ⟨w.heap.size + 1 + 1 + 1 + 1, 0, none⟩)]) rfl trivial (enters_of Tryd.func38 (by kernel_rfl) rfl)
      (R := SqR (w.heap.size + 1 + 1 + 1) (w.heap.size + 1 + 1 + 1 + 1) 44) (T := 9) (sb := w.heap.size + 1 + 1) (tl := tlV 44 f) (N := P.length) hPn (by rw [HPP.out]; exact seq_rounds (3 - 1) (by decide) _ _ _ 44 f (by omega) W1) (fun _ => rfl)
      (LiN B w g x na ia P) (LxN P w g na ia) ?hR ?hRs hIown (fun k W v h => LiN.set hna.out hia.out hg0 k W v h) ?hIx hI0 HQ4.out HQ3.out
      (fun k => { tmps := #[.string S, .func (.func 46) #[.pointer (some ⟨g, 0, none⟩)] #[], undef, .pointer (some ⟨w.heap.size, 0, none⟩), .pointer (some ⟨w.heap.size + 1, 0, none⟩), .string ⟨((spl 44 f).getD k []).toArray⟩, .string S, .bool false, .string S,
        .func (.func 38) #[] #[.pointer (some ⟨w.heap.size + 1 + 1 + 1, 0, none⟩), .pointer (some ⟨w.heap.size + 1 + 1, 0, none⟩), .pointer (some ⟨w.heap.size + 1 + 1 + 1 + 1, 0, none⟩)], .string ⟨((spl 44 f).getD k []).toArray⟩, undef, undef, undef, undef], defers := [] }) ?assign ?body ?done ?stop
    case hR =>
      rintro k W W' row ⟨b1, b2⟩ hgr hr
      have hm : Mod (fun i => row = some i) W W' := (Mod.refl _ _).grown hgr (fun k e _ => e)
      have hz := HSZ.out
      exact ⟨(hm.block _ b1.lt (fun e => by have := (hr _ e).1; omega)).trans b1, (hm.block _ b2.lt (fun e => by have := (hr _ e).1; omega)).trans b2⟩
    case hRs => exact fun W v h => ⟨(Below.heap_setCell _ _ _ _ (by show w.heap.size + 1 + 1 + 1 ≠ w.heap.size + 1 + 1; omega)).trans h.1, (Below.heap_setCell _ _ _ _ (by show w.heap.size + 1 + 1 + 1 + 1 ≠ w.heap.size + 1 + 1; omega)).trans h.2⟩
    case hIx =>
      rintro c k W W' row ⟨e1, e2, h1, h2, h3⟩ hgr hr
      have hm : Mod (fun i => row = some i) W W' := (Mod.refl _ _).grown hgr (fun k e _ => e)
      have hz := HSZ.out
      exact ⟨e1, e2, h1.trans hm (fun i hi e => by have := (hr _ e).1; omega), (World.cell?_of_block (hm.block _ h3 (fun e => by have : W1.heap.size ≤ w.heap.size + 1 := (hr _ e).1; omega))).trans h2, Nat.lt_of_lt_of_le h3 hm.size⟩
    case assign =>
      intro l k W K hK
      unfold pcV
      generalize (spl 44 f).getD k [] = p at hK ⊢
      gi_wp2
      exact hK
    case body =>
      rintro l k W ⟨na', nc', ia', ic', h⟩ hr hb hk
      rw [← HPP.out]
      have hup := upN_snoc x P k hk
      have hpk : P.getD k [] = P[k] := by simp [List.getD_eq_getElem?_getD, hk]
      have hPk : (P[k]).length ≤ 1000000000 := HPS.out _ (List.getElem_mem hk)
      rw [hpk] at hup ⊢
      have hgood : (P.take (k + 1)).all nameB = nameB P[k] := by
        rw [(List.take_append_getElem hk).symm, List.all_append, h.ok]; simp
      have hall : nameB P[k] = false → P.all nameB = false := by
        intro h2
        rw [← Bool.not_eq_true, List.all_eq_true]
        intro hh
        have := hh _ (List.getElem_mem hk)
        rw [h2] at this; cases this
      have c1 := h.fb.cell
      have c2 := h.rb.cell
      have hlen : (upN x (P.take k)).names.length ≤ 1000000000 := by simp [upN]; omega
      have HT := Lib.hid (ltakename_any B g (upN x (P.take k)) na' nc' ia' ic' P[k] W h.st hPk hlen)
      generalize nameB P[k] = b at HT hgood hall
      have HH := Lib.hid h
      have HR := Lib.hid hr
      have HB := Lib.hid hb
      have HUP := Lib.hid hup
      have HGOOD := Lib.hid hgood
      have HALL := Lib.hid hall
      generalize P[k] = p at HT HUP ⊢
      clear h hr hb hup hgood hall hPk hpk hlen hI0 hIown
      have HC : Hid (∀ W2, Mod (FPs g na' ia') W W2 → W2.cell? ⟨w.heap.size + 1, 0, none⟩ = some (.bool false) ∧ W2.frozen? ⟨w.heap.size + 1, 0, none⟩ = false) := Lib.hid (fun W2 hm2 => by
        have hb : Boxed W2 (w.heap.size + 1) 4 (.bool false) := ((HH.out.fr hm2 hna.out hia.out hg0 0).1 _ (by omega) (by omega)).trans HH.out.rb
        exact ⟨hb.cell, hb.frozen⟩)
      cases b with
      | true =>
        clear HC
        gi_wp2_with (refine ⟨trivial, (callsIn_wide.2 HT.out).mono ?_⟩; rintro e W2 ⟨rfl, hm2, hy2⟩)
        obtain ⟨na2, nc2, ia2, ic2, hS2, hn2, hi2⟩ := hy2 _ rfl
        obtain ⟨hbl, hkf, hmm⟩ := HH.out.fr hm2 hna.out hia.out hg0 W1.heap.size
        have hsz2 := HH.out.sz
        refine ⟨hkf, ⟨na2, nc2, ia2, ic2, by rw [HUP.out]; exact hS2, fun a e => ?_, fun a e => ?_, HGOOD.out, (hbl _ (by omega) (by omega)).trans HH.out.fb, (hbl _ (by omega) (by omega)).trans HH.out.rb, hmm, Nat.le_trans HH.out.sz hm2.size⟩,
          ⟨(hbl _ (by omega) (by omega)).trans HR.out.1, (hbl _ (by omega) (by omega)).trans HR.out.2⟩, (hbl _ (by omega) (by omega)).trans HB.out⟩
        · rcases hn2 a e with h | h
          · exact HH.out.n1 a h
          · exact .inr (by omega)
        · rcases hi2 a e with h | h
          · exact HH.out.n2 a h
          · exact .inr (by omega)
      | false =>
        gi_wp2_with (refine ⟨trivial, (callsIn_wide.2 HT.out).mono ?_⟩; rintro e W2 ⟨rfl, hm2, hy2⟩; obtain ⟨c3, f3⟩ := HC.out W2 hm2)
        obtain ⟨hbl, hkf, hmm⟩ := HH.out.fr hm2 hna.out hia.out hg0 W1.heap.size
        have hsz2 := HH.out.sz
        have hrb2 : Boxed W2 (w.heap.size + 1) 4 (.bool false) := (hbl _ (by omega) (by omega)).trans HH.out.rb
        refine ⟨⟨by have := hkf.size; simp [World.setCell]; omega, fun j o hj ho hc => (Below.heap_setCell _ _ _ _ (by have := HSZ.out; show j ≠ w.heap.size + 1; omega)).trans (hkf.same j o hj ho hc)⟩, rfl, HALL.out trivial, hmm.setCell (p := ⟨w.heap.size + 1, 0, none⟩) (fun h => by simp only at h; omega) _, (hrb2.set _).cell, ?_⟩
        have := hrb2.lt; simp [World.setCell]; omega
    case done =>
      rintro D W hD ⟨na', nc', ia', ic', h⟩ hK
      have hst := h.st
      have hok := h.ok
      rw [List.take_length] at hst hok
      have HST := Lib.hid hst
      have HOK := Lib.hid hok
      have HH := Lib.hid h
      have c2 := h.rb.cell
      have f2 := h.rb.frozen
      have HF := Lib.hid (h.rb.set (.bool true)).cell
      clear h hst hok hI0 hIown
      simp only [Exit.inBlock, Exit.then]
      gi_wp2
      have hz := HSZ.out
      have hK2 := (Below.heap_setCell W ⟨w.heap.size + 1, 0, none⟩ (.bool true) D (by show D ≠ w.heap.size + 1; omega)).trans hK
      obtain ⟨V, hV⟩ : ∃ V, V = W.setCell ⟨w.heap.size + 1, 0, none⟩ (.bool true) := ⟨_, rfl⟩
      have hmV : Mod (FPs g na ia) w V := by rw [hV]; exact HH.out.m.setCell (p := ⟨w.heap.size + 1, 0, none⟩) (fun h => by simp only at h; omega) _
      have hLV : LiIN B w g x na ia P P.length na' nc' ia' ic' V → True := fun _ => trivial
      have hsV : StB B V g (upN x P) na' nc' ia' ic' := by
        have hm : Mod (fun i => i = w.heap.size + 1) W V := by rw [hV]; exact (Mod.refl (fun i => i = w.heap.size + 1) W).setCell (p := ⟨w.heap.size + 1, 0, none⟩) (fun _ => rfl) _
        refine ⟨(hm.block g HST.out.lt (by omega)).trans HST.out.blk, HST.out.rn.kept hm (fun a e e2 => ?_), HST.out.ri.kept hm (fun a e e2 => ?_), HST.out.lo, HST.out.an, HST.out.ai, HST.out.ap⟩
        · rcases HH.out.n1 a e with h | h
          · have := hna.out a h; omega
          · omega
        · rcases HH.out.n2 a e with h | h
          · have := hia.out a h; omega
          · omega
      have hcV : V.cell? ⟨w.heap.size + 1, 0, none⟩ = some (.bool true) := by rw [hV]; exact HF.out
      rw [← hV] at hK2 ⊢
      refine ⟨by simp, .inl ⟨_, _, rfl, run_takeDeferred hK2, ?_⟩⟩
      have hmD : Mod (fun i => i = D) V (V.putObj D (.deferred none)) := (Mod.refl _ _).grown (grownBy_putObj' _ D _) (fun k e _ => by cases e; rfl)
      have hcD : (V.putObj D (.deferred none)).cell? ⟨w.heap.size + 1, 0, none⟩ = some (.bool true) := (World.cell?_of_block (World.putObj_heap_other (by show w.heap.size + 1 ≠ D; omega))).trans hcV
      have hDc : ∀ (o : Obj), V.heap[D]? = some o → o.isCells = true → False := by
        intro o ho hc; rw [hK2] at ho; cases ho; cases hc
      refine ⟨.bool true, by simp [results, Tryd.results47, go_sem, hcD], ?_, hmV.trans hmD (fun i hi e => by omega), fun y hy => ?_⟩
      · rw [HRES.out, if_pos HOK.out]; rfl
      · rw [HRES.out, if_pos HOK.out] at hy; cases hy
        refine ⟨na', nc', ia', ic', ⟨(hmD.block g hsV.lt (fun e => by subst e; exact hDc _ hsV.blk rfl)).trans hsV.blk, hsV.rn.kept hmD (fun a e e2 => ?_), hsV.ri.kept hmD (fun a e e2 => ?_), hsV.lo, hsV.an, hsV.ai, hsV.ap⟩, fun a e => ?_, fun a e => ?_⟩
        · subst e; obtain ⟨cs, hh⟩ := cells_of_rowN hsV.rn; rw [e2] at hh; exact hDc _ hh rfl
        · subst e; obtain ⟨cs, hh⟩ := cells_of_rowN hsV.ri; rw [e2] at hh; exact hDc _ hh rfl
        · rcases HH.out.n1 a e with h | h
          · exact .inl h
          · exact .inr (by omega)
        · rcases HH.out.n2 a e with h | h
          · exact .inl h
          · exact .inr (by omega)
    case stop =>
      rintro D c k W hD hk ⟨rfl, hall, hm, hc, hlt⟩ hK
      have HALL := Lib.hid hall
      have HM := Lib.hid hm
      clear hall hm hI0 hIown
      gi_wp2
      have hz := HSZ.out
      refine ⟨by simp, .inl ⟨_, _, rfl, run_takeDeferred hK, ?_⟩⟩
      have hmD : Mod (fun i => i = D) W (W.putObj D (.deferred none)) := (Mod.refl _ _).grown (grownBy_putObj' _ D _) (fun k e _ => by cases e; rfl)
      have hcD : (W.putObj D (.deferred none)).cell? ⟨w.heap.size + 1, 0, none⟩ = some (.bool false) := (World.cell?_of_block (World.putObj_heap_other (by show w.heap.size + 1 ≠ D; omega))).trans hc
      refine ⟨.bool false, by simp [results, Tryd.results47, go_sem, hcD], ?_, HM.out.trans hmD (fun i hi e => by omega), fun y hy => ?_⟩
      · rw [HRES.out, HALL.out]; rfl
      · rw [HRES.out, HALL.out] at hy; cases hy

/-- What is there behind k pieces. -/
def upM (x : St) (L : List (List UInt8)) : St := { x with nums := x.nums ++ L.map numD }
theorem upM_snoc (x : St) (P : List (List UInt8)) (k : Nat) (h : k < P.length) : upM x (P.take (k + 1)) = { upM x (P.take k) with nums := (upM x (P.take k)).nums ++ [numD (P.getD k [])] } := by
  have e : P.take (k + 1) = P.take k ++ [P[k]] := (List.take_append_getElem h).symm
  have hg : P.getD k [] = P[k] := by simp [List.getD_eq_getElem?_getD, h]
  rw [hg]; unfold upM; rw [e]; simp only [List.map_append, List.map_cons, List.map_nil, ← List.append_assoc]
structure LiIM (B : Nat) (w : World) (g : Nat) (x : St) (na ia : Option Addr) (P : List (List UInt8)) (k : Nat) (na' : Option Addr) (nc' : Nat) (ia' : Option Addr) (ic' : Nat) (W : World) : Prop where
  st : StB B W g (upM x (P.take k)) na' nc' ia' ic'
  n1 : ∀ a, na' = some a → na = some a ∨ w.heap.size + 5 ≤ a.block
  n2 : ∀ a, ia' = some a → ia = some a ∨ w.heap.size + 5 ≤ a.block
  ok : (P.take k).all numOk = true
  fb : Boxed W w.heap.size 36 (.func (.func 45) #[.pointer (some ⟨g, 0, none⟩)] #[])
  rb : Boxed W (w.heap.size + 1) 4 (.bool false)
  m : Mod (FPs g na ia) w W
  sz : w.heap.size + 5 ≤ W.heap.size
def LiM (B : Nat) (w : World) (g : Nat) (x : St) (na ia : Option Addr) (P : List (List UInt8)) (k : Nat) (W : World) : Prop := ∃ na' nc' ia' ic', LiIM B w g x na ia P k na' nc' ia' ic' W
/-- What is left where a piece is none. -/
def LxM (P : List (List UInt8)) (w : World) (g : Nat) (na ia : Option Addr) (c : Code) (_ : Nat) (W : World) : Prop := c = .ret ∧ P.all numOk = false ∧ Mod (FPs g na ia) w W ∧ W.cell? ⟨w.heap.size + 1, 0, none⟩ = some (.bool false) ∧ w.heap.size + 1 < W.heap.size

theorem LiIM.own {B : Nat} {w : World} {g : Nat} {x : St} {na ia : Option Addr} {P : List (List UInt8)} {k : Nat} {na' : Option Addr} {nc' : Nat} {ia' : Option Addr} {ic' : Nat} {W W' : World} (h : LiIM B w g x na ia P k na' nc' ia' ic' W) {S : Nat → Prop} (hm : Mod S W W') (hS : ∀ i, S i → w.heap.size + 2 ≤ i)
    (hg : ¬ S g) (ha : ∀ a, na' = some a → ¬ S a.block) (hb : ∀ a, ia' = some a → ¬ S a.block) : LiIM B w g x na ia P k na' nc' ia' ic' W' :=
  ⟨⟨(hm.block g h.st.lt hg).trans h.st.blk, h.st.rn.kept hm ha, h.st.ri.kept hm hb, h.st.lo, h.st.an, h.st.ai, h.st.ap⟩, h.n1, h.n2, h.ok, (hm.block _ h.fb.lt (fun e => by have := hS _ e; omega)).trans h.fb, (hm.block _ h.rb.lt (fun e => by have := hS _ e; omega)).trans h.rb,
    h.m.trans hm (fun i hi e => by have := hS _ e; omega), Nat.le_trans h.sz hm.size⟩
theorem cells_of_rowM {α : Type} {E : Enc α} {T : TypeId} {w : World} {a : Addr} {c : Nat} {L : List α} (h : Rw E T w (some a) c L) : ∃ cs, w.heap[a.block]? = some (.cells cs T (0, 0)) := by
  rcases h.shape with ⟨e, _⟩ | ⟨g, e, _, _, _, cur, hh, _⟩
  · cases e
  · cases e; exact ⟨_, hh⟩
theorem LiM.own {B : Nat} {w : World} {g : Nat} {x : St} {na ia : Option Addr} {P : List (List UInt8)} (B0 : Nat) (hB0 : w.heap.size + 5 ≤ B0) (hg0 : g < w.heap.size) : OwnFrom B0 (LiM B w g x na ia P) := by
  rintro k W W' row ⟨na', nc', ia', ic', h⟩ hgr hr
  have hm : Mod (fun i => row = some i) W W' := (Mod.refl _ _).grown hgr (fun k e _ => e)
  have nc : ∀ (i : Nat) (o : Obj), W.heap[i]? = some o → o.isCells = true → row ≠ some i := by
    rintro i o ho hc e
    obtain ⟨o2, ho2, hc2⟩ := (hr _ e).2
    rw [ho] at ho2; cases ho2; rw [hc] at hc2; cases hc2
  refine ⟨na', nc', ia', ic', h.own hm (fun i e => by have := (hr i e).1; omega) (fun e => ?_) (fun a e e2 => ?_) (fun a e e2 => ?_)⟩
  · exact nc _ _ h.st.blk rfl e
  · subst e; obtain ⟨cs, hh⟩ := cells_of_rowM h.st.rn; exact nc _ _ hh rfl e2
  · subst e; obtain ⟨cs, hh⟩ := cells_of_rowM h.st.ri; exact nc _ _ hh rfl e2
theorem LiM.set {B : Nat} {w : World} {g : Nat} {x : St} {na ia : Option Addr} {P : List (List UInt8)} (hn : ∀ a, na = some a → a.block < w.heap.size) (hi : ∀ a, ia = some a → a.block < w.heap.size) (hg0 : g < w.heap.size) (k : Nat) (W : World) (v : Value) (h : LiM B w g x na ia P k W) :
    LiM B w g x na ia P k (W.setCell ⟨w.heap.size + 2, 0, none⟩ v) := by
  obtain ⟨na', nc', ia', ic', h⟩ := h
  refine ⟨na', nc', ia', ic', h.own (S := fun i => i = w.heap.size + 2) ((Mod.refl (fun i => i = w.heap.size + 2) W).setCell (p := ⟨w.heap.size + 2, 0, none⟩) (fun _ => rfl) v) (fun i e => by omega) (by omega) (fun a e e2 => ?_) (fun a e e2 => ?_)⟩
  · rcases h.n1 a e with h1 | h1
    · have := hn a h1; omega
    · omega
  · rcases h.n2 a e with h1 | h1
    · have := hi a h1; omega
    · omega

/-- What a take leaves as it is. -/
theorem LiIM.fr {B : Nat} {w : World} {g : Nat} {x : St} {na ia : Option Addr} {P : List (List UInt8)} {k : Nat} {na' : Option Addr} {nc' : Nat} {ia' : Option Addr} {ic' : Nat} {W W2 : World} (h : LiIM B w g x na ia P k na' nc' ia' ic' W) (hm : Mod (FPs g na' ia') W W2)
    (hn : ∀ a, na = some a → a.block < w.heap.size) (hi : ∀ a, ia = some a → a.block < w.heap.size) (hg0 : g < w.heap.size) (B0 : Nat) :
    (∀ i, w.heap.size ≤ i → i < w.heap.size + 5 → W2.heap[i]? = W.heap[i]?) ∧ KeepsFrom B0 W W2 ∧ Mod (FPs g na ia) w W2 := by
  have hout : ∀ i, w.heap.size ≤ i → i < w.heap.size + 5 → ¬ FPs g na' ia' i := by
    rintro i h1 h2 (e | ⟨a, e, rfl⟩ | ⟨a, e, rfl⟩)
    · omega
    · rcases h.n1 a e with h3 | h3
      · have := hn a h3; omega
      · omega
    · rcases h.n2 a e with h3 | h3
      · have := hi a h3; omega
      · omega
  refine ⟨fun i h1 h2 => hm.block i (by have := h.sz; omega) (hout i h1 h2), ⟨hm.size, fun j o hj ho hc => (hm.block j (Array.getElem?_eq_some_iff.1 ho).1 ?_).trans ho⟩, h.m.trans hm ?_⟩
  · rintro (rfl | ⟨a, e, rfl⟩ | ⟨a, e, rfl⟩)
    · rw [h.st.blk] at ho; cases ho; cases hc
    · subst e; obtain ⟨cs, hh⟩ := cells_of_rowM h.st.rn; rw [hh] at ho; cases ho; cases hc
    · subst e; obtain ⟨cs, hh⟩ := cells_of_rowM h.st.ri; rw [hh] at ho; cases ho; cases hc
  · rintro i hi2 (e | ⟨a, e, rfl⟩ | ⟨a, e, rfl⟩)
    · exact .inl e
    · rcases h.n1 a e with h3 | h3
      · exact .inr (.inl ⟨a, h3, rfl⟩)
      · omega
    · rcases h.n2 a e with h3 | h3
      · exact .inr (.inr ⟨a, h3, rfl⟩)
      · omega

set_option maxRecDepth 100000 in
set_option maxHeartbeats 8000000 in
theorem ltakelistM_any (B g : Nat) (x : St) (na : Option Addr) (nc : Nat) (ia : Option Addr) (ic : Nat) (f : List UInt8) (w : World) (hS : StB B w g x na nc ia ic) (hB : B ≤ w.heap.size) (hf : f.length ≤ 100000000) (hk : x.nums.length ≤ 100000000) :
    Calls Tryd.prog 47 #[.string ⟨f.toArray⟩, .func (.func 45) #[.pointer (some ⟨g, 0, none⟩)] #[]] w (TkP B w g na ia (if f = [45] then some x else if (spl 44 f).all numOk then some (upM x (spl 44 f)) else none)) := by
  have hmf : ∀ (fn : Fn) (first cap : Array Value) (w : World), (Instr.makeFunc fn first cap).run Tryd.prog w = .ok (.func fn first cap) w := fun _ _ _ _ => rfl
  obtain ⟨S, hSS⟩ : ∃ S, S = ByteArray.mk f.toArray := ⟨_, rfl⟩
  have hL : S.toList = f := by rw [hSS, ByteArray.toList_mk]
  rw [← hSS]
  have HS := Lib.hid hS
  have hg0 : g < w.heap.size := hS.lt
  have hna : Hid (∀ a, na = some a → a.block < w.heap.size) := Lib.hid (fun a e => by subst e; exact hS.rn.lt)
  have hia : Hid (∀ a, ia = some a → a.block < w.heap.size) := Lib.hid (fun a e => by subst e; exact hS.ri.lt)
  obtain ⟨W0, hW0⟩ : ∃ W0, W0 = (w.alloc (.cells #[.func (.func 45) #[.pointer (some ⟨g, 0, none⟩)] #[]] 36)).alloc (.cells #[.bool false] 4) := ⟨_, rfl⟩
  have hB0 : Below w.heap.size w W0 := by rw [hW0]; exact ((Below.refl _ _).alloc (Nat.le_refl _) _).alloc (by simp) _
  have hs0 : W0.heap.size = w.heap.size + 2 := by rw [hW0]; simp
  have hfb : Boxed W0 w.heap.size 36 (.func (.func 45) #[.pointer (some ⟨g, 0, none⟩)] #[]) := by rw [hW0]; exact (Boxed.new w _ _).alloc _
  have hrb : Boxed W0 (w.heap.size + 1) 4 (.bool false) := by
    have := Boxed.new (w.alloc (.cells #[.func (.func 45) #[.pointer (some ⟨g, 0, none⟩)] #[]] 36)) 4 (.bool false)
    rw [hW0]; rwa [World.size_alloc] at this
  have HW0 := Lib.hid hW0
  clear hS hW0
  by_cases h45 : f = [45]
  · have e0 : (S.toList == [45]) = true := by rw [hL, h45]; rfl
    rw [if_pos h45]
    have c1 := hrb.cell
    have f1 := hrb.frozen
    have d1 := (hrb.set (.bool true)).cell
    have HF : Hid (Mod (FPs g na ia) w (W0.setCell ⟨w.heap.size + 1, 0, none⟩ (.bool true)) ∧ StB B (W0.setCell ⟨w.heap.size + 1, 0, none⟩ (.bool true)) g x na nc ia ic) :=
      Lib.hid (by
        have hb := hB0.setCell (p := ⟨w.heap.size + 1, 0, none⟩) (by show w.heap.size ≤ w.heap.size + 1; omega) (.bool true)
        exact ⟨mod_none hb, HS.out.old hb⟩)
    clear hL hSS hfb hrb hB0 hs0
    go_enter Tryd.func47, Tryd.ntmps47
    go_upto_region 1 with fail
    rw [← HW0.out]
    go_wp2_with fail
    refine bodyPost_ret (v := .bool true) (by simp [results, Tryd.results47, go_sem, d1]) rfl ⟨rfl, HF.out.1, fun y hy => by cases hy; exact ⟨_, _, _, _, HF.out.2, Nw.refl _ _, Nw.refl _ _⟩⟩
  · have e0 : (S.toList == [45]) = false := by rw [hL, beq_eq_false_iff_ne]; exact h45
    rw [if_neg h45]
    have HSQ := Lib.hid (fun w => splitseq_any f 44 w)
    have HSS := Lib.hid hSS
    rw [← hSS] at HSQ
    obtain ⟨P, hP⟩ : ∃ P, P = spl 44 f := ⟨_, rfl⟩
    have hPl : P.length ≤ 100000001 := by rw [hP]; have := spl_len_le 44 f; omega
    have hPs : ∀ p ∈ P, p.length ≤ 1000000000 := by rw [hP]; intro p hp; have := spl_sizes 44 f p hp; omega
    have hPn : 1 ≤ P.length := by rw [hP]; exact List.length_pos_iff.2 (splA_ne _ _ _)
    rw [← hP]
    have HPP := Lib.hid hP
    have HPS := Lib.hid hPs
    obtain ⟨res, hres⟩ : ∃ res, res = (if P.all numOk = true then some (upM x P) else none) := ⟨_, rfl⟩
    rw [← hres]
    have HRES := Lib.hid hres
    have hI0 : LiIM B w g x na ia P 0 na nc ia ic (W0.alloc (.cells #[] 3) |>.alloc (.cells #[] 3) |>.alloc (.cells #[] 3)) → True := fun _ => trivial
    clear hI0 hL hSS h45 hP hPs hres
    refine (callsIn_wide (n := 3)).1 ?_
    refine callsIn_of_wp_marks Tryd.func47 rfl trivial ?_ rfl
    simp only [Tryd.ntmps47, List.size_toArray, List.length_cons, List.length_nil, Nat.reduceAdd, Nat.reduceSub, Array.replicate_succ, Array.replicate_zero, List.push_toArray, List.append_toArray, List.nil_append, List.cons_append]
    gi_wp2_with (refine ⟨trivial, (callsIn_wide.2 (HSQ.out _)).mono ?_⟩; rintro e W1 ⟨rfl, hq1, hq2, hq3, hq4⟩)
    rw [← HW0.out] at hq1 hq2 hq3 hq4
    simp only [hs0] at hq1 hq2 hq3 hq4
    have hS1 : StB B W1 g x na nc ia ic := (HS.out.old hB0).old (by rw [hs0]; exact hq1)
    have hB1 : Below w.heap.size w W1 := hB0.trans (hq1.mono (by omega))
    have hsz : W1.heap.size = w.heap.size + 5 := by omega
    have hI0 : LiM B w g x na ia P 0 W1 := ⟨na, nc, ia, ic, ⟨by rw [List.take_zero, show upM x [] = x by simp [upM]]; exact hS1, fun a e => .inl e, fun a e => .inl e, rfl, (hq1.block _ (by omega)).trans hfb, (hq1.block _ (by omega)).trans hrb, mod_none hB1, by omega⟩⟩
    have hIown := LiM.own (B := B) (w := w) (g := g) (x := x) (na := na) (ia := ia) (P := P) W1.heap.size (by omega) hg0
    have HQ4 := Lib.hid hq4
    have HQ3 := Lib.hid hq3
    have HSZ := Lib.hid hsz
    clear hq1 hq2 hq3 hq4 hS1 hB1 hfb hrb hB0 hs0 hsz
    refine wpIn_roundsS (F := Fence.wide) rfl (by decide) (gf := 38) (lb := #[.pointer (some ⟨w.heap.size + 1 + 1 + 1, 0, none⟩), .pointer (some ⟨w.heap.size + 1 + 1, 0, none⟩), .pointer (some ⟨w.heap.size + 1 + 1 + 1 + 1, 0, none⟩)]) rfl trivial (enters_of Tryd.func38 (by kernel_rfl) rfl)
      (R := SqR (w.heap.size + 1 + 1 + 1) (w.heap.size + 1 + 1 + 1 + 1) 44) (T := 9) (sb := w.heap.size + 1 + 1) (tl := tlV 44 f) (N := P.length) hPn (by rw [HPP.out]; exact seq_rounds (3 - 1) (by decide) _ _ _ 44 f (by omega) W1) (fun _ => rfl)
      (LiM B w g x na ia P) (LxM P w g na ia) ?hR ?hRs hIown (fun k W v h => LiM.set hna.out hia.out hg0 k W v h) ?hIx hI0 HQ4.out HQ3.out
      (fun k => { tmps := #[.string S, .func (.func 45) #[.pointer (some ⟨g, 0, none⟩)] #[], undef, .pointer (some ⟨w.heap.size, 0, none⟩), .pointer (some ⟨w.heap.size + 1, 0, none⟩), .string ⟨((spl 44 f).getD k []).toArray⟩, .string S, .bool false, .string S,
        .func (.func 38) #[] #[.pointer (some ⟨w.heap.size + 1 + 1 + 1, 0, none⟩), .pointer (some ⟨w.heap.size + 1 + 1, 0, none⟩), .pointer (some ⟨w.heap.size + 1 + 1 + 1 + 1, 0, none⟩)], .string ⟨((spl 44 f).getD k []).toArray⟩, undef, undef, undef, undef], defers := [] }) ?assign ?body ?done ?stop
    case hR =>
      rintro k W W' row ⟨b1, b2⟩ hgr hr
      have hm : Mod (fun i => row = some i) W W' := (Mod.refl _ _).grown hgr (fun k e _ => e)
      have hz := HSZ.out
      exact ⟨(hm.block _ b1.lt (fun e => by have := (hr _ e).1; omega)).trans b1, (hm.block _ b2.lt (fun e => by have := (hr _ e).1; omega)).trans b2⟩
    case hRs => exact fun W v h => ⟨(Below.heap_setCell _ _ _ _ (by show w.heap.size + 1 + 1 + 1 ≠ w.heap.size + 1 + 1; omega)).trans h.1, (Below.heap_setCell _ _ _ _ (by show w.heap.size + 1 + 1 + 1 + 1 ≠ w.heap.size + 1 + 1; omega)).trans h.2⟩
    case hIx =>
      rintro c k W W' row ⟨e1, e2, h1, h2, h3⟩ hgr hr
      have hm : Mod (fun i => row = some i) W W' := (Mod.refl _ _).grown hgr (fun k e _ => e)
      have hz := HSZ.out
      exact ⟨e1, e2, h1.trans hm (fun i hi e => by have := (hr _ e).1; omega), (World.cell?_of_block (hm.block _ h3 (fun e => by have : W1.heap.size ≤ w.heap.size + 1 := (hr _ e).1; omega))).trans h2, Nat.lt_of_lt_of_le h3 hm.size⟩
    case assign =>
      intro l k W K hK
      unfold pcV
      generalize (spl 44 f).getD k [] = p at hK ⊢
      gi_wp2
      exact hK
    case body =>
      rintro l k W ⟨na', nc', ia', ic', h⟩ hr hb hk
      rw [← HPP.out]
      have hup := upM_snoc x P k hk
      have hpk : P.getD k [] = P[k] := by simp [List.getD_eq_getElem?_getD, hk]
      have hPk : (P[k]).length ≤ 1000000000 := HPS.out _ (List.getElem_mem hk)
      rw [hpk] at hup ⊢
      have hgood : (P.take (k + 1)).all numOk = numOk P[k] := by
        rw [(List.take_append_getElem hk).symm, List.all_append, h.ok]; simp
      have hall : numOk P[k] = false → P.all numOk = false := by
        intro h2
        rw [← Bool.not_eq_true, List.all_eq_true]
        intro hh
        have := hh _ (List.getElem_mem hk)
        rw [h2] at this; cases this
      have c1 := h.fb.cell
      have c2 := h.rb.cell
      have hlen : (upM x (P.take k)).nums.length ≤ 1000000000 := by simp [upM]; omega
      have HT := Lib.hid (ltakenum_any B g (upM x (P.take k)) na' nc' ia' ic' P[k] W h.st hPk hlen)
      generalize numOk P[k] = b at HT hgood hall
      have HH := Lib.hid h
      have HR := Lib.hid hr
      have HB := Lib.hid hb
      have HUP := Lib.hid hup
      have HGOOD := Lib.hid hgood
      have HALL := Lib.hid hall
      generalize P[k] = p at HT HUP ⊢
      clear h hr hb hup hgood hall hPk hpk hlen hI0 hIown
      have HC : Hid (∀ W2, Mod (FPs g na' ia') W W2 → W2.cell? ⟨w.heap.size + 1, 0, none⟩ = some (.bool false) ∧ W2.frozen? ⟨w.heap.size + 1, 0, none⟩ = false) := Lib.hid (fun W2 hm2 => by
        have hb : Boxed W2 (w.heap.size + 1) 4 (.bool false) := ((HH.out.fr hm2 hna.out hia.out hg0 0).1 _ (by omega) (by omega)).trans HH.out.rb
        exact ⟨hb.cell, hb.frozen⟩)
      cases b with
      | true =>
        clear HC
        gi_wp2_with (refine ⟨trivial, (callsIn_wide.2 HT.out).mono ?_⟩; rintro e W2 ⟨rfl, hm2, hy2⟩)
        obtain ⟨na2, nc2, ia2, ic2, hS2, hn2, hi2⟩ := hy2 _ rfl
        obtain ⟨hbl, hkf, hmm⟩ := HH.out.fr hm2 hna.out hia.out hg0 W1.heap.size
        have hsz2 := HH.out.sz
        refine ⟨hkf, ⟨na2, nc2, ia2, ic2, by rw [HUP.out]; exact hS2, fun a e => ?_, fun a e => ?_, HGOOD.out, (hbl _ (by omega) (by omega)).trans HH.out.fb, (hbl _ (by omega) (by omega)).trans HH.out.rb, hmm, Nat.le_trans HH.out.sz hm2.size⟩,
          ⟨(hbl _ (by omega) (by omega)).trans HR.out.1, (hbl _ (by omega) (by omega)).trans HR.out.2⟩, (hbl _ (by omega) (by omega)).trans HB.out⟩
        · rcases hn2 a e with h | h
          · exact HH.out.n1 a h
          · exact .inr (by omega)
        · rcases hi2 a e with h | h
          · exact HH.out.n2 a h
          · exact .inr (by omega)
      | false =>
        gi_wp2_with (refine ⟨trivial, (callsIn_wide.2 HT.out).mono ?_⟩; rintro e W2 ⟨rfl, hm2, hy2⟩; obtain ⟨c3, f3⟩ := HC.out W2 hm2)
        obtain ⟨hbl, hkf, hmm⟩ := HH.out.fr hm2 hna.out hia.out hg0 W1.heap.size
        have hsz2 := HH.out.sz
        have hrb2 : Boxed W2 (w.heap.size + 1) 4 (.bool false) := (hbl _ (by omega) (by omega)).trans HH.out.rb
        refine ⟨⟨by have := hkf.size; simp [World.setCell]; omega, fun j o hj ho hc => (Below.heap_setCell _ _ _ _ (by have := HSZ.out; show j ≠ w.heap.size + 1; omega)).trans (hkf.same j o hj ho hc)⟩, rfl, HALL.out trivial, hmm.setCell (p := ⟨w.heap.size + 1, 0, none⟩) (fun h => by simp only at h; omega) _, (hrb2.set _).cell, ?_⟩
        have := hrb2.lt; simp [World.setCell]; omega
    case done =>
      rintro D W hD ⟨na', nc', ia', ic', h⟩ hK
      have hst := h.st
      have hok := h.ok
      rw [List.take_length] at hst hok
      have HST := Lib.hid hst
      have HOK := Lib.hid hok
      have HH := Lib.hid h
      have c2 := h.rb.cell
      have f2 := h.rb.frozen
      have HF := Lib.hid (h.rb.set (.bool true)).cell
      clear h hst hok hI0 hIown
      simp only [Exit.inBlock, Exit.then]
      gi_wp2
      have hz := HSZ.out
      have hK2 := (Below.heap_setCell W ⟨w.heap.size + 1, 0, none⟩ (.bool true) D (by show D ≠ w.heap.size + 1; omega)).trans hK
      obtain ⟨V, hV⟩ : ∃ V, V = W.setCell ⟨w.heap.size + 1, 0, none⟩ (.bool true) := ⟨_, rfl⟩
      have hmV : Mod (FPs g na ia) w V := by rw [hV]; exact HH.out.m.setCell (p := ⟨w.heap.size + 1, 0, none⟩) (fun h => by simp only at h; omega) _
      have hLV : LiIM B w g x na ia P P.length na' nc' ia' ic' V → True := fun _ => trivial
      have hsV : StB B V g (upM x P) na' nc' ia' ic' := by
        have hm : Mod (fun i => i = w.heap.size + 1) W V := by rw [hV]; exact (Mod.refl (fun i => i = w.heap.size + 1) W).setCell (p := ⟨w.heap.size + 1, 0, none⟩) (fun _ => rfl) _
        refine ⟨(hm.block g HST.out.lt (by omega)).trans HST.out.blk, HST.out.rn.kept hm (fun a e e2 => ?_), HST.out.ri.kept hm (fun a e e2 => ?_), HST.out.lo, HST.out.an, HST.out.ai, HST.out.ap⟩
        · rcases HH.out.n1 a e with h | h
          · have := hna.out a h; omega
          · omega
        · rcases HH.out.n2 a e with h | h
          · have := hia.out a h; omega
          · omega
      have hcV : V.cell? ⟨w.heap.size + 1, 0, none⟩ = some (.bool true) := by rw [hV]; exact HF.out
      rw [← hV] at hK2 ⊢
      refine ⟨by simp, .inl ⟨_, _, rfl, run_takeDeferred hK2, ?_⟩⟩
      have hmD : Mod (fun i => i = D) V (V.putObj D (.deferred none)) := (Mod.refl _ _).grown (grownBy_putObj' _ D _) (fun k e _ => by cases e; rfl)
      have hcD : (V.putObj D (.deferred none)).cell? ⟨w.heap.size + 1, 0, none⟩ = some (.bool true) := (World.cell?_of_block (World.putObj_heap_other (by show w.heap.size + 1 ≠ D; omega))).trans hcV
      have hDc : ∀ (o : Obj), V.heap[D]? = some o → o.isCells = true → False := by
        intro o ho hc; rw [hK2] at ho; cases ho; cases hc
      refine ⟨.bool true, by simp [results, Tryd.results47, go_sem, hcD], ?_, hmV.trans hmD (fun i hi e => by omega), fun y hy => ?_⟩
      · rw [HRES.out, if_pos HOK.out]; rfl
      · rw [HRES.out, if_pos HOK.out] at hy; cases hy
        refine ⟨na', nc', ia', ic', ⟨(hmD.block g hsV.lt (fun e => by subst e; exact hDc _ hsV.blk rfl)).trans hsV.blk, hsV.rn.kept hmD (fun a e e2 => ?_), hsV.ri.kept hmD (fun a e e2 => ?_), hsV.lo, hsV.an, hsV.ai, hsV.ap⟩, fun a e => ?_, fun a e => ?_⟩
        · subst e; obtain ⟨cs, hh⟩ := cells_of_rowM hsV.rn; rw [e2] at hh; exact hDc _ hh rfl
        · subst e; obtain ⟨cs, hh⟩ := cells_of_rowM hsV.ri; rw [e2] at hh; exact hDc _ hh rfl
        · rcases HH.out.n1 a e with h | h
          · exact .inl h
          · exact .inr (by omega)
        · rcases HH.out.n2 a e with h | h
          · exact .inl h
          · exact .inr (by omega)
    case stop =>
      rintro D c k W hD hk ⟨rfl, hall, hm, hc, hlt⟩ hK
      have HALL := Lib.hid hall
      have HM := Lib.hid hm
      clear hall hm hI0 hIown
      gi_wp2
      have hz := HSZ.out
      refine ⟨by simp, .inl ⟨_, _, rfl, run_takeDeferred hK, ?_⟩⟩
      have hmD : Mod (fun i => i = D) W (W.putObj D (.deferred none)) := (Mod.refl _ _).grown (grownBy_putObj' _ D _) (fun k e _ => by cases e; rfl)
      have hcD : (W.putObj D (.deferred none)).cell? ⟨w.heap.size + 1, 0, none⟩ = some (.bool false) := (World.cell?_of_block (World.putObj_heap_other (by show w.heap.size + 1 ≠ D; omega))).trans hc
      refine ⟨.bool false, by simp [results, Tryd.results47, go_sem, hcD], ?_, HM.out.trans hmD (fun i hi e => by omega), fun y hy => ?_⟩
      · rw [HRES.out, HALL.out]; rfl
      · rw [HRES.out, HALL.out] at hy; cases hy
end Go.Proofs.YtpdhmjmklmoknaaDoor

namespace Go.Proofs.YtpdhmjmklmoknaaDoor
open Go.RowKit Go.Shelf

set_option maxRecDepth 20000 in
set_option maxHeartbeats 4000000 in
theorem lneeds_any (s : List UInt8) (w : World) :
    Calls Tryd.prog 21 #[.string ⟨s.toArray⟩] w fun e w' => e = .returned (.tuple #[.string ⟨((needP s).getD []).toArray⟩, .bool (needP s).isSome]) ∧ w = w' := by
  by_cases hm : s ∈ needTab.map (·.1)
  · have : s = [111, 112, 101, 110] ∨ s = [117, 110, 109, 97, 114, 107] ∨ s = [99, 111, 109, 112, 97, 99, 116] ∨ s = [104, 101, 97, 100] ∨ s = [108, 111, 111, 107] ∨ s = [100, 105, 115, 107] ∨ s = [104, 97, 108, 116] ∨ s = [99, 108, 111, 99, 107] ∨ s = [106, 111, 105, 110] ∨ s = [108, 101, 97, 118, 101] ∨ s = [97, 103, 97, 105, 110] ∨ s = [119, 114, 111, 110, 103] ∨ s = [99, 114, 97, 115, 104] ∨ s = [109, 97, 114, 107] ∨ s = [99, 101, 114, 116] ∨ s = [116, 97, 107, 101] ∨ s = [114, 97, 119] ∨ s = [98, 108, 111, 99, 107] := by
      simpa [needTab] using hm
    clear hm
    rcases this with rfl | rfl | rfl | rfl | rfl | rfl | rfl | rfl | rfl | rfl | rfl | rfl | rfl | rfl | rfl | rfl | rfl | rfl
    all_goals
      go_enter Tryd.func21, Tryd.ntmps21
      go_wp2_with fail
      go_ret2
      exact ⟨rfl, rfl⟩
  · have hn : needP s = none := by
      unfold needP
      have : needTab.find? (fun p => p.1 == s) = none := by
        rw [List.find?_eq_none]
        intro p hp h
        exact hm (List.mem_map.2 ⟨p, hp, eq_of_beq h⟩)
      rw [this]; rfl
    rw [hn]
    obtain ⟨S, hS⟩ : ∃ S, S = ByteArray.mk s.toArray := ⟨_, rfl⟩
    have hL : S.toList = s := by rw [hS, ByteArray.toList_mk]
    have ne : ∀ l ∈ needTab.map (·.1), (S.toList == l) = false := by
      intro l hl
      rw [hL, beq_eq_false_iff_ne]; rintro rfl; exact hm hl
    have n1 := ne [111, 112, 101, 110] (by simp [needTab])
    have n2 := ne [117, 110, 109, 97, 114, 107] (by simp [needTab])
    have n3 := ne [99, 111, 109, 112, 97, 99, 116] (by simp [needTab])
    have n4 := ne [104, 101, 97, 100] (by simp [needTab])
    have n5 := ne [108, 111, 111, 107] (by simp [needTab])
    have n6 := ne [100, 105, 115, 107] (by simp [needTab])
    have n7 := ne [104, 97, 108, 116] (by simp [needTab])
    have n8 := ne [99, 108, 111, 99, 107] (by simp [needTab])
    have n9 := ne [106, 111, 105, 110] (by simp [needTab])
    have n10 := ne [108, 101, 97, 118, 101] (by simp [needTab])
    have n11 := ne [97, 103, 97, 105, 110] (by simp [needTab])
    have n12 := ne [119, 114, 111, 110, 103] (by simp [needTab])
    have n13 := ne [99, 114, 97, 115, 104] (by simp [needTab])
    have n14 := ne [109, 97, 114, 107] (by simp [needTab])
    have n15 := ne [99, 101, 114, 116] (by simp [needTab])
    have n16 := ne [116, 97, 107, 101] (by simp [needTab])
    have n17 := ne [114, 97, 119] (by simp [needTab])
    have n18 := ne [98, 108, 111, 99, 107] (by simp [needTab])
    rw [← hS]
    clear ne hm hL hS hn
    go_enter Tryd.func21, Tryd.ntmps21
    go_wp2_with fail
    go_ret2
    exact ⟨rfl, rfl⟩

theorem upN_eq (x : St) (L : List (List UInt8)) : upN x L = { x with names := x.names ++ L } := rfl
theorem upM_eq (x : St) (L : List (List UInt8)) : upM x L = { x with nums := x.nums ++ L.map numD } := rfl
set_option maxRecDepth 20000 in
set_option maxHeartbeats 4000000 in
theorem ltake_any (B g : Nat) (x : St) (na : Option Addr) (nc : Nat) (ia : Option Addr) (ic : Nat) (n : UInt8) (f : List UInt8) (w : World) (hS : StB B w g x na nc ia ic) (hB : B ≤ w.heap.size) (hf : f.length ≤ 100000000) (hk : x.names.length ≤ 100000000) (hk2 : x.nums.length ≤ 100000000) :
    Calls Tryd.prog 34 #[.pointer (some ⟨g, 0, none⟩), .int .i32 (n.toNat : Int), .string ⟨f.toArray⟩] w (TkP B w g na ia (take1 n f x)) := by
  have hmf : ∀ (fn : Fn) (first cap : Array Value) (w : World), (Instr.makeFunc fn first cap).run Tryd.prog w = .ok (.func fn first cap) w := fun _ _ _ _ => rfl
  have hneq : ∀ k : Nat, k < 256 → n ≠ UInt8.ofNat k → ((n.toNat : Int) == (k : Int)) = false := by
    intro k hk h
    rw [beq_eq_false_iff_ne]; intro e
    exact h (UInt8.toNat_inj.1 (by simp; omega))
  obtain ⟨res, hr⟩ : ∃ res, res = take1 n f x := ⟨_, rfl⟩
  rw [← hr]
  unfold take1 at hr
  by_cases h78 : n = 78
  · subst h78
    rw [if_pos rfl] at hr
    have HC := ltakenum_any B g x na nc ia ic f w hS (by omega) (by omega)
    rw [← hr] at HC
    have HC := Lib.hid HC
    clear hr hS
    go_enter Tryd.func34, Tryd.ntmps34
    go_wp2_with fail
    refine HC.out.mono ?_
    rintro r w' ⟨rfl, h1, h2⟩
    have H1 := Lib.hid h1
    have H2 := Lib.hid h2
    clear h1 h2 HC
    go_wp2_with fail
    go_ret
    exact ⟨rfl, H1.out, H2.out⟩
  · rw [if_neg h78] at hr
    have q78 := hneq 78 (by omega) h78
    by_cases h73 : n = 73
    · subst h73
      rw [if_pos rfl] at hr
      have HC := ltakename_any B g x na nc ia ic f w hS (by omega) (by omega)
      rw [← hr] at HC
      have HC := Lib.hid HC
      clear hr hS
      go_enter Tryd.func34, Tryd.ntmps34
      go_wp2_with fail
      refine HC.out.mono ?_
      rintro r w' ⟨rfl, h1, h2⟩
      have H1 := Lib.hid h1
      have H2 := Lib.hid h2
      clear h1 h2 HC
      go_wp2_with fail
      go_ret
      exact ⟨rfl, H1.out, H2.out⟩
    · rw [if_neg h73] at hr
      have q73 := hneq 73 (by omega) h73
      by_cases h76 : n = 76
      · subst h76
        rw [if_pos rfl] at hr
        have HC := ltakelistN_any B g x na nc ia ic f w hS hB (by omega) (by omega)
        simp only [upN_eq] at HC
        rw [← hr] at HC
        have HC := Lib.hid HC
        clear hr hS
        go_enter Tryd.func34, Tryd.ntmps34
        go_wp2_with fail
        refine HC.out.mono ?_
        rintro r w' ⟨rfl, h1, h2⟩
        have H1 := Lib.hid h1
        have H2 := Lib.hid h2
        clear h1 h2 HC
        go_wp2_with fail
        go_ret
        exact ⟨rfl, H1.out, H2.out⟩
      · rw [if_neg h76] at hr
        have q76 := hneq 76 (by omega) h76
        by_cases h77 : n = 77
        · subst h77
          rw [if_pos rfl] at hr
          have HC := ltakelistM_any B g x na nc ia ic f w hS hB (by omega) (by omega)
          simp only [upM_eq] at HC
          rw [← hr] at HC
          have HC := Lib.hid HC
          clear hr hS
          go_enter Tryd.func34, Tryd.ntmps34
          go_wp2_with fail
          refine HC.out.mono ?_
          rintro r w' ⟨rfl, h1, h2⟩
          have H1 := Lib.hid h1
          have H2 := Lib.hid h2
          clear h1 h2 HC
          go_wp2_with fail
          go_ret
          exact ⟨rfl, H1.out, H2.out⟩
        · rw [if_neg h77] at hr
          have q77 := hneq 77 (by omega) h77
          by_cases h84 : n = 84
          · subst h84
            rw [if_pos rfl] at hr
            have HC := ltaketext_any B g x na nc ia ic f w hS (by omega)
            rw [← hr] at HC
            have HC := Lib.hid HC
            clear hr hS
            go_enter Tryd.func34, Tryd.ntmps34
            go_wp2_with fail
            refine HC.out.mono ?_
            rintro r w' ⟨rfl, h1, h2⟩
            have H1 := Lib.hid h1
            have H2 := Lib.hid h2
            clear h1 h2 HC
            go_wp2_with fail
            go_ret
            exact ⟨rfl, H1.out, H2.out⟩
          · rw [if_neg h84] at hr
            have q84 := hneq 84 (by omega) h84
            have HC := ltakebytes_any B g x na nc ia ic f w hS (by omega)
            rw [← hr] at HC
            generalize n.toNat = z at *
            have HC := Lib.hid HC
            clear hr hS
            go_enter Tryd.func34, Tryd.ntmps34
            go_wp2_with fail
            refine HC.out.mono ?_
            rintro r w' ⟨rfl, h1, h2⟩
            have H1 := Lib.hid h1
            have H2 := Lib.hid h2
            clear h1 h2 HC
            go_wp2_with fail
            go_ret
            exact ⟨rfl, H1.out, H2.out⟩
end Go.Proofs.YtpdhmjmklmoknaaDoor

namespace Go.Proofs.YtpdhmjmklmoknaaDoor
open Go.RowKit Go.Shelf

theorem results_cell_slotL {P : Program} {fn : Func} {p q : Tmp} {ty : TypeId} (h : fn.results = #[.cell p ty, .tmp q]) (tmps : Array Value) (w : World) (g : Nat) (t : TypeId) (cs : Array Value) (fr : Nat × Nat) (d : TypeDesc) (v : Value)
    (hp : tmps.getD p undef = .pointer (some ⟨g, 0, none⟩)) (hq : tmps.getD q undef = v) (hg : w.heap[g]? = some (.cells cs t fr))
    (hu : P.underlying ty = some d) (hd : (match d with | .struct _ | .array _ _ => true | _ => false) = true) (hi : (P.info? ty).map (·.size) = some cs.size) :
    (results fn tmps).run P w = .ok (.tuple #[.agg cs, v]) w := by
  have hp' : tmps[p]?.getD undef = .pointer (some ⟨g, 0, none⟩) := by simpa using hp
  have hq' : tmps[q]?.getD undef = v := by simpa using hq
  simp [results, h, hp', hq', asAddr, run_loadVar_row w g t ty cs fr d hg hu hd hi]
theorem lt_gen {wr : World} {ib : Nat} {s : List UInt8} {B : ByteArray} {pos : Nat} (hB : B = ⟨s.toArray⟩) (hit : wr.heap[ib]? = some (.stringIter B pos)) (hp : pos < s.length) (h : s[pos].toNat < 128) :
    ∃ W1, (∀ ty, (Instr.next (.pointer (some ⟨ib, 0, none⟩)) true ty).run Tryd.prog wr = .ok (.tuple #[.bool true, .int .i64 (pos : Int), .int .i32 (s[pos].toNat : Int)]) W1) ∧ W1.heap[ib]? = some (.stringIter B (pos + 1)) ∧ Mod (· = ib) wr W1 := by
  have hps : pos < B.size := by rw [hB]; exact hp
  have hget : B[pos] = s[pos] := by subst hB; rfl
  refine ⟨wr.iterAt ib B (pos + 1), fun ty => ?_, Lib.iterAt_heap wr ib B pos (pos + 1) hit, mod_iterAt _ _ _ _⟩
  have := Lib.run_next_ascii_at (P := Tryd.prog) wr ib B pos ty hit hps (by rw [hget]; exact h)
  rw [hget] at this
  exact this

theorem take_sizes {n : UInt8} {f : List UInt8} {x y : St} (h : take1 n f x = some y) : y.names.length ≤ x.names.length + (f.length + 1) ∧ y.nums.length ≤ x.nums.length + (f.length + 1) := by
  have hl := spl_len_le 44 f
  unfold take1 at h
  split at h
  · split at h <;> cases h; simp <;> omega
  split at h
  · split at h <;> cases h; simp <;> omega
  split at h
  · split at h
    · cases h; simp <;> omega
    · split at h <;> cases h; simp <;> omega
  split at h
  · split at h
    · cases h; simp <;> omega
    · split at h <;> cases h; simp <;> omega
  split at h
  · split at h <;> cases h; simp <;> omega
  cases hh : hexO f with
  | none => rw [hh] at h; cases h
  | some b => rw [hh] at h; cases h; simp <;> omega
theorem takeAll_step {nd : List UInt8} {fs : List (List UInt8)} {k : Nat} {x : St} (h1 : k < nd.length) (h2 : k < fs.length) : takeAll (nd.drop k) (fs.drop k) x = (take1 nd[k] fs[k] x).bind (takeAll (nd.drop (k + 1)) (fs.drop (k + 1))) := by
  rw [List.drop_eq_getElem_cons h1, List.drop_eq_getElem_cons h2, takeAll]
theorem need_ascii {w nd : List UInt8} (h : needP w = some nd) : nd.length ≤ 8 ∧ ∀ c ∈ nd, c.toNat < 128 := by
  have := needP_or h
  have hall : ∀ l ∈ ([[], [78], [78, 78], [77], [73], [76], [76, 77], [72], [73, 78, 78, 84, 78, 78, 78, 76]] : List (List UInt8)), l.length ≤ 8 ∧ ∀ c ∈ l, c.toNat < 128 := by decide +kernel
  exact hall nd this
/-- A step answered. -/
def zSt : St := ⟨[], [], [], []⟩
def StepP (w : World) (res : Option St) (r : Ending) (w' : World) : Prop :=
  Below w.heap.size w w' ∧ ∃ na nc ia ic, r = .returned (.tuple #[.agg (stC (res.getD zSt) na nc ia ic), .bool res.isSome]) ∧ Rw encS 9 w' na nc (res.getD zSt).names ∧ Rw encNt 3 w' ia ic (res.getD zSt).nums ∧ (∀ a, na = some a → w.heap.size ≤ a.block) ∧ (∀ a, ia = some a → w.heap.size ≤ a.block)
theorem stepP_none {w w' : World} (h : Below w.heap.size w w') : StepP w none (.returned (.tuple #[.agg (stC zSt none 0 none 0), .bool false])) w' :=
  ⟨h, none, 0, none, 0, rfl, Rw.empty _ _, Rw.empty _ _, (fun a e => by cases e), (fun a e => by cases e)⟩
theorem ln_size (x : St) (na : Option Addr) (nc : Nat) (ia : Option Addr) (ic : Nat) : (Tryd.prog.info? 35).map (·.size) = some (stC x na nc ia ic).size := by
  show _ = some 4
  kernel_rfl

/-- While a line's fields are taken. -/
structure SoR (w : World) (g sl : Nat) (nd : List UInt8) (fs : List (List UInt8)) (T0 : Option St) (D : ByteArray) (k : Nat) (rk : List UInt8) (x : St) (na : Option Addr) (nc : Nat) (ia : Option Addr) (ic : Nat) (wr : World) : Prop where
  st : StB w.heap.size wr g x na nc ia ic
  it : wr.heap[g + 1]? = some (.stringIter D k)
  rb : wr.heap[w.heap.size]? = some (.cells (stC zSt none 0 none 0) 35 (0, 0))
  n1 : ∀ a, na = some a → g + 2 ≤ a.block
  n2 : ∀ a, ia = some a → g + 2 ≤ a.block
  m : Below w.heap.size w wr
  s1 : x.names.length ≤ k * 1000001
  s2 : x.nums.length ≤ k * 1000001
  eq : T0 = takeAll (nd.drop k) (fs.drop k) x
  rs : k < nd.length → spl 32 rk = fs.drop k
  rl : rk.length ≤ sl
  hg : w.heap.size < g
theorem SoR.quiet {w : World} {g sl : Nat} {nd : List UInt8} {fs : List (List UInt8)} {T0 : Option St} {D : ByteArray} {k : Nat} {rk : List UInt8} {x : St} {na : Option Addr} {nc : Nat} {ia : Option Addr} {ic : Nat} {wr W1 : World} (h : SoR w g sl nd fs T0 D k rk x na nc ia ic wr) (hm : Mod (· = g + 1) wr W1) :
    StB w.heap.size W1 g x na nc ia ic ∧ W1.heap[w.heap.size]? = some (.cells (stC zSt none 0 none 0) 35 (0, 0)) ∧ Below w.heap.size w W1 := by
  have hlt := h.st.lt
  have hg := h.hg
  refine ⟨⟨(hm.block g hlt (by omega)).trans h.st.blk, h.st.rn.kept hm (fun a e e2 => by have := h.n1 a e; omega), h.st.ri.kept hm (fun a e e2 => by have := h.n2 a e; omega), h.st.lo, h.st.an, h.st.ai, h.st.ap⟩, (hm.block _ (by have := h.m.size; omega) (by omega)).trans h.rb, h.m.trans (hm.to_below h.m.size (by intro i hi e; omega))⟩
theorem SoR.next {w : World} {g sl : Nat} {nd : List UInt8} {fs : List (List UInt8)} {T0 : Option St} {D : ByteArray} {k : Nat} {rk rk' : List UInt8} {x y : St} {na : Option Addr} {nc : Nat} {ia : Option Addr} {ic : Nat} {wr W1 W2 : World} (h : SoR w g sl nd fs T0 D k rk x na nc ia ic wr) (hm1 : Mod (· = g + 1) wr W1)
    (hit : W1.heap[g + 1]? = some (.stringIter D (k + 1))) (hm : Mod (FPs g na ia) W1 W2) {na' : Option Addr} {nc' : Nat} {ia' : Option Addr} {ic' : Nat} (hS : StB w.heap.size W2 g y na' nc' ia' ic') (hn : Nw W1 na na') (hi : Nw W1 ia ia')
    (hk : k < nd.length) (hkf : fs.length = nd.length) (hy : take1 nd[k] (fs[k]'(by omega)) x = some y) (hf : (fs[k]'(by omega)).length ≤ 1000000) (hrs : k + 1 < nd.length → spl 32 rk' = fs.drop (k + 1)) (hrl : rk'.length ≤ sl) :
    SoR w g sl nd fs T0 D (k + 1) rk' y na' nc' ia' ic' W2 := by
  obtain ⟨q1, q2, q3⟩ := h.quiet hm1
  have hg := h.hg
  have hlt := q1.lt
  have hlt1 := (Array.getElem?_eq_some_iff.1 hit).1
  have hno : ∀ i, i < g + 2 → i ≠ g → ¬ FPs g na ia i := by
    rintro i h1 h2 (e | ⟨a, e, rfl⟩ | ⟨a, e, rfl⟩)
    · exact h2 e
    · have := h.n1 a e; omega
    · have := h.n2 a e; omega
  obtain ⟨z1, z2⟩ := take_sizes hy
  refine ⟨hS, (hm.block _ hlt1 (hno _ (by omega) (by omega))).trans hit, (hm.block _ (by omega) (hno _ (by omega) (by omega))).trans q2, ?_, ?_, q3.trans (hm.to_below q3.size (by rintro i hi2 e; exact hno i (by omega) (by omega) e)), by have := h.s1; omega, by have := h.s2; omega, ?_, hrs, hrl, hg⟩
  · intro a e
    rcases hn a e with h1 | h1
    · exact h.n1 a h1
    · omega
  · intro a e
    rcases hi a e with h1 | h1
    · exact h.n2 a h1
    · omega
  · rw [h.eq, takeAll_step hk (by omega), hy]; rfl
theorem SoR.after {w : World} {g sl : Nat} {nd : List UInt8} {fs : List (List UInt8)} {T0 : Option St} {D : ByteArray} {k : Nat} {rk : List UInt8} {x : St} {na : Option Addr} {nc : Nat} {ia : Option Addr} {ic : Nat} {wr W1 W2 : World} (h : SoR w g sl nd fs T0 D k rk x na nc ia ic wr) (hm1 : Mod (· = g + 1) wr W1)
    (hm : Mod (FPs g na ia) W1 W2) : W2.heap[w.heap.size]? = some (.cells (stC zSt none 0 none 0) 35 (0, 0)) ∧ Below w.heap.size w W2 := by
  obtain ⟨q1, q2, q3⟩ := h.quiet hm1
  have hg := h.hg
  have hlt := q1.lt
  have hno : ∀ i, i < g + 2 → i ≠ g → ¬ FPs g na ia i := by
    rintro i h1 h2 (e | ⟨a, e, rfl⟩ | ⟨a, e, rfl⟩)
    · exact h2 e
    · have := h.n1 a e; omega
    · have := h.n2 a e; omega
  exact ⟨(hm.block _ (by omega) (hno _ (by omega) (by omega))).trans q2, q3.trans (hm.to_below q3.size (by rintro i hi2 e; exact hno i (by omega) (by omega) e))⟩
theorem zRow {w V : World} (hg : V.heap[w.heap.size]? = some (.cells (stC zSt none 0 none 0) 35 (0, 0))) (hb : Below w.heap.size w V) (cs : Array Value) :
    (V.setRow w.heap.size cs).heap[w.heap.size]? = some (.cells cs 35 (0, 0)) ∧ Below w.heap.size w (V.setRow w.heap.size cs) ∧ Mod (· = w.heap.size) V (V.setRow w.heap.size cs) :=
  ⟨setRow_heap _ _ _ _ _ _ hg, ((mod_none (S := fun _ => False) hb).setRow (g := w.heap.size) cs).drop_new (Nat.le_refl _) |>.to_below (Nat.le_refl _) (fun _ _ h => h), ((Mod.refl (fun _ => False) V).setRow (g := w.heap.size) cs).mono (fun i _ h => h.elim (fun h => h.elim) (fun h => h))⟩
theorem stC_one {x : St} {na : Option Addr} {nc : Nat} {ia : Option Addr} {ic : Nat} : ∀ v ∈ (stC x na nc ia ic).toList, v.oneCell' = true := by
  intro v hv; simp [stC] at hv; rcases hv with rfl | rfl | rfl | rfl <;> rfl
set_option maxRecDepth 20000 in
set_option maxHeartbeats 8000000 in
theorem lstepof_any (s : List UInt8) (w : World) (hl : s.length ≤ 1000000) :
    Calls Tryd.prog 20 #[.string ⟨s.toArray⟩] w (StepP w (stepM s)) := by
  obtain ⟨R, hR⟩ : ∃ R, R = StepP w (stepM s) := ⟨_, rfl⟩
  rw [← hR]
  have hsp := (cutL_spl 32 s)
  have hcl := cutL_len 32 s
  have hlen := spl_len 32 s
  have hne : spl 32 s ≠ [] := splA_ne _ _ _
  obtain ⟨wd0, hwd⟩ : ∃ wd0, wd0 = (spl 32 s).headD [] := ⟨_, rfl⟩
  obtain ⟨fs, hfs⟩ : ∃ fs, fs = (spl 32 s).tail := ⟨_, rfl⟩
  have hst : stepM s = stepW wd0 fs := by rw [hwd, hfs]; rfl
  have hfl : s.count 32 = fs.length := by rw [hfs, List.length_tail, hlen]; omega
  rw [← hwd, ← hfs] at hsp
  have HCUT := Lib.hid (fun w => lncut_any s 32 w (by omega))
  obtain ⟨⟨wd, rest, fnd⟩, hcut⟩ : ∃ p, p = cutL 32 s := ⟨_, rfl⟩
  rw [← hcut] at HCUT hsp hcl
  simp only at HCUT hsp hcl
  obtain ⟨rfl, hrest⟩ := hsp
  have HNEED := Lib.hid (fun w => lneeds_any wd w)
  have HCNT := Lib.hid (fun w => by
    have := Tryd.strings_Count_one ⟨s.toArray⟩ 32 w
    rw [show Lib.countByte (ByteArray.mk s.toArray).data.toList 32 = fs.length from hfl] at this
    exact this)
  obtain ⟨S, hS⟩ : ∃ S, S = ByteArray.mk s.toArray := ⟨_, rfl⟩
  rw [← hS] at HCUT HCNT ⊢
  clear hS hcut hlen hne hwd
  have hz : ∀ w, (zeroValue 35).run Tryd.prog w = .ok (.agg (stC zSt none 0 none 0)) w := fun w => by kernel_rfl
  cases hnd : needP wd with
  | none =>
    rw [hnd] at HNEED
    simp only [Option.getD_none, Option.isSome_none] at HNEED
    have e9 : Hid (R = StepP w none) := Lib.hid (by rw [hR, hst]; unfold stepW; rw [hnd])
    clear hR hst hnd hrest hfs hfl
    go_enter Tryd.func20, Tryd.ntmps20
    go_wp2_with fail
    refine (HCUT.out _).mono ?_
    rintro r w1 ⟨rfl, n1, rfl⟩
    go_wp2_with fail
    refine (HNEED.out _).mono ?_
    rintro r w2 ⟨rfl, rfl⟩
    go_upto_region 4 with fail
    have hgV : ((w.alloc (.cells (stC zSt none 0 none 0) 35)).drewN n1).heap[w.heap.size]? = some (.cells (stC zSt none 0 none 0) 35 (0, 0)) := heap_alloc_new w _
    have hbV : Below w.heap.size w ((w.alloc (.cells (stC zSt none 0 none 0) 35)).drewN n1) := ((Below.refl _ w).alloc (Nat.le_refl _) _).trans ⟨rfl, rfl, rfl, Nat.le_refl _, fun _ _ => rfl⟩
    generalize (w.alloc (.cells (stC zSt none 0 none 0) 35)).drewN n1 = V at hgV hbV ⊢
    have HGV := Lib.hid hgV
    have HBV := Lib.hid hbV
    clear hgV hbV
    go_wp2_with (refine wpList_store_row rfl rfl 35 (.tmp 2) (.tmp 33) rfl w.heap.size rfl 35 _ (stC zSt none 0 none 0) rfl HGV.out rfl (ln_size _ _ _ _ _) stC_one ?_)
    have hgZ : (V.setRow w.heap.size (stC zSt none 0 none 0)).heap[w.heap.size]? = some (.cells (stC zSt none 0 none 0) 35 (0, 0)) := setRow_heap _ _ _ _ _ _ HGV.out
    have hbZ : Below w.heap.size w (V.setRow w.heap.size (stC zSt none 0 none 0)) := ((mod_none (S := fun _ => False) HBV.out).setRow (g := w.heap.size) (stC zSt none 0 none 0)).drop_new (Nat.le_refl _) |>.to_below (Nat.le_refl _) (fun _ _ h => h)
    refine bodyPost_ret (v := .tuple #[.agg (stC zSt none 0 none 0), .bool false]) (results_cell_slotL Tryd.results20 _ _ w.heap.size 35 _ (0, 0) _ _ rfl rfl hgZ Tryd.underlying35 rfl (ln_size _ _ _ _ _)) rfl ?_
    rw [e9.out]; exact stepP_none hbZ
  | some nd =>
    rw [hnd] at HNEED
    simp only [Option.getD_some, Option.isSome_some] at HNEED
    obtain ⟨nl, nasc⟩ := need_ascii hnd
    by_cases hcnt : fs.length = nd.length
    · have hst2 : R = StepP w (takeAll nd fs ⟨wd, [], [], []⟩) := by rw [hR, hst]; unfold stepW; rw [hnd]; simp only [if_pos hcnt]
      have HC := Lib.hid (fun w => lclone_any wd w (by omega))
      obtain ⟨D, hD⟩ : ∃ D, D = ByteArray.mk nd.toArray := ⟨_, rfl⟩
      have hDs : D.size = nd.length := by rw [hD]; rfl
      rw [hcnt, ← hDs] at HCNT
      rw [← hD] at HNEED
      have HST := Lib.hid hst2
      have HD := Lib.hid hD
      have HDS := Lib.hid hDs
      have HFS := Lib.hid hfs
      have HREST := Lib.hid hrest
      have HCN := Lib.hid hcnt
      have HASC := Lib.hid nasc
      clear hR hst hnd hrest hfs hfl hst2 hD hDs hcnt nasc
      go_enter Tryd.func20, Tryd.ntmps20
      go_wp2_with fail
      refine (HCUT.out _).mono ?_
      rintro r w1 ⟨rfl, n1, rfl⟩
      go_wp2_with fail
      refine (HNEED.out _).mono ?_
      rintro r w2 ⟨rfl, rfl⟩
      go_upto_region 3 with fail
      have hgV : ((w.alloc (.cells (stC zSt none 0 none 0) 35)).drewN n1).heap[w.heap.size]? = some (.cells (stC zSt none 0 none 0) 35 (0, 0)) := heap_alloc_new w _
      have hbV : Below w.heap.size w ((w.alloc (.cells (stC zSt none 0 none 0) 35)).drewN n1) := ((Below.refl _ w).alloc (Nat.le_refl _) _).trans ⟨rfl, rfl, rfl, Nat.le_refl _, fun _ _ => rfl⟩
      generalize (w.alloc (.cells (stC zSt none 0 none 0) 35)).drewN n1 = V at hgV hbV ⊢
      have HGV := Lib.hid hgV
      have HBV := Lib.hid hbV
      clear hgV hbV
      go_wp2_with fail
      refine (HCNT.out _).mono ?_
      rintro r w3 ⟨rfl, rfl⟩
      go_upto_region 5 with fail
      go_wp2_with fail
      refine (HC.out _).mono ?_
      rintro r w4 ⟨rfl, hb4⟩
      have HZ := Lib.hid hz
      have HB4 := Lib.hid hb4
      clear hz hb4
      go_wp2_with fail
      obtain ⟨g, hg⟩ : ∃ g, g = w4.heap.size := ⟨_, rfl⟩
      rw [← hg]
      have hgw : w.heap.size < g := by rw [hg]; exact Nat.lt_of_lt_of_le (Array.getElem?_eq_some_iff.1 HGV.out).1 HB4.out.size
      obtain ⟨W5, hW5⟩ : ∃ W5, W5 = (w4.alloc (.cells (stC ⟨wd, [], [], []⟩ none 0 none 0) 35)).iter D 0 := ⟨_, rfl⟩
      have hB5 : Below w4.heap.size w4 W5 := by rw [hW5]; exact ((Below.refl _ _).alloc (Nat.le_refl _) _).alloc (by simp) _
      have h0 : SoR w g s.length nd fs (takeAll nd fs ⟨wd, [], [], []⟩) D 0 rest ⟨wd, [], [], []⟩ none 0 none 0 W5 := by
        refine ⟨⟨?_, Rw.empty _ _, Rw.empty _ _, by omega, (fun a e => by cases e), (fun a e => by cases e), fun a b e => by cases e⟩, ?_, ?_, (fun a e => by cases e), (fun a e => by cases e), ?_, by simp, by simp, rfl, fun hk => ?_, hcl.2, hgw⟩
        · rw [hW5, hg]; exact (Below.heap_alloc _ _ _ (by simp)).trans (heap_alloc_new w4 _)
        · have := World.iter_heap (w4.alloc (.cells (stC ⟨wd, [], [], []⟩ none 0 none 0) 35)) D 0
          rw [World.size_alloc] at this
          rw [hW5, hg]; exact this
        · exact (hB5.block _ (by omega)).trans ((HB4.out.block _ (Array.getElem?_eq_some_iff.1 HGV.out).1).trans HGV.out)
        · exact HBV.out.trans ((HB4.out.trans (hB5.mono HB4.out.size)).mono HBV.out.size)
        · rw [List.drop_zero]; exact HREST.out (by intro e; have := HCN.out; rw [e] at this; simp at this; omega)
      have H0 := Lib.hid h0
      rw [show ((w4.alloc (.cells #[.string ⟨wd.toArray⟩, .slice none 0 0, .slice none 0 0, .string ⟨#[]⟩] 35)).iter D 0) = W5 from hW5.symm]
      have HG := Lib.hid hg
      clear h0 hW5 hB5 hg hgw hcl
      go_loopw [5] (fun s5 wr => ∃ (k : Nat) (rk : List UInt8) (x : St) (na : Option Addr) (nc : Nat) (ia : Option Addr) (ic : Nat), s5 = .string ⟨rk.toArray⟩ ∧ k ≤ nd.length ∧ SoR w g s.length nd fs (takeAll nd fs ⟨wd, [], [], []⟩) D k rk x na nc ia ic wr) (fun _ wr => nd.length - wr.iterPos (g + 1))
      case atStart => exact ⟨0, rest, _, none, 0, none, 0, rfl, by omega, H0.out⟩
      case round =>
        clear H0
        obtain ⟨k, rk, x, na, nc, ia, ic, rfl, hk, hR⟩ := hrel
        have HP0 := Lib.hid (iterPos_of hR.it)
        by_cases hlt : k < nd.length
        · obtain ⟨W1, hnx, hit1, hm1⟩ := lt_gen HD.out hR.it hlt (HASC.out _ (List.getElem_mem hlt))
          have hCN := HCN.out
          have hfk : k < fs.length := by omega
          have hsp := cutL_spl 32 rk
          rw [hR.rs hlt] at hsp
          have hcl := cutL_len 32 rk
          have HCK := Lib.hid (fun w => lncut_any rk 32 w (by have := hR.rl; omega))
          obtain ⟨⟨fld, rk', b⟩, hcut⟩ : ∃ p, p = cutL 32 rk := ⟨_, rfl⟩
          rw [← hcut] at HCK hsp hcl
          simp only at HCK hsp hcl
          obtain ⟨hf1, hf2⟩ := hsp
          have hfld : fld = fs[k] := by rw [hf1, List.drop_eq_getElem_cons hfk]; rfl
          have hrs : k + 1 < nd.length → spl 32 rk' = fs.drop (k + 1) := fun h => by
            have := hf2 (by rw [List.tail_drop]; intro e; have := congrArg List.length e; simp at this; omega)
            rw [this, List.tail_drop]
          have hrl : rk'.length ≤ s.length := Nat.le_trans hcl.2 hR.rl
          have hfl : fld.length ≤ 1000000 := by have := hcl.1; have := hR.rl; omega
          have hq := hR.quiet hm1
          have hs1 := hR.s1
          have hs2 := hR.s2
          have HT := Lib.hid (fun n => ltake_any w.heap.size g x na nc ia ic nd[k] fld (W1.drewN n) (hq.1.old ⟨rfl, rfl, rfl, Nat.le_refl _, fun _ _ => rfl⟩) hq.2.2.size (by omega) (by omega) (by omega))
          obtain ⟨res, hres⟩ : ∃ res, res = take1 nd[k] fld x := ⟨_, rfl⟩
          rw [← hres] at HT
          have HRES := Lib.hid hres
          have HFLD := Lib.hid hfld
          have HRS := Lib.hid hrs
          have HR := Lib.hid hR
          have HM1 := Lib.hid hm1
          have HIT := Lib.hid hit1
          have HQ := Lib.hid hq
          generalize nd[k].toNat = z at HT hnx
          clear hcut hf1 hf2 hfld hrs hq hs1 hs2 hres hR hm1 hit1 hCN hcl
          cases res with
          | none =>
            have e9 : Hid (R = StepP w none) := Lib.hid (by rw [HST.out, HR.out.eq, takeAll_step hlt hfk, ← HFLD.out, ← HRES.out]; rfl)
            have hz := HZ.out
            go_wp2_with fail
            refine (HCK.out _).mono ?_
            rintro r w5 ⟨rfl, n5, rfl⟩
            go_wp2_with fail
            refine (HT.out _).mono ?_
            rintro r W2 ⟨rfl, hm2, _⟩
            obtain ⟨hg2, hb2⟩ := HR.out.after HM1.out ((mod_none (S := FPs g na ia) (w := W1) (w' := W1.drewN n5) ⟨rfl, rfl, rfl, Nat.le_refl _, fun _ _ => rfl⟩).trans hm2 (fun _ _ h => h))
            have HG2 := Lib.hid hg2
            have HZR := Lib.hid (zRow hg2 hb2 (stC zSt none 0 none 0))
            clear hm2 hg2 hb2
            go_wp2_with (refine wpList_store_row rfl rfl 35 (.tmp 2) (.tmp 52) rfl w.heap.size rfl 35 _ (stC zSt none 0 none 0) rfl HG2.out rfl (ln_size _ _ _ _ _) stC_one ?_)
            refine bodyPost_ret (v := .tuple #[.agg (stC zSt none 0 none 0), .bool false]) (results_cell_slotL Tryd.results20 _ _ w.heap.size 35 _ (0, 0) _ _ rfl rfl HZR.out.1 Tryd.underlying35 rfl (ln_size _ _ _ _ _)) rfl ?_
            rw [e9.out]; exact stepP_none HZR.out.2.1
          | some y =>
            go_wp2_with fail
            refine (HCK.out _).mono ?_
            rintro r w5 ⟨rfl, n5, rfl⟩
            go_wp2_with fail
            refine (HT.out _).mono ?_
            rintro r W2 ⟨rfl, hm2, hy2⟩
            obtain ⟨na', nc', ia', ic', hS2, hn2, hi2⟩ := hy2 y rfl
            have HNX := Lib.hid (HR.out.next (W1 := W1.drewN n5) (rk' := rk') (HM1.out.trans (mod_none (w := W1) (w' := W1.drewN n5) ⟨rfl, rfl, rfl, Nat.le_refl _, fun _ _ => rfl⟩) (fun _ _ h => h)) HIT.out hm2 hS2 hn2 hi2 hlt HCN.out (by rw [← HFLD.out]; exact HRES.out.symm) (by rw [← HFLD.out]; exact hfl) HRS.out hrl)
            have HP2 := Lib.hid (iterPos_of HNX.out.it)
            clear hm2 hy2 hS2 hn2 hi2
            go_wp2_with fail
            go_roundw
            case rel => exact ⟨k + 1, rk', y, na', nc', ia', ic', rfl, by omega, HNX.out⟩
            case measure => rw [HP2.out, HP0.out]; omega
        · obtain rfl : k = nd.length := by omega
          have hnx : ∀ ty, (Instr.next (.pointer (some ⟨g + 1, 0, none⟩)) true ty).run Tryd.prog wr = _ := fun ty => Lib.run_next_end_at wr (g + 1) D nd.length ty hR.it (by rw [HDS.out]; omega)
          have e9 : Hid (R = StepP w (some x)) := Lib.hid (by rw [HST.out, hR.eq, List.drop_length]; rfl)
          have HR := Lib.hid hR
          have HGR := Lib.hid hR.st.blk
          have HRB := Lib.hid hR.rb
          have HZR := Lib.hid (zRow hR.rb hR.m (stC x na nc ia ic))
          clear hR
          go_wp2_with (first
            | (refine wpList_load_row rfl 35 (.tmp 9) rfl g rfl 35 _ (0, 0) _ HGR.out Tryd.underlying35 rfl (ln_size _ _ _ _ _) ?_)
            | (refine wpList_store_row rfl rfl 35 (.tmp 2) (.tmp 53) rfl w.heap.size rfl 35 _ (stC x na nc ia ic) rfl HRB.out rfl (ln_size _ _ _ _ _) stC_one ?_))
          refine bodyPost_ret (v := .tuple #[.agg (stC x na nc ia ic), .bool true]) (results_cell_slotL Tryd.results20 _ _ w.heap.size 35 _ (0, 0) _ _ rfl rfl HZR.out.1 Tryd.underlying35 rfl (ln_size _ _ _ _ _)) rfl ?_
          rw [e9.out]
          have hgg := HR.out.hg
          exact ⟨HZR.out.2.1, na, nc, ia, ic, rfl, HR.out.st.rn.kept HZR.out.2.2 (fun a e h => by have := HR.out.n1 a e; omega), HR.out.st.ri.kept HZR.out.2.2 (fun a e h => by have := HR.out.n2 a e; omega), (fun a e => (HR.out.st.an a e).1), fun a e => (HR.out.st.ai a e).1⟩
    · have e9 : Hid (R = StepP w none) := Lib.hid (by rw [hR, hst]; unfold stepW; rw [hnd]; simp only [if_neg hcnt])
      have q1 : ¬ (fs.length : Int) = (nd.length : Int) := by omega
      obtain ⟨D, hD⟩ : ∃ D, D = ByteArray.mk nd.toArray := ⟨_, rfl⟩
      have hDs : D.size = nd.length := by rw [hD]; rfl
      have q2 : ((fs.length : Int) != (D.size : Int)) = true := by rw [bne_iff_ne, hDs]; exact q1
      rw [← hD] at HNEED
      clear hR hst hnd hrest hfs hfl hcnt hDs hD q1
      go_enter Tryd.func20, Tryd.ntmps20
      go_wp2_with fail
      refine (HCUT.out _).mono ?_
      rintro r w1 ⟨rfl, n1, rfl⟩
      go_wp2_with fail
      refine (HNEED.out _).mono ?_
      rintro r w2 ⟨rfl, rfl⟩
      go_wp2_with fail
      refine (HCNT.out _).mono ?_
      rintro r w3 ⟨rfl, rfl⟩
      go_upto_region 4 with fail
      have hgV : ((w.alloc (.cells (stC zSt none 0 none 0) 35)).drewN n1).heap[w.heap.size]? = some (.cells (stC zSt none 0 none 0) 35 (0, 0)) := heap_alloc_new w _
      have hbV : Below w.heap.size w ((w.alloc (.cells (stC zSt none 0 none 0) 35)).drewN n1) := ((Below.refl _ w).alloc (Nat.le_refl _) _).trans ⟨rfl, rfl, rfl, Nat.le_refl _, fun _ _ => rfl⟩
      generalize (w.alloc (.cells (stC zSt none 0 none 0) 35)).drewN n1 = V at hgV hbV ⊢
      have HGV := Lib.hid hgV
      have HBV := Lib.hid hbV
      clear hgV hbV
      go_wp2_with (refine wpList_store_row rfl rfl 35 (.tmp 2) (.tmp 33) rfl w.heap.size rfl 35 _ (stC zSt none 0 none 0) rfl HGV.out rfl (ln_size _ _ _ _ _) stC_one ?_)
      have hgZ : (V.setRow w.heap.size (stC zSt none 0 none 0)).heap[w.heap.size]? = some (.cells (stC zSt none 0 none 0) 35 (0, 0)) := setRow_heap _ _ _ _ _ _ HGV.out
      have hbZ : Below w.heap.size w (V.setRow w.heap.size (stC zSt none 0 none 0)) := ((mod_none (S := fun _ => False) HBV.out).setRow (g := w.heap.size) (stC zSt none 0 none 0)).drop_new (Nat.le_refl _) |>.to_below (Nat.le_refl _) (fun _ _ h => h)
      refine bodyPost_ret (v := .tuple #[.agg (stC zSt none 0 none 0), .bool false]) (results_cell_slotL Tryd.results20 _ _ w.heap.size 35 _ (0, 0) _ _ rfl rfl hgZ Tryd.underlying35 rfl (ln_size _ _ _ _ _)) rfl ?_
      rw [e9.out]; exact stepP_none hbZ
end Go.Proofs.YtpdhmjmklmoknaaDoor

namespace Go.Proofs.YtpdhmjmklmoknaaDoor
open Go.RowKit
attribute [local go_sem] Oper.semAt_some

/-- Elements are appended: inside a fence. -/
theorem wpListIn_pushR {α : Type} {F : Fence} {nF : Nat} {P : Program} {ops : Array Oper} {rest : List Oper} {o : Oper} {a : Act} {Q : Exit → Act → World → Prop} {w : World} (E : Enc α) (hgd : o.guard = none) (s x : Operand) (Ts T : TypeId) (z : Value) (by_ : Nat)
    (ho : o.op = .call { callee := .builtin .append, args := #[s, x], argTypes := #[Ts, Ts] }) (hT : P.underlying Ts = some (.slice T)) (hi : (P.info? T).map (fun i => (i.zero, i.size, i.bytes)) = some (some z, E.k, by_)) (hzs : z.cells.size = E.k) (hby : by_ ≤ 1024)
    (p : Option Addr) (cap n : Nat) (L : List α) (hn : L.length = n) (hs : a.eval s = .slice p n cap) (hS : Rw E T w p cap L) (ao : Option Addr) (m cx : Nat) (Y : List α) (hm : Y.length = m) (h0 : 0 < m) (hx : a.eval x = .slice ao m cx) (hY : Rd E w ao Y) (hl : n + m ≤ 100000000000)
    (h : ∀ q c w', PushR E T w p (L ++ Y) q c w' → wpListIn F nF P ops Q rest (a.put o.dst (.slice q (n + m) c)) w') :
    wpListIn F nF P ops Q (o :: rest) a w := by
  cases hq : P.info? T with
  | none => rw [hq] at hi; cases hi
  | some i =>
    rw [hq] at hi
    simp only [Option.map_some, Option.some.injEq, Prod.mk.injEq] at hi
    obtain ⟨hz, h1, h2⟩ := hi
    subst hn
    subst hm
    have hmul : (L.length + Y.length) * by_ ≤ 140737488355328 := Nat.le_trans (Nat.mul_le_mul hl hby) (by decide)
    obtain ⟨bs, off, rfl, hbs, _⟩ := hY 0 h0
    refine wpListIn_plain hgd fun K hK => ?_
    obtain ⟨g, c, w', hr, hown, hgrow, hat, _⟩ := run_append_lies (P := P) w Ts o.type 0 T i z E.k by_ hT hq hz h1 h2 hzs E.pos _ L.length (E.all L) hS ⟨bs, off, none⟩ Y.length cx (E.all Y) (E.all_len Y) (by
      intro j u hj
      have hjl : j < Y.length * E.k := by
        have := (List.getElem?_eq_some_iff.1 hj).1
        rwa [E.all_len] at this
      have hd : j / E.k < Y.length := by rw [Nat.div_lt_iff_lt_mul E.pos]; exact hjl
      have hr : j % E.k < E.k := Nat.mod_lt _ E.pos
      have he : j / E.k * E.k + j % E.k = j := by rw [Nat.mul_comm]; exact Nat.div_add_mod j E.k
      obtain ⟨bs', off', e, _, c1⟩ := hY (j / E.k) hd
      cases e
      have hadd : (⟨bs, off, none⟩ : Addr).add j = ⟨bs, off + j, none⟩ := by unfold Addr.add; split <;> simp_all
      rw [← he, E.all_get Y _ _ hd hr] at hj
      have := c1 _ _ hj
      rw [Nat.add_assoc, he] at this
      rw [hadd, this]) (E.all_one _) h0 (by unfold maxLen; omega) hmul (Nat.zero_le _) _ rfl
    unfold Oper.wpIn
    refine ⟨by simp [Oper.about, ho, resolve, Target.leads, Sem.run_pure], ?_⟩
    rw [Oper.semAt_plain F _ _ (by rw [ho]; intro c hc'; cases hc')]
    simp [execOp, ho, resolve, invoke, builtin, hs, hx, hr, Result.andThen]
    refine hK _ _ (h (some ⟨g, 0, none⟩) c w' ⟨?_, ?_, ?_⟩)
    · unfold Rw; rw [List.length_append, E.all_app]; exact hown
    · refine (Mod.refl _ w).grown hgrow ?_
      intro j hj _
      cases p with
      | none => simp [Value.ownBlock] at hj
      | some a => simp [Value.ownBlock] at hj; exact ⟨a, rfl, hj.symm⟩
    · rintro a' e; cases e
      rcases hat with hat | hat
      · left
        rcases hS.shape with ⟨rfl, _⟩ | ⟨g', rfl, _⟩
        · simp [Value.ownBlock] at hat
        · simp [Value.ownBlock] at hat; subst hat; rfl
      · right; rw [hat]; exact Nat.le_refl _
theorem wpListIn_exec {F : Fence} {n : Nat} {P : Program} {ops : Array Oper} {rest : List Oper} {o : Oper} {a : Act} {w w' : World} {Q : Exit → Act → World → Prop} {v : Value} (hgd : o.guard = none) (hc : ∀ c, o.op ≠ .defer c) (hab : o.about P w a.eval = none)
    (hr : (execOp a.eval o).run P w = .ok (.value v) w') (h : wpListIn F n P ops Q rest (a.put o.dst v) w') : wpListIn F n P ops Q (o :: rest) a w := by
  refine wpListIn_plain hgd fun K hK => ?_
  unfold Oper.wpIn
  refine ⟨(fun f hf => by rw [hab] at hf; cases hf), ?_⟩
  rw [Oper.semAt_plain F _ _ hc, hr]
  exact hK _ _ h
theorem rowC_new (w : World) (o : Obj) (old cs : Array Value) (t : TypeId) (ho : o = .cells old t (0, 0)) : ((w.alloc o).setRow w.heap.size cs).heap[w.heap.size]? = some (.cells cs t (0, 0)) ∧ Below w.heap.size w ((w.alloc o).setRow w.heap.size cs) := by
  subst ho
  have hb : Below w.heap.size w (w.alloc (.cells old t)) := (Below.refl _ w).alloc (Nat.le_refl _) _
  exact ⟨setRow_heap _ _ old cs t (0, 0) (heap_alloc_new w _), hb.trans (((Mod.refl (fun _ => False) (w.alloc (.cells old t))).setRow (g := w.heap.size) cs).to_below hb.size (by rintro i hi (h | h) <;> first | exact h | omega))⟩
theorem wpListIn_gen {F : Fence} {n : Nat} {P : Program} {ops : Array Oper} {rest : List Oper} {a : Act} {w : World} {Q : Exit → Act → World → Prop} (R : World → Prop) (hR : R w) (h : ∀ w', R w' → wpListIn F n P ops Q rest a w') : wpListIn F n P ops Q rest a w := h w hR
/-- A whole variable is stored: inside a fence. -/
theorem wpListIn_store_row {F : Fence} {n : Nat} {P : Program} {ops : Array Oper} {rest : List Oper} {o : Oper} {a : Act} {w : World} {Q : Exit → Act → World → Prop} (hgd : o.guard = none) (hdst : o.dst = none) (ty : TypeId) (x y : Operand) (ho : o.op = .store ty x y)
    (g : Nat) (hx : a.eval x = .pointer (some ⟨g, 0, none⟩)) (t : TypeId) (old cs : Array Value) (hy : a.eval y = .agg cs) (hg : w.heap[g]? = some (.cells old t (0, 0))) (hsz : old.size = cs.size)
    (hi : (P.info? ty).map (·.size) = some cs.size) (h1 : ∀ v ∈ cs.toList, v.oneCell' = true)
    (h : wpListIn F n P ops Q rest a (w.setRow g cs)) : wpListIn F n P ops Q (o :: rest) a w := by
  have hst := run_storeCells_at P g 0 t cs.toList 0 old w hg (by simp; omega) h1
  have e : (old.toList.take (0 + 0) ++ cs.toList ++ old.toList.drop (0 + 0 + cs.toList.length)).toArray = cs := by
    have : old.toList.drop (0 + 0 + cs.toList.length) = [] := List.drop_eq_nil_of_le (by simp; omega)
    rw [this]; simp
  rw [e] at hst
  cases hq : P.info? ty with
  | none => simp [hq] at hi
  | some i =>
    have hs : i.size = cs.size := by simpa [hq] using hi
    have hv : (storeVar ty ⟨g, 0, none⟩ (.agg cs)).run P w = .ok () (w.setRow g cs) := by
      simp [storeVar, sizeOf, typeInfo, hq, hs, Value.cells, hst]
    refine wpListIn_plain hgd fun K hK => ?_
    unfold Oper.wpIn
    refine ⟨by simp [Oper.about, ho], ?_⟩
    rw [Oper.semAt_plain F _ _ (by rw [ho]; intro c hc; cases hc)]
    unfold execOp
    simp only [ho, hx, hy, Instr.storeAt, Instr.sureAddr, Sem.run_bind, Sem.run_pure, Result.andThen_ok, hv]
    exact hK _ _ (by rw [hdst]; exact h)
theorem Rw.ne {α β : Type} {E1 : Enc α} {E2 : Enc β} {T1 T2 : TypeId} {w : World} {p q : Option Addr} {c1 c2 : Nat} {L : List α} {M : List β} (h1 : Rw E1 T1 w p c1 L) (h2 : Rw E2 T2 w q c2 M) (hT : T1 ≠ T2) : ∀ a b, p = some a → q = some b → a.block ≠ b.block := by
  rintro a b rfl rfl e
  rcases h1.shape with ⟨e1, _⟩ | ⟨g1, e1, _, _, _, cur1, hh1, _⟩
  · cases e1
  rcases h2.shape with ⟨e2, _⟩ | ⟨g2, e2, _, _, _, cur2, hh2, _⟩
  · cases e2
  cases e1; cases e2
  simp only at e
  rw [e, hh2] at hh1
  simp only [Option.some.injEq, Obj.cells.injEq] at hh1
  exact hT hh1.2.1.symm
end Go.Proofs.YtpdhmjmklmoknaaDoor

namespace Go.Proofs.YtpdhmjmklmoknaaDoor
open Go.RowKit Go.Shelf
attribute [local go_sem] Oper.semAt_some

theorem exec_load_row {P : Program} {o : Oper} {a : Act} {w : World} (ty : TypeId) (x : Operand) (ho : o.op = .load ty x) (g : Nat) (hx : a.eval x = .pointer (some ⟨g, 0, none⟩)) (t : TypeId) (cs : Array Value) (fr : Nat × Nat) (d : TypeDesc) (hg : w.heap[g]? = some (.cells cs t fr))
    (hu : P.underlying ty = some d) (hd : (match d with | .struct _ | .array _ _ => true | _ => false) = true) (hi : (P.info? ty).map (·.size) = some cs.size) : (execOp a.eval o).run P w = .ok (.value (.agg cs)) w := by
  unfold execOp
  simp only [ho, hx, Instr.loadAt, Instr.sureAddr, Sem.run_bind, Sem.run_pure, Result.andThen_ok, run_loadVar_row w g t ty cs fr d hg hu hd hi]

/-- A step as a value. -/
structure Sv where
  st : St
  na : Option Addr
  nc : Nat
  ia : Option Addr
  ic : Nat
def Sv.c (v : Sv) : Array Value := stC v.st v.na v.nc v.ia v.ic
theorem Sv.one (v : Sv) : ∀ x ∈ v.c.toList, x.oneCell' = true := stC_one
def encV : Enc Sv := ⟨fun v => v.c.toList, 4, fun _ => rfl, fun v x hx => v.one x hx, by decide⟩
/-- Its rows; they lie from B on. -/
structure okV (B : Nat) (w : World) (v : Sv) : Prop where
  rn : Rw encS 9 w v.na v.nc v.st.names
  ri : Rw encNt 3 w v.ia v.ic v.st.nums
  bn : ∀ a, v.na = some a → B ≤ a.block
  bi : ∀ a, v.ia = some a → B ≤ a.block
theorem okV.kept {B : Nat} {w w' : World} {v : Sv} (h : okV B w v) {S : Nat → Prop} (hm : Mod S w w') (h1 : ∀ a, v.na = some a → ¬ S a.block) (h2 : ∀ a, v.ia = some a → ¬ S a.block) : okV B w' v := ⟨h.rn.kept hm h1, h.ri.kept hm h2, h.bn, h.bi⟩
theorem okV.old {B : Nat} {w w' : World} {v : Sv} (h : okV B w v) (hb : Below w.heap.size w w') : okV B w' v := ⟨h.rn.old hb, h.ri.old hb, h.bn, h.bi⟩
/-- What Parse answers. -/
def ParP (w : World) (p : List St × Nat × Bool) (r : Ending) (w' : World) : Prop :=
  Below w.heap.size w w' ∧ ∃ (q : Option Addr) (c : Nat) (V : List Sv), r = .returned (.tuple #[.slice q V.length c, .int .i64 p.2.1, .bool p.2.2]) ∧ V.map Sv.st = p.1 ∧ Rw encV 35 w' q c V ∧ (∀ a, q = some a → w.heap.size ≤ a.block) ∧ ∀ v ∈ V, okV w.heap.size w' v

structure PaI (w : World) (E : Prop) (k : Nat) (q : Option Addr) (c : Nat) (V : List Sv) (W : World) : Prop where
  r0 : Boxed W w.heap.size 24 (.slice none 0 0)
  r1 : Boxed W (w.heap.size + 1) 3 (.int .i64 0)
  r2 : Boxed W (w.heap.size + 2) 4 (.bool false)
  sb : Boxed W (w.heap.size + 3) 24 (.slice q V.length c)
  ab : Boxed W (w.heap.size + 4) 3 (.int .i64 k)
  rw : Rw encV 35 W q c V
  nw : ∀ a, q = some a → w.heap.size + 8 ≤ a.block
  ok : ∀ v ∈ V, okV (w.heap.size + 8) W v
  m : Below w.heap.size w W
  sz : w.heap.size + 8 ≤ W.heap.size
  eq : E
  ln : V.length ≤ 300
def Pa (w : World) (P : List (List UInt8)) (k : Nat) (W : World) : Prop := ∃ q c V, PaI w (parG P 0 [] = parG (P.drop k) k (V.map Sv.st)) k q c V W
def Px (w : World) (P : List (List UInt8)) (c : Code) (_ : Nat) (W : World) : Prop :=
  c = .ret ∧ ∃ k : Nat, Boxed W w.heap.size 24 (.slice none 0 0) ∧ Boxed W (w.heap.size + 1) 3 (.int .i64 k) ∧ Boxed W (w.heap.size + 2) 4 (.bool false) ∧ Below w.heap.size w W ∧ parG P 0 [] = ([], k, false)

theorem PaI.of {w : World} {E E' : Prop} {k k' : Nat} {q : Option Addr} {c : Nat} {V : List Sv} {W W' : World} (h : PaI w E k q c V W) {S : Nat → Prop} (hm : Mod S W W') (h5 : ∀ i, i < w.heap.size + 8 → i ≠ w.heap.size + 4 → ¬ S i) (hc : ∀ i o, W.heap[i]? = some o → o.isCells = true → w.heap.size + 8 ≤ i → ¬ S i)
    (hab : Boxed W' (w.heap.size + 4) 3 (.int .i64 k')) (heq : E') : PaI w E' k' q c V W' := by
  have hz := h.sz
  have kp : ∀ {i : Nat} {T : TypeId} {v : Value}, i < w.heap.size + 8 → i ≠ w.heap.size + 4 → Boxed W i T v → Boxed W' i T v := fun hi hn hb => (hm.block _ hb.lt (h5 _ hi hn)).trans hb
  have rwS : ∀ {α : Type} {F : Enc α} {T : TypeId} {p : Option Addr} {cp : Nat} {L : List α}, Rw F T W p cp L → (∀ a, p = some a → w.heap.size + 8 ≤ a.block) → Rw F T W' p cp L := by
    intro α F T p cp L hr hb
    refine hr.kept hm (fun a e => ?_)
    subst e
    rcases hr.shape with ⟨e, _⟩ | ⟨g, e, _, _, _, cur, hh, _⟩
    · cases e
    · cases e; exact hc _ _ hh rfl (hb _ rfl)
  refine ⟨kp (by omega) (by omega) h.r0, kp (by omega) (by omega) h.r1, kp (by omega) (by omega) h.r2, kp (by omega) (by omega) h.sb, hab, rwS h.rw h.nw, h.nw, fun v hv => ?_, h.m.trans (hm.to_below h.m.size (fun i hi => h5 i (by omega) (by omega))), Nat.le_trans h.sz hm.size, heq, h.ln⟩
  have ho := h.ok v hv
  exact ⟨rwS ho.rn ho.bn, rwS ho.ri ho.bi, ho.bn, ho.bi⟩
theorem Pa.own {w : World} {P : List (List UInt8)} (B0 : Nat) (hB0 : w.heap.size + 8 ≤ B0) : OwnFrom B0 (Pa w P) := by
  rintro k W W' row ⟨q, c, V, h⟩ hgr hr
  have hm : Mod (fun i => row = some i) W W' := (Mod.refl _ _).grown hgr (fun k e _ => e)
  refine ⟨q, c, V, h.of hm (fun i hi _ e => by have := (hr _ e).1; omega) (fun i o ho hc _ e => ?_) ((hm.block _ h.ab.lt (fun e => by have := (hr _ e).1; omega)).trans h.ab) h.eq⟩
  obtain ⟨o2, ho2, hc2⟩ := (hr _ e).2
  rw [ho] at ho2; cases ho2; rw [hc] at hc2; cases hc2
theorem Pa.set {w : World} {P : List (List UInt8)} (k : Nat) (W : World) (v : Value) (h : Pa w P k W) : Pa w P k (W.setCell ⟨w.heap.size + 5, 0, none⟩ v) := by
  obtain ⟨q, c, V, h⟩ := h
  have hm : Mod (fun i => i = w.heap.size + 5) W (W.setCell ⟨w.heap.size + 5, 0, none⟩ v) := (Mod.refl (fun i => i = w.heap.size + 5) W).setCell (p := ⟨w.heap.size + 5, 0, none⟩) (fun _ => rfl) v
  have hb : ∀ {i : Nat} {T : TypeId} {u : Value}, i ≠ w.heap.size + 5 → Boxed W i T u → Boxed (W.setCell ⟨w.heap.size + 5, 0, none⟩ v) i T u := fun hi h => (hm.block _ h.lt hi).trans h
  have rwS : ∀ {α : Type} {F : Enc α} {T : TypeId} {p : Option Addr} {cp : Nat} {L : List α}, Rw F T W p cp L → (∀ a, p = some a → w.heap.size + 8 ≤ a.block) → Rw F T (W.setCell ⟨w.heap.size + 5, 0, none⟩ v) p cp L := fun hr h8 => hr.kept hm (fun a e h => by have := h8 a e; omega)
  refine ⟨q, c, V, hb (by omega) h.r0, hb (by omega) h.r1, hb (by omega) h.r2, hb (by omega) h.sb, hb (by omega) h.ab, rwS h.rw h.nw, h.nw, fun u hu => ⟨rwS (h.ok u hu).rn (h.ok u hu).bn, rwS (h.ok u hu).ri (h.ok u hu).bi, (h.ok u hu).bn, (h.ok u hu).bi⟩, h.m.trans (hm.to_below h.m.size (fun i hi e => by omega)), Nat.le_trans h.sz hm.size, h.eq, h.ln⟩
theorem Px.own {w : World} {P : List (List UInt8)} (B0 : Nat) (hB0 : w.heap.size + 8 ≤ B0) (c : Code) : OwnFrom B0 (Px w P c) := by
  rintro k W W' row ⟨e1, j, h0, h1, h2, hm0, he⟩ hgr hr
  have hm : Mod (fun i => row = some i) W W' := (Mod.refl _ _).grown hgr (fun k e _ => e)
  have kp : ∀ {i : Nat} {T : TypeId} {v : Value}, i < w.heap.size + 8 → Boxed W i T v → Boxed W' i T v := fun hi hb => (hm.block _ hb.lt (fun e => by have := (hr _ e).1; omega)).trans hb
  exact ⟨e1, j, kp (by omega) h0, kp (by omega) h1, kp (by omega) h2, hm0.trans (hm.to_below hm0.size (fun i hi e => by have := (hr _ e).1; omega)), he⟩

theorem bx_cell {S : Nat → Prop} {W W' : World} {i : Nat} {T : TypeId} {v : Value} (hb : Boxed W i T v) (hm : Mod S W W') (hn : ¬ S i) : W'.cell? ⟨i, 0, none⟩ = some v := Boxed.cell (B := i) (t := T) ((hm.block i hb.lt hn).trans hb)
theorem lninfo_step : (Tryd.prog.info? 35).map (fun i => (i.zero, i.size, i.bytes)) = some (some (.agg (stC zSt none 0 none 0)), 4, 80) := by kernel_rfl
theorem PaI.push {w : World} {E E' : Prop} {k : Nat} {q : Option Addr} {c : Nat} {V : List Sv} {W4 W5 W6 : World} (h : PaI w E k q c V W4) {sv : Sv} (hv : okV (w.heap.size + 8) W4 sv) (h45 : Below W4.heap.size W4 W5) {q2 : Option Addr} {c2 : Nat} (hP : PushR encV 35 W5 q (V ++ [sv]) q2 c2 W6) (hE : E') (hl : V.length < 300) :
    Boxed W6 (w.heap.size + 3) 24 (.slice q V.length c) ∧ PaI w E' k q2 c2 (V ++ [sv]) (W6.setCell ⟨w.heap.size + 3, 0, none⟩ (.slice q2 (V.length + 1) c2)) ∧ Mod (fun i => i = w.heap.size + 3 ∨ ∃ a, q = some a ∧ i = a.block) W4 (W6.setCell ⟨w.heap.size + 3, 0, none⟩ (.slice q2 (V.length + 1) c2)) := by
  obtain ⟨hR, hm, hor⟩ := hP
  have hz := h.sz
  have hm46 : Mod (fun i => ∃ a, q = some a ∧ i = a.block) W4 W6 := (mod_none h45).trans hm (fun _ _ h => h)
  have hno : ∀ i, i < w.heap.size + 8 → ¬ ∃ a, q = some a ∧ i = a.block := by rintro i hi ⟨a, e, rfl⟩; have := h.nw a e; omega
  have b6 : ∀ {i : Nat} {T : TypeId} {u : Value}, i < w.heap.size + 8 → Boxed W4 i T u → Boxed W6 i T u := fun hi hb => (hm46.block _ hb.lt (hno _ hi)).trans hb
  have hm7 : Mod (fun i => i = w.heap.size + 3) W6 (W6.setCell ⟨w.heap.size + 3, 0, none⟩ (.slice q2 (V.length + 1) c2)) := (Mod.refl (fun i => i = w.heap.size + 3) W6).setCell (p := ⟨w.heap.size + 3, 0, none⟩) (fun _ => rfl) _
  have b7 : ∀ {i : Nat} {T : TypeId} {u : Value}, i ≠ w.heap.size + 3 → Boxed W6 i T u → Boxed (W6.setCell ⟨w.heap.size + 3, 0, none⟩ (.slice q2 (V.length + 1) c2)) i T u := fun hi hb => (hm7.block _ hb.lt hi).trans hb
  have hsb := b6 (by omega) h.sb
  have hs45 := h45.size
  have hs6 := hm46.size
  have hnw : ∀ a, q2 = some a → w.heap.size + 8 ≤ a.block := by
    intro a e
    rcases hor a e with h1 | h1
    · exact h.nw a h1
    · omega
  have rk : ∀ {α : Type} {F : Enc α} {T : TypeId} {p : Option Addr} {cp : Nat} {L : List α}, T ≠ 35 → Rw F T W4 p cp L → (∀ a, p = some a → w.heap.size + 8 ≤ a.block) → Rw F T (W6.setCell ⟨w.heap.size + 3, 0, none⟩ (.slice q2 (V.length + 1) c2)) p cp L := by
    intro α F T p cp L hT hr hb
    refine (hr.kept hm46 ?_).kept hm7 (fun a e h => by have := hb a e; omega)
    rintro a e ⟨b, e2, h2⟩
    exact hr.ne h.rw hT a b e e2 h2
  have okk : ∀ v, okV (w.heap.size + 8) W4 v → okV (w.heap.size + 8) (W6.setCell ⟨w.heap.size + 3, 0, none⟩ (.slice q2 (V.length + 1) c2)) v := fun v ho => ⟨rk (by decide) ho.rn ho.bn, rk (by decide) ho.ri ho.bi, ho.bn, ho.bi⟩
  refine ⟨hsb, ⟨b7 (by omega) (b6 (by omega) h.r0), b7 (by omega) (b6 (by omega) h.r1), b7 (by omega) (b6 (by omega) h.r2), ?_, b7 (by omega) (b6 (by omega) h.ab), hR.kept hm7 (fun a e h => by have := hnw a e; omega), hnw, ?_, ?_, ?_, hE, by simp; omega⟩, ?_⟩
  · rw [List.length_append]; exact hsb.set _
  · intro v hv2
    rcases List.mem_append.1 hv2 with h1 | h1
    · exact okk v (h.ok v h1)
    · rw [List.mem_singleton.1 h1]; exact okk sv hv
  · exact h.m.trans ((hm46.to_below h.m.size (fun i hi => hno i (by omega))).trans (hm7.to_below (by have := h.m.size; omega) (fun i hi e => by omega)))
  · have := hm7.size; omega
  · exact (hm46.mono (T := fun i => i = w.heap.size + 3 ∨ ∃ a, q = some a ∧ i = a.block) (fun i _ h => .inr h)).trans hm7 (fun i _ h => .inl h)
theorem PaI.fin {w : World} {P : List (List UInt8)} {E : Prop} {k j : Nat} {q : Option Addr} {c : Nat} {V : List Sv} {W4 : World} (h : PaI w E k q c V W4) (hn : parG P 0 [] = ([], k, false)) (W9 : World)
    (e1 : W9.heap = (((W4.setCell ⟨w.heap.size, 0, none⟩ (.slice none 0 0)).setCell ⟨w.heap.size + 1, 0, none⟩ (.int .i64 (k : Int))).setCell ⟨w.heap.size + 1 + 1, 0, none⟩ (.bool false)).heap) (e2 : W9.os = W4.os) (e3 : W9.tape = W4.tape) (e4 : W9.output = W4.output) :
    Px w P .ret j W9 ∧ Mod (fun i => i = w.heap.size ∨ i = w.heap.size + 1 ∨ i = w.heap.size + 2) W4 W9 := by
  have hm : Mod (fun i => i = w.heap.size ∨ i = w.heap.size + 1 ∨ i = w.heap.size + 2) W4 (((W4.setCell ⟨w.heap.size, 0, none⟩ (.slice none 0 0)).setCell ⟨w.heap.size + 1, 0, none⟩ (.int .i64 (k : Int))).setCell ⟨w.heap.size + 1 + 1, 0, none⟩ (.bool false)) :=
    (((Mod.refl (fun i => i = w.heap.size ∨ i = w.heap.size + 1 ∨ i = w.heap.size + 2) W4).setCell (p := ⟨w.heap.size, 0, none⟩) (fun _ => .inl rfl) _).setCell (p := ⟨w.heap.size + 1, 0, none⟩) (fun _ => .inr (.inl rfl)) _).setCell (p := ⟨w.heap.size + 1 + 1, 0, none⟩) (fun _ => .inr (.inr rfl)) _
  have hm9 : Mod (fun i => i = w.heap.size ∨ i = w.heap.size + 1 ∨ i = w.heap.size + 2) W4 W9 := ⟨e2, e3, e4, by rw [e1]; exact hm.size, fun i hi hs => by rw [e1]; exact hm.block i hi hs⟩
  have b0 := ((h.r0.set (.slice none 0 0)).other (B' := w.heap.size + 1) (by omega) (.int .i64 (k : Int))).other (B' := w.heap.size + 1 + 1) (by omega) (.bool false)
  have b1 := ((h.r1.other (B' := w.heap.size) (by omega) (.slice none 0 0)).set (.int .i64 (k : Int))).other (B' := w.heap.size + 1 + 1) (by omega) (.bool false)
  have b2 := ((h.r2.other (B' := w.heap.size) (by omega) (.slice none 0 0)).other (B' := w.heap.size + 1) (by omega) (.int .i64 (k : Int))).set (.bool false)
  refine ⟨⟨rfl, k, ?_, ?_, ?_, h.m.trans (hm9.to_below h.m.size (fun i hi e => by omega)), hn⟩, hm9⟩
  · unfold Boxed; rw [e1]; exact b0
  · unfold Boxed; rw [e1]; exact b1
  · unfold Boxed; rw [e1]; exact b2
theorem lnew_row (W : World) (o : Obj) (old cs : Array Value) (t : TypeId) (ho : o = .cells old t (0, 0)) : ((W.alloc o).setRow W.heap.size cs).heap[W.heap.size]? = some (.cells cs t (0, 0)) ∧ Below W.heap.size W ((W.alloc o).setRow W.heap.size cs) := by
  subst ho
  refine ⟨setRow_heap _ _ _ _ _ _ (heap_alloc_new W _), ?_⟩
  exact ((((Mod.refl (fun _ => False) W).alloc (.cells old t (0, 0))).setRow (g := W.heap.size) cs).drop_new (Nat.le_refl _)).to_below (Nat.le_refl _) (fun _ _ h => h)

set_option maxRecDepth 100000 in
set_option maxHeartbeats 8000000 in
theorem lparse_any (s : List UInt8) (w : World) (hl : s.length ≤ 1000000) :
    Calls Tryd.prog 10 #[.string ⟨s.toArray⟩] w (ParP w (parM s)) := by
  obtain ⟨S, hSS⟩ : ∃ S, S = ByteArray.mk s.toArray := ⟨_, rfl⟩
  rw [← hSS]
  have HSQ := Lib.hid (fun w => splitseq_any s 10 w)
  rw [← hSS] at HSQ
  obtain ⟨P, hP⟩ : ∃ P, P = spl 10 s := ⟨_, rfl⟩
  have hPl : P.length ≤ 1000001 := by rw [hP]; have := spl_len_le 10 s; omega
  have hPs : ∀ p ∈ P, p.length ≤ 1000000 := by rw [hP]; intro p hp; have := spl_sizes 10 s p hp; omega
  have hPn : 1 ≤ P.length := by rw [hP]; exact List.length_pos_iff.2 (splA_ne _ _ _)
  have hPM : parM s = parG P 0 [] := by rw [hP]; rfl
  rw [hPM]
  have HPP := Lib.hid hP
  have HPS := Lib.hid hPs
  obtain ⟨W0, hW0⟩ : ∃ W0, W0 = ((((w.alloc (.cells #[.slice none 0 0] 24)).alloc (.cells #[.int .i64 0] 3)).alloc (.cells #[.bool false] 4)).alloc (.cells #[.slice none 0 0] 24)).alloc (.cells #[.int .i64 0] 3) := ⟨_, rfl⟩
  have HW0 := Lib.hid hW0
  obtain ⟨Q, hQ⟩ : ∃ Q, Q = ParP w (parG P 0 []) := ⟨_, rfl⟩
  rw [← hQ]
  have HQ := Lib.hid hQ
  clear hSS hP hPs hPM hW0 hQ
  refine (callsIn_wide (n := 3)).1 ?_
  refine callsIn_of_wp_marks Tryd.func10 rfl trivial ?_ rfl
  simp only [Tryd.ntmps10, List.size_toArray, List.length_cons, List.length_nil, Nat.reduceAdd, Nat.reduceSub, Array.replicate_succ, Array.replicate_zero, List.push_toArray, List.append_toArray, List.nil_append, List.cons_append]
  gi_wp2_with (refine ⟨trivial, (callsIn_wide.2 (HSQ.out _)).mono ?_⟩; rintro e W1 ⟨rfl, hq1, hq2, hq3, hq4⟩)
  rw [← HW0.out] at hq1 hq2 hq3 hq4
  have hs0 : W0.heap.size = w.heap.size + 5 := by rw [HW0.out]; simp
  have hB0 : Below w.heap.size w W0 := by rw [HW0.out]; exact (((((Below.refl _ _).alloc (Nat.le_refl _) _).alloc (by simp) _).alloc (by simp; omega) _).alloc (by simp; omega) _).alloc (by simp; omega) _
  have hbx : Boxed W0 w.heap.size 24 (.slice none 0 0) ∧ Boxed W0 (w.heap.size + 1) 3 (.int .i64 0) ∧ Boxed W0 (w.heap.size + 2) 4 (.bool false) ∧ Boxed W0 (w.heap.size + 3) 24 (.slice none 0 0) ∧ Boxed W0 (w.heap.size + 4) 3 (.int .i64 0) := by
    rw [HW0.out]
    refine ⟨((((Boxed.new w _ _).alloc _).alloc _).alloc _).alloc _, ?_, ?_, ?_, ?_⟩
    · have := (((Boxed.new (w.alloc (.cells #[.slice none 0 0] 24)) 3 (.int .i64 0)).alloc (.cells #[.bool false] 4)).alloc (.cells #[.slice none 0 0] 24)).alloc (.cells #[.int .i64 0] 3)
      rwa [World.size_alloc] at this
    · have := ((Boxed.new ((w.alloc (.cells #[.slice none 0 0] 24)).alloc (.cells #[.int .i64 0] 3)) 4 (.bool false)).alloc (.cells #[.slice none 0 0] 24)).alloc (.cells #[.int .i64 0] 3)
      rwa [World.size_alloc, World.size_alloc] at this
    · have := (Boxed.new (((w.alloc (.cells #[.slice none 0 0] 24)).alloc (.cells #[.int .i64 0] 3)).alloc (.cells #[.bool false] 4)) 24 (.slice none 0 0)).alloc (.cells #[.int .i64 0] 3)
      rwa [World.size_alloc, World.size_alloc, World.size_alloc] at this
    · have := Boxed.new ((((w.alloc (.cells #[.slice none 0 0] 24)).alloc (.cells #[.int .i64 0] 3)).alloc (.cells #[.bool false] 4)).alloc (.cells #[.slice none 0 0] 24)) 3 (.int .i64 0)
      rwa [World.size_alloc, World.size_alloc, World.size_alloc, World.size_alloc] at this
  simp only [hs0] at hq1 hq2 hq3 hq4
  have hB1 : Below w.heap.size w W1 := hB0.trans (hq1.mono (by omega))
  have hsz : W1.heap.size = w.heap.size + 8 := by omega
  have o1 : ∀ {i : Nat} {T : TypeId} {v : Value}, i < w.heap.size + 5 → Boxed W0 i T v → Boxed W1 i T v := fun hi hb => (hq1.block _ (by omega)).trans hb
  have hI0 : Pa w P 0 W1 := ⟨none, 0, [], o1 (by omega) hbx.1, o1 (by omega) hbx.2.1, o1 (by omega) hbx.2.2.1, o1 (by omega) hbx.2.2.2.1, o1 (by omega) hbx.2.2.2.2, Rw.empty _ _, (fun a e => by cases e), (fun v hv => by cases hv), hB1, by omega, rfl, by simp⟩
  have HQ4 := Lib.hid hq4
  have HQ3 := Lib.hid hq3
  have HSZ := Lib.hid hsz
  clear hq1 hq2 hq3 hq4 hs0 hB0 hbx hB1 hsz o1 HW0
  refine wpIn_roundsS (F := Fence.wide) rfl (by decide) (gf := 38) (lb := #[.pointer (some ⟨w.heap.size + 1 + 1 + 1 + 1 + 1 + 1, 0, none⟩), .pointer (some ⟨w.heap.size + 1 + 1 + 1 + 1 + 1, 0, none⟩), .pointer (some ⟨w.heap.size + 1 + 1 + 1 + 1 + 1 + 1 + 1, 0, none⟩)]) rfl trivial (enters_of Tryd.func38 (by kernel_rfl) rfl)
    (R := SqR (w.heap.size + 1 + 1 + 1 + 1 + 1 + 1) (w.heap.size + 1 + 1 + 1 + 1 + 1 + 1 + 1) 10) (T := 9) (sb := w.heap.size + 1 + 1 + 1 + 1 + 1) (tl := tlV 10 s) (N := P.length) hPn (by rw [HPP.out]; exact seq_rounds (3 - 1) (by decide) _ _ _ 10 s (by omega) W1) (fun _ => rfl)
    (Pa w P) (Px w P) ?hR ?hRs (Pa.own W1.heap.size (by rw [HSZ.out]; exact Nat.le_refl _)) (fun k W v h => Pa.set k W v h) (fun c => Px.own W1.heap.size (by rw [HSZ.out]; exact Nat.le_refl _) c) hI0 HQ4.out HQ3.out
    (fun k => { tmps := #[.string S, undef, .pointer (some ⟨w.heap.size, 0, none⟩), .pointer (some ⟨w.heap.size + 1, 0, none⟩), .pointer (some ⟨w.heap.size + 1 + 1, 0, none⟩), .pointer (some ⟨w.heap.size + 1 + 1 + 1, 0, none⟩), .pointer (some ⟨w.heap.size + 1 + 1 + 1 + 1, 0, none⟩), .string ⟨((spl 10 s).getD k []).toArray⟩, undef, undef, .string S,
      .func (.func 38) #[] #[.pointer (some ⟨w.heap.size + 1 + 1 + 1 + 1 + 1 + 1, 0, none⟩), .pointer (some ⟨w.heap.size + 1 + 1 + 1 + 1 + 1, 0, none⟩), .pointer (some ⟨w.heap.size + 1 + 1 + 1 + 1 + 1 + 1 + 1, 0, none⟩)], .string ⟨((spl 10 s).getD k []).toArray⟩,
      undef, undef, undef, undef, undef, undef, undef, undef, undef, undef, undef, undef, undef, undef, undef, undef, undef, undef, undef, undef, undef, undef, undef, undef, undef, undef], defers := [] }) ?assign ?body ?done ?stop
  case hR =>
    rintro k W W' row ⟨b1, b2⟩ hgr hr
    have hm : Mod (fun i => row = some i) W W' := (Mod.refl _ _).grown hgr (fun k e _ => e)
    have hz := HSZ.out
    exact ⟨(hm.block _ b1.lt (fun e => by have := (hr _ e).1; omega)).trans b1, (hm.block _ b2.lt (fun e => by have := (hr _ e).1; omega)).trans b2⟩
  case hRs => exact fun W v h => ⟨(Below.heap_setCell _ _ _ _ (by show w.heap.size + 1 + 1 + 1 + 1 + 1 + 1 ≠ w.heap.size + 1 + 1 + 1 + 1 + 1; omega)).trans h.1, (Below.heap_setCell _ _ _ _ (by show w.heap.size + 1 + 1 + 1 + 1 + 1 + 1 + 1 ≠ w.heap.size + 1 + 1 + 1 + 1 + 1; omega)).trans h.2⟩
  case assign =>
    intro l k W K hK
    unfold pcV
    generalize (spl 10 s).getD k [] = p at hK ⊢
    gi_wp2
    exact hK
  case body =>
    rintro l k W ⟨q, c, V, h⟩ hr hb hk
    rw [← HPP.out]
    have hpk : P.getD k [] = P[k] := by simp [List.getD_eq_getElem?_getD, hk]
    have hPk : (P[k]).length ≤ 1000000 := HPS.out _ (List.getElem_mem hk)
    have hdr : P.drop k = P[k] :: P.drop (k + 1) := List.drop_eq_getElem_cons hk
    rw [hpk]
    have HEQ := Lib.hid h.eq
    have HDR := Lib.hid hdr
    generalize P[k] = p at hPk HDR ⊢
    have c4 := h.ab.cell
    have f4 := h.ab.frozen
    have hwr : IntKind.i64.wrap ((k : Int) + 1) = ((k + 1 : Nat) : Int) := by rw [IntKind.wrap_i64]; omega
    obtain ⟨W2, hW2⟩ : ∃ W2, W2 = W.setCell ⟨w.heap.size + 1 + 1 + 1 + 1, 0, none⟩ (.int .i64 ((k + 1 : Nat) : Int)) := ⟨_, rfl⟩
    have hm2 : Mod (fun i => i = w.heap.size + 4) W W2 := by rw [hW2]; exact (Mod.refl (fun i => i = w.heap.size + 4) W).setCell (p := ⟨w.heap.size + 4, 0, none⟩) (fun _ => rfl) _
    have hab2 : Boxed W2 (w.heap.size + 4) 3 (.int .i64 ((k + 1 : Nat) : Int)) := by rw [hW2]; exact h.ab.set _
    have h2 : ∀ E' : Prop, E' → PaI w E' (k + 1) q c V W2 := fun E' he => h.of hm2 (fun i _ hn e => hn e) (fun i o _ _ hi e => by omega) hab2 he
    have hz := h.sz
    have hk2 : KeepsFrom W1.heap.size W W2 := ⟨hm2.size, fun j o hj ho hc => (hm2.block j (Array.getElem?_eq_some_iff.1 ho).1 (fun e => by have := HSZ.out; omega)).trans ho⟩
    have hr2 : SqR (w.heap.size + 1 + 1 + 1 + 1 + 1 + 1) (w.heap.size + 1 + 1 + 1 + 1 + 1 + 1 + 1) 10 W2 := ⟨(hm2.block _ hr.1.lt (by omega)).trans hr.1, (hm2.block _ hr.2.lt (by omega)).trans hr.2⟩
    have hb2 : Boxed W2 (w.heap.size + 1 + 1 + 1 + 1 + 1) 9 (tlV 10 s k) := (hm2.block _ hb.lt (by omega)).trans hb
    have H2 := Lib.hid h2
    have HK2 := Lib.hid hk2
    have HR2 := Lib.hid hr2
    have HB2 := Lib.hid hb2
    have HW2 : Hid (W2 = W.setCell ⟨w.heap.size + 1 + 1 + 1 + 1, 0, none⟩ (.int .i64 ((k : Int) + 1))) := Lib.hid (by rw [hW2]; rfl)
    have hln := h.ln
    clear h2 hk2 hr2 hb2 hr hb hW2 hm2 hab2 h hdr hI0 hpk
    obtain ⟨nV, hnV⟩ : ∃ nV, nV = V.length := ⟨_, rfl⟩
    have HNV := Lib.hid hnV
    rw [← hnV] at hln
    clear hnV
    obtain ⟨L, hL⟩ : ∃ L, L = ByteArray.mk p.toArray := ⟨_, rfl⟩
    have hLp : L.toList = p := by rw [hL, ByteArray.toList_mk]
    by_cases hm : mute p = true
    · have hmm : parG P 0 [] = parG (P.drop (k + 1)) (k + 1) (V.map Sv.st) := by rw [HEQ.out, HDR.out, parG, if_pos hm]
      have HMM := Lib.hid hmm
      by_cases hne : p = []
      · have e0 : (L.toList == []) = true := by rw [hLp, hne]; rfl
        rw [← hL]
        clear hL hLp hm hne hmm
        gi_wp2
        refine ⟨trivial, ?_⟩
        gi_wp2
        rw [← HW2.out]
        exact ⟨HK2.out, ⟨q, c, V, H2.out _ HMM.out⟩, HR2.out, HB2.out⟩
      · have e0 : (L.toList == []) = false := by rw [hLp, beq_eq_false_iff_ne]; exact hne
        have HPF := Lib.hid (fun w => by
          have := Tryd.strings_HasPrefix ⟨p.toArray⟩ ⟨#[35]⟩ w
          rw [show Lib.hasPrefix (ByteArray.mk p.toArray).data.toList (ByteArray.mk #[35]).data.toList = true by
            show Lib.hasPrefix p [35] = true
            cases p with
            | nil => exact absurd rfl hne
            | cons a l => unfold mute at hm; rw [beq_iff_eq] at hm; subst hm; simp [Lib.hasPrefix]] at this
          exact this)
        rw [← hL] at HPF ⊢
        clear hL hLp hm hne hmm
        gi_wp2_with (refine ⟨trivial, (callsIn_wide.2 (HPF.out _)).mono ?_⟩; rintro e w5 ⟨rfl, rfl⟩)
        rw [← HW2.out]
        exact ⟨HK2.out, ⟨q, c, V, H2.out _ HMM.out⟩, HR2.out, HB2.out⟩
    · have hne : p ≠ [] := fun e => hm (by rw [e]; rfl)
      have e0 : (L.toList == []) = false := by rw [hLp, beq_eq_false_iff_ne]; exact hne
      have HPF := Lib.hid (fun w => by
        have := Tryd.strings_HasPrefix ⟨p.toArray⟩ ⟨#[35]⟩ w
        rw [show Lib.hasPrefix (ByteArray.mk p.toArray).data.toList (ByteArray.mk #[35]).data.toList = false by
          show Lib.hasPrefix p [35] = false
          cases p with
          | nil => exact absurd rfl hne
          | cons a l =>
            have ha : ¬ a = 35 := fun e => hm (by unfold mute; rw [beq_iff_eq]; exact e)
            simp [Lib.hasPrefix, List.isPrefixOf]; exact fun e => ha e.symm] at this
        exact this)
      have HSO := Lib.hid (fun w => lstepof_any p w hPk)
      obtain ⟨res, hres⟩ : ∃ res, res = stepM p := ⟨_, rfl⟩
      rw [← hres] at HSO
      have hp1 : res = none → parG P 0 [] = ([], k + 1, false) := fun e => by rw [HEQ.out, HDR.out, parG, if_neg hm, ← hres, e]
      have hp2 : ∀ x, res = some x → parG P 0 [] = if (V.map Sv.st).length = 300 then ([], k + 1, false) else parG (P.drop (k + 1)) (k + 1) (V.map Sv.st ++ [x]) := fun x e => by rw [HEQ.out, HDR.out, parG, if_neg hm, ← hres, e]
      have HP1 := Lib.hid hp1
      have HP2 := Lib.hid hp2
      rw [← hL] at HPF HSO ⊢
      clear hL hLp hm hne hres hp1 hp2
      gi_wp2_with (refine ⟨trivial, (callsIn_wide.2 (HPF.out _)).mono ?_⟩; rintro e w5 ⟨rfl, rfl⟩)
      rw [← HW2.out]
      refine ⟨trivial, (callsIn_wide.2 (HSO.out W2)).mono ?_⟩
      rintro e W3 ⟨hb3, na, nc, ia, ic, rfl, hrn, hri, hn1, hn2⟩
      obtain ⟨C, hC⟩ : ∃ C, C = stC (res.getD zSt) na nc ia ic := ⟨_, rfl⟩
      have hC1 : ∀ v ∈ C.toList, v.oneCell' = true := by rw [hC]; exact stC_one
      have hCs : (Tryd.prog.info? 35).map (·.size) = some C.size := by rw [hC]; exact ln_size _ _ _ _ _
      have hCz : 4 = C.size := by rw [hC]; rfl
      rw [← hC]
      have HC := Lib.hid hC
      have HC1 := Lib.hid hC1
      have HCS := Lib.hid hCs
      have HCZ := Lib.hid hCz
      have HB3 := Lib.hid hb3
      have HRN := Lib.hid hrn
      have HRI := Lib.hid hri
      have HN1 := Lib.hid hn1
      have HN2 := Lib.hid hn2
      clear hC hC1 hCs hCz hb3 hrn hri hn1 hn2
      cases res with
      | none =>
        simp only [Option.isSome_none]
        gi_wp2_with (refine wpListIn_store_row rfl rfl 35 (.tmp 8) (.tmp 24) rfl W3.heap.size rfl 35 _ C rfl (heap_alloc_new W3 _) HCZ.out HCS.out HC1.out ?_
                     refine wpListIn_gen (fun W4 => W4.heap[W3.heap.size]? = some (.cells C 35 (0, 0)) ∧ Below W3.heap.size W3 W4) (lnew_row W3 _ _ C 35 rfl) (fun W4 hW4 => ?_)
                     obtain ⟨hg4, hb4⟩ := hW4
                     have hb24 := HB3.out.trans (hb4.mono HB3.out.size)
                     have hP4 : PaI w True (k + 1) q c V W4 := (H2.out True trivial).of (S := fun _ => False) (mod_none hb24) (fun _ _ _ h => h) (fun _ _ _ _ _ h => h) ((hb24.block _ (H2.out True trivial).ab.lt).trans (H2.out True trivial).ab) trivial
                     have d0 := hP4.r0.cell
                     have g0 := hP4.r0.frozen
                     have d1 := hP4.r1.cell
                     have g1 := hP4.r1.frozen
                     have d2 := hP4.r2.cell
                     have g2 := hP4.r2.frozen
                     have d3 := hP4.sb.cell
                     rw [← HNV.out] at d3
                     have g3 := hP4.sb.frozen
                     have d4 := hP4.ab.cell
                     have HB24 := Lib.hid hb24
                     have HG4 := Lib.hid hg4
                     have HP4 := Lib.hid hP4
                     have HB4 := Lib.hid hb4
                     clear hg4 hb4 hb24 hP4)
        have key : Hid (∀ W9 : World, W9.heap = (((W4.setCell ⟨w.heap.size, 0, none⟩ (.slice none 0 0)).setCell ⟨w.heap.size + 1, 0, none⟩ (.int .i64 ((k + 1 : Nat) : Int))).setCell ⟨w.heap.size + 1 + 1, 0, none⟩ (.bool false)).heap → W9.os = W4.os → W9.tape = W4.tape → W9.output = W4.output → KeepsFrom W1.heap.size W W9 ∧ Px w P .ret k W9) := Lib.hid (by
          intro W9 e1 e2 e3 e4
          obtain ⟨hpx, hmx⟩ := HP4.out.fin (j := k) (HP1.out trivial) W9 e1 e2 e3 e4
          refine ⟨⟨Nat.le_trans (Nat.le_trans HK2.out.size HB24.out.size) hmx.size, fun j o hj ho hc => ?_⟩, hpx⟩
          have h1 := HK2.out.same j o hj ho hc
          have h2 := (HB24.out.block j (Array.getElem?_eq_some_iff.1 h1).1).trans h1
          exact (hmx.block j (Array.getElem?_eq_some_iff.1 h2).1 (by have := HSZ.out; omega)).trans h2)
        gi_region
        all_goals
          gi_wp2
          exact key.out _ rfl rfl rfl rfl
      | some x =>
        simp only [Option.isSome_some]
        by_cases h300 : nV = 300
        · have q3 : ((nV : Int) == 300) = true := by rw [beq_iff_eq]; omega
          gi_wp2_with (refine wpListIn_store_row rfl rfl 35 (.tmp 8) (.tmp 24) rfl W3.heap.size rfl 35 _ C rfl (heap_alloc_new W3 _) HCZ.out HCS.out HC1.out ?_
                       refine wpListIn_gen (fun W4 => W4.heap[W3.heap.size]? = some (.cells C 35 (0, 0)) ∧ Below W3.heap.size W3 W4) (lnew_row W3 _ _ C 35 rfl) (fun W4 hW4 => ?_)
                       obtain ⟨hg4, hb4⟩ := hW4
                       have hb24 := HB3.out.trans (hb4.mono HB3.out.size)
                       have hP4 : PaI w True (k + 1) q c V W4 := (H2.out True trivial).of (S := fun _ => False) (mod_none hb24) (fun _ _ _ h => h) (fun _ _ _ _ _ h => h) ((hb24.block _ (H2.out True trivial).ab.lt).trans (H2.out True trivial).ab) trivial
                       have d0 := hP4.r0.cell
                       have g0 := hP4.r0.frozen
                       have d1 := hP4.r1.cell
                       have g1 := hP4.r1.frozen
                       have d2 := hP4.r2.cell
                       have g2 := hP4.r2.frozen
                       have d3 := hP4.sb.cell
                       rw [← HNV.out] at d3
                       have g3 := hP4.sb.frozen
                       have d4 := hP4.ab.cell
                       have HB24 := Lib.hid hb24
                       have HG4 := Lib.hid hg4
                       have HP4 := Lib.hid hP4
                       have HB4 := Lib.hid hb4
                       clear hg4 hb4 hb24 hP4)
          have key : Hid (∀ W9 : World, W9.heap = (((W4.setCell ⟨w.heap.size, 0, none⟩ (.slice none 0 0)).setCell ⟨w.heap.size + 1, 0, none⟩ (.int .i64 ((k + 1 : Nat) : Int))).setCell ⟨w.heap.size + 1 + 1, 0, none⟩ (.bool false)).heap → W9.os = W4.os → W9.tape = W4.tape → W9.output = W4.output → KeepsFrom W1.heap.size W W9 ∧ Px w P .ret k W9) := Lib.hid (by
            intro W9 e1 e2 e3 e4
            obtain ⟨hpx, hmx⟩ := HP4.out.fin (j := k) (by rw [HP2.out x rfl, if_pos (by rw [List.length_map, ← HNV.out]; exact h300)]) W9 e1 e2 e3 e4
            refine ⟨⟨Nat.le_trans (Nat.le_trans HK2.out.size HB24.out.size) hmx.size, fun j o hj ho hc => ?_⟩, hpx⟩
            have h1 := HK2.out.same j o hj ho hc
            have h2 := (HB24.out.block j (Array.getElem?_eq_some_iff.1 h1).1).trans h1
            exact (hmx.block j (Array.getElem?_eq_some_iff.1 h2).1 (by have := HSZ.out; omega)).trans h2)
          gi_region
          all_goals
            gi_wp2
            exact key.out _ rfl rfl rfl rfl
        · have q3 : ((nV : Int) == 300) = false := by rw [beq_eq_false_iff_ne]; omega
          obtain ⟨sv, hsv⟩ : ∃ sv : Sv, sv = ⟨x, na, nc, ia, ic⟩ := ⟨_, rfl⟩
          have HSV : Hid ((Value.agg C).cells = (encV.f sv).toArray) := Lib.hid (by rw [HC.out, hsv]; rfl)
          have HE : Hid (parG P 0 [] = parG (P.drop (k + 1)) (k + 1) ((V ++ [sv]).map Sv.st)) := Lib.hid (by
            rw [HP2.out x rfl, if_neg (by rw [List.length_map, ← HNV.out]; exact h300), List.map_append, hsv]; rfl)
          have HS0 := Lib.hid hsv
          clear hsv
          gi_wp2_with (first
            | (refine wpListIn_store_row rfl rfl 35 (.tmp 8) (.tmp 24) rfl W3.heap.size rfl 35 _ C rfl (heap_alloc_new W3 _) HCZ.out HCS.out HC1.out ?_
               refine wpListIn_gen (fun W4 => W4.heap[W3.heap.size]? = some (.cells C 35 (0, 0)) ∧ Below W3.heap.size W3 W4) (lnew_row W3 _ _ C 35 rfl) (fun W4 hW4 => ?_)
               obtain ⟨hg4, hb4⟩ := hW4
               have hb24 := HB3.out.trans (hb4.mono HB3.out.size)
               have hP4 : PaI w True (k + 1) q c V W4 := (H2.out True trivial).of (S := fun _ => False) (mod_none hb24) (fun _ _ _ h => h) (fun _ _ _ _ _ h => h) ((hb24.block _ (H2.out True trivial).ab.lt).trans (H2.out True trivial).ab) trivial
               have d0 := hP4.r0.cell
               have g0 := hP4.r0.frozen
               have d1 := hP4.r1.cell
               have g1 := hP4.r1.frozen
               have d2 := hP4.r2.cell
               have g2 := hP4.r2.frozen
               have d3 := hP4.sb.cell
               rw [← HNV.out] at d3
               have g3 := hP4.sb.frozen
               have d4 := hP4.ab.cell
               have HB24 := Lib.hid hb24
               have HG4 := Lib.hid hg4
               have HP4 := Lib.hid hP4
               have HB4 := Lib.hid hb4
               have hok : okV (w.heap.size + 8) W4 sv := by have hz2 := (H2.out True trivial).sz; rw [HS0.out]; exact ⟨HRN.out.old HB4.out, HRI.out.old HB4.out, (fun a e => by have := HN1.out a e; omega), fun a e => by have := HN2.out a e; omega⟩
               have HOK := Lib.hid hok
               clear hok
               clear hg4 hb4 hb24 hP4)
            | (refine wpListIn_exec rfl (fun c hc => by cases hc) (by simp [Oper.about]) (exec_load_row 35 (.tmp 8) rfl W3.heap.size rfl 35 _ (0, 0) _ HG4.out Tryd.underlying35 rfl HCS.out) ?_
               go_frame)
            | (refine wpListIn_exec rfl (fun c hc => by cases hc) (by simp [Oper.about]) (build_one encV 24 35 _ 80 Tryd.underlying24 lninfo_step (by decide) (.tmp 35) rfl sv _ HSV.out rfl) ?_
               go_frame)
            | (gi_at_builtin
               refine wpListIn_pushR encV rfl _ _ 24 35 (.agg (stC zSt none 0 none 0)) 80 rfl Tryd.underlying24 lninfo_step rfl (by decide) q c nV V HNV.out.symm rfl (HP4.out.rw.old ((Below.refl _ W4).alloc (Nat.le_refl _) _)) (some ⟨W4.heap.size, 0, none⟩) 1 1 [sv] rfl (by decide) rfl (by have := Rd.made encV W4 35 [sv] (by simp [maxLen]); simpa [Enc.all] using this) (by omega) ?_
               intro q2 c2 W6 hP
               obtain ⟨hb6, hp6, hm6⟩ := HP4.out.push (E' := parG P 0 [] = parG (P.drop (k + 1)) (k + 1) ((V ++ [sv]).map Sv.st)) HOK.out ((Below.refl _ W4).alloc (Nat.le_refl _) _) hP HE.out (by rw [← HNV.out]; omega)
               have d6 := hb6.cell
               have g6 := hb6.frozen
               rw [← HNV.out] at d6 hp6 hm6
               have HP6 := Lib.hid hp6
               have HM6 := Lib.hid hm6
               clear hb6 hp6 hm6 hP))
          have hqs : ∀ a, q = some a → w.heap.size + 8 ≤ a.block := HP4.out.nw
          have kp7 : ∀ {i : Nat} {T : TypeId} {u : Value}, i < w.heap.size + 8 → i ≠ w.heap.size + 3 → Boxed W2 i T u → Boxed (W6.setCell ⟨w.heap.size + 3, 0, none⟩ (.slice q2 (nV + 1) c2)) i T u := fun hi hn hb =>
            (HM6.out.block _ (Nat.lt_of_lt_of_le hb.lt HB24.out.size) (by rintro (e | ⟨a, e, rfl⟩); exact hn e; have := hqs a e; omega)).trans ((HB24.out.block _ hb.lt).trans hb)
          refine ⟨⟨Nat.le_trans (Nat.le_trans HK2.out.size HB24.out.size) HM6.out.size, fun j o hj ho hc => ?_⟩, ⟨q2, c2, V ++ [sv], HP6.out⟩, ⟨kp7 (by omega) (by omega) HR2.out.1, kp7 (by omega) (by omega) HR2.out.2⟩, kp7 (by omega) (by omega) HB2.out⟩
          have h1 := HK2.out.same j o hj ho hc
          have h2 := (HB24.out.block j (Array.getElem?_eq_some_iff.1 h1).1).trans h1
          refine (HM6.out.block j (Array.getElem?_eq_some_iff.1 h2).1 ?_).trans h2
          rintro (e | ⟨a, e, rfl⟩)
          · have := HSZ.out; omega
          · subst e
            rcases HP4.out.rw.shape with ⟨e2, _⟩ | ⟨g', e2, _, _, _, cur, hh, _⟩
            · cases e2
            · cases e2; rw [hh] at h2; cases h2; cases hc
  case done =>
    rintro D W hD ⟨q, c, V, h⟩ hK
    have HH := Lib.hid h
    have d0 := h.r0.cell
    have g0 := h.r0.frozen
    have d1 := h.r1.cell
    have g1 := h.r1.frozen
    have d2 := h.r2.cell
    have g2 := h.r2.frozen
    have d3 := h.sb.cell
    clear h hI0
    have HZZ := Lib.hid (HH.out.rw.cap_le)
    simp only [Exit.inBlock, Exit.then]
    gi_wp2
    have h := HH.out
    have hz := HSZ.out
    have hsz := h.sz
    obtain ⟨V9, hV9⟩ : ∃ V9, V9 = ((W.setCell ⟨w.heap.size, 0, none⟩ (.slice q V.length c)).setCell ⟨w.heap.size + 1, 0, none⟩ (.int .i64 0)).setCell ⟨w.heap.size + 1 + 1, 0, none⟩ (.bool true) := ⟨_, rfl⟩
    have hm : Mod (fun i => i = w.heap.size ∨ i = w.heap.size + 1 ∨ i = w.heap.size + 2) W V9 := by
      rw [hV9]
      exact (((Mod.refl (fun i => i = w.heap.size ∨ i = w.heap.size + 1 ∨ i = w.heap.size + 2) W).setCell (p := ⟨w.heap.size, 0, none⟩) (fun _ => .inl rfl) _).setCell (p := ⟨w.heap.size + 1, 0, none⟩) (fun _ => .inr (.inl rfl)) _).setCell (p := ⟨w.heap.size + 1 + 1, 0, none⟩) (fun _ => .inr (.inr rfl)) _
    have b0 : Boxed V9 w.heap.size 24 (.slice q V.length c) := by rw [hV9]; exact ((h.r0.set _).other (B' := w.heap.size + 1) (by omega) _).other (B' := w.heap.size + 1 + 1) (by omega) _
    have b1 : Boxed V9 (w.heap.size + 1) 3 (.int .i64 0) := by rw [hV9]; exact ((h.r1.other (B' := w.heap.size) (by omega) _).set _).other (B' := w.heap.size + 1 + 1) (by omega) _
    have b2 : Boxed V9 (w.heap.size + 1 + 1) 4 (.bool true) := by rw [hV9]; exact ((h.r2.other (B' := w.heap.size) (by omega) _).other (B' := w.heap.size + 1) (by omega) _).set _
    rw [← hV9]
    have hK2 : V9.heap[D]? = some (.deferred (some [])) := (hm.block D (Array.getElem?_eq_some_iff.1 hK).1 (by omega)).trans hK
    refine ⟨by simp, .inl ⟨_, _, rfl, run_takeDeferred hK2, ?_⟩⟩
    have hmD : Mod (fun i => i = D) V9 (V9.putObj D (.deferred none)) := (Mod.refl _ _).grown (grownBy_putObj' _ D _) (fun k e _ => by cases e; rfl)
    have hm9 : Mod (fun i => i = w.heap.size ∨ i = w.heap.size + 1 ∨ i = w.heap.size + 2 ∨ i = D) W (V9.putObj D (.deferred none)) := (hm.mono (T := fun i => i = w.heap.size ∨ i = w.heap.size + 1 ∨ i = w.heap.size + 2 ∨ i = D) (fun i _ e => by omega)).trans hmD (fun i _ e => by omega)
    have k0 := bx_cell b0 hmD (by omega)
    have k1 := bx_cell b1 hmD (by omega)
    have k2 := bx_cell b2 hmD (by omega)
    have hDn : ∀ (o : Obj), W.heap[D]? = some o → o.isCells = true → False := by intro o ho hc; rw [hK] at ho; cases ho; cases hc
    have rk : ∀ {α : Type} {F : Enc α} {T : TypeId} {p : Option Addr} {cp : Nat} {L : List α}, Rw F T W p cp L → (∀ a, p = some a → w.heap.size + 8 ≤ a.block) → Rw F T (V9.putObj D (.deferred none)) p cp L := by
      intro α F T p cp L hr hb
      refine hr.kept hm9 (fun a e h9 => ?_)
      have := hb a e
      have hD2 : a.block = D := by omega
      subst e
      rcases hr.shape with ⟨e2, _⟩ | ⟨g', e2, _, _, _, cur, hh, _⟩
      · cases e2
      · cases e2; rw [show (⟨g', 0, none⟩ : Addr).block = g' from rfl] at hD2; rw [hD2] at hh; exact hDn _ hh rfl
    refine ⟨.tuple #[.slice q V.length c, .int .i64 0, .bool true], by simp [results, Tryd.results10, go_sem, k0, k1, k2], ?_⟩
    rw [HQ.out]
    have heq := h.eq
    rw [List.drop_length, parG] at heq
    rw [heq]
    exact ⟨h.m.trans (hm9.to_below h.m.size (fun i hi e => by omega)), q, c, V, rfl, rfl, rk h.rw h.nw, (fun a e => by have := h.nw a e; omega), fun v hv => ⟨rk (h.ok v hv).rn (h.ok v hv).bn, rk (h.ok v hv).ri (h.ok v hv).bi, (fun a e => by have := (h.ok v hv).bn a e; omega), fun a e => by have := (h.ok v hv).bi a e; omega⟩⟩
  case stop =>
    rintro D c k W hD hk ⟨rfl, j, h0, h1, h2, hm, he⟩ hK
    have H0 := Lib.hid h0
    have H1 := Lib.hid h1
    have H2 := Lib.hid h2
    have HM := Lib.hid hm
    have HE := Lib.hid he
    clear h0 h1 h2 hm he hI0
    gi_wp2
    have hz := HSZ.out
    refine ⟨by simp, .inl ⟨_, _, rfl, run_takeDeferred hK, ?_⟩⟩
    have hmD : Mod (fun i => i = D) W (W.putObj D (.deferred none)) := (Mod.refl _ _).grown (grownBy_putObj' _ D _) (fun k e _ => by cases e; rfl)
    have k0 := bx_cell H0.out hmD (by omega)
    have k1 := bx_cell H1.out hmD (by omega)
    have k2 := bx_cell H2.out hmD (by omega)
    refine ⟨.tuple #[.slice none 0 0, .int .i64 (j : Int), .bool false], by simp [results, Tryd.results10, go_sem, k0, k1, k2], ?_⟩
    rw [HQ.out, HE.out]
    exact ⟨HM.out.trans (hmD.to_below HM.out.size (fun i hi e => by omega)), none, 0, [], rfl, rfl, Rw.empty _ _, (fun a e => by cases e), fun v hv => by cases hv⟩
end Go.Proofs.YtpdhmjmklmoknaaDoor

namespace Go.Proofs.YtpdhmjmklmoknaaDoor
open Go.RowKit Go.Shelf

def awS : List UInt8 := [98, 108, 111, 99, 107, 32, 97, 32, 51, 32, 49, 32, 116, 107, 32, 53, 32, 50, 32, 48, 32, 114, 111, 111, 116]
def awSt : St := ⟨[98, 108, 111, 99, 107], [[97], [114, 111, 111, 116]], [3, 1, 5, 2, 0], [116, 107]⟩
theorem aw_par : parM awS = ([awSt], 0, true) := by rfl
theorem aw_hex : hexW [10] = [48, 97] := by rfl
/-- A step's cells in a row. -/
theorem encV_cell {w : World} {b c : Nat} {V : List Sv} (h : Rw encV 35 w (some ⟨b, 0, none⟩) c V) (j i : Nat) (hj : j < V.length) (hi : i < 4) : w.cell? ⟨b, j * 4 + i, none⟩ = V[j].c[i]? := by
  obtain ⟨bs, off, e, _, hc⟩ := h.rd j hj
  cases e
  have hlen : (V[j].c).size = 4 := rfl
  have := hc i (V[j].c[i]'(by omega)) (by show V[j].c.toList[i]? = _; simp)
  rw [Nat.zero_add] at this
  rw [show j * 4 + i = j * encV.k + i from rfl, this]
  simp
theorem shape_ne {α : Type} {E : Enc α} {T : TypeId} {w : World} {p : Option Addr} {c : Nat} {L : List α} (h : Rw E T w p c L) (hl : 0 < L.length) : ∃ g, p = some ⟨g, 0, none⟩ ∧ g < w.heap.size := by
  rcases h.shape with ⟨_, rfl, _⟩ | ⟨g, e, hg, _⟩
  · simp at hl
  · exact ⟨g, e, hg⟩

set_option maxRecDepth 20000 in
set_option maxHeartbeats 8000000 in
theorem lawake_any (w : World) : Calls Tryd.prog 8 #[] w fun e w' => e = .returned (.bool true) ∧ Below w.heap.size w w' := by
  have HP := Lib.hid (fun w => lparse_any awS w (by decide))
  have HX := Lib.hid (fun w => lhex_any [10] w (by decide))
  rw [aw_par] at HP
  rw [aw_hex] at HX
  unfold awS at HP
  go_enter Tryd.func8, Tryd.ntmps8
  go_wp2_with fail
  refine (HP.out _).mono ?_
  rintro e w1 ⟨hb, q, c, V, rfl, hV, hR, _, hok⟩
  simp only at hV
  obtain ⟨v, rfl⟩ := List.length_eq_one_iff.1 (show V.length = 1 by have := congrArg List.length hV; simpa using this)
  have hvs : v.st = awSt := by simpa using hV
  obtain ⟨b, rfl, _⟩ := shape_ne hR (by simp)
  have c1 := encV_cell hR 0 1 (by simp) (by omega)
  have c2 := encV_cell hR 0 2 (by simp) (by omega)
  have c3 := encV_cell hR 0 3 (by simp) (by omega)
  have ho := hok v (by simp)
  have hn := ho.rn
  rw [hvs] at hn
  obtain ⟨nb, hna, _⟩ := shape_ne hn (by decide)
  have c4 := (hn.rd.str 1 (by decide))
  simp only [List.getElem_cons_zero, Sv.c, stC, hvs, awSt, hna, List.getElem?_toArray, List.getElem?_cons_succ, List.getElem?_cons_zero, List.length_cons, List.length_nil, Nat.reduceAdd, Nat.reduceMul, Nat.zero_add] at c1 c2 c3
  rw [hna] at c4
  obtain ⟨bs, off, e, _, c4⟩ := c4
  cases e
  simp only [awSt, List.getElem_cons_succ, List.getElem_cons_zero, Nat.zero_add] at c4
  have HB := Lib.hid hb
  clear hV hR hok ho hn hvs hna hb
  go_wp2_with fail
  refine (HX.out _).mono ?_
  rintro e w2 ⟨rfl, hb2⟩
  have HB2 := Lib.hid hb2
  clear hb2
  go_wp2_with fail
  go_ret
  exact ⟨rfl, HB.out.trans (HB2.out.mono HB.out.size)⟩
end Go.Proofs.YtpdhmjmklmoknaaDoor

namespace Go.Proofs.YtpdhmjmklmoknaaDoor
open Go.RowKit Go.Shelf

theorem bcat3 (a b : List UInt8) : (ByteArray.mk a.toArray) ++ (ByteArray.mk b.toArray) = ⟨(a ++ b).toArray⟩ := by apply ByteArray.ext; simp
theorem ext_one (s : List UInt8) (i : Nat) (h : i < s.length) : (ByteArray.mk s.toArray).extract i (i + 1) = ⟨[s[i]].toArray⟩ := by
  rw [ByteArray.extract_mk, List.drop_eq_getElem_cons h, show i + 1 - i = 1 by omega]; rfl
/-- What the reference's Split leaves. -/
def SplP (w : World) (c : UInt8) (s : List UInt8) (r : Ending) (w' : World) : Prop :=
  Below w.heap.size w w' ∧ ∃ q cp, r = .returned (.slice q (spl c s).length cp) ∧ Rw encS 9 w' q cp (spl c s) ∧ ∀ a, q = some a → w.heap.size ≤ a.block

set_option maxRecDepth 20000 in
set_option maxHeartbeats 8000000 in
theorem rlsplit_any (s : List UInt8) (c : UInt8) (w : World) (hl : s.length ≤ 1000000) :
    Calls Tryd.prog 13 #[.string ⟨s.toArray⟩, .int .u8 (c.toNat : Int)] w (SplP w c s) := by
  obtain ⟨B, hB⟩ : ∃ B, B = ByteArray.mk s.toArray := ⟨_, rfl⟩
  rw [← hB]
  obtain ⟨n, hn⟩ : ∃ n, n = s.length := ⟨_, rfl⟩
  have n1 : B.size = n := by rw [hB, hn]; rfl
  have hget : Hid (∀ i (h : i < B.size) (h2 : i < s.length), B[i] = s[i]) := Lib.hid (by subst hB; intro i h h2; rfl)
  have hext : Hid (∀ i (h : i < s.length), B.extract i (i + 1) = ⟨[s[i]].toArray⟩) := Lib.hid (by subst hB; exact fun i h => ext_one s i h)
  have Hn := Lib.hid hn
  have n9 : n ≤ 1000000 := by omega
  obtain ⟨Q, hQ⟩ : ∃ Q, Q = SplP w c s := ⟨_, rfl⟩
  rw [← hQ]
  have HQ := Lib.hid hQ
  obtain ⟨cc, hcc⟩ : ∃ cc, cc = c.toNat := ⟨_, rfl⟩
  rw [← hcc]
  have HCC := Lib.hid hcc
  clear hB hn hQ hcc
  go_enter Tryd.func13, Tryd.ntmps13
  go_wp2_with fail
  obtain ⟨W1, hW1⟩ : ∃ W1, W1 = w.alloc (.cells #[] 9) := ⟨_, rfl⟩
  have h0 : AccR encS 9 w 0 [] (some ⟨w.heap.size, 0, none⟩) 0 W1 := ⟨by rw [hW1]; exact Rw.made (E := encS) 9 w [] (by simp [maxLen]), rfl, (fun a e => by cases e; exact Nat.le_refl _), by rw [hW1]; exact (Below.refl _ _).alloc (Nat.le_refl _) _⟩
  rw [← hW1]
  clear hW1
  go_loopw [5, 6, 7] (fun s5 s6 s7 wr => ∃ (i m : Nat) (D : List (List UInt8)) (q : Option Addr) (cp : Nat) (cur : List UInt8), i ≤ n ∧ s7 = .int .i64 i ∧ s5 = .slice q m cp ∧ s6 = .string ⟨cur.toArray⟩ ∧ m ≤ i ∧ cur.length ≤ i ∧ Hid (spl c s = D ++ splA c cur (s.drop i)) ∧ AccR encS 9 w m D q cp wr) (fun _ _ s7 _ => n - (intOf s7).toNat)
  case atStart => exact ⟨0, 0, [], some ⟨w.heap.size, 0, none⟩, 0, [], by omega, rfl, rfl, rfl, by omega, by simp, Lib.hid rfl, h0⟩
  case round =>
    clear h0
    obtain ⟨i, m, D, q, cp, cur, hin, rfl, rfl, rfl, hmi, hcl, hsp, hA⟩ := hrel
    by_cases hlt : i < n
    · have hib : i < B.size := by omega
      have hil : i < s.length := by rw [← Hn.out]; exact hlt
      have hgt := hget.out i hib hil
      obtain ⟨x, hx⟩ : ∃ x, x = s[i] := ⟨_, rfl⟩
      have hdr : s.drop i = x :: s.drop (i + 1) := by rw [hx]; exact List.drop_eq_getElem_cons hil
      obtain ⟨v, hv⟩ : ∃ v, v = x.toNat := ⟨_, rfl⟩
      have hgv : ((B[i]'hib).toNat : Int) = v := by rw [hgt, hv, hx]
      have i0 : (0 : Int) ≤ i := by omega
      have i1 : (i : Int) < n := by omega
      have i2 : IntKind.i64.wrap ((i : Int) + 1) = (i : Int) + 1 := by rw [IntKind.wrap_i64]; omega
      have HSP := Lib.hid hsp.out
      by_cases hxc : x = c
      · have q1 : ((v : Int) == (cc : Int)) = true := by rw [beq_iff_eq, hv, HCC.out, hxc]
        have hnx : Hid (spl c s = (D ++ [cur]) ++ splA c [] (s.drop (i + 1))) := Lib.hid (by rw [HSP.out, hdr, splA, if_pos hxc]; simp)
        clear hgt hx hdr hv hxc hsp HSP
        go_wp2_with (at_builtin; refine wpList_pushR encS rfl _ _ 30 9 (.string ⟨#[]⟩) 16 rfl Tryd.underlying30 lninfo_str rfl (by decide) q cp m D hA.len rfl (hA.below ((Below.refl _ wr).alloc (Nat.le_refl _) _)).s (some ⟨wr.heap.size, 0, none⟩) 1 1 [cur] rfl rfl (Rd.made encS wr 9 [cur] (by simp [maxLen])) (by omega) ?_)
        intro q2 c2 w6 hP
        have hA2 := Lib.hid ((hA.below ((Below.refl _ wr).alloc (Nat.le_refl _) _)).push hP)
        clear hP
        go_wp2_with fail
        go_roundw
        case rel => exact ⟨i + 1, m + 1, D ++ [cur], q2, c2, [], by omega, by go_num, rfl, rfl, by omega, by simp, hnx, hA2.out⟩
        case measure => simp [intOf]; omega
      · have q1 : ((v : Int) == (cc : Int)) = false := by rw [beq_eq_false_iff_ne, hv, HCC.out]; intro e; exact hxc (UInt8.toNat_inj.1 (by omega))
        have hnx : Hid (spl c s = D ++ splA c (cur ++ [x]) (s.drop (i + 1))) := Lib.hid (by rw [HSP.out, hdr, splA, if_neg hxc])
        have he := hext.out i hil
        rw [← hx] at he
        have i3 : ((i : Int) + 1).toNat = i + 1 := by omega
        have i4 : (i : Int) + 1 ≤ n := by omega
        obtain ⟨C, hC⟩ : ∃ C, C = ByteArray.mk cur.toArray := ⟨_, rfl⟩
        have hCs : C.size ≤ 1000000 := by rw [hC]; show cur.length ≤ _; omega
        have HCA : Hid (C ++ B.extract i (i + 1) = ⟨(cur ++ [x]).toArray⟩) := Lib.hid (by rw [he, hC]; exact bcat3 cur [x])
        have hes : (B.extract i (i + 1)).size = 1 := by rw [he]; rfl
        rw [← hC]
        clear hgt hx hdr hv hxc hsp HSP he hC
        go_wp2_with fail
        go_roundw
        case rel => exact ⟨i + 1, m, D, q, cp, cur ++ [x], by omega, by go_num, rfl, by rw [HCA.out], by omega, by simp; omega, hnx, hA⟩
        case measure => simp [intOf]; omega
    · obtain rfl : i = n := by omega
      have hfin : Hid (spl c s = D ++ [cur]) := Lib.hid (by rw [hsp.out, List.drop_of_length_le (by rw [← Hn.out]; exact Nat.le_refl _)]; rfl)
      clear hsp
      go_wp2_with (at_builtin; refine wpList_pushR encS rfl _ _ 30 9 (.string ⟨#[]⟩) 16 rfl Tryd.underlying30 lninfo_str rfl (by decide) q cp m D hA.len rfl (hA.below ((Below.refl _ wr).alloc (Nat.le_refl _) _)).s (some ⟨wr.heap.size, 0, none⟩) 1 1 [cur] rfl rfl (Rd.made encS wr 9 [cur] (by simp [maxLen])) (by omega) ?_)
      intro q2 c2 w6 hP
      have hA2 := Lib.hid ((hA.below ((Below.refl _ wr).alloc (Nat.le_refl _) _)).push hP)
      clear hP
      go_wp2_with fail
      rw [HQ.out]
      exact ⟨hA2.out.m, q2, c2, by rw [hfin.out, hA2.out.len]; rfl, by rw [hfin.out]; exact hA2.out.s, hA2.out.new⟩

/-- What Digits has written: the last digits of n; m is what is left. -/
def dgD (n : Nat) : Nat → Nat × List UInt8
  | 0 => (n, [])
  | k + 1 => ((dgD n k).1 / 10, UInt8.ofNat (48 + (dgD n k).1 % 10) :: (dgD n k).2)
theorem dec_split : ∀ (k n : Nat), k = 0 ∨ (dgD n k).1 = 0 ∨ 0 < (dgD n k).1 → (0 < (dgD n k).1 → Lib.decDigits n = Lib.decDigits (dgD n k).1 ++ (dgD n k).2) ∧ (0 < k → (dgD n k).1 = 0 → (k = 1 ∨ 0 < (dgD n (k - 1)).1) → Lib.decDigits n = (dgD n k).2)
  | 0, n, _ => ⟨fun _ => by simp [dgD], fun h => absurd h (by omega)⟩
  | k + 1, n, _ => by
    obtain ⟨h1, h2⟩ := dec_split k n (by omega)
    have e1 : (dgD n (k + 1)).1 = (dgD n k).1 / 10 := rfl
    have e2 : (dgD n (k + 1)).2 = UInt8.ofNat (48 + (dgD n k).1 % 10) :: (dgD n k).2 := rfl
    refine ⟨fun h => ?_, fun _ h0 h => ?_⟩
    · rw [e1] at h
      rw [h1 (by omega), e1, e2]
      conv => lhs; rw [Lib.decDigits, dif_neg (show ¬ (dgD n k).1 < 10 by omega)]
      simp
    · rw [e1] at h0
      rw [e2]
      by_cases hk : k = 0
      · subst hk
        have h9 : n < 10 := by have : (dgD n 0).1 = n := rfl; omega
        show _ = UInt8.ofNat (48 + n % 10) :: []
        rw [Lib.decDigits_one h9, show n % 10 = n by omega]
      · have hp : 0 < (dgD n k).1 := by
          rcases h with h | h
          · omega
          · exact h
        rw [h1 hp, Lib.decDigits_one (show (dgD n k).1 < 10 by omega), show (dgD n k).1 % 10 = (dgD n k).1 by omega]; rfl
theorem dgD_len (n : Nat) : ∀ k, (dgD n k).2.length = k
  | 0 => rfl
  | k + 1 => by show (_ :: (dgD n k).2).length = _; rw [List.length_cons, dgD_len n k]
set_option maxRecDepth 20000 in
set_option maxHeartbeats 8000000 in
theorem rldigits_any (n : Nat) (w : World) (hn : n < 100000000000000) :
    Calls Tryd.prog 37 #[.int .i64 (n : Int)] w fun e w' => e = .returned (.string ⟨(Lib.decDigits n).toArray⟩) ∧ Below w.heap.size w w' := by
  go_enter Tryd.func37, Tryd.ntmps37
  go_wp2_with fail
  go_loopw [0, 3, 4] (fun s0 s3 s4 wr => ∃ k m : Nat, s0 = .int .i64 m ∧ s3 = .string ⟨(dgD n k).2.toArray⟩ ∧ s4 = .int .i64 k ∧ Hid ((dgD n k).1 = m) ∧ Hid (m * 10 ^ k ≤ n) ∧ m ≤ n ∧ k ≤ 15 ∧ Hid (k = 0 ∨ k = 1 ∨ 0 < (dgD n (k - 1)).1) ∧ Below w.heap.size w wr) (fun s0 _ s4 _ => 2 * (intOf s0).toNat + (1 - (intOf s4).toNat))
  case atStart => exact ⟨0, n, rfl, rfl, rfl, Lib.hid rfl, Lib.hid (by simp), by omega, by omega, Lib.hid (.inl rfl), Below.refl _ _⟩
  case round =>
    obtain ⟨k, m, rfl, rfl, rfl, hm, hp, hmn, hk, hor, hb⟩ := hrel
    by_cases hgo : k = 0 ∨ 0 < m
    · have hk14 : k ≤ 14 := by
        rcases hgo with h | h
        · omega
        · have h1 : 10 ^ k ≤ n := Nat.le_trans (Nat.le_mul_of_pos_left _ h) hp.out
          by_cases hc : k ≤ 14
          · exact hc
          · have : 10 ^ 15 ≤ 10 ^ k := Nat.pow_le_pow_right (by decide) (by omega)
            omega
      obtain ⟨d, hd⟩ : ∃ d, d = m % 10 := ⟨_, rfl⟩
      obtain ⟨m2, hm2⟩ : ∃ m2, m2 = m / 10 := ⟨_, rfl⟩
      have q1 : (m : Int).tmod 10 = d := by rw [Int.tmod_eq_emod_of_nonneg (by omega)]; omega
      have q2 : (m : Int).tdiv 10 = m2 := by rw [Int.tdiv_eq_ediv_of_nonneg (by omega)]; omega
      have q3 : IntKind.i64.wrap (48 + (d : Int)) = 48 + (d : Int) := by rw [IntKind.wrap_i64]; omega
      have q4 : IntKind.u8.wrap (48 + (d : Int)) = 48 + (d : Int) := by rw [IntKind.wrap_u8]; omega
      have q5 : IntKind.i64.wrap ((k : Int) + 1) = (k : Int) + 1 := by rw [IntKind.wrap_i64]; omega
      have q6 : IntKind.i64.wrap (m2 : Int) = m2 := by rw [IntKind.wrap_i64]; omega
      have hcv := convLit1 (P := Tryd.prog) 44 9 5 Tryd.underlying44 Tryd.underlying5 Tryd.underlying9 wr (48 + (d : Int))
      have hnx : Hid (dgD n (k + 1) = (m2, UInt8.ofNat (48 + d) :: (dgD n k).2)) := Lib.hid (by show ((dgD n k).1 / 10, _) = _; rw [hm.out, hd, hm2])
      have hln := dgD_len n k
      obtain ⟨C, hC⟩ : ∃ C, C = ByteArray.mk (dgD n k).2.toArray := ⟨_, rfl⟩
      have hCs : C.size ≤ 100 := by rw [hC]; show (dgD n k).2.length ≤ 100; omega
      have hcat : Hid ((⟨#[48 + UInt8.ofNat d]⟩ : ByteArray) ++ C = ⟨(dgD n (k + 1)).2.toArray⟩) := Lib.hid (by
        rw [hnx.out, hC, show (48 + UInt8.ofNat d) = UInt8.ofNat (48 + d) by simp]; exact bcat3 [UInt8.ofNat (48 + d)] (dgD n k).2)
      have hp2 : Hid (m2 * 10 ^ (k + 1) ≤ n) := Lib.hid (by
        have h2 : m2 * 10 ≤ m := by omega
        have := Nat.mul_le_mul_right (10 ^ k) h2
        have h1 := hp.out
        rw [Nat.pow_succ, Nat.mul_comm (10 ^ k) 10, ← Nat.mul_assoc]; omega)
      have hor2 : Hid (k + 1 = 0 ∨ k + 1 = 1 ∨ 0 < (dgD n (k + 1 - 1)).1) := Lib.hid (by
        rcases hgo with h | h
        · exact .inr (.inl (by omega))
        · exact .inr (.inr (by rw [Nat.add_sub_cancel, hm.out]; exact h))
        )
      have hb2 : Below w.heap.size w (wr.alloc (.cells #[.int .u8 (48 + (d : Int))] 5)) := hb.alloc hb.size _
      have hmm : m2 ≤ m := by omega
      have hm2n : m2 ≤ n := by omega
      have hmlt : Hid (k ≠ 0 → m2 < m) := Lib.hid (fun h => by omega)
      have HD := Lib.hid hd
      have HM2 := Lib.hid hm2
      rw [← hC]
      clear hC hm hp hln hd hm2
      by_cases hk0 : k = 0
      · subst hk0
        clear hgo hor
        go_wp2_with fail
        go_roundw
        case rel => exact ⟨0 + 1, m2, by go_num, by rw [hcat.out], by go_num, Lib.hid (by rw [hnx.out]), hp2, by omega, by omega, hor2, hb2⟩
        case measure => simp [intOf]; omega
      · have hmp : (0 : Int) < m := by omega
        have hkz : ((k : Int) == 0) = false := by rw [beq_eq_false_iff_ne]; omega
        clear hgo hor
        go_wp2_with fail
        go_roundw
        case rel => exact ⟨k + 1, m2, by go_num, by rw [hcat.out], by go_num, Lib.hid (by rw [hnx.out]), hp2, by omega, by omega, hor2, hb2⟩
        case measure => simp [intOf]; have := hmlt.out hk0; omega
    · have hkz : ((k : Int) == 0) = false := by rw [beq_eq_false_iff_ne]; omega
      obtain rfl : m = 0 := by omega
      have hfin : Hid (Lib.decDigits n = (dgD n k).2) := Lib.hid ((dec_split k n (by omega)).2 (by omega) hm.out (by
        rcases hor.out with h | h | h
        · omega
        · exact .inl h
        · exact .inr h))
      clear hm hp hor
      go_wp2_with fail
      go_ret
      exact ⟨by rw [hfin.out]; rfl, hb⟩
end Go.Proofs.YtpdhmjmklmoknaaDoor
