/- Texts 6: what the laws lean on. -/
import Derived.Test.YtpdhmjmklmoknaaDoorZ5
import Derived.Test.YtpdhmjmklmoknaaDoorZ3
import Derived.Test.YtpdhmjmklmoknaaDoorZ2
import Derived.Lib.LaidTab
import Derived.Stop.LaidErr
import Derived.WalkKit
import Derived.ProofKit
import Derived.OpenShut
import Derived.LaidSub
import Derived.Test.YtpdhmjmklmoknaaDoorCards
import Derived.Deep.DeepHandedRow
set_option linter.unusedVariables false
set_option linter.unusedSimpArgs false
namespace Go.Proofs.YtpdhmjmklmoknaaDoor
open Go.RowKit Go.Shelf

/-- Bytes more, as an operation. -/
theorem wpList_pushBr {ops : Array Oper} {rest : List Oper} {o : Oper} {a : Act} {Q : Exit → Act → World → Prop} {w : World} (hgd : o.guard = none) (s x : Operand) (tx : TypeId)
    (ho : o.op = .call { callee := .builtin .append, args := #[s, x], argTypes := #[44, tx] }) (p : Option Addr) (cap n : Nat) (L : List UInt8) (hn : L.length = n) (hs : a.eval s = .slice p n cap) (hB : Br w p cap L)
    (xv : Value) (hx : a.eval x = xv) (Y : List UInt8) (m : Nat) (hm : Y.length = m) (hsrc : Src Tryd.prog 1 tx xv m (vals Y) w) (hl : n + m ≤ 100000000000)
    (h : ∀ q c w', Br w' q c (L ++ Y) → Mod (fun i => ∃ b, p = some b ∧ i = b.block) w w' → (∀ b, q = some b → (p = some b ∨ w.heap.size ≤ b.block)) → wpList Tryd.prog ops Q rest (a.put o.dst (.slice q (n + m) c)) w') :
    wpList Tryd.prog ops Q (o :: rest) a w := by
  subst hn
  subst hm
  obtain ⟨q, c, w', hr, h1, h2, h3⟩ := hB.push tx o.type xv Y hsrc hl
  refine wpList_exec hgd ?_ (h q c w' h1 h2 h3)
  unfold execOp
  simp only [ho, resolve, invoke, builtin, Sem.run_bind, Sem.run_pure, Result.andThen_ok, List.map_toArray, List.map_cons, List.map_nil, hs, hx, hr]
structure LnR (w : World) (g ib : Nat) (C : Array Value) (DN : ByteArray) (Z : List UInt8) (k : Nat) (RN RT : List (List UInt8)) (qn : Option Addr) (cn : Nat) (qt : Option Addr) (ct : Nat) (qb : Option Addr) (cb : Nat) (Db G : List UInt8) (wr : World) : Prop where
  br : Br wr qb cb Db
  rn : Rd encS wr qn RN
  cn : RN.length ≤ cn
  rt : Rd encS wr qt RT
  ct : RT.length ≤ ct
  bx : wr.heap[g]? = some (.cells C 35 (0, 0))
  it : wr.heap[ib]? = some (.stringIter DN k)
  eq : Z = Db ++ G
  ab : ∀ a, qb = some a → w.heap.size ≤ a.block ∧ a.block ≠ g ∧ a.block ≠ ib
  an : ∀ a b, qb = some a → qn = some b → a.block ≠ b.block
  at_ : ∀ a b, qb = some a → qt = some b → a.block ≠ b.block
  nl : ∀ b, qn = some b → b.block < wr.heap.size ∧ b.block ≠ ib
  tl : ∀ b, qt = some b → b.block < wr.heap.size ∧ b.block ≠ ib
  m : Below w.heap.size w wr
  lb : w.heap.size ≤ ib
  gi : g ≠ ib
  s1 : RN.length ≤ 1000000
  s2 : RT.length ≤ 1000000
  sz : Z.length ≤ 100000000
section
variable {w : World} {g ib : Nat} {C : Array Value} {DN : ByteArray} {Z : List UInt8} {k : Nat} {RN RT : List (List UInt8)} {qn : Option Addr} {cn : Nat} {qt : Option Addr} {ct : Nat} {qb : Option Addr} {cb : Nat} {Db G : List UInt8} {wr : World}
theorem LnR.below (h : LnR w g ib C DN Z k RN RT qn cn qt ct qb cb Db G wr) {W : World} (hb : Below wr.heap.size wr W) : LnR w g ib C DN Z k RN RT qn cn qt ct qb cb Db G W :=
  ⟨h.br.old hb, h.rn.old hb, h.cn, h.rt.old hb, h.ct, (hb.block _ (Array.getElem?_eq_some_iff.1 h.bx).1).trans h.bx, (hb.block _ (Array.getElem?_eq_some_iff.1 h.it).1).trans h.it, h.eq, h.ab, h.an, h.at_, (fun b e => ⟨Nat.lt_of_lt_of_le (h.nl b e).1 hb.size, (h.nl b e).2⟩), (fun b e => ⟨Nat.lt_of_lt_of_le (h.tl b e).1 hb.size, (h.tl b e).2⟩), h.m.trans (hb.mono h.m.size), h.lb, h.gi, h.s1, h.s2, h.sz⟩
theorem LnR.step (h : LnR w g ib C DN Z k RN RT qn cn qt ct qb cb Db G wr) {W : World} (hm : Mod (· = ib) wr W) (hit : W.heap[ib]? = some (.stringIter DN (k + 1))) : LnR w g ib C DN Z (k + 1) RN RT qn cn qt ct qb cb Db G W :=
  ⟨h.br.kept hm (fun a e => (h.ab a e).2.2), rdK h.rn hm (fun b e => (h.nl b e).2), h.cn, rdK h.rt hm (fun b e => (h.tl b e).2), h.ct, (hm.block _ (Array.getElem?_eq_some_iff.1 h.bx).1 h.gi).trans h.bx, hit, h.eq, h.ab, h.an, h.at_, (fun b e => ⟨Nat.lt_of_lt_of_le (h.nl b e).1 hm.size, (h.nl b e).2⟩), (fun b e => ⟨Nat.lt_of_lt_of_le (h.tl b e).1 hm.size, (h.tl b e).2⟩), h.m.trans (hm.to_below h.m.size (fun i hi e => by have := h.lb; omega)), h.lb, h.gi, h.s1, h.s2, h.sz⟩
theorem LnR.push (h : LnR w g ib C DN Z k RN RT qn cn qt ct qb cb Db G wr) {W : World} {Y G' : List UInt8} {q : Option Addr} {c : Nat} (hB : Br W q c (Db ++ Y)) (hm : Mod (fun i => ∃ b, qb = some b ∧ i = b.block) wr W) (hq : ∀ b, q = some b → (qb = some b ∨ wr.heap.size ≤ b.block)) (he : G = Y ++ G') :
    LnR w g ib C DN Z k RN RT qn cn qt ct q c (Db ++ Y) G' W := by
  have hg := (Array.getElem?_eq_some_iff.1 h.bx).1
  have hi := (Array.getElem?_eq_some_iff.1 h.it).1
  refine ⟨hB, rdK h.rn hm (fun b e => by rintro ⟨a, e2, e3⟩; exact h.an a b e2 e e3.symm), h.cn, rdK h.rt hm (fun b e => by rintro ⟨a, e2, e3⟩; exact h.at_ a b e2 e e3.symm), h.ct, (hm.block _ hg (by rintro ⟨a, e2, e3⟩; exact (h.ab a e2).2.1 e3.symm)).trans h.bx, (hm.block _ hi (by rintro ⟨a, e2, e3⟩; exact (h.ab a e2).2.2 e3.symm)).trans h.it, by rw [h.eq, he]; simp, ?_, ?_, ?_, (fun b e => ⟨Nat.lt_of_lt_of_le (h.nl b e).1 hm.size, (h.nl b e).2⟩), (fun b e => ⟨Nat.lt_of_lt_of_le (h.tl b e).1 hm.size, (h.tl b e).2⟩), h.m.trans (hm.to_below h.m.size (by rintro i hi2 ⟨a, e2, rfl⟩; have := (h.ab a e2).1; omega)), h.lb, h.gi, h.s1, h.s2, h.sz⟩
  · intro a e
    rcases hq a e with h1 | h1
    · exact h.ab a h1
    · have := h.m.size; exact ⟨by omega, by omega, by omega⟩
  · intro a b e e2
    rcases hq a e with h1 | h1
    · exact h.an a b h1 e2
    · have := (h.nl b e2).1; omega
  · intro a b e e2
    rcases hq a e with h1 | h1
    · exact h.at_ a b h1 e2
    · have := (h.tl b e2).1; omega
theorem LnR.names (h : LnR w g ib C DN Z k RN RT qn cn qt ct qb cb Db G wr) {RN' : List (List UInt8)} {q : Option Addr} {c : Nat} (hR : Rd encS wr q RN') (hc : RN'.length ≤ c) (hl : RN'.length ≤ RN.length) (hq : ∀ z, q = some z → ∃ b, qn = some b ∧ z.block = b.block) : LnR w g ib C DN Z k RN' RT q c qt ct qb cb Db G wr :=
  ⟨h.br, hR, hc, h.rt, h.ct, h.bx, h.it, h.eq, h.ab, (fun a b e e2 => by obtain ⟨b2, e3, e4⟩ := hq b e2; rw [e4]; exact h.an a b2 e e3), h.at_, (fun b e => by obtain ⟨b2, e3, e4⟩ := hq b e; rw [e4]; exact h.nl b2 e3), h.tl, h.m, h.lb, h.gi, Nat.le_trans hl h.s1, h.s2, h.sz⟩
theorem LnR.texts (h : LnR w g ib C DN Z k RN RT qn cn qt ct qb cb Db G wr) {RT' : List (List UInt8)} {q : Option Addr} {c : Nat} (hR : Rd encS wr q RT') (hc : RT'.length ≤ c) (hl : RT'.length ≤ RT.length) (hq : ∀ z, q = some z → ∃ b, qt = some b ∧ z.block = b.block) : LnR w g ib C DN Z k RN RT' qn cn q c qb cb Db G wr :=
  ⟨h.br, h.rn, h.cn, hR, hc, h.bx, h.it, h.eq, h.ab, h.an, (fun a b e e2 => by obtain ⟨b2, e3, e4⟩ := hq b e2; rw [e4]; exact h.at_ a b2 e e3), h.nl, (fun b e => by obtain ⟨b2, e3, e4⟩ := hq b e; rw [e4]; exact h.tl b2 e3), h.m, h.lb, h.gi, h.s1, Nat.le_trans hl h.s2, h.sz⟩
theorem LnR.len (h : LnR w g ib C DN Z k RN RT qn cn qt ct qb cb Db G wr) : Db.length + G.length ≤ 100000000 := by have := h.sz; rw [h.eq, List.length_append] at this; exact this
theorem LnR.re (h : LnR w g ib C DN Z k RN RT qn cn qt ct qb cb Db G wr) {G' : List UInt8} (e : G = G') : LnR w g ib C DN Z k RN RT qn cn qt ct qb cb Db G' wr := by subst e; exact h
end
end Go.Proofs.YtpdhmjmklmoknaaDoor

namespace Go.Proofs.YtpdhmjmklmoknaaDoor
open Go.RowKit Go.Shelf

theorem src_str (w : World) (Fl : List UInt8) : Src Tryd.prog 1 9 (.string ⟨Fl.toArray⟩) Fl.length (vals Fl) w := by
  have h := Src.ofString (P := Tryd.prog) (w := w) Tryd.underlying9 ⟨Fl.toArray⟩
  rw [bytesValsU] at h
  exact h
theorem src_one (w : World) : Src Tryd.prog 1 44 (.slice (some ⟨w.heap.size, 0, none⟩) 1 1) 1 (vals [32]) (w.alloc (.cells #[.int .u8 32] 5)) := by
  refine Src.ofSlice _ Tryd.underlying44 ⟨w.heap.size, 0, none⟩ 1 1 (vals [32]) rfl (fun j u hu => ?_) (fun u hu => by simp [vals] at hu; rw [hu]; rfl)
  have hj : j = 0 := by have := (List.getElem?_eq_some_iff.1 hu).1; simp [vals] at this; exact this
  subst hj
  have e : u = .int .u8 32 := by simp [vals] at hu; exact hu.symm
  rw [e, Addr.add_mid, cell_of_row _ w.heap.size _ _ 5 (0, 0) (heap_alloc_new w _)]; rfl
theorem br_text {w : World} {p : Option Addr} {cap : Nat} {L : List UInt8} (h : Br w p cap L) : (convert 44 9 (.slice p L.length cap)).run Tryd.prog w = .ok (.string ⟨L.toArray⟩) w := by
  obtain ⟨g, cur, fr, rfl, hg, _, h1, _, h3, h4⟩ := h
  rw [run_convert_bytes_arg w 44 5 Tryd.underlying44 Tryd.underlying5 g 0 L.length cap (L.map fun x => (x.toNat : Int)) (by simp) (fun i hi => by
    have : (vals L)[i]? = some (.int .u8 (L[i].toNat : Int)) := by simp [vals, hi]
    rw [← h4, List.getElem?_take, if_pos hi, Array.getElem?_toList] at this
    rw [Nat.zero_add, cell_of_row w g i cur 5 fr hg, this]
    simp [List.getD, hi]) 9 Tryd.underlying9]
  simp [strOfNums, Function.comp_def]
set_option maxRecDepth 1000000 in
set_option maxHeartbeats 32000000 in
theorem lline_any (x : St) (na : Option Addr) (nc : Nat) (ia : Option Addr) (ic : Nat) (w : World) (hn : Rw encS 9 w na nc x.names) (hi : Rw encNt 3 w ia ic x.nums) (hs1 : x.names.length ≤ 1000000) (hs2 : x.nums.length ≤ 1000000)
    (hnum : ∀ n ∈ x.nums, n ≤ 9223372036854775807) (hz : (lineM x).length ≤ 100000000) (hT : PowAt w) :
    Calls Tryd.prog 14 #[.agg (stC x na nc ia ic)] w fun e w' => e = .returned (.string ⟨(lineM x).toArray⟩) ∧ Below w.heap.size w w' := by
  obtain ⟨C, hC⟩ : ∃ C, C = stC x na nc ia ic := ⟨_, rfl⟩
  obtain ⟨W1, hW1⟩ : ∃ W1, W1 = w.alloc (.cells (stC x na nc ia ic) 35) := ⟨_, rfl⟩
  have hB1 : Below w.heap.size w W1 := by rw [hW1]; exact (Below.refl _ _).alloc (Nat.le_refl _) _
  have hA : W1.heap[w.heap.size]? = some (.cells C 35 (0, 0)) := by rw [hW1, hC]; exact heap_alloc_new w _
  have a0 := cell_of_row W1 w.heap.size 0 _ _ _ hA
  obtain ⟨WB, hWB⟩ : ∃ B, B = ByteArray.mk x.word.toArray := ⟨_, rfl⟩
  obtain ⟨XB, hXB⟩ : ∃ B, B = ByteArray.mk x.text.toArray := ⟨_, rfl⟩
  obtain ⟨nn, hnn⟩ : ∃ n, n = x.names.length := ⟨_, rfl⟩
  obtain ⟨ni, hni⟩ : ∃ n, n = x.nums.length := ⟨_, rfl⟩
  have g0 : C[0]? = some (.string WB) := by rw [hC, hWB]; rfl
  have g1 : C[1]? = some (.slice na nn nc) := by rw [hC, hnn]; rfl
  have g2 : C[2]? = some (.slice ia ni ic) := by rw [hC, hni]; rfl
  have g3 : C[3]? = some (.string XB) := by rw [hC, hXB]; rfl
  rw [g0] at a0
  have HC3 := Lib.hid g3
  have HXB := Lib.hid hXB
  obtain ⟨nd, hnd⟩ : ∃ nd, nd = (needP x.word).getD [] := ⟨_, rfl⟩
  have hasc : nd.length ≤ 8 ∧ ∀ c ∈ nd, c.toNat < 128 := by
    rw [hnd]
    cases h : needP x.word with
    | none => exact ⟨by simp, fun c hc => by cases hc⟩
    | some l => exact need_ascii h
  obtain ⟨nl, nasc⟩ := hasc
  have HNEED := Lib.hid (fun w => lneeds_any x.word w)
  obtain ⟨DN, hDN⟩ : ∃ D, D = ByteArray.mk nd.toArray := ⟨_, rfl⟩
  rw [← hnd, ← hDN, ← hWB] at HNEED
  generalize (needP x.word).isSome = okn at HNEED
  obtain ⟨TX, hTX⟩ : ∃ T, T = x.nums.map Lib.decDigits := ⟨_, rfl⟩
  have hZ : lineM x = x.word ++ lnG nd x.names TX x.text := by unfold lineM; rw [hnd, hTX]
  have hwl : x.word.length ≤ 100000000 := by rw [hZ, List.length_append] at hz; omega
  obtain ⟨cap, W2, hcv, hb2, hBr⟩ := Br.conv W1 x.word (by omega)
  rw [← hWB] at hcv
  obtain ⟨wl, hwle⟩ : ∃ n, n = x.word.length := ⟨_, rfl⟩
  rw [← hwle] at hcv
  have HC1 : Hid (∀ w1, Below W2.heap.size W2 w1 → w1.cell? ⟨w.heap.size, 1, none⟩ = some (.slice na nn nc)) := Lib.hid (fun w1 hb => by
    have := (hb.block _ (Array.getElem?_eq_some_iff.1 ((hb2.block _ (Array.getElem?_eq_some_iff.1 hA).1).trans hA)).1).trans ((hb2.block _ (Array.getElem?_eq_some_iff.1 hA).1).trans hA)
    rw [cell_of_row w1 w.heap.size 1 _ _ _ this, g1])
  have HC2 : Hid (∀ w1, Below W2.heap.size W2 w1 → w1.cell? ⟨w.heap.size, 2, none⟩ = some (.slice ia ni ic)) := Lib.hid (fun w1 hb => by
    have := (hb.block _ (Array.getElem?_eq_some_iff.1 ((hb2.block _ (Array.getElem?_eq_some_iff.1 hA).1).trans hA)).1).trans ((hb2.block _ (Array.getElem?_eq_some_iff.1 hA).1).trans hA)
    rw [cell_of_row w1 w.heap.size 2 _ _ _ this, g2])
  have hB2 : Below w.heap.size w W2 := hB1.trans (hb2.mono hB1.size)
  have HTX : Hid (∀ w1, Below W2.heap.size W2 w1 → Calls Tryd.prog 22 #[.slice ia ni ic] w1 fun e w' => Below w1.heap.size w1 w' ∧ ∃ q c, e = .returned (.slice q ni c) ∧ Rw encS 9 w' q c TX ∧ ∀ a, q = some a → w1.heap.size ≤ a.block) := Lib.hid (fun w1 hb => by
    have hbb : Below w.heap.size w w1 := hB2.trans (hb.mono hB2.size)
    have := ltexts_any ia ic x.nums w1 (hi.old hbb).rd hnum (by omega) (hT.old hbb)
    rw [← hni, ← hTX] at this
    exact this)
  have hgbn : W1.heap.size ≠ w.heap.size := by have := (Array.getElem?_eq_some_iff.1 hA).1; omega
  obtain ⟨gb, hgb⟩ : ∃ g, g = W1.heap.size := ⟨_, rfl⟩
  have hgb1 : w.heap.size < gb := by rw [hgb]; exact (Array.getElem?_eq_some_iff.1 hA).1
  have hgb2 : gb < W2.heap.size := by obtain ⟨g', cur, fr, e, hg', _⟩ := hBr; cases e; rw [hgb]; exact (Array.getElem?_eq_some_iff.1 hg').1
  rw [← hgb] at hcv hBr
  have HA2 := Lib.hid ((hb2.block _ (Array.getElem?_eq_some_iff.1 hA).1).trans hA)
  have HBR := Lib.hid hBr
  have HN2 := Lib.hid (hn.old hB2)
  have HB2 := Lib.hid hB2
  have HNA : Hid (∀ b, na = some b → b.block < w.heap.size) := Lib.hid (fun b e => by subst e; exact hn.lt)
  have HZ := Lib.hid hZ
  have HW1 := Lib.hid hW1
  have HGB := Lib.hid (And.intro hgb1 hgb2)
  have HSZ := Lib.hid hz
  have HNN0 := Lib.hid hnn
  have HNI := Lib.hid hni
  have HTXE := Lib.hid hTX
  have HDN := Lib.hid hDN
  have HASC := Lib.hid nasc
  have HWL := Lib.hid hwle
  obtain ⟨Z, hZZ⟩ : ∃ Z, Z = lineM x := ⟨_, rfl⟩
  rw [← hZZ] at HZ HSZ ⊢
  clear hZZ hC hW1 hB1 hA g0 g1 g2 g3 hWB hXB hnn hni hnd nasc hDN hTX hZ hwl hb2 hBr hwle hB2 hgbn hgb hgb1 hgb2 hn hi hnum hz hT
  go_enter Tryd.func14, Tryd.ntmps14
  go_upto_region 1 with fail
  rw [← HW1.out]
  go_wp2_with fail
  refine (HNEED.out _).mono ?_
  rintro e w2 ⟨rfl, rfl⟩
  go_upto_region 3 with fail
  have HG0 : Hid ((fun (j : Nat) (v : Value) (w1 : World) => Below W2.heap.size W2 w1 ∧ (1 ≤ j → ∃ q c, v = .slice q ni c ∧ Rw encS 9 w1 q c TX ∧ ∀ z, q = some z → W2.heap.size ≤ z.block)) 0 undef W2.drew) := Lib.hid ⟨(Below.refl _ _).drew, (fun h => absurd h (by omega))⟩
  refine wp_region_chain2 (fun t v => match t with
    | 20 => v = .pointer (some ⟨w.heap.size, 1, none⟩)
    | 21 => v = .slice na nn nc
    | 22 => v = .pointer (some ⟨w.heap.size, 2, none⟩)
    | 23 => v = .slice ia ni ic
    | 6 => v = .slice na nn nc
    | _ => True) (fun (j : Nat) (v : Value) (w1 : World) => Below W2.heap.size W2 w1 ∧ (1 ≤ j → ∃ q c, v = .slice q ni c ∧ Rw encS 9 w1 q c TX ∧ ∀ z, q = some z → W2.heap.size ≤ z.block)) [4, 6] 69 (by kernel_rfl) (by decide +kernel) rfl (by decide +kernel) (by decide) (by decide) HG0.out (by
    refine OweAllC.cons (owesC_val 2 (by decide +kernel) (by decide) rfl rfl fun k' a w1 x hk ha hG hV => ?_) ?_
    · skip
      have h1 := ha.outer 1 (by decide +kernel)
      simp only [Act.eval] at h1
      exact ⟨.pointer (some ⟨w.heap.size, 1, none⟩), wanted_free rfl, by simp [execOp, go_sem, h1], rfl⟩
    refine OweAllC.cons (owesC_val 2 (by decide +kernel) (by decide) rfl rfl fun k' a w1 x hk ha hG hV => ?_) ?_
    · skip
      have h20 : a.tmps.getD 20 undef = .pointer (some ⟨w.heap.size, 1, none⟩) := hV.get 20 (by decide +kernel)
      have cc := HC1.out w1 hG.1
      exact ⟨.slice na nn nc, wanted_free rfl, by simp [execOp, go_sem, h20, cc], rfl⟩
    refine OweAllC.cons (owesC_val 0 (by decide +kernel) (by decide) rfl rfl fun k' a w1 x hk ha hG hV => ?_) ?_
    · skip
      have h1 := ha.outer 1 (by decide +kernel)
      simp only [Act.eval] at h1
      exact ⟨.pointer (some ⟨w.heap.size, 2, none⟩), wanted_free rfl, by simp [execOp, go_sem, h1], rfl⟩
    refine OweAllC.cons (owesC_val 0 (by decide +kernel) (by decide) rfl rfl fun k' a w1 x hk ha hG hV => ?_) ?_
    · skip
      have h22 : a.tmps.getD 22 undef = .pointer (some ⟨w.heap.size, 2, none⟩) := hV.get 22 (by decide +kernel)
      have cc := HC2.out w1 hG.1
      exact ⟨.slice ia ni ic, wanted_free rfl, by simp [execOp, go_sem, h22, cc], rfl⟩
    refine OweAllC.cons (owesC_call 0 rfl rfl rfl 22 fun a w1 x ha hG hx hV => ?_) ?_
    · skip
      have h23 : a.tmps.getD 23 undef = .slice ia ni ic := hV.get 23 (by decide +kernel)
      refine ⟨#[.slice ia ni ic], wanted_free rfl, by simp [execOp, resolve, invoke, go_sem, h23], ?_⟩
      refine (HTX.out w1 hG.1).mono ?_
      rintro r w2 ⟨hb, q, c, rfl, hR, hq⟩
      exact ⟨_, rfl, trivial, hG.1.trans (hb.mono hG.1.size), fun _ => ⟨q, c, rfl, hR, fun z e => Nat.le_trans hG.1.size (hq z e)⟩⟩
    refine OweAllC.cons (owesC_val 2 (by decide +kernel) (by decide) rfl rfl fun k' a w1 x hk ha hG hV => ?_) ?_
    · skip
      have h21 : a.tmps.getD 21 undef = .slice na nn nc := hV.get 21 (by decide +kernel)
      exact ⟨.slice na nn nc, wanted_free rfl, by simp [execOp, go_sem, h21], rfl⟩
    refine OweAllC.cons (owesC_mem 1 rfl rfl rfl fun a w1 x ha hG hx hV => ?_) ?_
    · skip
      have h24 := hx 0 4 _ 24 rfl rfl rfl rfl
      simp only [Act.eval] at h24
      obtain ⟨q, c, hx1, hR⟩ := hG.2 (by omega)
      exact ⟨_, _, wanted_free rfl, by simp [execOp, go_sem, h24], trivial, hG.1, fun _ => ⟨q, c, hx1, hR⟩⟩
    exact OweAllC.nil
    ) ?_
  intro f wz xz hG hx hv
  have e6 : f 6 = .slice na nn nc := hv 5 _ 6 rfl rfl
  have e7 : f 7 = xz := hx 1 6 _ 7 rfl rfl rfl rfl
  first | (rename_i hK; refine hK _ _ ?_; clear hK) | (rename_i hK _; refine hK _ _ ?_; clear hK) | (rename_i hK _ _; refine hK _ _ ?_; clear hK) | (rename_i hK _ _ _; refine hK _ _ ?_; clear hK)
  clear hv hx
  simp only [dsts, puts, List.filterMap_cons, List.filterMap_nil, List.foldl_cons, List.foldl_nil, Act.put, List.setIfInBounds_toArray, List.set_cons_succ, List.set_cons_zero, e6, e7]
  clear e6 e7
  obtain ⟨hbz, hvz⟩ := hG
  obtain ⟨qt, ct, rfl, hRt, hqt⟩ := hvz (by decide)
  have HTN : Hid (∀ b, qt = some b → W2.heap.size ≤ b.block) := Lib.hid hqt
  have HBZ := Lib.hid hbz
  have HRT := Lib.hid hRt
  clear hbz hvz hRt hqt HG0 HTX HC1 HC2
  go_wp2_with fail
  obtain ⟨ib, hib⟩ : ∃ i, i = wz.heap.size := ⟨_, rfl⟩
  obtain ⟨W5, hW5⟩ : ∃ W5, W5 = wz.iter DN 0 := ⟨_, rfl⟩
  have hb5 : Below wz.heap.size wz W5 := by rw [hW5]; exact (Below.refl _ wz).alloc (Nat.le_refl _) _
  have hall : Below W2.heap.size W2 W5 := HBZ.out.trans (hb5.mono HBZ.out.size)
  have hgbib := HGB.out
  have hzz := HBZ.out.size
  have h0 : LnR w w.heap.size ib C DN Z 0 x.names TX na nc qt ct (some ⟨gb, 0, none⟩) cap x.word (lnG (nd.drop 0) x.names TX x.text) W5 := by
    refine ⟨HBR.out.old hall, (HN2.out.old hall).rd, HN2.out.cap_le, (HRT.out.old hb5).rd, HRT.out.cap_le, (hall.block _ (Array.getElem?_eq_some_iff.1 HA2.out).1).trans HA2.out, by rw [hW5, hib]; exact World.iter_heap wz DN 0, HZ.out, (fun a e => by cases e; simp only; omega), (fun a b e e2 => by cases e; have := HNA.out b e2; simp only; omega), (fun a b e e2 => ?_), (fun b e => by have := HNA.out b e; have := hall.size; constructor <;> omega), (fun b e => ?_), HB2.out.trans (hall.mono HB2.out.size), by omega, by omega, hs1, by rw [HTXE.out, List.length_map]; exact hs2, HSZ.out⟩
    · cases e; have := HTN.out b e2; simp only; omega
    · subst e; have := HRT.out.lt; have := hb5.size; constructor <;> omega
  have H0 := Lib.hid h0
  rw [← hib, show wz.iter DN 0 = W5 from hW5.symm]
  have HDL : Hid (DN.size = nd.length) := Lib.hid (by rw [HDN.out]; rfl)
  clear h0 hib hW5 hb5 hall hgbib hzz a0 hcv
  go_loopw [5, 6, 7] (fun s5 s6 s7 wr => ∃ (k : Nat) (RN RT : List (List UInt8)) (qn : Option Addr) (cn : Nat) (qt : Option Addr) (ct : Nat) (qb : Option Addr) (cb : Nat) (Db : List UInt8) (nb nn2 nt : Nat), s5 = .slice qb nb cb ∧ s6 = .slice qn nn2 cn ∧ s7 = .slice qt nt ct ∧ k ≤ nd.length ∧ Hid (nn2 = RN.length) ∧ Hid (nt = RT.length) ∧ Hid (Db.length = nb) ∧ LnR w w.heap.size ib C DN Z k RN RT qn cn qt ct qb cb Db (lnG (nd.drop k) RN RT x.text) wr) (fun _ _ _ wr => nd.length - wr.iterPos ib)
  case atStart => exact ⟨0, x.names, TX, _, _, _, _, _, _, _, _, _, _, rfl, rfl, rfl, by omega, HNN0, Lib.hid (by rw [HTXE.out, List.length_map, HNI.out]), Lib.hid HWL.out.symm, H0.out⟩
  case round =>
    clear H0
    obtain ⟨k, RN, RT, qn, cn, qt, ct, qb, cb, Db, nb, nn2, nt, rfl, rfl, rfl, hk, HNN, HNT, HNB, hR⟩ := hrel
    have HP0 := Lib.hid (iterPos_of hR.it)
    by_cases hlt : k < nd.length
    · obtain ⟨W5, hnx, hit1, hm1⟩ := lt_gen HDN.out hR.it hlt (HASC.out _ (List.getElem_mem hlt))
      have HR := Lib.hid hR
      have HM1 := Lib.hid hm1
      have HIT := Lib.hid hit1
      have hdr : nd.drop k = nd[k] :: nd.drop (k + 1) := List.drop_eq_getElem_cons hlt
      obtain ⟨z, hz⟩ : ∃ z, z = nd[k].toNat := ⟨_, rfl⟩
      rw [← hz] at hnx
      clear hR hm1 hit1
      by_cases h78 : nd[k] = 78
      · have hc := h78
        clear h78
        obtain rfl : z = 78 := by rw [hz, hc]; rfl
        cases RT with
        | nil =>
          obtain rfl : nt = 0 := HNT.out
          obtain ⟨G2, hG2⟩ : ∃ G2, G2 = lnG (nd.drop (k + 1)) RN [] x.text := ⟨_, rfl⟩
          have HG2 := Lib.hid hG2
          have hGe : lnG (nd.drop k) RN [] x.text = 32 :: (([] : List UInt8) ++ lnG (nd.drop (k + 1)) RN [] x.text) := by rw [hdr, hc, lnG]; rw [if_pos rfl]; rfl
          rw [← hG2] at hGe
          clear hc hz hdr hG2
          have HM0 := Lib.hid ((HR.out.step HM1.out HIT.out).re hGe)
          clear hGe
          go_wp2_with fail
          refine ((lfirst0_any qt ct W5)).mono ?_
          rintro e w8 ⟨rfl, rfl⟩
          have HM := Lib.hid (HM0.out.texts (RT' := []) (q := none) (c := 0) (fun j hj => absurd hj (by simp)) (Nat.zero_le _) (Nat.zero_le _) (fun z e => by cases e))
          clear HM0
          have hlen := HM.out.len
          have hnb9 : nb + 1 + (([] : List UInt8)).length ≤ 100000000 := by have h9 := hlen; rw [HNB.out] at h9; simp only [List.length_cons, List.length_append] at h9; omega
          clear hlen
          go_wp2_with (first
            | (at_builtin; refine wpList_pushBr rfl (.tmp 62) (.tmp 63) 44 rfl qb cb nb Db HNB.out rfl (HM.out.br.old ((Below.refl _ W5).alloc (Nat.le_refl _) _)) (.slice (some ⟨W5.heap.size, 0, none⟩) 1 1) rfl [32] 1 rfl (src_one W5) (by omega) ?_
               intro q2 c2 w6 hB6 hm6 hq6
               have HM6 := Lib.hid ((HM.out.below ((Below.refl _ W5).alloc (Nat.le_refl _) (.cells #[.int .u8 32] 5))).push (Y := [32]) (G' := ([] : List UInt8) ++ G2) hB6 hm6 hq6 rfl)
               clear hB6 hm6 hq6)
            | (at_builtin; refine wpList_pushBr rfl (.tmp 64) (.tmp 65) 9 rfl q2 c2 (nb + 1) (Db ++ [32]) (by rw [List.length_append, HNB.out]; rfl) rfl HM6.out.br (.string ⟨#[]⟩) rfl ([] : List UInt8) (([] : List UInt8)).length rfl (by first | exact src_str _ _ | (rw [HFB.out]; exact src_str _ _)) (by omega) ?_
               intro q3 c3 w7 hB7 hm7 hq7
               have HM7 := Lib.hid (HM6.out.push (Y := ([] : List UInt8)) (G' := G2) hB7 hm7 hq7 rfl)
               clear hB7 hm7 hq7))
          have HP7 := Lib.hid (iterPos_of HM7.out.it)
          go_roundw
          case rel => exact ⟨k + 1, RN, [], _, _, _, _, _, _, Db ++ [32] ++ ([] : List UInt8), _, _, _, rfl, rfl, rfl, by omega, (by first | exact HNN | exact Lib.hid rfl), (by first | exact HNT | exact Lib.hid rfl), Lib.hid (by rw [List.length_append, List.length_append, HNB.out]; rfl), by rw [← HG2.out]; exact HM7.out⟩
          case measure => rw [HP7.out, HP0.out]; omega
        | cons a l =>
          obtain rfl : nt = l.length + 1 := HNT.out
          obtain ⟨G2, hG2⟩ : ∃ G2, G2 = lnG (nd.drop (k + 1)) RN l x.text := ⟨_, rfl⟩
          have HG2 := Lib.hid hG2
          have hGe : lnG (nd.drop k) RN (a :: l) x.text = 32 :: (a ++ lnG (nd.drop (k + 1)) RN l x.text) := by rw [hdr, hc, lnG]; rw [if_pos rfl]; rfl
          rw [← hG2] at hGe
          clear hc hz hdr hG2
          have HM0 := Lib.hid ((HR.out.step HM1.out HIT.out).re hGe)
          clear hGe
          obtain ⟨bs, off, rfl, _, _⟩ := HM0.out.rt 0 (by simp)
          have HF := Lib.hid (lfirst_any bs off ct a l W5 HM0.out.rt HM0.out.ct)
          go_wp2_with fail
          refine (HF.out).mono ?_
          rintro e w8 ⟨⟨q8, c8, rfl, hR8, hc8, hq8⟩, hb8⟩
          have HM := Lib.hid ((HM0.out.texts hR8 hc8 (by simp) (fun z e => ⟨_, rfl, hq8 z e⟩)).below hb8)
          clear HM0 hR8 hc8 hq8 hb8 HF
          skip
          have hlen := HM.out.len
          have hnb9 : nb + 1 + (a).length ≤ 100000000 := by have h9 := hlen; rw [HNB.out] at h9; simp only [List.length_cons, List.length_append] at h9; omega
          clear hlen
          go_wp2_with (first
            | (at_builtin; refine wpList_pushBr rfl (.tmp 62) (.tmp 63) 44 rfl qb cb nb Db HNB.out rfl (HM.out.br.old ((Below.refl _ w8).alloc (Nat.le_refl _) _)) (.slice (some ⟨w8.heap.size, 0, none⟩) 1 1) rfl [32] 1 rfl (src_one w8) (by omega) ?_
               intro q2 c2 w6 hB6 hm6 hq6
               have HM6 := Lib.hid ((HM.out.below ((Below.refl _ w8).alloc (Nat.le_refl _) (.cells #[.int .u8 32] 5))).push (Y := [32]) (G' := a ++ G2) hB6 hm6 hq6 rfl)
               clear hB6 hm6 hq6)
            | (at_builtin; refine wpList_pushBr rfl (.tmp 64) (.tmp 65) 9 rfl q2 c2 (nb + 1) (Db ++ [32]) (by rw [List.length_append, HNB.out]; rfl) rfl HM6.out.br (.string ⟨a.toArray⟩) rfl a (a).length rfl (by first | exact src_str _ _ | (rw [HFB.out]; exact src_str _ _)) (by omega) ?_
               intro q3 c3 w7 hB7 hm7 hq7
               have HM7 := Lib.hid (HM6.out.push (Y := a) (G' := G2) hB7 hm7 hq7 rfl)
               clear hB7 hm7 hq7))
          have HP7 := Lib.hid (iterPos_of HM7.out.it)
          go_roundw
          case rel => exact ⟨k + 1, RN, l, _, _, _, _, _, _, Db ++ [32] ++ a, _, _, _, rfl, rfl, rfl, by omega, (by first | exact HNN | exact Lib.hid rfl), (by first | exact HNT | exact Lib.hid rfl), Lib.hid (by rw [List.length_append, List.length_append, HNB.out]; rfl), by rw [← HG2.out]; exact HM7.out⟩
          case measure => rw [HP7.out, HP0.out]; omega
      · by_cases h73 : nd[k] = 73
        · have hc := h73
          clear h73 h78
          obtain rfl : z = 73 := by rw [hz, hc]; rfl
          cases RN with
          | nil =>
            obtain rfl : nn2 = 0 := HNN.out
            obtain ⟨G2, hG2⟩ : ∃ G2, G2 = lnG (nd.drop (k + 1)) [] RT x.text := ⟨_, rfl⟩
            have HG2 := Lib.hid hG2
            have hGe : lnG (nd.drop k) [] RT x.text = 32 :: (([] : List UInt8) ++ lnG (nd.drop (k + 1)) [] RT x.text) := by rw [hdr, hc, lnG]; rw [if_neg (by decide), if_pos rfl]; rfl
            rw [← hG2] at hGe
            clear hc hz hdr hG2
            have HM0 := Lib.hid ((HR.out.step HM1.out HIT.out).re hGe)
            clear hGe
            go_wp2_with fail
            refine ((lfirst0_any qn cn W5)).mono ?_
            rintro e w8 ⟨rfl, rfl⟩
            have HM := Lib.hid (HM0.out.names (RN' := []) (q := none) (c := 0) (fun j hj => absurd hj (by simp)) (Nat.zero_le _) (Nat.zero_le _) (fun z e => by cases e))
            clear HM0
            have hlen := HM.out.len
            have hnb9 : nb + 1 + (([] : List UInt8)).length ≤ 100000000 := by have h9 := hlen; rw [HNB.out] at h9; simp only [List.length_cons, List.length_append] at h9; omega
            clear hlen
            go_wp2_with (first
              | (at_builtin; refine wpList_pushBr rfl (.tmp 62) (.tmp 63) 44 rfl qb cb nb Db HNB.out rfl (HM.out.br.old ((Below.refl _ W5).alloc (Nat.le_refl _) _)) (.slice (some ⟨W5.heap.size, 0, none⟩) 1 1) rfl [32] 1 rfl (src_one W5) (by omega) ?_
                 intro q2 c2 w6 hB6 hm6 hq6
                 have HM6 := Lib.hid ((HM.out.below ((Below.refl _ W5).alloc (Nat.le_refl _) (.cells #[.int .u8 32] 5))).push (Y := [32]) (G' := ([] : List UInt8) ++ G2) hB6 hm6 hq6 rfl)
                 clear hB6 hm6 hq6)
              | (at_builtin; refine wpList_pushBr rfl (.tmp 64) (.tmp 65) 9 rfl q2 c2 (nb + 1) (Db ++ [32]) (by rw [List.length_append, HNB.out]; rfl) rfl HM6.out.br (.string ⟨#[]⟩) rfl ([] : List UInt8) (([] : List UInt8)).length rfl (by first | exact src_str _ _ | (rw [HFB.out]; exact src_str _ _)) (by omega) ?_
                 intro q3 c3 w7 hB7 hm7 hq7
                 have HM7 := Lib.hid (HM6.out.push (Y := ([] : List UInt8)) (G' := G2) hB7 hm7 hq7 rfl)
                 clear hB7 hm7 hq7))
            have HP7 := Lib.hid (iterPos_of HM7.out.it)
            go_roundw
            case rel => exact ⟨k + 1, [], RT, _, _, _, _, _, _, Db ++ [32] ++ ([] : List UInt8), _, _, _, rfl, rfl, rfl, by omega, (by first | exact HNN | exact Lib.hid rfl), (by first | exact HNT | exact Lib.hid rfl), Lib.hid (by rw [List.length_append, List.length_append, HNB.out]; rfl), by rw [← HG2.out]; exact HM7.out⟩
            case measure => rw [HP7.out, HP0.out]; omega
          | cons a l =>
            obtain rfl : nn2 = l.length + 1 := HNN.out
            obtain ⟨G2, hG2⟩ : ∃ G2, G2 = lnG (nd.drop (k + 1)) l RT x.text := ⟨_, rfl⟩
            have HG2 := Lib.hid hG2
            have hGe : lnG (nd.drop k) (a :: l) RT x.text = 32 :: (a ++ lnG (nd.drop (k + 1)) l RT x.text) := by rw [hdr, hc, lnG]; rw [if_neg (by decide), if_pos rfl]; rfl
            rw [← hG2] at hGe
            clear hc hz hdr hG2
            have HM0 := Lib.hid ((HR.out.step HM1.out HIT.out).re hGe)
            clear hGe
            obtain ⟨bs, off, rfl, _, _⟩ := HM0.out.rn 0 (by simp)
            have HF := Lib.hid (lfirst_any bs off cn a l W5 HM0.out.rn HM0.out.cn)
            go_wp2_with fail
            refine (HF.out).mono ?_
            rintro e w8 ⟨⟨q8, c8, rfl, hR8, hc8, hq8⟩, hb8⟩
            have HM := Lib.hid ((HM0.out.names hR8 hc8 (by simp) (fun z e => ⟨_, rfl, hq8 z e⟩)).below hb8)
            clear HM0 hR8 hc8 hq8 hb8 HF
            skip
            have hlen := HM.out.len
            have hnb9 : nb + 1 + (a).length ≤ 100000000 := by have h9 := hlen; rw [HNB.out] at h9; simp only [List.length_cons, List.length_append] at h9; omega
            clear hlen
            go_wp2_with (first
              | (at_builtin; refine wpList_pushBr rfl (.tmp 62) (.tmp 63) 44 rfl qb cb nb Db HNB.out rfl (HM.out.br.old ((Below.refl _ w8).alloc (Nat.le_refl _) _)) (.slice (some ⟨w8.heap.size, 0, none⟩) 1 1) rfl [32] 1 rfl (src_one w8) (by omega) ?_
                 intro q2 c2 w6 hB6 hm6 hq6
                 have HM6 := Lib.hid ((HM.out.below ((Below.refl _ w8).alloc (Nat.le_refl _) (.cells #[.int .u8 32] 5))).push (Y := [32]) (G' := a ++ G2) hB6 hm6 hq6 rfl)
                 clear hB6 hm6 hq6)
              | (at_builtin; refine wpList_pushBr rfl (.tmp 64) (.tmp 65) 9 rfl q2 c2 (nb + 1) (Db ++ [32]) (by rw [List.length_append, HNB.out]; rfl) rfl HM6.out.br (.string ⟨a.toArray⟩) rfl a (a).length rfl (by first | exact src_str _ _ | (rw [HFB.out]; exact src_str _ _)) (by omega) ?_
                 intro q3 c3 w7 hB7 hm7 hq7
                 have HM7 := Lib.hid (HM6.out.push (Y := a) (G' := G2) hB7 hm7 hq7 rfl)
                 clear hB7 hm7 hq7))
            have HP7 := Lib.hid (iterPos_of HM7.out.it)
            go_roundw
            case rel => exact ⟨k + 1, l, RT, _, _, _, _, _, _, Db ++ [32] ++ a, _, _, _, rfl, rfl, rfl, by omega, (by first | exact HNN | exact Lib.hid rfl), (by first | exact HNT | exact Lib.hid rfl), Lib.hid (by rw [List.length_append, List.length_append, HNB.out]; rfl), by rw [← HG2.out]; exact HM7.out⟩
            case measure => rw [HP7.out, HP0.out]; omega
        · by_cases h76 : nd[k] = 76
          · have hc := h76
            clear h73 h78 h76
            obtain rfl : z = 76 := by rw [hz, hc]; rfl
            obtain ⟨G2, hG2⟩ : ∃ G2, G2 = lnG (nd.drop (k + 1)) RN RT x.text := ⟨_, rfl⟩
            have HG2 := Lib.hid hG2
            have hGe : lnG (nd.drop k) RN RT x.text = 32 :: (lst RN ++ lnG (nd.drop (k + 1)) RN RT x.text) := by rw [hdr, hc, lnG]; rw [if_neg (by decide), if_neg (by decide), if_pos rfl]; rfl
            rw [← hG2] at hGe
            clear hc hz hdr hG2
            have HM0 := Lib.hid ((HR.out.step HM1.out HIT.out).re hGe)
            clear hGe
            have hj9 : (jn 44 RN).length ≤ 100000000000 := by
              have h9 := HM0.out.len
              simp only [List.length_cons, List.length_append] at h9
              by_cases e : RN = []
              · rw [e]; decide
              · have : lst RN = jn 44 RN := by unfold lst; rw [if_neg e]
                rw [this] at h9; omega
            have HF := Lib.hid (by have := llist_any qn cn RN W5 HM0.out.rn HM0.out.cn (by have := HM0.out.s1; omega) hj9; rw [← HNN.out] at this; exact this)
            obtain ⟨Fl, hFl⟩ : ∃ Fl, Fl = lst RN := ⟨_, rfl⟩
            rw [← hFl] at HM0 HF
            clear hFl hj9
            go_wp2_with fail
            refine (HF.out).mono ?_
            rintro e w8 ⟨rfl, hb8⟩
            have HM := Lib.hid (HM0.out.below hb8)
            clear HM0 hb8 HF
            have hlen := HM.out.len
            have hnb9 : nb + 1 + (Fl).length ≤ 100000000 := by have h9 := hlen; rw [HNB.out] at h9; simp only [List.length_cons, List.length_append] at h9; omega
            clear hlen
            go_wp2_with (first
              | (at_builtin; refine wpList_pushBr rfl (.tmp 62) (.tmp 63) 44 rfl qb cb nb Db HNB.out rfl (HM.out.br.old ((Below.refl _ w8).alloc (Nat.le_refl _) _)) (.slice (some ⟨w8.heap.size, 0, none⟩) 1 1) rfl [32] 1 rfl (src_one w8) (by omega) ?_
                 intro q2 c2 w6 hB6 hm6 hq6
                 have HM6 := Lib.hid ((HM.out.below ((Below.refl _ w8).alloc (Nat.le_refl _) (.cells #[.int .u8 32] 5))).push (Y := [32]) (G' := Fl ++ G2) hB6 hm6 hq6 rfl)
                 clear hB6 hm6 hq6)
              | (at_builtin; refine wpList_pushBr rfl (.tmp 64) (.tmp 65) 9 rfl q2 c2 (nb + 1) (Db ++ [32]) (by rw [List.length_append, HNB.out]; rfl) rfl HM6.out.br (.string ⟨Fl.toArray⟩) rfl Fl (Fl).length rfl (by first | exact src_str _ _ | (rw [HFB.out]; exact src_str _ _)) (by omega) ?_
                 intro q3 c3 w7 hB7 hm7 hq7
                 have HM7 := Lib.hid (HM6.out.push (Y := Fl) (G' := G2) hB7 hm7 hq7 rfl)
                 clear hB7 hm7 hq7))
            have HP7 := Lib.hid (iterPos_of HM7.out.it)
            go_roundw
            case rel => exact ⟨k + 1, RN, RT, _, _, _, _, _, _, Db ++ [32] ++ Fl, _, _, _, rfl, rfl, rfl, by omega, (by first | exact HNN | exact Lib.hid rfl), (by first | exact HNT | exact Lib.hid rfl), Lib.hid (by rw [List.length_append, List.length_append, HNB.out]; rfl), by rw [← HG2.out]; exact HM7.out⟩
            case measure => rw [HP7.out, HP0.out]; omega
          · by_cases h77 : nd[k] = 77
            · have hc := h77
              clear h73 h78 h76 h77
              obtain rfl : z = 77 := by rw [hz, hc]; rfl
              obtain ⟨G2, hG2⟩ : ∃ G2, G2 = lnG (nd.drop (k + 1)) RN RT x.text := ⟨_, rfl⟩
              have HG2 := Lib.hid hG2
              have hGe : lnG (nd.drop k) RN RT x.text = 32 :: (lst RT ++ lnG (nd.drop (k + 1)) RN RT x.text) := by rw [hdr, hc, lnG]; rw [if_neg (by decide), if_neg (by decide), if_neg (by decide), if_pos rfl]; rfl
              rw [← hG2] at hGe
              clear hc hz hdr hG2
              have HM0 := Lib.hid ((HR.out.step HM1.out HIT.out).re hGe)
              clear hGe
              have hj9 : (jn 44 RT).length ≤ 100000000000 := by
                have h9 := HM0.out.len
                simp only [List.length_cons, List.length_append] at h9
                by_cases e : RT = []
                · rw [e]; decide
                · have : lst RT = jn 44 RT := by unfold lst; rw [if_neg e]
                  rw [this] at h9; omega
              have HF := Lib.hid (by have := llist_any qt ct RT W5 HM0.out.rt HM0.out.ct (by have := HM0.out.s2; omega) hj9; rw [← HNT.out] at this; exact this)
              obtain ⟨Fl, hFl⟩ : ∃ Fl, Fl = lst RT := ⟨_, rfl⟩
              rw [← hFl] at HM0 HF
              clear hFl hj9
              go_wp2_with fail
              refine (HF.out).mono ?_
              rintro e w8 ⟨rfl, hb8⟩
              have HM := Lib.hid (HM0.out.below hb8)
              clear HM0 hb8 HF
              have hlen := HM.out.len
              have hnb9 : nb + 1 + (Fl).length ≤ 100000000 := by have h9 := hlen; rw [HNB.out] at h9; simp only [List.length_cons, List.length_append] at h9; omega
              clear hlen
              go_wp2_with (first
                | (at_builtin; refine wpList_pushBr rfl (.tmp 62) (.tmp 63) 44 rfl qb cb nb Db HNB.out rfl (HM.out.br.old ((Below.refl _ w8).alloc (Nat.le_refl _) _)) (.slice (some ⟨w8.heap.size, 0, none⟩) 1 1) rfl [32] 1 rfl (src_one w8) (by omega) ?_
                   intro q2 c2 w6 hB6 hm6 hq6
                   have HM6 := Lib.hid ((HM.out.below ((Below.refl _ w8).alloc (Nat.le_refl _) (.cells #[.int .u8 32] 5))).push (Y := [32]) (G' := Fl ++ G2) hB6 hm6 hq6 rfl)
                   clear hB6 hm6 hq6)
                | (at_builtin; refine wpList_pushBr rfl (.tmp 64) (.tmp 65) 9 rfl q2 c2 (nb + 1) (Db ++ [32]) (by rw [List.length_append, HNB.out]; rfl) rfl HM6.out.br (.string ⟨Fl.toArray⟩) rfl Fl (Fl).length rfl (by first | exact src_str _ _ | (rw [HFB.out]; exact src_str _ _)) (by omega) ?_
                   intro q3 c3 w7 hB7 hm7 hq7
                   have HM7 := Lib.hid (HM6.out.push (Y := Fl) (G' := G2) hB7 hm7 hq7 rfl)
                   clear hB7 hm7 hq7))
              have HP7 := Lib.hid (iterPos_of HM7.out.it)
              go_roundw
              case rel => exact ⟨k + 1, RN, RT, _, _, _, _, _, _, Db ++ [32] ++ Fl, _, _, _, rfl, rfl, rfl, by omega, (by first | exact HNN | exact Lib.hid rfl), (by first | exact HNT | exact Lib.hid rfl), Lib.hid (by rw [List.length_append, List.length_append, HNB.out]; rfl), by rw [← HG2.out]; exact HM7.out⟩
              case measure => rw [HP7.out, HP0.out]; omega
            · by_cases h84 : nd[k] = 84
              · have hc := h84
                clear h73 h78 h76 h77 h84
                obtain rfl : z = 84 := by rw [hz, hc]; rfl
                obtain ⟨G2, hG2⟩ : ∃ G2, G2 = lnG (nd.drop (k + 1)) RN RT x.text := ⟨_, rfl⟩
                have HG2 := Lib.hid hG2
                have hGe : lnG (nd.drop k) RN RT x.text = 32 :: ((x.text) ++ lnG (nd.drop (k + 1)) RN RT x.text) := by rw [hdr, hc, lnG]; rw [if_neg (by decide), if_neg (by decide), if_neg (by decide), if_neg (by decide), if_pos rfl]; rfl
                rw [← hG2] at hGe
                clear hc hz hdr hG2
                have HM0 := Lib.hid ((HR.out.step HM1.out HIT.out).re hGe)
                clear hGe
                have c3 := cell_of_row _ w.heap.size 3 C 35 (0, 0) HM0.out.bx
                rw [HC3.out] at c3
                obtain ⟨Fl, hFl⟩ : ∃ Fl, Fl = x.text := ⟨_, rfl⟩
                rw [← hFl] at HM0
                have HFB : Hid (XB = ⟨Fl.toArray⟩) := Lib.hid (by rw [HXB.out, hFl])
                clear hFl
                have HM := HM0
                clear HM0
                go_upto_region 21 with fail
                have hlen := HM.out.len
                have hnb9 : nb + 1 + (Fl).length ≤ 100000000 := by have h9 := hlen; rw [HNB.out] at h9; simp only [List.length_cons, List.length_append] at h9; omega
                clear hlen
                go_wp2_with (first
                  | (at_builtin; refine wpList_pushBr rfl (.tmp 62) (.tmp 63) 44 rfl qb cb nb Db HNB.out rfl (HM.out.br.old ((Below.refl _ W5).alloc (Nat.le_refl _) _)) (.slice (some ⟨W5.heap.size, 0, none⟩) 1 1) rfl [32] 1 rfl (src_one W5) (by omega) ?_
                     intro q2 c2 w6 hB6 hm6 hq6
                     have HM6 := Lib.hid ((HM.out.below ((Below.refl _ W5).alloc (Nat.le_refl _) (.cells #[.int .u8 32] 5))).push (Y := [32]) (G' := Fl ++ G2) hB6 hm6 hq6 rfl)
                     clear hB6 hm6 hq6)
                  | (at_builtin; refine wpList_pushBr rfl (.tmp 64) (.tmp 65) 9 rfl q2 c2 (nb + 1) (Db ++ [32]) (by rw [List.length_append, HNB.out]; rfl) rfl HM6.out.br (.string XB) rfl Fl (Fl).length rfl (by first | exact src_str _ _ | (rw [HFB.out]; exact src_str _ _)) (by omega) ?_
                     intro q3 c3 w7 hB7 hm7 hq7
                     have HM7 := Lib.hid (HM6.out.push (Y := Fl) (G' := G2) hB7 hm7 hq7 rfl)
                     clear hB7 hm7 hq7))
                have HP7 := Lib.hid (iterPos_of HM7.out.it)
                go_roundw
                case rel => exact ⟨k + 1, RN, RT, _, _, _, _, _, _, Db ++ [32] ++ Fl, _, _, _, rfl, rfl, rfl, by omega, (by first | exact HNN | exact Lib.hid rfl), (by first | exact HNT | exact Lib.hid rfl), Lib.hid (by rw [List.length_append, List.length_append, HNB.out]; rfl), by rw [← HG2.out]; exact HM7.out⟩
                case measure => rw [HP7.out, HP0.out]; omega
              · by_cases h72 : nd[k] = 72
                · have hc := h72
                  clear h73 h78 h76 h77 h84 h72
                  obtain rfl : z = 72 := by rw [hz, hc]; rfl
                  obtain ⟨G2, hG2⟩ : ∃ G2, G2 = lnG (nd.drop (k + 1)) RN RT x.text := ⟨_, rfl⟩
                  have HG2 := Lib.hid hG2
                  have hGe : lnG (nd.drop k) RN RT x.text = 32 :: ((hexW x.text) ++ lnG (nd.drop (k + 1)) RN RT x.text) := by rw [hdr, hc, lnG]; rw [if_neg (by decide), if_neg (by decide), if_neg (by decide), if_neg (by decide), if_neg (by decide), if_pos rfl]; rfl
                  rw [← hG2] at hGe
                  clear hc hz hdr hG2
                  have HM0 := Lib.hid ((HR.out.step HM1.out HIT.out).re hGe)
                  clear hGe
                  have c3 := cell_of_row _ w.heap.size 3 C 35 (0, 0) HM0.out.bx
                  rw [HC3.out] at c3
                  obtain ⟨Fl, hFl⟩ : ∃ Fl, Fl = hexW x.text := ⟨_, rfl⟩
                  have HF := Lib.hid (by have := lhex_any x.text W5 (by have h9 := hexL_len x.text; have h8 := HM0.out.len; simp only [List.length_cons, List.length_append] at h8; have h7 : x.text.length ≤ (hexW x.text).length := (by unfold hexW; split <;> rename_i e; rw [e]; simp; rw [h9]; omega); omega); rw [← HXB.out, ← hFl] at this; exact this)
                  rw [← hFl] at HM0
                  clear hFl
                  go_wp2_with fail
                  refine (HF.out).mono ?_
                  rintro e w8 ⟨rfl, hb8⟩
                  have HM := Lib.hid (HM0.out.below hb8)
                  clear HM0 hb8 HF c3
                  have hlen := HM.out.len
                  have hnb9 : nb + 1 + (Fl).length ≤ 100000000 := by have h9 := hlen; rw [HNB.out] at h9; simp only [List.length_cons, List.length_append] at h9; omega
                  clear hlen
                  go_wp2_with (first
                    | (at_builtin; refine wpList_pushBr rfl (.tmp 62) (.tmp 63) 44 rfl qb cb nb Db HNB.out rfl (HM.out.br.old ((Below.refl _ w8).alloc (Nat.le_refl _) _)) (.slice (some ⟨w8.heap.size, 0, none⟩) 1 1) rfl [32] 1 rfl (src_one w8) (by omega) ?_
                       intro q2 c2 w6 hB6 hm6 hq6
                       have HM6 := Lib.hid ((HM.out.below ((Below.refl _ w8).alloc (Nat.le_refl _) (.cells #[.int .u8 32] 5))).push (Y := [32]) (G' := Fl ++ G2) hB6 hm6 hq6 rfl)
                       clear hB6 hm6 hq6)
                    | (at_builtin; refine wpList_pushBr rfl (.tmp 64) (.tmp 65) 9 rfl q2 c2 (nb + 1) (Db ++ [32]) (by rw [List.length_append, HNB.out]; rfl) rfl HM6.out.br (.string ⟨Fl.toArray⟩) rfl Fl (Fl).length rfl (by first | exact src_str _ _ | (rw [HFB.out]; exact src_str _ _)) (by omega) ?_
                       intro q3 c3 w7 hB7 hm7 hq7
                       have HM7 := Lib.hid (HM6.out.push (Y := Fl) (G' := G2) hB7 hm7 hq7 rfl)
                       clear hB7 hm7 hq7))
                  have HP7 := Lib.hid (iterPos_of HM7.out.it)
                  go_roundw
                  case rel => exact ⟨k + 1, RN, RT, _, _, _, _, _, _, Db ++ [32] ++ Fl, _, _, _, rfl, rfl, rfl, by omega, (by first | exact HNN | exact Lib.hid rfl), (by first | exact HNT | exact Lib.hid rfl), Lib.hid (by rw [List.length_append, List.length_append, HNB.out]; rfl), by rw [← HG2.out]; exact HM7.out⟩
                  case measure => rw [HP7.out, HP0.out]; omega
                · skip
                  obtain ⟨G2, hG2⟩ : ∃ G2, G2 = lnG (nd.drop (k + 1)) RN RT x.text := ⟨_, rfl⟩
                  have HG2 := Lib.hid hG2
                  have hGe : lnG (nd.drop k) RN RT x.text = 32 :: (([] : List UInt8) ++ lnG (nd.drop (k + 1)) RN RT x.text) := by rw [hdr, lnG]; rw [if_neg h78, if_neg h73, if_neg h76, if_neg h77, if_neg h84, if_neg h72]; rfl
                  have hne : ∀ v : UInt8, nd[k] ≠ v → ((z : Int) == (v.toNat : Int)) = false := fun v h => by rw [beq_eq_false_iff_ne, hz]; intro e; exact h (UInt8.toNat_inj.1 (by omega))
                  have t1 : ((z : Int) == 78) = false := hne 78 h78
                  have t2 : ((z : Int) == 73) = false := hne 73 h73
                  have t3 : ((z : Int) == 76) = false := hne 76 h76
                  have t4 : ((z : Int) == 77) = false := hne 77 h77
                  have t5 : ((z : Int) == 84) = false := hne 84 h84
                  have t6 : ((z : Int) == 72) = false := hne 72 h72
                  clear hne h78 h73 h76 h77 h84 h72
                  rw [← hG2] at hGe
                  clear hz hdr hG2
                  have HM := Lib.hid ((HR.out.step HM1.out HIT.out).re hGe)
                  clear hGe
                  have hlen := HM.out.len
                  have hnb9 : nb + 1 + (([] : List UInt8)).length ≤ 100000000 := by have h9 := hlen; rw [HNB.out] at h9; simp only [List.length_cons, List.length_append] at h9; omega
                  clear hlen
                  go_wp2_with (first
                    | (at_builtin; refine wpList_pushBr rfl (.tmp 62) (.tmp 63) 44 rfl qb cb nb Db HNB.out rfl (HM.out.br.old ((Below.refl _ W5).alloc (Nat.le_refl _) _)) (.slice (some ⟨W5.heap.size, 0, none⟩) 1 1) rfl [32] 1 rfl (src_one W5) (by omega) ?_
                       intro q2 c2 w6 hB6 hm6 hq6
                       have HM6 := Lib.hid ((HM.out.below ((Below.refl _ W5).alloc (Nat.le_refl _) (.cells #[.int .u8 32] 5))).push (Y := [32]) (G' := ([] : List UInt8) ++ G2) hB6 hm6 hq6 rfl)
                       clear hB6 hm6 hq6)
                    | (at_builtin; refine wpList_pushBr rfl (.tmp 64) (.tmp 65) 9 rfl q2 c2 (nb + 1) (Db ++ [32]) (by rw [List.length_append, HNB.out]; rfl) rfl HM6.out.br (.string ⟨#[]⟩) rfl ([] : List UInt8) (([] : List UInt8)).length rfl (by first | exact src_str _ _ | (rw [HFB.out]; exact src_str _ _)) (by omega) ?_
                       intro q3 c3 w7 hB7 hm7 hq7
                       have HM7 := Lib.hid (HM6.out.push (Y := ([] : List UInt8)) (G' := G2) hB7 hm7 hq7 rfl)
                       clear hB7 hm7 hq7))
                  have HP7 := Lib.hid (iterPos_of HM7.out.it)
                  go_roundw
                  case rel => exact ⟨k + 1, RN, RT, _, _, _, _, _, _, Db ++ [32] ++ ([] : List UInt8), _, _, _, rfl, rfl, rfl, by omega, (by first | exact HNN | exact Lib.hid rfl), (by first | exact HNT | exact Lib.hid rfl), Lib.hid (by rw [List.length_append, List.length_append, HNB.out]; rfl), by rw [← HG2.out]; exact HM7.out⟩
                  case measure => rw [HP7.out, HP0.out]; omega
    · obtain rfl : k = nd.length := by omega
      have hnx : ∀ ty, (Instr.next (.pointer (some ⟨ib, 0, none⟩)) true ty).run Tryd.prog wr = _ := fun ty => Lib.run_next_end_at wr ib DN nd.length ty hR.it (by rw [HDL.out]; omega)
      have hZD : Z = Db := by rw [hR.eq, List.drop_length]; simp [lnG]
      have hcv2 := br_text hR.br
      rw [HNB.out, ← hZD] at hcv2
      have HM := Lib.hid hR.m
      clear hR hZD
      go_wp2_with fail
      go_ret
      exact ⟨rfl, HM.out⟩
end Go.Proofs.YtpdhmjmklmoknaaDoor

namespace Go.Proofs.YtpdhmjmklmoknaaDoor
open Go.RowKit Go.Shelf

/-- Numbers that a step holds are small. -/
theorem take_small {n : UInt8} {f : List UInt8} {x y : St} (h : take1 n f x = some y) (hx : ∀ v ∈ x.nums, v ≤ 1099511627776) : ∀ v ∈ y.nums, v ≤ 1099511627776 := by
  have hk : ∀ g : List UInt8, numOk g = true → numD g ≤ 1099511627776 := fun g hg => by unfold numOk at hg; simp only [Bool.and_eq_true, decide_eq_true_eq] at hg; exact hg.2
  unfold take1 at h
  split at h
  · split at h
    · rename_i e; cases h; intro v hv; simp only [List.mem_append, List.mem_singleton] at hv; rcases hv with hv | rfl
      · exact hx v hv
      · exact hk f e
    · cases h
  split at h
  · split at h <;> cases h; exact hx
  split at h
  · split at h
    · cases h; exact hx
    · split at h <;> cases h; exact hx
  split at h
  · split at h
    · cases h; exact hx
    · split at h
      · rename_i e; cases h; intro v hv
        simp only [List.mem_append, List.mem_map] at hv
        rcases hv with hv | ⟨g, hg, rfl⟩
        · exact hx v hv
        · exact hk g (List.all_eq_true.1 e g hg)
      · cases h
  split at h
  · split at h <;> cases h; exact hx
  cases hh : hexO f with
  | none => rw [hh] at h; cases h
  | some b => rw [hh] at h; cases h; exact hx
theorem takeAll_small : ∀ (ns : List UInt8) (fs : List (List UInt8)) (x y : St), takeAll ns fs x = some y → (∀ v ∈ x.nums, v ≤ 1099511627776) → ∀ v ∈ y.nums, v ≤ 1099511627776
  | [], _, x, y, h, hx => by cases h; exact hx
  | _ :: _, [], _, _, h, _ => by cases h
  | n :: ns, f :: fs, x, y, h, hx => by
    obtain ⟨z, h1, h2⟩ := takeAll_cons h
    exact takeAll_small ns fs z y h2 (take_small h1 hx)
theorem step_small {l : List UInt8} {x : St} (h : stepM l = some x) : ∀ v ∈ x.nums, v ≤ 1099511627776 := by
  unfold stepM stepW at h
  split at h
  · cases h
  · split at h
    · exact takeAll_small _ _ _ _ h (fun v hv => by cases hv)
    · cases h
theorem takeAll_len : ∀ (ns : List UInt8) (fs : List (List UInt8)) (x y : St), takeAll ns fs x = some y → y.names.length ≤ x.names.length + fs.flatten.length + fs.length ∧ y.nums.length ≤ x.nums.length + fs.flatten.length + fs.length
  | [], _, x, y, h => by cases h; omega
  | _ :: _, [], _, _, h => by cases h
  | n :: ns, f :: fs, x, y, h => by
    obtain ⟨z, h1, h2⟩ := takeAll_cons h
    have a := takeAll_len ns fs z y h2
    have b := take_sizes h1
    simp only [List.flatten_cons, List.length_append, List.length_cons]
    omega
theorem spl_flat (c : UInt8) (s : List UInt8) : ∀ acc, (splA c acc s).flatten.length ≤ acc.length + s.length := by
  induction s with
  | nil => intro acc; simp [splA]
  | cons a l ih =>
    intro acc
    rw [splA]
    split
    · have := ih []; simp only [List.flatten_cons, List.length_append, List.length_cons, List.length_nil] at this ⊢; omega
    · have := ih (acc ++ [a]); simp only [List.length_append, List.length_cons, List.length_nil] at this ⊢; omega
theorem step_len {l : List UInt8} {x : St} (h : stepM l = some x) : x.names.length ≤ 2 * l.length + 2 ∧ x.nums.length ≤ 2 * l.length + 2 := by
  have h1 := spl_flat 32 l []
  have h2 := spl_len_le 32 l
  have hne : spl 32 l ≠ [] := splA_ne 32 l []
  unfold stepM stepW at h
  cases hs : spl 32 l with
  | nil => exact absurd hs hne
  | cons w fs =>
    rw [show splA 32 [] l = spl 32 l from rfl, hs] at h1
    rw [hs] at h h2
    simp only [List.headD_cons, List.tail_cons, List.flatten_cons, List.length_append, List.length_cons, List.length_nil] at h h1 h2
    split at h
    · cases h
    · rename_i nd' heq'
      by_cases e : fs.length = nd'.length
      · have h : takeAll nd' fs ⟨w, [], [], []⟩ = some x := (if_pos e).symm.trans h
        have := takeAll_len _ _ _ _ h
        simp only [List.length_nil] at this
        omega
      · have h : none = some x := (if_neg e).symm.trans h
        cases h
theorem parG_steps : ∀ (ls : List (List UInt8)) (k : Nat) (acc : List St) (L : List St) (m : Nat), parG ls k acc = (L, m, true) → (∀ x ∈ acc, ∃ l, stepM l = some x ∧ l.length ≤ 2000) → (∀ l ∈ ls, l.length ≤ 2000) → ∀ x ∈ L, ∃ l, stepM l = some x ∧ l.length ≤ 2000
  | [], k, acc, L, m, h, ha, _ => by cases h; exact ha
  | l :: r, k, acc, L, m, h, ha, hl => by
    rw [parG] at h
    split at h
    · exact parG_steps r _ _ _ _ h ha (fun l hl2 => hl l (List.mem_cons_of_mem _ hl2))
    · split at h
      · cases h
      · rename_i x hx
        split at h
        · cases h
        · refine parG_steps r _ _ _ _ h (fun y hy => ?_) (fun l hl2 => hl l (List.mem_cons_of_mem _ hl2))
          rw [List.mem_append, List.mem_singleton] at hy
          rcases hy with hy | rfl
          · exact ha y hy
          · exact ⟨l, hx, hl l List.mem_cons_self⟩
/-- Lines, each with its end. -/
def nlJ : List (List UInt8) → List UInt8
  | [] => []
  | l :: r => l ++ [10] ++ nlJ r
theorem nlJ_snoc : ∀ (L : List (List UInt8)) (l : List UInt8), nlJ (L ++ [l]) = nlJ L ++ (l ++ [10])
  | [], l => by simp [nlJ]
  | a :: r, l => by rw [List.cons_append, nlJ, nlJ_snoc r l, nlJ]; simp
set_option maxRecDepth 20000 in
theorem pow_of_laid {W : World} (h : laidMetH Tryd.prog [("math/bits.deBruijn32tab", Rows.laid_math_bits_deBruijn32tab), ("math/bits.deBruijn64tab", Rows.laid_math_bits_deBruijn64tab), ("internal/strconv.uint64pow10", Rows.laid_internal_strconv_uint64pow10), ("unicode/utf8.acceptRanges", Rows.laid_unicode_utf8_acceptRanges), ("unicode/utf8.first", Rows.laid_unicode_utf8_first)] W) : PowAt W := by
  have h1 := (laidMetH_iff.1 h).1.tail.tail
  have h2 : laidMet Tryd.prog (("internal/strconv.uint64pow10", Lib.tabData .u64 Lib.pow10Tab) :: [("unicode/utf8.acceptRanges", Rows.laid_unicode_utf8_acceptRanges), ("unicode/utf8.first", Rows.laid_unicode_utf8_first)]) W := h1
  exact Lib.tabIs_of_head (g := 3) (t := 104) (e := 92) (n := 20) (by kernel_rfl) (by kernel_rfl) Tryd.underlying104 Tryd.underlying92 (by kernel_rfl) (by kernel_rfl) h2
theorem nlJ_len : ∀ (L : List (List UInt8)), (∀ l ∈ L, l.length ≤ 2000) → (nlJ L).length ≤ 2001 * L.length
  | [], _ => by simp [nlJ]
  | a :: r, h => by
    have h1 := nlJ_len r (fun l hl => h l (List.mem_cons_of_mem _ hl))
    have h2 := h a List.mem_cons_self
    simp only [nlJ, List.length_append, List.length_cons, List.length_nil]
    omega
theorem bcat10 (T p : List UInt8) : (ByteArray.mk T.toArray) ++ ((ByteArray.mk p.toArray) ++ (⟨#[10]⟩ : ByteArray)) = ⟨(T ++ (p ++ [10])).toArray⟩ := by apply ByteArray.ext; simp
set_option maxRecDepth 100000 in
set_option maxHeartbeats 16000000 in
theorem lineBack_any (s0 : List UInt8) (w : World) (_hs : s0.length ≤ 9223372036854775807) (hT : PowAt w) :
    Calls Tryd.prog 4 #[.string ⟨s0.toArray⟩] w fun e w' => e = .returned (.bool true) ∧ Below w.heap.size w w' := by
  have HA := Lib.hid (fun w => lawake_any w)
  have HC1 := Lib.hid (fun w => lwcut_any s0 2000 w _hs (by omega))
  obtain ⟨s, hs⟩ : ∃ s, s = s0.take 2000 := ⟨_, rfl⟩
  have hsl : s.length ≤ 2000 := by rw [hs, List.length_take]; omega
  rw [← hs] at HC1
  have HP := Lib.hid (fun w => lparse_any s w (by omega))
  have HSP := Lib.hid (fun w => rlsplit_any s 10 w (by omega))
  unfold ParP at HP
  unfold SplP at HSP
  obtain ⟨SB, hSB⟩ : ∃ B, B = ByteArray.mk s.toArray := ⟨_, rfl⟩
  rw [← hSB] at HC1 HP HSP
  obtain ⟨P, hP⟩ : ∃ P, P = spl 10 s := ⟨_, rfl⟩
  have hPs : ∀ p ∈ P, p.length ≤ 2000 := by rw [hP]; intro p hp; have := spl_sizes 10 s p hp; omega
  have hPl : P.length ≤ 2001 := by rw [hP]; have := spl_len_le 10 s; omega
  have hPM : parM s = parG P 0 [] := by rw [hP]; rfl
  obtain ⟨Ls, kk, okk, hpe⟩ : ∃ L k ok, parG P 0 [] = (L, k, ok) := ⟨_, _, _, rfl⟩
  rw [← hP] at HSP
  rw [hPM, hpe] at HP
  simp only at HP
  have HT := Lib.hid hT
  cases okk with
  | false =>
    have hL0 : Ls = [] := parG_false _ _ _ _ _ hpe
    subst hL0
    clear hs hSB hP hPs hPM hpe hT
    go_enter Tryd.func4, Tryd.ntmps4
    go_wp2_with fail
    refine (HA.out _).mono ?_
    rintro e w1 ⟨rfl, hb1⟩
    have M1 := Lib.hid hb1
    clear hb1
    go_wp2_with fail
    refine (HC1.out _).mono ?_
    rintro e w2 ⟨rfl, rfl⟩
    go_wp2_with fail
    refine (HP.out _).mono ?_
    rintro e w3 ⟨hb3, q1, c1, V1, rfl, hV1, _, _, _⟩
    obtain rfl : V1 = [] := List.map_eq_nil_iff.1 hV1
    have M3 := Lib.hid (M1.out.trans (hb3.mono M1.out.size))
    clear hb3 hV1
    go_wp2_with fail
    go_ret
    exact ⟨rfl, M3.out⟩
  | true =>
    obtain ⟨hk0, xs, hxs, hxm⟩ := parG_back _ _ _ _ _ hpe
    rw [List.nil_append] at hxs
    subst hxs
    have hst := parG_steps _ _ _ _ _ hpe (fun x hx => by cases hx) hPs
    have hl300 : Ls.length ≤ 300 := by have := parG_len P 0 [] (by simp); rw [hpe] at this; exact this
    have HXM := Lib.hid hxm
    have HST := Lib.hid hst
    have HPS := Lib.hid hPs
    obtain ⟨n, hn⟩ : ∃ n, n = P.length := ⟨_, rfl⟩
    obtain ⟨m, hm⟩ : ∃ m, m = Ls.length := ⟨_, rfl⟩
    rw [← hn] at HSP hPl
    rw [← hm] at hl300
    have HN := Lib.hid hn
    have HM := Lib.hid hm
    clear hs hSB hP hPs hPM hpe hT hn hm hxm hst
    go_enter Tryd.func4, Tryd.ntmps4
    go_wp2_with fail
    refine (HA.out _).mono ?_
    rintro e w1 ⟨rfl, hb1⟩
    have M1 := Lib.hid hb1
    clear hb1
    go_wp2_with fail
    refine (HC1.out _).mono ?_
    rintro e w2 ⟨rfl, rfl⟩
    go_wp2_with fail
    refine (HP.out _).mono ?_
    rintro e w3 ⟨hb3, q1, c1, V1, rfl, hV1, hR1, _, hok1⟩
    have hl1 : V1.length = m := by rw [HM.out, ← hV1, List.length_map]
    rw [hl1]
    have M3 := Lib.hid (M1.out.trans (hb3.mono M1.out.size))
    have HV1 := Lib.hid hV1
    have HR1 := Lib.hid hR1
    have HK1 := Lib.hid hok1
    have HL1 := Lib.hid hl1
    clear hb3 hV1 hR1 hok1 hl1
    go_wp2_with fail
    refine (HSP.out _).mono ?_
    rintro e w5 ⟨hb5, q2, c2, rfl, hR2, _⟩
    have M5 := Lib.hid (M3.out.trans (hb5.mono M3.out.size))
    have HR15 := Lib.hid (HR1.out.old hb5)
    have HK15 := Lib.hid (fun v hv => (HK1.out v hv).old hb5)
    have HR2 := Lib.hid hR2
    clear hb5 hR2 HR1 HK1
    go_wp2_with fail
    go_loopw [6, 30] (fun s6 s30 wr => ∃ (i : Nat) (T : List UInt8), i ≤ n ∧ s30 = .int .i64 i ∧ s6 = .string ⟨T.toArray⟩ ∧ T.length ≤ 2001 * i ∧ Hid (T = nlJ ((P.take i).filter (fun l => !mute l))) ∧ wr = w5) (fun _ s30 _ => n - (intOf s30).toNat)
    case atStart => exact ⟨0, [], by omega, rfl, rfl, by simp, Lib.hid rfl, rfl⟩
    case round =>
      obtain ⟨i, T, hin, rfl, rfl, hTl, hTe, rfl⟩ := hrel
      by_cases hlt : i < n
      · have hil : i < P.length := by rw [← HN.out]; exact hlt
        obtain ⟨g2, rfl, _⟩ := shape_ne HR2.out (by omega)
        have i0 : (0 : Int) ≤ i := by omega
        have i1 : (i : Int) < n := by omega
        have i2 : IntKind.i64.wrap ((i : Int) + 1) = (i : Int) + 1 := by rw [IntKind.wrap_i64]; omega
        have c0 := rd0 HR2.out.rd hil
        have hps := HPS.out _ (List.getElem_mem hil)
        have htk : (P.take (i + 1)).filter (fun l => !mute l) = (P.take i).filter (fun l => !mute l) ++ (if mute P[i] then [] else [P[i]]) := by
          rw [List.take_succ_eq_append_getElem hil, List.filter_append]
          cases hmm : mute P[i] <;> simp [hmm]
        generalize P[i] = p at c0 hps htk
        obtain ⟨PB, hPB⟩ : ∃ B, B = ByteArray.mk p.toArray := ⟨_, rfl⟩
        have hPL : PB.toList = p := by rw [hPB, ByteArray.toList_mk]
        rw [← hPB] at c0
        by_cases hmu : mute p = true
        · rw [if_pos hmu, List.append_nil] at htk
          have HNX : Hid (T = nlJ ((P.take (i + 1)).filter (fun l => !mute l))) := Lib.hid (by rw [htk]; exact hTe.out)
          by_cases hne : p = []
          · have e0 : PB.toList.isEmpty = true := by rw [hPL, hne]; rfl
            clear hPB hPL hmu hne htk hil hTe
            go_wp2_with fail
            go_roundw
            case rel => exact ⟨i + 1, T, by omega, by go_num, rfl, by omega, HNX, trivial⟩
            case measure => simp [intOf]; omega
          · have e0 : PB.toList.isEmpty = false := by rw [hPL]; cases p <;> simp_all
            have hl0 : 0 < PB.size := by rw [hPB]; exact List.length_pos_iff.2 hne
            have hg0 : ((PB[0]'hl0).toNat : Int) = 35 := by
              subst hPB
              cases p with
              | nil => exact absurd rfl hne
              | cons a l => unfold mute at hmu; rw [beq_iff_eq] at hmu; subst hmu; rfl
            clear hPB hPL hmu hne htk hil hTe
            go_wp2_with fail
            go_roundw
            case rel => exact ⟨i + 1, T, by omega, by go_num, rfl, by omega, HNX, trivial⟩
            case measure => simp [intOf]; omega
        · rw [if_neg hmu] at htk
          have hne : p ≠ [] := fun e => hmu (by rw [e]; rfl)
          have e0 : PB.toList.isEmpty = false := by rw [hPL]; cases p <;> simp_all
          have hl0 : 0 < PB.size := by rw [hPB]; exact List.length_pos_iff.2 hne
          obtain ⟨v, hv⟩ : ∃ v, v = (p[0]'(List.length_pos_iff.2 hne)).toNat := ⟨_, rfl⟩
          have hg0 : ((PB[0]'hl0).toNat : Int) = v := by subst hPB; rw [hv]; rfl
          have hv35 : ((v : Int) != 35) = true := by
            rw [bne_iff_ne]; intro e
            refine hmu ?_
            cases p with
            | nil => exact absurd rfl hne
            | cons a l => unfold mute; rw [beq_iff_eq]; exact UInt8.toNat_inj.1 (by show a.toNat = 35; have : v = a.toNat := hv; omega)
          have HNX : Hid (T ++ (p ++ [10]) = nlJ ((P.take (i + 1)).filter (fun l => !mute l))) := Lib.hid (by rw [htk, nlJ_snoc, ← hTe.out])
          obtain ⟨TB, hTB⟩ : ∃ B, B = ByteArray.mk T.toArray := ⟨_, rfl⟩
          have HCC : Hid (TB ++ (PB ++ (⟨#[10]⟩ : ByteArray)) = ⟨(T ++ (p ++ [10])).toArray⟩) := Lib.hid (by rw [hTB, hPB]; exact bcat10 T p)
          have hts : TB.size ≤ 5000000 := by rw [hTB]; show T.length ≤ _; omega
          have hpb : PB.size ≤ 2000 := by rw [hPB]; exact hps
          rw [← hTB]
          clear hPB hPL hmu hne htk hil hTe hv hTB
          go_wp2_with fail
          go_roundw
          case rel => exact ⟨i + 1, T ++ (p ++ [10]), by omega, by go_num, by rw [HCC.out], by simp only [List.length_append, List.length_cons, List.length_nil]; omega, HNX, trivial⟩
          case measure => simp [intOf]; omega
      · obtain rfl : i = n := by omega
        have hT1 : T = nlJ (Ls.map lineM) := by rw [hTe.out, List.take_of_length_le (by rw [← HN.out]; exact Nat.le_refl _), HXM.out]
        have HT1 := Lib.hid hT1
        have hT9 : T.length ≤ 5000000 := by omega
        clear hTe hT1 hTl
        obtain ⟨TB, hTB⟩ : ∃ B, B = ByteArray.mk T.toArray := ⟨_, rfl⟩
        rw [← hTB]
        have HTB := Lib.hid hTB
        clear hTB
        go_wp2_with fail
        go_loopw [9, 48] (fun s9 s48 wr2 => ∃ (j : Nat) (U : List UInt8), j ≤ m ∧ s48 = .int .i64 j ∧ s9 = .string ⟨U.toArray⟩ ∧ U.length ≤ 2001 * j ∧ Hid (U = nlJ ((Ls.take j).map lineM)) ∧ Hid (Below wr.heap.size wr wr2)) (fun _ s48 _ => m - (intOf s48).toNat)
        case atStart => exact ⟨0, [], by omega, rfl, rfl, by simp, Lib.hid rfl, Lib.hid (Below.refl _ _)⟩
        case round =>
          obtain ⟨j, U, hjm, rfl, rfl, hUl, hUe, HB⟩ := hrel
          rename World => wz
          by_cases hlt2 : j < m
          · have h1l : j < V1.length := by rw [HL1.out]; exact hlt2
            have hjl : j < Ls.length := by rw [← HM.out]; exact hlt2
            have i0 : (0 : Int) ≤ j := by omega
            have i1 : (j : Int) < m := by omega
            have i2 : IntKind.i64.wrap ((j : Int) + 1) = (j : Int) + 1 := by rw [IntKind.wrap_i64]; omega
            obtain ⟨g1, rfl, _⟩ := shape_ne HR15.out (by omega)
            have hst : V1[j].st = Ls[j] := by
              have e1 := congrArg (fun l => l[j]?) HV1.out
              simp only [List.getElem?_map, List.getElem?_eq_getElem h1l, List.getElem?_eq_getElem hjl, Option.map_some, Option.some.injEq] at e1
              exact e1
            have x1 := cellsV (HR15.out.old HB.out) h1l
            have k1 := (HK15.out _ (List.getElem_mem h1l)).old HB.out
            obtain ⟨l, hl1, hl2⟩ := HST.out _ (List.getElem_mem hjl)
            have hlb := line_back hl1
            have hsm := step_small hl1
            have hsl2 := step_len hl1
            have htk : nlJ ((Ls.take (j + 1)).map lineM) = nlJ ((Ls.take j).map lineM) ++ (l ++ [10]) := by
              rw [List.take_succ_eq_append_getElem hjl, List.map_append, List.map_singleton, nlJ_snoc, hlb]
            generalize Ls[j] = x at hst hl1 hlb hsm hsl2
            generalize V1[j] = v1 at hst x1 k1
            obtain ⟨C1, hC1⟩ : ∃ C, C = v1.c := ⟨_, rfl⟩
            rw [← hC1] at x1
            have HS1 : Hid ((Tryd.prog.info? 35).map (·.size) = some C1.size) := Lib.hid (by rw [hC1]; exact ln_size _ _ _ _ _)
            have HO1 : Hid (∀ v ∈ C1.toList, v.oneCell' = true) := Lib.hid (by rw [hC1]; exact v1.one)
            have HCZ : Hid (4 = C1.size) := Lib.hid (by rw [hC1]; rfl)
            have HX1 := Lib.hid x1
            have HLN : Hid (∀ w1, Below wz.heap.size wz w1 → Calls Tryd.prog 14 #[.agg C1] w1 fun e w' => e = .returned (.string ⟨l.toArray⟩) ∧ Below w1.heap.size w1 w') := Lib.hid (fun w1 hb => by
              have z1 := k1.old hb
              have hww : Below w.heap.size w w1 := (M5.out.trans (HB.out.mono M5.out.size)).trans (hb.mono (M5.out.trans (HB.out.mono M5.out.size)).size)
              have := lline_any v1.st v1.na v1.nc v1.ia v1.ic w1 z1.rn z1.ri (by rw [hst]; omega) (by rw [hst]; omega) (by rw [hst]; intro n hn; have := hsm n hn; omega) (by rw [hst, hlb]; omega) (HT.out.old hww)
              rw [hst, hlb] at this
              rw [hC1]
              show Calls _ _ #[.agg (stC v1.st _ _ _ _)] _ _
              rw [hst]; exact this)
            have HNX : Hid (U ++ (l ++ [10]) = nlJ ((Ls.take (j + 1)).map lineM)) := Lib.hid (by rw [htk, ← hUe.out])
            obtain ⟨UB, hUB⟩ : ∃ B, B = ByteArray.mk U.toArray := ⟨_, rfl⟩
            obtain ⟨LB, hLB⟩ : ∃ B, B = ByteArray.mk l.toArray := ⟨_, rfl⟩
            have HCC : Hid (UB ++ (LB ++ (⟨#[10]⟩ : ByteArray)) = ⟨(U ++ (l ++ [10])).toArray⟩) := Lib.hid (by rw [hUB, hLB]; exact bcat10 U l)
            have hus : UB.size ≤ 5000000 := by rw [hUB]; show U.length ≤ _; omega
            have hlbs : LB.size ≤ 2000 := by rw [hLB]; exact hl2
            rw [← hUB]
            rw [← hLB] at HLN
            clear hC1 x1 k1 hst h1l hjl hl1 hlb hsm hsl2 htk hUB hLB hUe
            go_wp2_with (first
              | (refine wpList_exec rfl (exec_loadC 35 (.tmp 50) rfl g1 (j * 4) rfl C1 _ HX1.out Tryd.underlying35 rfl HS1.out) ?_)
              | (refine wpList_store_row rfl rfl 35 (.tmp 11) (.tmp 51) rfl wz.heap.size rfl 35 _ C1 rfl (heap_alloc_new wz _) HCZ.out HS1.out HO1.out ?_
                 refine wpList_gen (fun W4 => W4.heap[wz.heap.size]? = some (.cells C1 35 (0, 0)) ∧ Below wz.heap.size wz W4) (lnew_row wz _ _ C1 35 rfl) (fun W4 hW4 => ?_)
                 obtain ⟨hr4, hb4⟩ := hW4
                 have HR4 := Lib.hid hr4
                 have HB4 := Lib.hid hb4
                 clear hr4 hb4)
              | (refine wpList_load_row rfl 35 (.tmp 11) rfl wz.heap.size rfl 35 _ (0, 0) _ HR4.out Tryd.underlying35 rfl HS1.out ?_))
            refine (HLN.out _ HB4.out).mono ?_
            rintro e w8 ⟨rfl, hb8⟩
            have HB8 := Lib.hid (HB.out.trans ((HB4.out.trans (hb8.mono HB4.out.size)).mono HB.out.size))
            clear hb8
            go_wp2_with fail
            go_roundw
            case rel => exact ⟨j + 1, U ++ (l ++ [10]), by omega, by go_num, by rw [HCC.out], by simp only [List.length_append, List.length_cons, List.length_nil]; omega, HNX, HB8⟩
            case measure => simp [intOf]; omega
          · obtain rfl : j = m := by omega
            have hUT : U = T := by rw [hUe.out, List.take_of_length_le (by rw [← HM.out]; exact Nat.le_refl _), HT1.out]
            have hUB : (⟨U.toArray⟩ : ByteArray) = TB := by rw [hUT, HTB.out]
            rw [hUB]
            have HE := Lib.hid (M5.out.trans (HB.out.mono M5.out.size))
            clear hUe hUT hUB
            go_wp2_with fail
            go_ret
            exact ⟨rfl, HE.out⟩
end Go.Proofs.YtpdhmjmklmoknaaDoor

namespace Go.Proofs.YtpdhmjmklmoknaaDoor
open Go.RowKit Go.Shelf

/-- What Parse tells of one line. -/
theorem par_line {u : List UInt8} (h : (10 : UInt8) ∉ u) : parM u = if mute u then ([], 0, true) else match stepM u with | none => ([], 1, false) | some x => ([x], 0, true) := by
  have hs : spl 10 u = [u] := by unfold spl; rw [splA_none 10 u [] h]; rfl
  unfold parM
  rw [hs, parG]
  by_cases hm : mute u = true
  · rw [if_pos hm, if_pos hm]; rfl
  · rw [if_neg hm, if_neg hm]
    cases stepM u <;> rfl
/-- A word as the law takes it: fourteen bytes at most, without newlines. -/
def wdX (s : List UInt8) : List UInt8 := (s.take 14).filter (fun c => c != 10)
theorem wdX_len (s : List UInt8) : (wdX s).length ≤ 14 := by
  unfold wdX
  exact Nat.le_trans (List.length_filter_le _ _) (by rw [List.length_take]; omega)
theorem wdX_free (s : List UInt8) : (10 : UInt8) ∉ wdX s := by
  unfold wdX; intro h
  have := (List.mem_filter.1 h).2
  simp at this
/-- The line of the first k words. -/
def lnX (L : List (List UInt8)) : Nat → List UInt8
  | 0 => []
  | k + 1 => (if k = 0 then [] else lnX L k ++ [32]) ++ wdX (L.getD k [])
theorem lnX_len (L : List (List UInt8)) : ∀ k, (lnX L k).length ≤ 15 * k
  | 0 => by simp [lnX]
  | k + 1 => by
    have h1 := lnX_len L k
    have h2 := wdX_len (L.getD k [])
    rw [lnX, List.length_append]
    split
    · simp only [List.length_nil]; omega
    · rw [List.length_append, List.length_singleton]; omega
theorem lnX_free (L : List (List UInt8)) : ∀ k, (10 : UInt8) ∉ lnX L k
  | 0 => by simp [lnX]
  | k + 1 => by
    rw [lnX]
    intro h
    rw [List.mem_append] at h
    rcases h with h | h
    · split at h
      · cases h
      · rw [List.mem_append, List.mem_singleton] at h
        rcases h with h | h
        · exact lnX_free L k h
        · exact absurd h (by decide)
    · exact wdX_free _ h
theorem wdX_step (s : List UInt8) (i : Nat) (hi : i < (s.take 14).length) : ((s.take 14).take (i + 1)).filter (fun c => c != 10) = ((s.take 14).take i).filter (fun c => c != 10) ++ (if (s.take 14)[i] != 10 then [(s.take 14)[i]] else []) := by
  rw [List.take_succ_eq_append_getElem hi, List.filter_append]
  generalize (s.take 14)[i] = c
  cases h : (c != 10) <;> simp [h]
end Go.Proofs.YtpdhmjmklmoknaaDoor

namespace Go.Proofs.YtpdhmjmklmoknaaDoor
open Go.RowKit Go.Shelf

theorem conv_one (w : World) (x : UInt8) : (convert 44 9 (.slice (some ⟨w.heap.size, 0, none⟩) 1 1)).run Tryd.prog (w.alloc (.cells #[.int .u8 (x.toNat : Int)] 5)) = .ok (.string ⟨#[x]⟩) (w.alloc (.cells #[.int .u8 (x.toNat : Int)] 5)) := by
  have := convU (cap := 1) (Rd.made encU w 5 [x] (by simp [maxLen])) (by simp)
  exact this
theorem bcat1 (T : List UInt8) (x : UInt8) : (ByteArray.mk T.toArray) ++ (⟨#[x]⟩ : ByteArray) = ⟨(T ++ [x]).toArray⟩ := by apply ByteArray.ext; simp
theorem rd_br {w : World} {g cap : Nat} {L : List UInt8} (h : Br w (some ⟨g, 0, none⟩) cap L) (j : Nat) (hj : j < L.length) : w.cell? ⟨g, j, none⟩ = some (.int .u8 (L[j].toNat : Int)) := by
  obtain ⟨g', cur, fr, e, hg, _, h1, _, h3, h4⟩ := h
  cases e
  have : (vals L)[j]? = some (.int .u8 (L[j].toNat : Int)) := by simp [vals, hj]
  rw [← h4, List.getElem?_take, if_pos hj, Array.getElem?_toList] at this
  rw [cell_of_row w g j cur 5 fr hg, this]
end Go.Proofs.YtpdhmjmklmoknaaDoor
