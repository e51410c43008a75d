/- Texts 6: what the laws lean on. -/
import Derived.Test.YtgkhnmohjidbmaaDoorZ5
import Derived.Test.YtgkhnmohjidbmaaDoorZ3
import Derived.Test.YtgkhnmohjidbmaaDoorZ2
set_option linter.unusedVariables false
set_option linter.unusedSimpArgs false
namespace Go.Proofs.YtgkhnmohjidbmaaDoor
open Go.RowKit Go.Shelf

/-- Bytes more, as an operation. -/
theorem wpList_pushBr {ops : Array Oper} {rest : List Oper} {o : Oper} {a : Act} {Q : Exit → Act → World → Prop} {w : World} (hgd : o.guard = none) (s x : Operand) (tx : TypeId)
    (ho : o.op = .call { callee := .builtin .append, args := #[s, x], argTypes := #[44, tx] }) (p : Option Addr) (cap n : Nat) (L : List UInt8) (hn : L.length = n) (hs : a.eval s = .slice p n cap) (hB : Br w p cap L)
    (xv : Value) (hx : a.eval x = xv) (Y : List UInt8) (m : Nat) (hm : Y.length = m) (hsrc : Src Tryd.prog 1 tx xv m (vals Y) w) (hl : n + m ≤ 100000000000)
    (h : ∀ q c w', Br w' q c (L ++ Y) → Mod (fun i => ∃ b, p = some b ∧ i = b.block) w w' → (∀ b, q = some b → (p = some b ∨ w.heap.size ≤ b.block)) → wpList Tryd.prog ops Q rest (a.put o.dst (.slice q (n + m) c)) w') :
    wpList Tryd.prog ops Q (o :: rest) a w := by
  subst hn
  subst hm
  obtain ⟨q, c, w', hr, h1, h2, h3⟩ := hB.push tx o.type xv Y hsrc hl
  refine wpList_exec hgd ?_ (h q c w' h1 h2 h3)
  unfold execOp
  simp only [ho, resolve, invoke, builtin, Sem.run_bind, Sem.run_pure, Result.andThen_ok, List.map_toArray, List.map_cons, List.map_nil, hs, hx, hr]
structure LnR (w : World) (g ib : Nat) (C : Array Value) (DN : ByteArray) (Z : List UInt8) (k : Nat) (RN RT : List (List UInt8)) (qn : Option Addr) (cn : Nat) (qt : Option Addr) (ct : Nat) (qb : Option Addr) (cb : Nat) (Db G : List UInt8) (wr : World) : Prop where
  br : Br wr qb cb Db
  rn : Rd encS wr qn RN
  cn : RN.length ≤ cn
  rt : Rd encS wr qt RT
  ct : RT.length ≤ ct
  bx : wr.heap[g]? = some (.cells C 35 (0, 0))
  it : wr.heap[ib]? = some (.stringIter DN k)
  eq : Z = Db ++ G
  ab : ∀ a, qb = some a → w.heap.size ≤ a.block ∧ a.block ≠ g ∧ a.block ≠ ib
  an : ∀ a b, qb = some a → qn = some b → a.block ≠ b.block
  at_ : ∀ a b, qb = some a → qt = some b → a.block ≠ b.block
  nl : ∀ b, qn = some b → b.block < wr.heap.size ∧ b.block ≠ ib
  tl : ∀ b, qt = some b → b.block < wr.heap.size ∧ b.block ≠ ib
  m : Below w.heap.size w wr
  lb : w.heap.size ≤ ib
  gi : g ≠ ib
  s1 : RN.length ≤ 1000000
  s2 : RT.length ≤ 1000000
  sz : Z.length ≤ 100000000
section
variable {w : World} {g ib : Nat} {C : Array Value} {DN : ByteArray} {Z : List UInt8} {k : Nat} {RN RT : List (List UInt8)} {qn : Option Addr} {cn : Nat} {qt : Option Addr} {ct : Nat} {qb : Option Addr} {cb : Nat} {Db G : List UInt8} {wr : World}
theorem LnR.below (h : LnR w g ib C DN Z k RN RT qn cn qt ct qb cb Db G wr) {W : World} (hb : Below wr.heap.size wr W) : LnR w g ib C DN Z k RN RT qn cn qt ct qb cb Db G W :=
  ⟨h.br.old hb, h.rn.old hb, h.cn, h.rt.old hb, h.ct, (hb.block _ (Array.getElem?_eq_some_iff.1 h.bx).1).trans h.bx, (hb.block _ (Array.getElem?_eq_some_iff.1 h.it).1).trans h.it, h.eq, h.ab, h.an, h.at_, (fun b e => ⟨Nat.lt_of_lt_of_le (h.nl b e).1 hb.size, (h.nl b e).2⟩), (fun b e => ⟨Nat.lt_of_lt_of_le (h.tl b e).1 hb.size, (h.tl b e).2⟩), h.m.trans (hb.mono h.m.size), h.lb, h.gi, h.s1, h.s2, h.sz⟩
theorem LnR.step (h : LnR w g ib C DN Z k RN RT qn cn qt ct qb cb Db G wr) {W : World} (hm : Mod (· = ib) wr W) (hit : W.heap[ib]? = some (.stringIter DN (k + 1))) : LnR w g ib C DN Z (k + 1) RN RT qn cn qt ct qb cb Db G W :=
  ⟨h.br.kept hm (fun a e => (h.ab a e).2.2), rdK h.rn hm (fun b e => (h.nl b e).2), h.cn, rdK h.rt hm (fun b e => (h.tl b e).2), h.ct, (hm.block _ (Array.getElem?_eq_some_iff.1 h.bx).1 h.gi).trans h.bx, hit, h.eq, h.ab, h.an, h.at_, (fun b e => ⟨Nat.lt_of_lt_of_le (h.nl b e).1 hm.size, (h.nl b e).2⟩), (fun b e => ⟨Nat.lt_of_lt_of_le (h.tl b e).1 hm.size, (h.tl b e).2⟩), h.m.trans (hm.to_below h.m.size (fun i hi e => by have := h.lb; omega)), h.lb, h.gi, h.s1, h.s2, h.sz⟩
theorem LnR.push (h : LnR w g ib C DN Z k RN RT qn cn qt ct qb cb Db G wr) {W : World} {Y G' : List UInt8} {q : Option Addr} {c : Nat} (hB : Br W q c (Db ++ Y)) (hm : Mod (fun i => ∃ b, qb = some b ∧ i = b.block) wr W) (hq : ∀ b, q = some b → (qb = some b ∨ wr.heap.size ≤ b.block)) (he : G = Y ++ G') :
    LnR w g ib C DN Z k RN RT qn cn qt ct q c (Db ++ Y) G' W := by
  have hg := (Array.getElem?_eq_some_iff.1 h.bx).1
  have hi := (Array.getElem?_eq_some_iff.1 h.it).1
  refine ⟨hB, rdK h.rn hm (fun b e => by rintro ⟨a, e2, e3⟩; exact h.an a b e2 e e3.symm), h.cn, rdK h.rt hm (fun b e => by rintro ⟨a, e2, e3⟩; exact h.at_ a b e2 e e3.symm), h.ct, (hm.block _ hg (by rintro ⟨a, e2, e3⟩; exact (h.ab a e2).2.1 e3.symm)).trans h.bx, (hm.block _ hi (by rintro ⟨a, e2, e3⟩; exact (h.ab a e2).2.2 e3.symm)).trans h.it, by rw [h.eq, he]; simp, ?_, ?_, ?_, (fun b e => ⟨Nat.lt_of_lt_of_le (h.nl b e).1 hm.size, (h.nl b e).2⟩), (fun b e => ⟨Nat.lt_of_lt_of_le (h.tl b e).1 hm.size, (h.tl b e).2⟩), h.m.trans (hm.to_below h.m.size (by rintro i hi2 ⟨a, e2, rfl⟩; have := (h.ab a e2).1; omega)), h.lb, h.gi, h.s1, h.s2, h.sz⟩
  · intro a e
    rcases hq a e with h1 | h1
    · exact h.ab a h1
    · have := h.m.size; exact ⟨by omega, by omega, by omega⟩
  · intro a b e e2
    rcases hq a e with h1 | h1
    · exact h.an a b h1 e2
    · have := (h.nl b e2).1; omega
  · intro a b e e2
    rcases hq a e with h1 | h1
    · exact h.at_ a b h1 e2
    · have := (h.tl b e2).1; omega
theorem LnR.names (h : LnR w g ib C DN Z k RN RT qn cn qt ct qb cb Db G wr) {RN' : List (List UInt8)} {q : Option Addr} {c : Nat} (hR : Rd encS wr q RN') (hc : RN'.length ≤ c) (hl : RN'.length ≤ RN.length) (hq : ∀ z, q = some z → ∃ b, qn = some b ∧ z.block = b.block) : LnR w g ib C DN Z k RN' RT q c qt ct qb cb Db G wr :=
  ⟨h.br, hR, hc, h.rt, h.ct, h.bx, h.it, h.eq, h.ab, (fun a b e e2 => by obtain ⟨b2, e3, e4⟩ := hq b e2; rw [e4]; exact h.an a b2 e e3), h.at_, (fun b e => by obtain ⟨b2, e3, e4⟩ := hq b e; rw [e4]; exact h.nl b2 e3), h.tl, h.m, h.lb, h.gi, Nat.le_trans hl h.s1, h.s2, h.sz⟩
theorem LnR.texts (h : LnR w g ib C DN Z k RN RT qn cn qt ct qb cb Db G wr) {RT' : List (List UInt8)} {q : Option Addr} {c : Nat} (hR : Rd encS wr q RT') (hc : RT'.length ≤ c) (hl : RT'.length ≤ RT.length) (hq : ∀ z, q = some z → ∃ b, qt = some b ∧ z.block = b.block) : LnR w g ib C DN Z k RN RT' qn cn q c qb cb Db G wr :=
  ⟨h.br, h.rn, h.cn, hR, hc, h.bx, h.it, h.eq, h.ab, h.an, (fun a b e e2 => by obtain ⟨b2, e3, e4⟩ := hq b e2; rw [e4]; exact h.at_ a b2 e e3), h.nl, (fun b e => by obtain ⟨b2, e3, e4⟩ := hq b e; rw [e4]; exact h.tl b2 e3), h.m, h.lb, h.gi, h.s1, Nat.le_trans hl h.s2, h.sz⟩
theorem LnR.len (h : LnR w g ib C DN Z k RN RT qn cn qt ct qb cb Db G wr) : Db.length + G.length ≤ 100000000 := by have := h.sz; rw [h.eq, List.length_append] at this; exact this
theorem LnR.re (h : LnR w g ib C DN Z k RN RT qn cn qt ct qb cb Db G wr) {G' : List UInt8} (e : G = G') : LnR w g ib C DN Z k RN RT qn cn qt ct qb cb Db G' wr := by subst e; exact h
end
end Go.Proofs.YtgkhnmohjidbmaaDoor

namespace Go.Proofs.YtgkhnmohjidbmaaDoor
open Go.RowKit Go.Shelf

theorem src_str (w : World) (Fl : List UInt8) : Src Tryd.prog 1 9 (.string ⟨Fl.toArray⟩) Fl.length (vals Fl) w := by
  have h := Src.ofString (P := Tryd.prog) (w := w) Tryd.underlying9 ⟨Fl.toArray⟩
  rw [bytesValsU] at h
  exact h
theorem src_one (w : World) : Src Tryd.prog 1 44 (.slice (some ⟨w.heap.size, 0, none⟩) 1 1) 1 (vals [32]) (w.alloc (.cells #[.int .u8 32] 5)) := by
  refine Src.ofSlice _ Tryd.underlying44 ⟨w.heap.size, 0, none⟩ 1 1 (vals [32]) rfl (fun j u hu => ?_) (fun u hu => by simp [vals] at hu; rw [hu]; rfl)
  have hj : j = 0 := by have := (List.getElem?_eq_some_iff.1 hu).1; simp [vals] at this; exact this
  subst hj
  have e : u = .int .u8 32 := by simp [vals] at hu; exact hu.symm
  rw [e, Addr.add_mid, cell_of_row _ w.heap.size _ _ 5 (0, 0) (heap_alloc_new w _)]; rfl
theorem br_text {w : World} {p : Option Addr} {cap : Nat} {L : List UInt8} (h : Br w p cap L) : (convert 44 9 (.slice p L.length cap)).run Tryd.prog w = .ok (.string ⟨L.toArray⟩) w := by
  obtain ⟨g, cur, fr, rfl, hg, _, h1, _, h3, h4⟩ := h
  rw [run_convert_bytes_arg w 44 5 Tryd.underlying44 Tryd.underlying5 g 0 L.length cap (L.map fun x => (x.toNat : Int)) (by simp) (fun i hi => by
    have : (vals L)[i]? = some (.int .u8 (L[i].toNat : Int)) := by simp [vals, hi]
    rw [← h4, List.getElem?_take, if_pos hi, Array.getElem?_toList] at this
    rw [Nat.zero_add, cell_of_row w g i cur 5 fr hg, this]
    simp [List.getD, hi]) 9 Tryd.underlying9]
  simp [strOfNums, Function.comp_def]
set_option maxRecDepth 1000000 in
set_option maxHeartbeats 32000000 in
theorem lline_any (x : St) (na : Option Addr) (nc : Nat) (ia : Option Addr) (ic : Nat) (w : World) (hn : Rw encS 9 w na nc x.names) (hi : Rw encNt 3 w ia ic x.nums) (hs1 : x.names.length ≤ 1000000) (hs2 : x.nums.length ≤ 1000000)
    (hnum : ∀ n ∈ x.nums, n ≤ 9223372036854775807) (hz : (lineM x).length ≤ 100000000) (hT : PowAt w) :
    Calls Tryd.prog 14 #[.agg (stC x na nc ia ic)] w fun e w' => e = .returned (.string ⟨(lineM x).toArray⟩) ∧ Below w.heap.size w w' := by
  obtain ⟨C, hC⟩ : ∃ C, C = stC x na nc ia ic := ⟨_, rfl⟩
  obtain ⟨W1, hW1⟩ : ∃ W1, W1 = w.alloc (.cells (stC x na nc ia ic) 35) := ⟨_, rfl⟩
  have hB1 : Below w.heap.size w W1 := by rw [hW1]; exact (Below.refl _ _).alloc (Nat.le_refl _) _
  have hA : W1.heap[w.heap.size]? = some (.cells C 35 (0, 0)) := by rw [hW1, hC]; exact heap_alloc_new w _
  have a0 := cell_of_row W1 w.heap.size 0 _ _ _ hA
  obtain ⟨WB, hWB⟩ : ∃ B, B = ByteArray.mk x.word.toArray := ⟨_, rfl⟩
  obtain ⟨XB, hXB⟩ : ∃ B, B = ByteArray.mk x.text.toArray := ⟨_, rfl⟩
  obtain ⟨nn, hnn⟩ : ∃ n, n = x.names.length := ⟨_, rfl⟩
  obtain ⟨ni, hni⟩ : ∃ n, n = x.nums.length := ⟨_, rfl⟩
  have g0 : C[0]? = some (.string WB) := by rw [hC, hWB]; rfl
  have g1 : C[1]? = some (.slice na nn nc) := by rw [hC, hnn]; rfl
  have g2 : C[2]? = some (.slice ia ni ic) := by rw [hC, hni]; rfl
  have g3 : C[3]? = some (.string XB) := by rw [hC, hXB]; rfl
  rw [g0] at a0
  have HC3 := Lib.hid g3
  have HXB := Lib.hid hXB
  obtain ⟨nd, hnd⟩ : ∃ nd, nd = (needP x.word).getD [] := ⟨_, rfl⟩
  have hasc : nd.length ≤ 8 ∧ ∀ c ∈ nd, c.toNat < 128 := by
    rw [hnd]
    cases h : needP x.word with
    | none => exact ⟨by simp, fun c hc => by cases hc⟩
    | some l => exact need_ascii h
  obtain ⟨nl, nasc⟩ := hasc
  have HNEED := Lib.hid (fun w => lneeds_any x.word w)
  obtain ⟨DN, hDN⟩ : ∃ D, D = ByteArray.mk nd.toArray := ⟨_, rfl⟩
  rw [← hnd, ← hDN, ← hWB] at HNEED
  generalize (needP x.word).isSome = okn at HNEED
  obtain ⟨TX, hTX⟩ : ∃ T, T = x.nums.map Lib.decDigits := ⟨_, rfl⟩
  have hZ : lineM x = x.word ++ lnG nd x.names TX x.text := by unfold lineM; rw [hnd, hTX]
  have hwl : x.word.length ≤ 100000000 := by rw [hZ, List.length_append] at hz; omega
  obtain ⟨cap, W2, hcv, hb2, hBr⟩ := Br.conv W1 x.word (by omega)
  rw [← hWB] at hcv
  obtain ⟨wl, hwle⟩ : ∃ n, n = x.word.length := ⟨_, rfl⟩
  rw [← hwle] at hcv
  have HC1 : Hid (∀ w1, Below W2.heap.size W2 w1 → w1.cell? ⟨w.heap.size, 1, none⟩ = some (.slice na nn nc)) := Lib.hid (fun w1 hb => by
    have := (hb.block _ (Array.getElem?_eq_some_iff.1 ((hb2.block _ (Array.getElem?_eq_some_iff.1 hA).1).trans hA)).1).trans ((hb2.block _ (Array.getElem?_eq_some_iff.1 hA).1).trans hA)
    rw [cell_of_row w1 w.heap.size 1 _ _ _ this, g1])
  have HC2 : Hid (∀ w1, Below W2.heap.size W2 w1 → w1.cell? ⟨w.heap.size, 2, none⟩ = some (.slice ia ni ic)) := Lib.hid (fun w1 hb => by
    have := (hb.block _ (Array.getElem?_eq_some_iff.1 ((hb2.block _ (Array.getElem?_eq_some_iff.1 hA).1).trans hA)).1).trans ((hb2.block _ (Array.getElem?_eq_some_iff.1 hA).1).trans hA)
    rw [cell_of_row w1 w.heap.size 2 _ _ _ this, g2])
  have hB2 : Below w.heap.size w W2 := hB1.trans (hb2.mono hB1.size)
  have HTX : Hid (∀ w1, Below W2.heap.size W2 w1 → Calls Tryd.prog 22 #[.slice ia ni ic] w1 fun e w' => Below w1.heap.size w1 w' ∧ ∃ q c, e = .returned (.slice q ni c) ∧ Rw encS 9 w' q c TX ∧ ∀ a, q = some a → w1.heap.size ≤ a.block) := Lib.hid (fun w1 hb => by
    have hbb : Below w.heap.size w w1 := hB2.trans (hb.mono hB2.size)
    have := ltexts_any ia ic x.nums w1 (hi.old hbb).rd hnum (by omega) (hT.old hbb)
    rw [← hni, ← hTX] at this
    exact this)
  have hgbn : W1.heap.size ≠ w.heap.size := by have := (Array.getElem?_eq_some_iff.1 hA).1; omega
  obtain ⟨gb, hgb⟩ : ∃ g, g = W1.heap.size := ⟨_, rfl⟩
  have hgb1 : w.heap.size < gb := by rw [hgb]; exact (Array.getElem?_eq_some_iff.1 hA).1
  have hgb2 : gb < W2.heap.size := by obtain ⟨g', cur, fr, e, hg', _⟩ := hBr; cases e; rw [hgb]; exact (Array.getElem?_eq_some_iff.1 hg').1
  rw [← hgb] at hcv hBr
  have HA2 := Lib.hid ((hb2.block _ (Array.getElem?_eq_some_iff.1 hA).1).trans hA)
  have HBR := Lib.hid hBr
  have HN2 := Lib.hid (hn.old hB2)
  have HB2 := Lib.hid hB2
  have HNA : Hid (∀ b, na = some b → b.block < w.heap.size) := Lib.hid (fun b e => by subst e; exact hn.lt)
  have HZ := Lib.hid hZ
  have HW1 := Lib.hid hW1
  have HGB := Lib.hid (And.intro hgb1 hgb2)
  have HSZ := Lib.hid hz
  have HNN0 := Lib.hid hnn
  have HNI := Lib.hid hni
  have HTXE := Lib.hid hTX
  have HDN := Lib.hid hDN
  have HASC := Lib.hid nasc
  have HWL := Lib.hid hwle
  obtain ⟨Z, hZZ⟩ : ∃ Z, Z = lineM x := ⟨_, rfl⟩
  rw [← hZZ] at HZ HSZ ⊢
  clear hZZ hC hW1 hB1 hA g0 g1 g2 g3 hWB hXB hnn hni hnd nasc hDN hTX hZ hwl hb2 hBr hwle hB2 hgbn hgb hgb1 hgb2 hn hi hnum hz hT
  go_enter Tryd.func14, Tryd.ntmps14
  go_upto_region 1 with fail
  rw [← HW1.out]
  go_wp2_with fail
  refine (HNEED.out _).mono ?_
  rintro e w2 ⟨rfl, rfl⟩
  go_upto_region 3 with fail
  have HG0 : Hid ((fun (j : Nat) (v : Value) (w1 : World) => Below W2.heap.size W2 w1 ∧ (1 ≤ j → ∃ q c, v = .slice q ni c ∧ Rw encS 9 w1 q c TX ∧ ∀ z, q = some z → W2.heap.size ≤ z.block)) 0 undef W2.drew) := Lib.hid ⟨(Below.refl _ _).drew, (fun h => absurd h (by omega))⟩
  refine wp_region_chain2 (fun t v => match t with
    | 20 => v = .pointer (some ⟨w.heap.size, 1, none⟩)
    | 21 => v = .slice na nn nc
    | 22 => v = .pointer (some ⟨w.heap.size, 2, none⟩)
    | 23 => v = .slice ia ni ic
    | 6 => v = .slice na nn nc
    | _ => True) (fun (j : Nat) (v : Value) (w1 : World) => Below W2.heap.size W2 w1 ∧ (1 ≤ j → ∃ q c, v = .slice q ni c ∧ Rw encS 9 w1 q c TX ∧ ∀ z, q = some z → W2.heap.size ≤ z.block)) [4, 6] 69 (by kernel_rfl) (by decide +kernel) rfl (by decide +kernel) (by decide) (by decide) HG0.out (by
    refine OweAllC.cons (owesC_val 2 (by decide +kernel) (by decide) rfl rfl fun k' a w1 x hk ha hG hV => ?_) ?_
    · skip
      have h1 := ha.outer 1 (by decide +kernel)
      simp only [Act.eval] at h1
      exact ⟨.pointer (some ⟨w.heap.size, 1, none⟩), wanted_free rfl, by simp [execOp, go_sem, h1], rfl⟩
    refine OweAllC.cons (owesC_val 2 (by decide +kernel) (by decide) rfl rfl fun k' a w1 x hk ha hG hV => ?_) ?_
    · skip
      have h20 : a.tmps.getD 20 undef = .pointer (some ⟨w.heap.size, 1, none⟩) := hV.get 20 (by decide +kernel)
      have cc := HC1.out w1 hG.1
      exact ⟨.slice na nn nc, wanted_free rfl, by simp [execOp, go_sem, h20, cc], rfl⟩
    refine OweAllC.cons (owesC_val 0 (by decide +kernel) (by decide) rfl rfl fun k' a w1 x hk ha hG hV => ?_) ?_
    · skip
      have h1 := ha.outer 1 (by decide +kernel)
      simp only [Act.eval] at h1
      exact ⟨.pointer (some ⟨w.heap.size, 2, none⟩), wanted_free rfl, by simp [execOp, go_sem, h1], rfl⟩
    refine OweAllC.cons (owesC_val 0 (by decide +kernel) (by decide) rfl rfl fun k' a w1 x hk ha hG hV => ?_) ?_
    · skip
      have h22 : a.tmps.getD 22 undef = .pointer (some ⟨w.heap.size, 2, none⟩) := hV.get 22 (by decide +kernel)
      have cc := HC2.out w1 hG.1
      exact ⟨.slice ia ni ic, wanted_free rfl, by simp [execOp, go_sem, h22, cc], rfl⟩
    refine OweAllC.cons (owesC_call 0 rfl rfl rfl 22 fun a w1 x ha hG hx hV => ?_) ?_
    · skip
      have h23 : a.tmps.getD 23 undef = .slice ia ni ic := hV.get 23 (by decide +kernel)
      refine ⟨#[.slice ia ni ic], wanted_free rfl, by simp [execOp, resolve, invoke, go_sem, h23], ?_⟩
      refine (HTX.out w1 hG.1).mono ?_
      rintro r w2 ⟨hb, q, c, rfl, hR, hq⟩
      exact ⟨_, rfl, trivial, hG.1.trans (hb.mono hG.1.size), fun _ => ⟨q, c, rfl, hR, fun z e => Nat.le_trans hG.1.size (hq z e)⟩⟩
    refine OweAllC.cons (owesC_val 2 (by decide +kernel) (by decide) rfl rfl fun k' a w1 x hk ha hG hV => ?_) ?_
    · skip
      have h21 : a.tmps.getD 21 undef = .slice na nn nc := hV.get 21 (by decide +kernel)
      exact ⟨.slice na nn nc, wanted_free rfl, by simp [execOp, go_sem, h21], rfl⟩
    refine OweAllC.cons (owesC_mem 1 rfl rfl rfl fun a w1 x ha hG hx hV => ?_) ?_
    · skip
      have h24 := hx 0 4 _ 24 rfl rfl rfl rfl
      simp only [Act.eval] at h24
      obtain ⟨q, c, hx1, hR⟩ := hG.2 (by omega)
      exact ⟨_, _, wanted_free rfl, by simp [execOp, go_sem, h24], trivial, hG.1, fun _ => ⟨q, c, hx1, hR⟩⟩
    exact OweAllC.nil
    ) ?_
  intro f wz xz hG hx hv
  have e6 : f 6 = .slice na nn nc := hv 5 _ 6 rfl rfl
  have e7 : f 7 = xz := hx 1 6 _ 7 rfl rfl rfl rfl
  first | (rename_i hK; refine hK _ _ ?_; clear hK) | (rename_i hK _; refine hK _ _ ?_; clear hK) | (rename_i hK _ _; refine hK _ _ ?_; clear hK) | (rename_i hK _ _ _; refine hK _ _ ?_; clear hK)
  clear hv hx
  simp only [dsts, puts, List.filterMap_cons, List.filterMap_nil, List.foldl_cons, List.foldl_nil, Act.put, List.setIfInBounds_toArray, List.set_cons_succ, List.set_cons_zero, e6, e7]
  clear e6 e7
  obtain ⟨hbz, hvz⟩ := hG
  obtain ⟨qt, ct, rfl, hRt, hqt⟩ := hvz (by decide)
  have HTN : Hid (∀ b, qt = some b → W2.heap.size ≤ b.block) := Lib.hid hqt
  have HBZ := Lib.hid hbz
  have HRT := Lib.hid hRt
  clear hbz hvz hRt hqt HG0 HTX HC1 HC2
  go_wp2_with fail
  obtain ⟨ib, hib⟩ : ∃ i, i = wz.heap.size := ⟨_, rfl⟩
  obtain ⟨W5, hW5⟩ : ∃ W5, W5 = wz.iter DN 0 := ⟨_, rfl⟩
  have hb5 : Below wz.heap.size wz W5 := by rw [hW5]; exact (Below.refl _ wz).alloc (Nat.le_refl _) _
  have hall : Below W2.heap.size W2 W5 := HBZ.out.trans (hb5.mono HBZ.out.size)
  have hgbib := HGB.out
  have hzz := HBZ.out.size
  have h0 : LnR w w.heap.size ib C DN Z 0 x.names TX na nc qt ct (some ⟨gb, 0, none⟩) cap x.word (lnG (nd.drop 0) x.names TX x.text) W5 := by
    refine ⟨HBR.out.old hall, (HN2.out.old hall).rd, HN2.out.cap_le, (HRT.out.old hb5).rd, HRT.out.cap_le, (hall.block _ (Array.getElem?_eq_some_iff.1 HA2.out).1).trans HA2.out, by rw [hW5, hib]; exact World.iter_heap wz DN 0, HZ.out, (fun a e => by cases e; simp only; omega), (fun a b e e2 => by cases e; have := HNA.out b e2; simp only; omega), (fun a b e e2 => ?_), (fun b e => by have := HNA.out b e; have := hall.size; constructor <;> omega), (fun b e => ?_), HB2.out.trans (hall.mono HB2.out.size), by omega, by omega, hs1, by rw [HTXE.out, List.length_map]; exact hs2, HSZ.out⟩
    · cases e; have := HTN.out b e2; simp only; omega
    · subst e; have := HRT.out.lt; have := hb5.size; constructor <;> omega
  have H0 := Lib.hid h0
  rw [← hib, show wz.iter DN 0 = W5 from hW5.symm]
  have HDL : Hid (DN.size = nd.length) := Lib.hid (by rw [HDN.out]; rfl)
  clear h0 hib hW5 hb5 hall hgbib hzz a0 hcv
  go_loopw [5, 6, 7] (fun s5 s6 s7 wr => ∃ (k : Nat) (RN RT : List (List UInt8)) (qn : Option Addr) (cn : Nat) (qt : Option Addr) (ct : Nat) (qb : Option Addr) (cb : Nat) (Db : List UInt8) (nb nn2 nt : Nat), s5 = .slice qb nb cb ∧ s6 = .slice qn nn2 cn ∧ s7 = .slice qt nt ct ∧ k ≤ nd.length ∧ Hid (nn2 = RN.length) ∧ Hid (nt = RT.length) ∧ Hid (Db.length = nb) ∧ LnR w w.heap.size ib C DN Z k RN RT qn cn qt ct qb cb Db (lnG (nd.drop k) RN RT x.text) wr) (fun _ _ _ wr => nd.length - wr.iterPos ib)
  case atStart => exact ⟨0, x.names, TX, _, _, _, _, _, _, _, _, _, _, rfl, rfl, rfl, by omega, HNN0, Lib.hid (by rw [HTXE.out, List.length_map, HNI.out]), Lib.hid HWL.out.symm, H0.out⟩
  case round =>
    clear H0
    obtain ⟨k, RN, RT, qn, cn, qt, ct, qb, cb, Db, nb, nn2, nt, rfl, rfl, rfl, hk, HNN, HNT, HNB, hR⟩ := hrel
    have HP0 := Lib.hid (iterPos_of hR.it)
    by_cases hlt : k < nd.length
    · obtain ⟨W5, hnx, hit1, hm1⟩ := lt_gen HDN.out hR.it hlt (HASC.out _ (List.getElem_mem hlt))
      have HR := Lib.hid hR
      have HM1 := Lib.hid hm1
      have HIT := Lib.hid hit1
      have hdr : nd.drop k = nd[k] :: nd.drop (k + 1) := List.drop_eq_getElem_cons hlt
      obtain ⟨z, hz⟩ : ∃ z, z = nd[k].toNat := ⟨_, rfl⟩
      rw [← hz] at hnx
      clear hR hm1 hit1
      by_cases h78 : nd[k] = 78
      · have hc := h78
        clear h78
        obtain rfl : z = 78 := by rw [hz, hc]; rfl
        cases RT with
        | nil =>
          obtain rfl : nt = 0 := HNT.out
          obtain ⟨G2, hG2⟩ : ∃ G2, G2 = lnG (nd.drop (k + 1)) RN [] x.text := ⟨_, rfl⟩
          have HG2 := Lib.hid hG2
          have hGe : lnG (nd.drop k) RN [] x.text = 32 :: (([] : List UInt8) ++ lnG (nd.drop (k + 1)) RN [] x.text) := by rw [hdr, hc, lnG]; rw [if_pos rfl]; rfl
          rw [← hG2] at hGe
          clear hc hz hdr hG2
          have HM0 := Lib.hid ((HR.out.step HM1.out HIT.out).re hGe)
          clear hGe
          go_wp2_with fail
          refine ((lfirst0_any qt ct W5)).mono ?_
          rintro e w8 ⟨rfl, rfl⟩
          have HM := Lib.hid (HM0.out.texts (RT' := []) (q := none) (c := 0) (fun j hj => absurd hj (by simp)) (Nat.zero_le _) (Nat.zero_le _) (fun z e => by cases e))
          clear HM0
          have hlen := HM.out.len
          have hnb9 : nb + 1 + (([] : List UInt8)).length ≤ 100000000 := by have h9 := hlen; rw [HNB.out] at h9; simp only [List.length_cons, List.length_append] at h9; omega
          clear hlen
          go_wp2_with (first
            | (at_builtin; refine wpList_pushBr rfl (.tmp 62) (.tmp 63) 44 rfl qb cb nb Db HNB.out rfl (HM.out.br.old ((Below.refl _ W5).alloc (Nat.le_refl _) _)) (.slice (some ⟨W5.heap.size, 0, none⟩) 1 1) rfl [32] 1 rfl (src_one W5) (by omega) ?_
               intro q2 c2 w6 hB6 hm6 hq6
               have HM6 := Lib.hid ((HM.out.below ((Below.refl _ W5).alloc (Nat.le_refl _) (.cells #[.int .u8 32] 5))).push (Y := [32]) (G' := ([] : List UInt8) ++ G2) hB6 hm6 hq6 rfl)
               clear hB6 hm6 hq6)
            | (at_builtin; refine wpList_pushBr rfl (.tmp 64) (.tmp 65) 9 rfl q2 c2 (nb + 1) (Db ++ [32]) (by rw [List.length_append, HNB.out]; rfl) rfl HM6.out.br (.string ⟨#[]⟩) rfl ([] : List UInt8) (([] : List UInt8)).length rfl (by first | exact src_str _ _ | (rw [HFB.out]; exact src_str _ _)) (by omega) ?_
               intro q3 c3 w7 hB7 hm7 hq7
               have HM7 := Lib.hid (HM6.out.push (Y := ([] : List UInt8)) (G' := G2) hB7 hm7 hq7 rfl)
               clear hB7 hm7 hq7))
          have HP7 := Lib.hid (iterPos_of HM7.out.it)
          go_roundw
          case rel => exact ⟨k + 1, RN, [], _, _, _, _, _, _, Db ++ [32] ++ ([] : List UInt8), _, _, _, rfl, rfl, rfl, by omega, (by first | exact HNN | exact Lib.hid rfl), (by first | exact HNT | exact Lib.hid rfl), Lib.hid (by rw [List.length_append, List.length_append, HNB.out]; rfl), by rw [← HG2.out]; exact HM7.out⟩
          case measure => rw [HP7.out, HP0.out]; omega
        | cons a l =>
          obtain rfl : nt = l.length + 1 := HNT.out
          obtain ⟨G2, hG2⟩ : ∃ G2, G2 = lnG (nd.drop (k + 1)) RN l x.text := ⟨_, rfl⟩
          have HG2 := Lib.hid hG2
          have hGe : lnG (nd.drop k) RN (a :: l) x.text = 32 :: (a ++ lnG (nd.drop (k + 1)) RN l x.text) := by rw [hdr, hc, lnG]; rw [if_pos rfl]; rfl
          rw [← hG2] at hGe
          clear hc hz hdr hG2
          have HM0 := Lib.hid ((HR.out.step HM1.out HIT.out).re hGe)
          clear hGe
          obtain ⟨bs, off, rfl, _, _⟩ := HM0.out.rt 0 (by simp)
          have HF := Lib.hid (lfirst_any bs off ct a l W5 HM0.out.rt HM0.out.ct)
          go_wp2_with fail
          refine (HF.out).mono ?_
          rintro e w8 ⟨⟨q8, c8, rfl, hR8, hc8, hq8⟩, hb8⟩
          have HM := Lib.hid ((HM0.out.texts hR8 hc8 (by simp) (fun z e => ⟨_, rfl, hq8 z e⟩)).below hb8)
          clear HM0 hR8 hc8 hq8 hb8 HF
          skip
          have hlen := HM.out.len
          have hnb9 : nb + 1 + (a).length ≤ 100000000 := by have h9 := hlen; rw [HNB.out] at h9; simp only [List.length_cons, List.length_append] at h9; omega
          clear hlen
          go_wp2_with (first
            | (at_builtin; refine wpList_pushBr rfl (.tmp 62) (.tmp 63) 44 rfl qb cb nb Db HNB.out rfl (HM.out.br.old ((Below.refl _ w8).alloc (Nat.le_refl _) _)) (.slice (some ⟨w8.heap.size, 0, none⟩) 1 1) rfl [32] 1 rfl (src_one w8) (by omega) ?_
               intro q2 c2 w6 hB6 hm6 hq6
               have HM6 := Lib.hid ((HM.out.below ((Below.refl _ w8).alloc (Nat.le_refl _) (.cells #[.int .u8 32] 5))).push (Y := [32]) (G' := a ++ G2) hB6 hm6 hq6 rfl)
               clear hB6 hm6 hq6)
            | (at_builtin; refine wpList_pushBr rfl (.tmp 64) (.tmp 65) 9 rfl q2 c2 (nb + 1) (Db ++ [32]) (by rw [List.length_append, HNB.out]; rfl) rfl HM6.out.br (.string ⟨a.toArray⟩) rfl a (a).length rfl (by first | exact src_str _ _ | (rw [HFB.out]; exact src_str _ _)) (by omega) ?_
               intro q3 c3 w7 hB7 hm7 hq7
               have HM7 := Lib.hid (HM6.out.push (Y := a) (G' := G2) hB7 hm7 hq7 rfl)
               clear hB7 hm7 hq7))
          have HP7 := Lib.hid (iterPos_of HM7.out.it)
          go_roundw
          case rel => exact ⟨k + 1, RN, l, _, _, _, _, _, _, Db ++ [32] ++ a, _, _, _, rfl, rfl, rfl, by omega, (by first | exact HNN | exact Lib.hid rfl), (by first | exact HNT | exact Lib.hid rfl), Lib.hid (by rw [List.length_append, List.length_append, HNB.out]; rfl), by rw [← HG2.out]; exact HM7.out⟩
          case measure => rw [HP7.out, HP0.out]; omega
      · by_cases h73 : nd[k] = 73
        · have hc := h73
          clear h73 h78
          obtain rfl : z = 73 := by rw [hz, hc]; rfl
          cases RN with
          | nil =>
            obtain rfl : nn2 = 0 := HNN.out
            obtain ⟨G2, hG2⟩ : ∃ G2, G2 = lnG (nd.drop (k + 1)) [] RT x.text := ⟨_, rfl⟩
            have HG2 := Lib.hid hG2
            have hGe : lnG (nd.drop k) [] RT x.text = 32 :: (([] : List UInt8) ++ lnG (nd.drop (k + 1)) [] RT x.text) := by rw [hdr, hc, lnG]; rw [if_neg (by decide), if_pos rfl]; rfl
            rw [← hG2] at hGe
            clear hc hz hdr hG2
            have HM0 := Lib.hid ((HR.out.step HM1.out HIT.out).re hGe)
            clear hGe
            go_wp2_with fail
            refine ((lfirst0_any qn cn W5)).mono ?_
            rintro e w8 ⟨rfl, rfl⟩
            have HM := Lib.hid (HM0.out.names (RN' := []) (q := none) (c := 0) (fun j hj => absurd hj (by simp)) (Nat.zero_le _) (Nat.zero_le _) (fun z e => by cases e))
            clear HM0
            have hlen := HM.out.len
            have hnb9 : nb + 1 + (([] : List UInt8)).length ≤ 100000000 := by have h9 := hlen; rw [HNB.out] at h9; simp only [List.length_cons, List.length_append] at h9; omega
            clear hlen
            go_wp2_with (first
              | (at_builtin; refine wpList_pushBr rfl (.tmp 62) (.tmp 63) 44 rfl qb cb nb Db HNB.out rfl (HM.out.br.old ((Below.refl _ W5).alloc (Nat.le_refl _) _)) (.slice (some ⟨W5.heap.size, 0, none⟩) 1 1) rfl [32] 1 rfl (src_one W5) (by omega) ?_
                 intro q2 c2 w6 hB6 hm6 hq6
                 have HM6 := Lib.hid ((HM.out.below ((Below.refl _ W5).alloc (Nat.le_refl _) (.cells #[.int .u8 32] 5))).push (Y := [32]) (G' := ([] : List UInt8) ++ G2) hB6 hm6 hq6 rfl)
                 clear hB6 hm6 hq6)
              | (at_builtin; refine wpList_pushBr rfl (.tmp 64) (.tmp 65) 9 rfl q2 c2 (nb + 1) (Db ++ [32]) (by rw [List.length_append, HNB.out]; rfl) rfl HM6.out.br (.string ⟨#[]⟩) rfl ([] : List UInt8) (([] : List UInt8)).length rfl (by first | exact src_str _ _ | (rw [HFB.out]; exact src_str _ _)) (by omega) ?_
                 intro q3 c3 w7 hB7 hm7 hq7
                 have HM7 := Lib.hid (HM6.out.push (Y := ([] : List UInt8)) (G' := G2) hB7 hm7 hq7 rfl)
                 clear hB7 hm7 hq7))
            have HP7 := Lib.hid (iterPos_of HM7.out.it)
            go_roundw
            case rel => exact ⟨k + 1, [], RT, _, _, _, _, _, _, Db ++ [32] ++ ([] : List UInt8), _, _, _, rfl, rfl, rfl, by omega, (by first | exact HNN | exact Lib.hid rfl), (by first | exact HNT | exact Lib.hid rfl), Lib.hid (by rw [List.length_append, List.length_append, HNB.out]; rfl), by rw [← HG2.out]; exact HM7.out⟩
            case measure => rw [HP7.out, HP0.out]; omega
          | cons a l =>
            obtain rfl : nn2 = l.length + 1 := HNN.out
            obtain ⟨G2, hG2⟩ : ∃ G2, G2 = lnG (nd.drop (k + 1)) l RT x.text := ⟨_, rfl⟩
            have HG2 := Lib.hid hG2
            have hGe : lnG (nd.drop k) (a :: l) RT x.text = 32 :: (a ++ lnG (nd.drop (k + 1)) l RT x.text) := by rw [hdr, hc, lnG]; rw [if_neg (by decide), if_pos rfl]; rfl
            rw [← hG2] at hGe
            clear hc hz hdr hG2
            have HM0 := Lib.hid ((HR.out.step HM1.out HIT.out).re hGe)
            clear hGe
            obtain ⟨bs, off, rfl, _, _⟩ := HM0.out.rn 0 (by simp)
            have HF := Lib.hid (lfirst_any bs off cn a l W5 HM0.out.rn HM0.out.cn)
            go_wp2_with fail
            refine (HF.out).mono ?_
            rintro e w8 ⟨⟨q8, c8, rfl, hR8, hc8, hq8⟩, hb8⟩
            have HM := Lib.hid ((HM0.out.names hR8 hc8 (by simp) (fun z e => ⟨_, rfl, hq8 z e⟩)).below hb8)
            clear HM0 hR8 hc8 hq8 hb8 HF
            skip
            have hlen := HM.out.len
            have hnb9 : nb + 1 + (a).length ≤ 100000000 := by have h9 := hlen; rw [HNB.out] at h9; simp only [List.length_cons, List.length_append] at h9; omega
            clear hlen
            go_wp2_with (first
              | (at_builtin; refine wpList_pushBr rfl (.tmp 62) (.tmp 63) 44 rfl qb cb nb Db HNB.out rfl (HM.out.br.old ((Below.refl _ w8).alloc (Nat.le_refl _) _)) (.slice (some ⟨w8.heap.size, 0, none⟩) 1 1) rfl [32] 1 rfl (src_one w8) (by omega) ?_
                 intro q2 c2 w6 hB6 hm6 hq6
                 have HM6 := Lib.hid ((HM.out.below ((Below.refl _ w8).alloc (Nat.le_refl _) (.cells #[.int .u8 32] 5))).push (Y := [32]) (G' := a ++ G2) hB6 hm6 hq6 rfl)
                 clear hB6 hm6 hq6)
              | (at_builtin; refine wpList_pushBr rfl (.tmp 64) (.tmp 65) 9 rfl q2 c2 (nb + 1) (Db ++ [32]) (by rw [List.length_append, HNB.out]; rfl) rfl HM6.out.br (.string ⟨a.toArray⟩) rfl a (a).length rfl (by first | exact src_str _ _ | (rw [HFB.out]; exact src_str _ _)) (by omega) ?_
                 intro q3 c3 w7 hB7 hm7 hq7
                 have HM7 := Lib.hid (HM6.out.push (Y := a) (G' := G2) hB7 hm7 hq7 rfl)
                 clear hB7 hm7 hq7))
            have HP7 := Lib.hid (iterPos_of HM7.out.it)
            go_roundw
            case rel => exact ⟨k + 1, l, RT, _, _, _, _, _, _, Db ++ [32] ++ a, _, _, _, rfl, rfl, rfl, by omega, (by first | exact HNN | exact Lib.hid rfl), (by first | exact HNT | exact Lib.hid rfl), Lib.hid (by rw [List.length_append, List.length_append, HNB.out]; rfl), by rw [← HG2.out]; exact HM7.out⟩
            case measure => rw [HP7.out, HP0.out]; omega
        · by_cases h76 : nd[k] = 76
          · have hc := h76
            clear h73 h78 h76
            obtain rfl : z = 76 := by rw [hz, hc]; rfl
            obtain ⟨G2, hG2⟩ : ∃ G2, G2 = lnG (nd.drop (k + 1)) RN RT x.text := ⟨_, rfl⟩
            have HG2 := Lib.hid hG2
            have hGe : lnG (nd.drop k) RN RT x.text = 32 :: (lst RN ++ lnG (nd.drop (k + 1)) RN RT x.text) := by rw [hdr, hc, lnG]; rw [if_neg (by decide), if_neg (by decide), if_pos rfl]; rfl
            rw [← hG2] at hGe
            clear hc hz hdr hG2
            have HM0 := Lib.hid ((HR.out.step HM1.out HIT.out).re hGe)
            clear hGe
            have hj9 : (jn 44 RN).length ≤ 100000000000 := by
              have h9 := HM0.out.len
              simp only [List.length_cons, List.length_append] at h9
              by_cases e : RN = []
              · rw [e]; decide
              · have : lst RN = jn 44 RN := by unfold lst; rw [if_neg e]
                rw [this] at h9; omega
            have HF := Lib.hid (by have := llist_any qn cn RN W5 HM0.out.rn HM0.out.cn (by have := HM0.out.s1; omega) hj9; rw [← HNN.out] at this; exact this)
            obtain ⟨Fl, hFl⟩ : ∃ Fl, Fl = lst RN := ⟨_, rfl⟩
            rw [← hFl] at HM0 HF
            clear hFl hj9
            go_wp2_with fail
            refine (HF.out).mono ?_
            rintro e w8 ⟨rfl, hb8⟩
            have HM := Lib.hid (HM0.out.below hb8)
            clear HM0 hb8 HF
            have hlen := HM.out.len
            have hnb9 : nb + 1 + (Fl).length ≤ 100000000 := by have h9 := hlen; rw [HNB.out] at h9; simp only [List.length_cons, List.length_append] at h9; omega
            clear hlen
            go_wp2_with (first
              | (at_builtin; refine wpList_pushBr rfl (.tmp 62) (.tmp 63) 44 rfl qb cb nb Db HNB.out rfl (HM.out.br.old ((Below.refl _ w8).alloc (Nat.le_refl _) _)) (.slice (some ⟨w8.heap.size, 0, none⟩) 1 1) rfl [32] 1 rfl (src_one w8) (by omega) ?_
                 intro q2 c2 w6 hB6 hm6 hq6
                 have HM6 := Lib.hid ((HM.out.below ((Below.refl _ w8).alloc (Nat.le_refl _) (.cells #[.int .u8 32] 5))).push (Y := [32]) (G' := Fl ++ G2) hB6 hm6 hq6 rfl)
                 clear hB6 hm6 hq6)
              | (at_builtin; refine wpList_pushBr rfl (.tmp 64) (.tmp 65) 9 rfl q2 c2 (nb + 1) (Db ++ [32]) (by rw [List.length_append, HNB.out]; rfl) rfl HM6.out.br (.string ⟨Fl.toArray⟩) rfl Fl (Fl).length rfl (by first | exact src_str _ _ | (rw [HFB.out]; exact src_str _ _)) (by omega) ?_
                 intro q3 c3 w7 hB7 hm7 hq7
                 have HM7 := Lib.hid (HM6.out.push (Y := Fl) (G' := G2) hB7 hm7 hq7 rfl)
                 clear hB7 hm7 hq7))
            have HP7 := Lib.hid (iterPos_of HM7.out.it)
            go_roundw
            case rel => exact ⟨k + 1, RN, RT, _, _, _, _, _, _, Db ++ [32] ++ Fl, _, _, _, rfl, rfl, rfl, by omega, (by first | exact HNN | exact Lib.hid rfl), (by first | exact HNT | exact Lib.hid rfl), Lib.hid (by rw [List.length_append, List.length_append, HNB.out]; rfl), by rw [← HG2.out]; exact HM7.out⟩
            case measure => rw [HP7.out, HP0.out]; omega
          · by_cases h77 : nd[k] = 77
            · have hc := h77
              clear h73 h78 h76 h77
              obtain rfl : z = 77 := by rw [hz, hc]; rfl
              obtain ⟨G2, hG2⟩ : ∃ G2, G2 = lnG (nd.drop (k + 1)) RN RT x.text := ⟨_, rfl⟩
              have HG2 := Lib.hid hG2
              have hGe : lnG (nd.drop k) RN RT x.text = 32 :: (lst RT ++ lnG (nd.drop (k + 1)) RN RT x.text) := by rw [hdr, hc, lnG]; rw [if_neg (by decide), if_neg (by decide), if_neg (by decide), if_pos rfl]; rfl
              rw [← hG2] at hGe
              clear hc hz hdr hG2
              have HM0 := Lib.hid ((HR.out.step HM1.out HIT.out).re hGe)
              clear hGe
              have hj9 : (jn 44 RT).length ≤ 100000000000 := by
                have h9 := HM0.out.len
                simp only [List.length_cons, List.length_append] at h9
                by_cases e : RT = []
                · rw [e]; decide
                · have : lst RT = jn 44 RT := by unfold lst; rw [if_neg e]
                  rw [this] at h9; omega
              have HF := Lib.hid (by have := llist_any qt ct RT W5 HM0.out.rt HM0.out.ct (by have := HM0.out.s2; omega) hj9; rw [← HNT.out] at this; exact this)
              obtain ⟨Fl, hFl⟩ : ∃ Fl, Fl = lst RT := ⟨_, rfl⟩
              rw [← hFl] at HM0 HF
              clear hFl hj9
              go_wp2_with fail
              refine (HF.out).mono ?_
              rintro e w8 ⟨rfl, hb8⟩
              have HM := Lib.hid (HM0.out.below hb8)
              clear HM0 hb8 HF
              have hlen := HM.out.len
              have hnb9 : nb + 1 + (Fl).length ≤ 100000000 := by have h9 := hlen; rw [HNB.out] at h9; simp only [List.length_cons, List.length_append] at h9; omega
              clear hlen
              go_wp2_with (first
                | (at_builtin; refine wpList_pushBr rfl (.tmp 62) (.tmp 63) 44 rfl qb cb nb Db HNB.out rfl (HM.out.br.old ((Below.refl _ w8).alloc (Nat.le_refl _) _)) (.slice (some ⟨w8.heap.size, 0, none⟩) 1 1) rfl [32] 1 rfl (src_one w8) (by omega) ?_
                   intro q2 c2 w6 hB6 hm6 hq6
                   have HM6 := Lib.hid ((HM.out.below ((Below.refl _ w8).alloc (Nat.le_refl _) (.cells #[.int .u8 32] 5))).push (Y := [32]) (G' := Fl ++ G2) hB6 hm6 hq6 rfl)
                   clear hB6 hm6 hq6)
                | (at_builtin; refine wpList_pushBr rfl (.tmp 64) (.tmp 65) 9 rfl q2 c2 (nb + 1) (Db ++ [32]) (by rw [List.length_append, HNB.out]; rfl) rfl HM6.out.br (.string ⟨Fl.toArray⟩) rfl Fl (Fl).length rfl (by first | exact src_str _ _ | (rw [HFB.out]; exact src_str _ _)) (by omega) ?_
                   intro q3 c3 w7 hB7 hm7 hq7
                   have HM7 := Lib.hid (HM6.out.push (Y := Fl) (G' := G2) hB7 hm7 hq7 rfl)
                   clear hB7 hm7 hq7))
              have HP7 := Lib.hid (iterPos_of HM7.out.it)
              go_roundw
              case rel => exact ⟨k + 1, RN, RT, _, _, _, _, _, _, Db ++ [32] ++ Fl, _, _, _, rfl, rfl, rfl, by omega, (by first | exact HNN | exact Lib.hid rfl), (by first | exact HNT | exact Lib.hid rfl), Lib.hid (by rw [List.length_append, List.length_append, HNB.out]; rfl), by rw [← HG2.out]; exact HM7.out⟩
              case measure => rw [HP7.out, HP0.out]; omega
            · by_cases h84 : nd[k] = 84
              · have hc := h84
                clear h73 h78 h76 h77 h84
                obtain rfl : z = 84 := by rw [hz, hc]; rfl
                obtain ⟨G2, hG2⟩ : ∃ G2, G2 = lnG (nd.drop (k + 1)) RN RT x.text := ⟨_, rfl⟩
                have HG2 := Lib.hid hG2
                have hGe : lnG (nd.drop k) RN RT x.text = 32 :: ((x.text) ++ lnG (nd.drop (k + 1)) RN RT x.text) := by rw [hdr, hc, lnG]; rw [if_neg (by decide), if_neg (by decide), if_neg (by decide), if_neg (by decide), if_pos rfl]; rfl
                rw [← hG2] at hGe
                clear hc hz hdr hG2
                have HM0 := Lib.hid ((HR.out.step HM1.out HIT.out).re hGe)
                clear hGe
                have c3 := cell_of_row _ w.heap.size 3 C 35 (0, 0) HM0.out.bx
                rw [HC3.out] at c3
                obtain ⟨Fl, hFl⟩ : ∃ Fl, Fl = x.text := ⟨_, rfl⟩
                rw [← hFl] at HM0
                have HFB : Hid (XB = ⟨Fl.toArray⟩) := Lib.hid (by rw [HXB.out, hFl])
                clear hFl
                have HM := HM0
                clear HM0
                go_upto_region 21 with fail
                have hlen := HM.out.len
                have hnb9 : nb + 1 + (Fl).length ≤ 100000000 := by have h9 := hlen; rw [HNB.out] at h9; simp only [List.length_cons, List.length_append] at h9; omega
                clear hlen
                go_wp2_with (first
                  | (at_builtin; refine wpList_pushBr rfl (.tmp 62) (.tmp 63) 44 rfl qb cb nb Db HNB.out rfl (HM.out.br.old ((Below.refl _ W5).alloc (Nat.le_refl _) _)) (.slice (some ⟨W5.heap.size, 0, none⟩) 1 1) rfl [32] 1 rfl (src_one W5) (by omega) ?_
                     intro q2 c2 w6 hB6 hm6 hq6
                     have HM6 := Lib.hid ((HM.out.below ((Below.refl _ W5).alloc (Nat.le_refl _) (.cells #[.int .u8 32] 5))).push (Y := [32]) (G' := Fl ++ G2) hB6 hm6 hq6 rfl)
                     clear hB6 hm6 hq6)
                  | (at_builtin; refine wpList_pushBr rfl (.tmp 64) (.tmp 65) 9 rfl q2 c2 (nb + 1) (Db ++ [32]) (by rw [List.length_append, HNB.out]; rfl) rfl HM6.out.br (.string XB) rfl Fl (Fl).length rfl (by first | exact src_str _ _ | (rw [HFB.out]; exact src_str _ _)) (by omega) ?_
                     intro q3 c3 w7 hB7 hm7 hq7
                     have HM7 := Lib.hid (HM6.out.push (Y := Fl) (G' := G2) hB7 hm7 hq7 rfl)
                     clear hB7 hm7 hq7))
                have HP7 := Lib.hid (iterPos_of HM7.out.it)
                go_roundw
                case rel => exact ⟨k + 1, RN, RT, _, _, _, _, _, _, Db ++ [32] ++ Fl, _, _, _, rfl, rfl, rfl, by omega, (by first | exact HNN | exact Lib.hid rfl), (by first | exact HNT | exact Lib.hid rfl), Lib.hid (by rw [List.length_append, List.length_append, HNB.out]; rfl), by rw [← HG2.out]; exact HM7.out⟩
                case measure => rw [HP7.out, HP0.out]; omega
              · by_cases h72 : nd[k] = 72
                · have hc := h72
                  clear h73 h78 h76 h77 h84 h72
                  obtain rfl : z = 72 := by rw [hz, hc]; rfl
                  obtain ⟨G2, hG2⟩ : ∃ G2, G2 = lnG (nd.drop (k + 1)) RN RT x.text := ⟨_, rfl⟩
                  have HG2 := Lib.hid hG2
                  have hGe : lnG (nd.drop k) RN RT x.text = 32 :: ((hexW x.text) ++ lnG (nd.drop (k + 1)) RN RT x.text) := by rw [hdr, hc, lnG]; rw [if_neg (by decide), if_neg (by decide), if_neg (by decide), if_neg (by decide), if_neg (by decide), if_pos rfl]; rfl
                  rw [← hG2] at hGe
                  clear hc hz hdr hG2
                  have HM0 := Lib.hid ((HR.out.step HM1.out HIT.out).re hGe)
                  clear hGe
                  have c3 := cell_of_row _ w.heap.size 3 C 35 (0, 0) HM0.out.bx
                  rw [HC3.out] at c3
                  obtain ⟨Fl, hFl⟩ : ∃ Fl, Fl = hexW x.text := ⟨_, rfl⟩
                  have HF := Lib.hid (by have := lhex_any x.text W5 (by have h9 := hexL_len x.text; have h8 := HM0.out.len; simp only [List.length_cons, List.length_append] at h8; have h7 : x.text.length ≤ (hexW x.text).length := (by unfold hexW; split <;> rename_i e; rw [e]; simp; rw [h9]; omega); omega); rw [← HXB.out, ← hFl] at this; exact this)
                  rw [← hFl] at HM0
                  clear hFl
                  go_wp2_with fail
                  refine (HF.out).mono ?_
                  rintro e w8 ⟨rfl, hb8⟩
                  have HM := Lib.hid (HM0.out.below hb8)
                  clear HM0 hb8 HF c3
                  have hlen := HM.out.len
                  have hnb9 : nb + 1 + (Fl).length ≤ 100000000 := by have h9 := hlen; rw [HNB.out] at h9; simp only [List.length_cons, List.length_append] at h9; omega
                  clear hlen
                  go_wp2_with (first
                    | (at_builtin; refine wpList_pushBr rfl (.tmp 62) (.tmp 63) 44 rfl qb cb nb Db HNB.out rfl (HM.out.br.old ((Below.refl _ w8).alloc (Nat.le_refl _) _)) (.slice (some ⟨w8.heap.size, 0, none⟩) 1 1) rfl [32] 1 rfl (src_one w8) (by omega) ?_
                       intro q2 c2 w6 hB6 hm6 hq6
                       have HM6 := Lib.hid ((HM.out.below ((Below.refl _ w8).alloc (Nat.le_refl _) (.cells #[.int .u8 32] 5))).push (Y := [32]) (G' := Fl ++ G2) hB6 hm6 hq6 rfl)
                       clear hB6 hm6 hq6)
                    | (at_builtin; refine wpList_pushBr rfl (.tmp 64) (.tmp 65) 9 rfl q2 c2 (nb + 1) (Db ++ [32]) (by rw [List.length_append, HNB.out]; rfl) rfl HM6.out.br (.string ⟨Fl.toArray⟩) rfl Fl (Fl).length rfl (by first | exact src_str _ _ | (rw [HFB.out]; exact src_str _ _)) (by omega) ?_
                       intro q3 c3 w7 hB7 hm7 hq7
                       have HM7 := Lib.hid (HM6.out.push (Y := Fl) (G' := G2) hB7 hm7 hq7 rfl)
                       clear hB7 hm7 hq7))
                  have HP7 := Lib.hid (iterPos_of HM7.out.it)
                  go_roundw
                  case rel => exact ⟨k + 1, RN, RT, _, _, _, _, _, _, Db ++ [32] ++ Fl, _, _, _, rfl, rfl, rfl, by omega, (by first | exact HNN | exact Lib.hid rfl), (by first | exact HNT | exact Lib.hid rfl), Lib.hid (by rw [List.length_append, List.length_append, HNB.out]; rfl), by rw [← HG2.out]; exact HM7.out⟩
                  case measure => rw [HP7.out, HP0.out]; omega
                · skip
                  obtain ⟨G2, hG2⟩ : ∃ G2, G2 = lnG (nd.drop (k + 1)) RN RT x.text := ⟨_, rfl⟩
                  have HG2 := Lib.hid hG2
                  have hGe : lnG (nd.drop k) RN RT x.text = 32 :: (([] : List UInt8) ++ lnG (nd.drop (k + 1)) RN RT x.text) := by rw [hdr, lnG]; rw [if_neg h78, if_neg h73, if_neg h76, if_neg h77, if_neg h84, if_neg h72]; rfl
                  have hne : ∀ v : UInt8, nd[k] ≠ v → ((z : Int) == (v.toNat : Int)) = false := fun v h => by rw [beq_eq_false_iff_ne, hz]; intro e; exact h (UInt8.toNat_inj.1 (by omega))
                  have t1 : ((z : Int) == 78) = false := hne 78 h78
                  have t2 : ((z : Int) == 73) = false := hne 73 h73
                  have t3 : ((z : Int) == 76) = false := hne 76 h76
                  have t4 : ((z : Int) == 77) = false := hne 77 h77
                  have t5 : ((z : Int) == 84) = false := hne 84 h84
                  have t6 : ((z : Int) == 72) = false := hne 72 h72
                  clear hne h78 h73 h76 h77 h84 h72
                  rw [← hG2] at hGe
                  clear hz hdr hG2
                  have HM := Lib.hid ((HR.out.step HM1.out HIT.out).re hGe)
                  clear hGe
                  have hlen := HM.out.len
                  have hnb9 : nb + 1 + (([] : List UInt8)).length ≤ 100000000 := by have h9 := hlen; rw [HNB.out] at h9; simp only [List.length_cons, List.length_append] at h9; omega
                  clear hlen
                  go_wp2_with (first
                    | (at_builtin; refine wpList_pushBr rfl (.tmp 62) (.tmp 63) 44 rfl qb cb nb Db HNB.out rfl (HM.out.br.old ((Below.refl _ W5).alloc (Nat.le_refl _) _)) (.slice (some ⟨W5.heap.size, 0, none⟩) 1 1) rfl [32] 1 rfl (src_one W5) (by omega) ?_
                       intro q2 c2 w6 hB6 hm6 hq6
                       have HM6 := Lib.hid ((HM.out.below ((Below.refl _ W5).alloc (Nat.le_refl _) (.cells #[.int .u8 32] 5))).push (Y := [32]) (G' := ([] : List UInt8) ++ G2) hB6 hm6 hq6 rfl)
                       clear hB6 hm6 hq6)
                    | (at_builtin; refine wpList_pushBr rfl (.tmp 64) (.tmp 65) 9 rfl q2 c2 (nb + 1) (Db ++ [32]) (by rw [List.length_append, HNB.out]; rfl) rfl HM6.out.br (.string ⟨#[]⟩) rfl ([] : List UInt8) (([] : List UInt8)).length rfl (by first | exact src_str _ _ | (rw [HFB.out]; exact src_str _ _)) (by omega) ?_
                       intro q3 c3 w7 hB7 hm7 hq7
                       have HM7 := Lib.hid (HM6.out.push (Y := ([] : List UInt8)) (G' := G2) hB7 hm7 hq7 rfl)
                       clear hB7 hm7 hq7))
                  have HP7 := Lib.hid (iterPos_of HM7.out.it)
                  go_roundw
                  case rel => exact ⟨k + 1, RN, RT, _, _, _, _, _, _, Db ++ [32] ++ ([] : List UInt8), _, _, _, rfl, rfl, rfl, by omega, (by first | exact HNN | exact Lib.hid rfl), (by first | exact HNT | exact Lib.hid rfl), Lib.hid (by rw [List.length_append, List.length_append, HNB.out]; rfl), by rw [← HG2.out]; exact HM7.out⟩
                  case measure => rw [HP7.out, HP0.out]; omega
    · obtain rfl : k = nd.length := by omega
      have hnx : ∀ ty, (Instr.next (.pointer (some ⟨ib, 0, none⟩)) true ty).run Tryd.prog wr = _ := fun ty => Lib.run_next_end_at wr ib DN nd.length ty hR.it (by rw [HDL.out]; omega)
      have hZD : Z = Db := by rw [hR.eq, List.drop_length]; simp [lnG]
      have hcv2 := br_text hR.br
      rw [HNB.out, ← hZD] at hcv2
      have HM := Lib.hid hR.m
      clear hR hZD
      go_wp2_with fail
      go_ret
      exact ⟨rfl, HM.out⟩
end Go.Proofs.YtgkhnmohjidbmaaDoor
