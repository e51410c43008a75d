/- Texts 3: what the laws lean on. -/
import Derived.Test.YtjjkobbajbbgdaaGreatDoorZ2
import Derived.OwnWalk
import Derived.Test.YtjjkobbajbbgdaaGreatDoorSort
import Derived.Test.YtjjkobbajbbgdaaGreatDoorZ1
import Derived.Test.YtjjkobbajbbgdaaGreatDoorProg
import Derived.Deep.AppendLies
import Derived.RangeFuncBox
import Derived.Deep.CutBlock
import Derived.Deep.DeepCutAuto
import Derived.Deep.LoopGhost
import Derived.Laws.Rows
import Derived.Great.BuildSlice
import Derived.BigQuiet
import Derived.Stop.BytesEq
namespace Go.Proofs.YtjjkobbajbbgdaaGreatDoor
open Go.RowKit

def zN : Nm := ⟨zid, rfl⟩
theorem info_name : (Tryz.prog.info? 36).map (fun i => (i.zero, i.size, i.bytes)) = some (some (.agg (vals zid).toArray), 32, 32) := by kernel_rfl
theorem all_rep (n : Nat) : (madeCells (vals zid).toArray (n * 32)).toList = encN.all (List.replicate n zN) := by
  have hzl : (vals zid).length = 32 := by rw [vals_len]; rfl
  apply List.ext_getElem?
  intro t
  by_cases ht : t < n * 32
  · have hd : t / 32 < n := by omega
    have hr : t % 32 < 32 := Nat.mod_lt _ (by decide)
    have he : t / 32 * 32 + t % 32 = t := by omega
    have h := encN.all_get (List.replicate n zN) (t / 32) (t % 32) (by simpa using hd) hr
    rw [show encN.k = 32 from rfl, he] at h
    rw [h, List.getElem_replicate, show encN.f zN = vals zid from rfl]
    generalize vals zid = V at hzl
    simp [madeCells, ht, hzl, hr]
  · have h2 : (encN.all (List.replicate n zN)).length = n * 32 := by rw [encN.all_len, List.length_replicate]; rfl
    rw [List.getElem?_eq_none (by simp [madeCells]; omega), List.getElem?_eq_none (by rw [h2]; omega)]
/-- 'make([]api.ID, n)'. -/
theorem wpList_makeN {ops : Array Oper} {rest : List Oper} {o : Oper} {a : Act} {Q : Exit → Act → World → Prop} {w : World} (hgd : o.guard = none) (l c : Operand) (hop : o.op = Op.makeSlice 62 l c)
    (n : Nat) (L C : Int) (hl : a.eval l = .int .i64 L) (hc : a.eval c = .int .i64 C) (hL : L = (n : Int)) (hC : C = (n : Int)) (hn : n ≤ 1000000)
    (hK : ∀ w', Rw encN 36 w' (some ⟨w.heap.size, 0, none⟩) n (List.replicate n zN) → Below w.heap.size w w' → w.heap.size < w'.heap.size → wpList Tryz.prog ops Q rest (a.put o.dst (.slice (some ⟨w.heap.size, 0, none⟩) n n)) w') :
    wpList Tryz.prog ops Q (o :: rest) a w := by
  obtain ⟨i, hi, hzz⟩ := Option.map_eq_some_iff.1 info_name
  simp only [Prod.mk.injEq] at hzz
  obtain ⟨hz, h1, h2⟩ := hzz
  refine wpList_make_full w hgd l c 62 hop 0 36 i (.agg (vals zid).toArray) 32 Tryz.underlying62 hi hz h1 .i64 .i64 L C n hl hc hL hC (by rw [h2]; omega) (by unfold maxLen; omega) (Nat.zero_le _) ?_
  intro w' hown hgrow
  rw [show (Value.agg (vals zid).toArray).cells = (vals zid).toArray from rfl, all_rep] at hown
  refine hK w' ?_ ((Below.refl _ _).grown hgrow (Nat.le_refl _) (by intro k h; cases h)) ?_
  · unfold Rw; rw [List.length_replicate]; exact hown
  · rcases hown.2 with ⟨h, _⟩ | ⟨g, cap, cur, h, _, hh, _⟩
    · cases h
    · simp only [Value.slice.injEq, Option.some.injEq, Addr.mk.injEq] at h
      obtain ⟨⟨rfl, _⟩, _⟩ := h
      exact (Array.getElem?_eq_some_iff.1 hh).1
theorem ext_bytes (K : List UInt8) (a b : Nat) : (⟨K.toArray⟩ : ByteArray).extract a b = ⟨((K.drop a).take (b - a)).toArray⟩ := by
  apply ByteArray.ext
  simp [List.extract_eq_take_drop]
/-- The i-th 32 bytes. -/
def pc (K : List UInt8) (i : Nat) : Nm := nmOf ((K.drop (i * 32)).take 32)
/-- The pieces of 32 bytes. -/
def pcs (K : List UInt8) : List Nm := (List.range (K.length / 32)).map (pc K)
/-- The first i are written. -/
def mid (K : List UInt8) (m i : Nat) : List Nm := (List.range i).map (pc K) ++ List.replicate (m - i) zN
theorem mid_l (K : List UInt8) (m i : Nat) (h : i ≤ m) : (mid K m i).length = m := by simp [mid]; omega
theorem mid_s (K : List UInt8) (m i : Nat) (h : i < m) : (mid K m i).set i (pc K i) = mid K m (i + 1) := by
  unfold mid
  rw [List.set_append_right _ _ (by simp), List.length_map, List.length_range, Nat.sub_self, show m - i = (m - (i + 1)) + 1 by omega, List.replicate_succ, List.set_cons_zero, List.range_succ, List.map_append, List.append_assoc]
  simp
/-- Are these one to five names, rising? -/
def nmsOk (K : List UInt8) : Bool := decide (K.length % 32 = 0 ∧ 1 ≤ K.length / 32 ∧ K.length / 32 ≤ 5) && rs ((pcs K).map (·.1)) (K.length / 32 - 1)
def NPost (K : List UInt8) (w : World) (r : Ending) (w' : World) : Prop :=
  ∃ q c L, r = .returned (.tuple #[.slice q L.length c, .bool (nmsOk K)]) ∧ L = (if nmsOk K then pcs K else []) ∧ Rw encN 36 w' q c L ∧ (∀ a, q = some a → w.heap.size ≤ a.block) ∧ Below w.heap.size w w'
theorem NPost.no {K : List UInt8} {w w' : World} (h : nmsOk K = false) (hb : Below w.heap.size w w') : NPost K w (.returned (.tuple #[.slice none 0 0, .bool false])) w' :=
  ⟨none, 0, [], by rw [h]; rfl, by rw [h]; rfl, Rw.empty _ _, (fun a e => by cases e), hb⟩
theorem NPost.of {K : List UInt8} {w w' : World} {r : Ending} (h : NPost K w r w') {P : Ending → World → Prop} (hP : P = NPost K w) : P r w' := by rw [hP]; exact h

set_option maxRecDepth 20000 in
set_option maxHeartbeats 4000000 in
theorem hnames_any (K : List UInt8) (w : World) (hK : K.length ≤ 1000000) : Calls Tryz.prog 73 #[.string ⟨K.toArray⟩] w (NPost K w) := by
  obtain ⟨F, hF⟩ : ∃ F, F = NPost K w := ⟨_, rfl⟩
  have HF := Lib.hid hF
  rw [← hF]
  clear hF
  by_cases h1 : K.length % 32 = 0
  · have e1 : (K.length : Int) % 32 = 0 := by omega
    by_cases h2 : 1 ≤ K.length / 32
    · have e2 : ¬ (K.length : Int) / 32 < 1 := by omega
      by_cases h3 : K.length / 32 ≤ 5
      · have e3 : ¬ 5 < (K.length : Int) / 32 := by omega
        obtain ⟨m, hm⟩ : ∃ m, m = K.length / 32 := ⟨_, rfl⟩
        have HM : Hid ((K.length : Int) / 32 = (m : Int)) := Lib.hid (by omega)
        have H5 : Hid (m ≤ 1000000) := Lib.hid (by omega)
        have h5 : m ≤ 5 := by omega
        have Hm := Lib.hid hm
        have Hk : Hid (m * 32 = K.length ∧ nmsOk K = rs ((pcs K).map (·.1)) (m - 1)) := Lib.hid ⟨by omega, by unfold nmsOk; rw [decide_eq_true ⟨h1, h2, h3⟩, Bool.true_and, ← hm]⟩
        clear h1 h2 h3 hm
        go_enter Tryz.func73, Tryz.ntmps73
        go_wp2_with (at_make; refine wpList_makeN rfl _ _ rfl m _ _ rfl rfl HM.out HM.out H5.out ?_; intro w1 hrw hb1 hlt1)
        obtain ⟨g, hg⟩ : ∃ g, g = w.heap.size := ⟨_, rfl⟩
        obtain ⟨o, ho⟩ : ∃ o, o = 0 := ⟨_, rfl⟩
        rw [← hg] at hrw hlt1 ⊢
        rw [show (some (⟨g, 0, none⟩ : Addr)) = some ⟨g, o, none⟩ by rw [ho]]
        have Hg := Lib.hid hg
        have Ho := Lib.hid ho
        have HR1 : Hid (Rw encN 36 w1 (some ⟨g, 0, none⟩) m (mid K m 0) ∧ Below w.heap.size w w1) := Lib.hid ⟨by simpa [mid] using hrw, hb1⟩
        clear hg ho hrw hb1 hlt1
        go_loopw [6, 26] (fun _ s26 wr => ∃ i : Nat, i ≤ m ∧ s26 = .int .i64 (i : Int) ∧ Hid (Rw encN 36 wr (some ⟨g, 0, none⟩) m (mid K m i) ∧ Below w.heap.size w wr)) (fun _ i _ => m - (intOf i).toNat)
        case atStart => exact ⟨0, Nat.zero_le _, rfl, HR1⟩
        case round =>
          clear HR1
          obtain ⟨i, hi, rfl, HB⟩ := hrel
          by_cases hlt : i < m
          · have i0 : (0 : Int) ≤ i := by omega
            have i1 : (i : Int) < m := by omega
            have hk5 : m * 32 = K.length := Hk.out.1
            have e5 : IntKind.i64.wrap ((i : Int) * 32) = (i : Int) * 32 := IntWalk.i64_in _ (by omega)
            have e6 : IntKind.i64.wrap ((i : Int) + 1) = (i : Int) + 1 := IntWalk.i64_in _ (by omega)
            have e7 : IntKind.i64.wrap (((i : Int) + 1) * 32) = ((i : Int) + 1) * 32 := IntWalk.i64_in _ (by omega)
            have e8 : ((i : Int) * 32).toNat = i * 32 := by omega
            have e9 : (((i : Int) + 1) * 32).toNat = (i + 1) * 32 := by omega
            have e10 : (0 : Int) ≤ (i : Int) * 32 := by omega
            have e11 : (i : Int) * 32 ≤ ((i : Int) + 1) * 32 := by omega
            have e12 : ((i : Int) + 1) * 32 ≤ (K.length : Int) := by omega
            have Hlt := Lib.hid hlt
            obtain ⟨x, hx⟩ : ∃ x, x = pc K i := ⟨_, rfl⟩
            have hname : Hid (∀ w, Calls Tryz.prog 90 #[.string ((⟨K.toArray⟩ : ByteArray).extract (i * 32) ((i + 1) * 32))] w fun r w' => r = .returned (.agg (vals x.1).toArray) ∧ Below w.heap.size w w') := Lib.hid (fun w => by
              rw [hx, ext_bytes, show (i + 1) * 32 - i * 32 = 32 by omega]; exact name_any _ w)
            have HST : Hid (∀ w3, Below wr.heap.size wr w3 → ∃ W4, (Rw encN 36 W4 (some ⟨g, 0, none⟩) m (mid K m (i + 1)) ∧ Below w.heap.size w W4) ∧
                ∀ (oo : Oper) (a : Act), oo.op = .store 36 (.tmp 39) (.tmp 38) → a.eval (.tmp 39) = .pointer (some ⟨g, o + i * 32, none⟩) → a.eval (.tmp 38) = .agg (vals x.1).toArray → (execOp a.eval oo).run Tryz.prog w3 = .ok .skip W4) := Lib.hid (fun w3 hb3 => by
              obtain ⟨cur, hh, hsz, hrw⟩ := (HB.out.1.old hb3).setAt i (by rw [mid_l K m i hi]; exact hlt) x
              rw [hx, mid_s K m i hlt] at hrw
              have hm : Below w.heap.size w w3 := HB.out.2.trans (hb3.mono HB.out.2.size)
              refine ⟨_, ⟨hrw, ((Mod.of_below hm).setRow _).to_below (Nat.le_refl _) (by rintro k hk (h | h) <;> (have := Hg.out; omega))⟩, fun oo a h1 h2 h3 => ?_⟩
              have hof : o + i * 32 = i * 32 := by rw [Ho.out, Nat.zero_add]
              rw [hof] at h2
              have h := exec_store_at (P := Tryz.prog) (w := w3) 36 (.tmp 39) (.tmp 38) h1 g (i * 32) h2 36 cur (vals x.1) h3 hh (by rw [vals_len, x.2]; exact hsz) (by rw [vals_len, x.2]; kernel_rfl) (vals_one x.1)
              rw [vals_len, x.2] at h
              rw [← hx]
              exact h)
            clear hk5 hlt hx HB
            go_wp2_with (first | (refine (hname.out _).mono ?_; rintro r w3 ⟨rfl, hb3⟩; obtain ⟨W4, hw4, hst⟩ := HST.out w3 hb3) | (refine wpList_skip rfl rfl (hst _ _ rfl rfl rfl) ?_))
            have HW4 := Lib.hid hw4
            have hlt := Hlt.out
            clear hst hw4 HST hb3
            go_roundw
            case rel => exact ⟨i + 1, by omega, by go_num, HW4⟩
            case measure => simp [intOf]; omega
          · have hend : mid K m i = pcs K := by
              have e : i = m := by omega
              rw [e]; unfold mid pcs; rw [Nat.sub_self, Hm.out]; simp
            have hpl : (pcs K).length = m := by unfold pcs; rw [List.length_map, List.length_range, Hm.out]
            have i1 : ¬ (i : Int) < m := by omega
            obtain ⟨R, hR⟩ : ∃ R, R = rs ((pcs K).map (·.1)) (m - 1) := ⟨_, rfl⟩
            have HW : Hid (Rw encN 36 wr (some ⟨g, 0, none⟩) m (pcs K) ∧ Below w.heap.size w wr) := Lib.hid ⟨by rw [← hend]; exact HB.out.1, HB.out.2⟩
            have hris : Hid (Calls Tryz.prog 91 #[.slice (some ⟨g, o, none⟩) m m] wr fun r w' => r = .returned (.bool R) ∧ Below wr.heap.size wr w') := Lib.hid (by
              have h := rising_any (some ⟨g, 0, none⟩) m (pcs K) wr HW.out.1.rd (by rw [hpl]; exact H5.out)
              rw [hpl, ← hR] at h
              rw [Ho.out]; exact h)
            have HR : Hid (nmsOk K = R) := Lib.hid (by rw [Hk.out.2, hR])
            have Hpl := Lib.hid hpl
            clear hend hpl hR HB
            cases R with
            | true =>
              go_wp2_with (refine hris.out.mono ?_; rintro r w3 ⟨rfl, hb3⟩)
              rw [HF.out]
              exact ⟨some ⟨g, 0, none⟩, m, pcs K, by rw [HR.out, Hpl.out, Ho.out]; rfl, by rw [HR.out]; rfl, HW.out.1.old hb3, (fun a e => by cases e; exact Nat.le_of_eq Hg.out.symm), HW.out.2.trans (hb3.mono HW.out.2.size)⟩
            | false =>
              go_wp2_with (refine hris.out.mono ?_; rintro r w3 ⟨rfl, hb3⟩)
              rw [HF.out]
              exact NPost.no HR.out (HW.out.2.trans (hb3.mono HW.out.2.size))
      · have hno : Hid (nmsOk K = false) := Lib.hid (by unfold nmsOk; rw [decide_eq_false (by omega)]; rfl)
        have e3 : 5 < (K.length : Int) / 32 := by omega
        clear h1 h2 h3
        go_enter Tryz.func73, Tryz.ntmps73
        go_wp2_with fail
        rw [HF.out]
        exact NPost.no hno.out (Below.refl _ _)
    · have hno : Hid (nmsOk K = false) := Lib.hid (by unfold nmsOk; rw [decide_eq_false (by omega)]; rfl)
      have e2 : (K.length : Int) / 32 < 1 := by omega
      clear h1 h2
      go_enter Tryz.func73, Tryz.ntmps73
      go_wp2_with fail
      rw [HF.out]
      exact NPost.no hno.out (Below.refl _ _)
  · have hno : Hid (nmsOk K = false) := Lib.hid (by unfold nmsOk; rw [decide_eq_false (by omega)]; rfl)
    have e1 : ((K.length : Int) % 32 == 0) = false := by simp; omega
    go_enter Tryz.func73, Tryz.ntmps73
    go_wp2_with fail
    rw [HF.out]
    exact NPost.no hno.out (Below.refl _ _)
end Go.Proofs.YtjjkobbajbbgdaaGreatDoor

namespace Go.Proofs.YtjjkobbajbbgdaaGreatDoor
open Go.RowKit

theorem cmpB_self (a : List UInt8) : Lib.compareBytes a a = 0 := by
  induction a with
  | nil => rfl
  | cons x l ih => simp [Lib.compareBytes, ih]
theorem cmpB_eq : ∀ (a b : List UInt8), ¬ Lib.compareBytes a b < 0 → ¬ Lib.compareBytes b a < 0 → a = b
  | [], [], _, _ => rfl
  | [], _ :: _, h, _ => absurd (by simp [Lib.compareBytes]) h
  | _ :: _, [], _, h => absurd (by simp [Lib.compareBytes]) h
  | a :: l, b :: m, h1, h2 => by
    simp only [Lib.compareBytes] at h1 h2
    by_cases e : a < b
    · rw [if_pos e] at h1; exact absurd (by decide) h1
    · by_cases e2 : b < a
      · rw [if_pos e2] at h2; exact absurd (by decide) h2
      · rw [if_neg e, if_neg e2] at h1
        rw [if_neg e2, if_neg e] at h2
        have : a = b := UInt8.toNat_inj.1 (by rw [UInt8.lt_iff_toNat_lt] at e e2; omega)
        rw [this, cmpB_eq l m h1 h2]
theorem cmpB_trans : ∀ (a b c : List UInt8), Lib.compareBytes a b < 0 → Lib.compareBytes b c < 0 → Lib.compareBytes a c < 0
  | [], [], _, h, _ => by exact absurd h (by decide)
  | [], _ :: _, [], _, h => by exact absurd h (by simp [Lib.compareBytes])
  | [], _ :: _, _ :: _, _, _ => by simp [Lib.compareBytes]
  | _ :: _, [], _, h, _ => by exact absurd h (by simp [Lib.compareBytes])
  | _ :: _, _ :: _, [], _, h => by exact absurd h (by simp [Lib.compareBytes])
  | a :: l, b :: m, c :: n, h1, h2 => by
    simp only [Lib.compareBytes] at h1 h2 ⊢
    simp only [UInt8.lt_iff_toNat_lt] at h1 h2 ⊢
    by_cases e1 : a.toNat < b.toNat
    · by_cases e2 : b.toNat < c.toNat
      · rw [if_pos (by omega)]; decide
      · rw [if_neg e2] at h2
        by_cases e3 : c.toNat < b.toNat
        · rw [if_pos e3] at h2; exact absurd h2 (by decide)
        · rw [if_pos (by omega)]; decide
    · rw [if_neg e1] at h1
      by_cases e4 : b.toNat < a.toNat
      · rw [if_pos e4] at h1; exact absurd h1 (by decide)
      · rw [if_neg e4] at h1
        by_cases e2 : b.toNat < c.toNat
        · rw [if_pos (by omega)]; decide
        · rw [if_neg e2] at h2
          by_cases e3 : c.toNat < b.toNat
          · rw [if_pos e3] at h2; exact absurd h2 (by decide)
          · rw [if_neg e3] at h2
            rw [if_neg (by omega), if_neg (by omega)]
            exact cmpB_trans l m n h1 h2
/-- One more text, rising, once. -/
def insB (s : List UInt8) : List (List UInt8) → List (List UInt8)
  | [] => [s]
  | t :: r => if Lib.compareBytes s t < 0 then s :: t :: r else if Lib.compareBytes t s < 0 then t :: insB s r else t :: r
/-- A round of the reference's inner loop: what is next, is s done? -/
def insR (s : List UInt8) (st : List (List UInt8) × Bool) (t : List UInt8) : List (List UInt8) × Bool :=
  ((if !st.2 && decide (Lib.compareBytes s t < 0) then st.1 ++ [s] else st.1) ++ [t], st.2 || !decide (Lib.compareBytes t s < 0))
def insE (s : List UInt8) (st : List (List UInt8) × Bool) : List (List UInt8) := if st.2 then st.1 else st.1 ++ [s]
theorem insR_true (s : List UInt8) (l A : List (List UInt8)) : insE s (l.foldl (insR s) (A, true)) = A ++ l := by
  induction l generalizing A with
  | nil => simp [insE]
  | cons t r ih => rw [List.foldl_cons, show insR s (A, true) t = (A ++ [t], true) by simp [insR], ih]; simp
theorem insR_false (s : List UInt8) (l A : List (List UInt8)) : insE s (l.foldl (insR s) (A, false)) = A ++ insB s l := by
  induction l generalizing A with
  | nil => simp [insE, insB]
  | cons t r ih =>
    rw [List.foldl_cons]
    by_cases h1 : Lib.compareBytes s t < 0
    · have h2 : ¬ Lib.compareBytes t s < 0 := fun h => by have := cmpB_trans s t s h1 h; rw [cmpB_self] at this; exact absurd this (by decide)
      rw [show insR s (A, false) t = (A ++ [s] ++ [t], true) by simp [insR, h1, h2], insR_true, insB, if_pos h1]; simp
    · by_cases h2 : Lib.compareBytes t s < 0
      · rw [show insR s (A, false) t = (A ++ [t], false) by simp [insR, h1, h2], ih, insB, if_neg h1, if_pos h2]; simp
      · rw [show insR s (A, false) t = (A ++ [t], true) by simp [insR, h1, h2], insR_true, insB, if_neg h1, if_neg h2]; simp
/-- The reference's Sort. -/
def rsort (L : List (List UInt8)) : List (List UInt8) := L.foldl (fun out s => insB s out) []
theorem rsort_snoc (L : List (List UInt8)) (s : List UInt8) : rsort (L ++ [s]) = insB s (rsort L) := by simp [rsort, List.foldl_append]
end Go.Proofs.YtjjkobbajbbgdaaGreatDoor

namespace Go.Proofs.YtjjkobbajbbgdaaGreatDoor
open Go.RowKit Go.Sort

instance : Inhabited Nm := ⟨zN⟩
/-- Two names against each other. -/
def cfN (x y : Nm) : Int := Lib.compareBytes x.1 y.1
theorem cfN_lt (x y : Nm) : ltOf cfN x y = decide (Lib.compareBytes x.1 y.1 < 0) := rfl
theorem cfN_total (x y : Nm) (h1 : ltOf cfN x y = false) (h2 : ltOf cfN y x = false) : x = y := by
  rw [cfN_lt, decide_eq_false_iff_not] at h1 h2
  exact Subtype.ext (cmpB_eq _ _ h1 h2)
theorem cfN_trans (x y z : Nm) (h1 : ltOf cfN x y = true) (h2 : ltOf cfN y z = true) : ltOf cfN x z = true := by
  rw [cfN_lt, decide_eq_true_iff] at *
  exact cmpB_trans _ _ _ h1 h2
theorem cfN_swo : SWO (ltOf cfN) where
  irrefl x := by rw [cfN_lt, cmpB_self]; rfl
  trans := cfN_trans
  ntrans x y z h1 h2 := by
    cases h : ltOf cfN x z with
    | false => rfl
    | true =>
      cases h3 : ltOf cfN y x with
      | true => rw [cfN_trans y x z h3 h] at h2; cases h2
      | false => rw [cfN_total x y h1 h3, h2] at h; cases h
/-- The names sorted. -/
def ksort (L : List Nm) : List Nm := L.mergeSort fun x y => !(ltOf cfN) y x

section
variable {P : Program} {ops : Array Oper} {Q : Exit → Act → World → Prop} {md : Region.Mode} {K : Tmp → Kd} {W : World} {a0 : Act}
/-- An operation that reads. -/
theorem owesQ {i : Nat} {o : Oper} {t : Tmp} (hi : ops[i]? = some o) (ht : o.dst = some t) (h : ∀ a w, Agree ops a0 a → (∃ q, w = W.drewN q) → AllV (fun t v w => VK (K t) v w) a w (waits md ops o) →
    ∃ v, Region.wanted o (yielded ops a.tmps) = true ∧ (execOp a.eval o).run P w = .ok (.value v) w ∧ VK (K t) v w) : Owes P md ops Q (fun t v w => VK (K t) v w) (fun w => ∃ q, w = W.drewN q) a0 i o := by
  intro a w ha hG hV
  obtain ⟨v, hw, hr, hv⟩ := h a w ha hG hV
  unfold wpOp
  rw [hi]
  simp only [hw, if_true, Oper.wp, hr, Oper.upon]
  exact .inl ⟨v, rfl, fun u hu => by rw [ht] at hu; cases hu; exact hv, hG, fun _ _ h => h⟩
theorem owesQ_call {i : Nat} {o : Oper} {t : Tmp} (hi : ops[i]? = some o) (ht : o.dst = some t) (f : FuncId) (h : ∀ a w, Agree ops a0 a → (∃ q, w = W.drewN q) → AllV (fun t v w => VK (K t) v w) a w (waits md ops o) →
    ∃ args, Region.wanted o (yielded ops a.tmps) = true ∧ (execOp a.eval o).run P w = .ok (.enter f args) w ∧
      Calls P f args w fun e w' => ∃ v, e = .returned v ∧ VK (K t) v w' ∧ w = w') : Owes P md ops Q (fun t v w => VK (K t) v w) (fun w => ∃ q, w = W.drewN q) a0 i o := by
  intro a w ha hG hV
  obtain ⟨args, hw, hr, hc⟩ := h a w ha hG hV
  unfold wpOp
  rw [hi]
  simp only [hw, if_true, Oper.wp, hr, Oper.upon]
  refine .inl (hc.mono ?_)
  rintro e w' ⟨v, rfl, h1, rfl⟩
  exact ⟨v, rfl, fun u hu => by rw [ht] at hu; cases hu; exact h1, hG, fun _ _ h => h⟩
end

set_option maxHeartbeats 1000000 in
set_option maxRecDepth 20000 in
/-- compare lays two blocks, and draws. -/
theorem hcompare_grow (n1 n2 : List UInt8) (w : World) (hs : n1.length = 32) (ht : n2.length = 32) :
    Calls Tryz.prog 21 #[.agg (vals n1).toArray, .agg (vals n2).toArray] w fun r w' => r = .returned (.int .i64 (Lib.compareBytes n1 n2)) ∧ ∃ q os', w' = grow (w.drewN q) os' := by
  have hA : IdAt ((w.alloc (.cells (vals n1).toArray 36)).alloc (.cells (vals n2).toArray 36)) w.heap.size n1 := ⟨hs, by rw [Below.heap_alloc _ _ _ (by simp)]; exact heap_alloc_new w _⟩
  have hB : IdAt ((w.alloc (.cells (vals n1).toArray 36)).alloc (.cells (vals n2).toArray 36)) (w.heap.size + 1) n2 := ⟨ht, by have := heap_alloc_new (w.alloc (.cells (vals n1).toArray 36)) (.cells (vals n2).toArray 36); simpa using this⟩
  have hb : ∃ os, (w.alloc (.cells (vals n1).toArray 36)).alloc (.cells (vals n2).toArray 36) = grow w os := ⟨_, by rw [alloc_eq_grow, alloc_eq_grow, grow_grow]⟩
  have s1 := id_size hs
  have s2 := id_size ht
  have HA := Lib.hid hA
  have HB := Lib.hid hB
  have Hb := Lib.hid hb
  clear hA hB hb
  generalize (vals n1).toArray = S at s1 HA HB Hb ⊢
  generalize (vals n2).toArray = T at s2 HA HB Hb ⊢
  go_enter Tryz.func21, Tryz.ntmps21
  go_wp2_with fail
  generalize (w.alloc (.cells S 36)).alloc (.cells T 36) = W at HA HB Hb ⊢
  generalize w.heap.size = n0 at HA HB ⊢
  have Hq : Hid (∀ w' q, w' = W.drewN q → Below W.heap.size W w') := Lib.hid (fun w' q e => by rw [e]; exact ⟨rfl, rfl, rfl, Nat.le_refl _, fun _ _ => rfl⟩)
  refine wp_region_puts (fun t v w => VK (match t with
    | 5 => .eq (.slice (some ⟨n0, 0, none⟩) 32 32)
    | 6 => .eq (.slice (some ⟨n0 + 1, 0, none⟩) 32 32)
    | 7 => .eq (.int .i64 (Lib.compareBytes n1 n2))
    | 4 => .eq (.int .i64 (Lib.compareBytes n1 n2))
    | _ => .any) v w) (fun w' => ∃ q, w' = W.drewN q) 8 (by kernel_rfl) (by decide +kernel) rfl ⟨1, rfl⟩ (by
    refine OweAll.cons (owesQ rfl rfl fun a w1 ha hG hV => ?_) ?_
    · skip
      have h2 := ha.outer 2 (by decide +kernel)
      simp only [Act.eval] at h2
      exact ⟨.slice (some ⟨n0, 0, none⟩) 32 32, wanted_free rfl, by simp [execOp, go_sem, h2], rfl⟩
    refine OweAll.cons (owesQ rfl rfl fun a w1 ha hG hV => ?_) ?_
    · skip
      have h3 := ha.outer 3 (by decide +kernel)
      simp only [Act.eval] at h3
      exact ⟨.slice (some ⟨n0 + 1, 0, none⟩) 32 32, wanted_free rfl, by simp [execOp, go_sem, h3], rfl⟩
    refine OweAll.cons (owesQ_call rfl rfl 36 fun a w1 ha hG hV => ?_) ?_
    · skip
      have h5 : a.tmps.getD 5 undef = .slice (some ⟨n0, 0, none⟩) 32 32 := hV.get 5 (by decide +kernel)
      have h6 : a.tmps.getD 6 undef = .slice (some ⟨n0 + 1, 0, none⟩) 32 32 := hV.get 6 (by decide +kernel)
      refine ⟨#[.slice (some ⟨n0, 0, none⟩) 32 32, .slice (some ⟨n0 + 1, 0, none⟩) 32 32], wanted_free rfl, by simp [execOp, resolve, invoke, go_sem, h5, h6], ?_⟩
      obtain ⟨q, hq⟩ := hG
      have hG := Hq.out w1 q hq
      refine (bcompare_any _ _ n1 n2 w1 (HA.out.old hG) (HB.out.old hG)).mono ?_
      rintro r u2 ⟨rfl, rfl⟩; exact ⟨_, rfl, rfl, rfl⟩
    refine OweAll.cons (owesQ rfl rfl fun a w1 ha hG hV => ?_) ?_
    · skip
      have h7 : a.tmps.getD 7 undef = .int .i64 (Lib.compareBytes n1 n2) := hV.get 7 (by decide +kernel)
      exact ⟨.int .i64 (Lib.compareBytes n1 n2), wanted_free rfl, by simp [execOp, go_sem, h7], rfl⟩
    exact OweAll.nil
    ) ?_
  intro f wz hG hv
  have e4 : f 4 = .int .i64 (Lib.compareBytes n1 n2) := hv 3 _ 4 rfl rfl
  rename_i hK
  refine hK _ _ ?_
  clear hK hv
  simp only [dsts, puts, List.filterMap_cons, List.filterMap_nil, List.foldl_cons, List.foldl_nil, Act.put, List.setIfInBounds_toArray, List.set_cons_succ, List.set_cons_zero, e4]
  clear e4
  have HG : Hid (∃ q os', wz = grow (w.drewN q) os') := Lib.hid (by
    obtain ⟨q, rfl⟩ := hG
    obtain ⟨os, rfl⟩ := Hb.out
    exact ⟨q, os, rfl⟩)
  clear hG
  go_wp2_with fail
  go_ret
  exact ⟨rfl, HG.out⟩

theorem flat_getH (M : Array Nm) (t : Nat) (h : t < M.size * 32) : (encN.all M.toList)[t]? = some ((flatK encN.f 32 M)[t]!) := by
  have hd : t / 32 < M.toList.length := by rw [Array.length_toList]; omega
  have hr : t % 32 < 32 := Nat.mod_lt _ (by decide)
  have he : t / 32 * 32 + t % 32 = t := by omega
  have h1 := encN.all_get M.toList (t / 32) (t % 32) hd hr
  rw [show encN.k = 32 from rfl, he] at h1
  rw [h1, get_flatK _ _ _ _ h]
  have hd2 : t / 32 < M.size := by simpa using hd
  rw [getElem!_pos M _ hd2, Array.getElem_toList]
  have hl : t % 32 < (encN.f M[t / 32]).length := by rw [encN.len]; exact hr
  rw [List.getElem?_eq_getElem hl, getElem!_pos (encN.f M[t / 32]) (t % 32) hl]
theorem Rw.holds {w : World} {g c : Nat} {L : List Nm} (h : Rw encN 36 w (some ⟨g, 0, none⟩) c L) : HoldsK encN.f 32 w g 0 L.toArray := by
  obtain ⟨cur, hh, h3, h1, h2, R, hR⟩ := h.parts
  intro j hj
  have hj2 : j < L.toArray.size * 32 := by simpa using hj
  refine ⟨?_, frozen_of_row w g _ _ 36 hh⟩
  rw [cell_of_row w g _ _ 36 (0, 0) hh, Nat.zero_add]
  have hl : j < (encN.all L).length := by rw [encN.all_len, show encN.k = 32 from rfl]; simpa using hj2
  have e := flat_getH L.toArray j hj2
  rw [List.toList_toArray] at e
  rw [← Array.getElem?_toList, hR, List.getElem?_append_left hl, e]; rfl
theorem Rw.sorted {w : World} {g c : Nat} {L : List Nm} (h : Rw encN 36 w (some ⟨g, 0, none⟩) c L) (d : Array Nm) (hd : d.size = L.length) (m : Nat) (os : Array Obj) :
    Rw encN 36 (sortWorldK encN.f 32 w g 0 m d os) (some ⟨g, 0, none⟩) c d.toList ∧ Mod (fun i => i = g) w (sortWorldK encN.f 32 w g 0 m d os) := by
  obtain ⟨cur, hh, h3, h1, h2, R, hR⟩ := h.parts
  have hgl : g < w.heap.size := h.lt
  have hk : ∀ k, k < w.heap.size → (sortWorldK encN.f 32 w g 0 m d os).heap[k]? = if g = k then some (.cells (putCells id 0 (flatK encN.f 32 d) cur) 36 (0, 0)) else w.heap[k]? := by
    intro k hk
    have e : (sortWorldK encN.f 32 w g 0 m d os).heap = (w.heap.modify g (onCells (putCells id 0 (flatK encN.f 32 d)))) ++ os := rfl
    rw [e, Array.getElem?_append_left (by rw [Array.size_modify]; exact hk), Array.getElem?_modify]
    by_cases e1 : g = k
    · subst e1; rw [if_pos rfl, if_pos rfl, hh]; rfl
    · rw [if_neg e1, if_neg e1]
  refine ⟨Rw.of_row (by rw [hk g hgl, if_pos rfl]) (by rw [Array.length_toList, hd]; exact h1) h2 (by rw [← h3]; simp [putCells]) ?_, rfl, rfl, rfl, size_sortWorldK_c encN.f 32 w g 0 m d os, fun k hk1 hn => by rw [hk k hk1, if_neg (fun e => hn e.symm)]⟩
  have hcl : d.size * 32 ≤ cur.size := by rw [h3, hd]; exact Nat.mul_le_mul_right 32 h1
  apply List.ext_getElem?
  intro t
  by_cases ht : t < d.size * 32
  · rw [flat_getH d t ht, List.getElem?_take_of_lt (by rw [Array.length_toList]; exact ht), Array.getElem?_toList]
    have htc : t < cur.size := by omega
    simp [putCells, htc, ht]
  · have h5 : (encN.all d.toList).length = d.size * 32 := by rw [encN.all_len, Array.length_toList]; rfl
    rw [List.getElem?_eq_none (by rw [List.length_take, Array.length_toList]; exact Nat.le_trans (Nat.min_le_left _ _) (Nat.le_of_not_lt ht)), List.getElem?_eq_none (by rw [h5]; omega)]

theorem sort_any (p : Option Addr) (c : Nat) (L : List Nm) (w : World) (hL : Rw encN 36 w p c L) (hn : L.length ≤ 1000000) :
    Calls Tryz.prog 20 #[.slice p L.length c, .func (.func 21) #[] #[]] w fun r w' => r = .returned (.tuple #[]) ∧ Rw encN 36 w' p c (ksort L) ∧ Mod (fun i => ∃ a, p = some a ∧ i = a.block) w w' := by
  by_cases h0 : L = []
  · subst h0
    have h := AnyF.slices_SortFunc_none Tryz.sortID p c (.func (.func 21) #[] #[]) w
    refine Calls.mono (show Calls Tryz.prog 20 _ _ _ from h) ?_
    rintro r w' ⟨rfl, rfl⟩
    refine ⟨rfl, ?_, Mod.refl _ _⟩
    rw [show ksort [] = [] by simp [ksort]]; exact hL
  · rcases hL.shape with ⟨_, e, _⟩ | ⟨g, rfl, hgl, _⟩
    · exact absurd e h0
    · have eg : ∀ args w, (callFunc 21 args).run Tryz.prog w = .ok (.enter 21 args) w := enters_of Tryz.func21 (by kernel_rfl) rfl
      have h := AnyQ.slices_SortFunc_total Tryz.sortID 32 Tryz.isAgg36 Tryz.sizeOf36 encN.f encN.len encN.one cfN cfN_swo 21 #[] g 0 c L.toArray w eg
        (fun _ _ _ _ x y => hcompare_grow x.1 y.1 _ x.2 y.2) hL.holds hgl (by rw [List.size_toArray]; omega) cfN_total
      rw [List.size_toArray] at h
      refine Calls.mono (show Calls Tryz.prog 20 _ _ _ from h) ?_
      rintro r w' ⟨rfl, m, os, rfl⟩
      have hs := hL.sorted (ksort L).toArray (by rw [List.size_toArray]; exact List.length_mergeSort _) m os
      rw [List.toList_toArray] at hs
      exact ⟨rfl, hs.1, hs.2.mono (fun i _ e => ⟨_, rfl, e⟩)⟩
end Go.Proofs.YtjjkobbajbbgdaaGreatDoor

namespace Go.Proofs.YtjjkobbajbbgdaaGreatDoor
open Go.RowKit Go.Sort

/-- Bytes. -/
def encB : Enc UInt8 := ⟨fun x => [.int .u8 (x.toNat : Int)], 1, fun _ => rfl, fun _ v hv => by rw [List.mem_singleton.1 hv]; rfl, Nat.one_pos⟩
theorem encB_all (l : List UInt8) : encB.all l = vals l := by
  induction l with
  | nil => rfl
  | cons a l ih => rw [show encB.all (a :: l) = encB.f a ++ encB.all l from rfl, ih]; rfl
theorem IdAt.rd {w : World} {g : Nat} {s : List UInt8} (h : IdAt w g s) : Rd encB w (some ⟨g, 0, none⟩) s := by
  intro j hj
  refine ⟨g, 0, rfl, h.lt, fun i u hu => ?_⟩
  have hi : i < 1 := by have := (List.getElem?_eq_some_iff.1 hu).1; rwa [encB.len] at this
  obtain rfl : i = 0 := by omega
  have e : u = .int .u8 (s[j].toNat : Int) := by simpa [encB] using hu.symm
  rw [e, show 0 + j * encB.k + 0 = j by simp [encB]]
  exact h.cell j hj
theorem Rw.text {w : World} {q : Option Addr} {c : Nat} {D : List UInt8} (h : Rw encB 5 w q c D) : (convert 66 9 (.slice q D.length c)).run Tryz.prog w = .ok (.string ⟨D.toArray⟩) w := by
  rcases h.shape with ⟨rfl, rfl, rfl⟩ | ⟨g, rfl, _⟩
  · exact run_convert_bytes_nil w 66 5 Tryz.underlying66 Tryz.underlying5 0 0 9 Tryz.underlying9
  · rw [run_convert_bytes_arg w 66 5 Tryz.underlying66 Tryz.underlying5 g 0 D.length c (D.map fun x => (x.toNat : Int)) (by simp) (fun i hi => by
      obtain ⟨b, off, e, _, hc⟩ := h.rd i hi
      cases e
      have := hc 0 _ rfl
      rw [show 0 + i * encB.k + 0 = i by simp [encB]] at this
      rw [Nat.zero_add, this]
      simp [List.getD, hi]) 9 Tryz.underlying9]
    simp [strOfNums, Function.comp_def]

theorem cloneN_any (ao : Option Addr) (cap : Nat) (L : List Nm) (w : World) (hL : Rd encN w ao L) (hao : ao = none ∨ ∃ b off, ao = some ⟨b, off, none⟩) (hn : L.length ≤ 1000000) :
    Calls Tryz.prog 19 #[.slice ao L.length cap] w fun r w' => ∃ p c, r = .returned (.slice p L.length c) ∧ Rw encN 36 w' p c L ∧ (∀ a, p = some a → w.heap.size ≤ a.block) ∧ Below w.heap.size w w' := by
  rcases hao with rfl | ⟨b, off, rfl⟩
  · have h0 : L = [] := by
      cases L with
      | nil => rfl
      | cons x l => obtain ⟨_, _, e, _⟩ := hL 0 (by simp); cases e
    subst h0
    refine Calls.mono (show Calls Tryz.prog 19 _ _ _ from AnyE.slices_Clone_nil Tryz.cloneID 0 cap w) ?_
    rintro r w' ⟨rfl, rfl⟩
    exact ⟨none, 0, rfl, Rw.empty _ _, (fun a e => by cases e), Below.refl _ _⟩
  · obtain ⟨i, hi, hzz⟩ := Option.map_eq_some_iff.1 info_name
    simp only [Prod.mk.injEq] at hzz
    obtain ⟨hz, h1, h2⟩ := hzz
    have h := AnyE.slices_Clone Tryz.cloneID i (.agg (vals zid).toArray) 32 32 hi hz h1 h2 rfl (by decide) Tryz.sizeOf36 b off L.length cap (encN.all L) w (encN.all_len L) (by unfold maxLen; omega) (by omega)
      (fun j u hj => by
        have hjl : j < L.length * 32 := by
          have := (List.getElem?_eq_some_iff.1 hj).1
          rwa [encN.all_len] at this
        have hd : j / 32 < L.length := by omega
        have hr : j % 32 < 32 := Nat.mod_lt _ (by decide)
        have he : j / 32 * 32 + j % 32 = j := by omega
        obtain ⟨bs', off', e, _, c1⟩ := hL (j / 32) hd
        cases e
        have e2 := encN.all_get L (j / 32) (j % 32) hd hr
        rw [show encN.k = 32 from rfl, he, hj] at e2
        have e3 := c1 _ _ e2.symm
        rw [Nat.add_assoc, show j / 32 * encN.k + j % 32 = j from he] at e3
        exact e3) (encN.all_one L)
    refine Calls.mono (show Calls Tryz.prog 19 _ _ _ from h) ?_
    rintro r w' ⟨v, rfl, hown, hne, hb⟩
    rcases hown.2 with ⟨e, h0⟩ | ⟨g, c', cur, e, hg, hh, h3, h4, h5, h6⟩
    · exact absurd e hne
    · refine ⟨some ⟨g, 0, none⟩, c', by rw [e], Rw.of_row hh h3 h4 h5 h6, (fun a e => by cases e; exact hg), hb⟩
end Go.Proofs.YtjjkobbajbbgdaaGreatDoor

namespace Go.Proofs.YtjjkobbajbbgdaaGreatDoor
open Go.RowKit Go.Sort

theorem info_u8k : (Tryz.prog.info? 5).map (fun i => (i.zero, i.size, i.bytes)) = some (some (.int .u8 0), 1, 1) := by kernel_rfl
/-- The names, rising, each once. -/
def kset (L : List Nm) : List Nm := cpt (ksort L) (ksort L).length
/-- Their bytes. -/
def kB (M : List Nm) : List UInt8 := M.flatMap (·.1)
theorem kB_app (A : List Nm) (x : Nm) : kB (A ++ [x]) = kB A ++ x.1 := by simp [kB]
theorem kB_len (A : List Nm) : (kB A).length = A.length * 32 := by
  induction A with
  | nil => rfl
  | cons x l ih => rw [show kB (x :: l) = x.1 ++ kB l by simp [kB], List.length_append, ih, x.2, List.length_cons]; omega
theorem ksort_len (L : List Nm) : (ksort L).length = L.length := List.length_mergeSort _
theorem kset_len (L : List Nm) : (kset L).length ≤ L.length := by have := cpt_len (ksort L) _ (Nat.le_refl _); unfold kset; rw [ksort_len] at this ⊢; exact this
theorem ind_one {L : List Nm} (h : L.length < 2) : cpt L L.length = L := by
  rw [cpt_all (Nat.le_refl _) (fun j hj => by obtain rfl : j = 0 := (by omega); rfl), List.take_length]
/-- Compact, of however many. -/
theorem compactN_any (p : Option Addr) (cap : Nat) (L : List Nm) (w : World) (hL : Rw encN 36 w p cap L) (hn : L.length ≤ 1000000) :
    Calls Tryz.prog 22 #[.slice p L.length cap] w fun r w' => r = .returned (.slice p (cpt L L.length).length cap) ∧ Rw encN 36 w' p cap (cpt L L.length) ∧ Mod (fun i => ∃ a, p = some a ∧ i = a.block) w w' := by
  by_cases h2 : L.length < 2
  · rw [ind_one h2]
    refine (compact_few p L.length cap w h2).mono ?_
    rintro r w' ⟨rfl, rfl⟩
    exact ⟨rfl, hL, Mod.refl _ _⟩
  · rcases hL.shape with ⟨_, rfl, _⟩ | ⟨g, rfl, hgl, _⟩
    · exact absurd (by decide) h2
    · refine (compact_any g cap L w hL hn (by omega)).mono ?_
      rintro r w' ⟨rfl, h3, h4⟩
      exact ⟨rfl, h3, h4.mono (fun i _ e => ⟨_, rfl, e⟩)⟩

set_option maxRecDepth 20000 in
set_option maxHeartbeats 4000000 in
theorem key_any (ao : Option Addr) (cap : Nat) (L : List Nm) (w : World) (hL : Rd encN w ao L) (hao : ao = none ∨ ∃ b off, ao = some ⟨b, off, none⟩) (hn : L.length ≤ 1000000) :
    Calls Tryz.prog 7 #[.slice ao L.length cap] w fun r w' => r = .returned (.string ⟨(kB (kset L)).toArray⟩) ∧ Below w.heap.size w w' := by
  have hclone := cloneN_any ao cap L w hL hao hn
  obtain ⟨n, hnL⟩ : ∃ n, n = L.length := ⟨_, rfl⟩
  obtain ⟨F, hF⟩ : ∃ F : Ending → World → Prop, F = fun r w' => r = .returned (.string ⟨(kB (kset L)).toArray⟩) ∧ Below w.heap.size w w' := ⟨_, rfl⟩
  rw [← hF]
  have HF := Lib.hid hF
  rw [← hnL] at hn hclone ⊢
  have HC := Lib.hid hclone
  have Hn := Lib.hid hnL
  have hsort : Hid (∀ p c w, Rw encN 36 w p c L → Calls Tryz.prog 20 #[.slice p n c, .func (.func 21) #[] #[]] w fun r w' => r = .returned (.tuple #[]) ∧ Rw encN 36 w' p c (ksort L) ∧ Mod (fun i => ∃ a, p = some a ∧ i = a.block) w w') := Lib.hid (fun p c w h => by rw [hnL]; exact sort_any p c L w h (by rw [← hnL]; exact hn))
  obtain ⟨M, hM⟩ : ∃ M, M = kset L := ⟨_, rfl⟩
  obtain ⟨N, hN⟩ : ∃ N, N = M.length := ⟨_, rfl⟩
  have hNn : N ≤ n := by rw [hN, hM, hnL]; exact kset_len L
  have hcomp : Hid (∀ p c w, Rw encN 36 w p c (ksort L) → Calls Tryz.prog 22 #[.slice p n c] w fun r w' => r = .returned (.slice p N c) ∧ Rw encN 36 w' p c M ∧ Mod (fun i => ∃ a, p = some a ∧ i = a.block) w w') := Lib.hid (fun p c w h => by
    have := compactN_any p c (ksort L) w h (by rw [ksort_len, ← hnL]; exact hn)
    rw [ksort_len, ← hnL] at this
    rw [hN, hM, kset, ksort_len, ← hnL]; exact this)
  have HM := Lib.hid hM
  have HN := Lib.hid hN
  clear hF hclone hnL hM hN hL hao
  go_enter Tryz.func7, Tryz.ntmps7
  go_wp2_with (first | (refine HC.out.mono ?_; rintro r w1 ⟨p, c, rfl, hr1, hp1, hb1⟩) | (refine (hsort.out p c w1 hr1).mono ?_; rintro r w2 ⟨rfl, hr2, hm2⟩) | (refine (hcomp.out p c w2 hr2).mono ?_; rintro r w3 ⟨rfl, hr3, hm3⟩))
  have Hb : Hid (Below w.heap.size w w3) := Lib.hid (by
    have h1 := (Mod.of_below hb1).trans hm2 (fun i hi h => by obtain ⟨a, e, rfl⟩ := h; exact hp1 a e)
    have h2 := h1.trans hm3 (fun i hi h => by obtain ⟨a, e, rfl⟩ := h; exact hp1 a e)
    exact h2.to_below (Nat.le_refl _) (fun k hk h => by omega))
  have HR3 := Lib.hid hr3
  clear hr1 hp1 hb1 hr2 hm2 hr3 hm3 HC hsort hcomp
  go_loopw [4, 14] (fun s4 s14 wr => ∃ (i : Nat) (q : Option Addr) (d : Nat), i ≤ N ∧ s14 = .int .i64 (i : Int) ∧ s4 = .slice q (i * 32) d ∧ Hid (AccR encB 5 w3 (i * 32) (kB (M.take i)) q d wr)) (fun _ i _ => N - (intOf i).toNat)
  case atStart => exact ⟨0, none, 0, Nat.zero_le _, by go_num, rfl, Lib.hid (by simpa [kB] using AccR.zero encB 5 w3)⟩
  case round =>
    obtain ⟨i, q, d, hi, rfl, rfl, HB⟩ := hrel
    by_cases hlt : i < N
    · have hiM : i < M.length := by rw [← HN.out]; exact hlt
      obtain ⟨bs, off, hp, hbs, c1⟩ := (HR3.out.rd.old HB.out.m) i hiM
      have hnx : M.take (i + 1) = M.take i ++ [M[i]] := List.take_succ_eq_append_getElem hiM
      obtain ⟨x, hx⟩ : ∃ x, x = M[i] := ⟨_, rfl⟩
      rw [← hx] at c1 hnx
      subst hp
      have C1 := Lib.hid c1
      have hrl : wr.heap.size = wr.heap.size := rfl
      obtain ⟨Z, hZ⟩ : ∃ Z, Z = (vals zid).toArray := ⟨_, rfl⟩
      have hz : ∀ w, (zeroValue 36).run Tryz.prog w = .ok (.agg Z) w := by rw [hZ]; exact zid_run
      have hzs : Z.size = 32 := by rw [hZ]; exact zid_len
      have hbx : (wr.alloc (.cells Z 36)).heap[wr.heap.size]? = some (.cells Z 36 (0, 0)) := heap_alloc_new wr _
      have Hid2 : Hid (IdAt ((wr.alloc (.cells Z 36)).setRow wr.heap.size (vals x.1).toArray) wr.heap.size x.1) := Lib.hid (IdAt.stored x.2)
      have HA2 : Hid (AccR encB 5 w3 (i * 32) (kB (M.take i)) q d ((wr.alloc (.cells Z 36)).setRow wr.heap.size (vals x.1).toArray)) := Lib.hid (HB.out.below stored_below)
      have q3 := id_info x.2
      have q4 := id_one x.1
      have q2 : Z.size = (vals x.1).toArray.size := by rw [hzs, id_size x.2]
      have Hnx : Hid (kB (M.take (i + 1)) = kB (M.take i) ++ x.1) := Lib.hid (by rw [hnx, kB_app])
      have HDl : Hid ((kB (M.take i)).length = i * 32) := Lib.hid (by rw [kB_len, List.length_take, Nat.min_eq_left (by omega)])
      have Hxl : Hid (x.1.length = 32) := Lib.hid x.2
      generalize kB (M.take i) = D at HA2 Hnx HDl HB
      have i0 : (0 : Int) ≤ i := by omega
      have i1 : (i : Int) < N := by omega
      have Hlt := Lib.hid hlt
      have hnl : N ≤ 1000000 := Nat.le_trans hNn hn
      clear hx c1 hnx hZ hiM hrl hlt
      go_wp2_with (first | (refine wpList_exec rfl (exec_load_mid (.tmp 16) rfl bs (off + i * 32) rfl x C1.out) ?_) | (refine wpList_store_row rfl rfl 36 (.tmp 6) (.tmp 17) rfl wr.heap.size rfl 36 Z (vals x.1).toArray rfl hbx q2 q3 q4 ?_) | (at_builtin; refine wpList_pushR encB rfl (.tmp 18) (.tmp 19) 66 5 (.int .u8 0) 1 rfl Tryz.underlying66 info_u8k rfl (by decide) q d (i * 32) D HDl.out rfl HA2.out.s (some ⟨wr.heap.size, 0, none⟩) 32 32 x.1 Hxl.out rfl Hid2.out.rd (by omega) ?_; intro q' d' w5 hP))
      have HP : Hid (AccR encB 5 w3 ((i + 1) * 32) (kB (M.take (i + 1))) q' d' w5) := Lib.hid (by
        have h := HA2.out.push hP
        rw [Hxl.out] at h
        rw [Hnx.out, Nat.add_mul, Nat.one_mul]; exact h)
      have hlt := Hlt.out
      clear hP HA2
      go_roundw
      case rel => exact ⟨i + 1, q', d', by omega, by go_num, by rw [Nat.add_mul, Nat.one_mul], HP⟩
      case measure => simp [intOf]; omega
    · have hN : i = N := by omega
      subst hN
      have i1 : ¬ (i : Int) < i := by omega
      have ht : M.take i = M := by rw [HN.out, List.take_length]
      rw [ht] at HB
      have hcv := HB.out.s.text
      rw [HB.out.len] at hcv
      have Hfin : Hid (Below w.heap.size w wr) := Lib.hid (Hb.out.trans (HB.out.m.mono Hb.out.size))
      obtain ⟨S, hS⟩ : ∃ S, S = (⟨(kB M).toArray⟩ : ByteArray) := ⟨_, rfl⟩
      rw [← hS] at hcv
      have HS := Lib.hid hS
      clear ht hS HB
      go_wp2_with fail
      rw [HF.out]
      exact ⟨by rw [HS.out, HM.out], Hfin.out⟩
end Go.Proofs.YtjjkobbajbbgdaaGreatDoor

namespace Go.Proofs.YtjjkobbajbbgdaaGreatDoor
open Go.RowKit

/-- The slice at p of A's length and of that capacity holds the numbers A, from its block's head on; nil holds none. -/
def Sl (k : IntKind) (T : TypeId) (w : World) (p : Option Addr) (cap : Nat) (A : List Nat) : Prop := w.ownsRow 0 T 1 (.slice p A.length cap) A.length (nums k A)

theorem Sl.shape {k : IntKind} {T : TypeId} {w : World} {p : Option Addr} {cap : Nat} {A : List Nat} (h : Sl k T w p cap A) :
    (p = none ∧ A = [] ∧ cap = 0) ∨ ∃ g, p = some ⟨g, 0, none⟩ ∧ g < w.heap.size ∧ A.length ≤ cap ∧ cap ≤ maxLen ∧ ∃ cur : Array Value, w.heap[g]? = some (.cells cur T (0, 0)) ∧ cur.size = cap ∧ cur.toList.take A.length = nums k A := by
  rcases h.2 with ⟨e, h0⟩ | ⟨g, cap', cur, e, _, hh, h1, h2, h3, h4⟩
  · simp only [Value.slice.injEq] at e
    exact .inl ⟨e.1, List.eq_nil_of_length_eq_zero h0, e.2.2⟩
  · simp only [Value.slice.injEq] at e
    obtain ⟨rfl, _, rfl⟩ := e
    exact .inr ⟨g, rfl, (Array.getElem?_eq_some_iff.1 hh).1, h1, h2, cur, hh, by simpa using h3, by simpa using h4⟩
theorem Sl.of_row {k : IntKind} {T : TypeId} {w : World} {g cap : Nat} {A : List Nat} {cur : Array Value} (hh : w.heap[g]? = some (.cells cur T (0, 0))) (h1 : A.length ≤ cap) (h2 : cap ≤ maxLen) (h3 : cur.size = cap) (h4 : cur.toList.take A.length = nums k A) :
    Sl k T w (some ⟨g, 0, none⟩) cap A := ⟨by simp [nums_len], .inr ⟨g, cap, cur, rfl, Nat.zero_le _, hh, h1, h2, by simpa using h3, by simpa using h4⟩⟩
theorem Sl.empty (k : IntKind) (T : TypeId) (w : World) : Sl k T w none 0 [] := World.ownsRow_nil _ _ _ _
theorem Sl.made {k : IntKind} {T : TypeId} (w : World) (A : List Nat) (hl : A.length ≤ maxLen) : Sl k T (w.alloc (.cells (nums k A).toArray T (0, 0))) (some ⟨w.heap.size, 0, none⟩) A.length A :=
  Sl.of_row (heap_alloc_new _ _) (Nat.le_refl _) hl (by simp [nums_len]) (by simp [nums, List.take_of_length_le])
theorem Sl.isPtr {k : IntKind} {T : TypeId} {w : World} {p : Option Addr} {cap : Nat} {A : List Nat} (h : Sl k T w p cap A) (hA : A ≠ []) : ∃ g, p = some ⟨g, 0, none⟩ := by
  rcases h.shape with ⟨_, e, _⟩ | ⟨g, e, _⟩
  · exact absurd e hA
  · exact ⟨g, e⟩
theorem Sl.lt {k : IntKind} {T : TypeId} {w : World} {a : Addr} {cap : Nat} {A : List Nat} (h : Sl k T w (some a) cap A) : a.block < w.heap.size := by
  rcases h.shape with ⟨e, _⟩ | ⟨g, e, hl, _⟩
  · cases e
  · cases e; exact hl
theorem Sl.cell {k : IntKind} {T : TypeId} {w : World} {g cap : Nat} {A : List Nat} (h : Sl k T w (some ⟨g, 0, none⟩) cap A) (i : Nat) (hi : i < A.length) : w.cell? ⟨g, i, none⟩ = some (.int k (A[i]'hi)) := by
  rcases h.shape with ⟨e, _⟩ | ⟨g', e, _, _, _, cur, hh, _, ht⟩
  · cases e
  · simp only [Option.some.injEq, Addr.mk.injEq] at e
    obtain ⟨rfl, _⟩ := e
    rw [cell_of_row w g i _ T (0, 0) hh]
    have := nums_get k A i hi
    rw [← ht, List.getElem?_take_of_lt hi] at this
    simpa using this
theorem Sl.froz {k : IntKind} {T : TypeId} {w : World} {g cap : Nat} {A : List Nat} (h : Sl k T w (some ⟨g, 0, none⟩) cap A) (i : Nat) : w.frozen? ⟨g, i, none⟩ = false := by
  rcases h.shape with ⟨e, _⟩ | ⟨g', e, _, _, _, cur, hh, _⟩
  · cases e
  · simp only [Option.some.injEq, Addr.mk.injEq] at e
    obtain ⟨rfl, _⟩ := e
    exact frozen_of_row w g i _ T hh
theorem Sl.cap_le {k : IntKind} {T : TypeId} {w : World} {p : Option Addr} {cap : Nat} {A : List Nat} (h : Sl k T w p cap A) : A.length ≤ cap := by
  rcases h.shape with ⟨_, e, _⟩ | ⟨g, _, _, h1, _⟩
  · subst e; simp
  · exact h1
theorem Sl.kept {k : IntKind} {T : TypeId} {w w' : World} {p : Option Addr} {cap : Nat} {A : List Nat} {S : Nat → Prop} (h : Sl k T w p cap A) (hm : Mod S w w') (hp : ∀ a, p = some a → ¬ S a.block) : Sl k T w' p cap A := by
  rcases h.shape with ⟨rfl, rfl, rfl⟩ | ⟨g, rfl, hl, h1, h2, cur, hh, h3, h4⟩
  · exact Sl.empty _ _ _
  · exact Sl.of_row ((hm.block g hl (hp _ rfl)).trans hh) h1 h2 h3 h4
theorem Sl.below {k : IntKind} {T : TypeId} {w w' : World} {p : Option Addr} {cap B : Nat} {A : List Nat} (h : Sl k T w p cap A) (hb : Below B w w') (hp : ∀ a, p = some a → a.block < B) : Sl k T w' p cap A :=
  h.kept (Mod.of_below hb) (fun a e hs => by have := hp a e; omega)
theorem Sl.old {k : IntKind} {T : TypeId} {w w' : World} {p : Option Addr} {cap : Nat} {A : List Nat} (h : Sl k T w p cap A) (hb : Below w.heap.size w w') : Sl k T w' p cap A :=
  h.below hb (fun a e => by subst e; exact h.lt)
theorem Sl.alloc {k : IntKind} {T : TypeId} {w : World} {p : Option Addr} {cap : Nat} {A : List Nat} (h : Sl k T w p cap A) (o : Obj) : Sl k T (w.alloc o) p cap A := h.old ((Below.refl _ _).alloc (Nat.le_refl _) o)
theorem Sl.drew {k : IntKind} {T : TypeId} {w : World} {p : Option Addr} {cap : Nat} {A : List Nat} (h : Sl k T w p cap A) : Sl k T w.drew p cap A := h.old (Below.refl _ _).drew
theorem Sl.other {k : IntKind} {T : TypeId} {w : World} {p : Option Addr} {cap : Nat} {A : List Nat} (h : Sl k T w p cap A) (a : Addr) (u : Value) (hp : ∀ q, p = some q → q.block ≠ a.block) : Sl k T (w.setCell a u) p cap A :=
  h.kept ((Mod.refl (· = a.block) w).setCell (fun _ => rfl) u) hp
theorem Sl.set {k : IntKind} {T : TypeId} {w : World} {g cap : Nat} {A : List Nat} (h : Sl k T w (some ⟨g, 0, none⟩) cap A) (i x : Nat) : Sl k T (w.setCell ⟨g, i, none⟩ (.int k x)) (some ⟨g, 0, none⟩) cap (A.set i x) := by
  rcases h.shape with ⟨e, _⟩ | ⟨g', e, _, h1, h2, cur, hh, h3, h4⟩
  · cases e
  · simp only [Option.some.injEq, Addr.mk.injEq] at e
    obtain ⟨rfl, _⟩ := e
    have hs := heap_setCell_same w g i cur T (.int k x) hh
    refine Sl.of_row hs (by simpa using h1) h2 (by simpa using h3) ?_
    rw [List.length_set, ← nums_set, ← h4]
    simp [List.take_set]
theorem Sl.take {k : IntKind} {T : TypeId} {w : World} {p : Option Addr} {cap : Nat} {A : List Nat} (h : Sl k T w p cap A) (m : Nat) (hm : m ≤ A.length) : Sl k T w p cap (A.take m) := by
  rcases h.shape with ⟨rfl, rfl, rfl⟩ | ⟨g, rfl, hl, h1, h2, cur, hh, h3, h4⟩
  · simpa using Sl.empty k T w
  · refine Sl.of_row hh (by simp; omega) h2 h3 ?_
    rw [List.length_take, Nat.min_eq_left hm]
    have := congrArg (List.take m) h4
    rw [List.take_take, Nat.min_eq_left hm] at this
    rw [this]; simp [nums, List.map_take]

/-- A box stays where nothing below has turned. -/
theorem Boxed.below' {w w' : World} {B g : Nat} {T : TypeId} {v : Value} (h : Boxed w g T v) (hb : Below B w w') (hg : g < B) : Boxed w' g T v := (hb.block g hg).trans h
theorem Boxed.mod' {w w' : World} {S : Nat → Prop} {g : Nat} {T : TypeId} {v : Value} (h : Boxed w g T v) (hm : Mod S w w') (hg : ¬ S g) : Boxed w' g T v := (hm.block g h.lt hg).trans h

end Go.Proofs.YtjjkobbajbbgdaaGreatDoor

namespace Go.Proofs.YtjjkobbajbbgdaaGreatDoor
open Go.RowKit

/-- A table's value. -/
def tval (P : List Nat) : Value := .agg (nums .i64 P).toArray
/-- All powers. -/
def tsum (P : List Nat) : Nat := P.foldl (· + ·) 0
/-- A table: 64 powers that may be. -/
structure IsTab (P : List Nat) : Prop where
  len : P.length = 64
  le : ∀ p ∈ P, p ≤ 1099511627776

theorem tsum_from (P : List Nat) (a : Nat) : P.foldl (· + ·) a = a + tsum P := by
  unfold tsum
  induction P generalizing a with
  | nil => rfl
  | cons p P ih => rw [List.foldl_cons, List.foldl_cons, ih, ih (0 + p)]; omega
theorem tsum_take (P : List Nat) (i : Nat) (hi : i < P.length) : tsum (P.take (i + 1)) = tsum (P.take i) + P[i] := by
  unfold tsum
  rw [← List.take_append_getElem hi, List.foldl_append]; rfl
theorem tsum_le (P : List Nat) (h : ∀ p ∈ P, p ≤ 1099511627776) : tsum P ≤ P.length * 1099511627776 := by
  induction P with
  | nil => exact Nat.le_refl _
  | cons p P ih =>
    have h1 := h p (by simp)
    have h2 := ih (fun q hq => h q (by simp [hq]))
    have e : tsum (p :: P) = p + tsum P := by show (p :: P).foldl (· + ·) 0 = _; rw [List.foldl_cons, tsum_from]; omega
    rw [e, List.length_cons, Nat.add_mul]; omega
theorem IsTab.sumle {P : List Nat} (h : IsTab P) : tsum P ≤ 70368744177664 := by
  have := tsum_le P h.le; rw [h.len] at this; exact this
theorem IsTab.row {P : List Nat} (h : IsTab P) {A : Array Value} (hA : A = (nums .i64 P).toArray) : A.size = 64 := by rw [hA]; simp [nums_len, h.len]
theorem tsum_mono (P : List Nat) (i : Nat) : tsum (P.take i) ≤ tsum P := by
  have h2 := tsum_from (P.drop i) (tsum (P.take i))
  have h : tsum P = (P.drop i).foldl (· + ·) (tsum (P.take i)) := by
    unfold tsum
    rw [← List.foldl_append, List.take_append_drop]
  rw [h, h2]; exact Nat.le_add_right _ _

set_option maxRecDepth 20000 in
set_option maxHeartbeats 1000000 in
theorem total_any (P : List Nat) (w : World) (hP : IsTab P) :
    Calls Tryz.prog 15 #[tval P] w fun r w' => r = .returned (.int .i64 (tsum P : Int)) ∧ Below w.heap.size w w' := by
  unfold tval
  have hle := hP.sumle
  have hm := Lib.hid (tsum_mono P)
  have hl := hP.len
  have hidx : ∀ (i : Nat) (hi : i < P.length) (w : World), (Instr.index 24 (.agg (nums .i64 P).toArray) (.int .i64 (i : Int))).run Tryz.prog w = .ok (.int .i64 (P[i]'hi)) w :=
    fun i hi w => run_index_nums 24 3 64 .i64 P i hi Tryz.underlying24 hl Tryz.underlying3 (by kernel_rfl) w
  obtain ⟨A, hA⟩ : ∃ A, A = (nums .i64 P).toArray := ⟨_, rfl⟩
  have hAs := hP.row hA
  rw [← hA] at hidx ⊢
  have Hidx := Lib.hid hidx
  have hB : Below w.heap.size w (w.alloc (.cells A 26)) := (Below.refl _ _).alloc (Nat.le_refl _) _
  have hrow : (w.alloc (.cells A 26)).heap[w.heap.size]? = some (.cells A 26 (0, 0)) := heap_alloc_new _ _
  clear hA hidx
  go_enter Tryz.func15, Tryz.ntmps15
  go_upto_region 2 with fail
  generalize w.alloc (.cells A 26) = W at hB hrow ⊢
  go_wp2_with (refine wpList_load_row rfl 24 (.tmp 6) rfl w.heap.size rfl 26 A (0, 0) _ hrow Tryz.underlying24 rfl ?s1 ?_)
  case s1 => rw [hAs]; kernel_rfl
  clear hAs hrow
  go_loopw [3, 8] (fun s3 s8 wr => ∃ (i t : Nat), i ≤ 64 ∧ s3 = .int .i64 (t : Int) ∧ s8 = .int .i64 (i : Int) ∧ Hid (t = tsum (P.take i)) ∧ wr = W) (fun _ i _ => 64 - (intOf i).toNat)
  case atStart => exact ⟨0, 0, by omega, rfl, rfl, Lib.hid rfl, rfl⟩
  case round =>
    obtain ⟨i, t, hi, rfl, rfl, ht, rfl⟩ := hrel
    by_cases hin : i < 64
    · have hil : i < P.length := by omega
      have e0 := Hidx.out i hil
      obtain ⟨x, hx⟩ : ∃ x, x = P[i] := ⟨_, rfl⟩
      rw [← hx] at e0
      have ht2 : Hid (t + x = tsum (P.take (i + 1))) := Lib.hid (by rw [tsum_take P i hil, ← ht.out, hx])
      have htb : t + x ≤ 70368744177664 := by rw [ht2.out]; exact Nat.le_trans (hm.out _) hle
      have i1 : (i : Int) < 64 := by omega
      have w1 : IntKind.i64.wrap ((t : Int) + x) = (t : Int) + x := by rw [IntKind.wrap_i64]; omega
      clear hx ht
      go_wp2_with fail
      go_roundw
      case rel => exact ⟨i + 1, t + x, by omega, by go_num, by go_num, ht2, trivial⟩
      case measure => simp [intOf]; omega
    · obtain rfl : i = 64 := by omega
      have e : t = tsum P := by rw [ht.out, List.take_of_length_le (by omega)]
      subst e
      clear ht
      go_wp2_with fail
      go_ret
      exact ⟨rfl, hB⟩

set_option maxRecDepth 20000 in
set_option maxHeartbeats 1000000 in
theorem power_any (P : List Nat) (m : Int) (w : World) (hP : IsTab P) :
    Calls Tryz.prog 12 #[tval P, .int .i64 m] w fun r w' => r = .returned (.int .i64 ((if 0 ≤ m ∧ m < 64 then P.getD m.toNat 0 else 0 : Nat) : Int)) ∧ Below w.heap.size w w' := by
  unfold tval
  have hl := hP.len
  have hR : RowAt .i64 26 (w.alloc (.cells (nums .i64 P).toArray 26)) w.heap.size P := heap_alloc_new _ _
  have hcell := Lib.hid (fun i hi => hR.cell i hi)
  have hB : Below w.heap.size w (w.alloc (.cells (nums .i64 P).toArray 26)) := (Below.refl _ _).alloc (Nat.le_refl _) _
  clear hR
  obtain ⟨A, hA⟩ : ∃ A, A = (nums .i64 P).toArray := ⟨_, rfl⟩
  rw [← hA] at hcell hB ⊢
  clear hA
  by_cases h0 : m < 0
  · rw [if_neg (by omega)]
    go_enter Tryz.func12, Tryz.ntmps12
    go_wp2_with fail
    go_ret
    exact ⟨rfl, hB⟩
  · by_cases h64 : m < 64
    · rw [if_pos ⟨by omega, h64⟩]
      obtain ⟨n, rfl⟩ : ∃ n : Nat, m = (n : Int) := ⟨m.toNat, by omega⟩
      have hn : n < P.length := by omega
      have hc := hcell.out n hn
      rw [Int.toNat_natCast, show P.getD n 0 = P[n] by rw [List.getD_eq_getElem?_getD, List.getElem?_eq_getElem hn]; rfl]
      have i0 : (0 : Int) ≤ n := by omega
      generalize P[n] = x at hc ⊢
      go_enter Tryz.func12, Tryz.ntmps12
      go_wp2_with fail
      go_ret
      exact ⟨rfl, hB⟩
    · rw [if_neg (by omega)]
      have h63 : ¬ m < 64 := h64
      have h65 : (64 : Int) ≤ m := by omega
      go_enter Tryz.func12, Tryz.ntmps12
      go_wp2_with fail
      go_ret
      exact ⟨rfl, hB⟩
end Go.Proofs.YtjjkobbajbbgdaaGreatDoor

namespace Go.Proofs.YtjjkobbajbbgdaaGreatDoor
open Go.RowKit

/-- The slice holds the numbers. -/
def IntsAt (w : World) (ao : Option Addr) (S : List Int) : Prop :=
  ∀ j (h : j < S.length), ∃ bs off, ao = some ⟨bs, off, none⟩ ∧ bs < w.heap.size ∧ w.cell? ⟨bs, off + j, none⟩ = some (.int .i64 S[j])
theorem IntsAt.old {w w' : World} {ao : Option Addr} {S : List Int} (h : IntsAt w ao S) (hb : Below w.heap.size w w') : IntsAt w' ao S := by
  intro j hj
  obtain ⟨bs, off, e, hlt, c1⟩ := h j hj
  exact ⟨bs, off, e, Nat.lt_of_lt_of_le hlt hb.size, (hb.cell (p := ⟨bs, off + j, none⟩) hlt).trans c1⟩
/-- A miner's power. -/
def pw (P : List Nat) (m : Int) : Nat := if 0 ≤ m ∧ m < 64 then P.getD m.toNat 0 else 0
/-- One signer more. -/
def sg (P Q : List Nat) (m : Int) : List Nat := if 0 < pw P m then Q.set m.toNat (pw P m) else Q
/-- What was signed. -/
def sig (P : List Nat) (S : List Int) : List Nat := S.foldl (sg P) (List.replicate 64 0)
theorem pw_le {P : List Nat} (h : IsTab P) (m : Int) : pw P m ≤ 1099511627776 := by
  unfold pw
  by_cases hm : 0 ≤ m ∧ m < 64
  · rw [if_pos hm]
    have hn : m.toNat < P.length := by rw [h.len]; omega
    rw [List.getD_eq_getElem?_getD, List.getElem?_eq_getElem hn]
    exact h.le _ (List.getElem_mem hn)
  · rw [if_neg hm]; exact Nat.zero_le _
theorem set_le {P : List Nat} {b : Nat} (h : ∀ p ∈ P, p ≤ b) {i x : Nat} (hx : x ≤ b) : ∀ p ∈ P.set i x, p ≤ b := by
  intro p hp
  rcases List.mem_or_eq_of_mem_set hp with h1 | h1
  · exact h p h1
  · rw [h1]; exact hx
theorem IsTab.sg {P Q : List Nat} (h : IsTab P) (hQ : IsTab Q) (m : Int) : IsTab (sg P Q m) := by
  unfold Go.Proofs.YtjjkobbajbbgdaaGreatDoor.sg
  by_cases hp : 0 < pw P m
  · rw [if_pos hp]; exact ⟨by rw [List.length_set]; exact hQ.len, set_le hQ.le (pw_le h m)⟩
  · rw [if_neg hp]; exact hQ
theorem isTab_zero : IsTab (List.replicate 64 0) := ⟨by simp, fun p hp => by rw [List.eq_of_mem_replicate hp]; exact Nat.zero_le _⟩
theorem sig_take (P : List Nat) (S : List Int) (i : Nat) (hi : i < S.length) : sig P (S.take (i + 1)) = sg P (sig P (S.take i)) S[i] := by
  unfold sig
  rw [← List.take_append_getElem hi, List.foldl_append]; rfl

theorem exec_load_row {P : Program} {o : Oper} {a : Act} {w : World} (ty : TypeId) (x : Operand) (ho : o.op = .load ty x) (g : Nat) (hx : a.eval x = .pointer (some ⟨g, 0, none⟩)) (t : TypeId) (cs : Array Value) (fr : Nat × Nat) (d : TypeDesc) (hg : w.heap[g]? = some (.cells cs t fr))
    (hu : P.underlying ty = some d) (hd : (match d with | .struct _ | .array _ _ => true | _ => false) = true) (hi : (P.info? ty).map (·.size) = some cs.size) : (execOp a.eval o).run P w = .ok (.value (.agg cs)) w := by
  unfold execOp
  simp only [ho, hx, Instr.loadAt, Instr.sureAddr, Sem.run_bind, Sem.run_pure, Result.andThen_ok, run_loadVar_row w g t ty cs fr d hg hu hd hi]

/-- While the signers are gone through: i are. -/
structure QuoR (w : World) (P : List Nat) (A : Array Value) (S : List Int) (i : Nat) (Q : List Nat) (wr : World) : Prop where
  val : Q = sig P (S.take i)
  tab : IsTab Q
  row : RowAt .i64 26 wr (w.heap.size + 1) Q
  own : wr.heap[w.heap.size]? = some (.cells A 26 (0, 0))
  m : Below w.heap.size w wr
theorem QuoR.below {w : World} {P : List Nat} {A : Array Value} {S : List Int} {i : Nat} {Q : List Nat} {wr w' : World} (h : QuoR w P A S i Q wr) (hb : Below wr.heap.size wr w') : QuoR w P A S i Q w' :=
  ⟨h.val, h.tab, (hb.block _ h.row.lt).trans h.row, (hb.block _ (Array.getElem?_eq_some_iff.1 h.own).1).trans h.own, h.m.trans (hb.mono h.m.size)⟩

set_option maxRecDepth 20000 in
set_option maxHeartbeats 8000000 in
theorem quorum_any (P : List Nat) (ao : Option Addr) (cap : Nat) (S : List Int) (w : World) (hP : IsTab P) (hS : IntsAt w ao S) (hl : S.length ≤ 1000000) :
    Calls Tryz.prog 77 #[tval P, .slice ao S.length cap] w fun r w' => r = .returned (.bool (decide (2 * tsum P < 3 * tsum (sig P S)))) ∧ Below w.heap.size w w' := by
  have hpow : ∀ (m : Int) (w : World), Calls Tryz.prog 12 #[tval P, .int .i64 m] w fun r w' => r = .returned (.int .i64 (pw P m : Int)) ∧ Below w.heap.size w w' := fun m w => power_any P m w hP
  have htot : ∀ (Q : List Nat) (w : World), IsTab Q → Calls Tryz.prog 15 #[tval Q] w fun r w' => r = .returned (.int .i64 (tsum Q : Int)) ∧ Below w.heap.size w w' := fun Q w h => total_any Q w h
  have htP := htot P
  obtain ⟨n, hn⟩ : ∃ n, S.length = n := ⟨_, rfl⟩
  rw [hn] at hl ⊢
  have Hn := Lib.hid hn
  have HS := Lib.hid hS
  unfold tval at hpow htP ⊢
  obtain ⟨A, hA⟩ : ∃ A, A = (nums .i64 P).toArray := ⟨_, rfl⟩
  have hAs := hP.row hA
  rw [← hA] at hpow htP ⊢
  have Hpow := Lib.hid hpow
  have HtP := Lib.hid (fun w => htP w hP)
  have Htot := Lib.hid htot
  have HP := Lib.hid hP
  obtain ⟨Z, hZ⟩ : ∃ Z, Z = (nums .i64 (List.replicate 64 0)).toArray := ⟨_, rfl⟩
  have hz : ∀ w : World, (zeroValue 26).run Tryz.prog w = .ok (.agg Z) w := by rw [hZ]; exact fun _ => by kernel_rfl
  have HZ := Lib.hid hZ
  have hi28 : ∀ w : World, w.heap[w.heap.size]? = none := fun w => Array.getElem?_eq_none (Nat.le_refl _)
  clear hpow htP htot hA hn hS hP hZ hi28
  go_enter Tryz.func77, Tryz.ntmps77
  go_upto_region 2 with fail
  obtain ⟨W, hW⟩ : ∃ W, W = (w.alloc (.cells A 26)).alloc (.cells Z 26) := ⟨_, rfl⟩
  have hR0 : QuoR w P A S 0 (List.replicate 64 0) W := by
    rw [hW]
    refine ⟨rfl, isTab_zero, ?_, ?_, ((Below.refl _ _).alloc (Nat.le_refl _) _).alloc (by simp) _⟩
    · have := heap_alloc_new (w.alloc (.cells A 26)) (.cells Z 26)
      rw [World.size_alloc] at this
      rw [HZ.out] at this; rw [HZ.out]; exact this
    · exact (Below.heap_alloc _ _ _ (by simp)).trans (heap_alloc_new w _)
  rw [← hW]
  clear hW hz HZ
  go_wp2_with fail
  go_loopw [11] (fun s11 wr => ∃ (i : Nat) (Q : List Nat), i ≤ n ∧ s11 = .int .i64 (i : Int) ∧ QuoR w P A S i Q wr) (fun i _ => n - (intOf i).toNat)
  case atStart => exact ⟨0, _, by omega, rfl, hR0⟩
  case round =>
    clear hR0
    obtain ⟨i, Q, hi, rfl, hR⟩ := hrel
    by_cases hin : i < n
    · have hil : i < S.length := by rw [Hn.out]; exact hin
      obtain ⟨bs, off, rfl, hbs, c1⟩ := (HS.out.old hR.m) i hil
      obtain ⟨m, hm⟩ : ∃ m, m = S[i] := ⟨_, rfl⟩
      rw [← hm] at c1
      have hsg := sig_take P S i hil
      rw [← hm, ← hR.val] at hsg
      have Hsg := Lib.hid hsg
      have i1 : (i : Int) < n := by omega
      have i0 : (0 : Int) ≤ i := by omega
      have own := hR.own
      have HR := Lib.hid hR
      obtain ⟨x, hx⟩ : ∃ x, x = pw P m := ⟨_, rfl⟩
      have hpm := Hpow.out m wr
      rw [← hx] at hpm
      have Hx := Lib.hid hx
      clear hm hsg hR hx
      go_wp2_with (refine wpList_load_row rfl 26 (.tmp 2) rfl w.heap.size rfl 26 A (0, 0) _ own Tryz.underlying26 rfl ?s1 ?_)
      case s1 => rw [hAs]; kernel_rfl
      refine hpm.mono ?_
      clear hpm own
      rintro r w3 ⟨rfl, hb⟩
      have hR3 := HR.out.below hb
      clear hb c1 HR
      by_cases hx0 : 0 < x
      · have hm64 : 0 ≤ m ∧ m < 64 := by
          apply Classical.byContradiction; intro h
          have := Hx.out; unfold pw at this; rw [if_neg h] at this; omega
        obtain ⟨k, rfl⟩ : ∃ k : Nat, m = (k : Int) := ⟨m.toNat, by omega⟩
        have hkl : k < Q.length := by rw [hR3.tab.len]; omega
        have cS := hR3.row.cell k hkl
        have fS := hR3.row.froz k
        generalize Q[k] = old at cS
        have hrow := hR3.row.set k x
        have hQ2 : Hid (QuoR w P A S (i + 1) (Q.set k x) (w3.setCell ⟨w.heap.size + 1, k, none⟩ (.int .i64 (x : Int)))) := Lib.hid (by
          have e : sg P Q (k : Int) = Q.set k x := by unfold sg; rw [← Hx.out, if_pos hx0, Int.toNat_natCast]
          refine ⟨by rw [Hsg.out, e], by rw [← e]; exact HP.out.sg hR3.tab _, hrow, ?_, hR3.m.setCell (p := ⟨w.heap.size + 1, k, none⟩) (by show w.heap.size ≤ w.heap.size + 1; omega) _⟩
          exact (Below.heap_setCell _ _ _ _ (by show w.heap.size ≠ w.heap.size + 1; omega)).trans hR3.own)
        have b0 : (0 : Int) < x := by omega
        have k0 : (0 : Int) ≤ k := by omega
        have k1 : (k : Int) < 64 := by omega
        clear hR3 hrow hkl hm64
        go_wp2_with fail
        go_roundw
        case rel => exact ⟨i + 1, _, by omega, by go_num, hQ2.out⟩
        case measure => simp [intOf]; omega
      · have hQ2 : Hid (QuoR w P A S (i + 1) Q w3) := Lib.hid (by
          have e : sg P Q m = Q := by unfold sg; rw [← Hx.out, if_neg hx0]
          exact ⟨by rw [Hsg.out, e], hR3.tab, hR3.row, hR3.own, hR3.m⟩)
        have b0 : ¬ (0 : Int) < x := by omega
        clear hR3
        go_wp2_with fail
        go_roundw
        case rel => exact ⟨i + 1, Q, by omega, by go_num, hQ2.out⟩
        case measure => simp [intOf]; omega
    · obtain rfl : i = n := by omega
      have hv := hR.val
      rw [List.take_of_length_le (by rw [Hn.out]; exact Nat.le_refl _)] at hv
      obtain ⟨AQ, hAQ⟩ : ∃ AQ, AQ = (nums .i64 Q).toArray := ⟨_, rfl⟩
      have hQs := hR.tab.row hAQ
      have hrow : wr.heap[w.heap.size + 1]? = some (.cells AQ 26 (0, 0)) := by rw [hAQ]; exact hR.row
      have htQ := fun w => Htot.out Q w hR.tab
      have hq1 := hR.tab.sumle
      have hp1 := HP.out.sumle
      unfold tval at htQ
      rw [← hAQ] at htQ
      obtain ⟨tq, htq⟩ : ∃ t, t = tsum Q := ⟨_, rfl⟩
      have htP2 := HtP.out
      obtain ⟨tp, htp⟩ : ∃ t, t = tsum P := ⟨_, rfl⟩
      rw [← htq] at htQ hq1
      rw [← htp] at htP2 hp1
      clear HtP
      have HtQ := Lib.hid htQ
      have HtP := Lib.hid htP2
      have wq : IntKind.i64.wrap (3 * (tq : Int)) = 3 * (tq : Int) := by rw [IntKind.wrap_i64]; omega
      have wp' : IntKind.i64.wrap (2 * (tp : Int)) = 2 * (tp : Int) := by rw [IntKind.wrap_i64]; omega
      obtain ⟨b, hb1, hb2⟩ : ∃ b : Bool, decide (2 * (tp : Int) < 3 * (tq : Int)) = b ∧ decide (2 * tp < 3 * tq) = b := by
        by_cases h : 2 * tp < 3 * tq
        · exact ⟨true, by simp; omega, by simp; omega⟩
        · exact ⟨false, by simp; omega, by simp; omega⟩
      have Hb2 : Hid (decide (2 * tsum P < 3 * tsum (sig P S)) = b) := Lib.hid (by rw [← hv, ← htp, ← htq]; exact hb2)
      have hB := hR.m
      clear hv hAQ htQ htP2 htq htp hb2 hin hi
      go_upto_region 9 with fail
      refine wp_region_vals (fun t v _ => match t with
        | 25 => v = .agg AQ
        | 26 => v = .int .i64 (tq : Int)
        | 27 => v = .int .i64 (3 * (tq : Int))
        | 28 => v = .agg A
        | 29 => v = .int .i64 (tp : Int)
        | 30 => v = .int .i64 (2 * (tp : Int))
        | 31 => v = .bool b
        | 4 => v = .bool b
        | _ => True) (fun w' => Below wr.heap.size wr w') 32 (by kernel_rfl) (by decide +kernel) rfl (Below.refl _ _).drew ?_ ?_
      · skip
        refine OweAll.cons (owes_val rfl rfl fun a u1 ha hG hV => ?_) ?_
        · skip
          have h5 : a.eval (.tmp 5) = .pointer (some ⟨w.heap.size + 1, 0, none⟩) := (ha.outer 5 (by decide +kernel)).trans rfl
          exact ⟨.agg AQ, wanted_free rfl, exec_load_row 26 (.tmp 5) rfl _ h5 26 AQ (0, 0) _ ((hG.block _ hR.row.lt).trans hrow) Tryz.underlying26 rfl (by rw [hQs]; kernel_rfl), rfl⟩
        refine OweAll.cons (owes_call rfl rfl 15 fun a u1 ha hG hV => ?_) ?_
        · skip
          have h25 : a.tmps.getD 25 undef = .agg AQ := hV.get 25 (by decide +kernel)
          refine ⟨#[.agg AQ], wanted_free rfl, by simp [execOp, resolve, invoke, go_sem, h25], ?_⟩
          refine (HtQ.out u1).mono ?_
          rintro r u2 ⟨rfl, hb⟩; exact ⟨_, rfl, rfl, hG.trans (hb.mono hG.size), fun _ _ h => h⟩
        refine OweAll.cons (owes_val rfl rfl fun a u1 ha hG hV => ?_) ?_
        · skip
          have h26 : a.tmps.getD 26 undef = .int .i64 (tq : Int) := hV.get 26 (by decide +kernel)
          exact ⟨.int .i64 (3 * (tq : Int)), wanted_free rfl, by simp [execOp, go_sem, h26, wq], rfl⟩
        refine OweAll.cons (owes_val rfl rfl fun a u1 ha hG hV => ?_) ?_
        · skip
          have h2 : a.eval (.tmp 2) = .pointer (some ⟨w.heap.size, 0, none⟩) := (ha.outer 2 (by decide +kernel)).trans rfl
          exact ⟨.agg A, wanted_free rfl, exec_load_row 26 (.tmp 2) rfl _ h2 26 A (0, 0) _ ((hG.block _ (Array.getElem?_eq_some_iff.1 hR.own).1).trans hR.own) Tryz.underlying26 rfl (by rw [hAs]; kernel_rfl), rfl⟩
        refine OweAll.cons (owes_call rfl rfl 15 fun a u1 ha hG hV => ?_) ?_
        · skip
          have h28 : a.tmps.getD 28 undef = .agg A := hV.get 28 (by decide +kernel)
          refine ⟨#[.agg A], wanted_free rfl, by simp [execOp, resolve, invoke, go_sem, h28], ?_⟩
          refine (HtP.out u1).mono ?_
          rintro r u2 ⟨rfl, hb⟩; exact ⟨_, rfl, rfl, hG.trans (hb.mono hG.size), fun _ _ h => h⟩
        refine OweAll.cons (owes_val rfl rfl fun a u1 ha hG hV => ?_) ?_
        · skip
          have h29 : a.tmps.getD 29 undef = .int .i64 (tp : Int) := hV.get 29 (by decide +kernel)
          exact ⟨.int .i64 (2 * (tp : Int)), wanted_free rfl, by simp [execOp, go_sem, h29, wp'], rfl⟩
        refine OweAll.cons (owes_val rfl rfl fun a u1 ha hG hV => ?_) ?_
        · skip
          have h27 : a.tmps.getD 27 undef = .int .i64 (3 * (tq : Int)) := hV.get 27 (by decide +kernel)
          have h30 : a.tmps.getD 30 undef = .int .i64 (2 * (tp : Int)) := hV.get 30 (by decide +kernel)
          exact ⟨.bool b, wanted_free rfl, by simp [execOp, go_sem, h27, h30, hb1], rfl⟩
        refine OweAll.cons (owes_val rfl rfl fun a u1 ha hG hV => ?_) ?_
        · skip
          have h31 : a.tmps.getD 31 undef = .bool b := hV.get 31 (by decide +kernel)
          exact ⟨.bool b, wanted_free rfl, by simp [execOp, go_sem, h31], rfl⟩
        exact OweAll.nil
      · intro a u1 ha hG hv
        rename_i hK
        have h4 : a.tmps.getD 4 undef = .bool b := hv 7 _ 4 rfl rfl
        refine hK _ _ (wp_ret ?_)
        show bodyPost Tryz.prog Tryz.f77 _ .ret a u1
        refine bodyPost_ret (results_tmp (t := 4) rfl _ _ _) ha.defers ?_
        rw [h4]
        exact ⟨by rw [Hb2.out], hB.trans (hG.mono hB.size)⟩
end Go.Proofs.YtjjkobbajbbgdaaGreatDoor

namespace Go.Proofs.YtjjkobbajbbgdaaGreatDoor
open Go.RowKit

/-- The slice holds the entries. -/
def EntsAt (w : World) (ao : Option Addr) (E : List (Nat × Nat)) : Prop :=
  ∀ j (h : j < E.length), ∃ bs off, ao = some ⟨bs, off, none⟩ ∧ bs < w.heap.size ∧ w.cell? ⟨bs, off + j * 2, none⟩ = some (.int .i64 ((E[j].1 : Nat) : Int)) ∧ w.cell? ⟨bs, off + j * 2 + 1, none⟩ = some (.int .i64 ((E[j].2 : Nat) : Int))
theorem EntsAt.old {w w' : World} {ao : Option Addr} {E : List (Nat × Nat)} (h : EntsAt w ao E) (hb : Below w.heap.size w w') : EntsAt w' ao E := by
  intro j hj
  obtain ⟨bs, off, e, hlt, c1, c2⟩ := h j hj
  exact ⟨bs, off, e, Nat.lt_of_lt_of_le hlt hb.size, (hb.cell (p := ⟨bs, off + j * 2, none⟩) hlt).trans c1, (hb.cell (p := ⟨bs, off + j * 2 + 1, none⟩) hlt).trans c2⟩
/-- Entries that may be: rising miners, powers from a least one on. -/
structure EntsOk (E : List (Nat × Nat)) (least : Nat) : Prop where
  m : ∀ e ∈ E, e.1 < 64
  p : ∀ e ∈ E, least ≤ e.2 ∧ e.2 ≤ 1099511627776
  up : ∀ j (h : j + 1 < E.length), E[j].1 < E[j + 1].1

set_option maxRecDepth 20000 in
set_option maxHeartbeats 4000000 in
theorem may_yes (ao : Option Addr) (cap least : Nat) (E : List (Nat × Nat)) (w : World) (hS : EntsAt w ao E) (hok : EntsOk E least) (hl : E.length ≤ 64) :
    Calls Tryz.prog 16 #[.slice ao E.length cap, .int .i64 (least : Int)] w fun r w' => r = .returned (.bool true) ∧ Below w.heap.size w w' := by
  obtain ⟨n, hn⟩ : ∃ n, E.length = n := ⟨_, rfl⟩
  rw [hn] at hl ⊢
  have Hn := Lib.hid hn
  have HS := Lib.hid hS
  have Hok := Lib.hid hok
  clear hn hS hok
  go_enter Tryz.func16, Tryz.ntmps16
  go_wp2_with fail
  go_loopw [5, 10] (fun s5 s10 wr => ∃ (i : Nat) (z : Int), i ≤ n ∧ s5 = .int .i64 z ∧ s10 = .int .i64 (i : Int) ∧ Hid (∀ h : i < E.length, z < (E[i].1 : Int)) ∧ Below w.heap.size w wr) (fun _ i _ => n - (intOf i).toNat)
  case atStart => exact ⟨0, -1, by omega, rfl, rfl, Lib.hid (fun h => by omega), Below.refl _ _⟩
  case round =>
    obtain ⟨i, z, hi, rfl, rfl, hz, hB⟩ := hrel
    by_cases hin : i < n
    · have hil : i < E.length := by rw [Hn.out]; exact hin
      obtain ⟨bs, off, rfl, hbs, c1, c2⟩ := (HS.out.old hB) i hil
      have hm := Hok.out.m E[i] (List.getElem_mem hil)
      have hp := Hok.out.p E[i] (List.getElem_mem hil)
      have hzl := hz.out hil
      have hz2 : Hid (∀ h : i + 1 < E.length, ((E[i].1 : Nat) : Int) < (E[i + 1].1 : Int)) := Lib.hid (fun h => by have := Hok.out.up i h; omega)
      obtain ⟨m, hm0⟩ : ∃ m, m = E[i].1 := ⟨_, rfl⟩
      obtain ⟨p, hp0⟩ : ∃ m, m = E[i].2 := ⟨_, rfl⟩
      rw [← hm0] at hm hzl c1
      rw [← hp0] at hp c2
      have hz3 : Hid (∀ h : i + 1 < E.length, (m : Int) < (E[i + 1].1 : Int)) := Lib.hid (fun h => by have := hz2.out h; rw [← hm0] at this; exact this)
      have i1 : (i : Int) < n := by omega
      have i0 : (0 : Int) ≤ i := by omega
      have b1 : ¬ (m : Int) ≤ z := by omega
      have b2 : ¬ (64 : Int) ≤ m := by omega
      have b2' : (m : Int) < 64 := by omega
      have b3 : ¬ (p : Int) < least := by omega
      have b4 : ¬ (1099511627776 : Int) < p := by omega
      have hB2 : Below w.heap.size w (wr.alloc (.cells #[.int .i64 (m : Int), .int .i64 (p : Int)] 31)) := hB.alloc hB.size _
      clear hz hz2 hm0 hp0 hm hp hzl
      go_wp2_with fail
      go_roundw
      case rel => exact ⟨i + 1, (m : Int), by omega, rfl, by go_num, hz3, hB2⟩
      case measure => simp [intOf]; omega
    · obtain rfl : i = n := by omega
      clear hz
      go_wp2_with fail
      go_ret
      exact ⟨rfl, hB⟩

/-- The table in which each miner of E has that power. -/
def wth (P : List Nat) (E : List (Nat × Nat)) : List Nat := E.foldl (fun Q e => Q.set e.1 e.2) P
theorem wth_take (P : List Nat) (E : List (Nat × Nat)) (i : Nat) (hi : i < E.length) : wth P (E.take (i + 1)) = (wth P (E.take i)).set E[i].1 E[i].2 := by
  unfold wth
  rw [← List.take_append_getElem hi, List.foldl_append]; rfl
theorem wth_len (P : List Nat) (E : List (Nat × Nat)) : (wth P E).length = P.length := by
  unfold wth
  induction E generalizing P with
  | nil => rfl
  | cons e E ih => rw [List.foldl_cons, ih]; simp
theorem wth_le {P : List Nat} {E : List (Nat × Nat)} {b : Nat} (hP : ∀ p ∈ P, p ≤ b) (hE : ∀ e ∈ E, e.2 ≤ b) : ∀ p ∈ wth P E, p ≤ b := by
  unfold wth
  induction E generalizing P with
  | nil => exact hP
  | cons e E ih => rw [List.foldl_cons]; exact ih (set_le hP (hE e (by simp))) (fun f hf => hE f (by simp [hf]))
theorem IsTab.wth {P : List Nat} {E : List (Nat × Nat)} {least : Nat} (h : IsTab P) (hok : EntsOk E least) : IsTab (wth P E) := ⟨by rw [wth_len]; exact h.len, wth_le h.le (fun e he => (hok.p e he).2)⟩

structure WthR (w : World) (P : List Nat) (Z : Array Value) (E : List (Nat × Nat)) (i : Nat) (Q : List Nat) (wr : World) : Prop where
  val : Q = wth P (E.take i)
  len : Q.length = 64
  row : RowAt .i64 26 wr w.heap.size Q
  res : wr.heap[w.heap.size + 1]? = some (.cells Z 26 (0, 0))
  m : Below w.heap.size w wr

set_option maxRecDepth 20000 in
set_option maxHeartbeats 8000000 in
theorem with_any (P : List Nat) (ao : Option Addr) (cap least : Nat) (E : List (Nat × Nat)) (w : World) (hP : IsTab P) (hS : EntsAt w ao E) (hok : EntsOk E least) (hl : E.length ≤ 64) :
    Calls Tryz.prog 17 #[tval P, .slice ao E.length cap] w fun r w' => r = .returned (tval (wth P E)) ∧ Below w.heap.size w w' := by
  obtain ⟨n, hn⟩ : ∃ n, E.length = n := ⟨_, rfl⟩
  rw [hn] at hl ⊢
  have Hn := Lib.hid hn
  have HS := Lib.hid hS
  have Hok := Lib.hid hok
  unfold tval
  obtain ⟨A, hA⟩ : ∃ A, A = (nums .i64 P).toArray := ⟨_, rfl⟩
  rw [← hA]
  have HA := Lib.hid hA
  obtain ⟨Z, hZ⟩ : ∃ Z, Z = (nums .i64 (List.replicate 64 0)).toArray := ⟨_, rfl⟩
  have hz : ∀ w : World, (zeroValue 26).run Tryz.prog w = .ok (.agg Z) w := by rw [hZ]; exact fun _ => by kernel_rfl
  have hPl := hP.len
  have HZ := Lib.hid hZ
  clear hn hS hok hA hZ
  go_enter Tryz.func17, Tryz.ntmps17
  go_upto_region 1 with fail
  obtain ⟨W, hW⟩ : ∃ W, W = (w.alloc (.cells A 26)).alloc (.cells Z 26) := ⟨_, rfl⟩
  have hR0 : WthR w P Z E 0 P W := by
    rw [hW]
    refine ⟨rfl, hPl, ?_, ?_, ((Below.refl _ _).alloc (Nat.le_refl _) _).alloc (by simp) _⟩
    · rw [HA.out]; exact (Below.heap_alloc _ _ _ (by simp)).trans (heap_alloc_new w _)
    · have := heap_alloc_new (w.alloc (.cells A 26)) (.cells Z 26)
      rw [World.size_alloc] at this; exact this
  rw [← hW]
  clear hW hz hP hPl
  go_wp2_with fail
  go_loopw [9] (fun s9 wr => ∃ (i : Nat) (Q : List Nat), i ≤ n ∧ s9 = .int .i64 (i : Int) ∧ WthR w P Z E i Q wr) (fun i _ => n - (intOf i).toNat)
  case atStart => exact ⟨0, _, by omega, rfl, hR0⟩
  case round =>
    clear hR0
    obtain ⟨i, Q, hi, rfl, hR⟩ := hrel
    by_cases hin : i < n
    · have hil : i < E.length := by rw [Hn.out]; exact hin
      obtain ⟨bs, off, rfl, hbs, c1, c2⟩ := (HS.out.old hR.m) i hil
      have hm := Hok.out.m E[i] (List.getElem_mem hil)
      have hv := wth_take P E i hil
      rw [← hR.val] at hv
      obtain ⟨m, hm0⟩ : ∃ m, m = E[i].1 := ⟨_, rfl⟩
      obtain ⟨p, hp0⟩ : ∃ m, m = E[i].2 := ⟨_, rfl⟩
      rw [← hm0] at hm c1 hv
      rw [← hp0] at c2 hv
      have i1 : (i : Int) < n := by omega
      have i0 : (0 : Int) ≤ i := by omega
      have m0 : (0 : Int) ≤ m := by omega
      have m1 : (m : Int) < 64 := by omega
      have hml : m < Q.length := by rw [hR.len]; exact hm
      obtain ⟨W3, hW3⟩ : ∃ W, W = wr.alloc (.cells #[.int .i64 (m : Int), .int .i64 (p : Int)] 31) := ⟨_, rfl⟩
      have hb3 : Below wr.heap.size wr W3 := by rw [hW3]; exact (Below.refl _ _).alloc (Nat.le_refl _) _
      have hrow : RowAt .i64 26 W3 w.heap.size Q := (hb3.block _ hR.row.lt).trans hR.row
      have hres : W3.heap[w.heap.size + 1]? = some (.cells Z 26 (0, 0)) := (hb3.block _ (Array.getElem?_eq_some_iff.1 hR.res).1).trans hR.res
      have hB3 := hR.m.trans (hb3.mono hR.m.size)
      have hrw : wr.heap.size < W3.heap.size := by rw [hW3]; simp
      have hst : W3.heap[wr.heap.size]? = some (.cells #[.int .i64 (m : Int), .int .i64 (p : Int)] 31 (0, 0)) := by rw [hW3]; exact heap_alloc_new _ _
      have s0 : W3.cell? ⟨wr.heap.size, 0, none⟩ = some (.int .i64 (m : Int)) := by rw [cell_of_row W3 wr.heap.size 0 _ 31 (0, 0) hst]; rfl
      have s1 : W3.cell? ⟨wr.heap.size, 1, none⟩ = some (.int .i64 (p : Int)) := by rw [cell_of_row W3 wr.heap.size 1 _ 31 (0, 0) hst]; rfl
      have cS := hrow.cell m hml
      have fS := hrow.froz m
      generalize Q[m] = old at cS
      have hN : Hid (WthR w P Z E (i + 1) (Q.set m p) (W3.setCell ⟨w.heap.size, m, none⟩ (.int .i64 (p : Int)))) := Lib.hid
        ⟨hv.symm, by rw [List.length_set]; exact hR.len, hrow.set m p, (Below.heap_setCell _ _ _ _ (by show w.heap.size + 1 ≠ w.heap.size; omega)).trans hres, hB3.setCell (p := ⟨w.heap.size, m, none⟩) (Nat.le_refl _) _⟩
      clear hm0 hp0 hv hm hR hrow hres hB3 hb3 hml hrw hst
      go_upto_region 4 with fail
      rw [← hW3]
      clear hW3
      go_wp2_with fail
      go_roundw
      case rel => exact ⟨i + 1, _, by omega, by go_num, hN.out⟩
      case measure => simp [intOf]; omega
    · obtain rfl : i = n := by omega
      have hv := hR.val
      rw [List.take_of_length_le (by rw [Hn.out]; exact Nat.le_refl _)] at hv
      subst hv
      obtain ⟨AQ, hAQ⟩ : ∃ AQ, AQ = (nums .i64 (wth P E)).toArray := ⟨_, rfl⟩
      have hQs : AQ.size = 64 := by rw [hAQ]; simp [nums_len, hR.len]
      have hrow : wr.heap[w.heap.size]? = some (.cells AQ 26 (0, 0)) := by rw [hAQ]; exact hR.row
      have hres := hR.res
      have hB := hR.m
      have hZs : Z.size = 64 := by rw [HZ.out]; simp [nums_len]
      have HAQ := Lib.hid hAQ
      clear hR hAQ
      go_wp2_with (first | (refine wpList_load_row rfl 26 (.tmp 2) rfl w.heap.size rfl 26 AQ (0, 0) _ hrow Tryz.underlying26 rfl ?s1 ?_) | (refine wpList_store_row rfl rfl 26 (.tmp 4) (.tmp 20) rfl (w.heap.size + 1) rfl 26 Z AQ rfl hres ?s2 ?s3 ?s4 ?_))
      case s1 => rw [hQs]; kernel_rfl
      case s2 => rw [hZs, hQs]
      case s3 => rw [hQs]; kernel_rfl
      case s4 => rw [HAQ.out]; intro v hv; exact nums_one .i64 _ v (by simpa using hv)
      have hg := setRow_heap wr (w.heap.size + 1) Z AQ 26 (0, 0) hres
      refine bodyPost_ret (v := .agg AQ) (results_cell_row Tryz.results17 _ _ (w.heap.size + 1) 26 AQ (0, 0) _ rfl hg Tryz.underlying26 rfl ?_) rfl ⟨by rw [HAQ.out], ?_⟩
      · rw [hQs]; kernel_rfl
      · exact ((Mod.of_below hB).setRow AQ).to_below (Nat.le_refl _) (by rintro k hk (h | h) <;> omega)
end Go.Proofs.YtjjkobbajbbgdaaGreatDoor

namespace Go.Proofs.YtjjkobbajbbgdaaGreatDoor
open Go.RowKit

set_option maxRecDepth 20000 in
set_option maxHeartbeats 8000000 in
theorem new_any (ao : Option Addr) (cap : Nat) (E : List (Nat × Nat)) (w : World) (hS : EntsAt w ao E) (hok : EntsOk E 1) (hl : E.length ≤ 64) (h0 : E ≠ []) :
    Calls Tryz.prog 5 #[.slice ao E.length cap] w fun r w' => r = .returned (.tuple #[tval (wth (List.replicate 64 0) E), .int .i64 0]) ∧ Below w.heap.size w w' := by
  have h0' : 0 < E.length := List.length_pos_iff.2 h0
  have hmay := fun w h => may_yes ao cap 1 E w h hok hl
  have hwith := fun w h => with_any (List.replicate 64 0) ao cap 1 E w isTab_zero h hok hl
  have htab := isTab_zero.wth hok
  obtain ⟨n, hn⟩ : ∃ n, E.length = n := ⟨_, rfl⟩
  rw [hn] at hl h0' hmay hwith ⊢
  have HS := Lib.hid hS
  unfold tval at hwith ⊢
  obtain ⟨Z, hZ⟩ : ∃ Z, Z = (nums .i64 (List.replicate 64 0)).toArray := ⟨_, rfl⟩
  have hz : ∀ w : World, (zeroValue 26).run Tryz.prog w = .ok (.agg Z) w := by rw [hZ]; exact fun _ => by kernel_rfl
  obtain ⟨AQ, hAQ⟩ : ∃ AQ, AQ = (nums .i64 (wth (List.replicate 64 0) E)).toArray := ⟨_, rfl⟩
  have hZs : Z.size = 64 := by rw [hZ]; simp [nums_len]
  have hQs : AQ.size = 64 := htab.row hAQ
  have h1 : Hid (∀ v ∈ AQ.toList, v.oneCell' = true) := Lib.hid (by rw [hAQ]; intro v hv; exact nums_one .i64 _ v (by simpa using hv))
  rw [← hZ, ← hAQ] at hwith
  rw [← hAQ]
  have Hmay := Lib.hid hmay
  have Hwith := Lib.hid hwith
  have b1 : ¬ (64 : Int) < n := by omega
  have b2 : ((n : Int) == 0) = false := by rw [beq_eq_false_iff_ne]; omega
  have hrow : (w.alloc (.cells Z 26)).heap[w.heap.size]? = some (.cells Z 26 (0, 0)) := heap_alloc_new _ _
  have hB : Below w.heap.size w (w.alloc (.cells Z 26)) := (Below.refl _ _).alloc (Nat.le_refl _) _
  clear hS hok hmay hwith htab hn hZ hAQ h0 h0'
  go_enter Tryz.func5, Tryz.ntmps5
  go_upto_region 1 with fail
  generalize w.alloc (.cells Z 26) = W at hrow hB ⊢
  go_wp2_with fail
  refine (Hmay.out W (HS.out.old hB)).mono ?_
  rintro r w2 ⟨rfl, hb⟩
  have hrow2 := (hb.block _ (Array.getElem?_eq_some_iff.1 hrow).1).trans hrow
  replace hB := hB.trans (hb.mono hB.size)
  clear hb hrow
  go_wp2_with fail
  refine (Hwith.out w2 (HS.out.old hB)).mono ?_
  rintro r w3 ⟨rfl, hb⟩
  have hrow3 := (hb.block _ (Array.getElem?_eq_some_iff.1 hrow2).1).trans hrow2
  replace hB := hB.trans (hb.mono hB.size)
  clear hb hrow2
  go_wp2_with (refine wpList_store_row rfl rfl 26 (.tmp 2) (.tmp 21) rfl w.heap.size rfl 26 Z AQ rfl hrow3 ?s2 ?s3 ?s4 ?_)
  case s2 => rw [hZs, hQs]
  case s3 => rw [hQs]; kernel_rfl
  case s4 => exact h1.out
  have hg := setRow_heap w3 w.heap.size Z AQ 26 (0, 0) hrow3
  have hl2 := run_loadVar_row (P := Tryz.prog) (w3.setRow w.heap.size AQ) w.heap.size 26 26 AQ (0, 0) _ hg Tryz.underlying26 rfl (by rw [hQs]; kernel_rfl)
  refine bodyPost_ret (v := .tuple #[.agg AQ, .int .i64 0]) (by simp [results, Tryz.results5, asAddr, hl2]) rfl ⟨rfl, ?_⟩
  exact ((Mod.of_below hB).setRow AQ).to_below (Nat.le_refl _) (by rintro k hk (h | h) <;> omega)
end Go.Proofs.YtjjkobbajbbgdaaGreatDoor

namespace Go.Proofs.YtjjkobbajbbgdaaGreatDoor
open Go.RowKit

theorem rawS_len (s : List UInt8) (e n : Int) : (rawS s e n).2.1.length ≤ s.length := by
  unfold rawS; split
  · exact failS_len _ _ _
  · simp
theorem textS_len (s : List UInt8) (e n : Int) : (textS s e n).2.1.length ≤ s.length := by
  unfold textS; exact Nat.le_trans (rawS_len _ _ _) (numS_len _ _ _)
theorem numS_lo (s : List UInt8) (e m : Int) : 0 ≤ (numS s e m).1 := by
  unfold numS; split
  · exact Int.le_refl 0
  · split
    · exact Int.le_refl 0
    · simp
theorem numS_hi (s : List UInt8) (e m : Int) (h : 0 ≤ m) : (numS s e m).1 ≤ m := by
  unfold numS; split
  · exact h
  · split
    · exact h
    · simp only; omega
theorem wpList_load_rowG {P : Program} {ops : Array Oper} {rest : List Oper} {o : Oper} {a : Act} {w : World} {Q : Exit → Act → World → Prop} (hw : Region.wanted o (yielded ops a.tmps) = true) (ty : TypeId) (x : Operand) (ho : o.op = .load ty x)
    (g : Nat) (hx : a.eval x = .pointer (some ⟨g, 0, none⟩)) (t : TypeId) (cs : Array Value) (fr : Nat × Nat) (d : TypeDesc) (hg : w.heap[g]? = some (.cells cs t fr))
    (hu : P.underlying ty = some d) (hd : (match d with | .struct _ | .array _ _ => true | _ => false) = true) (hi : (P.info? ty).map (·.size) = some cs.size)
    (h : wpList P ops Q rest (a.put o.dst (.agg cs)) w) : wpList P ops Q (o :: rest) a w :=
  wpList_step fun _ hK => by rw [if_pos hw]; exact wp_load_row ty x ho g hx t cs fr d hg hu hd hi (hK _ _ h)
theorem exec_store_row {P : Program} {o : Oper} {a : Act} {w : World} (ty : TypeId) (x y : Operand) (ho : o.op = .store ty x y)
    (g : Nat) (hx : a.eval x = .pointer (some ⟨g, 0, none⟩)) (t : TypeId) (old cs : Array Value) (hy : a.eval y = .agg cs) (hg : w.heap[g]? = some (.cells old t (0, 0))) (hsz : old.size = cs.size)
    (hi : (P.info? ty).map (·.size) = some cs.size) (h1 : ∀ v ∈ cs.toList, v.oneCell' = true) : (execOp a.eval o).run P w = .ok .skip (w.setRow g cs) := by
  have hst := run_storeCells_at P g 0 t cs.toList 0 old w hg (by simp; omega) h1
  have e : (old.toList.take (0 + 0) ++ cs.toList ++ old.toList.drop (0 + 0 + cs.toList.length)).toArray = cs := by
    have : old.toList.drop (0 + 0 + cs.toList.length) = [] := List.drop_eq_nil_of_le (by simp; omega)
    rw [this]; simp
  rw [e] at hst
  cases hq : P.info? ty with
  | none => simp [hq] at hi
  | some i =>
    have hs : i.size = cs.size := by simpa [hq] using hi
    have hv : (storeVar ty ⟨g, 0, none⟩ (.agg cs)).run P w = .ok () (w.setRow g cs) := by
      simp [storeVar, sizeOf, typeInfo, hq, hs, Value.cells, hst]
    unfold execOp
    simp only [ho, hx, hy, Instr.storeAt, Instr.sureAddr, Sem.run_bind, Sem.run_pure, Result.andThen_ok, hv]
theorem less_cmp : ∀ a b : List UInt8, Op.bytesLess a b = decide (Lib.compareBytes a b < 0)
  | [], [] => rfl
  | [], _ :: _ => rfl
  | _ :: _, [] => rfl
  | a :: x, b :: y => by
    have ih := less_cmp x y
    unfold Op.bytesLess Lib.compareBytes
    by_cases h1 : a < b
    · simp [h1]
    · by_cases h2 : b < a
      · have : ¬ a = b := by rintro rfl; exact absurd h2 h1
        simp [h1, h2, this]
      · have e : a = b := by
          rw [UInt8.lt_iff_toNat_lt] at h1 h2
          exact UInt8.toNat_inj.1 (by omega)
        subst e
        simp [h1, ih]
theorem binOp_geq_str (t : TypeId) (a b : ByteArray) : binOp .geq t (.string a) (.string b) = pure (.bool !(Op.bytesLess a.toList b.toList)) := by simp [binOp, Op.stringOp]
theorem cat_bytes (a b : List UInt8) : (⟨a.toArray⟩ : ByteArray) ++ (⟨b.toArray⟩ : ByteArray) = ⟨(a ++ b).toArray⟩ := by
  apply ByteArray.ext; simp
theorem exec_add_str {P : Program} {o : Oper} {a : Act} {w : World} (ty ty' : TypeId) (x y : Operand) (ho : o.op = .binOp .add ty x y ty') (A B : List UInt8) (hx : a.eval x = .string ⟨A.toArray⟩) (hy : a.eval y = .string ⟨B.toArray⟩) (h : A.length + B.length ≤ 9223372036854775807) :
    (execOp a.eval o).run P w = .ok (.value (.string ⟨(A ++ B).toArray⟩)) w := by
  have hr := run_string_add_sum (P := P) (w := w) (⟨A.toArray⟩ : ByteArray) ⟨B.toArray⟩ (by simpa [ByteArray.size] using h)
  rw [cat_bytes] at hr
  simp [execOp, ho, hx, hy, eqGuard, binOp_string_add, hr]
theorem Rd.mod {α : Type} {E : Enc α} {w w' : World} {ao : Option Addr} {L : List α} {S : Nat → Prop} (h : Rd E w ao L) (hm : Mod S w w') (hS : ∀ a, ao = some a → ¬ S a.block) : Rd E w' ao L := by
  intro j hj
  obtain ⟨bs, off, e, hlt, hc⟩ := h j hj
  exact ⟨bs, off, e, Nat.lt_of_lt_of_le hlt hm.size, fun i u hu => (World.cell?_of_block (hm.block bs hlt (hS _ e))).trans (hc i u hu)⟩
theorem Rw.ao {α : Type} {E : Enc α} {T : TypeId} {w : World} {p : Option Addr} {cap : Nat} {L : List α} (h : Rw E T w p cap L) : p = none ∨ ∃ b off, p = some ⟨b, off, none⟩ := by
  rcases h.shape with ⟨e, _⟩ | ⟨g, e, _⟩
  · exact .inl e
  · exact .inr ⟨g, 0, e⟩
section
variable {α : Type} {E : Enc α}
end
theorem results_row2 {P : Program} {fn : Func} {p u : Tmp} {ty : TypeId} (h : fn.results = #[.cell p ty, .tmp u]) (tmps : Array Value) (w : World) (g : Nat) (t : TypeId) (cs : Array Value) (fr : Nat × Nat) (d : TypeDesc) (v : Value)
    (hp : tmps.getD p undef = .pointer (some ⟨g, 0, none⟩)) (hv : tmps.getD u undef = v) (hg : w.heap[g]? = some (.cells cs t fr))
    (hu : P.underlying ty = some d) (hd : (match d with | .struct _ | .array _ _ => true | _ => false) = true) (hi : (P.info? ty).map (·.size) = some cs.size) :
    (results fn tmps).run P w = .ok (.tuple #[.agg cs, v]) w := by
  rw [results_cell_tmp h, hp, hv]
  simp [asAddr, run_loadVar_row w g t ty cs fr d hg hu hd hi, Result.andThen]
end Go.Proofs.YtjjkobbajbbgdaaGreatDoor

namespace Go.Proofs.YtjjkobbajbbgdaaGreatDoor
open Go.RowKit

theorem beVal_cons (d : UInt8) (l : List UInt8) : beVal (d :: l) = d.toNat * 256 ^ l.length + beVal l := by
  have key : ∀ (l : List UInt8) (a : Nat), l.foldl (fun a b => a * 256 + b.toNat) a = a * 256 ^ l.length + l.foldl (fun a b => a * 256 + b.toNat) 0 := by
    intro l
    induction l with
    | nil => intro a; simp
    | cons b l ih =>
      intro a
      simp only [List.foldl_cons, List.length_cons, Nat.zero_mul, Nat.zero_add]
      rw [ih (a * 256 + b.toNat), ih b.toNat, Nat.pow_succ, Nat.add_mul, Nat.mul_assoc, Nat.mul_comm 256 (256 ^ l.length), Nat.add_assoc]
  unfold beVal
  rw [List.foldl_cons, Nat.zero_mul, Nat.zero_add, key l d.toNat]
theorem beVal_lt (l : List UInt8) : beVal l < 256 ^ l.length := by
  have := beVal_take_lt l l.length (Nat.le_refl _)
  rwa [List.take_length] at this
theorem beVal_step (l : List UInt8) (k : Nat) (h : k < l.length) : beVal (l.take (k + 1)) = beVal (l.take k) * 256 + (l[k]).toNat := by
  rw [List.take_succ_eq_append_getElem h, beVal_snoc]
theorem beVal_mono (l : List UInt8) (k m : Nat) (hk : k ≤ m) (hm : m ≤ l.length) : beVal (l.take k) ≤ beVal (l.take m) := by
  obtain ⟨j, rfl⟩ : ∃ j, m = k + j := ⟨m - k, by omega⟩
  induction j with
  | zero => exact Nat.le_refl _
  | succ j ih =>
    refine Nat.le_trans (ih (by omega) (by omega)) ?_
    rw [← Nat.add_assoc, beVal_step l (k + j) (by omega)]; omega
theorem beVal_great (c d : UInt8) (r : List UInt8) (h8 : c.toNat ≤ 8) (h0 : c.toNat ≠ 0) (hl : c.toNat ≤ (d :: r).length) : 9223372036854775807 < beVal ((d :: r).take c.toNat) ↔ c.toNat = 8 ∧ 128 ≤ d.toNat := by
  obtain ⟨n, hn⟩ : ∃ n, n + 1 = c.toNat := ⟨c.toNat - 1, by omega⟩
  rw [← hn] at h8 hl ⊢
  rw [List.take_succ_cons, beVal_cons]
  have hln : (r.take n).length = n := by rw [List.length_take]; simp only [List.length_cons] at hl; omega
  have hb := beVal_lt (r.take n)
  rw [hln] at hb ⊢
  have hd := d.toNat_lt
  by_cases h7 : n = 7
  · subst h7
    have e : (256 : Nat) ^ 7 = 72057594037927936 := by decide
    rw [e] at hb ⊢
    omega
  · have e : (256 : Nat) ^ n ≤ 256 ^ 6 := Nat.pow_le_pow_right (by decide) (by omega)
    have e6 : (256 : Nat) ^ 6 = 281474976710656 := by decide
    rw [e6] at e
    have : d.toNat * 256 ^ n ≤ 256 * 281474976710656 := Nat.mul_le_mul (by omega) e
    omega

end Go.Proofs.YtjjkobbajbbgdaaGreatDoor

namespace Go.Proofs.YtjjkobbajbbgdaaGreatDoor
open Go.RowKit

def tkc (s : List UInt8) (e : Int) : Array Value := #[.string ⟨s.toArray⟩, .int .i64 e]
theorem tkc_one (s : List UInt8) (e : Int) : ∀ v ∈ (tkc s e).toList, v.oneCell' = true := by
  unfold tkc; intro v hv
  simp only [List.mem_cons, List.not_mem_nil, or_false] at hv
  rcases hv with rfl | rfl <;> rfl
theorem numS_err (e most : Int) (h : e ≠ 0) : numS [] e most = (0, [], e) := by
  unfold numS headL failS; simp [h]
theorem rawS_err (e n : Int) (h : e ≠ 0) : rawS [] e n = ([], [], e) := by
  unfold rawS failS; simp [h]
theorem numS_no (s : List UInt8) (most : Int) (h : (headL s).2.2 ≠ 0) : numS s 0 most = (0, [], (headL s).2.2) := by
  unfold numS failS; simp [h]
theorem numS_big (s : List UInt8) (most : Int) (h : (headL s).2.2 = 0) (hm : most < (headL s).1) : numS s 0 most = (0, [], 4) := by
  unfold numS failS; simp [h, hm]
theorem numS_yes (s : List UInt8) (most : Int) (h : (headL s).2.2 = 0) (hm : ¬ most < (headL s).1) : numS s 0 most = (((headL s).1 : Int), s.drop (headL s).2.1, (0 : Int)) := by
  unfold numS; simp [h, hm]
theorem drop_bytes (s : List UInt8) (k n : Nat) (hn : n = s.length) : (ByteArray.mk s.toArray).extract k n = ⟨(s.drop k).toArray⟩ := by
  subst hn
  apply ByteArray.ext
  apply Array.ext'
  simp
  exact List.take_of_length_le (by simp)
theorem take_bytes (s : List UInt8) (k : Nat) : (ByteArray.mk s.toArray).extract 0 k = ⟨(s.take k).toArray⟩ := by
  apply ByteArray.ext
  apply Array.ext'
  simp

end Go.Proofs.YtjjkobbajbbgdaaGreatDoor

namespace Go.Proofs.YtjjkobbajbbgdaaGreatDoor
open Go.RowKit

end Go.Proofs.YtjjkobbajbbgdaaGreatDoor

namespace Go.Proofs.YtjjkobbajbbgdaaGreatDoor
open Go.RowKit

theorem numS_back (x most : Int) (h0 : 0 ≤ x) (hx : x ≤ most) (hm : most ≤ 9223372036854775807) (r : List UInt8) : numS (numL x ++ r) 0 most = (x, r, 0) := by
  obtain ⟨n, rfl⟩ : ∃ n : Nat, x = n := ⟨x.toNat, by omega⟩
  have h := headL_num n (by omega) r
  unfold numS
  rw [h]
  simp only [ne_eq, not_true_eq_false, if_false, List.drop_left]
  rw [if_neg (by omega)]
theorem textS_back (s r : List UInt8) (most : Int) (hm : most ≤ 9223372036854775807) (h : (s.length : Int) ≤ most) : textS (numL s.length ++ (s ++ r)) 0 most = (s, r, 0) := by
  unfold textS
  rw [numS_back _ _ (by omega) (by omega) (by omega)]
  simp only [rawS]
  rw [if_neg (by simp; omega)]
  simp
theorem numS_inv (s : List UInt8) (e m : Int) (h : e ≠ 0 → s = []) : (numS s e m).2.2 ≠ 0 → (numS s e m).2.1 = [] := by
  by_cases he : e = 0
  · subst he
    by_cases hh : (headL s).2.2 = 0
    · by_cases hm : m < (headL s).1
      · rw [numS_big s m hh hm]; intro _; rfl
      · rw [numS_yes s m hh hm]; intro h; exact absurd rfl h
    · rw [numS_no s m hh]; intro _; rfl
  · rw [h he, numS_err e m he]; intro _; rfl
theorem rawS_inv (s : List UInt8) (e n : Int) (h : e ≠ 0 → s = []) : (rawS s e n).2.2 ≠ 0 → (rawS s e n).2.1 = [] := by
  by_cases he : e = 0
  · subst he
    unfold rawS failS
    split
    · simp
    · intro h; exact absurd rfl h
  · rw [h he, rawS_err e n he]; intro _; rfl
theorem beBytes_val : ∀ (l : List UInt8), (∀ d r, l = d :: r → d.toNat ≠ 0) → beBytes (beVal l) = l := by
  intro l
  induction hn : l.length using Nat.strongRecOn generalizing l with
  | _ n ih =>
    intro h
    rcases List.eq_nil_or_concat l with rfl | ⟨L, b, rfl⟩
    · exact beBytes_zero
    · rw [List.concat_eq_append] at hn h ⊢
      rw [beVal_snoc]
      have hb := b.toNat_lt
      have hL : ∀ d r, L = d :: r → d.toNat ≠ 0 := fun d r e => h d (r ++ [b]) (by rw [e]; rfl)
      have hpos : 0 < beVal L * 256 + b.toNat := by
        cases L with
        | nil => have := h b [] rfl; simp only [beVal, List.foldl_nil]; omega
        | cons d r =>
          have hd := hL d r rfl
          rw [beVal_cons]
          have : 0 < d.toNat * 256 ^ r.length := Nat.mul_pos (by omega) (Nat.pow_pos (by decide))
          omega
      rw [beBytes_pos _ hpos, show (beVal L * 256 + b.toNat) / 256 = beVal L by omega, show (beVal L * 256 + b.toNat) % 256 = b.toNat by omega]
      rw [ih L.length (by rw [← hn]; simp) L rfl hL]
      simp
theorem headL_fwd (s : List UInt8) (h : (headL s).2.2 = 0) : s = numL (headL s).1 ++ s.drop (headL s).2.1 := by
  rcases s with _ | ⟨c, r⟩
  · exact absurd h (by unfold headL; decide)
  by_cases h0 : c.toNat = 0
  · have hc : c = 0 := UInt8.toNat_inj.1 h0
    subst hc
    have e : headL (0 :: r) = (0, 1, 0) := by simp [headL]
    rw [e]
    have : numL ((0 : Nat) : Int) = [0] := by unfold numL; rw [Int.toNat_natCast, beBytes_zero]; rfl
    rw [this]; rfl
  by_cases h1 : 8 < c.toNat
  · have e : headL (c :: r) = (0, 0, 3) := by simp [headL, h0, h1]
    rw [e] at h; exact absurd h (by decide)
  rcases r with _ | ⟨d, r⟩
  · have e : headL [c] = (0, 0, 2) := by simp [headL, h0, h1]
    rw [e] at h; exact absurd h (by decide)
  by_cases h2 : d.toNat = 0
  · have e : headL (c :: d :: r) = (0, 0, 3) := by simp [headL, h0, h1, h2]
    rw [e] at h; exact absurd h (by decide)
  by_cases h3 : (d :: r).length < c.toNat
  · have e : headL (c :: d :: r) = (0, 0, 2) := by simp only [headL, if_neg h0, if_neg h1, if_neg h2, if_pos h3]
    rw [e] at h; exact absurd h (by decide)
  by_cases h5 : 9223372036854775807 < beVal ((d :: r).take c.toNat)
  · have e : headL (c :: d :: r) = (0, 0, 3) := by simp only [headL, if_neg h0, if_neg h1, if_neg h2, if_neg h3, if_pos h5]
    rw [e] at h; exact absurd h (by decide)
  have e : headL (c :: d :: r) = (beVal ((d :: r).take c.toNat), c.toNat + 1, 0) := by simp only [headL, if_neg h0, if_neg h1, if_neg h2, if_neg h3, if_neg h5]
  rw [e]
  have hb : beBytes (beVal ((d :: r).take c.toNat)) = (d :: r).take c.toNat := beBytes_val _ (fun d' r' e' => by
    obtain ⟨n, hn⟩ : ∃ n, c.toNat = n + 1 := ⟨c.toNat - 1, by omega⟩
    rw [hn, List.take_succ_cons] at e'
    cases e'; exact h2)
  have hl : ((d :: r).take c.toNat).length = c.toNat := by rw [List.length_take]; omega
  unfold numL
  simp only [Int.toNat_natCast, hb, hl]
  have hc : UInt8.ofNat c.toNat = c := by simp
  rw [hc, List.cons_append, List.drop_succ_cons, List.take_append_drop]
theorem numS_fwd (s : List UInt8) (e m : Int) (h : (numS s e m).2.2 = 0) : e = 0 ∧ s = numL (numS s e m).1 ++ (numS s e m).2.1 := by
  by_cases he : e = 0
  · subst he
    refine ⟨rfl, ?_⟩
    by_cases hh : (headL s).2.2 = 0
    · by_cases hm : m < (headL s).1
      · rw [numS_big s m hh hm] at h; exact absurd h (by decide)
      · rw [numS_yes s m hh hm]; exact headL_fwd s hh
    · rw [numS_no s m hh] at h; exact absurd h hh
  · exfalso
    unfold numS failS at h
    split at h
    · simp only at h; split at h
      · exact he h
      · rename_i h2; simp [he] at h2
    · split at h
      · simp only at h; split at h
        · exact he h
        · rename_i h2; simp [he] at h2
      · exact he h
theorem rawS_fwd (s : List UInt8) (e n : Int) (hn : 0 ≤ n) (h : (rawS s e n).2.2 = 0) : e = 0 ∧ s = (rawS s e n).1 ++ (rawS s e n).2.1 ∧ ((rawS s e n).1.length : Int) = n := by
  unfold rawS failS at h ⊢
  split at h
  · simp only at h
    split at h
    · rename_i h2
      rcases h2 with h2 | h2
      · exact absurd h2 (by decide)
      · exact absurd h h2
    · exact absurd h (by decide)
  · rename_i hc
    rw [if_neg hc]
    refine ⟨h, by simp, ?_⟩
    simp only [List.length_take]
    omega
theorem textS_fwd (s : List UInt8) (e m : Int) (h : (textS s e m).2.2 = 0) : e = 0 ∧ s = numL (textS s e m).1.length ++ ((textS s e m).1 ++ (textS s e m).2.1) := by
  unfold textS at h ⊢
  obtain ⟨h1, h2, h3⟩ := rawS_fwd _ _ _ (numS_lo _ _ _) h
  obtain ⟨h4, h5⟩ := numS_fwd _ _ _ h1
  refine ⟨h4, ?_⟩
  rw [← h2, h3]; exact h5
theorem textS_inv (s : List UInt8) (e m : Int) (h : e ≠ 0 → s = []) : (textS s e m).2.2 ≠ 0 → (textS s e m).2.1 = [] := by
  unfold textS; exact rawS_inv _ _ _ (numS_inv _ _ _ h)

/-- Pairs of ints: entries. -/
def encP : Enc (Int × Int) := ⟨fun e => [.int .i64 e.1, .int .i64 e.2], 2, fun _ => rfl, (fun _ v hv => by simp only [List.mem_cons, List.not_mem_nil, or_false] at hv; rcases hv with rfl | rfl <;> rfl), by decide⟩
theorem Rd.pair {w : World} {ao : Option Addr} {L : List (Int × Int)} (h : Rd encP w ao L) (j : Nat) (hj : j < L.length) : ∃ bs off, ao = some ⟨bs, off, none⟩ ∧ bs < w.heap.size ∧ w.cell? ⟨bs, off + j * 2, none⟩ = some (.int .i64 L[j].1) ∧ w.cell? ⟨bs, off + j * 2 + 1, none⟩ = some (.int .i64 L[j].2) := by
  obtain ⟨bs, off, e, hlt, hc⟩ := h j hj
  exact ⟨bs, off, e, hlt, hc 0 _ rfl, hc 1 _ rfl⟩
theorem Rd.int {w : World} {ao : Option Addr} {L : List Int} (h : Rd encI w ao L) (j : Nat) (hj : j < L.length) : ∃ bs off, ao = some ⟨bs, off, none⟩ ∧ bs < w.heap.size ∧ w.cell? ⟨bs, off + j, none⟩ = some (.int .i64 L[j]) := by
  obtain ⟨bs, off, e, hlt, hc⟩ := h j hj
  exact ⟨bs, off, e, hlt, by have := hc 0 _ rfl; simpa [encI] using this⟩
/-- What an int may be. -/
def I64 (x : Int) : Prop := -9223372036854775808 ≤ x ∧ x ≤ 9223372036854775807

/-- A certificate. -/
structure Ct where
  inst : Int
  base : List UInt8
  fin : List UInt8
  sg : List Int
  ch : List (Int × Int)
/-- Its cells. -/
def ctc (c : Ct) (p q : Option Addr) (cp cq : Nat) : Array Value := #[.int .i64 c.inst, .string ⟨c.base.toArray⟩, .string ⟨c.fin.toArray⟩, .slice p c.sg.length cp, .slice q c.ch.length cq]
theorem ctc_one (c : Ct) (p q : Option Addr) (cp cq : Nat) : ∀ v ∈ (ctc c p q cp cq).toList, v.oneCell' = true := by
  unfold ctc; intro v hv
  simp only [List.mem_cons, List.not_mem_nil, or_false] at hv
  rcases hv with rfl | rfl | rfl | rfl | rfl <;> rfl
/-- Its lists lie there. -/
def CtAt (w : World) (c : Ct) (p q : Option Addr) : Prop := Rd encI w p c.sg ∧ Rd encP w q c.ch
theorem CtAt.old {w w' : World} {c : Ct} {p q : Option Addr} (h : CtAt w c p q) (hb : Below w.heap.size w w') : CtAt w' c p q := ⟨h.1.old hb, h.2.old hb⟩

/-- Do entries rise behind p, with miners and powers that may be? -/
def good (least : Int) : Int → List (Int × Int) → Bool
  | _, [] => true
  | p, e :: r => decide (p < e.1 ∧ e.1 < 64 ∧ least ≤ e.2 ∧ e.2 ≤ 1099511627776) && good least e.1 r
/-- The miner ahead of the i-th. -/
def bef (E : List (Int × Int)) (i : Nat) : Int := if i = 0 then -1 else (E.getD (i - 1) (0, 0)).1
def goodI (least : Int) (E : List (Int × Int)) (i : Nat) : Bool := decide (bef E i < (E.getD i (0, 0)).1 ∧ (E.getD i (0, 0)).1 < 64 ∧ least ≤ (E.getD i (0, 0)).2 ∧ (E.getD i (0, 0)).2 ≤ 1099511627776)
theorem good_drop (least : Int) (E : List (Int × Int)) : ∀ (k i : Nat), E.length - i = k → i ≤ E.length → good least (bef E i) (E.drop i) = (List.range' i (E.length - i)).all (goodI least E) := by
  intro k
  induction k with
  | zero =>
    intro i hk hi
    have e : i = E.length := by omega
    rw [e, List.drop_length, Nat.sub_self]; rfl
  | succ k ih =>
    intro i hk hi
    have hlt : i < E.length := by omega
    rw [List.drop_eq_getElem_cons hlt, show E.length - i = (E.length - (i + 1)) + 1 by omega, List.range'_succ, List.all_cons, ← ih (i + 1) (by omega) (by omega)]
    have hg : E.getD i (0, 0) = E[i] := by rw [List.getD_eq_getElem?_getD, List.getElem?_eq_getElem hlt]; rfl
    show (decide (bef E i < E[i].1 ∧ _) && good least E[i].1 _) = _
    unfold goodI
    rw [hg, show bef E (i + 1) = E[i].1 by unfold bef; rw [if_neg (by omega), Nat.add_sub_cancel, hg]]
theorem good_at {least : Int} {E : List (Int × Int)} : good least (-1) E = true ↔ ∀ i, i < E.length → goodI least E i = true := by
  have h := good_drop least E _ 0 rfl (Nat.zero_le _)
  rw [List.drop_zero, show bef E 0 = -1 from rfl] at h
  rw [h, List.all_eq_true]
  simp only [List.mem_range'_1]
  exact ⟨fun h i hi => h i ⟨Nat.zero_le _, by omega⟩, fun h i hi => h i (by omega)⟩
theorem good_no {least : Int} {E : List (Int × Int)} {i : Nat} (hi : i < E.length) (h : goodI least E i = false) : good least (-1) E = false := by
  cases hg : good least (-1) E with
  | false => rfl
  | true => rw [good_at.1 hg i hi] at h; cases h
theorem good_yes {least : Int} {E : List (Int × Int)} (h : ∀ i, i < E.length → goodI least E i = true) : good least (-1) E = true := good_at.2 h
/-- Do signers rise behind p, as miners? -/
def rise : Int → List Int → Bool
  | _, [] => true
  | p, m :: r => decide (p < m ∧ m < 64) && rise m r
def befS (S : List Int) (i : Nat) : Int := if i = 0 then -1 else S.getD (i - 1) 0
def riseI (S : List Int) (i : Nat) : Bool := decide (befS S i < S.getD i 0 ∧ S.getD i 0 < 64)
theorem rise_drop (E : List Int) : ∀ (k i : Nat), E.length - i = k → i ≤ E.length → rise (befS E i) (E.drop i) = (List.range' i (E.length - i)).all (riseI E) := by
  intro k
  induction k with
  | zero =>
    intro i hk hi
    have e : i = E.length := by omega
    rw [e, List.drop_length, Nat.sub_self]; rfl
  | succ k ih =>
    intro i hk hi
    have hlt : i < E.length := by omega
    rw [List.drop_eq_getElem_cons hlt, show E.length - i = (E.length - (i + 1)) + 1 by omega, List.range'_succ, List.all_cons, ← ih (i + 1) (by omega) (by omega)]
    have hg : E.getD i 0 = E[i] := by rw [List.getD_eq_getElem?_getD, List.getElem?_eq_getElem hlt]; rfl
    show (decide (befS E i < E[i] ∧ _) && rise E[i] _) = _
    unfold riseI
    rw [hg, show befS E (i + 1) = E[i] by unfold befS; rw [if_neg (by omega), Nat.add_sub_cancel, hg]]
theorem rise_at {E : List Int} : rise (-1) E = true ↔ ∀ i, i < E.length → riseI E i = true := by
  have h := rise_drop E _ 0 rfl (Nat.zero_le _)
  rw [List.drop_zero, show befS E 0 = -1 from rfl] at h
  rw [h, List.all_eq_true]
  simp only [List.mem_range'_1]
  exact ⟨fun h i hi => h i ⟨Nat.zero_le _, by omega⟩, fun h i hi => h i (by omega)⟩
theorem rise_no {E : List Int} {i : Nat} (hi : i < E.length) (h : riseI E i = false) : rise (-1) E = false := by
  cases hg : rise (-1) E with
  | false => rfl
  | true => rw [rise_at.1 hg i hi] at h; cases h
theorem rise_yes {E : List Int} (h : ∀ i, i < E.length → riseI E i = true) : rise (-1) E = true := rise_at.2 h
/-- May the certificate be? -/
def ck (c : Ct) : Int := if 64 < c.sg.length ∨ 64 < c.ch.length then 4 else if c.inst < 0 ∨ 1073741824 < c.inst ∨ nmsOk c.base = false ∨ nmsOk c.fin = false ∨ good 0 (-1) c.ch = false ∨ rise (-1) c.sg = false then 1 else 0
/-- One that may be. -/
structure CtOk (c : Ct) : Prop where
  ns : c.sg.length ≤ 64
  nc : c.ch.length ≤ 64
  i0 : 0 ≤ c.inst
  i1 : c.inst ≤ 1073741824
  kb : nmsOk c.base = true
  kf : nmsOk c.fin = true
  g : good 0 (-1) c.ch = true
  r : rise (-1) c.sg = true
theorem ck_ok {c : Ct} : ck c = 0 ↔ CtOk c := by
  unfold ck
  constructor
  · intro h
    by_cases h1 : 64 < c.sg.length ∨ 64 < c.ch.length
    · rw [if_pos h1] at h; cases h
    · rw [if_neg h1] at h
      by_cases h2 : c.inst < 0 ∨ 1073741824 < c.inst ∨ nmsOk c.base = false ∨ nmsOk c.fin = false ∨ good 0 (-1) c.ch = false ∨ rise (-1) c.sg = false
      · rw [if_pos h2] at h; cases h
      · simp only [not_or, Bool.not_eq_false] at h1 h2
        exact ⟨by omega, by omega, by omega, by omega, h2.2.2.1, h2.2.2.2.1, h2.2.2.2.2.1, h2.2.2.2.2.2⟩
  · rintro ⟨a, b, c0, d, e, f, g, h⟩
    rw [if_neg (by omega), if_neg (by rw [e, f, g, h]; simp; omega)]
theorem CtOk.key {K : List UInt8} (h : nmsOk K = true) : K.length ≤ 160 := by
  unfold nmsOk at h
  rw [Bool.and_eq_true, decide_eq_true_eq] at h
  omega
theorem good_mem {least p : Int} : ∀ {E : List (Int × Int)}, good least p E = true → -1 ≤ p → ∀ e ∈ E, 0 ≤ e.1 ∧ e.1 < 64 ∧ least ≤ e.2 ∧ e.2 ≤ 1099511627776 := by
  intro E
  induction E generalizing p with
  | nil => intro _ _ e he; simp at he
  | cons x r ih =>
    intro h hp e he
    unfold good at h
    rw [Bool.and_eq_true, decide_eq_true_eq] at h
    rcases List.mem_cons.1 he with rfl | he
    · omega
    · exact ih h.2 (by omega) e he
theorem rise_mem {p : Int} : ∀ {S : List Int}, rise p S = true → -1 ≤ p → ∀ m ∈ S, 0 ≤ m ∧ m < 64 := by
  intro E
  induction E generalizing p with
  | nil => intro _ _ e he; simp at he
  | cons x r ih =>
    intro h hp e he
    unfold rise at h
    rw [Bool.and_eq_true, decide_eq_true_eq] at h
    rcases List.mem_cons.1 he with rfl | he
    · omega
    · exact ih h.2 (by omega) e he
/-- The bytes of numbers, of entries, of a certificate. -/
def sB (S : List Int) : List UInt8 := S.flatMap numL
def eB (E : List (Int × Int)) : List UInt8 := E.flatMap fun e => numL e.1 ++ numL e.2
def ctB (c : Ct) : List UInt8 := numL c.inst ++ (numL c.base.length ++ c.base) ++ (numL c.fin.length ++ c.fin) ++ numL c.sg.length ++ sB c.sg ++ numL c.ch.length ++ eB c.ch
theorem sB_take (S : List Int) (i : Nat) (h : i < S.length) : sB (S.take (i + 1)) = sB (S.take i) ++ numL S[i] := by
  unfold sB; rw [List.take_succ_eq_append_getElem h, List.flatMap_append]; simp
theorem eB_take (S : List (Int × Int)) (i : Nat) (h : i < S.length) : eB (S.take (i + 1)) = eB (S.take i) ++ (numL S[i].1 ++ numL S[i].2) := by
  unfold eB; rw [List.take_succ_eq_append_getElem h, List.flatMap_append]; simp
theorem sB_len (S : List Int) (h : ∀ x ∈ S, x ≤ 18446744073709551615) : (sB S).length ≤ 9 * S.length := by
  induction S with
  | nil => simp [sB]
  | cons x l ih =>
    have h1 := numL_len x (h x (by simp))
    have h2 := ih (fun y hy => h y (by simp [hy]))
    rw [show sB (x :: l) = numL x ++ sB l by simp [sB], List.length_append, List.length_cons]; omega
theorem eB_len (S : List (Int × Int)) (h : ∀ x ∈ S, x.1 ≤ 18446744073709551615 ∧ x.2 ≤ 18446744073709551615) : (eB S).length ≤ 18 * S.length := by
  induction S with
  | nil => simp [eB]
  | cons x l ih =>
    have h1 := numL_len x.1 (h x (by simp)).1
    have h1' := numL_len x.2 (h x (by simp)).2
    have h2 := ih (fun y hy => h y (by simp [hy]))
    rw [show eB (x :: l) = numL x.1 ++ numL x.2 ++ eB l by simp [eB], List.length_append, List.length_append, List.length_cons]; omega
theorem ctB_len {c : Ct} (h : CtOk c) : (ctB c).length ≤ 4000 := by
  have h1 := numL_len c.inst (by have := h.i1; omega)
  have kb := CtOk.key h.kb
  have kf := CtOk.key h.kf
  have h2 := numL_len (c.base.length : Int) (by omega)
  have h3 := numL_len (c.fin.length : Int) (by omega)
  have ns := h.ns
  have nc := h.nc
  have h4 := numL_len (c.sg.length : Int) (by omega)
  have h5 := numL_len (c.ch.length : Int) (by omega)
  have h6 := sB_len c.sg (fun x hx => by have := rise_mem h.r (by decide) x hx; omega)
  have h7 := eB_len c.ch (fun x hx => by have := good_mem h.g (by decide) x hx; omega)
  unfold ctB
  simp only [List.length_append]
  omega

/-- Numbers that are taken. -/
def intS : Nat → List UInt8 → Int → List Int × List UInt8 × Int
  | 0, s, e => ([], s, e)
  | k + 1, s, e => ((intS k s e).1 ++ [(numS (intS k s e).2.1 (intS k s e).2.2 4611686018427387904).1], (numS (intS k s e).2.1 (intS k s e).2.2 4611686018427387904).2)
theorem intS_len (k : Nat) (s : List UInt8) (e : Int) : (intS k s e).1.length = k := by
  induction k with
  | zero => rfl
  | succ k ih => simp [intS, ih]
theorem intS_short (k : Nat) (s : List UInt8) (e : Int) : (intS k s e).2.1.length ≤ s.length := by
  induction k with
  | zero => exact Nat.le_refl _
  | succ k ih => exact Nat.le_trans (numS_len _ _ _) ih
theorem intS_inv (k : Nat) (s : List UInt8) (e : Int) (h : e ≠ 0 → s = []) : (intS k s e).2.2 ≠ 0 → (intS k s e).2.1 = [] := by
  induction k with
  | zero => exact h
  | succ k ih => exact numS_inv _ _ _ ih
theorem sB_snoc (S : List Int) (x : Int) : sB (S ++ [x]) = sB S ++ numL x := by simp [sB]
theorem eB_snoc (S : List (Int × Int)) (x : Int × Int) : eB (S ++ [x]) = eB S ++ (numL x.1 ++ numL x.2) := by simp [eB]
theorem intS_fwd (k : Nat) (s : List UInt8) (e : Int) (h : (intS k s e).2.2 = 0) : e = 0 ∧ s = sB (intS k s e).1 ++ (intS k s e).2.1 := by
  induction k with
  | zero => exact ⟨h, rfl⟩
  | succ k ih =>
    obtain ⟨h1, h2⟩ := numS_fwd _ _ _ h
    obtain ⟨h3, h4⟩ := ih h1
    refine ⟨h3, ?_⟩
    show s = sB ((intS k s e).1 ++ [_]) ++ _
    rw [sB_snoc, List.append_assoc]
    refine h4.trans ?_
    congr 1
theorem sB_drop (S : List Int) (k : Nat) (h : k < S.length) : sB (S.drop k) = numL S[k] ++ sB (S.drop (k + 1)) := by
  rw [List.drop_eq_getElem_cons h]; unfold sB; rw [List.flatMap_cons]
theorem eB_drop (S : List (Int × Int)) (k : Nat) (h : k < S.length) : eB (S.drop k) = (numL S[k].1 ++ numL S[k].2) ++ eB (S.drop (k + 1)) := by
  rw [List.drop_eq_getElem_cons h]; unfold eB; rw [List.flatMap_cons]
theorem intS_back (S : List Int) (r : List UInt8) (h : ∀ x ∈ S, 0 ≤ x ∧ x ≤ 4611686018427387904) : ∀ k, k ≤ S.length → intS k (sB S ++ r) 0 = (S.take k, sB (S.drop k) ++ r, 0) := by
  intro k
  induction k with
  | zero => intro _; rfl
  | succ k ih =>
    intro hk
    have hx := h S[k] (List.getElem_mem (by omega))
    have e := ih (by omega)
    unfold intS
    rw [e]
    simp only
    rw [sB_drop S k (by omega), List.append_assoc, numS_back _ _ hx.1 hx.2 (by omega), List.take_succ_eq_append_getElem (by omega : k < S.length)]
/-- Entries that are taken. -/
def prS : Nat → List UInt8 → Int → List (Int × Int) × List UInt8 × Int
  | 0, s, e => ([], s, e)
  | k + 1, s, e =>
    let a := numS (prS k s e).2.1 (prS k s e).2.2 4611686018427387904
    let b := numS a.2.1 a.2.2 4611686018427387904
    ((prS k s e).1 ++ [(a.1, b.1)], b.2)
theorem prS_len (k : Nat) (s : List UInt8) (e : Int) : (prS k s e).1.length = k := by
  induction k with
  | zero => rfl
  | succ k ih => simp [prS, ih]
theorem prS_short (k : Nat) (s : List UInt8) (e : Int) : (prS k s e).2.1.length ≤ s.length := by
  induction k with
  | zero => exact Nat.le_refl _
  | succ k ih => exact Nat.le_trans (numS_len _ _ _) (Nat.le_trans (numS_len _ _ _) ih)
theorem prS_inv (k : Nat) (s : List UInt8) (e : Int) (h : e ≠ 0 → s = []) : (prS k s e).2.2 ≠ 0 → (prS k s e).2.1 = [] := by
  induction k with
  | zero => exact h
  | succ k ih => exact numS_inv _ _ _ (numS_inv _ _ _ ih)
theorem prS_fwd (k : Nat) (s : List UInt8) (e : Int) (h : (prS k s e).2.2 = 0) : e = 0 ∧ s = eB (prS k s e).1 ++ (prS k s e).2.1 := by
  induction k with
  | zero => exact ⟨h, rfl⟩
  | succ k ih =>
    obtain ⟨h1, h2⟩ := numS_fwd _ _ _ h
    obtain ⟨h3, h4⟩ := numS_fwd _ _ _ h1
    obtain ⟨h5, h6⟩ := ih h3
    refine ⟨h5, ?_⟩
    show s = eB ((prS k s e).1 ++ [_]) ++ _
    rw [eB_snoc, List.append_assoc]
    refine h6.trans ?_
    rw [List.append_assoc]
    congr 1
    refine h4.trans ?_
    congr 1
theorem prS_back (S : List (Int × Int)) (r : List UInt8) (h : ∀ x ∈ S, (0 ≤ x.1 ∧ x.1 ≤ 4611686018427387904) ∧ 0 ≤ x.2 ∧ x.2 ≤ 4611686018427387904) : ∀ k, k ≤ S.length → prS k (eB S ++ r) 0 = (S.take k, eB (S.drop k) ++ r, 0) := by
  intro k
  induction k with
  | zero => intro _; rfl
  | succ k ih =>
    intro hk
    have hx := h S[k] (List.getElem_mem (by omega))
    have e := ih (by omega)
    unfold prS
    rw [e]
    simp only
    rw [eB_drop S k (by omega), List.append_assoc, List.append_assoc, numS_back _ _ hx.1.1 hx.1.2 (by omega)]
    simp only
    rw [numS_back _ _ hx.2.1 hx.2.2 (by omega), List.take_succ_eq_append_getElem (by omega : k < S.length)]
/-- A certificate that is taken, and what is left. -/
def takeC (s : List UInt8) : Ct × List UInt8 × Int :=
  let a := numS s 0 4611686018427387904
  let b := textS a.2.1 a.2.2 160
  let c := textS b.2.1 b.2.2 160
  let n := numS c.2.1 c.2.2 64
  let S := intS n.1.toNat n.2.1 n.2.2
  let m := numS S.2.1 S.2.2 64
  let E := prS m.1.toNat m.2.1 m.2.2
  (⟨a.1, b.1, c.1, S.1, E.1⟩, E.2)
theorem takeC_inv (s : List UInt8) : (takeC s).2.2 ≠ 0 → (takeC s).2.1 = [] :=
  prS_inv _ _ _ (numS_inv _ _ _ (intS_inv _ _ _ (numS_inv _ _ _ (textS_inv _ _ _ (textS_inv _ _ _ (numS_inv _ _ _ (fun h => absurd rfl h)))))))
theorem takeC_few (s : List UInt8) : (takeC s).1.sg.length ≤ 64 ∧ (takeC s).1.ch.length ≤ 64 := by
  have h1 : ∀ (s : List UInt8) (e : Int), (numS s e 64).1.toNat ≤ 64 := fun s e => by have := numS_hi s e 64 (by decide); omega
  constructor
  · show (intS _ _ _).1.length ≤ 64
    rw [intS_len]; exact h1 _ _
  · show (prS _ _ _).1.length ≤ 64
    rw [prS_len]; exact h1 _ _
theorem rawS_fit (s : List UInt8) (e n : Int) : (rawS s e n).1.length ≤ s.length := by
  unfold rawS; split
  · simp
  · simp only [List.length_take]; omega
theorem takeC_lens (s : List UInt8) (h : s.length ≤ 1000000) : (takeC s).1.base.length ≤ 1000000 ∧ (takeC s).1.fin.length ≤ 1000000 := by
  constructor
  · show (textS _ _ _).1.length ≤ 1000000
    exact Nat.le_trans (rawS_fit _ _ _) (Nat.le_trans (numS_len _ _ _) (Nat.le_trans (numS_len _ _ _) h))
  · show (textS _ _ _).1.length ≤ 1000000
    exact Nat.le_trans (rawS_fit _ _ _) (Nat.le_trans (numS_len _ _ _) (Nat.le_trans (textS_len _ _ _) (Nat.le_trans (numS_len _ _ _) h)))
theorem takeC_fwd (s : List UInt8) (he : (takeC s).2.2 = 0) (hr : (takeC s).2.1 = []) : ctB (takeC s).1 = s := by
  obtain ⟨a, ha⟩ : ∃ a, a = numS s 0 4611686018427387904 := ⟨_, rfl⟩
  obtain ⟨b, hb⟩ : ∃ b, b = textS a.2.1 a.2.2 160 := ⟨_, rfl⟩
  obtain ⟨c, hc⟩ : ∃ c, c = textS b.2.1 b.2.2 160 := ⟨_, rfl⟩
  obtain ⟨n, hn⟩ : ∃ n, n = numS c.2.1 c.2.2 64 := ⟨_, rfl⟩
  obtain ⟨S, hS⟩ : ∃ S, S = intS n.1.toNat n.2.1 n.2.2 := ⟨_, rfl⟩
  obtain ⟨m, hm⟩ : ∃ m, m = numS S.2.1 S.2.2 64 := ⟨_, rfl⟩
  obtain ⟨E, hE⟩ : ∃ E, E = prS m.1.toNat m.2.1 m.2.2 := ⟨_, rfl⟩
  have ht : takeC s = (⟨a.1, b.1, c.1, S.1, E.1⟩, E.2) := by rw [hE, hm, hS, hn, hc, hb, ha]; rfl
  rw [ht] at he hr ⊢
  simp only at he hr ⊢
  obtain ⟨e6, f6⟩ := prS_fwd m.1.toNat m.2.1 m.2.2 (by rw [← hE]; exact he)
  obtain ⟨e5, f5⟩ := numS_fwd S.2.1 S.2.2 64 (by rw [← hm]; exact e6)
  obtain ⟨e4, f4⟩ := intS_fwd n.1.toNat n.2.1 n.2.2 (by rw [← hS]; exact e5)
  obtain ⟨e3, f3⟩ := numS_fwd c.2.1 c.2.2 64 (by rw [← hn]; exact e4)
  obtain ⟨e2, f2⟩ := textS_fwd b.2.1 b.2.2 160 (by rw [← hc]; exact e3)
  obtain ⟨e1, f1⟩ := textS_fwd a.2.1 a.2.2 160 (by rw [← hb]; exact e2)
  obtain ⟨-, f0⟩ := numS_fwd s 0 4611686018427387904 (by rw [← ha]; exact e1)
  rw [← ha] at f0; rw [← hb] at f1; rw [← hc] at f2; rw [← hn] at f3; rw [← hS] at f4; rw [← hm] at f5; rw [← hE] at f6
  have ln : (S.1.length : Int) = n.1 := by
    have h0 := numS_lo c.2.1 c.2.2 64
    rw [← hn] at h0
    rw [hS, intS_len]; omega
  have lm : (E.1.length : Int) = m.1 := by
    have h0 := numS_lo S.2.1 S.2.2 64
    rw [← hm] at h0
    rw [hE, prS_len]; omega
  unfold ctB
  simp only
  rw [ln, lm, f0, f1, f2, f3, f4, f5, f6, hr]
  simp [List.append_assoc]
theorem takeC_back {c : Ct} (h : CtOk c) : takeC (ctB c) = (c, [], 0) := by
  obtain ⟨inst, base, fin, sg, ch⟩ := c
  obtain ⟨ns, nc, i0, i1, kb, kf, hg, hr⟩ := h
  simp only at *
  have kb := CtOk.key kb
  have kf := CtOk.key kf
  have e0 : ctB ⟨inst, base, fin, sg, ch⟩ = numL inst ++ (numL base.length ++ (base ++ (numL fin.length ++ (fin ++ (numL sg.length ++ (sB sg ++ (numL ch.length ++ (eB ch ++ [])))))))) := by
    simp [ctB, List.append_assoc]
  have a1 := numS_back inst 4611686018427387904 i0 (by omega) (by omega) (numL base.length ++ (base ++ (numL fin.length ++ (fin ++ (numL sg.length ++ (sB sg ++ (numL ch.length ++ (eB ch ++ []))))))))
  have a2 := textS_back base (numL fin.length ++ (fin ++ (numL sg.length ++ (sB sg ++ (numL ch.length ++ (eB ch ++ [])))))) 160 (by omega) (by omega)
  have a3 := textS_back fin (numL sg.length ++ (sB sg ++ (numL ch.length ++ (eB ch ++ [])))) 160 (by omega) (by omega)
  have a4 := numS_back (sg.length : Int) 64 (by omega) (by omega) (by omega) (sB sg ++ (numL ch.length ++ (eB ch ++ [])))
  have a5 := intS_back sg (numL ch.length ++ (eB ch ++ [])) (fun x hx => by have := rise_mem hr (by decide) x hx; omega) sg.length (Nat.le_refl _)
  have a6 := numS_back (ch.length : Int) 64 (by omega) (by omega) (by omega) (eB ch ++ [])
  have a7 := prS_back ch [] (fun x hx => by have := good_mem hg (by decide) x hx; omega) ch.length (Nat.le_refl _)
  rw [List.take_length, List.drop_length] at a5 a7
  unfold takeC
  rw [e0]
  simp only [a1, a2, a3, a4, Int.toNat_natCast, a5, show sB [] = [] from rfl, List.nil_append, a6, a7, show eB [] = [] from rfl]
/-- What Parse answers: the error, the certificate. -/
def parE (s : List UInt8) : Int := if (takeC s).2.2 = 0 then (if (takeC s).2.1 = [] then ck (takeC s).1 else 3) else (takeC s).2.2
def zct : Ct := ⟨0, [], [], [], []⟩
def parC (s : List UInt8) : Ct := if parE s = 0 then (takeC s).1 else zct
theorem parE_ok {s : List UInt8} (h : parE s = 0) : CtOk (takeC s).1 ∧ ctB (takeC s).1 = s := by
  unfold parE at h
  by_cases h1 : (takeC s).2.2 = 0
  · rw [if_pos h1] at h
    by_cases h2 : (takeC s).2.1 = []
    · rw [if_pos h2] at h; exact ⟨ck_ok.1 h, takeC_fwd s h1 h2⟩
    · rw [if_neg h2] at h; cases h
  · rw [if_neg h1] at h; exact absurd h h1
theorem par_back {c : Ct} (h : CtOk c) : parE (ctB c) = 0 ∧ parC (ctB c) = c := by
  have e : parE (ctB c) = 0 := by
    unfold parE; rw [takeC_back h]; simp only [if_true]; exact ck_ok.2 h
  refine ⟨e, ?_⟩
  unfold parC; rw [if_pos e, takeC_back h]
theorem ctB_inj {c d : Ct} (hc : CtOk c) (hd : CtOk d) (h : ctB c = ctB d) : c = d := by
  have h1 := (par_back hc).2
  rw [h, (par_back hd).2] at h1
  exact h1.symm
end Go.Proofs.YtjjkobbajbbgdaaGreatDoor

namespace Go.Proofs.YtjjkobbajbbgdaaGreatDoor
open Go.RowKit

theorem goodI_iff {least : Int} {E : List (Int × Int)} {i : Nat} (hi : i < E.length) : goodI least E i = true ↔ bef E i < E[i].1 ∧ E[i].1 < 64 ∧ least ≤ E[i].2 ∧ E[i].2 ≤ 1099511627776 := by
  unfold goodI
  rw [show E.getD i (0, 0) = E[i] by rw [List.getD_eq_getElem?_getD, List.getElem?_eq_getElem hi]; rfl, decide_eq_true_iff]
theorem bef_succ {E : List (Int × Int)} {i : Nat} (hi : i < E.length) : bef E (i + 1) = E[i].1 := by
  unfold bef; rw [if_neg (by omega), Nat.add_sub_cancel, show E.getD i (0, 0) = E[i] by rw [List.getD_eq_getElem?_getD, List.getElem?_eq_getElem hi]; rfl]
theorem riseI_iff {E : List Int} {i : Nat} (hi : i < E.length) : riseI E i = true ↔ befS E i < E[i] ∧ E[i] < 64 := by
  unfold riseI
  rw [show E.getD i 0 = E[i] by rw [List.getD_eq_getElem?_getD, List.getElem?_eq_getElem hi]; rfl, decide_eq_true_iff]
theorem befS_succ {E : List Int} {i : Nat} (hi : i < E.length) : befS E (i + 1) = E[i] := by
  unfold befS; rw [if_neg (by omega), Nat.add_sub_cancel, show E.getD i 0 = E[i] by rw [List.getD_eq_getElem?_getD, List.getElem?_eq_getElem hi]; rfl]
/-- The first i are good. -/
def Gi (least : Int) (E : List (Int × Int)) (i : Nat) : Prop := ∀ j, j < i → goodI least E j = true
theorem Gi.next {least : Int} {E : List (Int × Int)} {i : Nat} (h : Gi least E i) (h2 : goodI least E i = true) : Gi least E (i + 1) := fun j hj => by
  rcases Nat.lt_or_ge j i with h3 | h3
  · exact h j h3
  · have : j = i := by omega
    rw [this]; exact h2
def Gs (E : List Int) (i : Nat) : Prop := ∀ j, j < i → riseI E j = true
theorem Gs.next {E : List Int} {i : Nat} (h : Gs E i) (h2 : riseI E i = true) : Gs E (i + 1) := fun j hj => by
  rcases Nat.lt_or_ge j i with h3 | h3
  · exact h j h3
  · have : j = i := by omega
    rw [this]; exact h2

set_option maxRecDepth 20000 in
set_option maxHeartbeats 4000000 in
theorem pmay_any (ao : Option Addr) (cap : Nat) (least : Int) (E : List (Int × Int)) (w : World) (hS : Rd encP w ao E) (hl : E.length ≤ 1000000) :
    Calls Tryz.prog 16 #[.slice ao E.length cap, .int .i64 least] w fun r w' => r = .returned (.bool (good least (-1) E)) ∧ Below w.heap.size w w' := by
  obtain ⟨res, hres⟩ : ∃ r, r = good least (-1) E := ⟨_, rfl⟩
  obtain ⟨n, hn⟩ : ∃ n, E.length = n := ⟨_, rfl⟩
  rw [hn] at hl ⊢
  rw [← hres]
  have HR := Lib.hid hres
  have Hn := Lib.hid hn
  have HS := Lib.hid hS
  clear hn hS hres
  go_enter Tryz.func16, Tryz.ntmps16
  go_wp2_with fail
  go_loopw [5, 10] (fun s5 s10 wr => ∃ i : Nat, i ≤ n ∧ s5 = .int .i64 (bef E i) ∧ s10 = .int .i64 (i : Int) ∧ Hid (Gi least E i ∧ Below w.heap.size w wr)) (fun _ i _ => n - (intOf i).toNat)
  case atStart => exact ⟨0, by omega, rfl, rfl, Lib.hid ⟨(fun j hj => by omega), Below.refl _ _⟩⟩
  case round =>
    obtain ⟨i, hi, rfl, rfl, hG⟩ := hrel
    by_cases hin : i < n
    · have hil : i < E.length := by rw [Hn.out]; exact hin
      obtain ⟨bs, off, rfl, hbs, c1, c2⟩ := (HS.out.old hG.out.2).pair i hil
      have hif := goodI_iff (least := least) hil
      have hno := Lib.hid (fun h => good_no (least := least) hil h)
      have hbs2 := bef_succ hil
      obtain ⟨m, hm0⟩ : ∃ m, m = E[i].1 := ⟨_, rfl⟩
      obtain ⟨p, hp0⟩ : ∃ m, m = E[i].2 := ⟨_, rfl⟩
      obtain ⟨z, hz⟩ : ∃ z, z = bef E i := ⟨_, rfl⟩
      rw [← hm0] at c1 hbs2
      rw [← hp0] at c2
      rw [← hm0, ← hp0, ← hz] at hif
      rw [← hz]
      have HB := Lib.hid hbs2
      have HI := Lib.hid hif
      have HF : Hid (¬ (z < m ∧ m < 64 ∧ least ≤ p ∧ p ≤ 1099511627776) → res = false) := Lib.hid (fun h => by
        rw [HR.out]
        refine hno.out ?_
        cases hg : goodI least E i with
        | false => rfl
        | true => exact absurd (hif.1 hg) h)
      have i1 : (i : Int) < n := by omega
      have i0 : (0 : Int) ≤ i := by omega
      have HB2 : Hid (Below w.heap.size w (wr.alloc (.cells #[.int .i64 m, .int .i64 p] 31))) := Lib.hid (hG.out.2.alloc hG.out.2.size _)
      have HG := Lib.hid hG.out.1
      clear hbs2 hm0 hp0 hz hG hif hno
      by_cases b1 : m ≤ z
      · obtain rfl := HF.out (by omega)
        go_wp2_with fail
        go_ret
        exact ⟨rfl, HB2.out⟩
      · by_cases b2 : (64 : Int) ≤ m
        · obtain rfl := HF.out (by omega)
          go_wp2_with fail
          go_ret
          exact ⟨rfl, HB2.out⟩
        · by_cases b3 : p < least
          · obtain rfl := HF.out (by omega)
            go_wp2_with fail
            go_ret
            exact ⟨rfl, HB2.out⟩
          · by_cases b4 : (1099511627776 : Int) < p
            · obtain rfl := HF.out (by omega)
              go_wp2_with fail
              go_ret
              exact ⟨rfl, HB2.out⟩
            · have hgn : Hid (Gi least E (i + 1)) := Lib.hid (HG.out.next (HI.out.2 ⟨by omega, by omega, by omega, by omega⟩))
              clear HI
              have b2' : m < 64 := by omega
              go_wp2_with fail
              go_roundw
              case rel => exact ⟨i + 1, by omega, by rw [HB.out], by go_num, Lib.hid ⟨hgn.out, HB2.out⟩⟩
              case measure => simp [intOf]; omega
    · have e : i = n := by omega
      have i1 : ¬ (i : Int) < n := by omega
      have HT : Hid (res = true) := Lib.hid (by rw [HR.out]; exact good_yes (by rw [Hn.out, ← e]; exact hG.out.1))
      have HB := Lib.hid hG.out.2
      obtain rfl := HT.out
      clear hG
      go_wp2_with fail
      go_ret
      exact ⟨rfl, HB.out⟩

set_option maxRecDepth 20000 in
set_option maxHeartbeats 4000000 in
theorem krising_any (ao : Option Addr) (cap : Nat) (E : List Int) (w : World) (hS : Rd encI w ao E) (hl : E.length ≤ 1000000) :
    Calls Tryz.prog 40 #[.slice ao E.length cap] w fun r w' => r = .returned (.bool (rise (-1) E)) ∧ Below w.heap.size w w' := by
  obtain ⟨res, hres⟩ : ∃ r, r = rise (-1) E := ⟨_, rfl⟩
  obtain ⟨n, hn⟩ : ∃ n, E.length = n := ⟨_, rfl⟩
  rw [hn] at hl ⊢
  rw [← hres]
  have HR := Lib.hid hres
  have Hn := Lib.hid hn
  have HS := Lib.hid hS
  clear hn hS hres
  go_enter Tryz.func40, Tryz.ntmps40
  go_wp2_with fail
  go_loopw [3, 8] (fun s5 s10 wr => ∃ i : Nat, i ≤ n ∧ s5 = .int .i64 (befS E i) ∧ s10 = .int .i64 (i : Int) ∧ Hid (Gs E i ∧ Below w.heap.size w wr)) (fun _ i _ => n - (intOf i).toNat)
  case atStart => exact ⟨0, by omega, rfl, rfl, Lib.hid ⟨(fun j hj => by omega), Below.refl _ _⟩⟩
  case round =>
    obtain ⟨i, hi, rfl, rfl, hG⟩ := hrel
    by_cases hin : i < n
    · have hil : i < E.length := by rw [Hn.out]; exact hin
      obtain ⟨bs, off, rfl, hbs, c1⟩ := (HS.out.old hG.out.2).int i hil
      have hif := riseI_iff hil
      have hno := Lib.hid (fun h => rise_no hil h)
      have hbs2 := befS_succ hil
      obtain ⟨m, hm0⟩ : ∃ m, m = E[i] := ⟨_, rfl⟩
      obtain ⟨z, hz⟩ : ∃ z, z = befS E i := ⟨_, rfl⟩
      rw [← hm0] at c1 hbs2
      rw [← hm0, ← hz] at hif
      rw [← hz]
      have HB := Lib.hid hbs2
      have HI := Lib.hid hif
      have HF : Hid (¬ (z < m ∧ m < 64) → res = false) := Lib.hid (fun h => by
        rw [HR.out]
        refine hno.out ?_
        cases hg : riseI E i with
        | false => rfl
        | true => exact absurd (hif.1 hg) h)
      have i1 : (i : Int) < n := by omega
      have i0 : (0 : Int) ≤ i := by omega
      have HB2 : Hid (Below w.heap.size w wr) := Lib.hid hG.out.2
      have HG := Lib.hid hG.out.1
      clear hbs2 hm0 hz hG hif hno
      by_cases b1 : m ≤ z
      · obtain rfl := HF.out (by omega)
        go_wp2_with fail
        go_ret
        exact ⟨rfl, HB2.out⟩
      · by_cases b2 : (64 : Int) ≤ m
        · obtain rfl := HF.out (by omega)
          go_wp2_with fail
          go_ret
          exact ⟨rfl, HB2.out⟩
        · have hgn : Hid (Gs E (i + 1)) := Lib.hid (HG.out.next (HI.out.2 ⟨by omega, by omega⟩))
          clear HI
          have b2' : m < 64 := by omega
          go_wp2_with fail
          go_roundw
          case rel => exact ⟨i + 1, by omega, by rw [HB.out], by go_num, Lib.hid ⟨hgn.out, HB2.out⟩⟩
          case measure => simp [intOf]; omega
    · have e : i = n := by omega
      have i1 : ¬ (i : Int) < n := by omega
      have HT : Hid (res = true) := Lib.hid (by rw [HR.out]; exact rise_yes (by rw [Hn.out, ← e]; exact hG.out.1))
      have HB := Lib.hid hG.out.2
      obtain rfl := HT.out
      clear hG
      go_wp2_with fail
      go_ret
      exact ⟨rfl, HB.out⟩
end Go.Proofs.YtjjkobbajbbgdaaGreatDoor

namespace Go.Proofs.YtjjkobbajbbgdaaGreatDoor
open Go.RowKit

theorem pc_val (K : List UInt8) (i : Nat) (h : (i + 1) * 32 ≤ K.length) : (pc K i).1 = (K.drop (i * 32)).take 32 := by
  unfold pc nmOf
  exact idL_self _ (by rw [List.length_take, List.length_drop]; omega)
theorem pcs_getD (K : List UInt8) (i : Nat) (h : (i + 1) * 32 ≤ K.length) : ((pcs K).map (·.1)).getD i [] = (K.drop (i * 32)).take 32 := by
  have hlt : i < K.length / 32 := by omega
  rw [← pc_val K i h, List.getD_eq_getElem?_getD, List.getElem?_map]
  unfold pcs
  rw [List.getElem?_map, List.getElem?_range hlt]; rfl
theorem rs_pcs (K : List UInt8) (i : Nat) (h : (i + 2) * 32 ≤ K.length) : rs ((pcs K).map (·.1)) (i + 1) = (rs ((pcs K).map (·.1)) i && Op.bytesLess ((K.drop (i * 32)).take 32) ((K.drop ((i + 1) * 32)).take 32)) := by
  rw [rs_succ, pcs_getD K i (by omega), pcs_getD K (i + 1) (by omega), less_cmp]

theorem toList_mk (s : List UInt8) : (⟨s.toArray⟩ : ByteArray).toList = s := by simp

theorem Gi.lo {least : Int} {E : List (Int × Int)} : ∀ i, i ≤ E.length → Gi least E i → -1 ≤ bef E i := by
  intro i
  induction i with
  | zero => intro _ _; exact Int.le_refl _
  | succ i ih =>
    intro hi h
    have h1 := ih (by omega) (fun j hj => h j (by omega))
    have h2 := (goodI_iff (by omega : i < E.length)).1 (h i (by omega))
    rw [bef_succ (by omega : i < E.length)]; omega

end Go.Proofs.YtjjkobbajbbgdaaGreatDoor

namespace Go.Proofs.YtjjkobbajbbgdaaGreatDoor
open Go.RowKit

theorem all_nat_eq : ∀ (xs ys : List Nat), xs.length = ys.length → ((List.range xs.length).all fun i => xs.getD i 0 == ys.getD i 0) = (xs == ys)
  | [], [], _ => rfl
  | x :: xs, y :: ys, h => by
    have ih := all_nat_eq xs ys (by simpa using h)
    rw [List.length_cons, List.range_succ_eq_map, List.all_cons, List.all_map]
    simp only [List.getD_cons_zero, Function.comp_def, List.getD_cons_succ, ih]
    simp [List.cons_beq_cons]
  | [], _ :: _, h => by simp at h
  | _ :: _, [], h => by simp at h
theorem run_equalIn_nums {P : Program} (w : World) (d : Nat) (t e : TypeId) (n : Nat) (ht : P.underlying t = some (.array n e)) (he : P.underlying e = some (.int .i64)) (hsz : ∀ w, (sizeOf e).run P w = .ok 1 w)
    (xs ys : List Nat) (hx : xs.length = n) (hy : ys.length = n) :
    (Op.equalIn (d + 2) t (.agg (nums .i64 xs).toArray) (.agg (nums .i64 ys).toArray)).run P w = .ok (xs == ys) w := by
  rw [← all_nat_eq xs ys (hx.trans hy.symm), hx, List.range_eq_range', Op.equalIn]
  simp only [Sem.run_bind, run_underlying ht, Result.andThen_ok, hsz, Std.Legacy.Range.forIn_eq_forIn_range', Std.Legacy.Range.size, Nat.sub_zero, Nat.add_sub_cancel, Nat.div_one]
  have hl : ∀ i ∈ List.range' 0 n 1, i < n := fun i hi => by simpa using (List.mem_range'_1.1 hi).2
  generalize List.range' 0 n 1 = l at hl ⊢
  induction l with
  | nil => simp
  | cons i l ih =>
    have hi : i < n := hl i (by simp)
    have px : (part e (nums .i64 xs).toArray (i * 1)).run P w = .ok (.int .i64 (xs.getD i 0 : Nat)) w := by
      simp [part, isAgg, run_underlying he, nums, List.getD, List.getElem?_eq_getElem (show i < xs.length by omega)]
    have py : (part e (nums .i64 ys).toArray (i * 1)).run P w = .ok (.int .i64 (ys.getD i 0 : Nat)) w := by
      simp [part, isAgg, run_underlying he, nums, List.getD, List.getElem?_eq_getElem (show i < ys.length by omega)]
    have pe : (Op.equalIn (d + 1) e (.int .i64 (xs.getD i 0 : Nat)) (.int .i64 (ys.getD i 0 : Nat))).run P w = .ok (xs.getD i 0 == ys.getD i 0) w := by
      rw [run_equalIn_int w d e .i64 .i64 _ _ he]
      congr 1
      rw [Bool.eq_iff_iff]
      simp only [beq_iff_eq]; omega
    simp only [List.forIn_cons, Sem.run_bind, px, py, pe, Result.andThen_ok, List.all_cons]
    cases hb : (xs.getD i 0 == ys.getD i 0)
    · simp
    · simp only [Bool.not_true, Bool.false_eq_true, if_false, Sem.run_pure, Result.andThen_ok, Bool.true_and]
      exact ih fun j hj => hl j (by simp [hj])
/-- Two structs of one row of numbers compared. -/
theorem run_eql_one {P : Program} (w : World) (t u e : TypeId) (n : Nat) (nm : String) (ht : P.underlying t = some (.struct (P.fieldsOf t))) (hp : P.stoodInHeld t = false)
    (hl : (P.fieldsOf t).toList.map (fun f => (f.name, f.type, f.offset)) = [(nm, u, 0)]) (hnm : nm ≠ "_") (hu : P.underlying u = some (.array n e)) (he : P.underlying e = some (.int .i64)) (hsz : ∀ w, (sizeOf e).run P w = .ok 1 w)
    (hun : (sizeOf u).run P w = .ok n w) (ha : (isAgg u).run P w = .ok true w) (xs ys : List Nat) (hx : xs.length = n) (hy : ys.length = n) :
    (binOp .eql t (.agg (nums .i64 xs).toArray) (.agg (nums .i64 ys).toArray)).run P w = .ok (.bool (xs == ys)) w := by
  have hs : ∀ zs : List Nat, zs.length = n → (part u (nums .i64 zs).toArray 0).run P w = .ok (.agg (nums .i64 zs).toArray) w := fun zs hz => by
    have e : (nums .i64 zs).toArray.extract 0 (0 + n) = (nums .i64 zs).toArray := by
      apply Array.ext'
      simp only [Array.toList_extract, Nat.zero_add, List.extract_eq_take_drop, List.drop_zero, Nat.sub_zero]
      exact List.take_of_length_le (by simp [nums_len, hz])
    simp only [part, Sem.run_bind, ha, Result.andThen_ok, if_true, hun, Sem.run_pure, e]
  have key : ∀ d, (Op.equalIn (d + 3) t (.agg (nums .i64 xs).toArray) (.agg (nums .i64 ys).toArray)).run P w = .ok (xs == ys) w := by
    intro d
    rw [run_equalIn_struct (w := w) (d + 2) t _ _ ht hp]
    generalize (P.fieldsOf t).toList = L at hl ⊢
    match L, hl with
    | [], hl => cases hl
    | _ :: _ :: _, hl => simp at hl
    | [f], hl =>
      simp only [List.map_cons, List.map_nil, List.cons.injEq, Prod.mk.injEq, and_true] at hl
      obtain ⟨h1, h2, h3⟩ := hl
      simp only [Op.eqFields, h1, h2, h3]
      rw [if_pos hnm]
      simp only [Sem.run_bind, hs xs hx, hs ys hy, Result.andThen_ok, run_equalIn_nums w d u e n hu he hsz xs ys hx hy]
      cases xs == ys <;> simp
  rw [run_eql_struct, key 9997]; rfl
/-- Two tables compared. -/
theorem table_eql (xs ys : List Nat) (hx : xs.length = 64) (hy : ys.length = 64) (w : World) : (binOp .eql 26 (.agg (nums .i64 xs).toArray) (.agg (nums .i64 ys).toArray)).run Tryz.prog w = .ok (.bool (xs == ys)) w :=
  run_eql_one w 26 24 3 64 "powers" (by kernel_rfl) (by kernel_rfl) (by kernel_rfl) (by decide) Tryz.underlying24 Tryz.underlying3 (fun w => Tryz.sizeOf3 w) (Tryz.sizeOf24 w) (Tryz.isAgg24 w) xs ys hx hy

def natE (E : List (Int × Int)) : List (Nat × Nat) := E.map fun e => (e.1.toNat, e.2.toNat)
theorem natE_at {w : World} {ao : Option Addr} {E : List (Int × Int)} (h : Rd encP w ao E) (hg : good 0 (-1) E = true) : EntsAt w ao (natE E) := by
  intro j hj
  have hj2 : j < E.length := by simpa [natE] using hj
  obtain ⟨bs, off, e, hlt, c1, c2⟩ := h.pair j hj2
  have hm := good_mem hg (by decide) _ (List.getElem_mem hj2)
  refine ⟨bs, off, e, hlt, ?_, ?_⟩
  · rw [c1]; simp only [natE, List.getElem_map]; congr 2; omega
  · rw [c2]; simp only [natE, List.getElem_map]; congr 2; omega
theorem natE_ok {E : List (Int × Int)} (hg : good 0 (-1) E = true) : EntsOk (natE E) 0 := by
  refine ⟨?_, ?_, ?_⟩
  · intro e he
    obtain ⟨x, hx, rfl⟩ := List.mem_map.1 he
    have := good_mem hg (by decide) x hx
    simp only; omega
  · intro e he
    obtain ⟨x, hx, rfl⟩ := List.mem_map.1 he
    have := good_mem hg (by decide) x hx
    simp only; omega
  · intro j hj
    have hj2 : j + 1 < E.length := by simpa [natE] using hj
    have h1 := (goodI_iff hj2).1 (good_at.1 hg (j + 1) hj2)
    have h0 := good_mem hg (by decide) _ (List.getElem_mem (by omega : j < E.length))
    rw [bef_succ (by omega : j < E.length)] at h1
    simp only [natE, List.getElem_map]; omega
open Classical in
/-- What Change answers. -/
noncomputable def chgE (P : List Nat) (E : List (Int × Int)) : Int := if 64 < E.length then 4 else if good 0 (-1) E = false then 1 else if wth P (natE E) = List.replicate 64 0 then 7 else 0
noncomputable def chgT (P : List Nat) (E : List (Int × Int)) : List Nat := if chgE P E = 0 then wth P (natE E) else List.replicate 64 0
theorem chgT_tab {P : List Nat} {E : List (Int × Int)} (hP : IsTab P) : IsTab (chgT P E) := by
  unfold chgT
  by_cases h : chgE P E = 0
  · rw [if_pos h]
    have hg : good 0 (-1) E = true := by
      unfold chgE at h
      by_cases h1 : 64 < E.length
      · rw [if_pos h1] at h; cases h
      · rw [if_neg h1] at h
        cases hg : good 0 (-1) E with
        | true => rfl
        | false => rw [if_pos hg] at h; cases h
    exact hP.wth (natE_ok hg)
  · rw [if_neg h]; exact isTab_zero
theorem tab_one {A : Array Value} {P : List Nat} (hA : A = (nums .i64 P).toArray) : Hid (∀ v ∈ A.toList, v.oneCell' = true) := Lib.hid (by rw [hA]; intro v hv; exact nums_one .i64 _ v (by simpa using hv))
theorem tab_res {w : World} {g : Nat} {A : Array Value} (hg : w.heap[g]? = some (.cells A 26 (0, 0))) (hs : A.size = 64) : (Go.loadVar 26 ⟨g, 0, none⟩).run Tryz.prog w = .ok (.agg A) w :=
  run_loadVar_row (P := Tryz.prog) w g 26 26 A (0, 0) _ hg Tryz.underlying26 rfl (by rw [hs]; kernel_rfl)
end Go.Proofs.YtjjkobbajbbgdaaGreatDoor
