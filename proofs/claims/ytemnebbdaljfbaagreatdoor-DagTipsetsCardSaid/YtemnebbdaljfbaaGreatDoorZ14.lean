/- Texts 14: what the laws lean on. -/
import Derived.Test.YtemnebbdaljfbaaGreatDoorZ13
import Derived.Test.YtemnebbdaljfbaaGreatDoorZ6
import Derived.BigQuiet
import Derived.Test.YtemnebbdaljfbaaGreatDoorZ3
set_option linter.unusedVariables false
set_option linter.unusedSimpArgs false
namespace Go.Proofs.YtemnebbdaljfbaaGreatDoor
open Go.RowKit

set_option maxRecDepth 20000 in
theorem exec_load_rb {o : Oper} {a : Act} {w : World} (x : Operand) (ho : o.op = .load 31 x) (b off : Nat) (hx : a.eval x = .pointer (some ⟨b, off, none⟩)) (y : RBk)
    (hc : ∀ i u, y.cells[i]? = some u → w.cell? ⟨b, off + i, none⟩ = some u) : (execOp a.eval o).run Tryz.prog w = .ok (.value (.agg y.cells.toArray)) w := by
  have hl := run_loadVar_mid (P := Tryz.prog) w b off 31 y.cells _ (fun j v hv => hc j v hv) Tryz.underlying31 rfl (by rw [y.len]; kernel_rfl)
  unfold execOp
  simp only [ho, hx, Instr.loadAt, Instr.sureAddr, Sem.run_bind, Sem.run_pure, Result.andThen_ok, hl]
def FindP (L : List RBk) (s : List UInt8) (e : Int) : Prop :=
  (e = -1 ∧ ∀ b ∈ L, b.nm ≠ s) ∨ ∃ k, ∃ h : k < L.length, e = (k : Int) ∧ (L[k]).nm = s
set_option maxRecDepth 20000 in
set_option maxHeartbeats 4000000 in
theorem rfind_any (ao : Option Addr) (cap : Nat) (L : List RBk) (s : List UInt8) (w : World) (hL : Rd encRB w ao L) (hl : L.length ≤ 9223372036854775807) :
    Calls Tryz.prog 45 #[.slice ao L.length cap, .string ⟨s.toArray⟩] w fun r w' => ∃ e, r = .returned (.int .i64 e) ∧ FindP L s e ∧ Below w.heap.size w w' := by
  obtain ⟨F, hF⟩ : ∃ F : Ending → World → Prop, F = fun r w' => ∃ e, r = .returned (.int .i64 e) ∧ FindP L s e ∧ Below w.heap.size w w' := ⟨_, rfl⟩
  rw [← hF]
  have HF := Lib.hid hF
  have HL := Lib.hid hL
  obtain ⟨n, hn⟩ : ∃ n, n = L.length := ⟨_, rfl⟩
  have HN := Lib.hid hn
  rw [← hn] at hl ⊢
  clear hF hL hn
  go_enter Tryz.func45, Tryz.ntmps45
  go_wp2_with fail
  go_loopw [9] (fun s9 wr => ∃ k : Nat, k ≤ n ∧ s9 = .int .i64 (k : Int) ∧ Hid (Below w.heap.size w wr ∧ ∀ i, ∀ h : i < L.length, i < k → (L[i]).nm ≠ s)) (fun s9 _ => n - (intOf s9).toNat)
  case atStart => exact ⟨0, Nat.zero_le _, rfl, Lib.hid ⟨Below.refl _ _, fun i _ h => absurd h (Nat.not_lt_zero _)⟩⟩
  case round =>
    obtain ⟨k, hk, rfl, HS⟩ := hrel
    have k0 : (0 : Int) ≤ k := by omega
    by_cases hlt : k < n
    · have hlt' : (k : Int) < n := by omega
      have hkl : k < L.length := by have := HN.out; omega
      obtain ⟨bs, off, rfl, hbs, hc⟩ := (HL.out.old HS.out.1) k hkl
      obtain ⟨y, hy⟩ : ∃ y, y = L[k] := ⟨_, rfl⟩
      have HY := Lib.hid hy
      rw [← hy] at hc
      have HCC : Hid (∀ i u, y.cells[i]? = some u → wr.cell? ⟨bs, off + k * 8 + i, none⟩ = some u) := Lib.hid hc
      have HSZ : Hid (y.cells.toArray.size = 8) := Lib.hid rfl
      have HIN := Lib.hid (rb_info y)
      have HON : Hid (∀ v ∈ y.cells.toArray.toList, v.oneCell' = true) := Lib.hid y.one
      clear hy hc hbs
      go_upto_region 4 with (first
        | (refine wpList_exec rfl (exec_load_rb (.tmp 12) rfl bs (off + k * 8) rfl y HCC.out) ?_; go_frame)
        | (refine wpList_store_row rfl rfl 31 (.tmp 6) (.tmp 13) rfl wr.heap.size rfl 31 _ y.cells.toArray rfl (heap_alloc_new wr _) HSZ.out.symm HIN.out HON.out ?_))
      refine wp_gen (fun W5 => W5.heap[wr.heap.size]? = some (.cells y.cells.toArray 31 (0, 0)) ∧ Below wr.heap.size wr W5) (row_new wr _ _ y.cells.toArray 31 rfl) (fun W5 hW5 => ?_)
      obtain ⟨hr5, hb5⟩ := hW5
      obtain ⟨g6, hg6⟩ : ∃ g6, g6 = wr.heap.size := ⟨_, rfl⟩
      rw [← hg6] at hr5
      rw [← hg6]
      have HB5 := Lib.hid (HS.out.1.trans (hb5.mono HS.out.1.size))
      have hcell : W5.cell? ⟨g6, 0, none⟩ = some (.string ⟨y.nm.toArray⟩) := by rw [cell_of_row _ g6 0 _ _ _ hr5]; rfl
      clear hr5 hb5 hg6
      cases he : (y.nm == s) with
      | true =>
        go_wp2_with fail
        rw [HF.out]
        exact ⟨k, rfl, .inr ⟨k, by have := HN.out; omega, rfl, by rw [← HY.out]; exact eq_of_beq he⟩, HB5.out⟩
      | false =>
        go_wp2_with fail
        go_roundw
        case rel => exact ⟨k + 1, by omega, by go_num, Lib.hid ⟨HB5.out, fun i h hi => by
          by_cases e : i = k
          · subst e; rw [← HY.out]; intro h2; rw [h2] at he; simp at he
          · exact HS.out.2 i h (by omega)⟩⟩
        case measure => simp [intOf]; omega
    · obtain rfl : n = k := by omega
      have hlt' : ¬ (n : Int) < n := by omega
      go_wp2_with fail
      rw [HF.out]
      exact ⟨-1, rfl, .inl ⟨rfl, fun b hb => by
        obtain ⟨i, hi, rfl⟩ := List.mem_iff_getElem.1 hb
        exact HS.out.2 i hi (by have := HN.out; omega)⟩, HS.out.1⟩
def HsP (L : List RBk) (P : List (List UInt8)) (D : List RH) : Prop :=
  D.length = P.length ∧ ∀ (j : Nat) (p : List UInt8), P[j]? = some p → ∃ b ∈ L, b.nm = p ∧ D[j]? = some b.x
structure HsS (w wr : World) (L : List RBk) (P : List (List UInt8)) (k : Nat) (q : Option Addr) (c : Nat) (D : List RH) : Prop where
  rw : Rw encR 29 wr q c D
  len : D.length = k
  hs : ∀ (j : Nat) (p : List UInt8), j < k → P[j]? = some p → ∃ b ∈ L, b.nm = p ∧ D[j]? = some b.x
  b : Below w.heap.size w wr
  f : ∀ a, q = some a → w.heap.size ≤ a.block
def HdsP (L : List RBk) (P : List (List UInt8)) (ok : Bool) (D : List RH) : Prop :=
  (ok = false ∧ D = [] ∧ ∃ p ∈ P, ∀ b ∈ L, b.nm ≠ p) ∨ (ok = true ∧ HsP L P D)
set_option maxRecDepth 20000 in
set_option maxHeartbeats 8000000 in
theorem rheaders_any (ao : Option Addr) (cap : Nat) (L : List RBk) (po : Option Addr) (pc : Nat) (P : List (List UInt8)) (w : World) (hL : Rd encRB w ao L) (hl : L.length ≤ 1000000) (hP : Rd encS w po P) (hp : P.length ≤ 1000000) :
    Calls Tryz.prog 21 #[.slice ao L.length cap, .slice po P.length pc] w fun r w' => ∃ q c D ok, r = .returned (.tuple #[.slice q D.length c, .bool ok]) ∧ HdsP L P ok D ∧ Rd encR w' q D ∧ Below w.heap.size w w' := by
  obtain ⟨F, hF⟩ : ∃ F : Ending → World → Prop, F = fun r w' => ∃ q c D ok, r = .returned (.tuple #[.slice q D.length c, .bool ok]) ∧ HdsP L P ok D ∧ Rd encR w' q D ∧ Below w.heap.size w w' := ⟨_, rfl⟩
  rw [← hF]
  have HF := Lib.hid hF
  have HL := Lib.hid hL
  have HFN := Lib.hid (fun (u : World) (hb : Below w.heap.size w u) (t : List UInt8) => rfind_any ao cap L t u (hL.old hb) (by omega))
  obtain ⟨n, hn⟩ : ∃ n, n = L.length := ⟨_, rfl⟩
  obtain ⟨m, hm⟩ : ∃ m, m = P.length := ⟨_, rfl⟩
  have HN := Lib.hid hn
  have HM := Lib.hid hm
  have HPP := Lib.hid hP
  rw [← hn] at HFN hl ⊢
  rw [← hm] at hp ⊢
  clear hF hL hP hn hm
  go_enter Tryz.func21, Tryz.ntmps21
  go_upto_region 3 with (refine wpList_exec rfl (exec_nos 34 29 rfl Tryz.underlying34 (Tryz.sizeOf29 _)) ?_; go_frame)
  have hw0 : Rw encR 29 (w.alloc (.cells #[] 29)) (some ⟨w.heap.size, 0, none⟩) 0 [] := Rw.made (E := encR) 29 w [] (by simp)
  have H0 : Hid (HsS w (w.alloc (.cells #[] 29)) L P 0 (some ⟨w.heap.size, 0, none⟩) 0 []) := Lib.hid ⟨hw0, rfl, fun j p h => absurd h (Nat.not_lt_zero _), alloc1 _ _, fun a e => by cases e; exact Nat.le_refl _⟩
  clear hw0
  go_wp2_with fail
  go_loopw [6, 13] (fun s6 s13 wr => ∃ (k : Nat) (q : Option Addr) (c : Nat) (D : List RH), k ≤ m ∧ s13 = .int .i64 (k : Int) ∧ s6 = .slice q k c ∧ Hid (HsS w wr L P k q c D)) (fun _ s13 _ => m - (intOf s13).toNat)
  case atStart => exact ⟨0, _, 0, [], Nat.zero_le _, rfl, rfl, H0⟩
  case round =>
    clear H0
    obtain ⟨k, q, c, D, hk, rfl, rfl, HS⟩ := hrel
    have k0 : (0 : Int) ≤ k := by omega
    by_cases hlt : k < m
    · have hlt' : (k : Int) < m := by omega
      obtain ⟨bs, off, rfl, hbs, hc⟩ := (HPP.out.old HS.out.b) k (by have := HM.out; omega)
      obtain ⟨t, ht⟩ : ∃ t, t = P[k]'(by have := HM.out; omega) := ⟨_, rfl⟩
      have hcell : wr.cell? ⟨bs, off + k, none⟩ = some (.string ⟨t.toArray⟩) := by
        have := hc 0 _ (by rw [← ht]; rfl)
        simpa [encS] using this
      have hpk : P[k]? = some t := by rw [ht]; exact List.getElem?_eq_getElem _
      have HPK := Lib.hid hpk
      have HFD := Lib.hid (HFN.out wr HS.out.b t)
      clear ht hc hbs hpk
      go_wp2_with fail
      refine HFD.out.mono ?_
      rintro r w2 ⟨e, rfl, hf, hb2⟩
      have HB2 := Lib.hid (HS.out.b.trans (hb2.mono HS.out.b.size))
      have HRW2 := Lib.hid (HS.out.rw.old hb2)
      clear hb2 hcell HFD
      rcases hf with ⟨rfl, hno⟩ | ⟨i, hi, rfl, hnm⟩
      · have HNO := Lib.hid hno
        clear hno
        go_wp2_with fail
        rw [HF.out]
        exact ⟨none, 0, [], false, rfl, .inl ⟨rfl, rfl, t, List.mem_of_getElem? HPK.out, HNO.out⟩, Rd.nil _ _, HB2.out⟩
      · have hi' : (i : Int) < n := by have := HN.out; omega
        have i0 : (0 : Int) ≤ i := by omega
        have hge : ¬ (i : Int) < 0 := by omega
        obtain ⟨b2, off2, hao, hb2', hc2⟩ := (HL.out.old HB2.out) i hi
        subst hao
        obtain ⟨y, hy⟩ : ∃ y, y = L[i] := ⟨_, rfl⟩
        rw [← hy] at hc2 hnm
        have HYM : Hid (y ∈ L ∧ y.nm = t) := Lib.hid ⟨by rw [hy]; exact List.getElem_mem _, hnm⟩
        have HCX : Hid (∀ j u, y.x.cells[j]? = some u → w2.cell? ⟨b2, off2 + i * 8 + 1 + j, none⟩ = some u) := Lib.hid (fun j u hu => by
          have := hc2 (j + 1) u (by show (RBk.cells y)[j + 1]? = some u; simpa [RBk.cells] using hu)
          rw [show off2 + i * 8 + 1 + j = off2 + i * encRB.k + (j + 1) by show _ = off2 + i * 8 + (j + 1); omega]
          exact this)
        have hb3 := alloc1 w2 (.cells y.x.cells.toArray 29)
        have HB3 := Lib.hid (HB2.out.trans (hb3.mono HB2.out.size))
        have HRW3 := Lib.hid (HRW2.out.old hb3)
        have HRD3 : Hid (Rd encR (w2.alloc (.cells y.x.cells.toArray 29)) (some ⟨w2.heap.size, 0, none⟩) [y.x]) := Lib.hid (by have := Rd.made encR w2 29 [y.x] (by simp [maxLen]); rw [encR_one] at this; exact this)
        have HDL : Hid (D.length = k) := Lib.hid HS.out.len
        have HNB : Hid (k + 1 ≤ 100000000000) := Lib.hid (by omega)
        obtain ⟨z, hz, hzs, hzb⟩ := info_rh
        have HZ1 := Lib.hid hz
        have HZ2 := Lib.hid hzs
        have HZ3 := Lib.hid hzb
        clear hnm hy hc2 hb2' hb3 hz hzs hzb hi
        go_wp2_with (first
          | (refine wpList_exec rfl (exec_load_rhm (.tmp 26) rfl b2 (off2 + i * 8 + 1) rfl y.x HCX.out) ?_; go_frame)
          | (refine wpList_exec rfl (build_rhs (.tmp 27) rfl y.x rfl) ?_; go_frame)
          | (at_builtin; refine wpList_pushR encR rfl (.tmp 22) (.tmp 28) 34 29 z _ rfl Tryz.underlying34 HZ1.out HZ2.out HZ3.out q c k D HDL.out rfl HRW3.out (some ⟨w2.heap.size, 0, none⟩) 1 1 [y.x] rfl rfl HRD3.out HNB.out ?_; intro q2 c2 w6 hP; have HP := Lib.hid hP; clear hP; go_frame))
        have HNN : Hid (HsS w w6 L P (k + 1) q2 c2 (D ++ [y.x])) := Lib.hid ⟨HP.out.1, by rw [List.length_append, HDL.out]; rfl, fun j p hj hp => by
            by_cases e : j = k
            · subst e
              rw [HPK.out] at hp
              cases hp
              exact ⟨y, HYM.out.1, HYM.out.2, by rw [List.getElem?_append_right (by rw [HDL.out]; exact Nat.le_refl _), HDL.out]; simp⟩
            · obtain ⟨b, h1, h2, h3⟩ := HS.out.hs j p (by omega) hp
              exact ⟨b, h1, h2, by rw [List.getElem?_append_left (by rw [HDL.out]; omega)]; exact h3⟩,
          HB3.out.trans (HP.out.2.1.to_below HB3.out.size (by rintro k hk ⟨a, e, rfl⟩; have := HS.out.f a e; omega)), fun a e => (HP.out.2.2 a e).elim (HS.out.f a) (fun h => Nat.le_trans HB3.out.size h)⟩
        clear HP HRD3 HRW3
        go_roundw
        case rel => exact ⟨k + 1, q2, c2, D ++ [y.x], by omega, by go_num, rfl, HNN⟩
        case measure => simp [intOf]; omega
    · obtain rfl : m = k := by omega
      have hlt' : ¬ (m : Int) < m := by omega
      go_wp2_with fail
      rw [HF.out]
      exact ⟨q, c, D, true, by rw [HS.out.len], .inr ⟨rfl, by rw [HS.out.len, HM.out], fun j p hp => HS.out.hs j p (by have := (List.getElem?_eq_some_iff.1 hp).1; have := HM.out; omega) hp⟩, HS.out.rw.rd, HS.out.b⟩
end Go.Proofs.YtemnebbdaljfbaaGreatDoor

namespace Go.Proofs.YtemnebbdaljfbaaGreatDoor
open Go.RowKit

section
variable {P : Program} {md : Region.Mode} {ops : Array Oper} {Q : Exit → Act → World → Prop} {V : Tmp → Value → Prop} {G : Nat → Value → World → Prop} {C : List Nat} {a0 : Act}
theorem owesC_not {i : Nat} {o : Oper} {t : Tmp} (b : Nat) (hb : aheadOf md ops C i b = true) (hni : C.contains i = false) (hi : ops[i]? = some o) (ht : o.dst = some t)
    (h : ∀ k a w x, k ≤ b → AgreeC ops C k a0 a → G k x w → AllV (fun t v _ => V t v) a w (waits md ops o) → Region.wanted o (yielded ops a.tmps) = false ∧ V t undef) : OwesC P md ops Q V G C a0 i o := by
  refine .inr ⟨hni, b, hb, fun k hk a w x ha hG hV => ?_⟩
  obtain ⟨hw, hv⟩ := h k a w x hk ha hG hV
  unfold wpOp
  rw [hi]
  simp only [hw, Bool.false_eq_true, if_false]
  exact ⟨undef, rfl, fun u hu => by rw [ht] at hu; cases hu; exact hv, hG⟩
end
def famR (x : RH) : List UInt8 := hfam x.h (rsort x.h.ps).flatten
structure fmR (w : World) (x : RH) : Prop where
  ok : okH w x
  pw : x.h.pw ≤ 9223372036854775807
theorem fmR.old {w w' : World} {x : RH} (h : fmR w x) (hb : Below w.heap.size w w') : fmR w' x := ⟨h.ok.old hb, h.pw⟩
theorem fmR.fam {w : World} {x : RH} (h : fmR w x) : Calls Tryz.prog 28 #[.agg x.cells.toArray] w fun r w' => r = .returned (.string ⟨(famR x).toArray⟩) ∧ Below w.heap.size w w' := by
  have hn := h.ok.n
  have hl := rsort_len x.h.ps
  exact rfamily_any x.h x.q x.c w h.ok.a.rd (by omega) h.pw h.ok.a.b1 (by rw [flat32 _ (fun p hp => h.ok.p p (rsort_mem _ p hp))]; omega)
def Two (D : List RH) (i k : Nat) : Prop := ∀ hi : i < D.length, ∀ hk : k < D.length, famR D[i] = famR D[k] ∧ (i ≠ k → (D[i]).h.mi ≠ (D[k]).h.mi)
def Ck8 (D : List RH) (e : Int) : Prop :=
  (5 < D.length ∧ e = 4) ∨ (D.length = 0 ∧ e = 15) ∨ (0 < D.length ∧ D.length ≤ 5 ∧ e = 15 ∧ ∃ i k, i < D.length ∧ k < D.length ∧ ¬ Two D i k) ∨ (0 < D.length ∧ D.length ≤ 5 ∧ e = 0 ∧ ∀ i k, i < D.length → k < D.length → Two D i k)
set_option maxRecDepth 20000 in
set_option maxHeartbeats 8000000 in
theorem r8check_any (ao : Option Addr) (cap : Nat) (D : List RH) (w : World) (hL : Rd encR w ao D) (hA : ∀ x ∈ D, fmR w x) :
    Calls Tryz.prog 22 #[.slice ao D.length cap] w fun r w' => ∃ e, r = .returned (.int .i64 e) ∧ Ck8 D e ∧ Below w.heap.size w w' := by
  obtain ⟨F, hF⟩ : ∃ F : Ending → World → Prop, F = fun r w' => ∃ e, r = .returned (.int .i64 e) ∧ Ck8 D e ∧ Below w.heap.size w w' := ⟨_, rfl⟩
  rw [← hF]
  have HF := Lib.hid hF
  have HL := Lib.hid hL
  have HA := Lib.hid hA
  obtain ⟨n, hn⟩ : ∃ n, n = D.length := ⟨_, rfl⟩
  have HN := Lib.hid hn
  rw [← hn]
  clear hF hL hA hn
  go_enter Tryz.func22, Tryz.ntmps22
  by_cases h5 : 5 < n
  · have h5' : (5 : Int) < n := by omega
    have H5 := Lib.hid h5
    go_wp2_with fail
    rw [HF.out]
    exact ⟨4, rfl, .inl ⟨by rw [← HN.out]; exact H5.out, rfl⟩, Below.refl _ _⟩
  have h5' : ¬ (5 : Int) < n := by omega
  have H5 := Lib.hid h5
  by_cases h0 : n = 0
  · have H0 := Lib.hid h0
    subst h0
    go_wp2_with fail
    rw [HF.out]
    exact ⟨15, rfl, .inr (.inl ⟨HN.out.symm, rfl⟩), Below.refl _ _⟩
  have h0' : ¬ (n : Int) = 0 := by omega
  have H0 := Lib.hid h0
  clear h5
  go_wp2_with fail
  go_loopw [15] (fun s15 wr => ∃ i : Nat, i ≤ n ∧ s15 = .int .i64 (i : Int) ∧ Hid (Below w.heap.size w wr ∧ ∀ i' k', i' < i → k' < n → Two D i' k')) (fun s15 _ => n - (intOf s15).toNat)
  case atStart => exact ⟨0, Nat.zero_le _, rfl, Lib.hid ⟨Below.refl _ _, fun i' k' h => absurd h (Nat.not_lt_zero _)⟩⟩
  case round =>
    obtain ⟨i, hi, rfl, HS⟩ := hrel
    have i0 : (0 : Int) ≤ i := by omega
    by_cases hlt : i < n
    · have hlt' : (i : Int) < n := by omega
      have hil : i < D.length := by have := HN.out; omega
      obtain ⟨bs, off, rfl, hbs, hc⟩ := (HL.out.old HS.out.1) i hil
      obtain ⟨y, hy⟩ : ∃ y, y = D[i] := ⟨_, rfl⟩
      have HY : Hid (∃ h : i < D.length, y = D[i]) := Lib.hid ⟨hil, hy⟩
      rw [← hy] at hc
      have HCC : Hid (∀ j u, y.cells[j]? = some u → wr.cell? ⟨bs, off + i * 7 + j, none⟩ = some u) := Lib.hid hc
      have HSZ : Hid (y.cells.toArray.size = 7) := Lib.hid rfl
      have HIN := Lib.hid (rh_info y)
      have HON : Hid (∀ v ∈ y.cells.toArray.toList, v.oneCell' = true) := Lib.hid y.one
      have HYA : Hid (fmR w y) := Lib.hid (by rw [hy]; exact HA.out _ (List.getElem_mem _))
      clear hy hc hbs hil
      go_upto_region 8 with (first
        | (refine wpList_exec rfl (exec_load_rhm (.tmp 18) rfl bs (off + i * 7) rfl y HCC.out) ?_; go_frame)
        | (refine wpList_store_row rfl rfl 29 (.tmp 4) (.tmp 19) rfl wr.heap.size rfl 29 _ y.cells.toArray rfl (heap_alloc_new wr _) HSZ.out.symm HIN.out HON.out ?_))
      refine wp_gen (fun W5 => W5.heap[wr.heap.size]? = some (.cells y.cells.toArray 29 (0, 0)) ∧ Below wr.heap.size wr W5) (row_new wr _ _ y.cells.toArray 29 rfl) (fun W5 hW5 => ?_)
      obtain ⟨hr5, hb5⟩ := hW5
      obtain ⟨g4, hg4⟩ : ∃ g4, g4 = wr.heap.size := ⟨_, rfl⟩
      rw [← hg4] at hr5
      rw [← hg4]
      have HR5 := Lib.hid hr5
      have HB5 := Lib.hid (HS.out.1.trans (hb5.mono HS.out.1.size))
      clear hr5 hb5 hg4 HCC
      go_wp2_with fail
      go_loopw [22] (fun s22 wx => ∃ k : Nat, k ≤ n ∧ s22 = .int .i64 (k : Int) ∧ Hid (Below W5.heap.size W5 wx ∧ ∀ k', k' < k → Two D i k')) (fun s22 _ => n - (intOf s22).toNat)
      case atStart => exact ⟨0, Nat.zero_le _, rfl, Lib.hid ⟨Below.refl _ _, fun k' h => absurd h (Nat.not_lt_zero _)⟩⟩
      case round =>
        obtain ⟨k, hk, rfl, HT⟩ := hrel
        have k0 : (0 : Int) ≤ k := by omega
        by_cases hkt : k < n
        · have hkt' : (k : Int) < n := by omega
          have hkl : k < D.length := by have := HN.out; omega
          have HBW : Hid (Below w.heap.size w wr) := Lib.hid (HB5.out.trans (HT.out.1.mono HB5.out.size))
          obtain ⟨b2, o2, e2, hbs, hc⟩ := (HL.out.old HBW.out) k hkl
          cases e2
          obtain ⟨x2, hx2⟩ : ∃ x2, x2 = D[k] := ⟨_, rfl⟩
          have HX : Hid (∃ h : k < D.length, x2 = D[k]) := Lib.hid ⟨hkl, hx2⟩
          rw [← hx2] at hc
          have HCC : Hid (∀ j u, x2.cells[j]? = some u → wr.cell? ⟨bs, off + k * 7 + j, none⟩ = some u) := Lib.hid hc
          have HSX : Hid (x2.cells.toArray.size = 7) := Lib.hid rfl
          have HIX := Lib.hid (rh_info x2)
          have HOX : Hid (∀ v ∈ x2.cells.toArray.toList, v.oneCell' = true) := Lib.hid x2.one
          have HXA : Hid (fmR w x2) := Lib.hid (by rw [hx2]; exact HA.out _ (List.getElem_mem _))
          clear hx2 hc hbs hkl
          go_upto_region 11 with (first
            | (refine wpList_exec rfl (exec_load_rhm (.tmp 25) rfl bs (off + k * 7) rfl x2 HCC.out) ?_; go_frame)
            | (refine wpList_store_row rfl rfl 29 (.tmp 6) (.tmp 26) rfl wr.heap.size rfl 29 _ x2.cells.toArray rfl (heap_alloc_new wr _) HSX.out.symm HIX.out HOX.out ?_))
          refine wp_gen (fun W6 => W6.heap[wr.heap.size]? = some (.cells x2.cells.toArray 29 (0, 0)) ∧ Below wr.heap.size wr W6) (row_new wr _ _ x2.cells.toArray 29 rfl) (fun W6 hW6 => ?_)
          obtain ⟨hr6, hb6⟩ := hW6
          obtain ⟨g6, hg6⟩ : ∃ g6, g6 = wr.heap.size := ⟨_, rfl⟩
          rw [← hg6] at hr6
          rw [← hg6]
          have HR6 := Lib.hid hr6
          have HB56 : Hid (Below W5.heap.size W5 W6) := Lib.hid (HT.out.1.trans (hb6.mono HT.out.1.size))
          have HB6 : Hid (Below w.heap.size w W6) := Lib.hid (HB5.out.trans (HB56.out.mono HB5.out.size))
          have HR56 := Lib.hid ((HB56.out.block g4 (Array.getElem?_eq_some_iff.1 HR5.out).1).trans HR5.out)
          have HYF := Lib.hid (HYA.out.old HB6.out)
          have HXF := Lib.hid (HXA.out.old HB6.out)
          have HG0 : Hid (Below W6.heap.size W6 W6.drew) := Lib.hid (Below.refl _ _).drew
          obtain ⟨YC, hYC⟩ : ∃ YC, YC = y.cells.toArray := ⟨_, rfl⟩
          obtain ⟨XC, hXC⟩ : ∃ XC, XC = x2.cells.toArray := ⟨_, rfl⟩
          have hym : YC[1]? = some (.int .i64 y.h.mi) := by rw [hYC]; rfl
          have hxm : XC[1]? = some (.int .i64 x2.h.mi) := by rw [hXC]; rfl
          have HYM := Lib.hid hym
          have HXM := Lib.hid hxm
          have HYI : Hid ((Tryz.prog.info? 29).map (·.size) = some YC.size) := Lib.hid (by rw [hYC]; exact rh_info y)
          have HXI : Hid ((Tryz.prog.info? 29).map (·.size) = some XC.size) := Lib.hid (by rw [hXC]; exact rh_info x2)
          have HFY : Hid (∀ u : World, Below W6.heap.size W6 u → Calls Tryz.prog 28 #[.agg YC] u fun r w' => r = .returned (.string ⟨(famR y).toArray⟩) ∧ Below u.heap.size u w') := Lib.hid (fun u hb => by rw [hYC]; exact (HYF.out.old hb).fam)
          have HFX : Hid (∀ u : World, Below W6.heap.size W6 u → Calls Tryz.prog 28 #[.agg XC] u fun r w' => r = .returned (.string ⟨(famR x2).toArray⟩) ∧ Below u.heap.size u w') := Lib.hid (fun u hb => by rw [hXC]; exact (HXF.out.old hb).fam)
          rw [← hYC] at HR56
          rw [← hXC] at HR6
          obtain ⟨fy, hfy⟩ : ∃ fy, fy = famR y := ⟨_, rfl⟩
          obtain ⟨fx, hfx⟩ : ∃ fx, fx = famR x2 := ⟨_, rfl⟩
          rw [← hfy] at HFY
          rw [← hfx] at HFX
          have HFEY := Lib.hid hfy
          have HFEX := Lib.hid hfx
          have HTW : Hid (Two D i k ↔ (fy = fx ∧ (i ≠ k → y.h.mi ≠ x2.h.mi))) := Lib.hid (by
            obtain ⟨h1, h2⟩ := HY.out
            obtain ⟨h3, h4⟩ := HX.out
            unfold Two
            constructor
            · intro h; rw [hfy, hfx, h2, h4]; exact h h1 h3
            · intro h a b; rw [← h2, ← h4, ← hfy, ← hfx]; exact h)
          obtain ⟨my, hmy⟩ : ∃ my, my = y.h.mi := ⟨_, rfl⟩
          obtain ⟨mx, hmx⟩ : ∃ mx, mx = x2.h.mi := ⟨_, rfl⟩
          rw [← hmy] at HYM HTW
          rw [← hmx] at HXM HTW
          clear hr6 hb6 hg6 hYC hXC hym hxm hfy hfx hmy hmx HCC HSX HIX HOX
          go_upto_region 11 with fail
          cases hfe : (fy == fx) with
          | false =>
            have hno : ¬ Two D i k := fun h => by rw [(HTW.out.1 h).1] at hfe; simp at hfe
            have HNO := Lib.hid hno
            clear hno
            refine wp_region_chain2 (fun t v => match t with
              | 27 => v = .agg YC
              | 28 => v = .string ⟨fy.toArray⟩
              | 29 => v = .agg XC
              | 30 => v = .string ⟨fx.toArray⟩
              | 31 => v = Value.bool true
              | 32 => v = Value.bool true
              | 33 => v = undef
              | 34 => v = undef
              | 35 => v = undef
              | 36 => v = undef
              | 37 => v = undef
              | 38 => v = undef
              | 39 => v = undef
              | 40 => v = undef
              | 41 => v = undef
              | 42 => v = undef
              | 43 => v = Value.bool true
              | _ => True) (fun (_ : Nat) (_ : Value) (w' : World) => Below W6.heap.size W6 w') [1] 46 (by kernel_rfl) (by decide +kernel) rfl (by decide +kernel) (by decide) (by decide) HG0.out (by
              refine OweAllC.cons (owesC_val 0 (by decide +kernel) (by decide) rfl rfl fun k' a w1_1 x hk ha hG hV => ?_) ?_
              · skip
                have h4 := ha.outer 4 (by decide +kernel)
                simp only [Act.eval] at h4
                exact ⟨.agg YC, wanted_free rfl, exec_load_row 29 (.tmp 4) rfl g4 h4 29 YC (0, 0) _ ((hG.block g4 (Array.getElem?_eq_some_iff.1 HR56.out).1).trans HR56.out) Tryz.underlying29 rfl HYI.out, rfl⟩
              refine OweAllC.cons (owesC_call 0 rfl rfl rfl 28 fun a w1_1 x ha hG hx hV => ?_) ?_
              · skip
                have h27 : a.tmps.getD 27 undef = .agg YC := hV.get 27 (by decide +kernel)
                refine ⟨#[.agg YC], wanted_free rfl, by simp [execOp, resolve, invoke, go_sem, h27], ?_⟩
                refine (HFY.out _ hG).mono ?_
                rintro r u2 ⟨rfl, hb⟩; exact ⟨_, rfl, rfl, hG.trans (hb.mono hG.size)⟩
              refine OweAllC.cons (owesC_val 1 (by decide +kernel) (by decide) rfl rfl fun k' a w1_1 x hk ha hG hV => ?_) ?_
              · skip
                have h6 := ha.outer 6 (by decide +kernel)
                simp only [Act.eval] at h6
                exact ⟨.agg XC, wanted_free rfl, exec_load_row 29 (.tmp 6) rfl g6 h6 29 XC (0, 0) _ ((hG.block g6 (Array.getElem?_eq_some_iff.1 HR6.out).1).trans HR6.out) Tryz.underlying29 rfl HXI.out, rfl⟩
              refine OweAllC.cons (owesC_side 1 (by decide +kernel) (by decide) rfl rfl 28 fun k' a w1_1 x hk ha hG hV => ?_) ?_
              · skip
                have h29 : a.tmps.getD 29 undef = .agg XC := hV.get 29 (by decide +kernel)
                refine ⟨#[.agg XC], wanted_free rfl, by simp [execOp, resolve, invoke, go_sem, h29], ?_⟩
                refine (HFX.out _ hG).mono ?_
                rintro r u2 ⟨rfl, hb⟩; exact ⟨_, rfl, rfl, hG.trans (hb.mono hG.size)⟩
              refine OweAllC.cons (owesC_val 1 (by decide +kernel) (by decide) rfl rfl fun k' a w1_1 x hk ha hG hV => ?_) ?_
              · skip
                have h28 : a.tmps.getD 28 undef = .string ⟨fy.toArray⟩ := hV.get 28 (by decide +kernel)
                have h30 : a.tmps.getD 30 undef = .string ⟨fx.toArray⟩ := hV.get 30 (by decide +kernel)
                exact ⟨Value.bool true, wanted_free rfl, by simp [execOp, go_sem, h28, h30, hfe], rfl⟩
              refine OweAllC.cons (owesC_val 1 (by decide +kernel) (by decide) rfl rfl fun k' a w1_1 x hk ha hG hV => ?_) ?_
              · skip
                have h31 : a.tmps.getD 31 undef = Value.bool true := hV.get 31 (by decide +kernel)
                exact ⟨Value.bool true, wanted_free rfl, by simp [execOp, go_sem, h31], rfl⟩
              refine OweAllC.cons (owesC_not 1 (by decide +kernel) (by decide) rfl rfl fun k' a w1_1 x hk ha hG hV => ⟨not_wanted (t := 32) rfl rfl (hV.get 32 (by decide +kernel)) (by first | simp; done | (intro h; cases h)), rfl⟩) ?_
              refine OweAllC.cons (owesC_not 1 (by decide +kernel) (by decide) rfl rfl fun k' a w1_1 x hk ha hG hV => ⟨not_wanted (t := 32) rfl rfl (hV.get 32 (by decide +kernel)) (by first | simp; done | (intro h; cases h)), rfl⟩) ?_
              refine OweAllC.cons (owesC_not 1 (by decide +kernel) (by decide) rfl rfl fun k' a w1_1 x hk ha hG hV => ⟨not_wanted (t := 32) rfl rfl (hV.get 32 (by decide +kernel)) (by first | simp; done | (intro h; cases h)), rfl⟩) ?_
              refine OweAllC.cons (owesC_not 1 (by decide +kernel) (by decide) rfl rfl fun k' a w1_1 x hk ha hG hV => ⟨not_wanted (t := 32) rfl rfl (hV.get 32 (by decide +kernel)) (by first | simp; done | (intro h; cases h)), rfl⟩) ?_
              refine OweAllC.cons (owesC_not 1 (by decide +kernel) (by decide) rfl rfl fun k' a w1_1 x hk ha hG hV => ⟨not_wanted (t := 36) rfl rfl (hV.get 36 (by decide +kernel)) (by first | simp; done | (intro h; cases h)), rfl⟩) ?_
              refine OweAllC.cons (owesC_not 1 (by decide +kernel) (by decide) rfl rfl fun k' a w1_1 x hk ha hG hV => ⟨not_wanted (t := 36) rfl rfl (hV.get 36 (by decide +kernel)) (by first | simp; done | (intro h; cases h)), rfl⟩) ?_
              refine OweAllC.cons (owesC_not 1 (by decide +kernel) (by decide) rfl rfl fun k' a w1_1 x hk ha hG hV => ⟨not_wanted (t := 36) rfl rfl (hV.get 36 (by decide +kernel)) (by first | simp; done | (intro h; cases h)), rfl⟩) ?_
              refine OweAllC.cons (owesC_not 1 (by decide +kernel) (by decide) rfl rfl fun k' a w1_1 x hk ha hG hV => ⟨not_wanted (t := 36) rfl rfl (hV.get 36 (by decide +kernel)) (by first | simp; done | (intro h; cases h)), rfl⟩) ?_
              refine OweAllC.cons (owesC_not 1 (by decide +kernel) (by decide) rfl rfl fun k' a w1_1 x hk ha hG hV => ⟨not_wanted (t := 36) rfl rfl (hV.get 36 (by decide +kernel)) (by first | simp; done | (intro h; cases h)), rfl⟩) ?_
              refine OweAllC.cons (owesC_not 1 (by decide +kernel) (by decide) rfl rfl fun k' a w1_1 x hk ha hG hV => ⟨not_wanted (t := 32) rfl rfl (hV.get 32 (by decide +kernel)) (by first | simp; done | (intro h; cases h)), rfl⟩) ?_
              refine OweAllC.cons (owesC_val 1 (by decide +kernel) (by decide) rfl rfl fun k' a w1_1 x hk ha hG hV => ?_) ?_
              · skip
                have h32 : a.tmps.getD 32 undef = Value.bool true := hV.get 32 (by decide +kernel)
                exact ⟨Value.bool true, wanted_free rfl, by simp [execOp, go_sem, h32], rfl⟩
              exact OweAllC.nil
              ) ?_
            intro f wz xz hG hx hv
            have e43 : f 43 = Value.bool true := hv 16 _ 43 rfl rfl
            first | (rename_i hK; refine hK _ _ ?_; clear hK) | (rename_i hK _; refine hK _ _ ?_; clear hK) | (rename_i hK _ _; refine hK _ _ ?_; clear hK) | (rename_i hK _ _ _; refine hK _ _ ?_; clear hK)
            clear hv hx
            simp only [dsts, puts, List.filterMap_cons, List.filterMap_nil, List.foldl_cons, List.foldl_nil, Act.put, List.setIfInBounds_toArray, List.set_cons_succ, List.set_cons_zero, e43]
            clear e43
            have HBZ : Hid (Below w.heap.size w wz) := Lib.hid (HB6.out.trans (hG.mono HB6.out.size))
            clear hG HG0
            go_wp2_with fail
            rw [HF.out]
            exact ⟨15, rfl, .inr (.inr (.inl ⟨by have := HN.out; have := H0.out; omega, by have := HN.out; have := H5.out; omega, rfl, i, k, HY.out.1, HX.out.1, HNO.out⟩)), HBZ.out⟩
          | true =>
            have hff : fy = fx := eq_of_beq hfe
            have HFF := Lib.hid hff
            clear hff
            by_cases hik : i = k
            · have HOK : Hid (Two D i k) := Lib.hid (HTW.out.2 ⟨HFF.out, fun h => absurd hik h⟩)
              have hikI : (i : Int) = (k : Int) := by omega
              refine wp_region_chain2 (fun t v => match t with
                | 27 => v = .agg YC
                | 28 => v = .string ⟨fy.toArray⟩
                | 29 => v = .agg XC
                | 30 => v = .string ⟨fx.toArray⟩
                | 31 => v = Value.bool false
                | 32 => v = Value.bool false
                | 33 => v = .int .i64 (i : Int)
                | 34 => v = .int .i64 (k : Int)
                | 35 => v = Value.bool false
                | 36 => v = Value.bool false
                | 37 => v = undef
                | 38 => v = undef
                | 39 => v = undef
                | 40 => v = undef
                | 41 => v = undef
                | 42 => v = Value.bool false
                | 43 => v = Value.bool false
                | _ => True) (fun (_ : Nat) (_ : Value) (w' : World) => Below W6.heap.size W6 w') [1] 46 (by kernel_rfl) (by decide +kernel) rfl (by decide +kernel) (by decide) (by decide) HG0.out (by
                refine OweAllC.cons (owesC_val 0 (by decide +kernel) (by decide) rfl rfl fun k' a w1_1 x hk ha hG hV => ?_) ?_
                · skip
                  have h4 := ha.outer 4 (by decide +kernel)
                  simp only [Act.eval] at h4
                  exact ⟨.agg YC, wanted_free rfl, exec_load_row 29 (.tmp 4) rfl g4 h4 29 YC (0, 0) _ ((hG.block g4 (Array.getElem?_eq_some_iff.1 HR56.out).1).trans HR56.out) Tryz.underlying29 rfl HYI.out, rfl⟩
                refine OweAllC.cons (owesC_call 0 rfl rfl rfl 28 fun a w1_1 x ha hG hx hV => ?_) ?_
                · skip
                  have h27 : a.tmps.getD 27 undef = .agg YC := hV.get 27 (by decide +kernel)
                  refine ⟨#[.agg YC], wanted_free rfl, by simp [execOp, resolve, invoke, go_sem, h27], ?_⟩
                  refine (HFY.out _ hG).mono ?_
                  rintro r u2 ⟨rfl, hb⟩; exact ⟨_, rfl, rfl, hG.trans (hb.mono hG.size)⟩
                refine OweAllC.cons (owesC_val 1 (by decide +kernel) (by decide) rfl rfl fun k' a w1_1 x hk ha hG hV => ?_) ?_
                · skip
                  have h6 := ha.outer 6 (by decide +kernel)
                  simp only [Act.eval] at h6
                  exact ⟨.agg XC, wanted_free rfl, exec_load_row 29 (.tmp 6) rfl g6 h6 29 XC (0, 0) _ ((hG.block g6 (Array.getElem?_eq_some_iff.1 HR6.out).1).trans HR6.out) Tryz.underlying29 rfl HXI.out, rfl⟩
                refine OweAllC.cons (owesC_side 1 (by decide +kernel) (by decide) rfl rfl 28 fun k' a w1_1 x hk ha hG hV => ?_) ?_
                · skip
                  have h29 : a.tmps.getD 29 undef = .agg XC := hV.get 29 (by decide +kernel)
                  refine ⟨#[.agg XC], wanted_free rfl, by simp [execOp, resolve, invoke, go_sem, h29], ?_⟩
                  refine (HFX.out _ hG).mono ?_
                  rintro r u2 ⟨rfl, hb⟩; exact ⟨_, rfl, rfl, hG.trans (hb.mono hG.size)⟩
                refine OweAllC.cons (owesC_val 1 (by decide +kernel) (by decide) rfl rfl fun k' a w1_1 x hk ha hG hV => ?_) ?_
                · skip
                  have h28 : a.tmps.getD 28 undef = .string ⟨fy.toArray⟩ := hV.get 28 (by decide +kernel)
                  have h30 : a.tmps.getD 30 undef = .string ⟨fx.toArray⟩ := hV.get 30 (by decide +kernel)
                  exact ⟨Value.bool false, wanted_free rfl, by simp [execOp, go_sem, h28, h30, hfe], rfl⟩
                refine OweAllC.cons (owesC_val 1 (by decide +kernel) (by decide) rfl rfl fun k' a w1_1 x hk ha hG hV => ?_) ?_
                · skip
                  have h31 : a.tmps.getD 31 undef = Value.bool false := hV.get 31 (by decide +kernel)
                  exact ⟨Value.bool false, wanted_free rfl, by simp [execOp, go_sem, h31], rfl⟩
                refine OweAllC.cons (owesC_val 1 (by decide +kernel) (by decide) rfl rfl fun k' a w1_1 x hk ha hG hV => ?_) ?_
                · skip
                  have h3 := ha.outer 3 (by decide +kernel)
                  simp only [Act.eval] at h3
                  exact ⟨.int .i64 (i : Int), (wanted_of (t := 32) rfl rfl (hV.get 32 (by decide +kernel))), by simp [execOp, go_sem, h3], rfl⟩
                refine OweAllC.cons (owesC_val 1 (by decide +kernel) (by decide) rfl rfl fun k' a w1_1 x hk ha hG hV => ?_) ?_
                · skip
                  have h5 := ha.outer 5 (by decide +kernel)
                  simp only [Act.eval] at h5
                  exact ⟨.int .i64 (k : Int), (wanted_of (t := 32) rfl rfl (hV.get 32 (by decide +kernel))), by simp [execOp, go_sem, h5], rfl⟩
                refine OweAllC.cons (owesC_val 1 (by decide +kernel) (by decide) rfl rfl fun k' a w1_1 x hk ha hG hV => ?_) ?_
                · skip
                  have h33 : a.tmps.getD 33 undef = .int .i64 (i : Int) := hV.get 33 (by decide +kernel)
                  have h34 : a.tmps.getD 34 undef = .int .i64 (k : Int) := hV.get 34 (by decide +kernel)
                  exact ⟨Value.bool false, (wanted_of (t := 32) rfl rfl (hV.get 32 (by decide +kernel))), by simp [execOp, go_sem, h33, h34, hikI, hik], rfl⟩
                refine OweAllC.cons (owesC_val 1 (by decide +kernel) (by decide) rfl rfl fun k' a w1_1 x hk ha hG hV => ?_) ?_
                · skip
                  have h35 : a.tmps.getD 35 undef = Value.bool false := hV.get 35 (by decide +kernel)
                  exact ⟨Value.bool false, (wanted_of (t := 32) rfl rfl (hV.get 32 (by decide +kernel))), by simp [execOp, go_sem, h35], rfl⟩
                refine OweAllC.cons (owesC_not 1 (by decide +kernel) (by decide) rfl rfl fun k' a w1_1 x hk ha hG hV => ⟨not_wanted (t := 36) rfl rfl (hV.get 36 (by decide +kernel)) (by first | simp; done | (intro h; cases h)), rfl⟩) ?_
                refine OweAllC.cons (owesC_not 1 (by decide +kernel) (by decide) rfl rfl fun k' a w1_1 x hk ha hG hV => ⟨not_wanted (t := 36) rfl rfl (hV.get 36 (by decide +kernel)) (by first | simp; done | (intro h; cases h)), rfl⟩) ?_
                refine OweAllC.cons (owesC_not 1 (by decide +kernel) (by decide) rfl rfl fun k' a w1_1 x hk ha hG hV => ⟨not_wanted (t := 36) rfl rfl (hV.get 36 (by decide +kernel)) (by first | simp; done | (intro h; cases h)), rfl⟩) ?_
                refine OweAllC.cons (owesC_not 1 (by decide +kernel) (by decide) rfl rfl fun k' a w1_1 x hk ha hG hV => ⟨not_wanted (t := 36) rfl rfl (hV.get 36 (by decide +kernel)) (by first | simp; done | (intro h; cases h)), rfl⟩) ?_
                refine OweAllC.cons (owesC_not 1 (by decide +kernel) (by decide) rfl rfl fun k' a w1_1 x hk ha hG hV => ⟨not_wanted (t := 36) rfl rfl (hV.get 36 (by decide +kernel)) (by first | simp; done | (intro h; cases h)), rfl⟩) ?_
                refine OweAllC.cons (owesC_val 1 (by decide +kernel) (by decide) rfl rfl fun k' a w1_1 x hk ha hG hV => ?_) ?_
                · skip
                  have h36 : a.tmps.getD 36 undef = Value.bool false := hV.get 36 (by decide +kernel)
                  exact ⟨Value.bool false, (wanted_of (t := 32) rfl rfl (hV.get 32 (by decide +kernel))), by simp [execOp, go_sem, h36], rfl⟩
                refine OweAllC.cons (owesC_val 1 (by decide +kernel) (by decide) rfl rfl fun k' a w1_1 x hk ha hG hV => ?_) ?_
                · skip
                  have h32 : a.tmps.getD 32 undef = Value.bool false := hV.get 32 (by decide +kernel)
                  have h42 : a.tmps.getD 42 undef = Value.bool false := hV.get 42 (by decide +kernel)
                  exact ⟨Value.bool false, wanted_free rfl, by simp [execOp, go_sem, h32, h42], rfl⟩
                exact OweAllC.nil
                ) ?_
              intro f wz xz hG hx hv
              have e43 : f 43 = Value.bool false := hv 16 _ 43 rfl rfl
              first | (rename_i hK; refine hK _ _ ?_; clear hK) | (rename_i hK _; refine hK _ _ ?_; clear hK) | (rename_i hK _ _; refine hK _ _ ?_; clear hK) | (rename_i hK _ _ _; refine hK _ _ ?_; clear hK)
              clear hv hx
              simp only [dsts, puts, List.filterMap_cons, List.filterMap_nil, List.foldl_cons, List.foldl_nil, Act.put, List.setIfInBounds_toArray, List.set_cons_succ, List.set_cons_zero, e43]
              clear e43
              have HBZ : Hid (Below W5.heap.size W5 wz) := Lib.hid (HB56.out.trans (hG.mono HB56.out.size))
              clear hG HG0
              go_wp2_with fail
              go_roundw
              case rel => exact ⟨k + 1, by omega, by go_num, Lib.hid ⟨HBZ.out, fun k' h => by
                by_cases e : k' = k
                · subst e; exact HOK.out
                · exact HT.out.2 k' (by omega)⟩⟩
              case measure => simp [intOf]; omega
            · have hikI : ¬ (i : Int) = (k : Int) := by omega
              by_cases hmm : my = mx
              · have HNO : Hid (¬ Two D i k) := Lib.hid (fun h => (HTW.out.1 h).2 hik hmm)
                refine wp_region_chain2 (fun t v => match t with
                  | 27 => v = .agg YC
                  | 28 => v = .string ⟨fy.toArray⟩
                  | 29 => v = .agg XC
                  | 30 => v = .string ⟨fx.toArray⟩
                  | 31 => v = Value.bool false
                  | 32 => v = Value.bool false
                  | 33 => v = .int .i64 (i : Int)
                  | 34 => v = .int .i64 (k : Int)
                  | 35 => v = Value.bool true
                  | 36 => v = Value.bool true
                  | 37 => v = .pointer (some ⟨g4, 1, none⟩)
                  | 38 => v = .int .i64 my
                  | 39 => v = .pointer (some ⟨g6, 1, none⟩)
                  | 40 => v = .int .i64 mx
                  | 41 => v = Value.bool true
                  | 42 => v = Value.bool true
                  | 43 => v = Value.bool true
                  | _ => True) (fun (_ : Nat) (_ : Value) (w' : World) => Below W6.heap.size W6 w') [1] 46 (by kernel_rfl) (by decide +kernel) rfl (by decide +kernel) (by decide) (by decide) HG0.out (by
                  refine OweAllC.cons (owesC_val 0 (by decide +kernel) (by decide) rfl rfl fun k' a w1_1 x hk ha hG hV => ?_) ?_
                  · skip
                    have h4 := ha.outer 4 (by decide +kernel)
                    simp only [Act.eval] at h4
                    exact ⟨.agg YC, wanted_free rfl, exec_load_row 29 (.tmp 4) rfl g4 h4 29 YC (0, 0) _ ((hG.block g4 (Array.getElem?_eq_some_iff.1 HR56.out).1).trans HR56.out) Tryz.underlying29 rfl HYI.out, rfl⟩
                  refine OweAllC.cons (owesC_call 0 rfl rfl rfl 28 fun a w1_1 x ha hG hx hV => ?_) ?_
                  · skip
                    have h27 : a.tmps.getD 27 undef = .agg YC := hV.get 27 (by decide +kernel)
                    refine ⟨#[.agg YC], wanted_free rfl, by simp [execOp, resolve, invoke, go_sem, h27], ?_⟩
                    refine (HFY.out _ hG).mono ?_
                    rintro r u2 ⟨rfl, hb⟩; exact ⟨_, rfl, rfl, hG.trans (hb.mono hG.size)⟩
                  refine OweAllC.cons (owesC_val 1 (by decide +kernel) (by decide) rfl rfl fun k' a w1_1 x hk ha hG hV => ?_) ?_
                  · skip
                    have h6 := ha.outer 6 (by decide +kernel)
                    simp only [Act.eval] at h6
                    exact ⟨.agg XC, wanted_free rfl, exec_load_row 29 (.tmp 6) rfl g6 h6 29 XC (0, 0) _ ((hG.block g6 (Array.getElem?_eq_some_iff.1 HR6.out).1).trans HR6.out) Tryz.underlying29 rfl HXI.out, rfl⟩
                  refine OweAllC.cons (owesC_side 1 (by decide +kernel) (by decide) rfl rfl 28 fun k' a w1_1 x hk ha hG hV => ?_) ?_
                  · skip
                    have h29 : a.tmps.getD 29 undef = .agg XC := hV.get 29 (by decide +kernel)
                    refine ⟨#[.agg XC], wanted_free rfl, by simp [execOp, resolve, invoke, go_sem, h29], ?_⟩
                    refine (HFX.out _ hG).mono ?_
                    rintro r u2 ⟨rfl, hb⟩; exact ⟨_, rfl, rfl, hG.trans (hb.mono hG.size)⟩
                  refine OweAllC.cons (owesC_val 1 (by decide +kernel) (by decide) rfl rfl fun k' a w1_1 x hk ha hG hV => ?_) ?_
                  · skip
                    have h28 : a.tmps.getD 28 undef = .string ⟨fy.toArray⟩ := hV.get 28 (by decide +kernel)
                    have h30 : a.tmps.getD 30 undef = .string ⟨fx.toArray⟩ := hV.get 30 (by decide +kernel)
                    exact ⟨Value.bool false, wanted_free rfl, by simp [execOp, go_sem, h28, h30, hfe], rfl⟩
                  refine OweAllC.cons (owesC_val 1 (by decide +kernel) (by decide) rfl rfl fun k' a w1_1 x hk ha hG hV => ?_) ?_
                  · skip
                    have h31 : a.tmps.getD 31 undef = Value.bool false := hV.get 31 (by decide +kernel)
                    exact ⟨Value.bool false, wanted_free rfl, by simp [execOp, go_sem, h31], rfl⟩
                  refine OweAllC.cons (owesC_val 1 (by decide +kernel) (by decide) rfl rfl fun k' a w1_1 x hk ha hG hV => ?_) ?_
                  · skip
                    have h3 := ha.outer 3 (by decide +kernel)
                    simp only [Act.eval] at h3
                    exact ⟨.int .i64 (i : Int), (wanted_of (t := 32) rfl rfl (hV.get 32 (by decide +kernel))), by simp [execOp, go_sem, h3], rfl⟩
                  refine OweAllC.cons (owesC_val 1 (by decide +kernel) (by decide) rfl rfl fun k' a w1_1 x hk ha hG hV => ?_) ?_
                  · skip
                    have h5 := ha.outer 5 (by decide +kernel)
                    simp only [Act.eval] at h5
                    exact ⟨.int .i64 (k : Int), (wanted_of (t := 32) rfl rfl (hV.get 32 (by decide +kernel))), by simp [execOp, go_sem, h5], rfl⟩
                  refine OweAllC.cons (owesC_val 1 (by decide +kernel) (by decide) rfl rfl fun k' a w1_1 x hk ha hG hV => ?_) ?_
                  · skip
                    have h33 : a.tmps.getD 33 undef = .int .i64 (i : Int) := hV.get 33 (by decide +kernel)
                    have h34 : a.tmps.getD 34 undef = .int .i64 (k : Int) := hV.get 34 (by decide +kernel)
                    exact ⟨Value.bool true, (wanted_of (t := 32) rfl rfl (hV.get 32 (by decide +kernel))), by simp [execOp, go_sem, h33, h34, hikI, hik], rfl⟩
                  refine OweAllC.cons (owesC_val 1 (by decide +kernel) (by decide) rfl rfl fun k' a w1_1 x hk ha hG hV => ?_) ?_
                  · skip
                    have h35 : a.tmps.getD 35 undef = Value.bool true := hV.get 35 (by decide +kernel)
                    exact ⟨Value.bool true, (wanted_of (t := 32) rfl rfl (hV.get 32 (by decide +kernel))), by simp [execOp, go_sem, h35], rfl⟩
                  refine OweAllC.cons (owesC_val 1 (by decide +kernel) (by decide) rfl rfl fun k' a w1_1 x hk ha hG hV => ?_) ?_
                  · skip
                    have h4 := ha.outer 4 (by decide +kernel)
                    simp only [Act.eval] at h4
                    exact ⟨.pointer (some ⟨g4, 1, none⟩), (wanted_of (t := 36) rfl rfl (hV.get 36 (by decide +kernel))), by simp [execOp, go_sem, h4], rfl⟩
                  refine OweAllC.cons (owesC_val 1 (by decide +kernel) (by decide) rfl rfl fun k' a w1_1 x hk ha hG hV => ?_) ?_
                  · skip
                    have h37 : a.tmps.getD 37 undef = .pointer (some ⟨g4, 1, none⟩) := hV.get 37 (by decide +kernel)
                    have cc : w1_1.cell? ⟨g4, 1, none⟩ = some (.int .i64 my) := by rw [cell_of_row _ g4 1 _ _ _ ((hG.block g4 (Array.getElem?_eq_some_iff.1 HR56.out).1).trans HR56.out)]; exact HYM.out
                    exact ⟨.int .i64 my, (wanted_of (t := 36) rfl rfl (hV.get 36 (by decide +kernel))), by simp [execOp, go_sem, h37, cc], rfl⟩
                  refine OweAllC.cons (owesC_val 1 (by decide +kernel) (by decide) rfl rfl fun k' a w1_1 x hk ha hG hV => ?_) ?_
                  · skip
                    have h6 := ha.outer 6 (by decide +kernel)
                    simp only [Act.eval] at h6
                    exact ⟨.pointer (some ⟨g6, 1, none⟩), (wanted_of (t := 36) rfl rfl (hV.get 36 (by decide +kernel))), by simp [execOp, go_sem, h6], rfl⟩
                  refine OweAllC.cons (owesC_val 1 (by decide +kernel) (by decide) rfl rfl fun k' a w1_1 x hk ha hG hV => ?_) ?_
                  · skip
                    have h39 : a.tmps.getD 39 undef = .pointer (some ⟨g6, 1, none⟩) := hV.get 39 (by decide +kernel)
                    have cc : w1_1.cell? ⟨g6, 1, none⟩ = some (.int .i64 mx) := by rw [cell_of_row _ g6 1 _ _ _ ((hG.block g6 (Array.getElem?_eq_some_iff.1 HR6.out).1).trans HR6.out)]; exact HXM.out
                    exact ⟨.int .i64 mx, (wanted_of (t := 36) rfl rfl (hV.get 36 (by decide +kernel))), by simp [execOp, go_sem, h39, cc], rfl⟩
                  refine OweAllC.cons (owesC_val 1 (by decide +kernel) (by decide) rfl rfl fun k' a w1_1 x hk ha hG hV => ?_) ?_
                  · skip
                    have h38 : a.tmps.getD 38 undef = .int .i64 my := hV.get 38 (by decide +kernel)
                    have h40 : a.tmps.getD 40 undef = .int .i64 mx := hV.get 40 (by decide +kernel)
                    exact ⟨Value.bool true, (wanted_of (t := 36) rfl rfl (hV.get 36 (by decide +kernel))), by simp [execOp, go_sem, h38, h40, hmm], rfl⟩
                  refine OweAllC.cons (owesC_val 1 (by decide +kernel) (by decide) rfl rfl fun k' a w1_1 x hk ha hG hV => ?_) ?_
                  · skip
                    have h36 : a.tmps.getD 36 undef = Value.bool true := hV.get 36 (by decide +kernel)
                    have h41 : a.tmps.getD 41 undef = Value.bool true := hV.get 41 (by decide +kernel)
                    exact ⟨Value.bool true, (wanted_of (t := 32) rfl rfl (hV.get 32 (by decide +kernel))), by simp [execOp, go_sem, h36, h41], rfl⟩
                  refine OweAllC.cons (owesC_val 1 (by decide +kernel) (by decide) rfl rfl fun k' a w1_1 x hk ha hG hV => ?_) ?_
                  · skip
                    have h32 : a.tmps.getD 32 undef = Value.bool false := hV.get 32 (by decide +kernel)
                    have h42 : a.tmps.getD 42 undef = Value.bool true := hV.get 42 (by decide +kernel)
                    exact ⟨Value.bool true, wanted_free rfl, by simp [execOp, go_sem, h32, h42], rfl⟩
                  exact OweAllC.nil
                  ) ?_
                intro f wz xz hG hx hv
                have e43 : f 43 = Value.bool true := hv 16 _ 43 rfl rfl
                first | (rename_i hK; refine hK _ _ ?_; clear hK) | (rename_i hK _; refine hK _ _ ?_; clear hK) | (rename_i hK _ _; refine hK _ _ ?_; clear hK) | (rename_i hK _ _ _; refine hK _ _ ?_; clear hK)
                clear hv hx
                simp only [dsts, puts, List.filterMap_cons, List.filterMap_nil, List.foldl_cons, List.foldl_nil, Act.put, List.setIfInBounds_toArray, List.set_cons_succ, List.set_cons_zero, e43]
                clear e43
                have HBZ : Hid (Below w.heap.size w wz) := Lib.hid (HB6.out.trans (hG.mono HB6.out.size))
                clear hG HG0
                go_wp2_with fail
                rw [HF.out]
                exact ⟨15, rfl, .inr (.inr (.inl ⟨by have := HN.out; have := H0.out; omega, by have := HN.out; have := H5.out; omega, rfl, i, k, HY.out.1, HX.out.1, HNO.out⟩)), HBZ.out⟩
              · have HOK : Hid (Two D i k) := Lib.hid (HTW.out.2 ⟨HFF.out, fun _ => hmm⟩)
                refine wp_region_chain2 (fun t v => match t with
                  | 27 => v = .agg YC
                  | 28 => v = .string ⟨fy.toArray⟩
                  | 29 => v = .agg XC
                  | 30 => v = .string ⟨fx.toArray⟩
                  | 31 => v = Value.bool false
                  | 32 => v = Value.bool false
                  | 33 => v = .int .i64 (i : Int)
                  | 34 => v = .int .i64 (k : Int)
                  | 35 => v = Value.bool true
                  | 36 => v = Value.bool true
                  | 37 => v = .pointer (some ⟨g4, 1, none⟩)
                  | 38 => v = .int .i64 my
                  | 39 => v = .pointer (some ⟨g6, 1, none⟩)
                  | 40 => v = .int .i64 mx
                  | 41 => v = Value.bool false
                  | 42 => v = Value.bool false
                  | 43 => v = Value.bool false
                  | _ => True) (fun (_ : Nat) (_ : Value) (w' : World) => Below W6.heap.size W6 w') [1] 46 (by kernel_rfl) (by decide +kernel) rfl (by decide +kernel) (by decide) (by decide) HG0.out (by
                  refine OweAllC.cons (owesC_val 0 (by decide +kernel) (by decide) rfl rfl fun k' a w1_1 x hk ha hG hV => ?_) ?_
                  · skip
                    have h4 := ha.outer 4 (by decide +kernel)
                    simp only [Act.eval] at h4
                    exact ⟨.agg YC, wanted_free rfl, exec_load_row 29 (.tmp 4) rfl g4 h4 29 YC (0, 0) _ ((hG.block g4 (Array.getElem?_eq_some_iff.1 HR56.out).1).trans HR56.out) Tryz.underlying29 rfl HYI.out, rfl⟩
                  refine OweAllC.cons (owesC_call 0 rfl rfl rfl 28 fun a w1_1 x ha hG hx hV => ?_) ?_
                  · skip
                    have h27 : a.tmps.getD 27 undef = .agg YC := hV.get 27 (by decide +kernel)
                    refine ⟨#[.agg YC], wanted_free rfl, by simp [execOp, resolve, invoke, go_sem, h27], ?_⟩
                    refine (HFY.out _ hG).mono ?_
                    rintro r u2 ⟨rfl, hb⟩; exact ⟨_, rfl, rfl, hG.trans (hb.mono hG.size)⟩
                  refine OweAllC.cons (owesC_val 1 (by decide +kernel) (by decide) rfl rfl fun k' a w1_1 x hk ha hG hV => ?_) ?_
                  · skip
                    have h6 := ha.outer 6 (by decide +kernel)
                    simp only [Act.eval] at h6
                    exact ⟨.agg XC, wanted_free rfl, exec_load_row 29 (.tmp 6) rfl g6 h6 29 XC (0, 0) _ ((hG.block g6 (Array.getElem?_eq_some_iff.1 HR6.out).1).trans HR6.out) Tryz.underlying29 rfl HXI.out, rfl⟩
                  refine OweAllC.cons (owesC_side 1 (by decide +kernel) (by decide) rfl rfl 28 fun k' a w1_1 x hk ha hG hV => ?_) ?_
                  · skip
                    have h29 : a.tmps.getD 29 undef = .agg XC := hV.get 29 (by decide +kernel)
                    refine ⟨#[.agg XC], wanted_free rfl, by simp [execOp, resolve, invoke, go_sem, h29], ?_⟩
                    refine (HFX.out _ hG).mono ?_
                    rintro r u2 ⟨rfl, hb⟩; exact ⟨_, rfl, rfl, hG.trans (hb.mono hG.size)⟩
                  refine OweAllC.cons (owesC_val 1 (by decide +kernel) (by decide) rfl rfl fun k' a w1_1 x hk ha hG hV => ?_) ?_
                  · skip
                    have h28 : a.tmps.getD 28 undef = .string ⟨fy.toArray⟩ := hV.get 28 (by decide +kernel)
                    have h30 : a.tmps.getD 30 undef = .string ⟨fx.toArray⟩ := hV.get 30 (by decide +kernel)
                    exact ⟨Value.bool false, wanted_free rfl, by simp [execOp, go_sem, h28, h30, hfe], rfl⟩
                  refine OweAllC.cons (owesC_val 1 (by decide +kernel) (by decide) rfl rfl fun k' a w1_1 x hk ha hG hV => ?_) ?_
                  · skip
                    have h31 : a.tmps.getD 31 undef = Value.bool false := hV.get 31 (by decide +kernel)
                    exact ⟨Value.bool false, wanted_free rfl, by simp [execOp, go_sem, h31], rfl⟩
                  refine OweAllC.cons (owesC_val 1 (by decide +kernel) (by decide) rfl rfl fun k' a w1_1 x hk ha hG hV => ?_) ?_
                  · skip
                    have h3 := ha.outer 3 (by decide +kernel)
                    simp only [Act.eval] at h3
                    exact ⟨.int .i64 (i : Int), (wanted_of (t := 32) rfl rfl (hV.get 32 (by decide +kernel))), by simp [execOp, go_sem, h3], rfl⟩
                  refine OweAllC.cons (owesC_val 1 (by decide +kernel) (by decide) rfl rfl fun k' a w1_1 x hk ha hG hV => ?_) ?_
                  · skip
                    have h5 := ha.outer 5 (by decide +kernel)
                    simp only [Act.eval] at h5
                    exact ⟨.int .i64 (k : Int), (wanted_of (t := 32) rfl rfl (hV.get 32 (by decide +kernel))), by simp [execOp, go_sem, h5], rfl⟩
                  refine OweAllC.cons (owesC_val 1 (by decide +kernel) (by decide) rfl rfl fun k' a w1_1 x hk ha hG hV => ?_) ?_
                  · skip
                    have h33 : a.tmps.getD 33 undef = .int .i64 (i : Int) := hV.get 33 (by decide +kernel)
                    have h34 : a.tmps.getD 34 undef = .int .i64 (k : Int) := hV.get 34 (by decide +kernel)
                    exact ⟨Value.bool true, (wanted_of (t := 32) rfl rfl (hV.get 32 (by decide +kernel))), by simp [execOp, go_sem, h33, h34, hikI, hik], rfl⟩
                  refine OweAllC.cons (owesC_val 1 (by decide +kernel) (by decide) rfl rfl fun k' a w1_1 x hk ha hG hV => ?_) ?_
                  · skip
                    have h35 : a.tmps.getD 35 undef = Value.bool true := hV.get 35 (by decide +kernel)
                    exact ⟨Value.bool true, (wanted_of (t := 32) rfl rfl (hV.get 32 (by decide +kernel))), by simp [execOp, go_sem, h35], rfl⟩
                  refine OweAllC.cons (owesC_val 1 (by decide +kernel) (by decide) rfl rfl fun k' a w1_1 x hk ha hG hV => ?_) ?_
                  · skip
                    have h4 := ha.outer 4 (by decide +kernel)
                    simp only [Act.eval] at h4
                    exact ⟨.pointer (some ⟨g4, 1, none⟩), (wanted_of (t := 36) rfl rfl (hV.get 36 (by decide +kernel))), by simp [execOp, go_sem, h4], rfl⟩
                  refine OweAllC.cons (owesC_val 1 (by decide +kernel) (by decide) rfl rfl fun k' a w1_1 x hk ha hG hV => ?_) ?_
                  · skip
                    have h37 : a.tmps.getD 37 undef = .pointer (some ⟨g4, 1, none⟩) := hV.get 37 (by decide +kernel)
                    have cc : w1_1.cell? ⟨g4, 1, none⟩ = some (.int .i64 my) := by rw [cell_of_row _ g4 1 _ _ _ ((hG.block g4 (Array.getElem?_eq_some_iff.1 HR56.out).1).trans HR56.out)]; exact HYM.out
                    exact ⟨.int .i64 my, (wanted_of (t := 36) rfl rfl (hV.get 36 (by decide +kernel))), by simp [execOp, go_sem, h37, cc], rfl⟩
                  refine OweAllC.cons (owesC_val 1 (by decide +kernel) (by decide) rfl rfl fun k' a w1_1 x hk ha hG hV => ?_) ?_
                  · skip
                    have h6 := ha.outer 6 (by decide +kernel)
                    simp only [Act.eval] at h6
                    exact ⟨.pointer (some ⟨g6, 1, none⟩), (wanted_of (t := 36) rfl rfl (hV.get 36 (by decide +kernel))), by simp [execOp, go_sem, h6], rfl⟩
                  refine OweAllC.cons (owesC_val 1 (by decide +kernel) (by decide) rfl rfl fun k' a w1_1 x hk ha hG hV => ?_) ?_
                  · skip
                    have h39 : a.tmps.getD 39 undef = .pointer (some ⟨g6, 1, none⟩) := hV.get 39 (by decide +kernel)
                    have cc : w1_1.cell? ⟨g6, 1, none⟩ = some (.int .i64 mx) := by rw [cell_of_row _ g6 1 _ _ _ ((hG.block g6 (Array.getElem?_eq_some_iff.1 HR6.out).1).trans HR6.out)]; exact HXM.out
                    exact ⟨.int .i64 mx, (wanted_of (t := 36) rfl rfl (hV.get 36 (by decide +kernel))), by simp [execOp, go_sem, h39, cc], rfl⟩
                  refine OweAllC.cons (owesC_val 1 (by decide +kernel) (by decide) rfl rfl fun k' a w1_1 x hk ha hG hV => ?_) ?_
                  · skip
                    have h38 : a.tmps.getD 38 undef = .int .i64 my := hV.get 38 (by decide +kernel)
                    have h40 : a.tmps.getD 40 undef = .int .i64 mx := hV.get 40 (by decide +kernel)
                    exact ⟨Value.bool false, (wanted_of (t := 36) rfl rfl (hV.get 36 (by decide +kernel))), by simp [execOp, go_sem, h38, h40, hmm], rfl⟩
                  refine OweAllC.cons (owesC_val 1 (by decide +kernel) (by decide) rfl rfl fun k' a w1_1 x hk ha hG hV => ?_) ?_
                  · skip
                    have h36 : a.tmps.getD 36 undef = Value.bool true := hV.get 36 (by decide +kernel)
                    have h41 : a.tmps.getD 41 undef = Value.bool false := hV.get 41 (by decide +kernel)
                    exact ⟨Value.bool false, (wanted_of (t := 32) rfl rfl (hV.get 32 (by decide +kernel))), by simp [execOp, go_sem, h36, h41], rfl⟩
                  refine OweAllC.cons (owesC_val 1 (by decide +kernel) (by decide) rfl rfl fun k' a w1_1 x hk ha hG hV => ?_) ?_
                  · skip
                    have h32 : a.tmps.getD 32 undef = Value.bool false := hV.get 32 (by decide +kernel)
                    have h42 : a.tmps.getD 42 undef = Value.bool false := hV.get 42 (by decide +kernel)
                    exact ⟨Value.bool false, wanted_free rfl, by simp [execOp, go_sem, h32, h42], rfl⟩
                  exact OweAllC.nil
                  ) ?_
                intro f wz xz hG hx hv
                have e43 : f 43 = Value.bool false := hv 16 _ 43 rfl rfl
                first | (rename_i hK; refine hK _ _ ?_; clear hK) | (rename_i hK _; refine hK _ _ ?_; clear hK) | (rename_i hK _ _; refine hK _ _ ?_; clear hK) | (rename_i hK _ _ _; refine hK _ _ ?_; clear hK)
                clear hv hx
                simp only [dsts, puts, List.filterMap_cons, List.filterMap_nil, List.foldl_cons, List.foldl_nil, Act.put, List.setIfInBounds_toArray, List.set_cons_succ, List.set_cons_zero, e43]
                clear e43
                have HBZ : Hid (Below W5.heap.size W5 wz) := Lib.hid (HB56.out.trans (hG.mono HB56.out.size))
                clear hG HG0
                go_wp2_with fail
                go_roundw
                case rel => exact ⟨k + 1, by omega, by go_num, Lib.hid ⟨HBZ.out, fun k' h => by
                  by_cases e : k' = k
                  · subst e; exact HOK.out
                  · exact HT.out.2 k' (by omega)⟩⟩
                case measure => simp [intOf]; omega
        · obtain rfl : n = k := by omega
          have hkt' : ¬ (n : Int) < n := by omega
          have HBW : Hid (Below w.heap.size w wr) := Lib.hid (HB5.out.trans (HT.out.1.mono HB5.out.size))
          clear hk k0 hkt
          go_wp2_with fail
          go_roundw
          case rel => exact ⟨i + 1, by omega, by go_num, Lib.hid ⟨HBW.out, fun i' k' h1 h2 => by
            by_cases e : i' = i
            · subst e; exact HT.out.2 k' h2
            · exact HS.out.2 i' k' (by omega) h2⟩⟩
          case measure => simp [intOf]; omega
    · obtain rfl : n = i := by omega
      have hlt' : ¬ (n : Int) < n := by omega
      go_wp2_with fail
      rw [HF.out]
      exact ⟨0, rfl, .inr (.inr (.inr ⟨by have := HN.out; have := H0.out; omega, by have := HN.out; have := H5.out; omega, rfl, fun i k h1 h2 => HS.out.2 i k (by have := HN.out; omega) (by have := HN.out; omega)⟩)), HS.out.1⟩
end Go.Proofs.YtemnebbdaljfbaaGreatDoor

namespace Go.Proofs.YtemnebbdaljfbaaGreatDoor
open Go.RowKit

set_option maxRecDepth 20000 in
set_option maxHeartbeats 8000000 in
theorem r8names_any (ao : Option Addr) (cap : Nat) (D : List RH) (w : World) (hL : Rd encR w ao D) (hA : ∀ x ∈ D, okH w x) (hl : D.length ≤ 100000) :
    Calls Tryz.prog 59 #[.slice ao D.length cap] w fun r w' => ∃ q c, r = .returned (.slice q (rsort (D.map fun x => nmR x.h)).length c) ∧ Rd encS w' q (rsort (D.map fun x => nmR x.h)) ∧ Below w.heap.size w w' := by
  obtain ⟨F, hF⟩ : ∃ F : Ending → World → Prop, F = fun r w' => ∃ q c, r = .returned (.slice q (rsort (D.map fun x => nmR x.h)).length c) ∧ Rd encS w' q (rsort (D.map fun x => nmR x.h)) ∧ Below w.heap.size w w' := ⟨_, rfl⟩
  rw [← hF]
  have HF := Lib.hid hF
  have HL := Lib.hid hL
  have HA := Lib.hid hA
  obtain ⟨n, hn⟩ : ∃ n, n = D.length := ⟨_, rfl⟩
  have HN := Lib.hid hn
  rw [← hn] at hl ⊢
  clear hF hL hA hn
  go_enter Tryz.func59, Tryz.ntmps59
  go_upto_region 2 with (refine wpList_exec rfl (exec_nos 27 9 rfl Tryz.underlying27 (sz := 1) (by kernel_rfl)) ?_; go_frame)
  have H0 : Hid (AccR encS 9 w 0 [] (some ⟨w.heap.size, 0, none⟩) 0 (w.alloc (.cells #[] 9))) := Lib.hid ⟨Rw.made (E := encS) 9 w [] (by simp), rfl, fun a e => by cases e; exact Nat.le_refl _, alloc1 _ _⟩
  go_wp2_with fail
  go_loopw [3, 9] (fun s3 s9 wr => ∃ (k : Nat) (q : Option Addr) (c : Nat), k ≤ n ∧ s9 = .int .i64 (k : Int) ∧ s3 = .slice q k c ∧ Hid (AccR encS 9 w k ((D.take k).map fun x => nmR x.h) q c wr)) (fun _ s9 _ => n - (intOf s9).toNat)
  case atStart => exact ⟨0, _, 0, Nat.zero_le _, rfl, rfl, H0⟩
  case round =>
    clear H0
    obtain ⟨k, q, c, hk, rfl, rfl, HS⟩ := hrel
    have k0 : (0 : Int) ≤ k := by omega
    by_cases hlt : k < n
    · have hlt' : (k : Int) < n := by omega
      have hkl : k < D.length := by have := HN.out; omega
      obtain ⟨bs, off, rfl, hbs, hc⟩ := (HL.out.old HS.out.m) k hkl
      obtain ⟨y, hy⟩ : ∃ y, y = D[k] := ⟨_, rfl⟩
      have HTK : Hid (((D.take k).map fun x => nmR x.h) ++ [nmR y.h] = (D.take (k + 1)).map fun x => nmR x.h) := Lib.hid (by rw [List.take_succ_eq_append_getElem hkl, List.map_append, hy]; rfl)
      rw [← hy] at hc
      have HCC : Hid (∀ i u, y.cells[i]? = some u → wr.cell? ⟨bs, off + k * 7 + i, none⟩ = some u) := Lib.hid hc
      have HYA : Hid (okH wr y) := Lib.hid (hy ▸ (HA.out _ (List.getElem_mem hkl)).old HS.out.m)
      have HSZ : Hid (y.cells.toArray.size = 7) := Lib.hid rfl
      have HQ3 : Hid ((Tryz.prog.info? 29).map (·.size) = some y.cells.toArray.size) := Lib.hid rhinfo
      have HQ4 : Hid (∀ v ∈ y.cells.toArray.toList, v.oneCell' = true) := Lib.hid (by simpa using y.one)
      clear hy hc hbs hkl
      go_upto_region 5 with (first
        | (refine wpList_exec rfl (exec_load_rhm (.tmp 11) rfl bs (off + k * 7) rfl y HCC.out) ?_; go_frame)
        | (refine wpList_store_row rfl rfl 29 (.tmp 5) (.tmp 12) rfl wr.heap.size rfl 29 _ y.cells.toArray rfl (heap_alloc_new wr _) HSZ.out.symm HQ3.out HQ4.out ?_))
      refine wp_gen (fun W1 => W1.heap[wr.heap.size]? = some (.cells y.cells.toArray 29 (0, 0)) ∧ Below wr.heap.size wr W1) (row_new wr _ _ y.cells.toArray 29 rfl) (fun W1 hW1 => ?_)
      have HRW := Lib.hid hW1.1
      have HB1 := Lib.hid hW1.2
      have HID := Lib.hid ((HYA.out.old hW1.2).id)
      have HS1 := Lib.hid (HS.out.below hW1.2)
      obtain ⟨nm, hnm⟩ : ∃ nm, nm = nmR y.h := ⟨_, rfl⟩
      rw [← hnm] at HID HTK
      obtain ⟨M, hM⟩ : ∃ M, M = (D.take k).map fun x => nmR x.h := ⟨_, rfl⟩
      rw [← hM] at HS1 HTK
      clear hW1 HCC HQ4 HSZ hnm hM HS
      go_wp2_with (refine wpList_exec rfl (exec_load_rh (.tmp 5) rfl wr.heap.size rfl y.cells.toArray HQ3.out HRW.out) ?_; go_frame)
      refine HID.out.mono ?_
      rintro r w2 ⟨rfl, hb2⟩
      have hb3 := alloc1 w2 (.cells #[.string ⟨nm.toArray⟩] 9)
      have HA3 := Lib.hid (HS1.out.below (hb2.trans (hb3.mono hb2.size)))
      have HDL : Hid (M.length = k) := Lib.hid HS1.out.len
      have HRD : Hid (Rd encS (w2.alloc (.cells #[.string ⟨nm.toArray⟩] 9)) (some ⟨w2.heap.size, 0, none⟩) [nm]) := Lib.hid (Rd.made encS w2 9 [nm] (by simp [maxLen]))
      have HNB : Hid (k + 1 ≤ 100000000000) := Lib.hid (by omega)
      clear hb2 hb3 HS1 HID HB1 HRW HQ3
      go_wp2_with (at_builtin; refine wpList_pushR encS rfl (.tmp 13) (.tmp 16) 27 9 (.string ⟨#[]⟩) 16 rfl Tryz.underlying27 info_strH rfl (by decide) q c k M HDL.out rfl HA3.out.s (some ⟨w2.heap.size, 0, none⟩) 1 1 [nm] rfl rfl HRD.out HNB.out ?_; intro q2 c2 w4 hP; have HP := Lib.hid hP; clear hP; go_frame)
      have HA4 : Hid (AccR encS 9 w (k + 1) ((D.take (k + 1)).map fun x => nmR x.h) q2 c2 w4) := Lib.hid (by rw [← HTK.out]; exact HA3.out.push HP.out)
      clear HP HA3 HRD
      go_roundw
      case rel => exact ⟨k + 1, q2, c2, by omega, by go_num, rfl, HA4⟩
      case measure => simp [intOf]; omega
    · obtain rfl : n = k := by omega
      have hlt' : ¬ (n : Int) < n := by omega
      have hD : ((D.take n).map fun x => nmR x.h) = D.map fun x => nmR x.h := by rw [List.take_of_length_le (by have := HN.out; omega)]
      have HSRT := Lib.hid (rsorts_any q c (D.map fun x => nmR x.h) wr (by have h := HS.out.s.rd; rw [hD] at h; exact h) (by rw [List.length_map]; have := HN.out; omega))
      rw [List.length_map, ← HN.out] at HSRT
      have HB := Lib.hid HS.out.m
      clear hlt hD HS
      go_wp2_with fail
      refine HSRT.out.mono ?_
      rintro r w2 ⟨qs, cs, rfl, hrs, _, hb2⟩
      have HB2 := Lib.hid (HB.out.trans (hb2.mono HB.out.size))
      have HS2 := Lib.hid hrs.rd
      clear hrs hb2 HSRT HB
      go_wp2_with fail
      rw [HF.out]
      exact ⟨qs, cs, rfl, HS2.out, HB2.out⟩
def winsR (D : List RH) : Int := D.foldl (fun s x => wrap64 (s + x.h.wi)) 0
set_option maxRecDepth 20000 in
set_option maxHeartbeats 4000000 in
theorem r8wins_any (ao : Option Addr) (cap : Nat) (D : List RH) (w : World) (hL : Rd encR w ao D) (hl : D.length ≤ 100000) :
    Calls Tryz.prog 53 #[.slice ao D.length cap] w fun r w' => r = .returned (.int .i64 (winsR D)) ∧ Below w.heap.size w w' := by
  have HL := Lib.hid hL
  obtain ⟨n, hn⟩ : ∃ n, n = D.length := ⟨_, rfl⟩
  have HN := Lib.hid hn
  rw [← hn] at hl ⊢
  have H0 : Hid (Below w.heap.size w w) := Lib.hid (Below.refl _ _)
  clear hL hn
  go_enter Tryz.func53, Tryz.ntmps53
  go_wp2_with fail
  go_loopw [3, 8] (fun s3 s8 wr => ∃ k : Nat, k ≤ n ∧ s8 = .int .i64 (k : Int) ∧ s3 = .int .i64 (winsR (D.take k)) ∧ Hid (Below w.heap.size w wr)) (fun _ s8 _ => n - (intOf s8).toNat)
  case atStart => exact ⟨0, Nat.zero_le _, rfl, rfl, H0⟩
  case round =>
    clear H0
    obtain ⟨k, hk, rfl, rfl, HS⟩ := hrel
    have k0 : (0 : Int) ≤ k := by omega
    by_cases hlt : k < n
    · have hlt' : (k : Int) < n := by omega
      have hkl : k < D.length := by have := HN.out; omega
      obtain ⟨bs, off, rfl, hbs, hc⟩ := (HL.out.old HS.out) k hkl
      obtain ⟨y, hy⟩ : ∃ y, y = D[k] := ⟨_, rfl⟩
      have HNX : Hid (winsR (D.take (k + 1)) = wrap64 (winsR (D.take k) + y.h.wi)) := Lib.hid (by
        rw [List.take_succ_eq_append_getElem hkl, ← hy]
        unfold winsR
        rw [List.foldl_append]; rfl)
      rw [← hy] at hc
      have HCC : Hid (∀ i u, y.cells[i]? = some u → wr.cell? ⟨bs, off + k * 7 + i, none⟩ = some u) := Lib.hid hc
      have HSZ : Hid (y.cells.toArray.size = 7) := Lib.hid rfl
      have HQ3 : Hid ((Tryz.prog.info? 29).map (·.size) = some y.cells.toArray.size) := Lib.hid rhinfo
      have HQ4 : Hid (∀ v ∈ y.cells.toArray.toList, v.oneCell' = true) := Lib.hid (by simpa using y.one)
      clear hy hc hbs hkl
      go_upto_region 5 with (first
        | (refine wpList_exec rfl (exec_load_rhm (.tmp 10) rfl bs (off + k * 7) rfl y HCC.out) ?_; go_frame)
        | (refine wpList_store_row rfl rfl 29 (.tmp 5) (.tmp 11) rfl wr.heap.size rfl 29 _ y.cells.toArray rfl (heap_alloc_new wr _) HSZ.out.symm HQ3.out HQ4.out ?_))
      refine wp_gen (fun W1 => W1.heap[wr.heap.size]? = some (.cells y.cells.toArray 29 (0, 0)) ∧ Below wr.heap.size wr W1) (row_new wr _ _ y.cells.toArray 29 rfl) (fun W1 hW1 => ?_)
      have c3 : W1.cell? ⟨wr.heap.size, 3, none⟩ = some (.int .i64 y.h.wi) := by rw [cell_of_row _ _ 3 _ _ _ hW1.1]; rfl
      have HB1 : Hid (Below w.heap.size w W1) := Lib.hid (HS.out.trans (hW1.2.mono HS.out.size))
      clear hW1 HCC HQ4 HSZ HQ3 HS
      go_wp2_with fail
      go_roundw
      case rel => exact ⟨k + 1, by omega, by go_num, by rw [HNX.out], HB1⟩
      case measure => simp [intOf]; omega
    · obtain rfl : n = k := by omega
      have hlt' : ¬ (n : Int) < n := by omega
      have hD : winsR (D.take n) = winsR D := by rw [List.take_of_length_le (by have := HN.out; omega)]
      have HD := Lib.hid hD
      clear hlt hD
      go_wp2_with fail
      go_ret
      exact ⟨by rw [HD.out]; rfl, HS.out⟩
def tickR : List RH → List UInt8
  | [] => []
  | x :: l => (x :: l).foldl (fun s y => leastS s y.h.tk) x.h.tk
theorem leastS_lt {s t : List UInt8} (h : Op.bytesLess t s = true) : leastS s t = t := by
  rw [Go.Proofs.bytesLess_eq, decide_eq_true_eq] at h
  have h2 : Op.bytesLess s t = false := by rw [Go.Proofs.bytesLess_eq, decide_eq_false_iff_not]; exact List.lt_asymm h
  unfold leastS
  rw [h2]; rfl
theorem leastS_ge {s t : List UInt8} (h : Op.bytesLess t s = false) : leastS s t = s := by
  rw [Go.Proofs.bytesLess_eq, decide_eq_false_iff_not] at h
  unfold leastS
  cases h2 : Op.bytesLess s t with
  | true => rfl
  | false =>
    rw [Go.Proofs.bytesLess_eq, decide_eq_false_iff_not] at h2
    exact List.le_antisymm h2 h
theorem leastS_self (s : List UInt8) : leastS s s = s := by unfold leastS; split <;> rfl
def tkK (D : List RH) (k : Nat) : List UInt8 := tickR (D.take k)
theorem tkK_one {D : List RH} (h : 0 < D.length) : tkK D 1 = D[0].h.tk := by
  obtain ⟨x, l, rfl⟩ : ∃ x l, D = x :: l := by cases D with
    | nil => simp at h
    | cons x l => exact ⟨x, l, rfl⟩
  show leastS x.h.tk x.h.tk = _
  rw [leastS_self]; rfl
theorem tkK_next {D : List RH} {k : Nat} (h0 : 0 < k) (h : k < D.length) : tkK D (k + 1) = leastS (tkK D k) D[k].h.tk := by
  unfold tkK
  rw [List.take_succ_eq_append_getElem h]
  obtain ⟨x, l, hl⟩ : ∃ x l, D.take k = x :: l := by
    cases hd : D.take k with
    | nil => have := congrArg List.length hd; simp only [List.length_take, List.length_nil] at this; omega
    | cons x l => exact ⟨x, l, rfl⟩
  rw [hl]
  show (x :: (l ++ [D[k]])).foldl _ _ = leastS ((x :: l).foldl _ _) _
  rw [← List.cons_append, List.foldl_append]; rfl
set_option maxRecDepth 20000 in
set_option maxHeartbeats 4000000 in
theorem r8ticket_any (ao : Option Addr) (cap : Nat) (D : List RH) (w : World) (hL : Rd encR w ao D) (hl : D.length ≤ 100000) :
    Calls Tryz.prog 55 #[.slice ao D.length cap] w fun r w' => r = .returned (.string ⟨(tickR D).toArray⟩) ∧ Below w.heap.size w w' := by
  have HL := Lib.hid hL
  obtain ⟨n, hn⟩ : ∃ n, n = D.length := ⟨_, rfl⟩
  have HN := Lib.hid hn
  rw [← hn] at hl ⊢
  have H0 : Hid (Below w.heap.size w w) := Lib.hid (Below.refl _ _)
  clear hL hn
  go_enter Tryz.func55, Tryz.ntmps55
  go_wp2_with fail
  go_loopw [3, 8] (fun s3 s8 wr => ∃ (k : Nat) (t : List UInt8), k ≤ n ∧ s8 = .int .i64 (k : Int) ∧ s3 = .string ⟨t.toArray⟩ ∧ Hid (t = tkK D k) ∧ Hid (Below w.heap.size w wr)) (fun _ s8 _ => n - (intOf s8).toNat)
  case atStart => exact ⟨0, [], Nat.zero_le _, rfl, rfl, Lib.hid rfl, H0⟩
  case round =>
    clear H0
    obtain ⟨k, t, hk, rfl, rfl, HTT, HS⟩ := hrel
    have k0 : (0 : Int) ≤ k := by omega
    by_cases hlt : k < n
    · have hlt' : (k : Int) < n := by omega
      have hkl : k < D.length := by have := HN.out; omega
      obtain ⟨bs, off, rfl, hbs, hc⟩ := (HL.out.old HS.out) k hkl
      obtain ⟨y, hy⟩ : ∃ y, y = D[k] := ⟨_, rfl⟩
      have HN0 : Hid (k = 0 → tkK D (k + 1) = y.h.tk) := Lib.hid (by intro e; subst e; rw [hy]; exact tkK_one hkl)
      have HN1 : Hid (0 < k → tkK D (k + 1) = leastS t y.h.tk) := Lib.hid (by intro e; rw [HTT.out, hy]; exact tkK_next e hkl)
      rw [← hy] at hc
      have HCC : Hid (∀ i u, y.cells[i]? = some u → wr.cell? ⟨bs, off + k * 7 + i, none⟩ = some u) := Lib.hid hc
      have HSZ : Hid (y.cells.toArray.size = 7) := Lib.hid rfl
      have HQ3 : Hid ((Tryz.prog.info? 29).map (·.size) = some y.cells.toArray.size) := Lib.hid rhinfo
      have HQ4 : Hid (∀ v ∈ y.cells.toArray.toList, v.oneCell' = true) := Lib.hid (by simpa using y.one)
      clear hy hc hbs hkl
      go_upto_region 5 with (first
        | (refine wpList_exec rfl (exec_load_rhm (.tmp 11) rfl bs (off + k * 7) rfl y HCC.out) ?_; go_frame)
        | (refine wpList_store_row rfl rfl 29 (.tmp 5) (.tmp 12) rfl wr.heap.size rfl 29 _ y.cells.toArray rfl (heap_alloc_new wr _) HSZ.out.symm HQ3.out HQ4.out ?_))
      refine wp_gen (fun W1 => W1.heap[wr.heap.size]? = some (.cells y.cells.toArray 29 (0, 0)) ∧ Below wr.heap.size wr W1) (row_new wr _ _ y.cells.toArray 29 rfl) (fun W1 hW1 => ?_)
      obtain ⟨tk, htk⟩ : ∃ tk, tk = y.h.tk := ⟨_, rfl⟩
      have c2 : W1.cell? ⟨wr.heap.size, 2, none⟩ = some (.string ⟨tk.toArray⟩) := by rw [htk, cell_of_row _ _ 2 _ _ _ hW1.1]; rfl
      have HB1 : Hid (Below w.heap.size w W1) := Lib.hid (HS.out.trans (hW1.2.mono HS.out.size))
      rw [← htk] at HN0 HN1
      clear hW1 HCC HQ4 HSZ HQ3 HS htk
      by_cases hk0 : k = 0
      · have HK := Lib.hid (HN0.out hk0)
        subst hk0
        go_wp2_with fail
        go_roundw
        case rel => exact ⟨1, tk, by omega, rfl, rfl, Lib.hid HK.out.symm, HB1⟩
        case measure => simp [intOf]; omega
      · have hk1 : ((k : Int) == 0) = false := by simp; omega
        have HK := Lib.hid (HN1.out (by omega))
        cases hb : Op.bytesLess tk t with
        | true =>
          have HE := Lib.hid (HK.out.trans (leastS_lt hb))
          go_wp2_with fail
          go_roundw
          case rel => exact ⟨k + 1, tk, by omega, by go_num, rfl, Lib.hid HE.out.symm, HB1⟩
          case measure => simp [intOf]; omega
        | false =>
          have HE := Lib.hid (HK.out.trans (leastS_ge hb))
          go_wp2_with fail
          go_roundw
          case rel => exact ⟨k + 1, t, by omega, by go_num, rfl, Lib.hid HE.out.symm, HB1⟩
          case measure => simp [intOf]; omega
    · obtain rfl : n = k := by omega
      have hlt' : ¬ (n : Int) < n := by omega
      have hD : tkK D n = tickR D := by unfold tkK; rw [List.take_of_length_le (by have := HN.out; omega)]
      have HD := Lib.hid hD
      clear hlt hD
      go_wp2_with fail
      go_ret
      exact ⟨by rw [HTT.out, HD.out]; rfl, HS.out⟩
set_option maxRecDepth 20000 in
set_option maxHeartbeats 4000000 in
theorem r8key_any (ao : Option Addr) (cap : Nat) (D : List RH) (w : World) (hL : Rd encR w ao D) (hA : ∀ x ∈ D, okH w x) (hl : D.length ≤ 100000) :
    Calls Tryz.prog 51 #[.slice ao D.length cap] w fun r w' => r = .returned (.string ⟨(rsort (D.map fun x => nmR x.h)).flatten.toArray⟩) ∧ Below w.heap.size w w' := by
  have HNM := Lib.hid (r8names_any ao cap D w hL hA hl)
  obtain ⟨P, hP⟩ : ∃ P, P = rsort (D.map fun x => nmR x.h) := ⟨_, rfl⟩
  have hPl : P.length ≤ 100000 := by rw [hP]; have h1 := rsort_len (D.map fun x => nmR x.h); rw [List.length_map] at h1; omega
  have hPf : P.flatten.length ≤ 1000000000 := by
    rw [flat32 P (fun p hp => by
      rw [hP] at hp
      obtain ⟨x, _, rfl⟩ := List.mem_map.1 (rsort_mem _ p hp)
      exact shaB_len _)]
    omega
  have HJ := Lib.hid (fun (q : Option Addr) (c : Nat) (u : World) (h : Rd encS u q P) => rjoin_any q c P u h (by omega) hPf)
  rw [← hP] at HNM ⊢
  obtain ⟨n, hn⟩ : ∃ n, n = D.length := ⟨_, rfl⟩
  obtain ⟨m, hm⟩ : ∃ m, m = P.length := ⟨_, rfl⟩
  obtain ⟨FL, hFL⟩ : ∃ FL, FL = P.flatten := ⟨_, rfl⟩
  rw [← hn, ← hm] at HNM
  rw [← hm, ← hFL] at HJ
  rw [← hn, ← hFL]
  clear hL hA hl hP hPl hPf hn hm hFL
  go_enter Tryz.func51, Tryz.ntmps51
  go_wp2_with fail
  refine HNM.out.mono ?_
  rintro r w1 ⟨q, c, rfl, hr, hb⟩
  have HJ1 := Lib.hid (HJ.out q c w1 hr)
  have HB := Lib.hid hb
  clear hr hb HNM HJ
  go_wp2_with fail
  refine HJ1.out.mono ?_
  rintro r w2 ⟨rfl, rfl⟩
  go_wp2_with fail
  go_ret
  exact ⟨rfl, HB.out⟩
end Go.Proofs.YtemnebbdaljfbaaGreatDoor

namespace Go.Proofs.YtemnebbdaljfbaaGreatDoor
open Go.RowKit

def chkR (x : RH) : Int := chk x.h (rs x.h.ps (x.h.ps.length - 1))
def RkP (L : List RBk) (x : RH) (e : Int) : Prop :=
  (chkR x ≠ 0 ∧ e = chkR x) ∨ (chkR x = 0 ∧ (∃ b ∈ L, b.nm = nmR x.h) ∧ e = 9) ∨
    (chkR x = 0 ∧ (∀ b ∈ L, b.nm ≠ nmR x.h) ∧ ((∃ p ∈ x.h.ps, ∀ b ∈ L, b.nm ≠ p) ∧ e = 7 ∨
      ∃ D e8, HsP L x.h.ps D ∧ Ck8 D e8 ∧ ((e8 ≠ 0 ∧ e = 10) ∨ (e8 = 0 ∧ ∃ y, D[0]? = some y ∧ ((x.h.ht ≤ y.h.ht ∧ e = 11) ∨ (y.h.ht < x.h.ht ∧ e = 0))))))
set_option maxRecDepth 20000 in
set_option maxHeartbeats 8000000 in
theorem r13check_any (ao : Option Addr) (cap : Nat) (L : List RBk) (x : RH) (w : World) (hL : Rd encRB w ao L) (hl : L.length ≤ 1000000) (hA : ∀ b ∈ L, fmR w b.x) (hx : okH w x) :
    Calls Tryz.prog 11 #[.slice ao L.length cap, .agg x.cells.toArray] w fun r w' => ∃ e, r = .returned (.int .i64 e) ∧ RkP L x e ∧ Below w.heap.size w w' := by
  obtain ⟨F, hF⟩ : ∃ F : Ending → World → Prop, F = fun r w' => ∃ e, r = .returned (.int .i64 e) ∧ RkP L x e ∧ Below w.heap.size w w' := ⟨_, rfl⟩
  rw [← hF]
  have HF := Lib.hid hF
  have HL := Lib.hid hL
  have HA := Lib.hid hA
  have HX := Lib.hid hx
  have HFN := Lib.hid (fun (u : World) (hb : Below w.heap.size w u) (t : List UInt8) => rfind_any ao cap L t u (hL.old hb) (by omega))
  have HHD := Lib.hid (fun (u : World) (hb : Below w.heap.size w u) => rheaders_any ao cap L x.q x.c x.h.ps u (hL.old hb) hl (hx.a.rd.old hb) (by have := hx.n; omega))
  obtain ⟨YC, hYC⟩ : ∃ YC, YC = x.cells.toArray := ⟨_, rfl⟩
  have HYC := Lib.hid hYC
  rw [← hYC]
  have HYI : Hid ((Tryz.prog.info? 29).map (·.size) = some YC.size) := Lib.hid (by rw [hYC]; exact rh_info x)
  obtain ⟨n, hn⟩ : ∃ n, n = L.length := ⟨_, rfl⟩
  rw [← hn] at HFN HHD ⊢
  obtain ⟨W1, hW1⟩ : ∃ W1, W1 = w.alloc (.cells YC 29) := ⟨_, rfl⟩
  obtain ⟨g, hg⟩ : ∃ g, g = w.heap.size := ⟨_, rfl⟩
  have hb1 : Below w.heap.size w W1 := by rw [hW1]; exact alloc1 _ _
  have hrow : W1.heap[g]? = some (.cells YC 29 (0, 0)) := by rw [hW1, hg]; exact heap_alloc_new w _
  have HW1 := Lib.hid hW1
  have HGE := Lib.hid hg
  have HB1 := Lib.hid hb1
  have HROW := Lib.hid hrow
  have HCK : Hid (Calls Tryz.prog 44 #[.agg YC] W1 fun r w' => r = .returned (.int .i64 (chkR x)) ∧ Below W1.heap.size W1 w') := Lib.hid (by rw [hYC]; exact rcheck_any x.h x.q x.c W1 (hx.a.rd.old hb1))
  obtain ⟨c, hc⟩ : ∃ c, c = chkR x := ⟨_, rfl⟩
  have HCE := Lib.hid hc
  rw [← hc] at HCK
  clear hF hL hl hA hx hYC hn hW1 hg hb1 hrow hc
  go_enter Tryz.func11, Tryz.ntmps11
  go_upto_region 1 with fail
  rw [← HW1.out, ← HGE.out]
  go_upto_region 2 with (refine wpList_exec rfl (exec_load_row 29 (.tmp 3) rfl g rfl 29 YC (0, 0) _ HROW.out Tryz.underlying29 rfl HYI.out) ?_)
  refine HCK.out.mono ?_
  rintro r W2 ⟨rfl, hb2⟩
  have hr2 := (hb2.block g (Array.getElem?_eq_some_iff.1 HROW.out).1).trans HROW.out
  have HR2 := Lib.hid hr2
  have HB2 := Lib.hid (HB1.out.trans (hb2.mono HB1.out.size))
  clear hb2 hr2 HCK
  by_cases hc0 : c = 0
  · have HC0 : Hid (chkR x = 0) := Lib.hid (by rw [← HCE.out]; exact hc0)
    have HID : Hid (Calls Tryz.prog 46 #[.agg YC] W2 fun r w' => r = .returned (.string ⟨(nmR x.h).toArray⟩) ∧ Below W2.heap.size W2 w') := Lib.hid (by rw [HYC.out]; exact (HX.out.old HB2.out).id)
    subst hc0
    go_upto_region 4 with fail
    go_upto_region 5 with (refine wpList_exec rfl (exec_load_row 29 (.tmp 3) rfl g rfl 29 YC (0, 0) _ HR2.out Tryz.underlying29 rfl HYI.out) ?_)
    refine HID.out.mono ?_
    rintro r W3 ⟨rfl, hb3⟩
    have HR3 := Lib.hid ((hb3.block g (Array.getElem?_eq_some_iff.1 HR2.out).1).trans HR2.out)
    have HB3 := Lib.hid (HB2.out.trans (hb3.mono HB2.out.size))
    clear hb3 HID
    go_upto_region 5 with fail
    refine (HFN.out W3 HB3.out _).mono ?_
    rintro r W4 ⟨e, rfl, hf, hb4⟩
    have HR4 := Lib.hid ((hb4.block g (Array.getElem?_eq_some_iff.1 HR3.out).1).trans HR3.out)
    have HB4 := Lib.hid (HB3.out.trans (hb4.mono HB3.out.size))
    clear hb4
    rcases hf with ⟨rfl, hno⟩ | ⟨i, hi, rfl, hnm⟩
    · have HNO := Lib.hid hno
      have hcell : W4.cell? ⟨g, 5, none⟩ = some (.slice x.q x.h.ps.length x.c) := by rw [cell_of_row _ g 5 _ _ _ HR4.out, HYC.out]; rfl
      have HHD2 := Lib.hid (HHD.out W4 HB4.out)
      obtain ⟨pn, hpn⟩ : ∃ pn, pn = x.h.ps.length := ⟨_, rfl⟩
      rw [← hpn] at hcell HHD2
      clear hno hpn
      go_upto_region 6 with fail
      go_upto_region 7 with fail
      refine HHD2.out.mono ?_
      rintro r W5 ⟨q, cc, D, ok, rfl, hp, hd, hb5⟩
      have HR5 := Lib.hid ((hb5.block g (Array.getElem?_eq_some_iff.1 HR4.out).1).trans HR4.out)
      have HB5 := Lib.hid (HB4.out.trans (hb5.mono HB4.out.size))
      clear hb5 hcell HHD2
      rcases hp with ⟨rfl, rfl, hmiss⟩ | ⟨rfl, hhs⟩
      · have HMI := Lib.hid hmiss
        clear hmiss
        go_wp2_with fail
        rw [HF.out]
        exact ⟨7, rfl, .inr (.inr ⟨HC0.out, HNO.out, .inl ⟨HMI.out, rfl⟩⟩), HB5.out⟩
      · have HHS := Lib.hid hhs
        have HD := Lib.hid hd
        have HC8 := Lib.hid (r8check_any q cc D W5 hd (fun y hy => by
          obtain ⟨j, hj, rfl⟩ := List.mem_iff_getElem.1 hy
          obtain ⟨b, hb, _, e⟩ := hhs.2 j (x.h.ps[j]'(by rw [← hhs.1]; exact hj)) (List.getElem?_eq_getElem _)
          rw [List.getElem?_eq_getElem hj] at e
          rw [Option.some.inj e]
          exact (HA.out b hb).old HB5.out))
        obtain ⟨dn, hdn⟩ : ∃ dn, dn = D.length := ⟨_, rfl⟩
        have HDN := Lib.hid hdn
        rw [← hdn] at HC8 ⊢
        clear hhs hd hdn
        go_wp2_with fail
        refine HC8.out.mono ?_
        rintro r W6 ⟨e8, rfl, hk8, hb6⟩
        have HR6 := Lib.hid ((hb6.block g (Array.getElem?_eq_some_iff.1 HR5.out).1).trans HR5.out)
        have HB6 := Lib.hid (HB5.out.trans (hb6.mono HB5.out.size))
        have HD6 := Lib.hid (HD.out.old hb6)
        have HK8 := Lib.hid hk8
        clear hb6 HC8 hk8
        by_cases h8 : e8 = 0
        · subst h8
          have hdp : 0 < D.length := by
            rcases HK8.out with ⟨_, h⟩ | ⟨_, h⟩ | ⟨_, _, h, _⟩ | ⟨h, _⟩
            · exact absurd h (by decide)
            · exact absurd h (by decide)
            · exact absurd h (by decide)
            · exact h
          have hdn0 : (0 : Int) < dn := by have := HDN.out; omega
          obtain ⟨b9, o9, rfl, _, hcx⟩ := HD6.out 0 hdp
          obtain ⟨y, hy⟩ : ∃ y, D[0]? = some y := ⟨_, List.getElem?_eq_getElem hdp⟩
          have HY := Lib.hid hy
          have hcy : W6.cell? ⟨b9, o9, none⟩ = some (.int .i64 y.h.ht) := by
            have := hcx 0 (.int .i64 y.h.ht) (by rw [List.getElem?_eq_getElem hdp] at hy; rw [Option.some.inj hy]; rfl)
            simpa using this
          have hcg : W6.cell? ⟨g, 0, none⟩ = some (.int .i64 x.h.ht) := by rw [cell_of_row _ g 0 _ _ _ HR6.out, HYC.out]; rfl
          obtain ⟨hx9, hhx⟩ : ∃ z, z = x.h.ht := ⟨_, rfl⟩
          obtain ⟨hy9, hhy⟩ : ∃ z, z = y.h.ht := ⟨_, rfl⟩
          rw [← hhx] at hcg
          rw [← hhy] at hcy
          have HHX := Lib.hid hhx
          have HHY := Lib.hid hhy
          clear hdp hcx hy hhx hhy
          go_upto_region 11 with fail
          by_cases hle : hx9 ≤ hy9
          · have HLE : Hid (x.h.ht ≤ y.h.ht) := Lib.hid (by rw [← HHX.out, ← HHY.out]; exact hle)
            go_quiet (fail)
            go_wp2_with fail
            rw [HF.out]
            exact ⟨11, rfl, .inr (.inr ⟨HC0.out, HNO.out, .inr ⟨D, 0, HHS.out, HK8.out, .inr ⟨rfl, y, HY.out, .inl ⟨HLE.out, rfl⟩⟩⟩⟩), below_drewN HB6.out _⟩
          · have HLT : Hid (y.h.ht < x.h.ht) := Lib.hid (by rw [← HHX.out, ← HHY.out]; omega)
            go_quiet (fail)
            go_wp2_with fail
            rw [HF.out]
            exact ⟨0, rfl, .inr (.inr ⟨HC0.out, HNO.out, .inr ⟨D, 0, HHS.out, HK8.out, .inr ⟨rfl, y, HY.out, .inr ⟨HLT.out, rfl⟩⟩⟩⟩), below_drewN HB6.out _⟩
        · have H8 := Lib.hid h8
          go_wp2_with fail
          rw [HF.out]
          exact ⟨10, rfl, .inr (.inr ⟨HC0.out, HNO.out, .inr ⟨D, e8, HHS.out, HK8.out, .inl ⟨H8.out, rfl⟩⟩⟩), HB6.out⟩
    · have i0 : (0 : Int) ≤ i := by omega
      have HYES : Hid (∃ b ∈ L, b.nm = nmR x.h) := Lib.hid ⟨_, List.getElem_mem hi, hnm⟩
      clear hnm
      go_wp2_with fail
      rw [HF.out]
      exact ⟨9, rfl, .inr (.inl ⟨HC0.out, HYES.out, rfl⟩), HB4.out⟩
  · have HN0 := Lib.hid hc0
    go_wp2_with fail
    rw [HF.out]
    exact ⟨c, rfl, .inl ⟨by rw [← HCE.out]; exact HN0.out, HCE.out⟩, HB2.out⟩
end Go.Proofs.YtemnebbdaljfbaaGreatDoor

namespace Go.Proofs.YtemnebbdaljfbaaGreatDoor.CW
open Go

section
variable {P : Program} {ops : Array Oper} {Q : Exit → Act → World → Prop} {md : Region.Mode} {V : Tmp → Value → World → Prop} {G : Nat → Value → World → Prop} {C : List Nat} {a0 : Act}

def OwesAt (P : Program) (md : Region.Mode) (ops : Array Oper) (Q : Exit → Act → World → Prop) (V : Tmp → Value → World → Prop) (G : Nat → Value → World → Prop) (C : List Nat) (a0 : Act) (i : Nat) (o : Oper) (k : Nat) : Prop :=
  ∀ a w x, AgreeC ops C k a0 a → G k x w → AllV V a w (waits md ops o) →
    wpOp P ops Q i (fun a' w' => ∃ v, a' = a.put o.dst v ∧ (∀ t, o.dst = some t → V t v w') ∧ G k x w' ∧ (∀ t u, V t u w → V t u w')) a w
def OwesIn (P : Program) (md : Region.Mode) (ops : Array Oper) (Q : Exit → Act → World → Prop) (V : Tmp → Value → World → Prop) (G : Nat → Value → World → Prop) (C : List Nat) (a0 : Act) (i : Nat) (o : Oper) (m : Nat) : Prop :=
  ∀ a w x, AgreeC ops C m a0 a → G m x w → Holds' ops C a m x → AllV V a w (waits md ops o) →
    wpOp P ops Q i (fun a' w' => ∃ v, a' = a.put o.dst v ∧ (∀ t, o.dst = some t → V t v w') ∧ G (m + 1) v w' ∧ (∀ t u, V t u w → V t u w')) a w
def OwesC (P : Program) (md : Region.Mode) (ops : Array Oper) (Q : Exit → Act → World → Prop) (V : Tmp → Value → World → Prop) (G : Nat → Value → World → Prop) (C : List Nat) (a0 : Act) (i : Nat) (o : Oper) : Prop :=
  (∃ m, C[m]? = some i ∧ OwesIn P md ops Q V G C a0 i o m) ∨ (C.contains i = false ∧ ∃ b, aheadOf md ops C i b = true ∧ ∀ k, k ≤ b → OwesAt P md ops Q V G C a0 i o k)

structure ChainAt (md : Region.Mode) (ops : Array Oper) (V : Tmp → Value → World → Prop) (G : Nat → Value → World → Prop) (C : List Nat) (a0 : Act) (L : Array Bool) (a : Act) (w : World) (k : Nat) (x : Value) : Prop where
  g : G k x w
  ho : Holds' ops C a k x
  le : k ≤ C.length
  ch : ∀ (m i : Nat), C[m]? = some i → (L.getD i true = true ↔ m < k)
  cl : ∀ (i : Nat) (o : Oper), ops[i]? = some o → L.getD i true = true → ∀ e ∈ o.after, Region.binds md e = true → L.getD e.on false = true
  ag : Agree ops a0 a
  kp : ∀ (i : Nat) (o : Oper) (t : Tmp), ops[i]? = some o → L.getD i true = false → o.dst = some t → a.eval (.tmp t) = a0.eval (.tmp t)
  v : ∀ (i : Nat) (o : Oper) (t : Tmp), ops[i]? = some o → L.getD i true = true → o.dst = some t → V t (a.eval (.tmp t)) w

theorem ChainAt.agc {L : Array Bool} {a : Act} {w : World} {k : Nat} {x : Value} (h : ChainAt md ops V G C a0 L a w k x) : AgreeC ops C k a0 a :=
  ⟨h.ag, fun m i o t hm hi ho ht => h.kp i o t ho (by
    cases hl : L.getD i true with
    | false => rfl
    | true => exact absurd ((h.ch m i hi).1 hl) (by omega)) ht⟩

def OweAllC (P : Program) (md : Region.Mode) (ops : Array Oper) (Q : Exit → Act → World → Prop) (V : Tmp → Value → World → Prop) (G : Nat → Value → World → Prop) (C : List Nat) (a0 : Act) : Nat → List Oper → Prop
  | _, [] => True
  | k, o :: r => OwesC P md ops Q V G C a0 k o ∧ OweAllC P md ops Q V G C a0 (k + 1) r
theorem OweAllC.get : ∀ {l : List Oper} {k : Nat}, OweAllC P md ops Q V G C a0 k l → ∀ (i : Nat) (o : Oper), l[i]? = some o → OwesC P md ops Q V G C a0 (k + i) o
  | _ :: _, k, h, 0, o, hi => by cases hi; exact h.1
  | _ :: r, k, h, i + 1, o, hi => by
    have := OweAllC.get h.2 i o (by simpa using hi)
    rwa [show k + 1 + i = k + (i + 1) by omega] at this
  | [], _, _, i, o, hi => by simp at hi
theorem OweAllC.cons {k : Nat} {o : Oper} {r : List Oper} (h : OwesC P md ops Q V G C a0 k o) (h2 : OweAllC P md ops Q V G C a0 (k + 1) r) : OweAllC P md ops Q V G C a0 k (o :: r) := ⟨h, h2⟩
theorem OweAllC.nil {k : Nat} : OweAllC P md ops Q V G C a0 k [] := trivial


theorem owesC_val {i : Nat} {o : Oper} {t : Tmp} (b : Nat) (hb : aheadOf md ops C i b = true) (hni : C.contains i = false) (hi : ops[i]? = some o) (ht : o.dst = some t)
    (h : ∀ k a w x, k ≤ b → AgreeC ops C k a0 a → G k x w → AllV V a w (waits md ops o) → ∃ v, Region.wanted o (yielded ops a.tmps) = true ∧ (execOp a.eval o).run P w = .ok (.value v) w ∧ V t v w) : OwesC P md ops Q V G C a0 i o := by
  refine .inr ⟨hni, b, hb, fun k hk a w x ha hG hV => ?_⟩
  obtain ⟨v, hw, hr, hv⟩ := h k a w x hk ha hG hV
  unfold wpOp
  rw [hi]
  simp only [hw, if_true, Oper.wp, hr, Oper.upon]
  exact .inl ⟨v, rfl, fun u hu => by rw [ht] at hu; cases hu; exact hv, hG, fun _ _ h => h⟩
end
end Go.Proofs.YtemnebbdaljfbaaGreatDoor.CW

namespace Go.Proofs.YtemnebbdaljfbaaGreatDoor
namespace CW
open Go

section
variable {P : Program} {ops : Array Oper} {Q : Exit → Act → World → Prop} {md : Region.Mode} {V : Tmp → Value → World → Prop} {G : Nat → Value → World → Prop} {C : List Nat} {a0 : Act}
theorem wpAny_chain2 (hok : DrawOk2 md ops a0.tmps.size) (hch : chainOk md ops C = true) (hnd : C.Nodup) (hCl : ∀ i ∈ C, i < ops.size) (step : ∀ (i : Nat) (o : Oper), ops[i]? = some o → OwesC P md ops Q V G C a0 i o)
    (fin : ∀ a w x, Agree ops a0 a → G C.length x w → Holds' ops C a C.length x → (∀ (i : Nat) (o : Oper) (t : Tmp), ops[i]? = some o → o.dst = some t → V t (a.eval (.tmp t)) w) → Q .normal a w) :
    ∀ (fuel : Nat) (L : Array Bool) (a : Act) (w : World) (k : Nat) (x : Value), unl L ops.size ≤ fuel → L.size = ops.size → ChainAt md ops V G C a0 L a w k x → wpAny P md ops Q fuel L a w := by
  have allL : ∀ L : Array Bool, L.size = ops.size → Region.ready md ops L = [] → ∀ (i : Nat) (o : Oper), ops[i]? = some o → L.getD i true = true := by
    intro L hL hr i o ho
    cases hc : L.getD i true with
    | true => rfl
    | false =>
      obtain ⟨j, hj⟩ := ready_some2 hok hL i (Array.getElem?_eq_some_iff.1 ho).1 hc
      rw [hr] at hj; cases hj
  have done : ∀ (L : Array Bool) (a : Act) (w : World) (k : Nat) (x : Value), L.size = ops.size → ChainAt md ops V G C a0 L a w k x → Region.ready md ops L = [] → Q .normal a w := by
    intro L a w k x hL h hr
    have hk : k = C.length := by
      refine Nat.le_antisymm h.le (Nat.le_of_not_lt fun hlt => ?_)
      have hm : C[k]? = some C[k] := List.getElem?_eq_getElem hlt
      have hi := hCl _ (List.getElem_mem hlt)
      exact Nat.lt_irrefl _ ((h.ch k _ hm).1 (allL L hL hr _ _ (Array.getElem?_eq_getElem hi)))
    subst hk
    exact fin a w x h.ag h.g h.ho (fun i o t ho ht => h.v i o t ho (allL L hL hr i o ho) ht)
  intro fuel
  induction fuel with
  | zero =>
    intro L a w k x hu hL h
    have hr : Region.ready md ops L = [] := by
      apply List.eq_nil_iff_forall_not_mem.2
      intro j hj
      obtain ⟨hun, o, ho, _⟩ := mem_ready.1 hj
      have := unl_pos L ops.size j (Array.getElem?_eq_some_iff.1 ho).1 hun
      omega
    exact ⟨hr, done L a w k x hL h hr⟩
  | succ fuel ih =>
    intro L a w k x hu hL h
    refine ⟨fun hr => done L a w k x hL h hr, fun i hi => ?_⟩
    obtain ⟨hun, o, ho, hall⟩ := mem_ready.1 hi
    have hil : i < ops.size := (Array.getElem?_eq_some_iff.1 ho).1
    have hw : AllV V a w (waits md ops o) := AllV.of (by
      intro t ht
      unfold waits at ht
      obtain ⟨e, he, hd⟩ := List.mem_filterMap.1 ht
      obtain ⟨he1, he2⟩ := List.mem_filter.1 he
      cases hj : ops[e.on]? with
      | none => rw [hj] at hd; cases hd
      | some p =>
        rw [hj] at hd
        have hl := hall e (by simpa using he1) he2
        exact h.v e.on p t hj (by rw [getD_tf hL (Array.getElem?_eq_some_iff.1 hj).1]; exact hl) hd)
    -- what follows, with k' of the chain done
    have next : ∀ (k' : Nat) (y : Value → Value), k' ≤ C.length → (∀ v, Holds' ops C (a.put o.dst v) k' (y v)) → (∀ (m j : Nat), C[m]? = some j → ((L.setIfInBounds i true).getD j true = true ↔ m < k')) →
        wpOp P ops Q i (fun a' w' => ∃ v, a' = a.put o.dst v ∧ (∀ t, o.dst = some t → V t v w') ∧ G k' (y v) w' ∧ (∀ t u, V t u w → V t u w')) a w → wpOp P ops Q i (fun a' w' => wpAny P md ops Q fuel (L.setIfInBounds i true) a' w') a w := by
      intro k' y hk' hho hch' hop
      refine wpOp_mono (fun a' w' hh => ?_) hop
      obtain ⟨v, rfl, hvi, hG', hpres⟩ := hh
      refine ih _ _ _ k' (y v) ?_ (by simpa using hL) ⟨hG', hho v, hk', hch', ?_, ?_, ?_, ?_⟩
      · have := unl_set L i hun ops.size
        rw [if_pos hil] at this; omega
      · intro j p hp hl e he hb
        by_cases hji : j = i
        · subst hji
          rw [ho] at hp; cases hp
          have := hall e he hb
          by_cases hei : e.on = j
          · rw [hei, getD_set_at (by omega)]
          · rw [getD_set_ne' hei]; exact this
        · rw [getD_set_ne' hji] at hl
          have := h.cl j p hp hl e he hb
          by_cases hei : e.on = i
          · rw [hei, getD_set_at (by omega)]
          · rw [getD_set_ne' hei]; exact this
      · refine ⟨by rw [size_put]; exact h.ag.size, by rw [defers_put]; exact h.ag.defers, fun t ht => ?_⟩
        rw [Act.eval_put (fun d hd e => ht i o ho (by cases e; exact hd))]
        exact h.ag.same t ht
      · intro j p t hp hl ht
        have e : j ≠ i := by
          rintro rfl
          rw [getD_set_at (by omega)] at hl; cases hl
        rw [Act.eval_put (fun d hd e2 => by cases e2; exact hok.apart i j o p t ho hp e hd ht)]
        rw [getD_set_ne' e] at hl
        exact h.kp j p t hp hl ht
      · intro j p t hp hl ht
        by_cases e : j = i
        · subst e
          rw [ho] at hp; cases hp
          rw [ht, eval_put_same (by rw [h.ag.size]; exact hok.room j o t ho ht)]
          exact hvi t ht
        · rw [Act.eval_put (fun d hd e2 => by cases e2; exact hok.apart i j o p t ho hp e hd ht)]
          rw [getD_set_ne' e] at hl
          exact hpres _ _ (h.v j p t hp hl ht)
    rcases step i o ho with ⟨m, hm, hop⟩ | ⟨hni, b, hb, hop⟩
    · have hmk : m = k := by
        have h1 : ¬ m < k := fun hlt => by rw [(h.ch m i hm).2 hlt] at hun; cases hun
        have h2 : m ≤ k := by
          cases m with
          | zero => exact Nat.zero_le _
          | succ m =>
            have hlt : m < C.length := by have := (List.getElem?_eq_some_iff.1 hm).1; omega
            have hj : C[m]? = some C[m] := List.getElem?_eq_getElem hlt
            obtain ⟨e, he, hbd, hon⟩ := chain_edge hch hj hm ho
            have := hall e he hbd
            rw [hon] at this
            exact (h.ch m _ hj).1 (by rw [getD_tf hL (hCl _ (List.getElem_mem hlt))]; exact this)
        omega
      subst hmk
      have hmlt : m < C.length := (List.getElem?_eq_some_iff.1 hm).1
      refine next (m + 1) (fun v => v) hmlt ?_ ?_ (hop a w x h.agc h.g h.ho hw)
      · intro v m2 j p t hm2 hj hp ht
        obtain rfl : m2 = m := by omega
        rw [hm] at hj; cases hj
        rw [ho] at hp; cases hp
        rw [ht, eval_put_same (by rw [h.ag.size]; exact hok.room i o t ho ht)]
      intro m2 j hj
      by_cases hji : j = i
      · subst hji
        have : m2 = m := by
          obtain ⟨l2, e2⟩ := List.getElem?_eq_some_iff.1 hj
          obtain ⟨l1, e1⟩ := List.getElem?_eq_some_iff.1 hm
          exact (List.getElem_inj hnd).1 (e2.trans e1.symm)
        subst this
        rw [getD_set_at (by omega)]
        exact ⟨fun _ => Nat.lt_succ_self _, fun _ => rfl⟩
      · rw [getD_set_ne' hji, h.ch m2 j hj]
        have : m2 ≠ m := by
          rintro rfl
          rw [hm] at hj; cases hj; exact hji rfl
        omega
    · have hkb : k ≤ b := by
        unfold aheadOf at hb
        rw [Bool.or_eq_true, beq_iff_eq] at hb
        rcases hb with rfl | hb
        · exact h.le
        · cases hj : C[b]? with
          | none => rw [hj] at hb; cases hb
          | some j =>
            rw [hj] at hb
            simp only at hb
            refine Nat.le_of_not_lt fun hlt => ?_
            have := reach_done h.cl 16 j i hb ((h.ch b j hj).2 hlt)
            rw [← getD_tf hL hil, hun] at this
            cases this
      refine next k (fun _ => x) h.le ?_ ?_ (hop k hkb a w x h.agc h.g hw)
      · intro v m2 j p t hm2 hj hp ht
        have hji : j ≠ i := by
          rintro rfl
          have := List.mem_of_getElem? hj
          rw [List.contains_eq_mem, decide_eq_false_iff_not] at hni
          exact hni this
        rw [Act.eval_put (fun d hd e2 => by cases e2; exact hok.apart i j o p t ho hp hji hd ht)]
        exact h.ho m2 j p t hm2 hj hp ht
      intro m2 j hj
      have hji : j ≠ i := by
        rintro rfl
        have := List.mem_of_getElem? hj
        rw [List.contains_eq_mem, decide_eq_false_iff_not] at hni
        exact hni this
      rw [getD_set_ne' hji, h.ch m2 j hj]
theorem wp_region_chain2 {id : Nat} {w : World} (V : Tmp → Value → World → Prop) (G : Nat → Value → World → Prop) (C : List Nat) (N : Nat) (hm : P.follows .mixedOrders = true) (hok : drawOk2 .any ops N = true) (hN : a0.tmps.size = N)
    (hch : chainOk .any ops C = true) (hnd : decide C.Nodup = true) (hCl : C.all (· < ops.size) = true) (hG : G 0 undef w.drew)
    (step : OweAllC P .any ops Q V G C a0 0 ops.toList)
    (fin : ∀ f w x, G C.length x w → (∀ (m i : Nat) (o : Oper) (t : Tmp), C.length = m + 1 → C[m]? = some i → ops[i]? = some o → o.dst = some t → f t = x) → (∀ (i : Nat) (o : Oper) (t : Tmp), ops[i]? = some o → o.dst = some t → V t (f t) w) → Q .normal (puts f (dsts ops) a0) w) : (Code.region id ops true).wp P Q a0 w := by
  subst hN
  have hok := drawOk2_spec hok
  have hCl' : ∀ i ∈ C, i < ops.size := fun i hi => by simpa using List.all_eq_true.1 hCl i hi
  have hL0 : ∀ i, i < ops.size → (Array.replicate ops.size false).getD i true = false := fun i hi => by simp [hi]
  refine wp_region_any hm (wpAny_chain2 (V := V) (G := G) (C := C) hok hch (of_decide_eq_true hnd) hCl' (fun i o ho => ?_) (fun a w x ha hg hh hv => ?_) ops.size _ a0 _ 0 undef (unl_le _ _) (by simp) ⟨hG, (fun m i o t h => by omega), Nat.zero_le _, ?_, ?_, ⟨rfl, rfl, fun _ _ => rfl⟩, (fun _ _ _ _ _ _ => rfl), ?_⟩)
  · have := step.get i o (by simpa using ho)
    rwa [Nat.zero_add] at this
  · rw [agree_puts2 ha hok.room]
    exact fin _ w x hg hh hv
  · intro m i hi
    have := hCl' i (List.mem_of_getElem? hi)
    rw [hL0 i this]
    simp
  · intro i o ho hl
    rw [hL0 i (Array.getElem?_eq_some_iff.1 ho).1] at hl; cases hl
  · intro i o t ho hl _
    rw [hL0 i (Array.getElem?_eq_some_iff.1 ho).1] at hl; cases hl
theorem owesC_made {i : Nat} {o : Oper} {t : Tmp} (b : Nat) (hb : aheadOf md ops C i b = true) (hni : C.contains i = false) (hi : ops[i]? = some o) (ht : o.dst = some t)
    (h : ∀ k a w x, k ≤ b → AgreeC ops C k a0 a → G k x w → AllV V a w (waits md ops o) → ∃ v w', Region.wanted o (yielded ops a.tmps) = true ∧ (execOp a.eval o).run P w = .ok (.value v) w' ∧ V t v w' ∧ G k x w' ∧ (∀ t u, V t u w → V t u w')) : OwesC P md ops Q V G C a0 i o := by
  refine .inr ⟨hni, b, hb, fun k hk a w x ha hG hV => ?_⟩
  obtain ⟨v, w', hw, hr, hv, hg, hp⟩ := h k a w x hk ha hG hV
  unfold wpOp
  rw [hi]
  simp only [hw, if_true, Oper.wp, hr, Oper.upon]
  exact .inl ⟨v, rfl, fun u hu => by rw [ht] at hu; cases hu; exact hv, hg, hp⟩
end
end CW
end Go.Proofs.YtemnebbdaljfbaaGreatDoor

namespace Go.Proofs.YtemnebbdaljfbaaGreatDoor.CW
open Go
section
variable {P : Program} {ops : Array Oper} {Q : Exit → Act → World → Prop} {md : Region.Mode} {V : Tmp → Value → World → Prop} {G : Nat → Value → World → Prop} {C : List Nat} {a0 : Act}
theorem owesC_mem {i : Nat} {o : Oper} {t : Tmp} (m : Nat) (hm : C[m]? = some i) (hi : ops[i]? = some o) (ht : o.dst = some t)
    (h : ∀ a w x, AgreeC ops C m a0 a → G m x w → Holds' ops C a m x → AllV V a w (waits md ops o) → ∃ v w', Region.wanted o (yielded ops a.tmps) = true ∧ (execOp a.eval o).run P w = .ok (.value v) w' ∧ V t v w' ∧ G (m + 1) v w' ∧ (∀ t u, V t u w → V t u w')) : OwesC P md ops Q V G C a0 i o := by
  refine .inl ⟨m, hm, fun a w x ha hG hh hV => ?_⟩
  obtain ⟨v, w', hw, hr, h1, h2, h3⟩ := h a w x ha hG hh hV
  unfold wpOp
  rw [hi]
  simp only [hw, if_true, Oper.wp, hr, Oper.upon]
  exact .inl ⟨v, rfl, fun u hu => by rw [ht] at hu; cases hu; exact h1, h2, h3⟩
theorem owesC_law {i : Nat} {o : Oper} (m : Nat) (hm : C[m]? = some i) (hi : ops[i]? = some o)
    (h : ∀ a w x, AgreeC ops C m a0 a → G m x w → Holds' ops C a m x → AllV V a w (waits md ops o) → Region.wanted o (yielded ops a.tmps) = true ∧
      ∀ K : Act → World → Prop, (∀ v w', (∀ t, o.dst = some t → V t v w') → G (m + 1) v w' → (∀ t u, V t u w → V t u w') → K (a.put o.dst v) w') → o.wp P a w K Q) : OwesC P md ops Q V G C a0 i o := by
  refine .inl ⟨m, hm, fun a w x ha hG hh hV => ?_⟩
  obtain ⟨hw, hl⟩ := h a w x ha hG hh hV
  unfold wpOp
  rw [hi]
  simp only [hw, if_true]
  exact .inl (hl _ (fun v w' h1 h2 h3 => ⟨v, rfl, h1, h2, h3⟩))
theorem owesC_side {i : Nat} {o : Oper} {t : Tmp} (b : Nat) (hb : aheadOf md ops C i b = true) (hni : C.contains i = false) (hi : ops[i]? = some o) (ht : o.dst = some t) (f : FuncId)
    (h : ∀ k a w x, k ≤ b → AgreeC ops C k a0 a → G k x w → AllV V a w (waits md ops o) → ∃ args, Region.wanted o (yielded ops a.tmps) = true ∧ (execOp a.eval o).run P w = .ok (.enter f args) w ∧
      Calls P f args w fun e w' => ∃ v, e = .returned v ∧ V t v w' ∧ G k x w' ∧ (∀ t u, V t u w → V t u w')) : OwesC P md ops Q V G C a0 i o := by
  refine .inr ⟨hni, b, hb, fun k hk a w x ha hG hV => ?_⟩
  obtain ⟨args, hw, hr, hc⟩ := h k a w x hk ha hG hV
  unfold wpOp
  rw [hi]
  simp only [hw, if_true, Oper.wp, hr, Oper.upon]
  refine .inl (hc.mono ?_)
  rintro e w' ⟨v, rfl, h1, h2, h3⟩
  exact ⟨v, rfl, fun u hu => by rw [ht] at hu; cases hu; exact h1, h2, h3⟩
end
end Go.Proofs.YtemnebbdaljfbaaGreatDoor.CW
namespace Go.Proofs.YtemnebbdaljfbaaGreatDoor
open Go.RowKit

set_option maxRecDepth 20000 in
theorem info_rb : ∃ z : Value, (Tryz.prog.info? 31).map (fun i => (i.zero, i.size, i.bytes)) = some (some z, 8, (Tryz.prog.info? 31).elim 0 (·.bytes)) ∧ z.cells.size = 8 ∧ (Tryz.prog.info? 31).elim 0 (·.bytes) ≤ 1024 := ⟨_, rfl, rfl, by decide +kernel⟩
set_option maxRecDepth 20000 in
theorem build_rbs {o : Oper} {a : Act} {w : World} (x : Operand) (ho : o.op = .buildSlice 33 1 #[(0, x)]) (b : RBk) (hx : a.eval x = .agg b.cells.toArray) :
    (execOp a.eval o).run Tryz.prog w = .ok (.value (.slice (some ⟨w.heap.size, 0, none⟩) 1 1)) (w.alloc (.cells b.cells.toArray 31)) := by
  obtain ⟨i, z, hi, hz, h1, hzs⟩ : ∃ i z, Tryz.prog.info? 31 = some i ∧ i.zero = some z ∧ i.size = 8 ∧ z.cells.size = 8 := ⟨_, _, rfl, rfl, rfl, rfl⟩
  have hf := Great.fill_whole (s := 8) (by decide) [.agg b.cells.toArray] ((Array.range (1 * 8)).map (z.cells[· % z.cells.size]!)) (by
    intro v hv; rw [List.mem_singleton.1 hv]; show b.cells.toArray.size = 8; rw [List.size_toArray, b.len]) (by simp)
  have hb := run_buildSlice (P := Tryz.prog) w 33 31 1 #[(0, .agg b.cells.toArray)] b.cells.toArray i z Tryz.underlying33 hi hz (by rw [h1]; decide) (by rw [h1]; decide) (by
    rw [h1]
    refine hf.trans ?_
    simp [Value.cells])
  unfold execOp
  simp only [ho, List.map_toArray, List.map_cons, List.map_nil, hx, Sem.run_bind, hb, Result.andThen_ok, Sem.run_pure]
theorem encRB_one (b : RBk) : encRB.all [b] = b.cells := by simp [Enc.all, encRB]
def VAd (n : Nat) (ao : Option Addr) (cap : Nat) (YC BC : Array Value) : Tmp → Value → World → Prop := fun t v w => match t with
  | 15 => v = .slice ao n cap
  | 17 => v = .agg YC
  | 18 => v = .agg BC
  | 19 => ∃ g, v = .slice (some ⟨g, 0, none⟩) 1 1 ∧ w.heap[g]? = some (.cells BC 31 (0, 0))
  | 5 => v = .int .i64 0
  | _ => True
theorem VAd.mod {n : Nat} {ao : Option Addr} {cap : Nat} {YC BC : Array Value} {S : Nat → Prop} {w w' : World} (hm : Mod S w w') (hS : ∀ g, w.heap[g]? = some (.cells BC 31 (0, 0)) → ¬ S g) (t : Tmp) (u : Value) (h : VAd n ao cap YC BC t u w) : VAd n ao cap YC BC t u w' := by
  by_cases h1 : t = 19
  · subst h1
    obtain ⟨g, e, hr⟩ := h
    exact ⟨g, e, (hm.block g (Array.getElem?_eq_some_iff.1 hr).1 (hS g hr)).trans hr⟩
  have e : VAd n ao cap YC BC t u w = VAd n ao cap YC BC t u w' := by
    unfold VAd
    split <;> first | rfl | exact absurd rfl h1
  rw [← e]; exact h
theorem VAd.old {n : Nat} {ao : Option Addr} {cap : Nat} {YC BC : Array Value} {w w' : World} (hb : Below w.heap.size w w') (t : Tmp) (u : Value) (h : VAd n ao cap YC BC t u w) : VAd n ao cap YC BC t u w' :=
  VAd.mod (Mod.of_below hb) (fun g hr hs => by have := (Array.getElem?_eq_some_iff.1 hr).1; omega) t u h
def GAd (W : World) (n : Nat) (L : List RBk) (bk : RBk) (j : Nat) (x : Value) (w : World) : Prop :=
  Below W.heap.size W w ∧ (j = 1 → ∃ g, x = .slice (some ⟨g, 0, none⟩) 0 0 ∧ Rw encRB 31 w (some ⟨g, 0, none⟩) 0 [] ∧ W.heap.size ≤ g) ∧
    (j = 2 → ∃ q c, x = .slice q n c ∧ Rw encRB 31 w q c L ∧ ∀ a, q = some a → W.heap.size ≤ a.block) ∧
    (3 ≤ j → ∃ q c, x = .slice q (n + 1) c ∧ Rw encRB 31 w q c (L ++ [bk]) ∧ ∀ a, q = some a → W.heap.size ≤ a.block)
theorem GAd.old {W : World} {n : Nat} {L : List RBk} {bk : RBk} {j : Nat} {x : Value} {w w' : World} (h : GAd W n L bk j x w) (hb : Below w.heap.size w w') : GAd W n L bk j x w' := by
  obtain ⟨h1, h2, h3, h4⟩ := h
  exact ⟨h1.trans (hb.mono h1.size), fun e => by obtain ⟨g, e1, hr, hl⟩ := h2 e; exact ⟨g, e1, hr.old hb, hl⟩, fun e => by obtain ⟨q, c, e1, hr, hl⟩ := h3 e; exact ⟨q, c, e1, hr.old hb, hl⟩, fun e => by obtain ⟨q, c, e1, hr, hl⟩ := h4 e; exact ⟨q, c, e1, hr.old hb, hl⟩⟩
theorem rb_apart {w : World} {q : Option Addr} {c : Nat} {L : List RBk} {bk : RBk} (hr : Rw encRB 31 w q c L) (hL : (L = [] ∧ c = 0) ∨ 0 < L.length) (hno : ∀ b ∈ L, b.nm ≠ bk.nm) : ∀ g, w.heap[g]? = some (.cells bk.cells.toArray 31 (0, 0)) → ¬ ∃ a, q = some a ∧ g = a.block := by
  rintro g hg ⟨a, rfl, rfl⟩
  rcases hr.shape with ⟨e, _⟩ | ⟨g', e, _, h1, _, cur, hh, h3, h4⟩
  · cases e
  · cases e
    rw [hg] at hh
    have hcur : cur = bk.cells.toArray := by simpa using (congrArg (fun o => match o with | some (Obj.cells a _ _) => a | _ => #[]) hh).symm
    subst hcur
    have hs : 8 = c * 8 := by rw [List.size_toArray, bk.len] at h3; exact h3
    rcases hL with ⟨_, rfl⟩ | hl
    · omega
    · obtain rfl : c = 1 := by omega
      have hl1 : L.length = 1 := by omega
      obtain ⟨b, rfl⟩ := List.length_eq_one_iff.1 hl1
      have h5 : bk.cells = b.cells := by
        rw [encRB_one] at h4
        rw [← h4]
        exact (List.take_of_length_le (by show bk.cells.length ≤ 1 * 8; rw [bk.len]; decide)).symm
      have h6 : (Value.string ⟨bk.nm.toArray⟩) = .string ⟨b.nm.toArray⟩ := (List.cons.inj h5).1
      have h7 : b.nm = bk.nm := by simpa using h6.symm
      exact hno b (by simp) h7
set_option maxRecDepth 20000 in
set_option maxHeartbeats 8000000 in
theorem r13add_any (ao : Option Addr) (cap : Nat) (L : List RBk) (x0 : RH) (w : World) (hL : Rd encRB w ao L) (hl : L.length ≤ 1000000) (hne : 0 < L.length) (hA : ∀ b ∈ L, fmR w b.x) (hx : okH w x0) :
    Calls Tryz.prog 14 #[.slice ao L.length cap, .agg x0.cells.toArray] w fun r w' => ∃ q c L' e, r = .returned (.tuple #[.slice q L'.length c, .int .i64 e]) ∧ RkP L x0 e ∧ ((e ≠ 0 ∧ L' = L) ∨ (e = 0 ∧ L' = L ++ [⟨nmR x0.h, x0⟩])) ∧ Rd encRB w' q L' ∧ (∀ a, q = some a → ao = some a ∨ w.heap.size ≤ a.block) ∧ Below w.heap.size w w' := by
  obtain ⟨F, hF⟩ : ∃ F : Ending → World → Prop, F = fun r w' => ∃ q c L' e, r = .returned (.tuple #[.slice q L'.length c, .int .i64 e]) ∧ RkP L x0 e ∧ ((e ≠ 0 ∧ L' = L) ∨ (e = 0 ∧ L' = L ++ [⟨nmR x0.h, x0⟩])) ∧ Rd encRB w' q L' ∧ (∀ a, q = some a → ao = some a ∨ w.heap.size ≤ a.block) ∧ Below w.heap.size w w' := ⟨_, rfl⟩
  rw [← hF]
  have HF := Lib.hid hF
  have HL := Lib.hid hL
  have HX := Lib.hid hx
  have HNE := Lib.hid hne
  have HLL := Lib.hid hl
  obtain ⟨W1, hW1⟩ : ∃ W1, W1 = w.alloc (.cells x0.cells.toArray 29) := ⟨_, rfl⟩
  obtain ⟨g, hg⟩ : ∃ g, g = w.heap.size := ⟨_, rfl⟩
  have hb1 : Below w.heap.size w W1 := by rw [hW1]; exact alloc1 _ _
  have HCK := Lib.hid (r13check_any ao cap L x0 W1 (hL.old hb1) hl (fun b hb => (hA b hb).old hb1) (hx.old hb1))
  have hrow : W1.heap[g]? = some (.cells x0.cells.toArray 29 (0, 0)) := by rw [hW1, hg]; exact heap_alloc_new w _
  obtain ⟨YC, hYC⟩ : ∃ YC, YC = x0.cells.toArray := ⟨_, rfl⟩
  have HYC := Lib.hid hYC
  rw [← hYC] at HCK hrow hW1
  rw [← hYC]
  have HYI : Hid ((Tryz.prog.info? 29).map (·.size) = some YC.size) := Lib.hid (by rw [hYC]; exact rh_info x0)
  obtain ⟨n, hn⟩ : ∃ n, n = L.length := ⟨_, rfl⟩
  have HN := Lib.hid hn
  rw [← hn] at HCK ⊢
  have HW1 := Lib.hid hW1
  have HGE := Lib.hid hg
  have HB1 := Lib.hid hb1
  have HROW := Lib.hid hrow
  clear hF hL hl hA hx hYC hn hW1 hg hb1 hrow hne
  go_enter Tryz.func14, Tryz.ntmps14
  go_upto_region 1 with fail
  rw [← HW1.out, ← HGE.out]
  go_upto_region 2 with (refine wpList_exec rfl (exec_load_row 29 (.tmp 3) rfl g rfl 29 YC (0, 0) _ HROW.out Tryz.underlying29 rfl HYI.out) ?_)
  refine HCK.out.mono ?_
  rintro r W2 ⟨e, rfl, hk, hb2⟩
  have HR2 := Lib.hid ((hb2.block g (Array.getElem?_eq_some_iff.1 HROW.out).1).trans HROW.out)
  have HB2 := Lib.hid (HB1.out.trans (hb2.mono HB1.out.size))
  have HK := Lib.hid hk
  clear hb2 HCK hk
  by_cases he : e = 0
  · subst he
    obtain ⟨bk, hbk⟩ : ∃ bk : RBk, bk = ⟨nmR x0.h, x0⟩ := ⟨_, rfl⟩
    have HBK := Lib.hid hbk
    have HNO : Hid (∀ b ∈ L, b.nm ≠ bk.nm) := Lib.hid (by
      rcases HK.out with ⟨h1, h2⟩ | ⟨_, _, h⟩ | ⟨_, h, _⟩
      · exact absurd h2.symm h1
      · exact absurd h (by decide)
      · rw [hbk]; exact h)
    have HMK : Hid (∀ u : World, Below W2.heap.size W2 u → Calls Tryz.prog 42 #[.agg YC] u fun r w' => r = .returned (.agg bk.cells.toArray) ∧ Below u.heap.size u w') := Lib.hid (fun u hb => by
      rw [HYC.out, hbk]
      have h1 := HX.out.old (HB2.out.trans (hb.mono HB2.out.size))
      exact rmake_any x0 u h1.a (by have := h1.n; omega) (by have := h1.k; omega) (by rw [flat32 _ h1.p]; have := h1.n; omega))
    obtain ⟨BC, hBC⟩ : ∃ BC, BC = bk.cells.toArray := ⟨_, rfl⟩
    have HBC := Lib.hid hBC
    have HG0 : Hid (GAd W2 n L bk 0 undef W2.drew) := Lib.hid ⟨(Below.refl _ _).drew, fun h => absurd h (by omega), fun h => absurd h (by omega), fun h => absurd h (by omega)⟩
    have HLR : Hid (∀ u : World, Below W2.heap.size W2 u → Rd encRB u ao L) := Lib.hid (fun u hb => (HL.out.old HB2.out).old hb)
    clear hbk hBC
    go_upto_region 4 with fail
    refine CW.wp_region_chain2 (VAd n ao cap YC BC) (GAd W2 n L bk) [0, 2, 6, 7] 21 (by kernel_rfl) (by decide +kernel) rfl (by decide +kernel) (by decide) (by decide) HG0.out (by
      refine CW.OweAllC.cons (CW.owesC_mem 0 rfl rfl rfl fun a w1 x ha hG hx hV => ?_) ?_
      · have hb : Below w1.heap.size w1 (w1.alloc (.cells #[] 31)) := alloc1 _ _
        exact ⟨_, _, wanted_free rfl, exec_nos 33 31 rfl Tryz.underlying33 (sz := 8) (by kernel_rfl), trivial, ⟨hG.1.trans (hb.mono hG.1.size), (fun _ => ⟨_, rfl, Rw.made (E := encRB) 31 w1 [] (by simp), hG.1.size⟩), (fun h => absurd h (by omega)), (fun h => absurd h (by omega))⟩, VAd.old hb⟩
      refine CW.OweAllC.cons (CW.owesC_val 1 (by decide +kernel) (by decide) rfl rfl fun k' a w1 x hk ha hG hV => ?_) ?_
      · have h0 := ha.outer 0 (by decide +kernel)
        simp only [Act.eval] at h0
        exact ⟨.slice ao n cap, wanted_free rfl, by simp [execOp, go_sem, h0], rfl⟩
      refine CW.OweAllC.cons (CW.owesC_law 1 rfl rfl fun a w1 x ha hG hx hV => ?_) ?_
      · have h14 := hx 0 0 _ 14 rfl rfl rfl rfl
        have h15 : a.tmps.getD 15 undef = .slice ao n cap := hV.get 15 (by decide +kernel)
        obtain ⟨g9, rfl, hr9, hl9⟩ := hG.2.1 rfl
        obtain ⟨z, hz1, hz2, hz3⟩ := info_rb
        refine ⟨wanted_free rfl, fun K hK => ?_⟩
        refine wp_pushRn encRB (.tmp 14) (.tmp 15) 33 31 z _ rfl Tryz.underlying33 hz1 hz2 hz3 (some ⟨g9, 0, none⟩) 0 0 [] rfl h14 hr9 ao n cap L HN.out.symm h15 (HLR.out _ hG.1) (by have := HN.out; have := HLL.out; omega) ?_
        rintro q' c' w' ⟨hR, hM, hor⟩
        exact hK _ _ (fun t ht => by cases ht; trivial) ⟨hG.1.trans (hM.to_below hG.1.size (by rintro i hi ⟨a, e, rfl⟩; cases e; simp only at hi; omega)), (fun h => absurd h (by omega)), (fun _ => ⟨q', c', by simp, by simpa using hR, fun a e => (hor a e).elim (fun e => by cases e; exact hl9) (fun h => Nat.le_trans hG.1.size h)⟩), (fun h => absurd h (by omega))⟩
          (VAd.mod hM (by rw [HBC.out]; exact rb_apart hr9 (.inl ⟨rfl, rfl⟩) (fun b h => by cases h)))
      refine CW.OweAllC.cons (CW.owesC_val 2 (by decide +kernel) (by decide) rfl rfl fun k' a w1 x hk ha hG hV => ?_) ?_
      · have h3 := ha.outer 3 (by decide +kernel)
        simp only [Act.eval] at h3
        exact ⟨.agg YC, wanted_free rfl, exec_load_row 29 (.tmp 3) rfl g h3 29 YC (0, 0) _ ((hG.1.block g (Array.getElem?_eq_some_iff.1 HR2.out).1).trans HR2.out) Tryz.underlying29 rfl HYI.out, rfl⟩
      refine CW.OweAllC.cons (CW.owesC_side 2 (by decide +kernel) (by decide) rfl rfl 42 fun k' a w1 x hk ha hG hV => ?_) ?_
      · have h17 : a.tmps.getD 17 undef = .agg YC := hV.get 17 (by decide +kernel)
        refine ⟨#[.agg YC], wanted_free rfl, by simp [execOp, resolve, invoke, go_sem, h17], ?_⟩
        refine (HMK.out _ hG.1).mono ?_
        rintro r u2 ⟨rfl, hb⟩
        exact ⟨_, rfl, (by show Value.agg _ = .agg BC; rw [HBC.out]), hG.old hb, VAd.old hb⟩
      refine CW.OweAllC.cons (CW.owesC_made 2 (by decide +kernel) (by decide) rfl rfl fun k' a w1 x hk ha hG hV => ?_) ?_
      · have h18 : a.tmps.getD 18 undef = .agg BC := hV.get 18 (by decide +kernel)
        have hb : Below w1.heap.size w1 (w1.alloc (.cells bk.cells.toArray 31)) := alloc1 _ _
        exact ⟨_, _, wanted_free rfl, build_rbs (.tmp 18) rfl bk (by rw [← HBC.out]; exact h18), ⟨w1.heap.size, rfl, by rw [HBC.out]; exact heap_alloc_new w1 _⟩, hG.old hb, VAd.old hb⟩
      refine CW.OweAllC.cons (CW.owesC_law 2 rfl rfl fun a w1 x ha hG hx hV => ?_) ?_
      · have h16 := hx 1 2 _ 16 rfl rfl rfl rfl
        obtain ⟨g9, h19, hr19⟩ : ∃ g, a.tmps.getD 19 undef = .slice (some ⟨g, 0, none⟩) 1 1 ∧ w1.heap[g]? = some (.cells BC 31 (0, 0)) := hV.get 19 (by decide +kernel)
        obtain ⟨q, c, rfl, hr, hf⟩ := hG.2.2.1 rfl
        obtain ⟨z, hz1, hz2, hz3⟩ := info_rb
        have hrd : Rd encRB w1 (some ⟨g9, 0, none⟩) [bk] := Rw.rd (cap := 1) (Rw.of_row hr19 (by simp) (by decide) (by rw [HBC.out, List.size_toArray, bk.len]; rfl) (by rw [HBC.out, encRB_one]; exact List.take_of_length_le (by show bk.cells.length ≤ 1 * 8; rw [bk.len]; decide)))
        refine ⟨wanted_free rfl, fun K hK => ?_⟩
        refine wp_pushRn encRB (.tmp 16) (.tmp 19) 33 31 z _ rfl Tryz.underlying33 hz1 hz2 hz3 q c n L HN.out.symm h16 hr (some ⟨g9, 0, none⟩) 1 1 [bk] rfl h19 hrd (by have := HN.out; have := HLL.out; omega) ?_
        rintro q' c' w' ⟨hR, hM, hor⟩
        exact hK _ _ (fun t ht => by cases ht; trivial) ⟨hG.1.trans (hM.to_below hG.1.size (by rintro i hi ⟨a, e, rfl⟩; have := hf a e; omega)), (fun h => absurd h (by omega)), (fun h => absurd h (by omega)), (fun _ => ⟨q', c', rfl, hR, fun a e => (hor a e).elim (fun e => hf a e) (fun h => Nat.le_trans hG.1.size h)⟩)⟩
          (VAd.mod hM (by rw [HBC.out]; exact rb_apart hr (.inr HNE.out) HNO.out))
      refine CW.OweAllC.cons (CW.owesC_mem 3 rfl rfl rfl fun a w1 x ha hG hx hV => ?_) ?_
      · have h20 := hx 2 6 _ 20 rfl rfl rfl rfl
        obtain ⟨q, c, rfl, hr, hl⟩ := hG.2.2.2 (by omega)
        simp only [Act.eval] at h20
        exact ⟨.slice q (n + 1) c, w1, wanted_free rfl, by simp [execOp, go_sem, h20], trivial, ⟨hG.1, (fun h => absurd h (by omega)), (fun h => absurd h (by omega)), (fun _ => ⟨q, c, rfl, hr, hl⟩)⟩, fun _ _ h => h⟩
      refine CW.OweAllC.cons (CW.owesC_val 4 (by decide +kernel) (by decide) rfl rfl fun k' a w1 x hk ha hG hV => ?_) ?_
      · exact ⟨.int .i64 0, wanted_free rfl, by simp [execOp, go_sem], rfl⟩
      exact CW.OweAllC.nil
      ) ?_
    intro f wz xz hG hx hv
    have e4 : f 4 = xz := hx 3 7 _ 4 rfl rfl rfl rfl
    have e5 : f 5 = .int .i64 0 := hv 8 _ 5 rfl rfl
    obtain ⟨q, c, rfl, hr, hfz⟩ := hG.2.2.2 (by decide)
    have HRZ := Lib.hid hr
    have HFZ : Hid (∀ a, q = some a → w.heap.size ≤ a.block) := Lib.hid (fun a e => Nat.le_trans HB2.out.size (hfz a e))
    have HBZ := Lib.hid (HB2.out.trans (hG.1.mono HB2.out.size))
    first | (rename_i hK; refine hK _ _ ?_; clear hK) | (rename_i hK _; refine hK _ _ ?_; clear hK) | skip
    clear hv hx
    simp only [dsts, puts, List.filterMap_cons, List.filterMap_nil, List.foldl_cons, List.foldl_nil, Act.put, List.setIfInBounds_toArray, List.set_cons_succ, List.set_cons_zero, e4, e5]
    clear e4 e5 hr hG hfz
    go_wp2_with fail
    rw [HF.out]
    exact ⟨q, c, L ++ [bk], 0, by rw [List.length_append, List.length_singleton, ← HN.out]; rfl, HK.out, .inr ⟨rfl, by rw [HBK.out]⟩, HRZ.out.rd, (fun a e => .inr (HFZ.out a e)), HBZ.out⟩
  · have HE := Lib.hid he
    have HLR := Lib.hid (HL.out.old HB2.out)
    go_wp2_with fail
    rw [HF.out]
    exact ⟨ao, cap, L, e, by rw [HN.out]; rfl, HK.out, .inl ⟨HE.out, rfl⟩, HLR.out, (fun a e => .inl e), HB2.out⟩
end Go.Proofs.YtemnebbdaljfbaaGreatDoor

namespace Go.Proofs.YtemnebbdaljfbaaGreatDoor
open Go.RowKit

structure KL (K : List Blk) (L : List RBk) : Prop where
  len : K.length = L.length
  kl : ∀ b ∈ K, ∃ r ∈ L, r.nm = b.id.1 ∧ ownH r.x.h = b.h
  lk : ∀ r ∈ L, ∃ b ∈ K, b.id.1 = r.nm ∧ b.h = ownH r.x.h
theorem own_ps {h : Hd (List UInt8)} (hp : ∀ p ∈ h.ps, p.length = 32) : (ownH h).ps.map (·.1) = h.ps := own_rs _ hp
theorem own_pl (h : Hd (List UInt8)) : (ownH h).ps.length = h.ps.length := List.length_map _
theorem nmR_own {h : Hd (List UInt8)} (hp : ∀ p ∈ h.ps, p.length = 32) : (nmH (ownH h)).1 = nmR h := by
  show shaB (hbytes (·.1) (ownH h)) = shaB (hbytes id h)
  congr 1
  unfold hbytes
  rw [own_ps hp, own_pl, List.map_id]
  rfl
theorem chkR_own {x : RH} (hp : ∀ p ∈ x.h.ps, p.length = 32) : chkH (ownH x.h) = chkR x := by
  unfold chkH chkR
  rw [chk_own, own_ps hp, own_pl]
theorem uniq_id : ∀ {K : List Blk}, (K.map (·.id)).Nodup → ∀ b ∈ K, ∀ b' ∈ K, b.id = b'.id → b = b'
  | [], _, b, hb, _, _, _ => by cases hb
  | x :: K, hn, b, hb, b', hb', e => by
    rw [List.map_cons, List.nodup_cons] at hn
    rcases List.mem_cons.1 hb with rfl | hb2
    · rcases List.mem_cons.1 hb' with rfl | hb3
      · rfl
      · exact absurd (by rw [e]; exact List.mem_map_of_mem hb3) hn.1
    · rcases List.mem_cons.1 hb' with rfl | hb3
      · exact absurd (by rw [← e]; exact List.mem_map_of_mem hb2) hn.1
      · exact uniq_id hn.2 b hb2 b' hb3 e
theorem KL.has {K : List Blk} {L : List RBk} (h : KL K L) (n : Nm) : hasE n (kE K) = true ↔ ∃ r ∈ L, r.nm = n.1 := by
  rw [kE_has]
  constructor
  · rintro ⟨b, hb, e⟩
    obtain ⟨r, hr, h1, _⟩ := h.kl b hb
    exact ⟨r, hr, by rw [h1, e]⟩
  · rintro ⟨r, hr, e⟩
    obtain ⟨b, hb, h1, _⟩ := h.lk r hr
    exact ⟨b, hb, Subtype.ext (by rw [h1, e])⟩
theorem KL.same {K : List Blk} {L : List RBk} (h : KL K L) (hn : (K.map (·.id)).Nodup) {P : List Nm} {M : List Blk} {D : List RH} (hM : M.map (·.id) = P) (hK : ∀ b ∈ M, b ∈ K) (hD : HsP L (P.map (·.1)) D) : M.map (·.h) = D.map (fun y => ownH y.h) := by
  have hl1 : M.length = P.length := by rw [← hM, List.length_map]
  have hl2 : D.length = P.length := by rw [hD.1, List.length_map]
  apply List.ext_getElem
  · rw [List.length_map, List.length_map, hl1, hl2]
  · intro j h1 h2
    rw [List.length_map] at h1 h2
    rw [List.getElem_map, List.getElem_map]
    have hp : P[j]'(by omega) = (M[j]).id := by subst hM; rw [List.getElem_map]
    obtain ⟨r, hr, e1, e2⟩ := hD.2 j (P[j]'(by omega)).1 (by rw [List.getElem?_map, List.getElem?_eq_getElem (by omega)]; rfl)
    obtain ⟨b, hb, e3, e4⟩ := h.lk r hr
    have hbm : b = M[j] := uniq_id hn b hb _ (hK _ (List.getElem_mem _)) (Subtype.ext (by rw [e3, e1, hp]))
    rw [List.getElem?_eq_getElem h2] at e2
    rw [← hbm, e4, Option.some.inj e2]
theorem famR_own {y : RH} (hp : ∀ p ∈ y.h.ps, p.length = 32) : famR y = hfam (ownH y.h) (kB (kset (ownH y.h).ps)) := by
  unfold famR
  have e : rsort y.h.ps = (kset (ownH y.h).ps).map (·.1) := by rw [← rsort_kset, own_ps hp]
  rw [e, kB, List.flatMap_def]
  rfl
theorem ck8_newE {M : List Blk} {D : List RH} (hMD : M.map (·.h) = D.map (fun y => ownH y.h)) (hids : (M.map (·.id)).Nodup) (hp : ∀ y ∈ D, ∀ p ∈ y.h.ps, p.length = 32) {e8 : Int} (hc : Ck8 D e8) : e8 = 0 ↔ newE (M.map Blk.is) = 0 := by
  have hl : M.length = D.length := by have := congrArg List.length hMD; simpa using this
  have hfam : ∀ j (h1 : j < M.length) (h2 : j < D.length), famI (M[j]).is = famR D[j] := fun j h1 h2 => by
    have e : (M[j]).h = ownH (D[j]).h := by
      have := List.getElem_of_eq hMD (i := j) (by rw [List.length_map]; exact h1)
      simpa using this
    rw [famR_own (hp _ (List.getElem_mem _)), ← e]
    rfl
  have hmi : ∀ j (h1 : j < M.length) (h2 : j < D.length), (M[j]).is.2.mi = (D[j]).h.mi := fun j h1 h2 => by
    have e : (M[j]).h = ownH (D[j]).h := by
      have := List.getElem_of_eq hMD (i := j) (by rw [List.length_map]; exact h1)
      simpa using this
    show (M[j]).h.mi = _
    rw [e]; rfl
  have hids2 : ((M.map Blk.is).map (·.1)).Nodup := by rw [List.map_map]; exact hids
  constructor
  · intro he
    rcases hc with ⟨_, h⟩ | ⟨_, h⟩ | ⟨_, _, h, _⟩ | ⟨h0, h5, _, hT⟩
    · omega
    · omega
    · omega
    · unfold newE
      rw [if_neg (by rw [List.length_map]; omega), if_neg (by intro h; have := congrArg List.length h; simp at this; subst this; simp at hl; omega), if_pos]
      rw [Bool.and_eq_true]
      constructor
      · rw [oneI_iff]
        intro x hx y hy
        obtain ⟨i, hi, rfl⟩ := List.mem_iff_getElem.1 hx
        obtain ⟨k, hk, rfl⟩ := List.mem_iff_getElem.1 hy
        rw [List.length_map] at hi hk
        rw [List.getElem_map, List.getElem_map, hfam i hi (by omega), hfam k hk (by omega)]
        exact (hT i k (by omega) (by omega) (by omega) (by omega)).1
      · unfold diffI
        rw [Bool.and_eq_true, decide_eq_true_iff, decide_eq_true_iff]
        refine ⟨?_, hids2⟩
        unfold List.Nodup
        rw [List.pairwise_iff_getElem]
        intro i k hi hk hlt
        simp only [List.length_map] at hi hk
        simp only [List.getElem_map]
        rw [hmi i hi (by omega), hmi k hk (by omega)]
        exact (hT i k (by omega) (by omega) (by omega) (by omega)).2 (by omega)
  · intro hz
    obtain ⟨h5, hne, h1, h2⟩ := newE_ok hz
    rw [List.length_map] at h5
    rw [oneI_iff] at h1
    unfold diffI at h2
    rw [Bool.and_eq_true, decide_eq_true_iff] at h2
    have hnd := h2.1
    unfold List.Nodup at hnd
    rw [List.pairwise_iff_getElem] at hnd
    have hmd : ∀ i k (hi : i < D.length) (hk : k < D.length), i < k → (D[i]).h.mi ≠ (D[k]).h.mi := fun i k hi hk hlt => by
      have := hnd i k (by simp; omega) (by simp; omega) hlt
      simp only [List.getElem_map] at this
      rwa [hmi i (by omega) hi, hmi k (by omega) hk] at this
    rcases hc with ⟨h, _⟩ | ⟨h, _⟩ | ⟨_, _, _, i, k, hi, hk, hno⟩ | ⟨_, _, h, _⟩
    · omega
    · exact absurd (by rw [List.eq_nil_of_length_eq_zero (hl.trans h)]; rfl) hne
    · refine absurd (fun hi hk => ⟨?_, fun hik => ?_⟩) hno
      · have := h1 ((M[i]'(by omega)).is) (List.mem_map_of_mem (List.getElem_mem _)) ((M[k]'(by omega)).is) (List.mem_map_of_mem (List.getElem_mem _))
        rwa [hfam i (by omega) hi, hfam k (by omega) hk] at this
      · rcases Nat.lt_or_gt_of_ne hik with hlt | hlt
        · exact hmd i k hi hk hlt
        · exact (hmd k i hk hi hlt).symm
    · exact h
theorem num_head {a b : Int} {A B : List UInt8} (ha : 0 ≤ a ∧ a ≤ 9223372036854775807) (hb : 0 ≤ b ∧ b ≤ 9223372036854775807) (h : numL a ++ A = numL b ++ B) : a = b := by
  rw [numL_toNat a, numL_toNat b] at h
  rcases List.append_eq_append_iff.1 h with ⟨r, h1, _⟩ | ⟨r, h1, _⟩
  · have := numL_inj a.toNat b.toNat (by omega) (by omega) r h1
    omega
  · have := numL_inj b.toNat a.toNat (by omega) (by omega) r h1
    omega
theorem famI_ht {x y : BI} (hx : 0 ≤ x.2.ht ∧ x.2.ht ≤ 9223372036854775807) (hy : 0 ≤ y.2.ht ∧ y.2.ht ≤ 9223372036854775807) (h : famI x = famI y) : x.2.ht = y.2.ht := by
  unfold famI hfam at h
  rw [List.append_assoc, List.append_assoc] at h
  exact num_head hx hy h
theorem KL.gen {K : List Blk} (h : K.map Blk.is = genX) : KL K [⟨nmR grh.h, grh⟩] := by
  obtain ⟨b, rfl, h1, h2⟩ := gen_mem h
  have e : (nmH ghd).1 = nmR grh.h := nmR_own (h := grh.h) (fun p hp => by cases hp)
  refine ⟨rfl, fun b' hb => ?_, fun r hr => ?_⟩
  · rw [List.mem_singleton.1 hb]
    exact ⟨_, List.mem_singleton.2 rfl, by rw [h1, e], by rw [h2]; rfl⟩
  · rw [List.mem_singleton.1 hr]
    exact ⟨b, List.mem_singleton.2 rfl, by rw [h1, e], by rw [h2]; rfl⟩
theorem KL.add {K : List Blk} {L : List RBk} {nb : Blk} {x : RH} (h : KL K L) (hp : ∀ p ∈ x.h.ps, p.length = 32) (hnb : nb.is = (nmH (ownH x.h), ownH x.h)) : KL (nb :: K) (L ++ [⟨nmR x.h, x⟩]) := by
  have e1 : nb.id = nmH (ownH x.h) := congrArg (·.1) hnb
  have e2 : nb.h = ownH x.h := congrArg (·.2) hnb
  have e3 := nmR_own hp
  refine ⟨by rw [List.length_cons, List.length_append, h.len]; rfl, fun b hb => ?_, fun r hr => ?_⟩
  · rcases List.mem_cons.1 hb with rfl | hb2
    · exact ⟨⟨nmR x.h, x⟩, List.mem_append_right _ (List.mem_singleton.2 rfl), by rw [e1, e3], e2.symm⟩
    · obtain ⟨r, hr, h1⟩ := h.kl b hb2
      exact ⟨r, List.mem_append_left _ hr, h1⟩
  · rcases List.mem_append.1 hr with hr2 | hr2
    · obtain ⟨b, hb, h1⟩ := h.lk r hr2
      exact ⟨b, List.mem_cons_of_mem _ hb, h1⟩
    · rw [List.mem_singleton.1 hr2]
      exact ⟨nb, List.mem_cons_self, by rw [e1, e3], e2⟩
theorem chk_bridge {K : List Blk} {L : List RBk} {x : RH} (h : KL K L) (hn : (K.map (·.id)).Nodup) (hx : ∀ p ∈ x.h.ps, p.length = 32) (hp : ∀ r ∈ L, ∀ p ∈ r.x.h.ps, p.length = 32) (hht : ∀ r ∈ L, 0 ≤ r.x.h.ht ∧ r.x.h.ht ≤ 9223372036854775807)
    {e e' : Int} (hk : ChkP K (ownH x.h) e) (hr : RkP L x e') : e = e' := by
  have hc : chkH (ownH x.h) = chkR x := chkR_own hx
  have hnm := nmR_own hx
  have hhas := h.has (nmH (ownH x.h))
  rw [hnm] at hhas
  rcases hk with ⟨h1, h2⟩ | ⟨h1, h2, h3⟩ | ⟨h1, h2, Y, e1, hT, h3⟩
  · rcases hr with ⟨_, r2⟩ | ⟨r1, _⟩ | ⟨r1, _⟩
    · rw [h2, r2, hc]
    · exact absurd (hc.trans r1) h1
    · exact absurd (hc.trans r1) h1
  · rcases hr with ⟨r1, _⟩ | ⟨_, _, r2⟩ | ⟨_, r2, _⟩
    · exact absurd (hc.symm.trans h1) r1
    · rw [h3, r2]
    · obtain ⟨r, hr, e⟩ := hhas.1 h2
      exact absurd e (r2 r hr)
  · rcases hr with ⟨r1, _⟩ | ⟨_, ⟨r, hr, e⟩, _⟩ | ⟨_, _, r3⟩
    · exact absurd (hc.symm.trans h1) r1
    · rw [hhas.2 ⟨r, hr, e⟩] at h2; cases h2
    · have hpw : (ownH x.h).ps.Pairwise lN := (rs_pair _).1 ((chk_zero _ _).1 h1).2
      rw [kset_self hpw] at hT
      have hok : nmsOk (kB (ownH x.h).ps) = true := by
        rw [nmsOk_of _ hpw]
        exact decide_eq_true (chkH_ok h1).2.2.2.2.2.1
      unfold TipP at hT
      rw [hok, pcs_of] at hT
      rcases hT with ⟨t1, _⟩ | ⟨_, ⟨n, hnP, hnH⟩, t2, _⟩ | ⟨_, M, hM, hMK, t1, t2⟩
      · cases t1
      · have e7 : e = 7 := by
          rcases h3 with ⟨_, h⟩ | ⟨h, _⟩ | ⟨h, _⟩ | ⟨h, _⟩
          · exact h
          · exact absurd t2 h
          · omega
          · omega
        rcases r3 with ⟨_, r⟩ | ⟨D, e8, hD, _⟩
        · rw [e7, r]
        · exfalso
          have hnp : n.1 ∈ x.h.ps := by rw [← own_ps hx]; exact List.mem_map_of_mem hnP
          obtain ⟨j, hj, hje⟩ := List.mem_iff_getElem.1 hnp
          obtain ⟨r, hr, e1', _⟩ := hD.2 j n.1 (by rw [List.getElem?_eq_getElem hj, hje])
          rw [(h.has n).2 ⟨r, hr, e1'⟩] at hnH
          cases hnH
      · rcases r3 with ⟨⟨p, hpP, hno⟩, _⟩ | ⟨D, e8, hD, h8, r3⟩
        · exfalso
          rw [← own_ps hx] at hpP
          obtain ⟨n, hnP, rfl⟩ := List.mem_map.1 hpP
          rw [← hM] at hnP
          obtain ⟨b, hb, rfl⟩ := List.mem_map.1 hnP
          obtain ⟨r, hr, e1', _⟩ := h.kl b (hMK b hb)
          exact hno r hr e1'
        · have hD2 : HsP L ((ownH x.h).ps.map (·.1)) D := by rw [own_ps hx]; exact hD
          have hMD := h.same hn hM hMK hD2
          have hpD : ∀ y ∈ D, ∃ r ∈ L, y = r.x := fun y hy => by
            obtain ⟨j, hj, rfl⟩ := List.mem_iff_getElem.1 hy
            obtain ⟨r, hr, _, e2⟩ := hD.2 j (x.h.ps[j]'(by rw [← hD.1]; exact hj)) (List.getElem?_eq_getElem _)
            rw [List.getElem?_eq_getElem hj] at e2
            exact ⟨r, hr, Option.some.inj e2⟩
          have hids : (M.map (·.id)).Nodup := by
            rw [hM]
            exact hpw.imp (fun hlt e => by subst e; exact lN_irr _ hlt)
          have hz := ck8_newE hMD hids (fun y hy => by obtain ⟨r, hr, rfl⟩ := hpD y hy; exact hp r hr) h8
          rw [← t1] at hz
          by_cases h80 : e8 = 0
          · have he1 := hz.1 h80
            obtain ⟨y, hy0, hy⟩ : ∃ y, D[0]? = some y ∧ ((x.h.ht ≤ y.h.ht ∧ e' = 11) ∨ (y.h.ht < x.h.ht ∧ e' = 0)) := by
              rcases r3 with ⟨r, _⟩ | ⟨_, r⟩
              · exact absurd h80 r
              · exact r
            have hYt : htX Y = y.h.ht := by
              have he0 : newE (M.map Blk.is) = 0 := by rw [← t1]; exact he1
              obtain ⟨_, hXne, hone, _⟩ := newE_ok he0
              rw [oneI_iff] at hone
              have hml : M.length = D.length := by have := congrArg List.length hMD; simpa using this
              have hdl : 0 < D.length := (List.getElem?_eq_some_iff.1 hy0).1
              have hMh : ∀ j (h1 : j < M.length) (h2 : j < D.length), (M[j]).h = ownH (D[j]).h := fun j h1 h2 => by
                have := List.getElem_of_eq hMD (i := j) (by rw [List.length_map]; exact h1)
                simpa using this
              have hbd : ∀ b ∈ M, 0 ≤ b.is.2.ht ∧ b.is.2.ht ≤ 9223372036854775807 := fun b hb => by
                obtain ⟨j, hj, rfl⟩ := List.mem_iff_getElem.1 hb
                obtain ⟨r, hr, e⟩ := hpD (D[j]'(by omega)) (List.getElem_mem _)
                show 0 ≤ (M[j]).h.ht ∧ (M[j]).h.ht ≤ _
                rw [hMh j hj (by omega), e]
                exact hht r hr
              have hperm : (isort (M.map Blk.is)).Perm (M.map Blk.is) := List.mergeSort_perm _ _
              have hY2 : Y = isort (M.map Blk.is) := by rw [t2]; unfold newX; rw [if_pos he0]
              cases hI : isort (M.map Blk.is) with
              | nil => rw [hI] at hperm; exact absurd hperm.symm.eq_nil hXne
              | cons z l =>
                have hzm : z ∈ M.map Blk.is := hperm.mem_iff.1 (by rw [hI]; exact List.mem_cons_self)
                obtain ⟨b, hb, rfl⟩ := List.mem_map.1 hzm
                have h0m : M[0]'(by omega) ∈ M := List.getElem_mem _
                have hf := hone _ hzm _ (List.mem_map_of_mem h0m)
                have := famI_ht (hbd b hb) (hbd _ h0m) hf
                rw [hY2, hI]
                show b.is.2.ht = _
                rw [this]
                show (M[0]'(by omega)).h.ht = _
                rw [hMh 0 (by omega) hdl]
                rw [List.getElem?_eq_getElem hdl] at hy0
                rw [Option.some.inj hy0]; rfl
            have hox : (ownH x.h).ht = x.h.ht := rfl
            rcases h3 with ⟨h, _⟩ | ⟨_, h, _⟩ | ⟨_, h, h4⟩ | ⟨_, h, h4⟩
            · omega
            · exact absurd he1 h
            · rcases hy with ⟨_, h5⟩ | ⟨h5, _⟩
              · rw [h4, h5]
              · omega
            · rcases hy with ⟨h5, _⟩ | ⟨_, h5⟩
              · omega
              · rw [h4, h5]
          · have he1 : e1 ≠ 0 := fun h => h80 (hz.2 h)
            have e10 : e' = 10 := by
              rcases r3 with ⟨_, r⟩ | ⟨r, _⟩
              · exact r
              · exact absurd r h80
            have hne7 : e1 ≠ 7 := by
              rw [t1]; unfold newE; split
              · decide
              · split
                · decide
                · split <;> decide
            rcases h3 with ⟨h, _⟩ | ⟨_, _, h⟩ | ⟨h, _⟩ | ⟨h, _⟩
            · exact absurd h hne7
            · rw [h, e10]
            · exact absurd h he1
            · exact absurd h he1
end Go.Proofs.YtemnebbdaljfbaaGreatDoor
