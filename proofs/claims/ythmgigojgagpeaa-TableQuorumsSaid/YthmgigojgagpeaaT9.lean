/- The document's Total and Quorum. -/
import Derived.Test.YthmgigojgagpeaaT8
namespace Go.Proofs.Ythmgigojgagpeaa
open Go.RowKit

/-- All powers of entries. -/
def esum (E : List (Nat × Nat)) : Nat := E.foldl (fun t e => t + e.2) 0
theorem esum_from (E : List (Nat × Nat)) (a : Nat) : E.foldl (fun t e => t + e.2) a = a + esum E := by
  unfold esum
  induction E generalizing a with
  | nil => rfl
  | cons e E ih => rw [List.foldl_cons, List.foldl_cons, ih, ih (0 + e.2)]; omega
theorem esum_app (A B : List (Nat × Nat)) : esum (A ++ B) = esum A + esum B := by
  have h := esum_from B (esum A)
  unfold esum at h ⊢
  rw [List.foldl_append]; exact h
theorem esum_one (e : Nat × Nat) : esum [e] = e.2 := Nat.zero_add _
theorem esum_cons (e : Nat × Nat) (E : List (Nat × Nat)) : esum (e :: E) = e.2 + esum E := by
  rw [show e :: E = [e] ++ E from rfl, esum_app, esum_one]
theorem tsum_set (Q : List Nat) (i x : Nat) (hi : i < Q.length) : tsum (Q.set i x) + Q.getD i 0 = tsum Q + x := by
  induction Q generalizing i with
  | nil => cases hi
  | cons q Q ih =>
    cases i with
    | zero => rw [List.set_cons_zero, tsum_cons, tsum_cons]; simp; omega
    | succ i =>
      have := ih i (by simpa using hi)
      rw [List.set_cons_succ, tsum_cons, tsum_cons]
      simp at this ⊢; omega
theorem tsum_wth (E : List (Nat × Nat)) : ∀ (Q : List Nat), (∀ e ∈ E, e.1 < Q.length ∧ Q.getD e.1 0 = 0) → E.Pairwise (fun e f => e.1 ≠ f.1) → tsum (wth Q E) = tsum Q + esum E := by
  induction E with
  | nil => intro Q _ _; rfl
  | cons e E ih =>
    intro Q h hp
    obtain ⟨hp1, hp2⟩ := List.pairwise_cons.1 hp
    have he := h e (by simp)
    have hs := tsum_set Q e.1 e.2 he.1
    show tsum (wth (Q.set e.1 e.2) E) = _
    rw [ih (Q.set e.1 e.2) (fun f hf => ⟨by rw [List.length_set]; exact (h f (by simp [hf])).1, by rw [getD_set _ _ _ _ he.1, if_neg (hp1 f hf)]; exact (h f (by simp [hf])).2⟩) hp2, esum_cons]
    omega
theorem EntsOk.pair {E : List (Nat × Nat)} {least : Nat} (h : EntsOk E least) : E.Pairwise (fun e f => e.1 ≠ f.1) := by
  rw [List.pairwise_iff_getElem]
  intro i j hi hj hij
  have : ∀ d (hd : i + d + 1 < E.length), E[i].1 < E[i + d + 1].1 := by
    intro d
    induction d with
    | zero => intro hd; exact h.up i hd
    | succ d ih => intro hd; exact Nat.lt_trans (ih (by omega)) (h.up (i + d + 1) hd)
  have h2 := this (j - i - 1) (by omega)
  have e : i + (j - i - 1) + 1 = j := by omega
  simp only [e] at h2
  omega
/-- The entries of those who signed. -/
def ein (S : List Int) (E : List (Nat × Nat)) : List (Nat × Nat) := E.filter fun e => decide ((e.1 : Int) ∈ S)
theorem wth_ein (S : List Int) (E : List (Nat × Nat)) : ∀ (Q R : List Nat), Q.length = R.length → (∀ e ∈ E, e.1 < R.length) → (∀ j, Q.getD j 0 = if (j : Int) ∈ S then R.getD j 0 else 0) → ∀ j, (wth Q (ein S E)).getD j 0 = if (j : Int) ∈ S then (wth R E).getD j 0 else 0 := by
  induction E with
  | nil => intro Q R _ _ h; exact h
  | cons e E ih =>
    intro Q R hl he h
    have he0 := he e (by simp)
    show ∀ (j : Nat), _ = if (j : Int) ∈ S then (wth (R.set e.1 e.2) E).getD j 0 else 0
    by_cases hs : (e.1 : Int) ∈ S
    · have e1 : ein S (e :: E) = e :: ein S E := by unfold ein; rw [List.filter_cons, if_pos (by simpa using hs)]
      rw [e1]
      show ∀ j, (wth (Q.set e.1 e.2) (ein S E)).getD j 0 = _
      refine ih _ _ (by rw [List.length_set, List.length_set, hl]) (fun f hf => by rw [List.length_set]; exact he f (by simp [hf])) fun j => ?_
      rw [getD_set _ _ _ _ (by omega), getD_set _ _ _ _ he0, h j]
      by_cases hj : e.1 = j
      · rw [if_pos hj, if_pos hj, if_pos (hj ▸ hs)]
      · rw [if_neg hj, if_neg hj]
    · have e1 : ein S (e :: E) = ein S E := by unfold ein; rw [List.filter_cons, if_neg (by simpa using hs)]
      rw [e1]
      refine ih _ _ (by rw [List.length_set, hl]) (fun f hf => by rw [List.length_set]; exact he f (by simp [hf])) fun j => ?_
      rw [getD_set _ _ _ _ he0, h j]
      by_cases hj : e.1 = j
      · subst hj; rw [if_neg hs, if_neg hs]
      · rw [if_neg hj]
theorem zget (j : Nat) : (List.replicate 64 0 : List Nat).getD j 0 = 0 := by
  rw [List.getD_eq_getElem?_getD, List.getElem?_replicate]; split <;> rfl
theorem tot_eq {E : List (Nat × Nat)} {least : Nat} (h : EntsOk E least) : tsum (wth (List.replicate 64 0) E) = esum E := by
  rw [tsum_wth E _ (fun e he => ⟨by rw [List.length_replicate]; exact h.m e he, zget _⟩) h.pair, tsum_zero, Nat.zero_add]
theorem sig_eq {E : List (Nat × Nat)} {least : Nat} (h : EntsOk E least) (S : List Int) : tsum (sig (wth (List.replicate 64 0) E) S) = esum (ein S E) := by
  have hP : (wth (List.replicate 64 0) E).length = 64 := by rw [wth_len]; simp
  obtain ⟨l1, g1⟩ := sig_get hP S
  have hw := wth_ein S E (List.replicate 64 0) (List.replicate 64 0) rfl (fun e he => by rw [List.length_replicate]; exact h.m e he) (fun j => by rw [zget]; split <;> rfl)
  have hlen : (wth (List.replicate 64 0) (ein S E)).length = 64 := by rw [wth_len]; simp
  have e : tsum (sig (wth (List.replicate 64 0) E) S) = tsum (wth (List.replicate 64 0) (ein S E)) :=
    Nat.le_antisymm (tsum_pt (by rw [l1, hlen]) fun j => by rw [g1, hw]; exact Nat.le_refl _) (tsum_pt (by rw [l1, hlen]) fun j => by rw [g1, hw]; exact Nat.le_refl _)
  rw [e, tsum_wth (ein S E) _ (fun e he => ⟨by rw [List.length_replicate]; exact h.m e ((List.mem_filter.1 he).1), zget _⟩) (h.pair.filter _), tsum_zero, Nat.zero_add]

set_option maxRecDepth 20000 in
set_option maxHeartbeats 4000000 in
theorem rtotal_any (ao : Option Addr) (cap : Nat) (E : List (Nat × Nat)) (w : World) (hS : EntsAt w ao E) (hok : EntsOk E 1) (hl : E.length ≤ 64) :
    Calls Try.prog 22 #[.slice ao E.length cap] w fun r w' => r = .returned (.int .i64 (esum E : Int)) ∧ Below w.heap.size w w' := by
  obtain ⟨n, hn⟩ : ∃ n, E.length = n := ⟨_, rfl⟩
  rw [hn] at hl ⊢
  have Hn := Lib.hid hn
  have HS := Lib.hid hS
  have Hok := Lib.hid hok
  clear hn hS hok
  go_enter Try.func22, Try.ntmps22
  go_wp2_with fail
  go_loopw [3, 8] (fun s3 s8 wr => ∃ (i t : Nat), i ≤ n ∧ s3 = .int .i64 (t : Int) ∧ s8 = .int .i64 (i : Int) ∧ t ≤ i * 1099511627776 ∧ Hid (t = esum (E.take i)) ∧ Below w.heap.size w wr) (fun _ i _ => n - (intOf i).toNat)
  case atStart => exact ⟨0, 0, by omega, rfl, rfl, by omega, Lib.hid rfl, Below.refl _ _⟩
  case round =>
    obtain ⟨i, t, hi, rfl, rfl, htb, ht, hB⟩ := hrel
    by_cases hin : i < n
    · have hil : i < E.length := by rw [Hn.out]; exact hin
      obtain ⟨bs, off, rfl, hbs, c1, c2⟩ := (HS.out.old hB) i hil
      have hp := Hok.out.p E[i] (List.getElem_mem hil)
      have ht2 : Hid (t + E[i].2 = esum (E.take (i + 1))) := Lib.hid (by rw [← List.take_append_getElem hil, esum_app, esum_one, ← ht.out])
      obtain ⟨p, hp0⟩ : ∃ m, m = E[i].2 := ⟨_, rfl⟩
      rw [← hp0] at hp c2 ht2
      generalize E[i].1 = m at c1
      have i1 : (i : Int) < n := by omega
      have i0 : (0 : Int) ≤ i := by omega
      have w1 : IntKind.i64.wrap ((t : Int) + p) = (t : Int) + p := by rw [IntKind.wrap_i64]; omega
      have hB2 : Below w.heap.size w (wr.alloc (.cells #[.int .i64 (m : Int), .int .i64 (p : Int)] 46)) := hB.alloc hB.size _
      have hb2 : t + p ≤ (i + 1) * 1099511627776 := by omega
      clear ht hp0 hp htb
      go_wp2_with fail
      go_roundw
      case rel => exact ⟨i + 1, t + p, by omega, by go_num, by go_num, hb2, ht2, hB2⟩
      case measure => simp [intOf]; omega
    · obtain rfl : i = n := by omega
      have e : t = esum E := by rw [ht.out, List.take_of_length_le (by rw [Hn.out]; exact Nat.le_refl _)]
      subst e
      clear ht htb
      go_wp2_with fail
      go_ret
      exact ⟨rfl, hB⟩
end Go.Proofs.Ythmgigojgagpeaa
