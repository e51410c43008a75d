/- Texts 5: what the laws lean on. -/
import Derived.Test.YtiegakeacghnfaaDoorM4
import Derived.Test.YtiegakeacghnfaaDoorM1
import Derived.Deep.AppendLies
import Derived.Deep.RegionLaw
import Derived.Deep.DeepCutAuto
import Derived.Deep.CutBlock
import Derived.Deep.QuietTactic
import Derived.BigQuiet
import Derived.StillTailTactics
import Derived.BigRegion
import Derived.Test.YtiegakeacghnfaaDoorM2
namespace Go.Proofs.YtiegakeacghnfaaDoor
open Go.RowKit

theorem insB_len (s : List UInt8) (l : List (List UInt8)) : (insB s l).length ≤ l.length + 1 := by
  induction l with
  | nil => simp [insB]
  | cons t r ih => rw [insB]; split
                   · simp
                   · split <;> simp <;> omega
theorem rsort_len (L : List (List UInt8)) : (rsort L).length ≤ L.length := by
  have h : ∀ (L A : List (List UInt8)), (L.foldl (fun out s => insB s out) A).length ≤ A.length + L.length := by
    intro L
    induction L with
    | nil => intro A; exact Nat.le_refl _
    | cons s l ih => intro A; have := ih (insB s A); have := insB_len s A; rw [List.foldl_cons, List.length_cons]; omega
  have := h L []; simpa [rsort] using this
/-- The inner loop behind j rounds. -/
def inJ (s : List UInt8) (M : List (List UInt8)) (j : Nat) : List (List UInt8) × Bool := (M.take j).foldl (insR s) ([], false)
theorem inJ_zero (s : List UInt8) (M : List (List UInt8)) : inJ s M 0 = ([], false) := rfl
theorem inJ_succ (s : List UInt8) (M : List (List UInt8)) (j : Nat) (h : j < M.length) : inJ s M (j + 1) = insR s (inJ s M j) M[j] := by
  unfold inJ; rw [List.take_succ_eq_append_getElem h, List.foldl_append]; rfl
theorem inJ_len (s : List UInt8) (M : List (List UInt8)) (j : Nat) : (inJ s M j).1.length ≤ 2 * j := by
  induction j with
  | zero => simp [inJ]
  | succ j ih =>
    by_cases h : j < M.length
    · rw [inJ_succ s M j h]
      unfold insR
      split
      · simp only [List.length_append, List.length_cons, List.length_nil]; omega
      · simp only [List.length_append, List.length_cons, List.length_nil]; omega
    · unfold inJ at ih ⊢
      rw [List.take_of_length_le (by omega)]
      rw [List.take_of_length_le (by omega)] at ih
      omega
theorem inJ_end (s : List UInt8) (M : List (List UInt8)) : insE s (inJ s M M.length) = insB s M := by
  unfold inJ; rw [List.take_length]; have := insR_false s M []; simpa using this
/-- The three ways that a text stands to another one. -/
theorem tri (s t : List UInt8) : (Op.bytesLess s t = true ∧ ∀ R, insR s (R, false) t = (R ++ [s] ++ [t], true)) ∨ (Op.bytesLess s t = false ∧ (s == t) = false ∧ ∀ R, insR s (R, false) t = (R ++ [t], false)) ∨ (Op.bytesLess s t = false ∧ (s == t) = true ∧ ∀ R, insR s (R, false) t = (R ++ [t], true)) := by
  by_cases h1 : Lib.compareBytes s t < 0
  · have h2 : ¬ Lib.compareBytes t s < 0 := fun h => by have := cmpB_trans s t s h1 h; rw [cmpB_self] at this; exact absurd this (by decide)
    exact .inl ⟨by rw [less_cmp, decide_eq_true h1], fun R => by simp [insR, h1, h2]⟩
  · by_cases h2 : Lib.compareBytes t s < 0
    · have h3 : s ≠ t := fun e => by rw [e, cmpB_self] at h2; exact absurd h2 (by decide)
      exact .inr (.inl ⟨by rw [less_cmp, decide_eq_false h1], by simp [h3], fun R => by simp [insR, h1, h2]⟩)
    · have h3 := cmpB_eq s t h1 h2
      exact .inr (.inr ⟨by rw [less_cmp, decide_eq_false h1], by simp [h3], fun R => by simp [insR, h1, h2]⟩)
theorem insR_t (s t : List UInt8) (R : List (List UInt8)) : insR s (R, true) t = (R ++ [t], true) := by simp [insR]
theorem AccR.one {w wr : World} {k : Nat} {D : List (List UInt8)} {q : Option Addr} {c : Nat} (h : AccR encS 9 w k D q c wr) (s : List UInt8) :
    Rw encS 9 (wr.alloc (.cells #[.string ⟨s.toArray⟩] 9)) q c D ∧ Rd encS (wr.alloc (.cells #[.string ⟨s.toArray⟩] 9)) (some ⟨wr.heap.size, 0, none⟩) [s] ∧
    ∀ q' c' w', PushR encS 9 (wr.alloc (.cells #[.string ⟨s.toArray⟩] 9)) q (D ++ [s]) q' c' w' → AccR encS 9 w (k + 1) (D ++ [s]) q' c' w' := by
  have h2 := h.below ((Below.refl wr.heap.size wr).alloc (Nat.le_refl _) (.cells #[.string ⟨s.toArray⟩] 9))
  exact ⟨h2.s, Rd.made encS wr 9 [s] (by simp [maxLen]), fun q' c' w' hP => h2.push hP⟩

set_option maxRecDepth 20000 in
set_option maxHeartbeats 4000000 in
theorem rsorts_any (ao : Option Addr) (cap : Nat) (L : List (List UInt8)) (w : World) (hL : Rd encS w ao L) (hn : L.length ≤ 100000) :
    Calls Tryd.prog 22 #[.slice ao L.length cap] w fun r w' => ∃ q c, r = .returned (.slice q (rsort L).length c) ∧ Rw encS 9 w' q c (rsort L) ∧ (∀ a, q = some a → w.heap.size ≤ a.block) ∧ Below w.heap.size w w' := by
  obtain ⟨n, hnL⟩ : ∃ n, n = L.length := ⟨_, rfl⟩
  obtain ⟨F, hF⟩ : ∃ F : Ending → World → Prop, F = fun r w' => ∃ q c, r = .returned (.slice q (rsort L).length c) ∧ Rw encS 9 w' q c (rsort L) ∧ (∀ a, q = some a → w.heap.size ≤ a.block) ∧ Below w.heap.size w w' := ⟨_, rfl⟩
  rw [← hF]
  rw [← hnL] at hn ⊢
  have HF := Lib.hid hF
  have Hn := Lib.hid hnL
  have HL := Lib.hid hL
  clear hnL hL hF
  go_enter Tryd.func22, Tryd.ntmps22
  go_wp2_with fail
  go_loopw [3, 5, 6, 7, 9, 13] (fun s3 _ _ _ _ s13 wr => ∃ (i : Nat) (q : Option Addr) (c m : Nat), i ≤ n ∧ s13 = .int .i64 (i : Int) ∧ s3 = .slice q m c ∧ Hid (m = (rsort (L.take i)).length) ∧ Hid (Rw encS 9 wr q c (rsort (L.take i)) ∧ (∀ a, q = some a → w.heap.size ≤ a.block) ∧ Below w.heap.size w wr)) (fun _ _ _ _ _ i _ => n - (intOf i).toNat)
  case atStart => exact ⟨0, some ⟨w.heap.size, 0, none⟩, 0, 0, Nat.zero_le _, rfl, rfl, Lib.hid rfl, Lib.hid ⟨Rw.made (E := encS) 9 w [] (by simp [maxLen]), (fun a e => by cases e; exact Nat.le_refl _), (Below.refl _ _).alloc (Nat.le_refl _) _⟩⟩
  case round =>
    rename World => w1
    obtain ⟨i, q, c, m, hi, rfl, rfl, HM, HW⟩ := hrel
    by_cases hlt : i < n
    · have hiL : i < L.length := by rw [← Hn.out]; exact hlt
      obtain ⟨bs, off, rfl, hbs, cx⟩ := (HL.out.old HW.out.2.2).str i hiL
      have hnx : rsort (L.take (i + 1)) = insB L[i] (rsort (L.take i)) := by rw [List.take_succ_eq_append_getElem hiL, rsort_snoc]
      obtain ⟨s, hs⟩ : ∃ s, s = L[i] := ⟨_, rfl⟩
      rw [← hs] at cx hnx
      have Hnx := Lib.hid hnx
      have hml : m ≤ 100000 := by have := rsort_len (L.take i); rw [← HM.out, List.length_take] at this; omega
      obtain ⟨M, hM⟩ : ∃ M, M = rsort (L.take i) := ⟨_, rfl⟩
      rw [← hM] at HM HW Hnx
      have i0 : (0 : Int) ≤ i := by omega
      have i1 : (i : Int) < n := by omega
      have Hlt := Lib.hid hlt
      clear hM hs hnx hiL hlt
      go_wp2_with fail
      clear cx
      go_loopw [6, 7, 9, 20] (fun s6 s7 _ s20 wr => ∃ (j : Nat) (q2 : Option Addr) (c2 k : Nat) (d : Bool), j ≤ m ∧ k ≤ 2 * j ∧ s20 = .int .i64 (j : Int) ∧ s6 = .slice q2 k c2 ∧ s7 = .bool d ∧ Hid (d = (inJ s M j).2) ∧ Hid (AccR encS 9 w1 k (inJ s M j).1 q2 c2 wr)) (fun _ _ _ j _ => m - (intOf j).toNat)
      case atStart => exact ⟨0, some ⟨w1.heap.size, 0, none⟩, 0, 0, false, Nat.zero_le _, Nat.le_refl _, rfl, rfl, rfl, Lib.hid rfl, Lib.hid ⟨Rw.made (E := encS) 9 w1 [] (by simp [maxLen]), rfl, (fun a e => by cases e; exact Nat.le_refl _), (Below.refl _ _).alloc (Nat.le_refl _) _⟩⟩
      case round =>
        obtain ⟨j, q2, c2, k, d, hj, hk, rfl, rfl, rfl, HD, HA⟩ := hrel
        by_cases hjm : j < m
        · have hjM : j < M.length := by rw [← HM.out]; exact hjm
          obtain ⟨b2, o2, rfl, hb2, cy⟩ := (HW.out.1.old HA.out.m).rd.str j hjM
          have hnx := inJ_succ s M j hjM
          obtain ⟨t, ht⟩ : ∃ t, t = M[j] := ⟨_, rfl⟩
          rw [← ht] at cy hnx
          obtain ⟨R, hR⟩ : ∃ R, R = (inJ s M j).1 := ⟨_, rfl⟩
          rw [← hR] at HA
          have hpair : inJ s M j = (R, d) := by rw [hR, HD.out]
          rw [hpair] at hnx
          have j0 : (0 : Int) ≤ j := by omega
          have j1 : (j : Int) < m := by omega
          have Hjm := Lib.hid hjm
          have HRk := Lib.hid HA.out.len
          obtain ⟨a1, a2, a3⟩ := HA.out.one t
          have A1 := Lib.hid a1
          have A2 := Lib.hid a2
          have A3 := Lib.hid a3
          clear ht hR hpair hjM a1 a2 a3 HD hjm
          cases d with
          | true =>
            rw [insR_t] at hnx
            have Hnx2 := Lib.hid hnx
            clear hnx
            go_wp2_with ((at_builtin; refine wpList_pushR encS rfl _ _ 23 9 (.string ⟨#[]⟩) 16 rfl Tryd.underlying23 info_strH rfl (by decide) q2 c2 k R HRk.out rfl A1.out (some ⟨wr.heap.size, 0, none⟩) 1 1 [t] rfl rfl A2.out (by omega) ?_; intro q' c' w5 hP))
            have HP := Lib.hid (A3.out _ _ _ hP)
            have hjm := Hjm.out
            clear hP A1 A2 A3
            go_roundw
            case rel => exact ⟨j + 1, q', c', k + 1, true, by omega, by omega, by go_num, rfl, rfl, Lib.hid (by rw [Hnx2.out]), Lib.hid (by rw [Hnx2.out]; exact HP.out)⟩
            case measure => simp [intOf]; omega
          | false =>
            rcases tri s t with ⟨g1, g2⟩ | ⟨g1, g3, g2⟩ | ⟨g1, g3, g2⟩
            · rw [g2] at hnx
              have Hnx2 := Lib.hid hnx
              obtain ⟨b1, b4, b5⟩ := HA.out.one s
              have B1 := Lib.hid b1
              have B4 := Lib.hid b4
              have B5 := Lib.hid b5
              clear hnx g2 b1 b4 b5 A1 A2 A3
              go_wp2_with (first | (at_builtin; refine wpList_pushR encS rfl _ _ 23 9 (.string ⟨#[]⟩) 16 rfl Tryd.underlying23 info_strH rfl (by decide) q2 c2 k R HRk.out rfl B1.out (some ⟨wr.heap.size, 0, none⟩) 1 1 [s] rfl rfl B4.out (by omega) ?_; intro q' c' w5 hP; have HP1 := Lib.hid (B5.out _ _ _ hP); have HL1 := Lib.hid HP1.out.len; have A1 := Lib.hid (HP1.out.one t).1; have A2 := Lib.hid (HP1.out.one t).2.1; have A3 := Lib.hid (HP1.out.one t).2.2; clear hP) | (at_builtin; refine wpList_pushR encS rfl _ _ 23 9 (.string ⟨#[]⟩) 16 rfl Tryd.underlying23 info_strH rfl (by decide) q' c' (k + 1) (R ++ [s]) HL1.out rfl A1.out (some ⟨w5.heap.size, 0, none⟩) 1 1 [t] rfl rfl A2.out (by omega) ?_; intro q9 c9 w6 hP2))
              have HP := Lib.hid (A3.out _ _ _ hP2)
              have hjm := Hjm.out
              clear hP2 A1 A2 A3 B1 B4 B5
              go_roundw
              case rel => exact ⟨j + 1, q9, c9, k + 1 + 1, true, by omega, by omega, by go_num, rfl, rfl, Lib.hid (by rw [Hnx2.out]), Lib.hid (by rw [Hnx2.out]; exact HP.out)⟩
              case measure => simp [intOf]; omega
            · rw [g2] at hnx
              have Hnx2 := Lib.hid hnx
              clear hnx g2
              go_wp2_with (at_builtin; refine wpList_pushR encS rfl _ _ 23 9 (.string ⟨#[]⟩) 16 rfl Tryd.underlying23 info_strH rfl (by decide) q2 c2 k R HRk.out rfl A1.out (some ⟨wr.heap.size, 0, none⟩) 1 1 [t] rfl rfl A2.out (by omega) ?_; intro q' c' w5 hP)
              have HP := Lib.hid (A3.out _ _ _ hP)
              have hjm := Hjm.out
              clear hP A1 A2 A3
              go_roundw
              case rel => exact ⟨j + 1, q', c', k + 1, false, by omega, by omega, by go_num, rfl, rfl, Lib.hid (by rw [Hnx2.out]), Lib.hid (by rw [Hnx2.out]; exact HP.out)⟩
              case measure => simp [intOf]; omega
            · rw [g2] at hnx
              have Hnx2 := Lib.hid hnx
              clear hnx g2
              go_wp2_with (at_builtin; refine wpList_pushR encS rfl _ _ 23 9 (.string ⟨#[]⟩) 16 rfl Tryd.underlying23 info_strH rfl (by decide) q2 c2 k R HRk.out rfl A1.out (some ⟨wr.heap.size, 0, none⟩) 1 1 [t] rfl rfl A2.out (by omega) ?_; intro q' c' w5 hP)
              have HP := Lib.hid (A3.out _ _ _ hP)
              have hjm := Hjm.out
              clear hP A1 A2 A3
              go_roundw
              case rel => exact ⟨j + 1, q', c', k + 1, true, by omega, by omega, by go_num, rfl, rfl, Lib.hid (by rw [Hnx2.out]), Lib.hid (by rw [Hnx2.out]; exact HP.out)⟩
              case measure => simp [intOf]; omega
        · have j1 : ¬ (j : Int) < m := by omega
          have e : j = m := by omega
          rw [e, HM.out] at HD HA
          have hend := inJ_end s M
          obtain ⟨R, hR⟩ : ∃ R, R = (inJ s M M.length).1 := ⟨_, rfl⟩
          rw [← hR] at HA
          have hpair : inJ s M M.length = (R, d) := by rw [hR, HD.out]
          rw [hpair] at hend
          have HRk := Lib.hid HA.out.len
          have HB2 : Hid (w.heap.size ≤ w1.heap.size ∧ Below w.heap.size w w1) := Lib.hid ⟨HW.out.2.2.size, HW.out.2.2⟩
          have hjm : k ≤ 2 * m := by omega
          clear e hR hpair HD hj hk HW
          cases d with
          | true =>
            have HE : Hid (insB s M = R) := Lib.hid hend.symm
            clear hend
            go_wp2_with fail
            have hlt := Hlt.out
            go_roundw
            case rel => exact ⟨i + 1, q2, c2, k, by omega, by go_num, rfl, Lib.hid (by rw [Hnx.out, HE.out, HRk.out]), Lib.hid (by rw [Hnx.out, HE.out]; exact ⟨HA.out.s, fun a e => Nat.le_trans HB2.out.1 (HA.out.new a e), HB2.out.2.trans (HA.out.m.mono HB2.out.1)⟩)⟩
            case measure => simp [intOf]; omega
          | false =>
            have HE : Hid (insB s M = R ++ [s]) := Lib.hid hend.symm
            obtain ⟨a1, a2, a3⟩ := HA.out.one s
            have A1 := Lib.hid a1
            have A2 := Lib.hid a2
            have A3 := Lib.hid a3
            clear hend a1 a2 a3
            go_wp2_with (at_builtin; refine wpList_pushR encS rfl _ _ 23 9 (.string ⟨#[]⟩) 16 rfl Tryd.underlying23 info_strH rfl (by decide) q2 c2 k R HRk.out rfl A1.out (some ⟨wr.heap.size, 0, none⟩) 1 1 [s] rfl rfl A2.out (by omega) ?_; intro q' c' w5 hP)
            have HP := Lib.hid (A3.out _ _ _ hP)
            have hlt := Hlt.out
            clear hP A1 A2 A3
            go_roundw
            case rel => exact ⟨i + 1, q', c', k + 1, by omega, by go_num, rfl, Lib.hid (by rw [Hnx.out, HE.out, HP.out.len]), Lib.hid (by rw [Hnx.out, HE.out]; exact ⟨HP.out.s, fun a e => Nat.le_trans HB2.out.1 (HP.out.new a e), HB2.out.2.trans (HP.out.m.mono HB2.out.1)⟩)⟩
            case measure => simp [intOf]; omega
    · have i1 : ¬ (i : Int) < n := by omega
      have e : i = n := by omega
      rw [e, Hn.out, List.take_length] at HM HW
      clear e
      go_wp2_with fail
      rw [HF.out]
      exact ⟨q, c, by rw [HM.out], HW.out.1, HW.out.2.1, HW.out.2.2⟩
end Go.Proofs.YtiegakeacghnfaaDoor

namespace Go.Proofs.YtiegakeacghnfaaDoor
open Go.RowKit

set_option maxHeartbeats 400000 in
theorem turn_any (x n : Nat) (w : World) (hx : x < 4294967296) (hn : n ≤ 32) :
    Calls Tryd.prog 56 #[.int .u64 x, .int .i64 (n : Int)] w fun r w' => r = .returned (.int .u64 (rotr x n : Int)) ∧ w = w' := by
  obtain ⟨x0, hx0⟩ : ∃ x0, x0 = x := ⟨_, rfl⟩
  have hs : x = rotr x0 0 := by rw [hx0, rotr_zero]
  rw [← hx0] at hx ⊢
  go_enter Tryd.func56, Tryd.ntmps56
  go_wp2_with fail
  go_loopw [0, 5] (fun y i wr => ∃ k : Nat, k ≤ n ∧ y = .int .u64 (rotr x0 k : Int) ∧ i = .int .i64 k ∧ w = wr) (fun _ i _ => n - (intOf i).toNat)
  case atStart => exact ⟨0, by omega, by rw [rotr_zero], rfl, rfl⟩
  case round =>
    obtain ⟨k, hk, rfl, rfl, rfl⟩ := hrel
    by_cases hlt : k < n
    · have hsu := rotr_succ x0 k (by omega)
      have hr1 := rotr_lt x0 k hx (by omega)
      generalize rotr x0 k = y at hsu hr1
      have H := Lib.hid hsu
      have h1 : (k : Int) < n := by omega
      have y0 : (0 : Int) ≤ y := by omega
      have d1 : (y : Int).tdiv 2 = ((y / 2 : Nat) : Int) := by rw [Int.tdiv_eq_ediv_of_nonneg y0]; omega
      have d2 : (y : Int).tmod 2 = ((y % 2 : Nat) : Int) := by rw [Int.tmod_eq_emod_of_nonneg y0]; omega
      have b1 : y / 2 < 2147483648 := by omega
      have b2 : y % 2 < 2 := by omega
      generalize y / 2 = p at *
      generalize y % 2 = q at *
      clear hsu
      go_wp2_with fail
      go_roundw
      case rel => exact ⟨k + 1, by omega, by rw [H.out]; go_num, by go_num, trivial⟩
      case measure => simp [intOf]; omega
    · obtain rfl : k = n := by omega
      go_wp2_with fail
      go_ret
      exact ⟨rfl, rfl⟩
theorem div_pow_succ (x k : Nat) : x / 2 ^ (k + 1) = x / 2 ^ k / 2 := by rw [Nat.pow_succ, Nat.div_div_eq_div_mul]

set_option maxHeartbeats 400000 in
theorem down_any (x n : Nat) (w : World) (hx : x < 4294967296) (hn : n ≤ 32) :
    Calls Tryd.prog 57 #[.int .u64 x, .int .i64 (n : Int)] w fun r w' => r = .returned (.int .u64 ((x / 2 ^ n : Nat) : Int)) ∧ w = w' := by
  obtain ⟨f, hf⟩ : ∃ f : Nat → Nat, f = fun k => x / 2 ^ k := ⟨_, rfl⟩
  have f0 : x = f 0 := by rw [hf]; simp
  have fs : ∀ k, f (k + 1) = f k / 2 := by intro k; rw [hf]; exact div_pow_succ x k
  have fl : ∀ k, f k < 4294967296 := by intro k; rw [hf]; exact Nat.lt_of_le_of_lt (Nat.div_le_self _ _) hx
  have fn : x / 2 ^ n = f n := by rw [hf]
  rw [fn]
  have F0 := Lib.hid f0
  have Fs := Lib.hid fs
  clear hf f0 fs fn
  go_enter Tryd.func57, Tryd.ntmps57
  go_wp2_with fail
  go_loopw [0, 5] (fun y i wr => ∃ k : Nat, k ≤ n ∧ y = .int .u64 (f k : Int) ∧ i = .int .i64 k ∧ w = wr) (fun _ i _ => n - (intOf i).toNat)
  case atStart => exact ⟨0, by omega, by rw [← F0.out], rfl, rfl⟩
  case round =>
    obtain ⟨k, hk, rfl, rfl, rfl⟩ := hrel
    by_cases hlt : k < n
    · have hsu := Fs.out k
      have hr1 := fl k
      generalize f k = y at hsu hr1
      have H := Lib.hid hsu
      have h1 : (k : Int) < n := by omega
      have y0 : (0 : Int) ≤ y := by omega
      have d1 : (y : Int).tdiv 2 = ((y / 2 : Nat) : Int) := by rw [Int.tdiv_eq_ediv_of_nonneg y0]; omega
      have b1 : y / 2 < 2147483648 := by omega
      generalize y / 2 = p at *
      clear hsu
      go_wp2_with fail
      go_roundw
      case rel => exact ⟨k + 1, by omega, by rw [H.out], by go_num, trivial⟩
      case measure => simp [intOf]; omega
    · obtain rfl : k = n := by omega
      go_wp2_with fail
      go_ret
      exact ⟨rfl, rfl⟩

set_option maxHeartbeats 400000 in
set_option maxRecDepth 100000 in
theorem keys_any (w : World) :
    Calls Tryd.prog 55 #[] w fun r w' => r = .returned (.slice (some ⟨w.heap.size, 0, none⟩) 64 64) ∧ Mod (fun _ => False) w w' ∧ RowAt .u64 22 w' w.heap.size kTab := by
  go_enter Tryd.func55, Tryd.ntmps55
  go_wp2_with fail
  generalize hW : w.alloc _ = W
  have h1 : Mod (fun _ => False) w W ∧ RowAt .u64 22 W w.heap.size kTab := by rw [← hW]; exact ⟨(Mod.refl _ _).alloc _, heap_alloc_new _ _⟩
  clear hW
  go_ret
  exact ⟨rfl, h1⟩
end Go.Proofs.YtiegakeacghnfaaDoor

namespace Go.Proofs.YtiegakeacghnfaaDoor

theorem absorb_app (a b : List Nat) : absorb (a ++ b) = b.foldl absorb1 (absorb a) := by simp [absorb]

theorem fold_part (b : List Nat) (s : List Nat × List Nat) (h : s.2.length + b.length < 64) : b.foldl absorb1 s = (s.1, s.2 ++ b) := by
  induction b generalizing s with
  | nil => simp
  | cons x b ih =>
    rw [List.length_cons] at h
    rw [List.foldl_cons, absorb1, if_neg (by omega), ih _ (by simp; omega)]
    simp

/-- A whole block more. -/
theorem fold_block (b H : List Nat) (h : b.length = 64) : b.foldl absorb1 (H, []) = (block H b, []) := by
  have hne : b ≠ [] := by intro e; rw [e] at h; simp at h
  obtain ⟨c, x, rfl⟩ : ∃ c x, b = c ++ [x] := ⟨b.dropLast, b.getLast hne, (List.dropLast_concat_getLast hne).symm⟩
  have hl : c.length = 63 := by simp at h; omega
  rw [List.foldl_append, fold_part c (H, []) (by simp; omega), List.nil_append, List.foldl_cons, List.foldl_nil, absorb1, if_pos (by simp; omega)]

theorem absorb_whole (m : List Nat) (h : m.length % 64 = 0) : (absorb m).2 = [] := by
  have := absorb_buf m; rw [h] at this; exact List.eq_nil_of_length_eq_zero this

/-- The words behind j blocks. -/
def wordsAt (m : List Nat) (j : Nat) : List Nat := (absorb (m.take (64 * j))).1
theorem wordsAt_zero (m : List Nat) : wordsAt m 0 = hTab := by simp [wordsAt, absorb]
def chunk (m : List Nat) (j : Nat) : List Nat := (m.drop (64 * j)).take 64
theorem chunk_len (m : List Nat) (j : Nat) (h : 64 * (j + 1) ≤ m.length) : (chunk m j).length = 64 := by simp [chunk]; omega
theorem chunk_at (m : List Nat) (j i : Nat) (hi : i < 64) : (chunk m j).getD i 0 = m.getD (64 * j + i) 0 := by
  simp [chunk, List.getD, List.getElem?_drop, hi]
theorem wordsAt_succ (m : List Nat) (j : Nat) (h : 64 * (j + 1) ≤ m.length) : wordsAt m (j + 1) = block (wordsAt m j) (chunk m j) := by
  have e : m.take (64 * (j + 1)) = m.take (64 * j) ++ chunk m j := by
    rw [chunk, show 64 * (j + 1) = 64 * j + 64 by omega, List.take_add]
  have hb : (absorb (m.take (64 * j))).2 = [] := absorb_whole _ (by rw [List.length_take]; omega)
  unfold wordsAt
  rw [e, absorb_app, show absorb (m.take (64 * j)) = ((absorb (m.take (64 * j))).1, []) by rw [← hb], fold_block _ _ (chunk_len m j h)]
theorem wordsAt_len (m : List Nat) (j : Nat) : (wordsAt m j).length = 8 := absorb_words _
theorem wordsAt_lt (m : List Nat) (j : Nat) : ∀ x ∈ wordsAt m j, x < 4294967296 := absorb_lt _
theorem wordsAt_end (m : List Nat) (j : Nat) (h : 64 * j = m.length) : (absorb m).1 = wordsAt m j := by
  unfold wordsAt; rw [List.take_of_length_le (by omega)]

theorem padded_len (m : List Nat) : (padded m).length % 64 = 0 := by
  simp only [padded, List.length_append, List.length_singleton, List.length_replicate, lenBytes_len, zeros]
  omega
theorem padded_lt (m : List Nat) (h : ∀ x ∈ m, x < 256) : ∀ x ∈ padded m, x < 256 := by
  intro x hx
  simp only [padded, List.mem_append, List.mem_singleton] at hx
  rcases hx with ((hx | hx) | hx) | hx
  · exact h x hx
  · omega
  · rw [List.eq_of_mem_replicate hx]; omega
  · obtain ⟨i, _, rfl⟩ := List.mem_map.1 hx; exact Nat.mod_lt _ (by decide)

/-- The length's bytes from behind. -/
theorem lenBytes_from (n k : Nat) (hk : k < 8) : (lenBytes n 8).drop (7 - k) = (n * 8 / 256 ^ k % 256) :: (lenBytes n 8).drop (8 - k) := by
  have hl := lenBytes_len n 8
  rw [List.drop_eq_getElem_cons (by omega), show 7 - k + 1 = 8 - k by omega]
  congr 1
  simp only [lenBytes, List.getElem_map, List.getElem_range]
  rw [show 7 - (7 - k) = k by omega, Nat.pow_mul]

/-- The words of a block by one sum. -/
theorem sched_next (L : List Nat) (n : Nat) (h : 16 ≤ n) : schedTo L (n + 1) = schedTo L n ++ [((schedTo L n).getD (n - 16) 0 + s0 ((schedTo L n).getD (n - 15) 0) + (schedTo L n).getD (n - 7) 0 + s1 ((schedTo L n).getD (n - 2) 0)) % 4294967296] := by
  show schedTo L n ++ [_] = _
  rw [if_neg (by omega)]
  congr 2
  generalize (schedTo L n).getD (n - 16) 0 = a
  generalize s0 _ = b
  generalize (schedTo L n).getD (n - 7) 0 = c
  generalize s1 _ = d
  omega
theorem sched_first (L : List Nat) (n : Nat) (h : n < 16) : schedTo L (n + 1) = schedTo L n ++ [w16 L n] := by
  show schedTo L n ++ [_] = _
  rw [if_pos h]

theorem tOf_sum (v : V) (k w : Nat) : tOf v k w = (v.h + S1 v.e + ch v.e v.f v.g + k + w) % 4294967296 := by
  unfold tOf
  generalize S1 _ = a
  generalize ch _ _ _ = b
  omega

/-- A word's four bytes. -/
def four (x : Nat) : List Nat := [x / 16777216 % 256, x / 65536 % 256, x / 256 % 256, x % 256]
theorem outTo_four (H : List Nat) (k : Nat) : outTo H (4 * (k + 1)) = outTo H (4 * k) ++ four (H.getD k 0) := by
  rw [show 4 * (k + 1) = 4 * k + 1 + 1 + 1 + 1 by omega, outTo_succ, outTo_succ, outTo_succ, outTo_succ]
  rw [show (4 * k + 1 + 1 + 1) / 4 = k by omega, show (4 * k + 1 + 1) / 4 = k by omega, show (4 * k + 1) / 4 = k by omega, show 4 * k / 4 = k by omega,
    show (4 * k + 1 + 1 + 1) % 4 = 3 by omega, show (4 * k + 1 + 1) % 4 = 2 by omega, show (4 * k + 1) % 4 = 1 by omega, show 4 * k % 4 = 0 by omega]
  simp [four]
end Go.Proofs.YtiegakeacghnfaaDoor

namespace Go.Proofs.YtiegakeacghnfaaDoor
open Go.RowKit

/-- A row of words, owned, from B on. -/
def W64 (B : Nat) (w : World) (g cap : Nat) (A : List Nat) : Prop := w.ownsRow B 22 1 (.slice (some ⟨g, 0, none⟩) A.length cap) A.length (nums .u64 A)

theorem W64.row {B : Nat} {w : World} {g cap : Nat} {A : List Nat} (h : W64 B w g cap A) :
    B ≤ g ∧ ∃ cur, w.heap[g]? = some (.cells cur 22 (0, 0)) ∧ A.length ≤ cap ∧ cap ≤ maxLen ∧ cur.size = cap ∧ cur.toList.take A.length = nums .u64 A := by
  rcases h.2 with ⟨h, _⟩ | ⟨g', cap', cur, e, hb, hh, h1, h2, h3, h4⟩
  · cases h
  · simp only [Value.slice.injEq, Option.some.injEq, Addr.mk.injEq] at e
    obtain ⟨⟨rfl, _, _⟩, _, rfl⟩ := e
    exact ⟨hb, cur, hh, h1, h2, by simpa using h3, by simpa using h4⟩
theorem W64.lo {B : Nat} {w : World} {g cap : Nat} {A : List Nat} (h : W64 B w g cap A) : B ≤ g := h.row.1
theorem W64.lt {B : Nat} {w : World} {g cap : Nat} {A : List Nat} (h : W64 B w g cap A) : g < w.heap.size := by
  obtain ⟨_, cur, hh, _⟩ := h.row; exact (Array.getElem?_eq_some_iff.1 hh).1
theorem W64.cell {B : Nat} {w : World} {g cap : Nat} {A : List Nat} (h : W64 B w g cap A) (i : Nat) (hi : i < A.length) : w.cell? ⟨g, i, none⟩ = some (.int .u64 (A[i]'hi)) := by
  obtain ⟨_, cur, hh, _, _, _, ht⟩ := h.row
  rw [cell_of_row w g i _ 22 (0, 0) hh]
  have := nums_get .u64 A i hi
  rw [← ht, List.getElem?_take_of_lt hi] at this
  simpa using this
theorem W64.kept {B : Nat} {w w' : World} {g cap : Nat} {A : List Nat} {S : Nat → Prop} (h : W64 B w g cap A) (hm : Mod S w w') (hg : ¬ S g) : W64 B w' g cap A := by
  obtain ⟨hb, cur, hh, h1, h2, h3, h4⟩ := h.row
  exact ⟨h.1, .inr ⟨g, cap, cur, rfl, hb, (hm.block g h.lt hg).trans hh, h1, h2, by simpa using h3, by simpa using h4⟩⟩
theorem W64.fresh {B : Nat} (w : World) (A : List Nat) (hB : B ≤ w.heap.size) (hl : A.length ≤ maxLen) : W64 B (w.alloc (.cells (nums .u64 A).toArray 22 (0, 0))) w.heap.size A.length A :=
  ⟨by simp [nums_len], .inr ⟨_, _, _, rfl, hB, heap_alloc_new _ _, Nat.le_refl _, hl, by simp [nums_len], by simp [nums, List.take_of_length_le]⟩⟩

/-- What the document's own answer has laid by: its words, and the rounds' words. -/
structure RefAt (w : World) (gh gk B : Nat) (H : List Nat) (wr : World) : Prop where
  m : Mod (fun _ => False) w wr
  h : RowAt .u64 22 wr gh H
  k : RowAt .u64 22 wr gk kTab
  lo : w.heap.size ≤ gh
  hb : gh < B
  kb : gk < B
  ne : gh ≠ gk
  b : B ≤ wr.heap.size
theorem RefAt.step {w : World} {gh gk B : Nat} {H : List Nat} {wr w' : World} (r : RefAt w gh gk B H wr) (hm : Mod (fun i => B ≤ i) wr w') : RefAt w gh gk B H w' :=
  ⟨r.m.trans hm (by intro i hi h; have := r.lo; have := r.hb; omega), r.h.kept hm (by have := r.hb; omega), r.k.kept hm (by have := r.kb; omega), r.lo, r.hb, r.kb, r.ne, Nat.le_trans r.b hm.size⟩
theorem RefAt.set {w : World} {gh gk B : Nat} {H : List Nat} {wr : World} (r : RefAt w gh gk B H wr) (i x : Nat) : RefAt w gh gk B (H.set i x) (wr.setCell ⟨gh, i, none⟩ (.int .u64 x)) := by
  have hm : Mod (· = gh) wr (wr.setCell ⟨gh, i, none⟩ (.int .u64 x)) := (Mod.refl (· = gh) _).setCell (p := ⟨gh, i, none⟩) (fun _ => rfl) _
  have := r.lo; have := r.ne
  exact ⟨r.m.trans hm (by intro i hi h; omega), r.h.set i x, r.k.kept hm (by omega), r.lo, r.hb, r.kb, r.ne, Nat.le_trans r.b hm.size⟩
/-- A word more behind an owned row. -/
theorem W64.push {B : Nat} {w w' : World} {g g' cap cap' : Nat} {A : List Nat} {x : Nat} (_ : W64 B w g cap A)
    (ho : w'.ownsRow B 22 1 (.slice (some ⟨g', 0, none⟩) (A.length + 1) cap') (A.length + 1) (nums .u64 A ++ [.int .u64 x])) : W64 B w' g' cap' (A ++ [x]) := by
  unfold W64
  rw [List.length_append, List.length_singleton, show nums .u64 (A ++ [x]) = nums .u64 A ++ [.int .u64 x] by simp [nums]]
  exact ho
/-- A word while it is read. -/
def wpart (L : List Nat) (i : Nat) : Nat → Nat
  | 0 => 0
  | t + 1 => wpart L i t * 256 + L.getD (4 * i + t) 0
theorem wpart_four (L : List Nat) (i : Nat) : wpart L i 4 = w16 L i := by
  simp only [wpart, Nat.add_zero, Nat.zero_mul, Nat.zero_add]; unfold w16; omega
theorem wpart_lt (L : List Nat) (hL : ∀ x ∈ L, x < 256) (i t : Nat) (ht : t ≤ 4) : wpart L i t < 256 ^ t := by
  induction t with
  | zero => exact Nat.one_pos
  | succ t ih =>
    have h := ih (by omega)
    have hd : L.getD (4 * i + t) 0 < 256 := by
      by_cases hj : 4 * i + t < L.length
      · rw [getD_at _ _ hj]; exact hL _ (List.getElem_mem _)
      · simp [List.getD, List.getElem?_eq_none (Nat.le_of_not_lt hj)]
    show wpart L i t * 256 + _ < _
    rw [Nat.pow_succ]; omega

theorem str_index (A : List Nat) (hA : ∀ x ∈ A, x < 256) (n : Nat) (hn : n < A.length) (z : Int) (hz : z = (n : Int)) (w : World) :
    (Instr.index 9 (.string (bytesOf A)) (.int .i64 z)).run Tryd.prog w = .ok (.int .u8 ((A.getD n 0 : Nat) : Int)) w := by
  subst hz
  have h1 : (0 : Int) ≤ n ∧ (n : Int) < ((bytesOf A).size : Nat) := by rw [bytesOf_size]; omega
  have e : (bytesOf A).data[n]? = some (UInt8.ofNat A[n]) := by simp [bytesOf, hn]
  have hb : A[n] < 256 := hA _ (List.getElem_mem _)
  unfold Instr.index
  simp only [asIntOf, Sem.run_bind, Sem.run_pure, Result.andThen_ok]
  rw [getD_at _ _ hn]
  have h0 : (0 : Int) ≤ n := by omega
  have e' : (bytesOf A)[n]? = some (UInt8.ofNat A[n]) := e
  rw [run_underlying Tryd.underlying9]
  simp only [Result.andThen_ok, if_pos h0, Int.toNat_natCast]
  rw [e']
  simp only [Sem.run_pure]
  rw [UInt8.toNat_ofNat_of_lt' hb]

set_option maxRecDepth 100000 in
theorem info39 : ∃ i z, Tryd.prog.info? 22 = some i ∧ i.zero = some z ∧ i.size = 1 ∧ i.bytes = 8 ∧ z.cells.size = 1 := by
  refine ⟨_, _, rfl, rfl, ?_, ?_, ?_⟩ <;> kernel_rfl

/-- An append of one word. -/
theorem wpList_push64 {ops : Array Oper} {rest : List Oper} {o : Oper} {a : Act} {Q : Exit → Act → World → Prop} {w : World} (hgd : o.guard = none) (s x : Operand)
    (ho : o.op = .call { callee := .builtin .append, args := #[s, x], argTypes := #[84, 84] }) (B g cap n y : Nat) (A : List Nat) (hn : A.length = n)
    (hs : a.eval s = .slice (some ⟨g, 0, none⟩) n cap) (hV : W64 B w g cap A) (hx : a.eval x = .slice (some ⟨w.heap.size, 0, none⟩) 1 1) (hl : n ≤ 1000) (hB : B ≤ w.heap.size)
    (h : ∀ g' cap' w', W64 B w' g' cap' (A ++ [y]) → Mod (fun i => B ≤ i) w w' → wpList Tryd.prog ops Q rest (a.put o.dst (.slice (some ⟨g', 0, none⟩) (n + 1) cap')) w') :
    wpList Tryd.prog ops Q (o :: rest) a (w.alloc (.cells #[.int .u64 (y : Int)] 22)) := by
  obtain ⟨i, z, hi, hz, h1, h2, h3⟩ := info39
  subst hn
  have hVo := (hV.kept ((Mod.refl (fun _ => False) w).alloc (.cells #[.int .u64 (y : Int)] 22)) (fun h => h))
  refine wpList_append_lies _ hgd s x 84 ho B 22 i z 1 8 Tryd.underlying84 hi hz h1 h2 h3 (by decide) _ A.length (nums .u64 A) hs hVo ⟨w.heap.size, 0, none⟩ 1 1 [.int .u64 (y : Int)] hx rfl (cell_one_new _ _ _) (by intro u hu; simp at hu; subst hu; rfl) (by omega) (by unfold maxLen; omega) (by omega) (by simp; omega) _ rfl ?_
  intro g' cap' w' hown hgrow hg' hlt
  have hlo := hV.lo
  refine h g' cap' w' (hV.push hown) (((Mod.refl (fun i => B ≤ i) w).alloc _).grown hgrow ?_)
  intro k hk _
  simp [Value.ownBlock] at hk
  omega

theorem turn_q (x n : Nat) (w : World) (hx : x < 4294967296) (h2 : n ≤ 32) :
    Calls Tryd.prog 56 #[.int .u64 x, .int .i64 (n : Int)] w fun r w' => r = .returned (.int .u64 (rotr x n : Int)) ∧ w' = w :=
  (turn_any x n w hx h2).mono fun _ _ ⟨a, b⟩ => ⟨a, b.symm⟩
theorem down3_q (x : Nat) (w : World) (hx : x < 4294967296) :
    Calls Tryd.prog 57 #[.int .u64 x, .int .i64 3] w fun r w' => r = .returned (.int .u64 ((x / 8 : Nat) : Int)) ∧ w' = w :=
  (down_any x 3 w hx (by omega)).mono fun _ _ ⟨a, b⟩ => ⟨a, b.symm⟩
theorem down10_q (x : Nat) (w : World) (hx : x < 4294967296) :
    Calls Tryd.prog 57 #[.int .u64 x, .int .i64 10] w fun r w' => r = .returned (.int .u64 ((x / 1024 : Nat) : Int)) ∧ w' = w :=
  (down_any x 10 w hx (by omega)).mono fun _ _ ⟨a, b⟩ => ⟨a, b.symm⟩

theorem x64 (a b : Nat) (ha : a < 4294967296) (hb : b < 4294967296) : bits BinOp.xor IntKind.u64 (a : Int) (b : Int) = ((a ^^^ b : Nat) : Int) := u64_xor_nat _ _ (by omega) (by omega)
theorem n64 (a b : Nat) (ha : a < 4294967296) (hb : b < 4294967296) : bits BinOp.and IntKind.u64 (a : Int) (b : Int) = ((a &&& b : Nat) : Int) := u64_and_nat _ _ (by omega) (by omega)
theorem s0_facts (x : Nat) (hx : x < 4294967296) : ∃ r z : Nat, Hid (z = s0 x) ∧ z < 4294967296 ∧ bits BinOp.xor IntKind.u64 (rotr x 7 : Int) (rotr x 18 : Int) = (r : Int) ∧ bits BinOp.xor IntKind.u64 (r : Int) ((x : Int) / 8) = (z : Int) :=
  ⟨rotr x 7 ^^^ rotr x 18, _, rfl, s0_lt x hx, x64 _ _ (rotr_lt x 7 hx (by decide)) (rotr_lt x 18 hx (by decide)), by rw [show (x : Int) / 8 = ((x / 8 : Nat) : Int) by omega]; exact x64 _ _ (xor_lt _ _ (rotr_lt x 7 hx (by decide)) (rotr_lt x 18 hx (by decide))) (by omega)⟩
theorem s1_facts (x : Nat) (hx : x < 4294967296) : ∃ r z : Nat, Hid (z = s1 x) ∧ z < 4294967296 ∧ bits BinOp.xor IntKind.u64 (rotr x 17 : Int) (rotr x 19 : Int) = (r : Int) ∧ bits BinOp.xor IntKind.u64 (r : Int) ((x : Int) / 1024) = (z : Int) :=
  ⟨rotr x 17 ^^^ rotr x 19, _, rfl, s1_lt x hx, x64 _ _ (rotr_lt x 17 hx (by decide)) (rotr_lt x 19 hx (by decide)), by rw [show (x : Int) / 1024 = ((x / 1024 : Nat) : Int) by omega]; exact x64 _ _ (xor_lt _ _ (rotr_lt x 17 hx (by decide)) (rotr_lt x 19 hx (by decide))) (by omega)⟩

theorem step_push64 {ops : Array Oper} {o : Oper} {a : Act} {K : Act → World → Prop} {Q : Exit → Act → World → Prop} {E : Prop} {w : World} (hgd : o.guard = none) (s x : Operand)
    (ho : o.op = .call { callee := .builtin .append, args := #[s, x], argTypes := #[84, 84] }) (B g cap n y : Nat) (A : List Nat) (hn : A.length = n)
    (hs : a.eval s = .slice (some ⟨g, 0, none⟩) n cap) (hV : W64 B w g cap A) (hx : a.eval x = .slice (some ⟨w.heap.size, 0, none⟩) 1 1) (hl : n ≤ 1000) (hB : B ≤ w.heap.size)
    (h : ∀ g' cap' w', W64 B w' g' cap' (A ++ [y]) → Mod (fun i => B ≤ i) w w' → K (a.put o.dst (.slice (some ⟨g', 0, none⟩) (n + 1) cap')) w') :
    if Region.wanted o (yielded ops a.tmps) = true then Oper.wp Tryd.prog o a (w.alloc (.cells #[.int .u64 (y : Int)] 22)) K Q else E := by
  obtain ⟨i, z, hi, hz, h1, h2, h3⟩ := info39
  subst hn
  have hVo := (hV.kept ((Mod.refl (fun _ => False) w).alloc (.cells #[.int .u64 (y : Int)] 22)) (fun h => h))
  refine step_append_lies _ hgd s x 84 ho B 22 i z 1 8 Tryd.underlying84 hi hz h1 h2 h3 (by decide) _ A.length (nums .u64 A) hs hVo ⟨w.heap.size, 0, none⟩ 1 1 [.int .u64 (y : Int)] hx rfl (cell_one_new _ _ _) (by intro u hu; simp at hu; subst hu; rfl) (by omega) (by unfold maxLen; omega) (by omega) (by simp; omega) _ rfl ?_
  intro g' cap' w' hown hgrow hg' hlt
  have hlo := hV.lo
  refine h g' cap' w' (hV.push hown) (((Mod.refl (fun i => B ≤ i) w).alloc _).grown hgrow ?_)
  intro k hk _
  simp [Value.ownBlock] at hk
  omega

end Go.Proofs.YtiegakeacghnfaaDoor

namespace Go.Proofs.YtiegakeacghnfaaDoor
open Go.RowKit

/-- A row of words appended to an owned empty row. -/
theorem wpList_clone64 {ops : Array Oper} {rest : List Oper} {o : Oper} {a : Act} {Q : Exit → Act → World → Prop} {w : World} (hgd : o.guard = none) (s x : Operand)
    (ho : o.op = .call { callee := .builtin .append, args := #[s, x], argTypes := #[84, 84] }) (B g cap gh m c : Nat) (A : List Nat) (hm : A.length = m) (h0 : 0 < m)
    (hs : a.eval s = .slice (some ⟨g, 0, none⟩) 0 cap) (hV : W64 B w g cap []) (hR : RowAt .u64 22 w gh A) (hx : a.eval x = .slice (some ⟨gh, 0, none⟩) m c) (hl : m ≤ 1000) (hB : B ≤ w.heap.size)
    (h : ∀ g' cap' w', W64 B w' g' cap' A → Mod (· = g) w w' → wpList Tryd.prog ops Q rest (a.put o.dst (.slice (some ⟨g', 0, none⟩) m cap')) w') :
    wpList Tryd.prog ops Q (o :: rest) a w := by
  obtain ⟨i, z, hi, hz, h1, h2, h3⟩ := info39
  subst hm
  have hlo := hV.lo
  have hV0 : w.ownsRow B 22 1 (.slice (some ⟨g, 0, none⟩) 0 cap) 0 [] := hV
  refine wpList_append_lies _ hgd s x 84 ho B 22 i z 1 8 Tryd.underlying84 hi hz h1 h2 h3 (by decide) _ 0 [] hs hV0 ⟨gh, 0, none⟩ A.length c (nums .u64 A) hx (by simp [nums_len]) ?_ (nums_one _ _) h0 (by unfold maxLen; omega) (by omega) hB _ rfl ?_
  · intro j u hj
    have hjl : j < A.length := by
      have := List.getElem?_eq_some_iff.1 hj
      obtain ⟨hlt, _⟩ := this
      rwa [nums_len] at hlt
    rw [nums_get .u64 A j hjl] at hj
    cases hj
    have hadd : (⟨gh, 0, none⟩ : Addr).add j = ⟨gh, j, none⟩ := by unfold Addr.add; split <;> simp_all
    rw [hadd]
    exact hR.cell j hjl
  · intro g' cap' w' hown hgrow _ _
    have e0 : 0 + A.length = A.length := Nat.zero_add _
    rw [e0, List.nil_append] at hown
    rw [e0]
    refine h g' cap' w' hown ((Mod.refl (· = g) w).grown hgrow ?_)
    intro k hk _
    simp [Value.ownBlock] at hk
    exact hk.symm

/-- An append of one word that lies somewhere. -/
theorem push64_wp {o : Oper} {a : Act} {K : Act → World → Prop} {Q : Exit → Act → World → Prop} {w : World} (s x : Operand)
    (ho : o.op = .call { callee := .builtin .append, args := #[s, x], argTypes := #[84, 84] }) (B g cap n y b : Nat) (A : List Nat) (hn : A.length = n)
    (hs : a.eval s = .slice (some ⟨g, 0, none⟩) n cap) (hV : W64 B w g cap A) (hx : a.eval x = .slice (some ⟨b, 0, none⟩) 1 1) (hc : w.cell? ⟨b, 0, none⟩ = some (.int .u64 (y : Int))) (hl : n ≤ 1000) (hB : B ≤ w.heap.size)
    (h : ∀ g' cap' w', W64 B w' g' cap' (A ++ [y]) → Mod (fun i => B ≤ i) w w' → K (a.put o.dst (.slice (some ⟨g', 0, none⟩) (n + 1) cap')) w') : o.wp Tryd.prog a w K Q := by
  obtain ⟨i, z, hi, hz, h1, h2, h3⟩ := info39
  subst hn
  have hVo : w.ownsRow B 22 1 (.slice (some ⟨g, 0, none⟩) A.length cap) A.length (nums .u64 A) := hV
  refine wp_append_lies w s x 84 ho B 22 i z 1 8 Tryd.underlying84 hi hz h1 h2 h3 (by decide) _ A.length (nums .u64 A) hs hVo ⟨b, 0, none⟩ 1 1 [.int .u64 (y : Int)] hx rfl ?_ (by intro u hu; simp at hu; subst hu; rfl) (by omega) (by unfold maxLen; omega) (by omega) hB _ rfl ?_
  · intro j u hj
    match j, hj with
    | 0, hj =>
      simp only [List.getElem?_cons_zero, Option.some.injEq] at hj
      subst hj
      exact hc
  · intro g' cap' w' hown hgrow hg' hlt
    have hlo := hV.lo
    refine h g' cap' w' (hV.push hown) ((Mod.refl (fun i => B ≤ i) w).grown hgrow ?_)
    intro k hk _
    simp [Value.ownBlock] at hk
    omega

theorem S1_facts (e : Nat) (he : e < 4294967296) : ∃ r z : Nat, Hid (z = S1 e) ∧ z < 4294967296 ∧ bits BinOp.xor IntKind.u64 (rotr e 6 : Int) (rotr e 11 : Int) = (r : Int) ∧ bits BinOp.xor IntKind.u64 (r : Int) (rotr e 25 : Int) = (z : Int) :=
  ⟨_, _, rfl, S1_lt e he, x64 _ _ (rotr_lt e 6 he (by decide)) (rotr_lt e 11 he (by decide)), x64 _ _ (xor_lt _ _ (rotr_lt e 6 he (by decide)) (rotr_lt e 11 he (by decide))) (rotr_lt e 25 he (by decide))⟩
theorem S0_facts (a : Nat) (ha : a < 4294967296) : ∃ r z : Nat, Hid (z = S0 a) ∧ z < 4294967296 ∧ bits BinOp.xor IntKind.u64 (rotr a 2 : Int) (rotr a 13 : Int) = (r : Int) ∧ bits BinOp.xor IntKind.u64 (r : Int) (rotr a 22 : Int) = (z : Int) :=
  ⟨_, _, rfl, S0_lt a ha, x64 _ _ (rotr_lt a 2 ha (by decide)) (rotr_lt a 13 ha (by decide)), x64 _ _ (xor_lt _ _ (rotr_lt a 2 ha (by decide)) (rotr_lt a 13 ha (by decide))) (rotr_lt a 22 ha (by decide))⟩
theorem ch_facts (e f g : Nat) (be : e < 4294967296) (bf : f < 4294967296) (bg : g < 4294967296) : ∃ n1 ne n2 z : Nat, Hid (z = ch e f g) ∧ z < 4294967296 ∧ bits BinOp.and IntKind.u64 (e : Int) (f : Int) = (n1 : Int) ∧
    (4294967295 - (e : Int)) = (ne : Int) ∧ IntKind.u64.wrap (4294967295 - (e : Int)) = (ne : Int) ∧ bits BinOp.and IntKind.u64 (ne : Int) (g : Int) = (n2 : Int) ∧ bits BinOp.xor IntKind.u64 (n1 : Int) (n2 : Int) = (z : Int) :=
  ⟨_, 4294967295 - e, _, _, rfl, ch_lt e f g bf bg, n64 _ _ be bf, by omega, by rw [IntKind.wrap_u64]; omega, n64 _ _ (by omega) bg, x64 _ _ (and_lt _ _ bf) (and_lt _ _ bg)⟩
theorem maj_facts (a b c : Nat) (ba : a < 4294967296) (bb : b < 4294967296) (bc : c < 4294967296) : ∃ p q r s z : Nat, Hid (z = maj a b c) ∧ z < 4294967296 ∧ bits BinOp.and IntKind.u64 (a : Int) (b : Int) = (p : Int) ∧
    bits BinOp.and IntKind.u64 (a : Int) (c : Int) = (q : Int) ∧ bits BinOp.and IntKind.u64 (b : Int) (c : Int) = (r : Int) ∧ bits BinOp.xor IntKind.u64 (p : Int) (q : Int) = (s : Int) ∧ bits BinOp.xor IntKind.u64 (s : Int) (r : Int) = (z : Int) :=
  ⟨_, _, _, _, _, rfl, maj_lt a b c bb bc, n64 _ _ ba bb, n64 _ _ ba bc, n64 _ _ bb bc, x64 _ _ (and_lt _ _ bb) (and_lt _ _ bc), x64 _ _ (xor_lt _ _ (and_lt _ _ bb) (and_lt _ _ bc)) (and_lt _ _ bc)⟩

theorem toV_list (H : List Nat) (h : H.length = 8) : (toV H).list = H := by
  apply List.ext_getElem
  · rw [h]; rfl
  · intro i h1 h2
    have hi : i < 8 := by rw [← h]; exact h2
    have key : ∀ j, j < 8 → (toV H).list[j]? = some (H.getD j 0) := by
      intro j hj
      match j, hj with
      | 0, _ => rfl
      | 1, _ => rfl
      | 2, _ => rfl
      | 3, _ => rfl
      | 4, _ => rfl
      | 5, _ => rfl
      | 6, _ => rfl
      | 7, _ => rfl
    have k := key i hi
    rw [List.getElem?_eq_getElem h1, getD_at _ _ h2] at k
    exact Option.some.inj k
theorem toV_ok (H : List Nat) (h : H.length = 8) (hb : ∀ x ∈ H, x < 4294967296) : (toV H).ok := by
  have key : ∀ j, j < 8 → H.getD j 0 < 4294967296 := by
    intro j hj; rw [getD_at _ _ (by omega)]; exact hb _ (List.getElem_mem _)
  exact ⟨key 0 (by decide), key 1 (by decide), key 2 (by decide), key 3 (by decide), key 4 (by decide), key 5 (by decide), key 6 (by decide), key 7 (by decide)⟩

/-- A round's memory. -/
structure Rel7 (w : World) (gh gk B : Nat) (HH SL : List Nat) (g2 cap2 gv capv : Nat) (v : V) (wr : World) : Prop where
  r : RefAt w gh gk B HH wr
  s : W64 B wr g2 cap2 SL
  v : W64 B wr gv capv v.list
theorem Rel7.drewN {w : World} {gh gk B : Nat} {HH SL : List Nat} {g2 cap2 gv capv : Nat} {v : V} {wr : World} (h : Rel7 w gh gk B HH SL g2 cap2 gv capv v wr) (n : Nat) : Rel7 w gh gk B HH SL g2 cap2 gv capv v (wr.drewN n) :=
  ⟨h.r.step (Mod.drewN (Mod.refl _ _) n), h.s.kept (S := fun _ => False) (Mod.drewN (Mod.refl _ _) n) (fun h => h), h.v.kept (S := fun _ => False) (Mod.drewN (Mod.refl _ _) n) (fun h => h)⟩
theorem Rel7.next {w : World} {gh gk B : Nat} {HH SL : List Nat} {g2 cap2 gv capv : Nat} {v u : V} {wr : World} (h : Rel7 w gh gk B HH SL g2 cap2 gv capv v wr) (a : List Nat) (ha : a = u.list) :
    Rel7 w gh gk B HH SL g2 cap2 wr.heap.size 8 u (wr.alloc (.cells (nums .u64 a).toArray 22 (0, 0))) := by
  subst ha
  have hm : Mod (fun i => B ≤ i) wr (wr.alloc (.cells (nums .u64 u.list).toArray 22 (0, 0))) := (Mod.refl _ _).alloc _
  exact ⟨h.r.step hm, h.s.kept (S := fun _ => False) ((Mod.refl _ _).alloc _) (fun h => h), W64.fresh wr u.list h.r.b (by simp [V.list, maxLen])⟩

theorem Rel7.cells {w : World} {gh gk B : Nat} {HH SL : List Nat} {g2 cap2 gv capv a b c d e f g h : Nat} {wr : World} (hX : Rel7 w gh gk B HH SL g2 cap2 gv capv ⟨a, b, c, d, e, f, g, h⟩ wr) :
    wr.cell? ⟨gv, 0, none⟩ = some (.int .u64 (a : Int)) ∧ wr.cell? ⟨gv, 1, none⟩ = some (.int .u64 (b : Int)) ∧ wr.cell? ⟨gv, 2, none⟩ = some (.int .u64 (c : Int)) ∧ wr.cell? ⟨gv, 3, none⟩ = some (.int .u64 (d : Int)) ∧
    wr.cell? ⟨gv, 4, none⟩ = some (.int .u64 (e : Int)) ∧ wr.cell? ⟨gv, 5, none⟩ = some (.int .u64 (f : Int)) ∧ wr.cell? ⟨gv, 6, none⟩ = some (.int .u64 (g : Int)) ∧ wr.cell? ⟨gv, 7, none⟩ = some (.int .u64 (h : Int)) :=
  ⟨hX.v.cell 0 (by simp [V.list]), hX.v.cell 1 (by simp [V.list]), hX.v.cell 2 (by simp [V.list]), hX.v.cell 3 (by simp [V.list]), hX.v.cell 4 (by simp [V.list]), hX.v.cell 5 (by simp [V.list]), hX.v.cell 6 (by simp [V.list]), hX.v.cell 7 (by simp [V.list])⟩

/-- The sum of a round. -/
theorem t_sum (e f g h k w z1 z2 : Nat) (h1 : z1 = S1 e) (h2 : z2 = ch e f g) (a b c d : Nat) : (h + z1 + z2 + k + w) % 4294967296 = tOf ⟨a, b, c, d, e, f, g, h⟩ k w := by
  rw [tOf_sum, h1, h2]
theorem u_sum (a b c z1 z2 d e f g h : Nat) (h1 : z1 = S0 a) (h2 : z2 = maj a b c) : (z1 + z2) % 4294967296 = uOf ⟨a, b, c, d, e, f, g, h⟩ := by
  simp only [uOf]; rw [h1, h2]
end Go.Proofs.YtiegakeacghnfaaDoor

namespace Go.Proofs.YtiegakeacghnfaaDoor
open Go.RowKit

theorem lit_str {P : Program} (x : Nat) (w : World) (hs : P.underlying 43 = some (.slice 5)) (he : P.underlying 5 = some (.int .u8)) (hd : P.underlying 9 = some .string) :
    (convert 43 9 (.slice (some ⟨w.heap.size, 0, none⟩) 1 1)).run P (w.alloc (.cells #[.int .u8 (x : Int)] 5)) = .ok (.string (bytesOf [x])) (w.alloc (.cells #[.int .u8 (x : Int)] 5)) := by
  rw [convLit1 43 9 5 hs he hd]; simp [bytesOf]
theorem lit_str4 {P : Program} (a b c d : Nat) (w : World) (hs : P.underlying 43 = some (.slice 5)) (he : P.underlying 5 = some (.int .u8)) (hd : P.underlying 9 = some .string) :
    (convert 43 9 (.slice (some ⟨w.heap.size, 0, none⟩) 4 4)).run P (w.alloc (.cells #[.int .u8 (a : Int), .int .u8 (b : Int), .int .u8 (c : Int), .int .u8 (d : Int)] 5)) = .ok (.string (bytesOf [a, b, c, d])) (w.alloc (.cells #[.int .u8 (a : Int), .int .u8 (b : Int), .int .u8 (c : Int), .int .u8 (d : Int)] 5)) := by
  have h := run_convert_bytes_arg (P := P) (w.alloc (.cells #[.int .u8 (a : Int), .int .u8 (b : Int), .int .u8 (c : Int), .int .u8 (d : Int)] 5)) 43 5 hs he w.heap.size 0 4 4 [(a : Int), (b : Int), (c : Int), (d : Int)] rfl (fun i hi => by
    unfold World.cell?
    rw [heap_alloc_new]
    match i, hi with
    | 0, _ => rfl
    | 1, _ => rfl
    | 2, _ => rfl
    | 3, _ => rfl) 9 hd
  rw [h]; simp [strOfNums, bytesOf]
/-- While the block's words are added. -/
def HRel (w : World) (gh gk B : Nat) (HH BL : List Nat) (k : Nat) (wr : World) : Prop := ∃ Hp, RefAt w gh gk B Hp wr ∧ Hp.length = 8 ∧ Hp.take k = BL.take k ∧ Hp.drop k = HH.drop k
theorem bytesOf_app (a b : List Nat) : bytesOf a ++ bytesOf b = bytesOf (a ++ b) := by
  apply ByteArray.ext; simp [bytesOf]
theorem bytesOf_nats (s : List UInt8) : bytesOf (nats s) = ⟨s.toArray⟩ := by simp [bytesOf, nats, Function.comp_def]

/-- While it is padded. -/
def Pad (m : List Nat) (k : Nat) : List Nat := m ++ [128] ++ List.replicate k 0
theorem Pad_len (m : List Nat) (k : Nat) : (Pad m k).length = m.length + 1 + k := by simp [Pad]; omega
theorem Pad_succ (m : List Nat) (k : Nat) : Pad m (k + 1) = Pad m k ++ [0] := by simp [Pad, List.replicate_succ']

theorem cut_bytes (N k : Nat) (hk : k < 8) : bytesOf [N * 8 / 256 ^ k % 256] ++ bytesOf ((lenBytes N 8).drop (8 - k)) = bytesOf ((lenBytes N 8).drop (8 - (k + 1))) := by
  rw [bytesOf_app, show 8 - (k + 1) = 7 - k by omega, lenBytes_from N k hk]; rfl
theorem lenBytes_drop (N k : Nat) (hk : k ≤ 8) : ((lenBytes N 8).drop (8 - k)).length = k := by rw [List.length_drop, lenBytes_len]; omega

/-- Block n of a text. -/
def blk (n : Nat) : Code → Option Code
  | .block m c => if m = n then some (.block m c) else blk n c
  | .loop c => blk n c
  | .seq a b => match blk n a with
    | some c => some c
    | none => blk n b
  | .scope c => blk n c
  | .cond _ a b => match blk n a with
    | some c => some c
    | none => blk n b
  | _ => none
noncomputable def blkOf (n : Nat) : Code := (Tryd.f41.body.bind (blk n)).getD .skip
end Go.Proofs.YtiegakeacghnfaaDoor
