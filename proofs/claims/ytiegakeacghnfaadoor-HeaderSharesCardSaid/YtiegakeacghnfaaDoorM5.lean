/- Texts 5: what the laws lean on. -/
import Derived.Test.YtiegakeacghnfaaDoorM4
import Derived.Test.YtiegakeacghnfaaDoorM1
import Derived.Deep.AppendLies
import Derived.Deep.RegionLaw
import Derived.Deep.DeepCutAuto
import Derived.Deep.CutBlock
import Derived.Deep.QuietTactic
import Derived.BigQuiet
import Derived.StillTailTactics
import Derived.BigRegion
import Derived.Test.YtiegakeacghnfaaDoorM2
namespace Go.Proofs.YtiegakeacghnfaaDoor
open Go.RowKit

theorem insB_len (s : List UInt8) (l : List (List UInt8)) : (insB s l).length ≤ l.length + 1 := by
  induction l with
  | nil => simp [insB]
  | cons t r ih => rw [insB]; split
                   · simp
                   · split <;> simp <;> omega
theorem rsort_len (L : List (List UInt8)) : (rsort L).length ≤ L.length := by
  have h : ∀ (L A : List (List UInt8)), (L.foldl (fun out s => insB s out) A).length ≤ A.length + L.length := by
    intro L
    induction L with
    | nil => intro A; exact Nat.le_refl _
    | cons s l ih => intro A; have := ih (insB s A); have := insB_len s A; rw [List.foldl_cons, List.length_cons]; omega
  have := h L []; simpa [rsort] using this
/-- The inner loop behind j rounds. -/
def inJ (s : List UInt8) (M : List (List UInt8)) (j : Nat) : List (List UInt8) × Bool := (M.take j).foldl (insR s) ([], false)
theorem inJ_zero (s : List UInt8) (M : List (List UInt8)) : inJ s M 0 = ([], false) := rfl
theorem inJ_succ (s : List UInt8) (M : List (List UInt8)) (j : Nat) (h : j < M.length) : inJ s M (j + 1) = insR s (inJ s M j) M[j] := by
  unfold inJ; rw [List.take_succ_eq_append_getElem h, List.foldl_append]; rfl
theorem inJ_len (s : List UInt8) (M : List (List UInt8)) (j : Nat) : (inJ s M j).1.length ≤ 2 * j := by
  induction j with
  | zero => simp [inJ]
  | succ j ih =>
    by_cases h : j < M.length
    · rw [inJ_succ s M j h]
      unfold insR
      split
      · simp only [List.length_append, List.length_cons, List.length_nil]; omega
      · simp only [List.length_append, List.length_cons, List.length_nil]; omega
    · unfold inJ at ih ⊢
      rw [List.take_of_length_le (by omega)]
      rw [List.take_of_length_le (by omega)] at ih
      omega
theorem inJ_end (s : List UInt8) (M : List (List UInt8)) : insE s (inJ s M M.length) = insB s M := by
  unfold inJ; rw [List.take_length]; have := insR_false s M []; simpa using this
/-- The three ways that a text stands to another one. -/
theorem tri (s t : List UInt8) : (Op.bytesLess s t = true ∧ ∀ R, insR s (R, false) t = (R ++ [s] ++ [t], true)) ∨ (Op.bytesLess s t = false ∧ (s == t) = false ∧ ∀ R, insR s (R, false) t = (R ++ [t], false)) ∨ (Op.bytesLess s t = false ∧ (s == t) = true ∧ ∀ R, insR s (R, false) t = (R ++ [t], true)) := by
  by_cases h1 : Lib.compareBytes s t < 0
  · have h2 : ¬ Lib.compareBytes t s < 0 := fun h => by have := cmpB_trans s t s h1 h; rw [cmpB_self] at this; exact absurd this (by decide)
    exact .inl ⟨by rw [less_cmp, decide_eq_true h1], fun R => by simp [insR, h1, h2]⟩
  · by_cases h2 : Lib.compareBytes t s < 0
    · have h3 : s ≠ t := fun e => by rw [e, cmpB_self] at h2; exact absurd h2 (by decide)
      exact .inr (.inl ⟨by rw [less_cmp, decide_eq_false h1], by simp [h3], fun R => by simp [insR, h1, h2]⟩)
    · have h3 := cmpB_eq s t h1 h2
      exact .inr (.inr ⟨by rw [less_cmp, decide_eq_false h1], by simp [h3], fun R => by simp [insR, h1, h2]⟩)
theorem insR_t (s t : List UInt8) (R : List (List UInt8)) : insR s (R, true) t = (R ++ [t], true) := by simp [insR]
theorem AccR.one {w wr : World} {k : Nat} {D : List (List UInt8)} {q : Option Addr} {c : Nat} (h : AccR encS 9 w k D q c wr) (s : List UInt8) :
    Rw encS 9 (wr.alloc (.cells #[.string ⟨s.toArray⟩] 9)) q c D ∧ Rd encS (wr.alloc (.cells #[.string ⟨s.toArray⟩] 9)) (some ⟨wr.heap.size, 0, none⟩) [s] ∧
    ∀ q' c' w', PushR encS 9 (wr.alloc (.cells #[.string ⟨s.toArray⟩] 9)) q (D ++ [s]) q' c' w' → AccR encS 9 w (k + 1) (D ++ [s]) q' c' w' := by
  have h2 := h.below ((Below.refl wr.heap.size wr).alloc (Nat.le_refl _) (.cells #[.string ⟨s.toArray⟩] 9))
  exact ⟨h2.s, Rd.made encS wr 9 [s] (by simp [maxLen]), fun q' c' w' hP => h2.push hP⟩

set_option maxRecDepth 20000 in
set_option maxHeartbeats 4000000 in
theorem rsorts_any (ao : Option Addr) (cap : Nat) (L : List (List UInt8)) (w : World) (hL : Rd encS w ao L) (hn : L.length ≤ 100000) :
    Calls Tryd.prog 22 #[.slice ao L.length cap] w fun r w' => ∃ q c, r = .returned (.slice q (rsort L).length c) ∧ Rw encS 9 w' q c (rsort L) ∧ (∀ a, q = some a → w.heap.size ≤ a.block) ∧ Below w.heap.size w w' := by
  obtain ⟨n, hnL⟩ : ∃ n, n = L.length := ⟨_, rfl⟩
  obtain ⟨F, hF⟩ : ∃ F : Ending → World → Prop, F = fun r w' => ∃ q c, r = .returned (.slice q (rsort L).length c) ∧ Rw encS 9 w' q c (rsort L) ∧ (∀ a, q = some a → w.heap.size ≤ a.block) ∧ Below w.heap.size w w' := ⟨_, rfl⟩
  rw [← hF]
  rw [← hnL] at hn ⊢
  have HF := Lib.hid hF
  have Hn := Lib.hid hnL
  have HL := Lib.hid hL
  clear hnL hL hF
  go_enter Tryd.func22, Tryd.ntmps22
  go_wp2_with fail
  go_loopw [3, 5, 6, 7, 9, 13] (fun s3 _ _ _ _ s13 wr => ∃ (i : Nat) (q : Option Addr) (c m : Nat), i ≤ n ∧ s13 = .int .i64 (i : Int) ∧ s3 = .slice q m c ∧ Hid (m = (rsort (L.take i)).length) ∧ Hid (Rw encS 9 wr q c (rsort (L.take i)) ∧ (∀ a, q = some a → w.heap.size ≤ a.block) ∧ Below w.heap.size w wr)) (fun _ _ _ _ _ i _ => n - (intOf i).toNat)
  case atStart => exact ⟨0, some ⟨w.heap.size, 0, none⟩, 0, 0, Nat.zero_le _, rfl, rfl, Lib.hid rfl, Lib.hid ⟨Rw.made (E := encS) 9 w [] (by simp [maxLen]), (fun a e => by cases e; exact Nat.le_refl _), (Below.refl _ _).alloc (Nat.le_refl _) _⟩⟩
  case round =>
    rename World => w1
    obtain ⟨i, q, c, m, hi, rfl, rfl, HM, HW⟩ := hrel
    by_cases hlt : i < n
    · have hiL : i < L.length := by rw [← Hn.out]; exact hlt
      obtain ⟨bs, off, rfl, hbs, cx⟩ := (HL.out.old HW.out.2.2).str i hiL
      have hnx : rsort (L.take (i + 1)) = insB L[i] (rsort (L.take i)) := by rw [List.take_succ_eq_append_getElem hiL, rsort_snoc]
      obtain ⟨s, hs⟩ : ∃ s, s = L[i] := ⟨_, rfl⟩
      rw [← hs] at cx hnx
      have Hnx := Lib.hid hnx
      have hml : m ≤ 100000 := by have := rsort_len (L.take i); rw [← HM.out, List.length_take] at this; omega
      obtain ⟨M, hM⟩ : ∃ M, M = rsort (L.take i) := ⟨_, rfl⟩
      rw [← hM] at HM HW Hnx
      have i0 : (0 : Int) ≤ i := by omega
      have i1 : (i : Int) < n := by omega
      have Hlt := Lib.hid hlt
      clear hM hs hnx hiL hlt
      go_wp2_with fail
      clear cx
      go_loopw [6, 7, 9, 20] (fun s6 s7 _ s20 wr => ∃ (j : Nat) (q2 : Option Addr) (c2 k : Nat) (d : Bool), j ≤ m ∧ k ≤ 2 * j ∧ s20 = .int .i64 (j : Int) ∧ s6 = .slice q2 k c2 ∧ s7 = .bool d ∧ Hid (d = (inJ s M j).2) ∧ Hid (AccR encS 9 w1 k (inJ s M j).1 q2 c2 wr)) (fun _ _ _ j _ => m - (intOf j).toNat)
      case atStart => exact ⟨0, some ⟨w1.heap.size, 0, none⟩, 0, 0, false, Nat.zero_le _, Nat.le_refl _, rfl, rfl, rfl, Lib.hid rfl, Lib.hid ⟨Rw.made (E := encS) 9 w1 [] (by simp [maxLen]), rfl, (fun a e => by cases e; exact Nat.le_refl _), (Below.refl _ _).alloc (Nat.le_refl _) _⟩⟩
      case round =>
        obtain ⟨j, q2, c2, k, d, hj, hk, rfl, rfl, rfl, HD, HA⟩ := hrel
        by_cases hjm : j < m
        · have hjM : j < M.length := by rw [← HM.out]; exact hjm
          obtain ⟨b2, o2, rfl, hb2, cy⟩ := (HW.out.1.old HA.out.m).rd.str j hjM
          have hnx := inJ_succ s M j hjM
          obtain ⟨t, ht⟩ : ∃ t, t = M[j] := ⟨_, rfl⟩
          rw [← ht] at cy hnx
          obtain ⟨R, hR⟩ : ∃ R, R = (inJ s M j).1 := ⟨_, rfl⟩
          rw [← hR] at HA
          have hpair : inJ s M j = (R, d) := by rw [hR, HD.out]
          rw [hpair] at hnx
          have j0 : (0 : Int) ≤ j := by omega
          have j1 : (j : Int) < m := by omega
          have Hjm := Lib.hid hjm
          have HRk := Lib.hid HA.out.len
          obtain ⟨a1, a2, a3⟩ := HA.out.one t
          have A1 := Lib.hid a1
          have A2 := Lib.hid a2
          have A3 := Lib.hid a3
          clear ht hR hpair hjM a1 a2 a3 HD hjm
          cases d with
          | true =>
            rw [insR_t] at hnx
            have Hnx2 := Lib.hid hnx
            clear hnx
            go_wp2_with ((at_builtin; refine wpList_pushR encS rfl _ _ 23 9 (.string ⟨#[]⟩) 16 rfl Tryd.underlying23 info_strH rfl (by decide) q2 c2 k R HRk.out rfl A1.out (some ⟨wr.heap.size, 0, none⟩) 1 1 [t] rfl rfl A2.out (by omega) ?_; intro q' c' w5 hP))
            have HP := Lib.hid (A3.out _ _ _ hP)
            have hjm := Hjm.out
            clear hP A1 A2 A3
            go_roundw
            case rel => exact ⟨j + 1, q', c', k + 1, true, by omega, by omega, by go_num, rfl, rfl, Lib.hid (by rw [Hnx2.out]), Lib.hid (by rw [Hnx2.out]; exact HP.out)⟩
            case measure => simp [intOf]; omega
          | false =>
            rcases tri s t with ⟨g1, g2⟩ | ⟨g1, g3, g2⟩ | ⟨g1, g3, g2⟩
            · rw [g2] at hnx
              have Hnx2 := Lib.hid hnx
              obtain ⟨b1, b4, b5⟩ := HA.out.one s
              have B1 := Lib.hid b1
              have B4 := Lib.hid b4
              have B5 := Lib.hid b5
              clear hnx g2 b1 b4 b5 A1 A2 A3
              go_wp2_with (first | (at_builtin; refine wpList_pushR encS rfl _ _ 23 9 (.string ⟨#[]⟩) 16 rfl Tryd.underlying23 info_strH rfl (by decide) q2 c2 k R HRk.out rfl B1.out (some ⟨wr.heap.size, 0, none⟩) 1 1 [s] rfl rfl B4.out (by omega) ?_; intro q' c' w5 hP; have HP1 := Lib.hid (B5.out _ _ _ hP); have HL1 := Lib.hid HP1.out.len; have A1 := Lib.hid (HP1.out.one t).1; have A2 := Lib.hid (HP1.out.one t).2.1; have A3 := Lib.hid (HP1.out.one t).2.2; clear hP) | (at_builtin; refine wpList_pushR encS rfl _ _ 23 9 (.string ⟨#[]⟩) 16 rfl Tryd.underlying23 info_strH rfl (by decide) q' c' (k + 1) (R ++ [s]) HL1.out rfl A1.out (some ⟨w5.heap.size, 0, none⟩) 1 1 [t] rfl rfl A2.out (by omega) ?_; intro q9 c9 w6 hP2))
              have HP := Lib.hid (A3.out _ _ _ hP2)
              have hjm := Hjm.out
              clear hP2 A1 A2 A3 B1 B4 B5
              go_roundw
              case rel => exact ⟨j + 1, q9, c9, k + 1 + 1, true, by omega, by omega, by go_num, rfl, rfl, Lib.hid (by rw [Hnx2.out]), Lib.hid (by rw [Hnx2.out]; exact HP.out)⟩
              case measure => simp [intOf]; omega
            · rw [g2] at hnx
              have Hnx2 := Lib.hid hnx
              clear hnx g2
              go_wp2_with (at_builtin; refine wpList_pushR encS rfl _ _ 23 9 (.string ⟨#[]⟩) 16 rfl Tryd.underlying23 info_strH rfl (by decide) q2 c2 k R HRk.out rfl A1.out (some ⟨wr.heap.size, 0, none⟩) 1 1 [t] rfl rfl A2.out (by omega) ?_; intro q' c' w5 hP)
              have HP := Lib.hid (A3.out _ _ _ hP)
              have hjm := Hjm.out
              clear hP A1 A2 A3
              go_roundw
              case rel => exact ⟨j + 1, q', c', k + 1, false, by omega, by omega, by go_num, rfl, rfl, Lib.hid (by rw [Hnx2.out]), Lib.hid (by rw [Hnx2.out]; exact HP.out)⟩
              case measure => simp [intOf]; omega
            · rw [g2] at hnx
              have Hnx2 := Lib.hid hnx
              clear hnx g2
              go_wp2_with (at_builtin; refine wpList_pushR encS rfl _ _ 23 9 (.string ⟨#[]⟩) 16 rfl Tryd.underlying23 info_strH rfl (by decide) q2 c2 k R HRk.out rfl A1.out (some ⟨wr.heap.size, 0, none⟩) 1 1 [t] rfl rfl A2.out (by omega) ?_; intro q' c' w5 hP)
              have HP := Lib.hid (A3.out _ _ _ hP)
              have hjm := Hjm.out
              clear hP A1 A2 A3
              go_roundw
              case rel => exact ⟨j + 1, q', c', k + 1, true, by omega, by omega, by go_num, rfl, rfl, Lib.hid (by rw [Hnx2.out]), Lib.hid (by rw [Hnx2.out]; exact HP.out)⟩
              case measure => simp [intOf]; omega
        · have j1 : ¬ (j : Int) < m := by omega
          have e : j = m := by omega
          rw [e, HM.out] at HD HA
          have hend := inJ_end s M
          obtain ⟨R, hR⟩ : ∃ R, R = (inJ s M M.length).1 := ⟨_, rfl⟩
          rw [← hR] at HA
          have hpair : inJ s M M.length = (R, d) := by rw [hR, HD.out]
          rw [hpair] at hend
          have HRk := Lib.hid HA.out.len
          have HB2 : Hid (w.heap.size ≤ w1.heap.size ∧ Below w.heap.size w w1) := Lib.hid ⟨HW.out.2.2.size, HW.out.2.2⟩
          have hjm : k ≤ 2 * m := by omega
          clear e hR hpair HD hj hk HW
          cases d with
          | true =>
            have HE : Hid (insB s M = R) := Lib.hid hend.symm
            clear hend
            go_wp2_with fail
            have hlt := Hlt.out
            go_roundw
            case rel => exact ⟨i + 1, q2, c2, k, by omega, by go_num, rfl, Lib.hid (by rw [Hnx.out, HE.out, HRk.out]), Lib.hid (by rw [Hnx.out, HE.out]; exact ⟨HA.out.s, fun a e => Nat.le_trans HB2.out.1 (HA.out.new a e), HB2.out.2.trans (HA.out.m.mono HB2.out.1)⟩)⟩
            case measure => simp [intOf]; omega
          | false =>
            have HE : Hid (insB s M = R ++ [s]) := Lib.hid hend.symm
            obtain ⟨a1, a2, a3⟩ := HA.out.one s
            have A1 := Lib.hid a1
            have A2 := Lib.hid a2
            have A3 := Lib.hid a3
            clear hend a1 a2 a3
            go_wp2_with (at_builtin; refine wpList_pushR encS rfl _ _ 23 9 (.string ⟨#[]⟩) 16 rfl Tryd.underlying23 info_strH rfl (by decide) q2 c2 k R HRk.out rfl A1.out (some ⟨wr.heap.size, 0, none⟩) 1 1 [s] rfl rfl A2.out (by omega) ?_; intro q' c' w5 hP)
            have HP := Lib.hid (A3.out _ _ _ hP)
            have hlt := Hlt.out
            clear hP A1 A2 A3
            go_roundw
            case rel => exact ⟨i + 1, q', c', k + 1, by omega, by go_num, rfl, Lib.hid (by rw [Hnx.out, HE.out, HP.out.len]), Lib.hid (by rw [Hnx.out, HE.out]; exact ⟨HP.out.s, fun a e => Nat.le_trans HB2.out.1 (HP.out.new a e), HB2.out.2.trans (HP.out.m.mono HB2.out.1)⟩)⟩
            case measure => simp [intOf]; omega
    · have i1 : ¬ (i : Int) < n := by omega
      have e : i = n := by omega
      rw [e, Hn.out, List.take_length] at HM HW
      clear e
      go_wp2_with fail
      rw [HF.out]
      exact ⟨q, c, by rw [HM.out], HW.out.1, HW.out.2.1, HW.out.2.2⟩
end Go.Proofs.YtiegakeacghnfaaDoor

namespace Go.Proofs.YtiegakeacghnfaaDoor
open Go.RowKit

set_option maxHeartbeats 400000 in
theorem turn_any (x n : Nat) (w : World) (hx : x < 4294967296) (hn : n ≤ 32) :
    Calls Tryd.prog 56 #[.int .u64 x, .int .i64 (n : Int)] w fun r w' => r = .returned (.int .u64 (rotr x n : Int)) ∧ w = w' := by
  obtain ⟨x0, hx0⟩ : ∃ x0, x0 = x := ⟨_, rfl⟩
  have hs : x = rotr x0 0 := by rw [hx0, rotr_zero]
  rw [← hx0] at hx ⊢
  go_enter Tryd.func56, Tryd.ntmps56
  go_wp2_with fail
  go_loopw [0, 5] (fun y i wr => ∃ k : Nat, k ≤ n ∧ y = .int .u64 (rotr x0 k : Int) ∧ i = .int .i64 k ∧ w = wr) (fun _ i _ => n - (intOf i).toNat)
  case atStart => exact ⟨0, by omega, by rw [rotr_zero], rfl, rfl⟩
  case round =>
    obtain ⟨k, hk, rfl, rfl, rfl⟩ := hrel
    by_cases hlt : k < n
    · have hsu := rotr_succ x0 k (by omega)
      have hr1 := rotr_lt x0 k hx (by omega)
      generalize rotr x0 k = y at hsu hr1
      have H := Lib.hid hsu
      have h1 : (k : Int) < n := by omega
      have y0 : (0 : Int) ≤ y := by omega
      have d1 : (y : Int).tdiv 2 = ((y / 2 : Nat) : Int) := by rw [Int.tdiv_eq_ediv_of_nonneg y0]; omega
      have d2 : (y : Int).tmod 2 = ((y % 2 : Nat) : Int) := by rw [Int.tmod_eq_emod_of_nonneg y0]; omega
      have b1 : y / 2 < 2147483648 := by omega
      have b2 : y % 2 < 2 := by omega
      generalize y / 2 = p at *
      generalize y % 2 = q at *
      clear hsu
      go_wp2_with fail
      go_roundw
      case rel => exact ⟨k + 1, by omega, by rw [H.out]; go_num, by go_num, trivial⟩
      case measure => simp [intOf]; omega
    · obtain rfl : k = n := by omega
      go_wp2_with fail
      go_ret
      exact ⟨rfl, rfl⟩
theorem div_pow_succ (x k : Nat) : x / 2 ^ (k + 1) = x / 2 ^ k / 2 := by rw [Nat.pow_succ, Nat.div_div_eq_div_mul]

set_option maxHeartbeats 400000 in
theorem down_any (x n : Nat) (w : World) (hx : x < 4294967296) (hn : n ≤ 32) :
    Calls Tryd.prog 57 #[.int .u64 x, .int .i64 (n : Int)] w fun r w' => r = .returned (.int .u64 ((x / 2 ^ n : Nat) : Int)) ∧ w = w' := by
  obtain ⟨f, hf⟩ : ∃ f : Nat → Nat, f = fun k => x / 2 ^ k := ⟨_, rfl⟩
  have f0 : x = f 0 := by rw [hf]; simp
  have fs : ∀ k, f (k + 1) = f k / 2 := by intro k; rw [hf]; exact div_pow_succ x k
  have fl : ∀ k, f k < 4294967296 := by intro k; rw [hf]; exact Nat.lt_of_le_of_lt (Nat.div_le_self _ _) hx
  have fn : x / 2 ^ n = f n := by rw [hf]
  rw [fn]
  have F0 := Lib.hid f0
  have Fs := Lib.hid fs
  clear hf f0 fs fn
  go_enter Tryd.func57, Tryd.ntmps57
  go_wp2_with fail
  go_loopw [0, 5] (fun y i wr => ∃ k : Nat, k ≤ n ∧ y = .int .u64 (f k : Int) ∧ i = .int .i64 k ∧ w = wr) (fun _ i _ => n - (intOf i).toNat)
  case atStart => exact ⟨0, by omega, by rw [← F0.out], rfl, rfl⟩
  case round =>
    obtain ⟨k, hk, rfl, rfl, rfl⟩ := hrel
    by_cases hlt : k < n
    · have hsu := Fs.out k
      have hr1 := fl k
      generalize f k = y at hsu hr1
      have H := Lib.hid hsu
      have h1 : (k : Int) < n := by omega
      have y0 : (0 : Int) ≤ y := by omega
      have d1 : (y : Int).tdiv 2 = ((y / 2 : Nat) : Int) := by rw [Int.tdiv_eq_ediv_of_nonneg y0]; omega
      have b1 : y / 2 < 2147483648 := by omega
      generalize y / 2 = p at *
      clear hsu
      go_wp2_with fail
      go_roundw
      case rel => exact ⟨k + 1, by omega, by rw [H.out], by go_num, trivial⟩
      case measure => simp [intOf]; omega
    · obtain rfl : k = n := by omega
      go_wp2_with fail
      go_ret
      exact ⟨rfl, rfl⟩

set_option maxHeartbeats 400000 in
set_option maxRecDepth 100000 in
theorem keys_any (w : World) :
    Calls Tryd.prog 55 #[] w fun r w' => r = .returned (.slice (some ⟨w.heap.size, 0, none⟩) 64 64) ∧ Mod (fun _ => False) w w' ∧ RowAt .u64 22 w' w.heap.size kTab := by
  go_enter Tryd.func55, Tryd.ntmps55
  go_wp2_with fail
  generalize hW : w.alloc _ = W
  have h1 : Mod (fun _ => False) w W ∧ RowAt .u64 22 W w.heap.size kTab := by rw [← hW]; exact ⟨(Mod.refl _ _).alloc _, heap_alloc_new _ _⟩
  clear hW
  go_ret
  exact ⟨rfl, h1⟩
end Go.Proofs.YtiegakeacghnfaaDoor

namespace Go.Proofs.YtiegakeacghnfaaDoor

theorem absorb_app (a b : List Nat) : absorb (a ++ b) = b.foldl absorb1 (absorb a) := by simp [absorb]

theorem fold_part (b : List Nat) (s : List Nat × List Nat) (h : s.2.length + b.length < 64) : b.foldl absorb1 s = (s.1, s.2 ++ b) := by
  induction b generalizing s with
  | nil => simp
  | cons x b ih =>
    rw [List.length_cons] at h
    rw [List.foldl_cons, absorb1, if_neg (by omega), ih _ (by simp; omega)]
    simp

/-- A whole block more. -/
theorem fold_block (b H : List Nat) (h : b.length = 64) : b.foldl absorb1 (H, []) = (block H b, []) := by
  have hne : b ≠ [] := by intro e; rw [e] at h; simp at h
  obtain ⟨c, x, rfl⟩ : ∃ c x, b = c ++ [x] := ⟨b.dropLast, b.getLast hne, (List.dropLast_concat_getLast hne).symm⟩
  have hl : c.length = 63 := by simp at h; omega
  rw [List.foldl_append, fold_part c (H, []) (by simp; omega), List.nil_append, List.foldl_cons, List.foldl_nil, absorb1, if_pos (by simp; omega)]

theorem absorb_whole (m : List Nat) (h : m.length % 64 = 0) : (absorb m).2 = [] := by
  have := absorb_buf m; rw [h] at this; exact List.eq_nil_of_length_eq_zero this

/-- The words behind j blocks. -/
def wordsAt (m : List Nat) (j : Nat) : List Nat := (absorb (m.take (64 * j))).1
theorem wordsAt_zero (m : List Nat) : wordsAt m 0 = hTab := by simp [wordsAt, absorb]
def chunk (m : List Nat) (j : Nat) : List Nat := (m.drop (64 * j)).take 64
theorem chunk_len (m : List Nat) (j : Nat) (h : 64 * (j + 1) ≤ m.length) : (chunk m j).length = 64 := by simp [chunk]; omega
theorem chunk_at (m : List Nat) (j i : Nat) (hi : i < 64) : (chunk m j).getD i 0 = m.getD (64 * j + i) 0 := by
  simp [chunk, List.getD, List.getElem?_drop, hi]
theorem wordsAt_succ (m : List Nat) (j : Nat) (h : 64 * (j + 1) ≤ m.length) : wordsAt m (j + 1) = block (wordsAt m j) (chunk m j) := by
  have e : m.take (64 * (j + 1)) = m.take (64 * j) ++ chunk m j := by
    rw [chunk, show 64 * (j + 1) = 64 * j + 64 by omega, List.take_add]
  have hb : (absorb (m.take (64 * j))).2 = [] := absorb_whole _ (by rw [List.length_take]; omega)
  unfold wordsAt
  rw [e, absorb_app, show absorb (m.take (64 * j)) = ((absorb (m.take (64 * j))).1, []) by rw [← hb], fold_block _ _ (chunk_len m j h)]
theorem wordsAt_len (m : List Nat) (j : Nat) : (wordsAt m j).length = 8 := absorb_words _
theorem wordsAt_lt (m : List Nat) (j : Nat) : ∀ x ∈ wordsAt m j, x < 4294967296 := absorb_lt _
theorem wordsAt_end (m : List Nat) (j : Nat) (h : 64 * j = m.length) : (absorb m).1 = wordsAt m j := by
  unfold wordsAt; rw [List.take_of_length_le (by omega)]

theorem padded_len (m : List Nat) : (padded m).length % 64 = 0 := by
  simp only [padded, List.length_append, List.length_singleton, List.length_replicate, lenBytes_len, zeros]
  omega
theorem padded_lt (m : List Nat) (h : ∀ x ∈ m, x < 256) : ∀ x ∈ padded m, x < 256 := by
  intro x hx
  simp only [padded, List.mem_append, List.mem_singleton] at hx
  rcases hx with ((hx | hx) | hx) | hx
  · exact h x hx
  · omega
  · rw [List.eq_of_mem_replicate hx]; omega
  · obtain ⟨i, _, rfl⟩ := List.mem_map.1 hx; exact Nat.mod_lt _ (by decide)

/-- The length's bytes from behind. -/
theorem lenBytes_from (n k : Nat) (hk : k < 8) : (lenBytes n 8).drop (7 - k) = (n * 8 / 256 ^ k % 256) :: (lenBytes n 8).drop (8 - k) := by
  have hl := lenBytes_len n 8
  rw [List.drop_eq_getElem_cons (by omega), show 7 - k + 1 = 8 - k by omega]
  congr 1
  simp only [lenBytes, List.getElem_map, List.getElem_range]
  rw [show 7 - (7 - k) = k by omega, Nat.pow_mul]

/-- The words of a block by one sum. -/
theorem sched_next (L : List Nat) (n : Nat) (h : 16 ≤ n) : schedTo L (n + 1) = schedTo L n ++ [((schedTo L n).getD (n - 16) 0 + s0 ((schedTo L n).getD (n - 15) 0) + (schedTo L n).getD (n - 7) 0 + s1 ((schedTo L n).getD (n - 2) 0)) % 4294967296] := by
  show schedTo L n ++ [_] = _
  rw [if_neg (by omega)]
  congr 2
  generalize (schedTo L n).getD (n - 16) 0 = a
  generalize s0 _ = b
  generalize (schedTo L n).getD (n - 7) 0 = c
  generalize s1 _ = d
  omega
theorem sched_first (L : List Nat) (n : Nat) (h : n < 16) : schedTo L (n + 1) = schedTo L n ++ [w16 L n] := by
  show schedTo L n ++ [_] = _
  rw [if_pos h]

theorem tOf_sum (v : V) (k w : Nat) : tOf v k w = (v.h + S1 v.e + ch v.e v.f v.g + k + w) % 4294967296 := by
  unfold tOf
  generalize S1 _ = a
  generalize ch _ _ _ = b
  omega

/-- A word's four bytes. -/
def four (x : Nat) : List Nat := [x / 16777216 % 256, x / 65536 % 256, x / 256 % 256, x % 256]
theorem outTo_four (H : List Nat) (k : Nat) : outTo H (4 * (k + 1)) = outTo H (4 * k) ++ four (H.getD k 0) := by
  rw [show 4 * (k + 1) = 4 * k + 1 + 1 + 1 + 1 by omega, outTo_succ, outTo_succ, outTo_succ, outTo_succ]
  rw [show (4 * k + 1 + 1 + 1) / 4 = k by omega, show (4 * k + 1 + 1) / 4 = k by omega, show (4 * k + 1) / 4 = k by omega, show 4 * k / 4 = k by omega,
    show (4 * k + 1 + 1 + 1) % 4 = 3 by omega, show (4 * k + 1 + 1) % 4 = 2 by omega, show (4 * k + 1) % 4 = 1 by omega, show 4 * k % 4 = 0 by omega]
  simp [four]
end Go.Proofs.YtiegakeacghnfaaDoor

namespace Go.Proofs.YtiegakeacghnfaaDoor
open Go.RowKit

/-- A row of words, owned, from B on. -/
def W64 (B : Nat) (w : World) (g cap : Nat) (A : List Nat) : Prop := w.ownsRow B 22 1 (.slice (some ⟨g, 0, none⟩) A.length cap) A.length (nums .u64 A)

theorem W64.row {B : Nat} {w : World} {g cap : Nat} {A : List Nat} (h : W64 B w g cap A) :
    B ≤ g ∧ ∃ cur, w.heap[g]? = some (.cells cur 22 (0, 0)) ∧ A.length ≤ cap ∧ cap ≤ maxLen ∧ cur.size = cap ∧ cur.toList.take A.length = nums .u64 A := by
  rcases h.2 with ⟨h, _⟩ | ⟨g', cap', cur, e, hb, hh, h1, h2, h3, h4⟩
  · cases h
  · simp only [Value.slice.injEq, Option.some.injEq, Addr.mk.injEq] at e
    obtain ⟨⟨rfl, _, _⟩, _, rfl⟩ := e
    exact ⟨hb, cur, hh, h1, h2, by simpa using h3, by simpa using h4⟩
theorem W64.lo {B : Nat} {w : World} {g cap : Nat} {A : List Nat} (h : W64 B w g cap A) : B ≤ g := h.row.1
theorem W64.lt {B : Nat} {w : World} {g cap : Nat} {A : List Nat} (h : W64 B w g cap A) : g < w.heap.size := by
  obtain ⟨_, cur, hh, _⟩ := h.row; exact (Array.getElem?_eq_some_iff.1 hh).1
theorem W64.cell {B : Nat} {w : World} {g cap : Nat} {A : List Nat} (h : W64 B w g cap A) (i : Nat) (hi : i < A.length) : w.cell? ⟨g, i, none⟩ = some (.int .u64 (A[i]'hi)) := by
  obtain ⟨_, cur, hh, _, _, _, ht⟩ := h.row
  rw [cell_of_row w g i _ 22 (0, 0) hh]
  have := nums_get .u64 A i hi
  rw [← ht, List.getElem?_take_of_lt hi] at this
  simpa using this
theorem W64.kept {B : Nat} {w w' : World} {g cap : Nat} {A : List Nat} {S : Nat → Prop} (h : W64 B w g cap A) (hm : Mod S w w') (hg : ¬ S g) : W64 B w' g cap A := by
  obtain ⟨hb, cur, hh, h1, h2, h3, h4⟩ := h.row
  exact ⟨h.1, .inr ⟨g, cap, cur, rfl, hb, (hm.block g h.lt hg).trans hh, h1, h2, by simpa using h3, by simpa using h4⟩⟩
theorem W64.fresh {B : Nat} (w : World) (A : List Nat) (hB : B ≤ w.heap.size) (hl : A.length ≤ maxLen) : W64 B (w.alloc (.cells (nums .u64 A).toArray 22 (0, 0))) w.heap.size A.length A :=
  ⟨by simp [nums_len], .inr ⟨_, _, _, rfl, hB, heap_alloc_new _ _, Nat.le_refl _, hl, by simp [nums_len], by simp [nums, List.take_of_length_le]⟩⟩

/-- What the document's own answer has laid by: its words, and the rounds' words. -/
structure RefAt (w : World) (gh gk B : Nat) (H : List Nat) (wr : World) : Prop where
  m : Mod (fun _ => False) w wr
  h : RowAt .u64 22 wr gh H
  k : RowAt .u64 22 wr gk kTab
  lo : w.heap.size ≤ gh
  hb : gh < B
  kb : gk < B
  ne : gh ≠ gk
  b : B ≤ wr.heap.size
theorem RefAt.step {w : World} {gh gk B : Nat} {H : List Nat} {wr w' : World} (r : RefAt w gh gk B H wr) (hm : Mod (fun i => B ≤ i) wr w') : RefAt w gh gk B H w' :=
  ⟨r.m.trans hm (by intro i hi h; have := r.lo; have := r.hb; omega), r.h.kept hm (by have := r.hb; omega), r.k.kept hm (by have := r.kb; omega), r.lo, r.hb, r.kb, r.ne, Nat.le_trans r.b hm.size⟩
theorem RefAt.set {w : World} {gh gk B : Nat} {H : List Nat} {wr : World} (r : RefAt w gh gk B H wr) (i x : Nat) : RefAt w gh gk B (H.set i x) (wr.setCell ⟨gh, i, none⟩ (.int .u64 x)) := by
  have hm : Mod (· = gh) wr (wr.setCell ⟨gh, i, none⟩ (.int .u64 x)) := (Mod.refl (· = gh) _).setCell (p := ⟨gh, i, none⟩) (fun _ => rfl) _
  have := r.lo; have := r.ne
  exact ⟨r.m.trans hm (by intro i hi h; omega), r.h.set i x, r.k.kept hm (by omega), r.lo, r.hb, r.kb, r.ne, Nat.le_trans r.b hm.size⟩
/-- A word more behind an owned row. -/
theorem W64.push {B : Nat} {w w' : World} {g g' cap cap' : Nat} {A : List Nat} {x : Nat} (_ : W64 B w g cap A)
    (ho : w'.ownsRow B 22 1 (.slice (some ⟨g', 0, none⟩) (A.length + 1) cap') (A.length + 1) (nums .u64 A ++ [.int .u64 x])) : W64 B w' g' cap' (A ++ [x]) := by
  unfold W64
  rw [List.length_append, List.length_singleton, show nums .u64 (A ++ [x]) = nums .u64 A ++ [.int .u64 x] by simp [nums]]
  exact ho
/-- A word while it is read. -/
def wpart (L : List Nat) (i : Nat) : Nat → Nat
  | 0 => 0
  | t + 1 => wpart L i t * 256 + L.getD (4 * i + t) 0
theorem wpart_four (L : List Nat) (i : Nat) : wpart L i 4 = w16 L i := by
  simp only [wpart, Nat.add_zero, Nat.zero_mul, Nat.zero_add]; unfold w16; omega
theorem wpart_lt (L : List Nat) (hL : ∀ x ∈ L, x < 256) (i t : Nat) (ht : t ≤ 4) : wpart L i t < 256 ^ t := by
  induction t with
  | zero => exact Nat.one_pos
  | succ t ih =>
    have h := ih (by omega)
    have hd : L.getD (4 * i + t) 0 < 256 := by
      by_cases hj : 4 * i + t < L.length
      · rw [getD_at _ _ hj]; exact hL _ (List.getElem_mem _)
      · simp [List.getD, List.getElem?_eq_none (Nat.le_of_not_lt hj)]
    show wpart L i t * 256 + _ < _
    rw [Nat.pow_succ]; omega

theorem str_index (A : List Nat) (hA : ∀ x ∈ A, x < 256) (n : Nat) (hn : n < A.length) (z : Int) (hz : z = (n : Int)) (w : World) :
    (Instr.index 9 (.string (bytesOf A)) (.int .i64 z)).run Tryd.prog w = .ok (.int .u8 ((A.getD n 0 : Nat) : Int)) w := by
  subst hz
  have h1 : (0 : Int) ≤ n ∧ (n : Int) < ((bytesOf A).size : Nat) := by rw [bytesOf_size]; omega
  have e : (bytesOf A).data[n]? = some (UInt8.ofNat A[n]) := by simp [bytesOf, hn]
  have hb : A[n] < 256 := hA _ (List.getElem_mem _)
  unfold Instr.index
  simp only [asIntOf, Sem.run_bind, Sem.run_pure, Result.andThen_ok]
  rw [getD_at _ _ hn]
  have h0 : (0 : Int) ≤ n := by omega
  have e' : (bytesOf A)[n]? = some (UInt8.ofNat A[n]) := e
  rw [run_underlying Tryd.underlying9]
  simp only [Result.andThen_ok, if_pos h0, Int.toNat_natCast]
  rw [e']
  simp only [Sem.run_pure]
  rw [UInt8.toNat_ofNat_of_lt' hb]

set_option maxRecDepth 100000 in
theorem info39 : ∃ i z, Tryd.prog.info? 22 = some i ∧ i.zero = some z ∧ i.size = 1 ∧ i.bytes = 8 ∧ z.cells.size = 1 := by
  refine ⟨_, _, rfl, rfl, ?_, ?_, ?_⟩ <;> kernel_rfl

/-- An append of one word. -/
theorem wpList_push64 {ops : Array Oper} {rest : List Oper} {o : Oper} {a : Act} {Q : Exit → Act → World → Prop} {w : World} (hgd : o.guard = none) (s x : Operand)
    (ho : o.op = .call { callee := .builtin .append, args := #[s, x], argTypes := #[84, 84] }) (B g cap n y : Nat) (A : List Nat) (hn : A.length = n)
    (hs : a.eval s = .slice (some ⟨g, 0, none⟩) n cap) (hV : W64 B w g cap A) (hx : a.eval x = .slice (some ⟨w.heap.size, 0, none⟩) 1 1) (hl : n ≤ 1000) (hB : B ≤ w.heap.size)
    (h : ∀ g' cap' w', W64 B w' g' cap' (A ++ [y]) → Mod (fun i => B ≤ i) w w' → wpList Tryd.prog ops Q rest (a.put o.dst (.slice (some ⟨g', 0, none⟩) (n + 1) cap')) w') :
    wpList Tryd.prog ops Q (o :: rest) a (w.alloc (.cells #[.int .u64 (y : Int)] 22)) := by
  obtain ⟨i, z, hi, hz, h1, h2, h3⟩ := info39
  subst hn
  have hVo := (hV.kept ((Mod.refl (fun _ => False) w).alloc (.cells #[.int .u64 (y : Int)] 22)) (fun h => h))
  refine wpList_append_lies _ hgd s x 84 ho B 22 i z 1 8 Tryd.underlying84 hi hz h1 h2 h3 (by decide) _ A.length (nums .u64 A) hs hVo ⟨w.heap.size, 0, none⟩ 1 1 [.int .u64 (y : Int)] hx rfl (cell_one_new _ _ _) (by intro u hu; simp at hu; subst hu; rfl) (by omega) (by unfold maxLen; omega) (by omega) (by simp; omega) _ rfl ?_
  intro g' cap' w' hown hgrow hg' hlt
  have hlo := hV.lo
  refine h g' cap' w' (hV.push hown) (((Mod.refl (fun i => B ≤ i) w).alloc _).grown hgrow ?_)
  intro k hk _
  simp [Value.ownBlock] at hk
  omega

theorem turn_q (x n : Nat) (w : World) (hx : x < 4294967296) (h2 : n ≤ 32) :
    Calls Tryd.prog 56 #[.int .u64 x, .int .i64 (n : Int)] w fun r w' => r = .returned (.int .u64 (rotr x n : Int)) ∧ w' = w :=
  (turn_any x n w hx h2).mono fun _ _ ⟨a, b⟩ => ⟨a, b.symm⟩
theorem down3_q (x : Nat) (w : World) (hx : x < 4294967296) :
    Calls Tryd.prog 57 #[.int .u64 x, .int .i64 3] w fun r w' => r = .returned (.int .u64 ((x / 8 : Nat) : Int)) ∧ w' = w :=
  (down_any x 3 w hx (by omega)).mono fun _ _ ⟨a, b⟩ => ⟨a, b.symm⟩
theorem down10_q (x : Nat) (w : World) (hx : x < 4294967296) :
    Calls Tryd.prog 57 #[.int .u64 x, .int .i64 10] w fun r w' => r = .returned (.int .u64 ((x / 1024 : Nat) : Int)) ∧ w' = w :=
  (down_any x 10 w hx (by omega)).mono fun _ _ ⟨a, b⟩ => ⟨a, b.symm⟩

theorem x64 (a b : Nat) (ha : a < 4294967296) (hb : b < 4294967296) : bits BinOp.xor IntKind.u64 (a : Int) (b : Int) = ((a ^^^ b : Nat) : Int) := u64_xor_nat _ _ (by omega) (by omega)
theorem n64 (a b : Nat) (ha : a < 4294967296) (hb : b < 4294967296) : bits BinOp.and IntKind.u64 (a : Int) (b : Int) = ((a &&& b : Nat) : Int) := u64_and_nat _ _ (by omega) (by omega)
theorem s0_facts (x : Nat) (hx : x < 4294967296) : ∃ r z : Nat, Hid (z = s0 x) ∧ z < 4294967296 ∧ bits BinOp.xor IntKind.u64 (rotr x 7 : Int) (rotr x 18 : Int) = (r : Int) ∧ bits BinOp.xor IntKind.u64 (r : Int) ((x : Int) / 8) = (z : Int) :=
  ⟨rotr x 7 ^^^ rotr x 18, _, rfl, s0_lt x hx, x64 _ _ (rotr_lt x 7 hx (by decide)) (rotr_lt x 18 hx (by decide)), by rw [show (x : Int) / 8 = ((x / 8 : Nat) : Int) by omega]; exact x64 _ _ (xor_lt _ _ (rotr_lt x 7 hx (by decide)) (rotr_lt x 18 hx (by decide))) (by omega)⟩
theorem s1_facts (x : Nat) (hx : x < 4294967296) : ∃ r z : Nat, Hid (z = s1 x) ∧ z < 4294967296 ∧ bits BinOp.xor IntKind.u64 (rotr x 17 : Int) (rotr x 19 : Int) = (r : Int) ∧ bits BinOp.xor IntKind.u64 (r : Int) ((x : Int) / 1024) = (z : Int) :=
  ⟨rotr x 17 ^^^ rotr x 19, _, rfl, s1_lt x hx, x64 _ _ (rotr_lt x 17 hx (by decide)) (rotr_lt x 19 hx (by decide)), by rw [show (x : Int) / 1024 = ((x / 1024 : Nat) : Int) by omega]; exact x64 _ _ (xor_lt _ _ (rotr_lt x 17 hx (by decide)) (rotr_lt x 19 hx (by decide))) (by omega)⟩

theorem step_push64 {ops : Array Oper} {o : Oper} {a : Act} {K : Act → World → Prop} {Q : Exit → Act → World → Prop} {E : Prop} {w : World} (hgd : o.guard = none) (s x : Operand)
    (ho : o.op = .call { callee := .builtin .append, args := #[s, x], argTypes := #[84, 84] }) (B g cap n y : Nat) (A : List Nat) (hn : A.length = n)
    (hs : a.eval s = .slice (some ⟨g, 0, none⟩) n cap) (hV : W64 B w g cap A) (hx : a.eval x = .slice (some ⟨w.heap.size, 0, none⟩) 1 1) (hl : n ≤ 1000) (hB : B ≤ w.heap.size)
    (h : ∀ g' cap' w', W64 B w' g' cap' (A ++ [y]) → Mod (fun i => B ≤ i) w w' → K (a.put o.dst (.slice (some ⟨g', 0, none⟩) (n + 1) cap')) w') :
    if Region.wanted o (yielded ops a.tmps) = true then Oper.wp Tryd.prog o a (w.alloc (.cells #[.int .u64 (y : Int)] 22)) K Q else E := by
  obtain ⟨i, z, hi, hz, h1, h2, h3⟩ := info39
  subst hn
  have hVo := (hV.kept ((Mod.refl (fun _ => False) w).alloc (.cells #[.int .u64 (y : Int)] 22)) (fun h => h))
  refine step_append_lies _ hgd s x 84 ho B 22 i z 1 8 Tryd.underlying84 hi hz h1 h2 h3 (by decide) _ A.length (nums .u64 A) hs hVo ⟨w.heap.size, 0, none⟩ 1 1 [.int .u64 (y : Int)] hx rfl (cell_one_new _ _ _) (by intro u hu; simp at hu; subst hu; rfl) (by omega) (by unfold maxLen; omega) (by omega) (by simp; omega) _ rfl ?_
  intro g' cap' w' hown hgrow hg' hlt
  have hlo := hV.lo
  refine h g' cap' w' (hV.push hown) (((Mod.refl (fun i => B ≤ i) w).alloc _).grown hgrow ?_)
  intro k hk _
  simp [Value.ownBlock] at hk
  omega

end Go.Proofs.YtiegakeacghnfaaDoor

namespace Go.Proofs.YtiegakeacghnfaaDoor
open Go.RowKit

/-- A row of words appended to an owned empty row. -/
theorem wpList_clone64 {ops : Array Oper} {rest : List Oper} {o : Oper} {a : Act} {Q : Exit → Act → World → Prop} {w : World} (hgd : o.guard = none) (s x : Operand)
    (ho : o.op = .call { callee := .builtin .append, args := #[s, x], argTypes := #[84, 84] }) (B g cap gh m c : Nat) (A : List Nat) (hm : A.length = m) (h0 : 0 < m)
    (hs : a.eval s = .slice (some ⟨g, 0, none⟩) 0 cap) (hV : W64 B w g cap []) (hR : RowAt .u64 22 w gh A) (hx : a.eval x = .slice (some ⟨gh, 0, none⟩) m c) (hl : m ≤ 1000) (hB : B ≤ w.heap.size)
    (h : ∀ g' cap' w', W64 B w' g' cap' A → Mod (· = g) w w' → wpList Tryd.prog ops Q rest (a.put o.dst (.slice (some ⟨g', 0, none⟩) m cap')) w') :
    wpList Tryd.prog ops Q (o :: rest) a w := by
  obtain ⟨i, z, hi, hz, h1, h2, h3⟩ := info39
  subst hm
  have hlo := hV.lo
  have hV0 : w.ownsRow B 22 1 (.slice (some ⟨g, 0, none⟩) 0 cap) 0 [] := hV
  refine wpList_append_lies _ hgd s x 84 ho B 22 i z 1 8 Tryd.underlying84 hi hz h1 h2 h3 (by decide) _ 0 [] hs hV0 ⟨gh, 0, none⟩ A.length c (nums .u64 A) hx (by simp [nums_len]) ?_ (nums_one _ _) h0 (by unfold maxLen; omega) (by omega) hB _ rfl ?_
  · intro j u hj
    have hjl : j < A.length := by
      have := List.getElem?_eq_some_iff.1 hj
      obtain ⟨hlt, _⟩ := this
      rwa [nums_len] at hlt
    rw [nums_get .u64 A j hjl] at hj
    cases hj
    have hadd : (⟨gh, 0, none⟩ : Addr).add j = ⟨gh, j, none⟩ := by unfold Addr.add; split <;> simp_all
    rw [hadd]
    exact hR.cell j hjl
  · intro g' cap' w' hown hgrow _ _
    have e0 : 0 + A.length = A.length := Nat.zero_add _
    rw [e0, List.nil_append] at hown
    rw [e0]
    refine h g' cap' w' hown ((Mod.refl (· = g) w).grown hgrow ?_)
    intro k hk _
    simp [Value.ownBlock] at hk
    exact hk.symm

/-- An append of one word that lies somewhere. -/
theorem push64_wp {o : Oper} {a : Act} {K : Act → World → Prop} {Q : Exit → Act → World → Prop} {w : World} (s x : Operand)
    (ho : o.op = .call { callee := .builtin .append, args := #[s, x], argTypes := #[84, 84] }) (B g cap n y b : Nat) (A : List Nat) (hn : A.length = n)
    (hs : a.eval s = .slice (some ⟨g, 0, none⟩) n cap) (hV : W64 B w g cap A) (hx : a.eval x = .slice (some ⟨b, 0, none⟩) 1 1) (hc : w.cell? ⟨b, 0, none⟩ = some (.int .u64 (y : Int))) (hl : n ≤ 1000) (hB : B ≤ w.heap.size)
    (h : ∀ g' cap' w', W64 B w' g' cap' (A ++ [y]) → Mod (fun i => B ≤ i) w w' → K (a.put o.dst (.slice (some ⟨g', 0, none⟩) (n + 1) cap')) w') : o.wp Tryd.prog a w K Q := by
  obtain ⟨i, z, hi, hz, h1, h2, h3⟩ := info39
  subst hn
  have hVo : w.ownsRow B 22 1 (.slice (some ⟨g, 0, none⟩) A.length cap) A.length (nums .u64 A) := hV
  refine wp_append_lies w s x 84 ho B 22 i z 1 8 Tryd.underlying84 hi hz h1 h2 h3 (by decide) _ A.length (nums .u64 A) hs hVo ⟨b, 0, none⟩ 1 1 [.int .u64 (y : Int)] hx rfl ?_ (by intro u hu; simp at hu; subst hu; rfl) (by omega) (by unfold maxLen; omega) (by omega) hB _ rfl ?_
  · intro j u hj
    match j, hj with
    | 0, hj =>
      simp only [List.getElem?_cons_zero, Option.some.injEq] at hj
      subst hj
      exact hc
  · intro g' cap' w' hown hgrow hg' hlt
    have hlo := hV.lo
    refine h g' cap' w' (hV.push hown) ((Mod.refl (fun i => B ≤ i) w).grown hgrow ?_)
    intro k hk _
    simp [Value.ownBlock] at hk
    omega

theorem S1_facts (e : Nat) (he : e < 4294967296) : ∃ r z : Nat, Hid (z = S1 e) ∧ z < 4294967296 ∧ bits BinOp.xor IntKind.u64 (rotr e 6 : Int) (rotr e 11 : Int) = (r : Int) ∧ bits BinOp.xor IntKind.u64 (r : Int) (rotr e 25 : Int) = (z : Int) :=
  ⟨_, _, rfl, S1_lt e he, x64 _ _ (rotr_lt e 6 he (by decide)) (rotr_lt e 11 he (by decide)), x64 _ _ (xor_lt _ _ (rotr_lt e 6 he (by decide)) (rotr_lt e 11 he (by decide))) (rotr_lt e 25 he (by decide))⟩
theorem S0_facts (a : Nat) (ha : a < 4294967296) : ∃ r z : Nat, Hid (z = S0 a) ∧ z < 4294967296 ∧ bits BinOp.xor IntKind.u64 (rotr a 2 : Int) (rotr a 13 : Int) = (r : Int) ∧ bits BinOp.xor IntKind.u64 (r : Int) (rotr a 22 : Int) = (z : Int) :=
  ⟨_, _, rfl, S0_lt a ha, x64 _ _ (rotr_lt a 2 ha (by decide)) (rotr_lt a 13 ha (by decide)), x64 _ _ (xor_lt _ _ (rotr_lt a 2 ha (by decide)) (rotr_lt a 13 ha (by decide))) (rotr_lt a 22 ha (by decide))⟩
theorem ch_facts (e f g : Nat) (be : e < 4294967296) (bf : f < 4294967296) (bg : g < 4294967296) : ∃ n1 ne n2 z : Nat, Hid (z = ch e f g) ∧ z < 4294967296 ∧ bits BinOp.and IntKind.u64 (e : Int) (f : Int) = (n1 : Int) ∧
    (4294967295 - (e : Int)) = (ne : Int) ∧ IntKind.u64.wrap (4294967295 - (e : Int)) = (ne : Int) ∧ bits BinOp.and IntKind.u64 (ne : Int) (g : Int) = (n2 : Int) ∧ bits BinOp.xor IntKind.u64 (n1 : Int) (n2 : Int) = (z : Int) :=
  ⟨_, 4294967295 - e, _, _, rfl, ch_lt e f g bf bg, n64 _ _ be bf, by omega, by rw [IntKind.wrap_u64]; omega, n64 _ _ (by omega) bg, x64 _ _ (and_lt _ _ bf) (and_lt _ _ bg)⟩
theorem maj_facts (a b c : Nat) (ba : a < 4294967296) (bb : b < 4294967296) (bc : c < 4294967296) : ∃ p q r s z : Nat, Hid (z = maj a b c) ∧ z < 4294967296 ∧ bits BinOp.and IntKind.u64 (a : Int) (b : Int) = (p : Int) ∧
    bits BinOp.and IntKind.u64 (a : Int) (c : Int) = (q : Int) ∧ bits BinOp.and IntKind.u64 (b : Int) (c : Int) = (r : Int) ∧ bits BinOp.xor IntKind.u64 (p : Int) (q : Int) = (s : Int) ∧ bits BinOp.xor IntKind.u64 (s : Int) (r : Int) = (z : Int) :=
  ⟨_, _, _, _, _, rfl, maj_lt a b c bb bc, n64 _ _ ba bb, n64 _ _ ba bc, n64 _ _ bb bc, x64 _ _ (and_lt _ _ bb) (and_lt _ _ bc), x64 _ _ (xor_lt _ _ (and_lt _ _ bb) (and_lt _ _ bc)) (and_lt _ _ bc)⟩

theorem toV_list (H : List Nat) (h : H.length = 8) : (toV H).list = H := by
  apply List.ext_getElem
  · rw [h]; rfl
  · intro i h1 h2
    have hi : i < 8 := by rw [← h]; exact h2
    have key : ∀ j, j < 8 → (toV H).list[j]? = some (H.getD j 0) := by
      intro j hj
      match j, hj with
      | 0, _ => rfl
      | 1, _ => rfl
      | 2, _ => rfl
      | 3, _ => rfl
      | 4, _ => rfl
      | 5, _ => rfl
      | 6, _ => rfl
      | 7, _ => rfl
    have k := key i hi
    rw [List.getElem?_eq_getElem h1, getD_at _ _ h2] at k
    exact Option.some.inj k
theorem toV_ok (H : List Nat) (h : H.length = 8) (hb : ∀ x ∈ H, x < 4294967296) : (toV H).ok := by
  have key : ∀ j, j < 8 → H.getD j 0 < 4294967296 := by
    intro j hj; rw [getD_at _ _ (by omega)]; exact hb _ (List.getElem_mem _)
  exact ⟨key 0 (by decide), key 1 (by decide), key 2 (by decide), key 3 (by decide), key 4 (by decide), key 5 (by decide), key 6 (by decide), key 7 (by decide)⟩

/-- A round's memory. -/
structure Rel7 (w : World) (gh gk B : Nat) (HH SL : List Nat) (g2 cap2 gv capv : Nat) (v : V) (wr : World) : Prop where
  r : RefAt w gh gk B HH wr
  s : W64 B wr g2 cap2 SL
  v : W64 B wr gv capv v.list
theorem Rel7.drewN {w : World} {gh gk B : Nat} {HH SL : List Nat} {g2 cap2 gv capv : Nat} {v : V} {wr : World} (h : Rel7 w gh gk B HH SL g2 cap2 gv capv v wr) (n : Nat) : Rel7 w gh gk B HH SL g2 cap2 gv capv v (wr.drewN n) :=
  ⟨h.r.step (Mod.drewN (Mod.refl _ _) n), h.s.kept (S := fun _ => False) (Mod.drewN (Mod.refl _ _) n) (fun h => h), h.v.kept (S := fun _ => False) (Mod.drewN (Mod.refl _ _) n) (fun h => h)⟩
theorem Rel7.next {w : World} {gh gk B : Nat} {HH SL : List Nat} {g2 cap2 gv capv : Nat} {v u : V} {wr : World} (h : Rel7 w gh gk B HH SL g2 cap2 gv capv v wr) (a : List Nat) (ha : a = u.list) :
    Rel7 w gh gk B HH SL g2 cap2 wr.heap.size 8 u (wr.alloc (.cells (nums .u64 a).toArray 22 (0, 0))) := by
  subst ha
  have hm : Mod (fun i => B ≤ i) wr (wr.alloc (.cells (nums .u64 u.list).toArray 22 (0, 0))) := (Mod.refl _ _).alloc _
  exact ⟨h.r.step hm, h.s.kept (S := fun _ => False) ((Mod.refl _ _).alloc _) (fun h => h), W64.fresh wr u.list h.r.b (by simp [V.list, maxLen])⟩

theorem Rel7.cells {w : World} {gh gk B : Nat} {HH SL : List Nat} {g2 cap2 gv capv a b c d e f g h : Nat} {wr : World} (hX : Rel7 w gh gk B HH SL g2 cap2 gv capv ⟨a, b, c, d, e, f, g, h⟩ wr) :
    wr.cell? ⟨gv, 0, none⟩ = some (.int .u64 (a : Int)) ∧ wr.cell? ⟨gv, 1, none⟩ = some (.int .u64 (b : Int)) ∧ wr.cell? ⟨gv, 2, none⟩ = some (.int .u64 (c : Int)) ∧ wr.cell? ⟨gv, 3, none⟩ = some (.int .u64 (d : Int)) ∧
    wr.cell? ⟨gv, 4, none⟩ = some (.int .u64 (e : Int)) ∧ wr.cell? ⟨gv, 5, none⟩ = some (.int .u64 (f : Int)) ∧ wr.cell? ⟨gv, 6, none⟩ = some (.int .u64 (g : Int)) ∧ wr.cell? ⟨gv, 7, none⟩ = some (.int .u64 (h : Int)) :=
  ⟨hX.v.cell 0 (by simp [V.list]), hX.v.cell 1 (by simp [V.list]), hX.v.cell 2 (by simp [V.list]), hX.v.cell 3 (by simp [V.list]), hX.v.cell 4 (by simp [V.list]), hX.v.cell 5 (by simp [V.list]), hX.v.cell 6 (by simp [V.list]), hX.v.cell 7 (by simp [V.list])⟩

/-- The sum of a round. -/
theorem t_sum (e f g h k w z1 z2 : Nat) (h1 : z1 = S1 e) (h2 : z2 = ch e f g) (a b c d : Nat) : (h + z1 + z2 + k + w) % 4294967296 = tOf ⟨a, b, c, d, e, f, g, h⟩ k w := by
  rw [tOf_sum, h1, h2]
theorem u_sum (a b c z1 z2 d e f g h : Nat) (h1 : z1 = S0 a) (h2 : z2 = maj a b c) : (z1 + z2) % 4294967296 = uOf ⟨a, b, c, d, e, f, g, h⟩ := by
  simp only [uOf]; rw [h1, h2]
end Go.Proofs.YtiegakeacghnfaaDoor

namespace Go.Proofs.YtiegakeacghnfaaDoor
open Go.RowKit

theorem lit_str {P : Program} (x : Nat) (w : World) (hs : P.underlying 43 = some (.slice 5)) (he : P.underlying 5 = some (.int .u8)) (hd : P.underlying 9 = some .string) :
    (convert 43 9 (.slice (some ⟨w.heap.size, 0, none⟩) 1 1)).run P (w.alloc (.cells #[.int .u8 (x : Int)] 5)) = .ok (.string (bytesOf [x])) (w.alloc (.cells #[.int .u8 (x : Int)] 5)) := by
  rw [convLit1 43 9 5 hs he hd]; simp [bytesOf]
theorem lit_str4 {P : Program} (a b c d : Nat) (w : World) (hs : P.underlying 43 = some (.slice 5)) (he : P.underlying 5 = some (.int .u8)) (hd : P.underlying 9 = some .string) :
    (convert 43 9 (.slice (some ⟨w.heap.size, 0, none⟩) 4 4)).run P (w.alloc (.cells #[.int .u8 (a : Int), .int .u8 (b : Int), .int .u8 (c : Int), .int .u8 (d : Int)] 5)) = .ok (.string (bytesOf [a, b, c, d])) (w.alloc (.cells #[.int .u8 (a : Int), .int .u8 (b : Int), .int .u8 (c : Int), .int .u8 (d : Int)] 5)) := by
  have h := run_convert_bytes_arg (P := P) (w.alloc (.cells #[.int .u8 (a : Int), .int .u8 (b : Int), .int .u8 (c : Int), .int .u8 (d : Int)] 5)) 43 5 hs he w.heap.size 0 4 4 [(a : Int), (b : Int), (c : Int), (d : Int)] rfl (fun i hi => by
    unfold World.cell?
    rw [heap_alloc_new]
    match i, hi with
    | 0, _ => rfl
    | 1, _ => rfl
    | 2, _ => rfl
    | 3, _ => rfl) 9 hd
  rw [h]; simp [strOfNums, bytesOf]
/-- While the block's words are added. -/
def HRel (w : World) (gh gk B : Nat) (HH BL : List Nat) (k : Nat) (wr : World) : Prop := ∃ Hp, RefAt w gh gk B Hp wr ∧ Hp.length = 8 ∧ Hp.take k = BL.take k ∧ Hp.drop k = HH.drop k
theorem bytesOf_app (a b : List Nat) : bytesOf a ++ bytesOf b = bytesOf (a ++ b) := by
  apply ByteArray.ext; simp [bytesOf]
theorem bytesOf_nats (s : List UInt8) : bytesOf (nats s) = ⟨s.toArray⟩ := by simp [bytesOf, nats, Function.comp_def]

/-- While it is padded. -/
def Pad (m : List Nat) (k : Nat) : List Nat := m ++ [128] ++ List.replicate k 0
theorem Pad_len (m : List Nat) (k : Nat) : (Pad m k).length = m.length + 1 + k := by simp [Pad]; omega
theorem Pad_succ (m : List Nat) (k : Nat) : Pad m (k + 1) = Pad m k ++ [0] := by simp [Pad, List.replicate_succ']

theorem cut_bytes (N k : Nat) (hk : k < 8) : bytesOf [N * 8 / 256 ^ k % 256] ++ bytesOf ((lenBytes N 8).drop (8 - k)) = bytesOf ((lenBytes N 8).drop (8 - (k + 1))) := by
  rw [bytesOf_app, show 8 - (k + 1) = 7 - k by omega, lenBytes_from N k hk]; rfl
theorem lenBytes_drop (N k : Nat) (hk : k ≤ 8) : ((lenBytes N 8).drop (8 - k)).length = k := by rw [List.length_drop, lenBytes_len]; omega

/-- Block n of a text. -/
def blk (n : Nat) : Code → Option Code
  | .block m c => if m = n then some (.block m c) else blk n c
  | .loop c => blk n c
  | .seq a b => match blk n a with
    | some c => some c
    | none => blk n b
  | .scope c => blk n c
  | .cond _ a b => match blk n a with
    | some c => some c
    | none => blk n b
  | _ => none
noncomputable def blkOf (n : Nat) : Code := (Tryd.f41.body.bind (blk n)).getD .skip
end Go.Proofs.YtiegakeacghnfaaDoor

namespace Go.Proofs.YtiegakeacghnfaaDoor
open Go.RowKit
set_option maxHeartbeats 40000000 in
set_option maxRecDepth 100000 in
theorem sixteen {x2 x3 x4 x5 x6 x7 x11 x12 x13 x14 x15 x16 x17 x18 x19 x20 x21 x22 x23 x24 x28 x29 x30 x31 x32 x33 x34 x35 x36 x37 x38 x39 x40 x41 x42 x43 x44 x45 x46 x47 x48 x49 x50 x51 x52 x53 x54 x55 x56 x57 x58 x59 x60 x61 x62 x63 x64 x65 x66 x67 x68 x69 x70 x71 x72 x73 x74 x75 x76 x77 x78 x79 x80 x81 x82 x83 x84 x85 x86 x87 x88 x89 x90 x91 x92 x93 x94 x95 x96 x97 x98 x99 x100 x101 x102 x103 x104 x105 x106 x107 x108 x109 x110 x111 x112 x113 x114 x115 x116 x117 x118 x119 x120 x121 x122 x123 x124 x125 x126 x127 x128 x129 x130 x131 x132 x133 x134 x135 x136 x137 x138 x139 x140 x141 x142 x143 x144 x145 x146 x147 x148 x149 x150 x151 x152 x153 x154 x155 x156 x157 x158 x159 x160 x161 x162 x163 x164 x165 x166 x167 x168 x169 x170 x171 x172 x173 x174 x175 x176 x177 x178 x179 x180 x181 x182 x183 x184 x185 x186 x187 x188 x189 x190 x191 x192 x193 x194 x195 x196 x197 x198 x199 x200 x201 x202 x203 x204 x205 x206 x207 x208 x209 x210 x211 x212 x213 x214 x215 x216 x217 x218 x219 x220 x221 x222 x223 x224 x225 x226 x227 x228 x229 x230 x231 x232 x233 x234 x235 x236 x237 x238 x239 x240 x241 x242 x243 x244 x245 x246 x247 x248 x249 x250 x251 x252 x253 x254 x255 x256 x257 x258 x259 x260 x261 x262 x263 x264 x265 x266 x267 x268 x269 x270 x271 x272 x273 x274 x275 x276 x277 x278 x279 x280 x281 x282 x283 x284 x285 x286 x287 x288 x289 x290 x291 x292 x293 x294 x295 x296 x297 x298 x299 : Value} (w W : World) (p L HH : List Nat) (gh gk B g0 at' : Nat) (hps : (bytesOf p).size = p.length) (hpn : p.length ≤ 2147483648) (hpb : ∀ x ∈ p, x < 256) (hat64 : at' + 64 ≤ p.length) (hLl : L.length = 64) (hLb : ∀ x ∈ L, x < 256) (hLp : ∀ i, i < 64 → L.getD i 0 = p.getD (at' + i) 0) (hV : W64 B W g0 0 []) (hR1 : RefAt w gh gk B HH W)
    {J K' : Act → World → Prop} {Q' : Exit → Act → World → Prop} (hJ : ∀ a' w', (∃ u9 u10 u11 u12 u69 u70 u71 u72 u73 u74 u75 u76 u77 u78 u79 u80 u81 u82 u83 u84 u85 u86 u87 u88 u89 u90 u91 u92 : Value, (∃ g cap, u9 = .slice (some ⟨g, 0, none⟩) 16 cap ∧ W64 B w' g cap (schedTo L 16) ∧ RefAt w gh gk B HH w') ∧ a' = ⟨#[.string (bytesOf p), undef, x2, x3, x4, x5, x6, x7, .int .i64 (at' : Int), u9, u10, u11, u12, x13, x14, x15, x16, x17, x18, x19, x20, x21, x22, x23, x24, undef, undef, undef, x28, x29, x30, x31, x32, x33, x34, x35, x36, x37, x38, x39, x40, x41, x42, x43, x44, x45, x46, x47, x48, x49, x50, x51, x52, x53, x54, x55, x56, x57, x58, x59, x60, x61, x62, x63, x64, x65, x66, x67, x68, u69, u70, u71, u72, u73, u74, u75, u76, u77, u78, u79, u80, u81, u82, u83, u84, u85, u86, u87, u88, u89, u90, u91, u92, x93, x94, x95, x96, x97, x98, x99, x100, x101, x102, x103, x104, x105, x106, x107, x108, x109, x110, x111, x112, x113, x114, x115, x116, x117, x118, x119, x120, x121, x122, x123, x124, x125, x126, x127, x128, x129, x130, x131, x132, x133, x134, x135, x136, x137, x138, x139, x140, x141, x142, x143, x144, x145, x146, x147, x148, x149, x150, x151, x152, x153, x154, x155, x156, x157, x158, x159, x160, x161, x162, x163, x164, x165, x166, x167, x168, x169, x170, x171, x172, x173, x174, x175, x176, x177, x178, x179, x180, x181, x182, x183, x184, x185, x186, x187, x188, x189, x190, x191, x192, x193, x194, x195, x196, x197, x198, x199, x200, x201, x202, x203, x204, x205, x206, x207, x208, x209, x210, x211, x212, x213, x214, x215, x216, x217, x218, x219, x220, x221, x222, x223, x224, x225, x226, x227, x228, x229, x230, x231, x232, x233, x234, x235, x236, x237, x238, x239, x240, x241, x242, x243, x244, x245, x246, x247, x248, x249, x250, x251, x252, x253, x254, x255, x256, x257, x258, x259, x260, x261, x262, x263, x264, x265, x266, x267, x268, x269, x270, x271, x272, x273, x274, x275, x276, x277, x278, x279, x280, x281, x282, x283, x284, x285, x286, x287, x288, x289, x290, x291, x292, x293, x294, x295, x296, x297, x298, x299, undef, undef, undef, undef, undef, undef, undef, undef, undef, undef, undef, undef, undef, undef, undef, undef, undef, undef, undef, undef, undef, undef, undef, undef, undef, undef], []⟩) → J a' w') (hM : ∀ a' w', Met J a' w' → K' a' w') :
    Code.wp Tryd.prog (blkOf 6) (Exit.then K' Q') ⟨#[.string (bytesOf p), undef, x2, x3, x4, x5, x6, x7, .int .i64 (at' : Int), .slice (some ⟨g0, 0, none⟩) 0 0, .int .i64 0, x11, x12, x13, x14, x15, x16, x17, x18, x19, x20, x21, x22, x23, x24, undef, undef, undef, x28, x29, x30, x31, x32, x33, x34, x35, x36, x37, x38, x39, x40, x41, x42, x43, x44, x45, x46, x47, x48, x49, x50, x51, x52, x53, x54, x55, x56, x57, x58, x59, x60, x61, x62, x63, x64, x65, x66, x67, x68, x69, x70, x71, x72, x73, x74, x75, x76, x77, x78, x79, x80, x81, x82, x83, x84, x85, x86, x87, x88, x89, x90, x91, x92, x93, x94, x95, x96, x97, x98, x99, x100, x101, x102, x103, x104, x105, x106, x107, x108, x109, x110, x111, x112, x113, x114, x115, x116, x117, x118, x119, x120, x121, x122, x123, x124, x125, x126, x127, x128, x129, x130, x131, x132, x133, x134, x135, x136, x137, x138, x139, x140, x141, x142, x143, x144, x145, x146, x147, x148, x149, x150, x151, x152, x153, x154, x155, x156, x157, x158, x159, x160, x161, x162, x163, x164, x165, x166, x167, x168, x169, x170, x171, x172, x173, x174, x175, x176, x177, x178, x179, x180, x181, x182, x183, x184, x185, x186, x187, x188, x189, x190, x191, x192, x193, x194, x195, x196, x197, x198, x199, x200, x201, x202, x203, x204, x205, x206, x207, x208, x209, x210, x211, x212, x213, x214, x215, x216, x217, x218, x219, x220, x221, x222, x223, x224, x225, x226, x227, x228, x229, x230, x231, x232, x233, x234, x235, x236, x237, x238, x239, x240, x241, x242, x243, x244, x245, x246, x247, x248, x249, x250, x251, x252, x253, x254, x255, x256, x257, x258, x259, x260, x261, x262, x263, x264, x265, x266, x267, x268, x269, x270, x271, x272, x273, x274, x275, x276, x277, x278, x279, x280, x281, x282, x283, x284, x285, x286, x287, x288, x289, x290, x291, x292, x293, x294, x295, x296, x297, x298, x299, undef, undef, undef, undef, undef, undef, undef, undef, undef, undef, undef, undef, undef, undef, undef, undef, undef, undef, undef, undef, undef, undef, undef, undef, undef, undef], []⟩ W := by
  conv => arg 2; whnf
  go_wp2_with fail
  go_loopw [9, 10] (fun s9 s10 wr => ∃ k g cap, k ≤ 16 ∧ s9 = .slice (some ⟨g, 0, none⟩) k cap ∧ s10 = .int .i64 (k : Int) ∧ W64 B wr g cap (schedTo L k) ∧ RefAt w gh gk B HH wr) (fun _ i _ => 16 - (intOf i).toNat)
  case atStart => exact ⟨0, g0, 0, by omega, rfl, rfl, hV, hR1⟩
  case round =>
    clear hV hR1
    obtain ⟨k, g, cap, hk, rfl, rfl, hV, hR⟩ := hrel
    by_cases hk16 : k < 16
    · as_aux_lemma =>
      have hkl := schedTo_len L k
      have hs1 := sched_first L k hk16
      have h4 := wpart_four L k
      have hlp : ∀ t, t < 4 → L.getD (4 * k + t) 0 = p.getD (at' + 4 * k + t) 0 := by intro t ht; rw [hLp _ (by omega), Nat.add_assoc]
      have hdb : ∀ t, t < 4 → L.getD (4 * k + t) 0 < 256 := by
        intro t ht; rw [getD_at _ _ (by omega)]; exact hLb _ (List.getElem_mem _)
      have hpb4 := fun t ht => wpart_lt L hLb k t ht
      generalize w16 L k = x16 at hs1 h4
      go_upto_block 8 with fail
      go_cut [11] from 69 to 92 (fun s11 wx => s11 = .int .u64 (x16 : Int) ∧ wr = wx)
      case first =>
        go_wp2_with fail
        go_loopw [11, 12] (fun s11 s12 wy => ∃ t : Nat, t ≤ 4 ∧ s11 = .int .u64 (wpart L k t : Int) ∧ s12 = .int .i64 (t : Int) ∧ wr = wy) (fun _ i _ => 4 - (intOf i).toNat)
        case atStart => exact ⟨0, by omega, rfl, rfl, rfl⟩
        case round =>
          obtain ⟨t, ht, rfl, rfl, rfl⟩ := hrel
          by_cases ht4 : t < 4
          · obtain ⟨d, hd⟩ : ∃ d, d = L.getD (4 * k + t) 0 := ⟨_, rfl⟩
            have hidx : ∀ w : World, (Instr.index 9 (.string (bytesOf p)) (.int .i64 ((at' : Int) + 4 * k + t))).run Tryd.prog w = .ok (.int .u8 (d : Int)) w := by
              intro w; rw [hd, hlp t ht4]; exact str_index p hpb (at' + 4 * k + t) (by omega) _ (by omega) w
            have hd256 : d < 256 := by rw [hd]; exact hdb t ht4
            have hy := hpb4 t (by omega)
            have hy3 : wpart L k t < 16777216 := Nat.lt_of_lt_of_le hy (Nat.le_trans (Nat.pow_le_pow_right (by decide) (show t ≤ 3 by omega)) (by decide))
            have hnx : wpart L k (t + 1) = wpart L k t * 256 + d := by rw [hd]; rfl
            have Hnx := Lib.hid hnx
            clear hnx hd hy
            generalize wpart L k t = y at hy3 Hnx ⊢
            have q1 : IntKind.i64.wrap (4 * (k : Int)) = 4 * (k : Int) := by rw [IntKind.wrap_i64]; omega
            have q2 : IntKind.i64.wrap ((at' : Int) + 4 * k) = (at' : Int) + 4 * k := by rw [IntKind.wrap_i64]; omega
            have q3 : IntKind.i64.wrap ((at' : Int) + 4 * k + t) = (at' : Int) + 4 * k + t := by rw [IntKind.wrap_i64]; omega
            have q4 : IntKind.u64.wrap ((y : Int) * 256) = (y : Int) * 256 := by rw [IntKind.wrap_u64]; omega
            have q5 : IntKind.u64.wrap ((y : Int) * 256 + d) = (y : Int) * 256 + d := by rw [IntKind.wrap_u64]; omega
            have q6 : IntKind.u64.wrap (d : Int) = d := by rw [IntKind.wrap_u64]; omega
            go_wp2_with fail
            go_roundw
            case rel => exact ⟨t + 1, by omega, by rw [Hnx.out]; go_num, by go_num, trivial⟩
            case measure => simp [intOf]; omega
          · obtain rfl : t = 4 := by omega
            rw [h4]
            go_wp2_with fail
            go_meet
            exact ⟨rfl, rfl⟩
      case rest =>
      obtain ⟨rfl, rfl⟩ := hcut
      go_wp2_with (at_builtin; refine wpList_push64 rfl _ _ rfl B g cap k x16 _ hkl rfl hV rfl (by omega) hR.b ?_; intro g' cap' w' hV' hM')
      go_roundw
      case rel => exact ⟨k + 1, g', cap', by omega, rfl, by go_num, by rw [hs1]; exact hV', hR.step hM'⟩
      case measure => simp [intOf]; omega
    · obtain rfl : k = 16 := by omega
      go_wp2_with fail
      go_meet
      exact ⟨g, cap, rfl, hV, hR⟩
end Go.Proofs.YtiegakeacghnfaaDoor

namespace Go.Proofs.YtiegakeacghnfaaDoor
open Go.RowKit
set_option maxHeartbeats 40000000 in
set_option maxRecDepth 100000 in
theorem later {x0 x2 x3 x4 x5 x6 x7 x8 x10 x11 x12 x14 x15 x16 x17 x18 x19 x20 x21 x22 x23 x24 x28 x29 x30 x31 x32 x33 x34 x35 x36 x37 x38 x39 x40 x41 x42 x43 x44 x45 x46 x47 x48 x49 x50 x51 x52 x53 x54 x55 x56 x57 x58 x59 x60 x61 x62 x63 x64 x65 x66 x67 x68 x69 x70 x71 x72 x73 x74 x75 x76 x77 x78 x79 x80 x81 x82 x83 x84 x85 x86 x87 x88 x89 x90 x91 x92 x93 x94 x95 x96 x97 x98 x99 x100 x101 x102 x103 x104 x105 x106 x107 x108 x109 x110 x111 x112 x113 x114 x115 x116 x117 x118 x119 x120 x121 x122 x123 x124 x125 x126 x127 x128 x129 x130 x131 x132 x133 x134 x135 x136 x137 x138 x139 x140 x141 x142 x143 x144 x145 x146 x147 x148 x149 x150 x151 x152 x153 x154 x155 x156 x157 x158 x159 x160 x161 x162 x163 x164 x165 x166 x167 x168 x169 x170 x171 x172 x173 x174 x175 x176 x177 x178 x179 x180 x181 x182 x183 x184 x185 x186 x187 x188 x189 x190 x191 x192 x193 x194 x195 x196 x197 x198 x199 x200 x201 x202 x203 x204 x205 x206 x207 x208 x209 x210 x211 x212 x213 x214 x215 x216 x217 x218 x219 x220 x221 x222 x223 x224 x225 x226 x227 x228 x229 x230 x231 x232 x233 x234 x235 x236 x237 x238 x239 x240 x241 x242 x243 x244 x245 x246 x247 x248 x249 x250 x251 x252 x253 x254 x255 x256 x257 x258 x259 x260 x261 x262 x263 x264 x265 x266 x267 x268 x269 x270 x271 x272 x273 x274 x275 x276 x277 x278 x279 x280 x281 x282 x283 x284 x285 x286 x287 x288 x289 x290 x291 x292 x293 x294 x295 x296 x297 x298 x299 : Value} (w W : World) (L HH : List Nat) (gh gk B g1 cap1 : Nat) (hLb : ∀ x ∈ L, x < 256) (hV1 : W64 B W g1 cap1 (schedTo L 16)) (hR2 : RefAt w gh gk B HH W)
    {J K' : Act → World → Prop} {Q' : Exit → Act → World → Prop} (hJ : ∀ a' w', (∃ u9 u13 u14 u15 u93 u94 u95 u96 u97 u98 u99 u100 u101 u102 u103 u104 u105 u106 u107 u108 u109 u110 u111 u112 u113 u114 u115 u116 u117 u118 u119 u120 u121 u122 u123 u124 u125 u126 u127 u128 u129 u130 u131 u132 u133 u134 u135 u136 u137 u138 u139 u140 u141 u142 u143 u144 u145 u146 u147 u148 u149 u150 u151 u152 u153 u154 u155 : Value, (∃ g cap, u9 = .slice (some ⟨g, 0, none⟩) 64 cap ∧ W64 B w' g cap (schedTo L 64) ∧ RefAt w gh gk B HH w') ∧ a' = ⟨#[x0, undef, x2, x3, x4, x5, x6, x7, x8, u9, x10, x11, x12, u13, u14, u15, x16, x17, x18, x19, x20, x21, x22, x23, x24, undef, undef, undef, x28, x29, x30, x31, x32, x33, x34, x35, x36, x37, x38, x39, x40, x41, x42, x43, x44, x45, x46, x47, x48, x49, x50, x51, x52, x53, x54, x55, x56, x57, x58, x59, x60, x61, x62, x63, x64, x65, x66, x67, x68, x69, x70, x71, x72, x73, x74, x75, x76, x77, x78, x79, x80, x81, x82, x83, x84, x85, x86, x87, x88, x89, x90, x91, x92, u93, u94, u95, u96, u97, u98, u99, u100, u101, u102, u103, u104, u105, u106, u107, u108, u109, u110, u111, u112, u113, u114, u115, u116, u117, u118, u119, u120, u121, u122, u123, u124, u125, u126, u127, u128, u129, u130, u131, u132, u133, u134, u135, u136, u137, u138, u139, u140, u141, u142, u143, u144, u145, u146, u147, u148, u149, u150, u151, u152, u153, u154, u155, x156, x157, x158, x159, x160, x161, x162, x163, x164, x165, x166, x167, x168, x169, x170, x171, x172, x173, x174, x175, x176, x177, x178, x179, x180, x181, x182, x183, x184, x185, x186, x187, x188, x189, x190, x191, x192, x193, x194, x195, x196, x197, x198, x199, x200, x201, x202, x203, x204, x205, x206, x207, x208, x209, x210, x211, x212, x213, x214, x215, x216, x217, x218, x219, x220, x221, x222, x223, x224, x225, x226, x227, x228, x229, x230, x231, x232, x233, x234, x235, x236, x237, x238, x239, x240, x241, x242, x243, x244, x245, x246, x247, x248, x249, x250, x251, x252, x253, x254, x255, x256, x257, x258, x259, x260, x261, x262, x263, x264, x265, x266, x267, x268, x269, x270, x271, x272, x273, x274, x275, x276, x277, x278, x279, x280, x281, x282, x283, x284, x285, x286, x287, x288, x289, x290, x291, x292, x293, x294, x295, x296, x297, x298, x299, undef, undef, undef, undef, undef, undef, undef, undef, undef, undef, undef, undef, undef, undef, undef, undef, undef, undef, undef, undef, undef, undef, undef, undef, undef, undef], []⟩) → J a' w') (hM : ∀ a' w', Met J a' w' → K' a' w') :
    Code.wp Tryd.prog (blkOf 10) (Exit.then K' Q') ⟨#[x0, undef, x2, x3, x4, x5, x6, x7, x8, .slice (some ⟨g1, 0, none⟩) 16 cap1, x10, x11, x12, .int .i64 16, x14, x15, x16, x17, x18, x19, x20, x21, x22, x23, x24, undef, undef, undef, x28, x29, x30, x31, x32, x33, x34, x35, x36, x37, x38, x39, x40, x41, x42, x43, x44, x45, x46, x47, x48, x49, x50, x51, x52, x53, x54, x55, x56, x57, x58, x59, x60, x61, x62, x63, x64, x65, x66, x67, x68, x69, x70, x71, x72, x73, x74, x75, x76, x77, x78, x79, x80, x81, x82, x83, x84, x85, x86, x87, x88, x89, x90, x91, x92, x93, x94, x95, x96, x97, x98, x99, x100, x101, x102, x103, x104, x105, x106, x107, x108, x109, x110, x111, x112, x113, x114, x115, x116, x117, x118, x119, x120, x121, x122, x123, x124, x125, x126, x127, x128, x129, x130, x131, x132, x133, x134, x135, x136, x137, x138, x139, x140, x141, x142, x143, x144, x145, x146, x147, x148, x149, x150, x151, x152, x153, x154, x155, x156, x157, x158, x159, x160, x161, x162, x163, x164, x165, x166, x167, x168, x169, x170, x171, x172, x173, x174, x175, x176, x177, x178, x179, x180, x181, x182, x183, x184, x185, x186, x187, x188, x189, x190, x191, x192, x193, x194, x195, x196, x197, x198, x199, x200, x201, x202, x203, x204, x205, x206, x207, x208, x209, x210, x211, x212, x213, x214, x215, x216, x217, x218, x219, x220, x221, x222, x223, x224, x225, x226, x227, x228, x229, x230, x231, x232, x233, x234, x235, x236, x237, x238, x239, x240, x241, x242, x243, x244, x245, x246, x247, x248, x249, x250, x251, x252, x253, x254, x255, x256, x257, x258, x259, x260, x261, x262, x263, x264, x265, x266, x267, x268, x269, x270, x271, x272, x273, x274, x275, x276, x277, x278, x279, x280, x281, x282, x283, x284, x285, x286, x287, x288, x289, x290, x291, x292, x293, x294, x295, x296, x297, x298, x299, undef, undef, undef, undef, undef, undef, undef, undef, undef, undef, undef, undef, undef, undef, undef, undef, undef, undef, undef, undef, undef, undef, undef, undef, undef, undef], []⟩ W := by
  conv => arg 2; whnf
  go_wp2_with fail
  go_loopw [9, 13] (fun s9 s13 wr => ∃ k g cap, 16 ≤ k ∧ k ≤ 64 ∧ s9 = .slice (some ⟨g, 0, none⟩) k cap ∧ s13 = .int .i64 (k : Int) ∧ W64 B wr g cap (schedTo L k) ∧ RefAt w gh gk B HH wr) (fun _ i _ => 64 - (intOf i).toNat)
  case atStart => exact ⟨16, g1, cap1, by omega, by omega, rfl, rfl, hV1, hR2⟩
  case round =>
    clear hV1 hR2
    obtain ⟨k, g, cap, hk0, hk, rfl, rfl, hV, hR⟩ := hrel
    by_cases hk64 : k < 64
    · as_aux_lemma =>
      have hkl := schedTo_len L k
      have hkb := schedTo_lt L hLb k
      have hnx := sched_next L k hk0
      rw [getD_at _ _ (by omega), getD_at _ _ (by omega), getD_at _ _ (by omega), getD_at _ _ (by omega)] at hnx
      have c16 := hV.cell (k - 16) (by omega)
      have c15 := hV.cell (k - 15) (by omega)
      have c7 := hV.cell (k - 7) (by omega)
      have c2 := hV.cell (k - 2) (by omega)
      have b16 := hkb _ (List.getElem_mem (show k - 16 < (schedTo L k).length by omega))
      have b15 := hkb _ (List.getElem_mem (show k - 15 < (schedTo L k).length by omega))
      have b7 := hkb _ (List.getElem_mem (show k - 7 < (schedTo L k).length by omega))
      have b2 := hkb _ (List.getElem_mem (show k - 2 < (schedTo L k).length by omega))
      obtain ⟨y16, e16⟩ : ∃ y, y = (schedTo L k)[k - 16]'(by omega) := ⟨_, rfl⟩
      obtain ⟨y15, e15⟩ : ∃ y, y = (schedTo L k)[k - 15]'(by omega) := ⟨_, rfl⟩
      obtain ⟨y7, e7⟩ : ∃ y, y = (schedTo L k)[k - 7]'(by omega) := ⟨_, rfl⟩
      obtain ⟨y2, e2⟩ : ∃ y, y = (schedTo L k)[k - 2]'(by omega) := ⟨_, rfl⟩
      rw [← e16] at c16 b16 hnx
      rw [← e15] at c15 b15 hnx
      rw [← e7] at c7 b7 hnx
      rw [← e2] at c2 b2 hnx
      obtain ⟨r0, z0, Hz0, lz0, x01, x02⟩ := s0_facts y15 b15
      obtain ⟨r1, z1, Hz1, lz1, x11, x12⟩ := s1_facts y2 b2
      rw [← Hz0.out, ← Hz1.out] at hnx
      obtain ⟨u, hu⟩ : ∃ u, u = (y16 + z0 + y7 + z1) % 4294967296 := ⟨_, rfl⟩
      rw [← hu] at hnx
      have i15 : (0 : Int) ≤ (k : Int) - 15 := by omega
      have j15 : (k : Int) - 15 < k := by omega
      have t15 : ((k : Int) - 15).toNat = k - 15 := by omega
      have i16 : (0 : Int) ≤ (k : Int) - 16 := by omega
      have j16 : (k : Int) - 16 < k := by omega
      have t16 : ((k : Int) - 16).toNat = k - 16 := by omega
      have i7 : (0 : Int) ≤ (k : Int) - 7 := by omega
      have j7 : (k : Int) - 7 < k := by omega
      have t7 : ((k : Int) - 7).toNat = k - 7 := by omega
      have i2 : (0 : Int) ≤ (k : Int) - 2 := by omega
      have j2 : (k : Int) - 2 < k := by omega
      have t2 : ((k : Int) - 2).toNat = k - 2 := by omega
      have v15 : IntKind.i64.wrap ((k : Int) - 15) = (k : Int) - 15 := by rw [IntKind.wrap_i64]; omega
      have v16 : IntKind.i64.wrap ((k : Int) - 16) = (k : Int) - 16 := by rw [IntKind.wrap_i64]; omega
      have v7 : IntKind.i64.wrap ((k : Int) - 7) = (k : Int) - 7 := by rw [IntKind.wrap_i64]; omega
      have v2 : IntKind.i64.wrap ((k : Int) - 2) = (k : Int) - 2 := by rw [IntKind.wrap_i64]; omega
      have Hnx := Lib.hid hnx
      have Hu := Lib.hid hu
      have C16 : Hid (∀ w : World, W64 B w g cap (schedTo L k) → w.cell? ⟨g, k - 16, none⟩ = some (.int .u64 (y16 : Int))) := Lib.hid (fun w h => by rw [e16]; exact h.cell (k - 16) (by omega))
      have C7 : Hid (∀ w : World, W64 B w g cap (schedTo L k) → w.cell? ⟨g, k - 7, none⟩ = some (.int .u64 (y7 : Int))) := Lib.hid (fun w h => by rw [e7]; exact h.cell (k - 7) (by omega))
      clear hnx hu e16 e15 e7 e2
      go_wp2_with fail
      go_quiet ((first | (go_at_call_of 56 (Value.int IntKind.i64 7); exact Calls.quiet_of_same (turn_q y15 7 _ b15 (by omega))) | (go_at_call_of 56 (Value.int IntKind.i64 18); exact Calls.quiet_of_same (turn_q y15 18 _ b15 (by omega))) | (go_at_call_of 57 (Value.int IntKind.i64 3); exact Calls.quiet_of_same (down3_q y15 _ b15))))
      have d16 : (wr.drewN nq).cell? ⟨g, k - 16, none⟩ = _ := c16
      have d7 : (wr.drewN nq).cell? ⟨g, k - 7, none⟩ = _ := c7
      have d2 : (wr.drewN nq).cell? ⟨g, k - 2, none⟩ = _ := c2
      have hVA := hV.kept (S := fun _ => False) (Mod.drewN (Mod.refl _ _) nq) (fun h => h)
      have hRA := hR.step (Mod.drewN (Mod.refl _ _) nq)
      generalize wr.drewN nq = wA at d16 d7 d2 hVA hRA ⊢
      clear c16 c15 c7 c2 hV hR x01 x02
      go_wp2_with fail
      go_quiet ((first | (go_at_call_of 56 (Value.int IntKind.i64 17); exact Calls.quiet_of_same (turn_q y2 17 _ b2 (by omega))) | (go_at_call_of 56 (Value.int IntKind.i64 19); exact Calls.quiet_of_same (turn_q y2 19 _ b2 (by omega))) | (go_at_call_of 57 (Value.int IntKind.i64 10); exact Calls.quiet_of_same (down10_q y2 _ b2))))
      have c16 : (wA.drewN nq).cell? ⟨g, k - 16, none⟩ = _ := d16
      have c7 : (wA.drewN nq).cell? ⟨g, k - 7, none⟩ = _ := d7
      have hV := hVA.kept (S := fun _ => False) (Mod.drewN (Mod.refl _ _) nq) (fun h => h)
      have hR := hRA.step (Mod.drewN (Mod.refl _ _) nq)
      generalize wA.drewN nq = wB at c16 c7 hV hR ⊢
      clear d16 d7 d2 hVA hRA x11 x12
      have o16 : (16 : Int) ≤ k := by omega
      have o7 : (7 : Int) ≤ k := by omega
      have o16' : 16 ≤ k := by omega
      have o7' : 7 ≤ k := by omega
      have s1 : IntKind.u64.wrap ((y16 : Int) + z0) = (y16 : Int) + z0 := by rw [IntKind.wrap_u64]; omega
      have s2 : IntKind.u64.wrap ((y16 : Int) + z0 + y7) = (y16 : Int) + z0 + y7 := by rw [IntKind.wrap_u64]; omega
      have s3 : IntKind.u64.wrap ((y16 : Int) + z0 + y7 + z1) = (y16 : Int) + z0 + y7 + z1 := by rw [IntKind.wrap_u64]; omega
      have s4 : ((y16 : Int) + z0 + y7 + z1) % 4294967296 = (u : Int) := by rw [Hu.out]; omega
      have s5 : ((y16 : Int) + z0 + y7 + z1).tmod 4294967296 = (u : Int) := by rw [Int.tmod_eq_emod_of_nonneg (by omega)]; exact s4
      go_wp2_with fail
      have hV2 : W64 B wB.drew g cap (schedTo L k) := hV.kept (S := fun _ => False) (Mod.drew (Mod.refl _ _)) (fun h => h)
      have hR2 : RefAt w gh gk B HH wB.drew := hR.step (Mod.drew (Mod.refl _ _))
      have HG0 : Hid ((fun j x w1 => RefAt w gh gk B HH w1 ∧ (j ≤ 1 → W64 B w1 g cap (schedTo L k)) ∧ (j = 1 → ∃ b, x = .slice (some ⟨b, 0, none⟩) 1 1 ∧ w1.cell? ⟨b, 0, none⟩ = some (.int .u64 (u : Int))) ∧ (2 ≤ j → ∃ g' cap', x = .slice (some ⟨g', 0, none⟩) (k + 1) cap' ∧ W64 B w1 g' cap' (schedTo L k ++ [u]))) 0 undef wB.drew) := Lib.hid ⟨hR2, fun _ => hV2, fun h => absurd h (by omega), fun h => absurd h (by omega)⟩
      clear hV hR hV2 hR2 c16 c7
      refine wp_region_chain (fun t v => match t with
        | 137 => v = .slice (some ⟨g, 0, none⟩) k cap
        | 138 => v = .slice (some ⟨g, 0, none⟩) k cap
        | 139 => v = .int .i64 (k : Int)
        | 140 => v = .int .i64 ((k : Int) - 16)
        | 141 => v = .pointer (some ⟨g, k - 16, none⟩)
        | 142 => v = .int .u64 (y16 : Int)
        | 143 => v = .int .u64 (z0 : Int)
        | 144 => v = .int .u64 ((y16 : Int) + z0)
        | 145 => v = .slice (some ⟨g, 0, none⟩) k cap
        | 146 => v = .int .i64 (k : Int)
        | 147 => v = .int .i64 ((k : Int) - 7)
        | 148 => v = .pointer (some ⟨g, k - 7, none⟩)
        | 149 => v = .int .u64 (y7 : Int)
        | 150 => v = .int .u64 ((y16 : Int) + z0 + y7)
        | 151 => v = .int .u64 (z1 : Int)
        | 152 => v = .int .u64 ((y16 : Int) + z0 + y7 + z1)
        | 153 => v = .int .u64 (u : Int)
        | _ => True) (fun j x w1 => RefAt w gh gk B HH w1 ∧ (j ≤ 1 → W64 B w1 g cap (schedTo L k)) ∧ (j = 1 → ∃ b, x = .slice (some ⟨b, 0, none⟩) 1 1 ∧ w1.cell? ⟨b, 0, none⟩ = some (.int .u64 (u : Int))) ∧ (2 ≤ j → ∃ g' cap', x = .slice (some ⟨g', 0, none⟩) (k + 1) cap' ∧ W64 B w1 g' cap' (schedTo L k ++ [u]))) [17, 18, 19] 326 (by kernel_rfl) (by decide +kernel) rfl (by decide +kernel) (by decide) (by decide) HG0.out (by
        refine OweAllC.cons (owesC_val 1 (by decide +kernel) (by decide) rfl rfl fun k' a w1 x hk ha hG hV => ?_) ?_
        · skip
          have h9 := ha.kp 2 19 _ 9 (by omega) rfl rfl rfl
          simp only [Act.eval] at h9
          exact ⟨.slice (some ⟨g, 0, none⟩) k cap, wanted_free rfl, by simp [execOp, go_sem, h9], rfl⟩
        refine OweAllC.cons (owesC_val 0 (by decide +kernel) (by decide) rfl rfl fun k' a w1 x hk ha hG hV => ?_) ?_
        · skip
          have h9 := ha.kp 2 19 _ 9 (by omega) rfl rfl rfl
          simp only [Act.eval] at h9
          exact ⟨.slice (some ⟨g, 0, none⟩) k cap, wanted_free rfl, by simp [execOp, go_sem, h9], rfl⟩
        refine OweAllC.cons (owesC_val 0 (by decide +kernel) (by decide) rfl rfl fun k' a w1 x hk ha hG hV => ?_) ?_
        · skip
          have h13 := ha.outer 13 (by decide +kernel)
          simp only [Act.eval] at h13
          exact ⟨.int .i64 (k : Int), wanted_free rfl, by simp [execOp, go_sem, h13], rfl⟩
        refine OweAllC.cons (owesC_val 0 (by decide +kernel) (by decide) rfl rfl fun k' a w1 x hk ha hG hV => ?_) ?_
        · skip
          have h139 : a.tmps.getD 139 undef = .int .i64 (k : Int) := hV.get 139 (by decide +kernel)
          exact ⟨.int .i64 ((k : Int) - 16), wanted_free rfl, by simp [execOp, go_sem, h139, v16], rfl⟩
        refine OweAllC.cons (owesC_val 0 (by decide +kernel) (by decide) rfl rfl fun k' a w1 x hk ha hG hV => ?_) ?_
        · skip
          have h138 : a.tmps.getD 138 undef = .slice (some ⟨g, 0, none⟩) k cap := hV.get 138 (by decide +kernel)
          have h140 : a.tmps.getD 140 undef = .int .i64 ((k : Int) - 16) := hV.get 140 (by decide +kernel)
          exact ⟨.pointer (some ⟨g, k - 16, none⟩), wanted_free rfl, by simp [execOp, go_sem, h138, h140, j16, t16, o16], rfl⟩
        refine OweAllC.cons (owesC_val 0 (by decide +kernel) (by decide) rfl rfl fun k' a w1 x hk ha hG hV => ?_) ?_
        · skip
          have h141 : a.tmps.getD 141 undef = .pointer (some ⟨g, k - 16, none⟩) := hV.get 141 (by decide +kernel)
          have cc := C16.out w1 (hG.2.1 (by omega))
          exact ⟨.int .u64 (y16 : Int), wanted_free rfl, by simp [execOp, go_sem, h141, cc], rfl⟩
        refine OweAllC.cons (owesC_val 0 (by decide +kernel) (by decide) rfl rfl fun k' a w1 x hk ha hG hV => ?_) ?_
        · skip
          have h14 := ha.outer 14 (by decide +kernel)
          simp only [Act.eval] at h14
          exact ⟨.int .u64 (z0 : Int), wanted_free rfl, by simp [execOp, go_sem, h14], rfl⟩
        refine OweAllC.cons (owesC_val 0 (by decide +kernel) (by decide) rfl rfl fun k' a w1 x hk ha hG hV => ?_) ?_
        · skip
          have h142 : a.tmps.getD 142 undef = .int .u64 (y16 : Int) := hV.get 142 (by decide +kernel)
          have h143 : a.tmps.getD 143 undef = .int .u64 (z0 : Int) := hV.get 143 (by decide +kernel)
          exact ⟨.int .u64 ((y16 : Int) + z0), wanted_free rfl, by simp [execOp, go_sem, h142, h143, s1], rfl⟩
        refine OweAllC.cons (owesC_val 0 (by decide +kernel) (by decide) rfl rfl fun k' a w1 x hk ha hG hV => ?_) ?_
        · skip
          have h9 := ha.kp 2 19 _ 9 (by omega) rfl rfl rfl
          simp only [Act.eval] at h9
          exact ⟨.slice (some ⟨g, 0, none⟩) k cap, wanted_free rfl, by simp [execOp, go_sem, h9], rfl⟩
        refine OweAllC.cons (owesC_val 0 (by decide +kernel) (by decide) rfl rfl fun k' a w1 x hk ha hG hV => ?_) ?_
        · skip
          have h13 := ha.outer 13 (by decide +kernel)
          simp only [Act.eval] at h13
          exact ⟨.int .i64 (k : Int), wanted_free rfl, by simp [execOp, go_sem, h13], rfl⟩
        refine OweAllC.cons (owesC_val 0 (by decide +kernel) (by decide) rfl rfl fun k' a w1 x hk ha hG hV => ?_) ?_
        · skip
          have h146 : a.tmps.getD 146 undef = .int .i64 (k : Int) := hV.get 146 (by decide +kernel)
          exact ⟨.int .i64 ((k : Int) - 7), wanted_free rfl, by simp [execOp, go_sem, h146, v7], rfl⟩
        refine OweAllC.cons (owesC_val 0 (by decide +kernel) (by decide) rfl rfl fun k' a w1 x hk ha hG hV => ?_) ?_
        · skip
          have h145 : a.tmps.getD 145 undef = .slice (some ⟨g, 0, none⟩) k cap := hV.get 145 (by decide +kernel)
          have h147 : a.tmps.getD 147 undef = .int .i64 ((k : Int) - 7) := hV.get 147 (by decide +kernel)
          exact ⟨.pointer (some ⟨g, k - 7, none⟩), wanted_free rfl, by simp [execOp, go_sem, h145, h147, j7, t7, o7], rfl⟩
        refine OweAllC.cons (owesC_val 0 (by decide +kernel) (by decide) rfl rfl fun k' a w1 x hk ha hG hV => ?_) ?_
        · skip
          have h148 : a.tmps.getD 148 undef = .pointer (some ⟨g, k - 7, none⟩) := hV.get 148 (by decide +kernel)
          have cc := C7.out w1 (hG.2.1 (by omega))
          exact ⟨.int .u64 (y7 : Int), wanted_free rfl, by simp [execOp, go_sem, h148, cc], rfl⟩
        refine OweAllC.cons (owesC_val 0 (by decide +kernel) (by decide) rfl rfl fun k' a w1 x hk ha hG hV => ?_) ?_
        · skip
          have h144 : a.tmps.getD 144 undef = .int .u64 ((y16 : Int) + z0) := hV.get 144 (by decide +kernel)
          have h149 : a.tmps.getD 149 undef = .int .u64 (y7 : Int) := hV.get 149 (by decide +kernel)
          exact ⟨.int .u64 ((y16 : Int) + z0 + y7), wanted_free rfl, by simp [execOp, go_sem, h144, h149, s2], rfl⟩
        refine OweAllC.cons (owesC_val 0 (by decide +kernel) (by decide) rfl rfl fun k' a w1 x hk ha hG hV => ?_) ?_
        · skip
          have h15 := ha.outer 15 (by decide +kernel)
          simp only [Act.eval] at h15
          exact ⟨.int .u64 (z1 : Int), wanted_free rfl, by simp [execOp, go_sem, h15], rfl⟩
        refine OweAllC.cons (owesC_val 0 (by decide +kernel) (by decide) rfl rfl fun k' a w1 x hk ha hG hV => ?_) ?_
        · skip
          have h150 : a.tmps.getD 150 undef = .int .u64 ((y16 : Int) + z0 + y7) := hV.get 150 (by decide +kernel)
          have h151 : a.tmps.getD 151 undef = .int .u64 (z1 : Int) := hV.get 151 (by decide +kernel)
          exact ⟨.int .u64 ((y16 : Int) + z0 + y7 + z1), wanted_free rfl, by simp [execOp, go_sem, h150, h151, s3], rfl⟩
        refine OweAllC.cons (owesC_val 0 (by decide +kernel) (by decide) rfl rfl fun k' a w1 x hk ha hG hV => ?_) ?_
        · skip
          have h152 : a.tmps.getD 152 undef = .int .u64 ((y16 : Int) + z0 + y7 + z1) := hV.get 152 (by decide +kernel)
          exact ⟨.int .u64 (u : Int), wanted_free rfl, by simp [execOp, go_sem, h152, s5], rfl⟩
        refine OweAllC.cons (owesC_mem 0 rfl rfl rfl fun a w1 x ha hG hx hV => ?_) ?_
        · skip
          have h153 : a.tmps.getD 153 undef = .int .u64 (u : Int) := hV.get 153 (by decide +kernel)
          have g153 : a.tmps[153]?.getD undef = .int .u64 (u : Int) := by simpa using h153
          obtain ⟨gR, gV, _, _⟩ := hG
          exact ⟨.slice (some ⟨w1.heap.size, 0, none⟩) 1 1, w1.alloc (.cells #[.int .u64 (u : Int)] 22), wanted_free rfl, by simp [execOp, go_sem, g153], trivial, gR.step ((Mod.refl _ _).alloc _), fun _ => (gV (by omega)).kept ((Mod.refl (fun _ => False) _).alloc _) (fun h => h), fun _ => ⟨w1.heap.size, rfl, by rw [cell_of_row _ w1.heap.size _ _ 22 (0, 0) (heap_alloc_new _ _)]; rfl⟩, fun h => absurd h (by omega)⟩
        refine OweAllC.cons (owesC_law 1 rfl rfl fun a w1 x ha hG hx hV => ?_) ?_
        · skip
          have h137 : a.tmps.getD 137 undef = .slice (some ⟨g, 0, none⟩) k cap := hV.get 137 (by decide +kernel)
          obtain ⟨gR, gV, gb, _⟩ := hG
          obtain ⟨b, rfl, hc⟩ := gb rfl
          have h154 : a.eval (.tmp 154) = _ := hx 0 17 _ 154 rfl rfl rfl rfl
          refine ⟨wanted_free rfl, fun K hK => ?_⟩
          exact push64_wp (.tmp 137) (.tmp 154) rfl B g cap k u b _ hkl h137 (gV (by omega)) h154 hc (by omega) gR.b (fun g' cap' w' h1 h2 => hK _ _ (fun t ht => by cases ht; trivial) ⟨gR.step h2, fun h => absurd h (by omega), fun h => absurd h (by omega), fun _ => ⟨g', cap', rfl, h1⟩⟩)
        refine OweAllC.cons (owesC_mem 2 rfl rfl rfl fun a w1 x ha hG hx hV => ?_) ?_
        · skip
          obtain ⟨gR, _, _, gn⟩ := hG
          obtain ⟨g', cap', rfl, h1⟩ := gn (by omega)
          have h155 := hx 1 18 _ 155 rfl rfl rfl rfl
          simp only [Act.eval] at h155
          exact ⟨.slice (some ⟨g', 0, none⟩) (k + 1) cap', w1, wanted_free rfl, by simp [execOp, go_sem, h155], trivial, gR, fun h => absurd h (by omega), fun h => absurd h (by omega), fun _ => ⟨g', cap', rfl, h1⟩⟩
        exact OweAllC.nil
        ) ?_
      intro f wz xz hG hx hv
      have e9 : f 9 = xz := hx 2 19 _ 9 rfl rfl rfl rfl
      refine moves_back (P := Tryd.prog) (ops := #[]) f _ _ _ ?_
      simp only [dsts, List.filterMap_cons, List.filterMap_nil, List.map_cons, List.map_nil]
      rw [e9]
      clear hv hx
      unfold mv
      clear e9
      obtain ⟨gR, _, _, gn⟩ := hG
      obtain ⟨g', cap', rfl, hV'⟩ := gn (by decide)
      clear gn s1 s2 s3 s4 s5 HG0
      go_wp2_with fail
      go_roundw
      case rel => exact ⟨k + 1, g', cap', by omega, by omega, rfl, by go_num, by rw [Hnx.out]; exact hV', gR⟩
      case measure => simp [intOf]; omega
    · obtain rfl : k = 64 := by omega
      go_wp2_with fail
      go_meet
      exact ⟨g, cap, rfl, hV, hR⟩
end Go.Proofs.YtiegakeacghnfaaDoor

namespace Go.Proofs.YtiegakeacghnfaaDoor
open Go.RowKit
set_option maxRecDepth 20000 in
theorem build8 {o : Oper} {a : Act} {w : World} (ho : o.op = .buildSlice 84 8 #[(0, .tmp 255), (1, .tmp 258), (2, .tmp 261), (3, .tmp 264), (4, .tmp 270), (5, .tmp 273), (6, .tmp 276), (7, .tmp 279)]) (x0 x1 x2 x3 x4 x5 x6 x7 : Int)
    (h0 : a.tmps.getD 255 undef = .int .u64 x0) (h1 : a.tmps.getD 258 undef = .int .u64 x1) (h2 : a.tmps.getD 261 undef = .int .u64 x2) (h3 : a.tmps.getD 264 undef = .int .u64 x3) (h4 : a.tmps.getD 270 undef = .int .u64 x4) (h5 : a.tmps.getD 273 undef = .int .u64 x5) (h6 : a.tmps.getD 276 undef = .int .u64 x6) (h7 : a.tmps.getD 279 undef = .int .u64 x7) :
    (execOp a.eval o).run Tryd.prog w = .ok (.value (.slice (some ⟨w.heap.size, 0, none⟩) 8 8)) (w.alloc (.cells #[.int .u64 x0, .int .u64 x1, .int .u64 x2, .int .u64 x3, .int .u64 x4, .int .u64 x5, .int .u64 x6, .int .u64 x7] 22)) := by
  have e (k : Nat) (v : Value) (h : a.tmps.getD k undef = v) : a.eval (.tmp k) = v := h
  unfold execOp
  simp only [ho]
  have hm : Array.map (fun x : Nat × Operand => (x.fst, a.eval x.snd)) #[(0, .tmp 255), (1, .tmp 258), (2, .tmp 261), (3, .tmp 264), (4, .tmp 270), (5, .tmp 273), (6, .tmp 276), (7, .tmp 279)] = #[(0, .int .u64 x0), (1, .int .u64 x1), (2, .int .u64 x2), (3, .int .u64 x3), (4, .int .u64 x4), (5, .int .u64 x5), (6, .int .u64 x6), (7, .int .u64 x7)] := by
    simp only [List.map_toArray, List.map_cons, List.map_nil, e _ _ h0, e _ _ h1, e _ _ h2, e _ _ h3, e _ _ h4, e _ _ h5, e _ _ h6, e _ _ h7]
  rw [hm]
  refine Eq.trans ?_ rfl
  kernel_rfl

set_option maxHeartbeats 40000000 in
set_option maxRecDepth 100000 in
theorem turns {x0 x2 x3 x4 x5 x6 x8 x10 x11 x12 x13 x14 x15 x18 x19 x20 x21 x22 x23 x24 x28 x29 x30 x31 x32 x33 x34 x35 x36 x37 x38 x39 x40 x41 x42 x43 x44 x45 x46 x47 x48 x49 x50 x51 x52 x53 x54 x55 x56 x57 x58 x59 x60 x61 x62 x63 x64 x65 x66 x67 x68 x69 x70 x71 x72 x73 x74 x75 x76 x77 x78 x79 x80 x81 x82 x83 x84 x85 x86 x87 x88 x89 x90 x91 x92 x93 x94 x95 x96 x97 x98 x99 x100 x101 x102 x103 x104 x105 x106 x107 x108 x109 x110 x111 x112 x113 x114 x115 x116 x117 x118 x119 x120 x121 x122 x123 x124 x125 x126 x127 x128 x129 x130 x131 x132 x133 x134 x135 x136 x137 x138 x139 x140 x141 x142 x143 x144 x145 x146 x147 x148 x149 x150 x151 x152 x153 x154 x155 x156 x157 x158 x159 x160 x161 x162 x163 x164 x165 x166 x167 x168 x169 x170 x171 x172 x173 x174 x175 x176 x177 x178 x179 x180 x181 x182 x183 x184 x185 x186 x187 x188 x189 x190 x191 x192 x193 x194 x195 x196 x197 x198 x199 x200 x201 x202 x203 x204 x205 x206 x207 x208 x209 x210 x211 x212 x213 x214 x215 x216 x217 x218 x219 x220 x221 x222 x223 x224 x225 x226 x227 x228 x229 x230 x231 x232 x233 x234 x235 x236 x237 x238 x239 x240 x241 x242 x243 x244 x245 x246 x247 x248 x249 x250 x251 x252 x253 x254 x255 x256 x257 x258 x259 x260 x261 x262 x263 x264 x265 x266 x267 x268 x269 x270 x271 x272 x273 x274 x275 x276 x277 x278 x279 x280 x281 x282 x283 x284 x285 x286 x287 x288 x289 x290 x291 x292 x293 x294 x295 x296 x297 x298 x299 : Value} (w W : World) (HH SL : List Nat) (v0 : V) (gh gk B g2 cap2 gv capv : Nat) (hv0 : v0.ok) (hSLl : SL.length = 64) (hSLb : ∀ x ∈ SL, x < 4294967296) (hX0 : Rel7 w gh gk B HH SL g2 cap2 gv capv v0 W)
    {J K' : Act → World → Prop} {Q' : Exit → Act → World → Prop} (hJ : ∀ a' w', (∃ u16 u17 u18 u19 u20 u21 u22 u23 u159 u160 u161 u162 u163 u164 u165 u166 u167 u168 u169 u170 u171 u172 u173 u174 u175 u176 u177 u178 u179 u180 u181 u182 u183 u184 u185 u186 u187 u188 u189 u190 u191 u192 u193 u194 u195 u196 u197 u198 u199 u200 u201 u202 u203 u204 u205 u206 u207 u208 u209 u210 u211 u212 u213 u214 u215 u216 u217 u218 u219 u220 u221 u222 u223 u224 u225 u226 u227 u228 u229 u230 u231 u232 u233 u234 u235 u236 u237 u238 u239 u240 u241 u242 u243 u244 u245 u246 u247 u248 u249 u250 u251 u252 u253 u254 u255 u256 u257 u258 u259 u260 u261 u262 u263 u264 u265 u266 u267 u268 u269 u270 u271 u272 u273 u274 u275 u276 u277 u278 u279 u280 : Value, (∃ gv capv, u16 = .slice (some ⟨gv, 0, none⟩) 8 capv ∧ Rel7 w gh gk B HH SL g2 cap2 gv capv (rounds v0 SL 64) w') ∧ a' = ⟨#[x0, undef, x2, x3, x4, x5, x6, .slice (some ⟨gk, 0, none⟩) 64 64, x8, .slice (some ⟨g2, 0, none⟩) 64 cap2, x10, x11, x12, x13, x14, x15, u16, u17, u18, u19, u20, u21, u22, u23, x24, undef, undef, undef, x28, x29, x30, x31, x32, x33, x34, x35, x36, x37, x38, x39, x40, x41, x42, x43, x44, x45, x46, x47, x48, x49, x50, x51, x52, x53, x54, x55, x56, x57, x58, x59, x60, x61, x62, x63, x64, x65, x66, x67, x68, x69, x70, x71, x72, x73, x74, x75, x76, x77, x78, x79, x80, x81, x82, x83, x84, x85, x86, x87, x88, x89, x90, x91, x92, x93, x94, x95, x96, x97, x98, x99, x100, x101, x102, x103, x104, x105, x106, x107, x108, x109, x110, x111, x112, x113, x114, x115, x116, x117, x118, x119, x120, x121, x122, x123, x124, x125, x126, x127, x128, x129, x130, x131, x132, x133, x134, x135, x136, x137, x138, x139, x140, x141, x142, x143, x144, x145, x146, x147, x148, x149, x150, x151, x152, x153, x154, x155, x156, x157, x158, u159, u160, u161, u162, u163, u164, u165, u166, u167, u168, u169, u170, u171, u172, u173, u174, u175, u176, u177, u178, u179, u180, u181, u182, u183, u184, u185, u186, u187, u188, u189, u190, u191, u192, u193, u194, u195, u196, u197, u198, u199, u200, u201, u202, u203, u204, u205, u206, u207, u208, u209, u210, u211, u212, u213, u214, u215, u216, u217, u218, u219, u220, u221, u222, u223, u224, u225, u226, u227, u228, u229, u230, u231, u232, u233, u234, u235, u236, u237, u238, u239, u240, u241, u242, u243, u244, u245, u246, u247, u248, u249, u250, u251, u252, u253, u254, u255, u256, u257, u258, u259, u260, u261, u262, u263, u264, u265, u266, u267, u268, u269, u270, u271, u272, u273, u274, u275, u276, u277, u278, u279, u280, x281, x282, x283, x284, x285, x286, x287, x288, x289, x290, x291, x292, x293, x294, x295, x296, x297, x298, x299, undef, undef, undef, undef, undef, undef, undef, undef, undef, undef, undef, undef, undef, undef, undef, undef, undef, undef, undef, undef, undef, undef, undef, undef, undef, undef], []⟩) → J a' w') (hM : ∀ a' w', Met J a' w' → K' a' w') :
    Code.wp Tryd.prog (blkOf 12) (Exit.then K' Q') ⟨#[x0, undef, x2, x3, x4, x5, x6, .slice (some ⟨gk, 0, none⟩) 64 64, x8, .slice (some ⟨g2, 0, none⟩) 64 cap2, x10, x11, x12, x13, x14, x15, .slice (some ⟨gv, 0, none⟩) 8 capv, .int .i64 0, x18, x19, x20, x21, x22, x23, x24, undef, undef, undef, x28, x29, x30, x31, x32, x33, x34, x35, x36, x37, x38, x39, x40, x41, x42, x43, x44, x45, x46, x47, x48, x49, x50, x51, x52, x53, x54, x55, x56, x57, x58, x59, x60, x61, x62, x63, x64, x65, x66, x67, x68, x69, x70, x71, x72, x73, x74, x75, x76, x77, x78, x79, x80, x81, x82, x83, x84, x85, x86, x87, x88, x89, x90, x91, x92, x93, x94, x95, x96, x97, x98, x99, x100, x101, x102, x103, x104, x105, x106, x107, x108, x109, x110, x111, x112, x113, x114, x115, x116, x117, x118, x119, x120, x121, x122, x123, x124, x125, x126, x127, x128, x129, x130, x131, x132, x133, x134, x135, x136, x137, x138, x139, x140, x141, x142, x143, x144, x145, x146, x147, x148, x149, x150, x151, x152, x153, x154, x155, x156, x157, x158, x159, x160, x161, x162, x163, x164, x165, x166, x167, x168, x169, x170, x171, x172, x173, x174, x175, x176, x177, x178, x179, x180, x181, x182, x183, x184, x185, x186, x187, x188, x189, x190, x191, x192, x193, x194, x195, x196, x197, x198, x199, x200, x201, x202, x203, x204, x205, x206, x207, x208, x209, x210, x211, x212, x213, x214, x215, x216, x217, x218, x219, x220, x221, x222, x223, x224, x225, x226, x227, x228, x229, x230, x231, x232, x233, x234, x235, x236, x237, x238, x239, x240, x241, x242, x243, x244, x245, x246, x247, x248, x249, x250, x251, x252, x253, x254, x255, x256, x257, x258, x259, x260, x261, x262, x263, x264, x265, x266, x267, x268, x269, x270, x271, x272, x273, x274, x275, x276, x277, x278, x279, x280, x281, x282, x283, x284, x285, x286, x287, x288, x289, x290, x291, x292, x293, x294, x295, x296, x297, x298, x299, undef, undef, undef, undef, undef, undef, undef, undef, undef, undef, undef, undef, undef, undef, undef, undef, undef, undef, undef, undef, undef, undef, undef, undef, undef, undef], []⟩ W := by
  conv => arg 2; whnf
  go_wp2_with fail
  go_loopw [16, 17] (fun s16 s17 wr => ∃ (k : Nat) (gv capv : Nat), k ≤ 64 ∧ s17 = .int .i64 (k : Int) ∧ s16 = .slice (some ⟨gv, 0, none⟩) 8 capv ∧ Rel7 w gh gk B HH SL g2 cap2 gv capv (rounds v0 SL k) wr) (fun _ i _ => 64 - (intOf i).toNat)
  case atStart => exact ⟨0, gv, capv, by omega, rfl, rfl, hX0⟩
  case round =>
    clear hX0
    obtain ⟨k, gv, capv, hk, rfl, rfl, hX⟩ := hrel
    by_cases hk64 : k < 64
    · as_aux_lemma =>
      have hvk := rounds_ok v0 hv0 SL k
      obtain ⟨wk, hwk⟩ : ∃ x, x = SL[k]'(by omega) := ⟨_, rfl⟩
      obtain ⟨kk, hkk⟩ : ∃ x, x = kTab[k]'(by rw [kTab_len]; omega) := ⟨_, rfl⟩
      have bw : wk < 4294967296 := by rw [hwk]; exact hSLb _ (List.getElem_mem _)
      have bk : kk < 4294967296 := by rw [hkk]; exact kTab_lt _ (List.getElem_mem _)
      have hnext : rounds v0 SL (k + 1) = rnd (rounds v0 SL k) kk wk := by rw [rounds, getD_at kTab k (by rw [kTab_len]; omega), getD_at SL k (by omega), ← hkk, ← hwk]
      have Hnext := Lib.hid hnext
      have HW := Lib.hid hwk
      have HK := Lib.hid hkk
      clear hnext hwk hkk
      generalize rounds v0 SL k = v at hvk Hnext hX ⊢
      obtain ⟨va, vb, vc, vd, ve, vf, vg, vh⟩ := v
      obtain ⟨ba, bb, bc, bd, be, bf, bg, bh⟩ := hvk
      simp only at ba bb bc bd be bf bg bh
      have Hkw : Hid (∀ W : World, RefAt w gh gk B HH W → W64 B W g2 cap2 SL → W.cell? ⟨gk, k, none⟩ = some (.int .u64 (kk : Int)) ∧ W.cell? ⟨g2, k, none⟩ = some (.int .u64 (wk : Int))) := Lib.hid (fun W h1 h2 => ⟨by rw [HK.out]; exact h1.k.cell k (by rw [kTab_len]; omega), by rw [HW.out]; exact h2.cell k (by omega)⟩)
      clear hSLb hSLl hv0 HW HK
      obtain ⟨r1, z1, Hz1, lz1, x1, x2⟩ := S1_facts ve be
      have c4 : wr.cell? ⟨gv, 4, none⟩ = some (.int .u64 (ve : Int)) := hX.cells.2.2.2.2.1
      go_wp2_with fail
      go_quiet ((first | (go_at_call_of 56 (Value.int IntKind.i64 6); exact Calls.quiet_of_same (turn_q ve 6 _ be (by omega))) | (go_at_call_of 56 (Value.int IntKind.i64 11); exact Calls.quiet_of_same (turn_q ve 11 _ be (by omega))) | (go_at_call_of 56 (Value.int IntKind.i64 25); exact Calls.quiet_of_same (turn_q ve 25 _ be (by omega)))))
      replace hX := hX.drewN nq
      generalize wr.drewN nq = wA at hX ⊢
      clear c4 x1 x2
      obtain ⟨n1, ne, n2, z2, Hz2, lz2, x1, x2, x3, x4, x5⟩ := ch_facts ve vf vg be bf bg
      have c4 : wA.cell? ⟨gv, 4, none⟩ = some (.int .u64 (ve : Int)) := hX.cells.2.2.2.2.1
      have c5 : wA.cell? ⟨gv, 5, none⟩ = some (.int .u64 (vf : Int)) := hX.cells.2.2.2.2.2.1
      have c6 : wA.cell? ⟨gv, 6, none⟩ = some (.int .u64 (vg : Int)) := hX.cells.2.2.2.2.2.2.1
      go_wp2_with fail
      go_quiet (fail)
      replace hX := hX.drewN nq
      generalize wA.drewN nq = wB at hX ⊢
      clear c4 c5 c6 x1 x2 x3 x4 x5
      obtain ⟨vt, ht⟩ : ∃ vt, vt = (vh + z1 + z2 + kk + wk) % 4294967296 := ⟨_, rfl⟩
      have lt : vt < 4294967296 := by rw [ht]; exact Nat.mod_lt _ (by decide)
      have Ht := Lib.hid ht
      clear ht
      have c7 : wB.cell? ⟨gv, 7, none⟩ = some (.int .u64 (vh : Int)) := hX.cells.2.2.2.2.2.2.2
      have ck : wB.cell? ⟨gk, k, none⟩ = some (.int .u64 (kk : Int)) := (Hkw.out wB hX.r hX.s).1
      have cw : wB.cell? ⟨g2, k, none⟩ = some (.int .u64 (wk : Int)) := (Hkw.out wB hX.r hX.s).2
      have ia : (0 : Int) ≤ k := by omega
      have ib : (k : Int) < 64 := by omega
      have s1 : IntKind.u64.wrap ((vh : Int) + z1) = (vh : Int) + z1 := by rw [IntKind.wrap_u64]; omega
      have s2 : IntKind.u64.wrap ((vh : Int) + z1 + z2) = (vh : Int) + z1 + z2 := by rw [IntKind.wrap_u64]; omega
      have s3 : IntKind.u64.wrap ((vh : Int) + z1 + z2 + kk) = (vh : Int) + z1 + z2 + kk := by rw [IntKind.wrap_u64]; omega
      have s4 : IntKind.u64.wrap ((vh : Int) + z1 + z2 + kk + wk) = (vh : Int) + z1 + z2 + kk + wk := by rw [IntKind.wrap_u64]; omega
      have s5 : ((vh : Int) + z1 + z2 + kk + wk) % 4294967296 = (vt : Int) := by rw [Ht.out]; omega
      have s6 : ((vh : Int) + z1 + z2 + kk + wk).tmod 4294967296 = (vt : Int) := by rw [Int.tmod_eq_emod_of_nonneg (by omega)]; exact s5
      go_wp2_with fail
      go_quiet (fail)
      replace hX := hX.drewN nq
      generalize wB.drewN nq = wC at hX ⊢
      clear c7 ck cw s1 s2 s3 s4 s5 s6
      obtain ⟨r3, z3, Hz3, lz3, x1, x2⟩ := S0_facts va ba
      have c0 : wC.cell? ⟨gv, 0, none⟩ = some (.int .u64 (va : Int)) := hX.cells.1
      go_wp2_with fail
      go_quiet ((first | (go_at_call_of 56 (Value.int IntKind.i64 2); exact Calls.quiet_of_same (turn_q va 2 _ ba (by omega))) | (go_at_call_of 56 (Value.int IntKind.i64 13); exact Calls.quiet_of_same (turn_q va 13 _ ba (by omega))) | (go_at_call_of 56 (Value.int IntKind.i64 22); exact Calls.quiet_of_same (turn_q va 22 _ ba (by omega)))))
      replace hX := hX.drewN nq
      generalize wC.drewN nq = wD at hX ⊢
      clear c0 x1 x2
      obtain ⟨p1, q1, r1, s1, z4, Hz4, lz4, x1, x2, x3, x4, x5⟩ := maj_facts va vb vc ba bb bc
      have c0 : wD.cell? ⟨gv, 0, none⟩ = some (.int .u64 (va : Int)) := hX.cells.1
      have c1 : wD.cell? ⟨gv, 1, none⟩ = some (.int .u64 (vb : Int)) := hX.cells.2.1
      have c2 : wD.cell? ⟨gv, 2, none⟩ = some (.int .u64 (vc : Int)) := hX.cells.2.2.1
      go_wp2_with fail
      go_quiet (fail)
      replace hX := hX.drewN nq
      generalize wD.drewN nq = wE at hX ⊢
      clear c0 c1 c2 x1 x2 x3 x4 x5
      obtain ⟨u, hu⟩ : ∃ u, u = (z3 + z4) % 4294967296 := ⟨_, rfl⟩
      have lu : u < 4294967296 := by rw [hu]; exact Nat.mod_lt _ (by decide)
      obtain ⟨y0, hy0⟩ : ∃ y, y = (vt + u) % 4294967296 := ⟨_, rfl⟩
      obtain ⟨y4, hy4⟩ : ∃ y, y = (vd + vt) % 4294967296 := ⟨_, rfl⟩
      have s1 : IntKind.u64.wrap ((z3 : Int) + z4) = (z3 : Int) + z4 := by rw [IntKind.wrap_u64]; omega
      have s2 : ((z3 : Int) + z4) % 4294967296 = (u : Int) := by rw [hu]; omega
      have s3 : ((z3 : Int) + z4).tmod 4294967296 = (u : Int) := by rw [Int.tmod_eq_emod_of_nonneg (by omega)]; exact s2
      have s4 : IntKind.u64.wrap ((vt : Int) + u) = (vt : Int) + u := by rw [IntKind.wrap_u64]; omega
      have s5 : ((vt : Int) + u) % 4294967296 = (y0 : Int) := by rw [hy0]; omega
      have s6 : ((vt : Int) + u).tmod 4294967296 = (y0 : Int) := by rw [Int.tmod_eq_emod_of_nonneg (by omega)]; exact s5
      have s7 : IntKind.u64.wrap ((vd : Int) + vt) = (vd : Int) + vt := by rw [IntKind.wrap_u64]; omega
      have s8 : ((vd : Int) + vt) % 4294967296 = (y4 : Int) := by rw [hy4]; omega
      have s9 : ((vd : Int) + vt).tmod 4294967296 = (y4 : Int) := by rw [Int.tmod_eq_emod_of_nonneg (by omega)]; exact s8
      have c0 : wE.cell? ⟨gv, 0, none⟩ = some (.int .u64 (va : Int)) := hX.cells.1
      have c1 : wE.cell? ⟨gv, 1, none⟩ = some (.int .u64 (vb : Int)) := hX.cells.2.1
      have c2 : wE.cell? ⟨gv, 2, none⟩ = some (.int .u64 (vc : Int)) := hX.cells.2.2.1
      have c3 : wE.cell? ⟨gv, 3, none⟩ = some (.int .u64 (vd : Int)) := hX.cells.2.2.2.1
      have c4 : wE.cell? ⟨gv, 4, none⟩ = some (.int .u64 (ve : Int)) := hX.cells.2.2.2.2.1
      have c5 : wE.cell? ⟨gv, 5, none⟩ = some (.int .u64 (vf : Int)) := hX.cells.2.2.2.2.2.1
      have c6 : wE.cell? ⟨gv, 6, none⟩ = some (.int .u64 (vg : Int)) := hX.cells.2.2.2.2.2.2.1
      have Hu := Lib.hid hu
      have Hy0 := Lib.hid hy0
      have Hy4 := Lib.hid hy4
      clear hu hy0 hy4
      go_wp2_with fail
      have HG0 : Hid ((fun (j : Nat) (x : Value) (w1 : World) => (j = 0 ∧ w1 = wE.drew) ∨ (1 ≤ j ∧ w1 = wE.drew.alloc (.cells #[.int .u64 (y0 : Int), .int .u64 (va : Int), .int .u64 (vb : Int), .int .u64 (vc : Int), .int .u64 (y4 : Int), .int .u64 (ve : Int), .int .u64 (vf : Int), .int .u64 (vg : Int)] 22) ∧ x = .slice (some ⟨wE.drew.heap.size, 0, none⟩) 8 8)) 0 undef wE.drew) := Lib.hid (.inl ⟨rfl, rfl⟩)
      refine wp_region_chain (fun t v => match t with
        | 252 => v = .int .u64 (vt : Int)
        | 253 => v = .int .u64 (u : Int)
        | 254 => v = .int .u64 ((vt : Int) + u)
        | 255 => v = .int .u64 (y0 : Int)
        | 256 => v = .slice (some ⟨gv, 0, none⟩) 8 capv
        | 257 => v = .pointer (some ⟨gv, 0, none⟩)
        | 258 => v = .int .u64 (va : Int)
        | 259 => v = .slice (some ⟨gv, 0, none⟩) 8 capv
        | 260 => v = .pointer (some ⟨gv, 1, none⟩)
        | 261 => v = .int .u64 (vb : Int)
        | 262 => v = .slice (some ⟨gv, 0, none⟩) 8 capv
        | 263 => v = .pointer (some ⟨gv, 2, none⟩)
        | 264 => v = .int .u64 (vc : Int)
        | 265 => v = .slice (some ⟨gv, 0, none⟩) 8 capv
        | 266 => v = .pointer (some ⟨gv, 3, none⟩)
        | 267 => v = .int .u64 (vd : Int)
        | 268 => v = .int .u64 (vt : Int)
        | 269 => v = .int .u64 ((vd : Int) + vt)
        | 270 => v = .int .u64 (y4 : Int)
        | 271 => v = .slice (some ⟨gv, 0, none⟩) 8 capv
        | 272 => v = .pointer (some ⟨gv, 4, none⟩)
        | 273 => v = .int .u64 (ve : Int)
        | 274 => v = .slice (some ⟨gv, 0, none⟩) 8 capv
        | 275 => v = .pointer (some ⟨gv, 5, none⟩)
        | 276 => v = .int .u64 (vf : Int)
        | 277 => v = .slice (some ⟨gv, 0, none⟩) 8 capv
        | 278 => v = .pointer (some ⟨gv, 6, none⟩)
        | 279 => v = .int .u64 (vg : Int)
        | _ => True) (fun (j : Nat) (x : Value) (w1 : World) => (j = 0 ∧ w1 = wE.drew) ∨ (1 ≤ j ∧ w1 = wE.drew.alloc (.cells #[.int .u64 (y0 : Int), .int .u64 (va : Int), .int .u64 (vb : Int), .int .u64 (vc : Int), .int .u64 (y4 : Int), .int .u64 (ve : Int), .int .u64 (vf : Int), .int .u64 (vg : Int)] 22) ∧ x = .slice (some ⟨wE.drew.heap.size, 0, none⟩) 8 8)) [28, 29] 326 (by kernel_rfl) (by decide +kernel) rfl (by decide +kernel) (by decide) (by decide) HG0.out (by
        refine OweAllC.cons (owesC_val 0 (by decide +kernel) (by decide) rfl rfl fun k' a w1 x hk ha hG hV => ?_) ?_
        · skip
          have h20 := ha.outer 20 (by decide +kernel)
          simp only [Act.eval] at h20
          exact ⟨.int .u64 (vt : Int), wanted_free rfl, by simp [execOp, go_sem, h20], rfl⟩
        refine OweAllC.cons (owesC_val 0 (by decide +kernel) (by decide) rfl rfl fun k' a w1 x hk ha hG hV => ?_) ?_
        · skip
          have h23 := ha.outer 23 (by decide +kernel)
          simp only [Act.eval] at h23
          exact ⟨.int .u64 (u : Int), wanted_free rfl, by simp [execOp, go_sem, h23], rfl⟩
        refine OweAllC.cons (owesC_val 0 (by decide +kernel) (by decide) rfl rfl fun k' a w1 x hk ha hG hV => ?_) ?_
        · skip
          have h252 : a.tmps.getD 252 undef = .int .u64 (vt : Int) := hV.get 252 (by decide +kernel)
          have h253 : a.tmps.getD 253 undef = .int .u64 (u : Int) := hV.get 253 (by decide +kernel)
          exact ⟨.int .u64 ((vt : Int) + u), wanted_free rfl, by simp [execOp, go_sem, h252, h253, s4], rfl⟩
        refine OweAllC.cons (owesC_val 0 (by decide +kernel) (by decide) rfl rfl fun k' a w1 x hk ha hG hV => ?_) ?_
        · skip
          have h254 : a.tmps.getD 254 undef = .int .u64 ((vt : Int) + u) := hV.get 254 (by decide +kernel)
          exact ⟨.int .u64 (y0 : Int), wanted_free rfl, by simp [execOp, go_sem, h254, s6], rfl⟩
        refine OweAllC.cons (owesC_val 0 (by decide +kernel) (by decide) rfl rfl fun k' a w1 x hk ha hG hV => ?_) ?_
        · skip
          have h16 := ha.kp 1 29 _ 16 (by omega) rfl rfl rfl
          simp only [Act.eval] at h16
          exact ⟨.slice (some ⟨gv, 0, none⟩) 8 capv, wanted_free rfl, by simp [execOp, go_sem, h16], rfl⟩
        refine OweAllC.cons (owesC_val 0 (by decide +kernel) (by decide) rfl rfl fun k' a w1 x hk ha hG hV => ?_) ?_
        · skip
          have h256 : a.tmps.getD 256 undef = .slice (some ⟨gv, 0, none⟩) 8 capv := hV.get 256 (by decide +kernel)
          exact ⟨.pointer (some ⟨gv, 0, none⟩), wanted_free rfl, by simp [execOp, go_sem, h256], rfl⟩
        refine OweAllC.cons (owesC_val 0 (by decide +kernel) (by decide) rfl rfl fun k' a w1 x hk ha hG hV => ?_) ?_
        · skip
          have h257 : a.tmps.getD 257 undef = .pointer (some ⟨gv, 0, none⟩) := hV.get 257 (by decide +kernel)
          obtain rfl : k' = 0 := by omega
          obtain rfl : w1 = wE.drew := by rcases hG with hG | hG; exact hG.2; exact absurd hG.1 (by omega)
          have cc : wE.drew.cell? ⟨gv, 0, none⟩ = some (.int .u64 (va : Int)) := c0
          exact ⟨.int .u64 (va : Int), wanted_free rfl, by simp [execOp, go_sem, h257, cc], rfl⟩
        refine OweAllC.cons (owesC_val 0 (by decide +kernel) (by decide) rfl rfl fun k' a w1 x hk ha hG hV => ?_) ?_
        · skip
          have h16 := ha.kp 1 29 _ 16 (by omega) rfl rfl rfl
          simp only [Act.eval] at h16
          exact ⟨.slice (some ⟨gv, 0, none⟩) 8 capv, wanted_free rfl, by simp [execOp, go_sem, h16], rfl⟩
        refine OweAllC.cons (owesC_val 0 (by decide +kernel) (by decide) rfl rfl fun k' a w1 x hk ha hG hV => ?_) ?_
        · skip
          have h259 : a.tmps.getD 259 undef = .slice (some ⟨gv, 0, none⟩) 8 capv := hV.get 259 (by decide +kernel)
          exact ⟨.pointer (some ⟨gv, 1, none⟩), wanted_free rfl, by simp [execOp, go_sem, h259], rfl⟩
        refine OweAllC.cons (owesC_val 0 (by decide +kernel) (by decide) rfl rfl fun k' a w1 x hk ha hG hV => ?_) ?_
        · skip
          have h260 : a.tmps.getD 260 undef = .pointer (some ⟨gv, 1, none⟩) := hV.get 260 (by decide +kernel)
          obtain rfl : k' = 0 := by omega
          obtain rfl : w1 = wE.drew := by rcases hG with hG | hG; exact hG.2; exact absurd hG.1 (by omega)
          have cc : wE.drew.cell? ⟨gv, 1, none⟩ = some (.int .u64 (vb : Int)) := c1
          exact ⟨.int .u64 (vb : Int), wanted_free rfl, by simp [execOp, go_sem, h260, cc], rfl⟩
        refine OweAllC.cons (owesC_val 0 (by decide +kernel) (by decide) rfl rfl fun k' a w1 x hk ha hG hV => ?_) ?_
        · skip
          have h16 := ha.kp 1 29 _ 16 (by omega) rfl rfl rfl
          simp only [Act.eval] at h16
          exact ⟨.slice (some ⟨gv, 0, none⟩) 8 capv, wanted_free rfl, by simp [execOp, go_sem, h16], rfl⟩
        refine OweAllC.cons (owesC_val 0 (by decide +kernel) (by decide) rfl rfl fun k' a w1 x hk ha hG hV => ?_) ?_
        · skip
          have h262 : a.tmps.getD 262 undef = .slice (some ⟨gv, 0, none⟩) 8 capv := hV.get 262 (by decide +kernel)
          exact ⟨.pointer (some ⟨gv, 2, none⟩), wanted_free rfl, by simp [execOp, go_sem, h262], rfl⟩
        refine OweAllC.cons (owesC_val 0 (by decide +kernel) (by decide) rfl rfl fun k' a w1 x hk ha hG hV => ?_) ?_
        · skip
          have h263 : a.tmps.getD 263 undef = .pointer (some ⟨gv, 2, none⟩) := hV.get 263 (by decide +kernel)
          obtain rfl : k' = 0 := by omega
          obtain rfl : w1 = wE.drew := by rcases hG with hG | hG; exact hG.2; exact absurd hG.1 (by omega)
          have cc : wE.drew.cell? ⟨gv, 2, none⟩ = some (.int .u64 (vc : Int)) := c2
          exact ⟨.int .u64 (vc : Int), wanted_free rfl, by simp [execOp, go_sem, h263, cc], rfl⟩
        refine OweAllC.cons (owesC_val 0 (by decide +kernel) (by decide) rfl rfl fun k' a w1 x hk ha hG hV => ?_) ?_
        · skip
          have h16 := ha.kp 1 29 _ 16 (by omega) rfl rfl rfl
          simp only [Act.eval] at h16
          exact ⟨.slice (some ⟨gv, 0, none⟩) 8 capv, wanted_free rfl, by simp [execOp, go_sem, h16], rfl⟩
        refine OweAllC.cons (owesC_val 0 (by decide +kernel) (by decide) rfl rfl fun k' a w1 x hk ha hG hV => ?_) ?_
        · skip
          have h265 : a.tmps.getD 265 undef = .slice (some ⟨gv, 0, none⟩) 8 capv := hV.get 265 (by decide +kernel)
          exact ⟨.pointer (some ⟨gv, 3, none⟩), wanted_free rfl, by simp [execOp, go_sem, h265], rfl⟩
        refine OweAllC.cons (owesC_val 0 (by decide +kernel) (by decide) rfl rfl fun k' a w1 x hk ha hG hV => ?_) ?_
        · skip
          have h266 : a.tmps.getD 266 undef = .pointer (some ⟨gv, 3, none⟩) := hV.get 266 (by decide +kernel)
          obtain rfl : k' = 0 := by omega
          obtain rfl : w1 = wE.drew := by rcases hG with hG | hG; exact hG.2; exact absurd hG.1 (by omega)
          have cc : wE.drew.cell? ⟨gv, 3, none⟩ = some (.int .u64 (vd : Int)) := c3
          exact ⟨.int .u64 (vd : Int), wanted_free rfl, by simp [execOp, go_sem, h266, cc], rfl⟩
        refine OweAllC.cons (owesC_val 0 (by decide +kernel) (by decide) rfl rfl fun k' a w1 x hk ha hG hV => ?_) ?_
        · skip
          have h20 := ha.outer 20 (by decide +kernel)
          simp only [Act.eval] at h20
          exact ⟨.int .u64 (vt : Int), wanted_free rfl, by simp [execOp, go_sem, h20], rfl⟩
        refine OweAllC.cons (owesC_val 0 (by decide +kernel) (by decide) rfl rfl fun k' a w1 x hk ha hG hV => ?_) ?_
        · skip
          have h267 : a.tmps.getD 267 undef = .int .u64 (vd : Int) := hV.get 267 (by decide +kernel)
          have h268 : a.tmps.getD 268 undef = .int .u64 (vt : Int) := hV.get 268 (by decide +kernel)
          exact ⟨.int .u64 ((vd : Int) + vt), wanted_free rfl, by simp [execOp, go_sem, h267, h268, s7], rfl⟩
        refine OweAllC.cons (owesC_val 0 (by decide +kernel) (by decide) rfl rfl fun k' a w1 x hk ha hG hV => ?_) ?_
        · skip
          have h269 : a.tmps.getD 269 undef = .int .u64 ((vd : Int) + vt) := hV.get 269 (by decide +kernel)
          exact ⟨.int .u64 (y4 : Int), wanted_free rfl, by simp [execOp, go_sem, h269, s9], rfl⟩
        refine OweAllC.cons (owesC_val 0 (by decide +kernel) (by decide) rfl rfl fun k' a w1 x hk ha hG hV => ?_) ?_
        · skip
          have h16 := ha.kp 1 29 _ 16 (by omega) rfl rfl rfl
          simp only [Act.eval] at h16
          exact ⟨.slice (some ⟨gv, 0, none⟩) 8 capv, wanted_free rfl, by simp [execOp, go_sem, h16], rfl⟩
        refine OweAllC.cons (owesC_val 0 (by decide +kernel) (by decide) rfl rfl fun k' a w1 x hk ha hG hV => ?_) ?_
        · skip
          have h271 : a.tmps.getD 271 undef = .slice (some ⟨gv, 0, none⟩) 8 capv := hV.get 271 (by decide +kernel)
          exact ⟨.pointer (some ⟨gv, 4, none⟩), wanted_free rfl, by simp [execOp, go_sem, h271], rfl⟩
        refine OweAllC.cons (owesC_val 0 (by decide +kernel) (by decide) rfl rfl fun k' a w1 x hk ha hG hV => ?_) ?_
        · skip
          have h272 : a.tmps.getD 272 undef = .pointer (some ⟨gv, 4, none⟩) := hV.get 272 (by decide +kernel)
          obtain rfl : k' = 0 := by omega
          obtain rfl : w1 = wE.drew := by rcases hG with hG | hG; exact hG.2; exact absurd hG.1 (by omega)
          have cc : wE.drew.cell? ⟨gv, 4, none⟩ = some (.int .u64 (ve : Int)) := c4
          exact ⟨.int .u64 (ve : Int), wanted_free rfl, by simp [execOp, go_sem, h272, cc], rfl⟩
        refine OweAllC.cons (owesC_val 0 (by decide +kernel) (by decide) rfl rfl fun k' a w1 x hk ha hG hV => ?_) ?_
        · skip
          have h16 := ha.kp 1 29 _ 16 (by omega) rfl rfl rfl
          simp only [Act.eval] at h16
          exact ⟨.slice (some ⟨gv, 0, none⟩) 8 capv, wanted_free rfl, by simp [execOp, go_sem, h16], rfl⟩
        refine OweAllC.cons (owesC_val 0 (by decide +kernel) (by decide) rfl rfl fun k' a w1 x hk ha hG hV => ?_) ?_
        · skip
          have h274 : a.tmps.getD 274 undef = .slice (some ⟨gv, 0, none⟩) 8 capv := hV.get 274 (by decide +kernel)
          exact ⟨.pointer (some ⟨gv, 5, none⟩), wanted_free rfl, by simp [execOp, go_sem, h274], rfl⟩
        refine OweAllC.cons (owesC_val 0 (by decide +kernel) (by decide) rfl rfl fun k' a w1 x hk ha hG hV => ?_) ?_
        · skip
          have h275 : a.tmps.getD 275 undef = .pointer (some ⟨gv, 5, none⟩) := hV.get 275 (by decide +kernel)
          obtain rfl : k' = 0 := by omega
          obtain rfl : w1 = wE.drew := by rcases hG with hG | hG; exact hG.2; exact absurd hG.1 (by omega)
          have cc : wE.drew.cell? ⟨gv, 5, none⟩ = some (.int .u64 (vf : Int)) := c5
          exact ⟨.int .u64 (vf : Int), wanted_free rfl, by simp [execOp, go_sem, h275, cc], rfl⟩
        refine OweAllC.cons (owesC_val 0 (by decide +kernel) (by decide) rfl rfl fun k' a w1 x hk ha hG hV => ?_) ?_
        · skip
          have h16 := ha.kp 1 29 _ 16 (by omega) rfl rfl rfl
          simp only [Act.eval] at h16
          exact ⟨.slice (some ⟨gv, 0, none⟩) 8 capv, wanted_free rfl, by simp [execOp, go_sem, h16], rfl⟩
        refine OweAllC.cons (owesC_val 0 (by decide +kernel) (by decide) rfl rfl fun k' a w1 x hk ha hG hV => ?_) ?_
        · skip
          have h277 : a.tmps.getD 277 undef = .slice (some ⟨gv, 0, none⟩) 8 capv := hV.get 277 (by decide +kernel)
          exact ⟨.pointer (some ⟨gv, 6, none⟩), wanted_free rfl, by simp [execOp, go_sem, h277], rfl⟩
        refine OweAllC.cons (owesC_val 0 (by decide +kernel) (by decide) rfl rfl fun k' a w1 x hk ha hG hV => ?_) ?_
        · skip
          have h278 : a.tmps.getD 278 undef = .pointer (some ⟨gv, 6, none⟩) := hV.get 278 (by decide +kernel)
          obtain rfl : k' = 0 := by omega
          obtain rfl : w1 = wE.drew := by rcases hG with hG | hG; exact hG.2; exact absurd hG.1 (by omega)
          have cc : wE.drew.cell? ⟨gv, 6, none⟩ = some (.int .u64 (vg : Int)) := c6
          exact ⟨.int .u64 (vg : Int), wanted_free rfl, by simp [execOp, go_sem, h278, cc], rfl⟩
        refine OweAllC.cons (owesC_mem 0 rfl rfl rfl fun a w1 x ha hG hx hV => ?_) ?_
        · skip
          have h255 : a.tmps.getD 255 undef = .int .u64 (y0 : Int) := hV.get 255 (by decide +kernel)
          have h258 : a.tmps.getD 258 undef = .int .u64 (va : Int) := hV.get 258 (by decide +kernel)
          have h261 : a.tmps.getD 261 undef = .int .u64 (vb : Int) := hV.get 261 (by decide +kernel)
          have h264 : a.tmps.getD 264 undef = .int .u64 (vc : Int) := hV.get 264 (by decide +kernel)
          have h270 : a.tmps.getD 270 undef = .int .u64 (y4 : Int) := hV.get 270 (by decide +kernel)
          have h273 : a.tmps.getD 273 undef = .int .u64 (ve : Int) := hV.get 273 (by decide +kernel)
          have h276 : a.tmps.getD 276 undef = .int .u64 (vf : Int) := hV.get 276 (by decide +kernel)
          have h279 : a.tmps.getD 279 undef = .int .u64 (vg : Int) := hV.get 279 (by decide +kernel)
          have g255 : a.tmps[255]?.getD undef = .int .u64 (y0 : Int) := by simpa using h255
          have g258 : a.tmps[258]?.getD undef = .int .u64 (va : Int) := by simpa using h258
          have g261 : a.tmps[261]?.getD undef = .int .u64 (vb : Int) := by simpa using h261
          have g264 : a.tmps[264]?.getD undef = .int .u64 (vc : Int) := by simpa using h264
          have g270 : a.tmps[270]?.getD undef = .int .u64 (y4 : Int) := by simpa using h270
          have g273 : a.tmps[273]?.getD undef = .int .u64 (ve : Int) := by simpa using h273
          have g276 : a.tmps[276]?.getD undef = .int .u64 (vf : Int) := by simpa using h276
          have g279 : a.tmps[279]?.getD undef = .int .u64 (vg : Int) := by simpa using h279
          obtain rfl : w1 = wE.drew := by rcases hG with hG | hG; exact hG.2; exact absurd hG.1 (by omega)
          exact ⟨.slice (some ⟨wE.drew.heap.size, 0, none⟩) 8 8, wE.drew.alloc (.cells #[.int .u64 (y0 : Int), .int .u64 (va : Int), .int .u64 (vb : Int), .int .u64 (vc : Int), .int .u64 (y4 : Int), .int .u64 (ve : Int), .int .u64 (vf : Int), .int .u64 (vg : Int)] 22), wanted_free rfl, build8 rfl _ _ _ _ _ _ _ _ h255 h258 h261 h264 h270 h273 h276 h279, trivial, .inr ⟨by omega, rfl, rfl⟩⟩
        refine OweAllC.cons (owesC_mem 1 rfl rfl rfl fun a w1 x ha hG hx hV => ?_) ?_
        · skip
          have h280 := hx 0 28 _ 280 rfl rfl rfl rfl
          simp only [Act.eval] at h280
          obtain ⟨_, rfl, rfl⟩ : 1 ≤ 1 ∧ w1 = _ ∧ x = _ := by rcases hG with hG | hG; exact absurd hG.1 (by omega); exact hG
          exact ⟨_, _, wanted_free rfl, by simp [execOp, go_sem, h280], trivial, .inr ⟨by omega, rfl, rfl⟩⟩
        exact OweAllC.nil
        ) ?_
      intro f wz xz hG hx hv
      have e16 : f 16 = xz := hx 1 29 _ 16 rfl rfl rfl rfl
      refine moves_back (P := Tryd.prog) (ops := #[]) f _ _ _ ?_
      simp only [dsts, List.filterMap_cons, List.filterMap_nil, List.map_cons, List.map_nil]
      rw [e16]
      clear hv hx
      unfold mv
      clear e16
      obtain ⟨_, rfl, rfl⟩ : 1 ≤ 2 ∧ wz = _ ∧ xz = _ := by rcases hG with hG | hG; exact absurd hG.1 (by decide); exact hG
      clear HG0
      have hXd := hX.drewN 1
      have hXn : Hid (Rel7 w gh gk B HH SL g2 cap2 wE.drew.heap.size 8 ⟨y0, va, vb, vc, y4, ve, vf, vg⟩ (wE.drew.alloc (.cells (nums .u64 [y0, va, vb, vc, y4, ve, vf, vg]).toArray 22 (0, 0)))) := Lib.hid (Rel7.next (wr := wE.drew) hXd [y0, va, vb, vc, y4, ve, vf, vg] rfl)
      have Hrd : Hid (rnd ⟨va, vb, vc, vd, ve, vf, vg, vh⟩ kk wk = ⟨y0, va, vb, vc, y4, ve, vf, vg⟩) := Lib.hid (by
        have e1 := t_sum ve vf vg vh kk wk z1 z2 Hz1.out Hz2.out va vb vc vd
        have e2 := u_sum va vb vc z3 z4 vd ve vf vg vh Hz3.out Hz4.out
        rw [← Ht.out] at e1
        rw [← Hu.out] at e2
        simp only [rnd, ← e1, ← e2, Hy0.out, Hy4.out])
      clear hX hXd c0 c1 c2 c3 c4 c5 c6
      go_wp2_with fail
      go_roundw
      case rel => exact ⟨k + 1, wE.heap.size, 8, by omega, by go_num, rfl, by rw [Hnext.out, Hrd.out]; exact hXn.out⟩
      case measure => simp [intOf]; omega
    · obtain rfl : k = 64 := by omega
      go_wp2_with fail
      go_meet
      exact ⟨gv, capv, rfl, hX⟩
end Go.Proofs.YtiegakeacghnfaaDoor

namespace Go.Proofs.YtiegakeacghnfaaDoor
open Go.RowKit
set_option maxHeartbeats 40000000 in
set_option maxRecDepth 100000 in
theorem refof_any (s : List UInt8) (w : World) (hl : s.length ≤ 1073741824) :
    Calls Tryd.prog 41 #[.string ⟨s.toArray⟩] w fun r w' => r = .returned (.string (bytesOf (sha (nats s)))) ∧ Mod (fun _ => False) w w' := by
  obtain ⟨m, hm⟩ : ∃ m, m = nats s := ⟨_, rfl⟩
  have hml : m.length = s.length := by rw [hm, nats_len]
  have hmb : ∀ x ∈ m, x < 256 := by rw [hm]; intro x hx; obtain ⟨c, _, rfl⟩ := List.mem_map.1 hx; exact c.toNat_lt
  rw [← hm, ← bytesOf_nats, ← hm]
  clear hm
  obtain ⟨N, hN⟩ : ∃ N, N = m.length := ⟨_, rfl⟩
  have hNl : N ≤ 1073741824 := by omega
  have hc1 := fun (x : Nat) (w : World) => lit_str (P := Tryd.prog) x w Tryd.underlying43 Tryd.underlying5 Tryd.underlying9
  have hc128 := hc1 128
  have hc0 := hc1 0
  rw [show ((128 : Nat) : Int) = 128 from rfl] at hc128
  rw [show ((0 : Nat) : Int) = 0 from rfl] at hc0
  have e0 : (bytesOf m).size = N := by rw [bytesOf_size, hN]
  have z128 : (bytesOf [128]).size = 1 := rfl
  have z0 : (bytesOf [0]).size = 1 := rfl
  have l1 : ¬ 9223372036854775807 < N + 1 := by omega
  have Hml := Lib.hid hml
  have HN := Lib.hid hN
  clear hml hN
  go_enter Tryd.func41, Tryd.ntmps41
  go_upto_block 0 with fail
  generalize hW1 : w.alloc _ = W1
  have hM1 : Mod (fun _ => False) w W1 := by rw [← hW1]; exact (Mod.refl _ _).alloc _
  clear hW1
  have hp0 : bytesOf m ++ bytesOf [128] = bytesOf (Pad m 0) := by rw [bytesOf_app]; simp [Pad]
  rw [hp0]
  clear hp0 l1
  obtain ⟨Z, hZ⟩ : ∃ Z, Z = zeros N := ⟨_, rfl⟩
  have hZ1 : (N + 1 + Z) % 64 = 56 := by rw [hZ, zeros]; omega
  have hZ2 : Z < 64 := by rw [hZ, zeros]; omega
  have HZ := Lib.hid hZ
  clear hZ
  go_cut [0] (fun s0 wx => s0 = .string (bytesOf (Pad m Z)) ∧ Mod (fun _ => False) w wx)
  case first =>
    go_wp2_with fail
    go_loopw [0] (fun s0 wr => ∃ k : Nat, k ≤ Z ∧ s0 = .string (bytesOf (Pad m k)) ∧ Mod (fun _ => False) w wr) (fun s0 _ => N + 65 - (match s0 with | .string t => t.size | _ => 0))
    case atStart => exact ⟨0, by omega, rfl, hM1⟩
    case round =>
      clear hM1
      obtain ⟨k, hk, rfl, hM⟩ := hrel
      have ht : (bytesOf (Pad m k)).size = N + 1 + k := by rw [bytesOf_size, Pad_len, ← HN.out]
      have hs := bytesOf_app (Pad m k) [0]
      rw [← Pad_succ] at hs
      have ht2 : (bytesOf (Pad m (k + 1))).size = N + 1 + (k + 1) := by rw [bytesOf_size, Pad_len, ← HN.out]
      obtain ⟨t2, hte⟩ : ∃ t, t = bytesOf (Pad m (k + 1)) := ⟨_, rfl⟩
      rw [← hte] at hs ht2
      have Ht := Lib.hid hte
      clear hte
      by_cases hlt : k < Z
      · have l1 : ¬ 9223372036854775807 < N + 1 + k + 1 := by omega
        have g0 : (0 : Int) ≤ ((N + 1 + k : Nat) : Int) := by omega
        have g1 : ((N + 1 + k : Nat) : Int).tmod 64 = ((N + 1 + k) % 64 : Nat) := by rw [Int.tmod_eq_emod_of_nonneg g0]; rfl
        have g2 : ((((N + 1 + k) % 64 : Nat) : Int) == 56) = false := by rw [beq_eq_false_iff_ne]; omega
        go_wp2_with fail
        go_roundw
        case rel => exact ⟨k + 1, by omega, by rw [← Ht.out], hM.alloc _⟩
        case measure => simp only [ht, ht2]; omega
      · obtain rfl : k = Z := by omega
        go_wp2_with fail
        go_meet
        exact ⟨rfl, hM⟩
  case rest =>
  obtain ⟨rfl, hM2⟩ := hcut
  clear hM1 hZ1 hZ2
  go_upto_block 2 with fail
  go_cut [4] (fun s4 wx => s4 = .string (bytesOf (lenBytes N 8)) ∧ Mod (fun _ => False) w wx)
  case first =>
    obtain ⟨f, hf⟩ : ∃ f : Nat → Nat, f = fun k => N * 8 / 256 ^ k := ⟨_, rfl⟩
    have f0 : ((N : Int) * 8) = (f 0 : Nat) := by rw [hf]; simp
    have fs : ∀ k, f (k + 1) = f k / 256 := by intro k; rw [hf]; simp only; rw [Nat.pow_succ, Nat.div_div_eq_div_mul]
    have fb : ∀ k, k < 8 → bytesOf [f k % 256] ++ bytesOf ((lenBytes N 8).drop (8 - k)) = bytesOf ((lenBytes N 8).drop (8 - (k + 1))) := by intro k hk; rw [hf]; exact cut_bytes N k hk
    have fl : ∀ k, f k ≤ 8589934592 := by intro k; rw [hf]; exact Nat.le_trans (Nat.div_le_self _ _) (by omega)
    have F0 := Lib.hid f0
    have Fs := Lib.hid fs
    have Fb := Lib.hid fb
    clear hf f0 fs fb
    go_wp2_with fail
    go_loopw [3, 4, 5] (fun s3 s4 s5 wr => ∃ k : Nat, k ≤ 8 ∧ s3 = .int .u64 (f k : Int) ∧ s4 = .string (bytesOf ((lenBytes N 8).drop (8 - k))) ∧ s5 = .int .i64 k ∧ Mod (fun _ => False) w wr) (fun _ _ i _ => 8 - (intOf i).toNat)
    case atStart => exact ⟨0, by omega, by rw [F0.out], by rw [show 8 - 0 = 8 from rfl, List.drop_of_length_le (by rw [lenBytes_len]; omega)]; rfl, rfl, hM2⟩
    case round =>
      clear hM2
      obtain ⟨k, hk, rfl, rfl, rfl, hM⟩ := hrel
      by_cases hlt : k < 8
      · have hb := Fb.out k hlt
        have hs := Fs.out k
        have hl := lenBytes_drop N k hk
        have hy0 := fl (k + 1)
        obtain ⟨y', hy'⟩ : ∃ y', y' = f (k + 1) := ⟨_, rfl⟩
        rw [← hy'] at hs hy0
        have Hy := Lib.hid hy'
        clear hy'
        have d5 : IntKind.u64.wrap (y' : Int) = (y' : Int) := by rw [IntKind.wrap_u64]; omega
        generalize f k = y at hb hs ⊢
        generalize (lenBytes N 8).drop (8 - k) = t at hb hl ⊢
        have ht : (bytesOf t).size = k := by rw [bytesOf_size, hl]
        obtain ⟨b, hbe⟩ : ∃ b, b = y % 256 := ⟨_, rfl⟩
        rw [← hbe] at hb
        have y0 : (0 : Int) ≤ y := by omega
        have d1 : (y : Int).tmod 256 = (b : Int) := by rw [Int.tmod_eq_emod_of_nonneg y0, hbe]; omega
        have d2 : (y : Int).tdiv 256 = (y' : Int) := by rw [Int.tdiv_eq_ediv_of_nonneg y0, hs]; omega
        have d3 : IntKind.u8.wrap (b : Int) = (b : Int) := by rw [IntKind.wrap_u8]; omega
        have d4 := fun w => hc1 b w
        have zb : (bytesOf [b]).size = 1 := rfl
        have l1 : ¬ 9223372036854775807 < 1 + k := by omega
        have HB := Lib.hid hb
        clear hb hs hbe hl
        go_wp2_with fail
        go_roundw
        case rel => exact ⟨k + 1, by omega, by rw [← Hy.out], by rw [HB.out], by go_num, hM.alloc _⟩
        case measure => simp [intOf]; omega
      · obtain rfl : k = 8 := by omega
        go_wp2_with fail
        go_meet
        exact ⟨rfl, hM⟩
  case rest =>
  obtain ⟨rfl, hM3⟩ := hcut
  clear hM2
  have hPl : (bytesOf (Pad m Z)).size = N + 1 + Z := by rw [bytesOf_size, Pad_len, ← HN.out]
  have hZ2 : Z < 64 := by rw [HZ.out, zeros]; omega
  have hll : (bytesOf (lenBytes N 8)).size = 8 := by rw [bytesOf_size, lenBytes_len]
  have l1 : ¬ 9223372036854775807 < N + 1 + Z + 8 := by omega
  obtain ⟨p, hp⟩ : ∃ p, p = padded m := ⟨_, rfl⟩
  have hpp : bytesOf (Pad m Z) ++ bytesOf (lenBytes N 8) = bytesOf p := by rw [bytesOf_app, hp, HZ.out, HN.out]; rfl
  have hpl : p.length = N + 1 + Z + 8 := by rw [← bytesOf_size, ← hpp, ByteArray.size_append, hPl, hll]
  have hpm : p.length % 64 = 0 := by rw [hp]; exact padded_len m
  have hpb : ∀ x ∈ p, x < 256 := by rw [hp]; exact padded_lt m hmb
  have HPP := Lib.hid hpp
  have HP := Lib.hid hp
  have HPL := Lib.hid hpl
  clear hpp hp hpl
  go_upto_block 4 with (first | (go_at_call 55; generalize hWh : wc.alloc _ = Wh; refine (keys_any Wh).mono ?_; rintro r wk ⟨rfl, hMk, hKk⟩) | fail)
  have hMh : Mod (fun _ => False) wc Wh := by rw [← hWh]; exact (Mod.refl _ _).alloc _
  have hHh : RowAt .u64 22 Wh wc.heap.size hTab := by rw [← hWh]; exact heap_alloc_new _ _
  obtain ⟨gh, hgh⟩ : ∃ g, g = wc.heap.size := ⟨_, rfl⟩
  obtain ⟨gk, hgk⟩ : ∃ g, g = Wh.heap.size := ⟨_, rfl⟩
  obtain ⟨B, hB⟩ : ∃ g, g = wk.heap.size := ⟨_, rfl⟩
  rw [← hgh] at hHh ⊢
  rw [← hgk] at hKk ⊢
  have hRef : RefAt w gh gk B (wordsAt p 0) wk := by
    have h1 := hHh.lt
    have h2 := hKk.lt
    have h3 := hM3.size
    have h4 := hMk.size
    rw [wordsAt_zero]
    exact ⟨(hM3.trans hMh (fun _ _ h => h)).trans hMk (fun _ _ h => h), hHh.kept hMk (fun h => h), hKk, by omega, by omega, by omega, by omega, by omega⟩
  rw [HPP.out]
  clear hWh hMh hHh hMk hKk hM3 hgh hgk hB hc128 hc0 z128 z0 e0 hPl hll l1
  have hps : (bytesOf p).size = p.length := bytesOf_size p
  have hpn : p.length ≤ 2147483648 := by rw [HPL.out]; omega
  go_cut [8] (fun s8 wx => RefAt w gh gk B (absorb p).1 wx)
  case first =>
    go_wp2_with fail
    go_loopw [8] (fun s8 wr => ∃ j : Nat, 64 * j ≤ p.length ∧ s8 = .int .i64 ((64 * j : Nat) : Int) ∧ RefAt w gh gk B (wordsAt p j) wr) (fun s8 _ => p.length - (intOf s8).toNat)
    case atStart => exact ⟨0, by omega, rfl, hRef⟩
    case round =>
      clear hRef
      obtain ⟨j, hj, rfl, hR⟩ := hrel
      by_cases hlt : 64 * j < p.length
      · obtain ⟨at', hat⟩ : ∃ a, a = 64 * j := ⟨_, rfl⟩
        have hj1 : 64 * (j + 1) ≤ p.length := by omega
        rw [← hat] at hj hlt ⊢
        have hlti : (at' : Int) < (p.length : Nat) := by omega
        have HA := Lib.hid hat
        have hat64 : at' + 64 ≤ p.length := by omega
        have Hn := Lib.hid (wordsAt_succ p j hj1)
        have hLl := chunk_len p j hj1
        have hLb : ∀ x ∈ chunk p j, x < 256 := by
          intro x hx; exact hpb x (List.mem_of_mem_drop (List.mem_of_mem_take hx))
        have hLp : ∀ i, i < 64 → (chunk p j).getD i 0 = p.getD (at' + i) 0 := by intro i hi; rw [chunk_at p j i hi, ← HA.out]
        generalize chunk p j = L at Hn hLl hLb hLp
        generalize hHH : wordsAt p j = HH at hR Hn
        have hHl : HH.length = 8 := by rw [← hHH]; exact wordsAt_len _ _
        have hHb : ∀ x ∈ HH, x < 4294967296 := by rw [← hHH]; exact wordsAt_lt _ _
        clear hat hHH
        go_upto_block 6 with fail
        generalize hW : wr.alloc _ = W
        have hWm : Mod (fun i => B ≤ i) wr W := by rw [← hW]; exact (Mod.refl _ _).alloc _
        have hV : W64 B W wr.heap.size 0 [] := by rw [← hW]; exact W64.fresh wr [] hR.b (by decide)
        have hR1 := hR.step hWm
        clear hW hWm hR
        generalize wr.heap.size = g0 at hV ⊢
        go_cut [9] (fun s9 wx => ∃ g cap, s9 = .slice (some ⟨g, 0, none⟩) 16 cap ∧ W64 B wx g cap (schedTo L 16) ∧ RefAt w gh gk B HH wx)
        case first =>
          rename_i J9 K9 hJ9 hM9; exact sixteen w W p L HH gh gk B g0 at' hps hpn hpb hat64 hLl hLb hLp hV hR1 hJ9 hM9
        case rest =>
        obtain ⟨g1, cap1, rfl, hV1, hR2⟩ := hcut
        clear hV hR1
        go_upto_block 10 with fail
        go_cut [9] (fun s9 wx => ∃ g cap, s9 = .slice (some ⟨g, 0, none⟩) 64 cap ∧ W64 B wx g cap (schedTo L 64) ∧ RefAt w gh gk B HH wx)
        case first =>
          rename_i J9 K9 hJ9 hM9; exact later w _ L HH gh gk B g1 cap1 hLb hV1 hR2 hJ9 hM9
        case rest =>
        obtain ⟨g2, cap2, rfl, hV2, hR3⟩ := hcut
        clear hV1 hR2
        have hSLl : (schedTo L 64).length = 64 := schedTo_len L 64
        have hSLb : ∀ x ∈ schedTo L 64, x < 4294967296 := schedTo_lt L hLb 64
        generalize hSL : schedTo L 64 = SL at hV2 hSLl hSLb
        have HSL := Lib.hid hSL
        clear hSL
        have hv0 := toV_ok HH hHl hHb
        have hv0l := toV_list HH hHl
        obtain ⟨v0, hv0e⟩ : ∃ v, v = toV HH := ⟨_, rfl⟩
        rw [← hv0e] at hv0 hv0l
        have Hv0 := Lib.hid hv0e
        have Hv0l := Lib.hid hv0l
        clear hv0e hv0l
        rename World => wq
        go_upto_block 12 with (first | (at_builtin; refine wpList_clone64 rfl _ _ rfl B wq.heap.size 0 gh 8 8 HH hHl (by decide) rfl (W64.fresh wq [] hR3.b (by simp [maxLen])) (hR3.h.kept ((Mod.refl (fun _ => False) _).alloc _) (fun h => h)) rfl (by decide) (by have := hR3.b; simp; omega) ?_; intro gv capv wv hVv hMv) | fail)
        have hX0 : Rel7 w gh gk B HH SL g2 cap2 gv capv v0 wv := by
          have hm0 : Mod (fun _ => False) wq wv := (((Mod.refl (· = wq.heap.size) wq).alloc _).trans hMv (fun _ _ h => h)).mono (fun i hi h => by omega)
          have hm : Mod (fun i => B ≤ i) wq wv := hm0.mono (fun _ _ h => h.elim)
          exact ⟨hR3.step hm, hV2.kept hm0 (fun h => h), by rw [Hv0l.out]; exact hVv⟩
        clear hVv hMv hV2 hR3
        go_cut [16] (fun s16 wx => ∃ gv capv, s16 = .slice (some ⟨gv, 0, none⟩) 8 capv ∧ Rel7 w gh gk B HH SL g2 cap2 gv capv (rounds v0 SL 64) wx)
        case first =>
          rename_i J9 K9 hJ9 hM9; exact turns w wv HH SL v0 gh gk B g2 cap2 gv capv hv0 hSLl hSLb hX0 hJ9 hM9
        case rest =>
        obtain ⟨gv2, capv2, rfl, hX⟩ := hcut
        have hbl : block HH L = List.zipWith (fun x y => (x + y) % 4294967296) HH (rounds v0 SL 64).list := by rw [Hv0.out, ← HSL.out]; rfl
        have hvok := rounds_ok v0 hv0 SL 64
        have hVs := hX.v
        have hRR := hX.r
        obtain ⟨VL, hVL⟩ : ∃ VL, VL = (rounds v0 SL 64).list := ⟨_, rfl⟩
        have hVLl : VL.length = 8 := by rw [hVL]; rfl
        have hVLb : ∀ x ∈ VL, x < 4294967296 := by
          rw [hVL]; intro x hx
          simp only [V.list, List.mem_cons, List.not_mem_nil, or_false] at hx
          rcases hx with rfl | rfl | rfl | rfl | rfl | rfl | rfl | rfl
          · exact hvok.a
          · exact hvok.b
          · exact hvok.c
          · exact hvok.d
          · exact hvok.e
          · exact hvok.f
          · exact hvok.g
          · exact hvok.h
        rw [← hVL] at hbl hVs
        obtain ⟨BL, hBL⟩ : ∃ BL, BL = block HH L := ⟨_, rfl⟩
        rw [← hBL] at hbl Hn
        have hBLl : BL.length = 8 := by rw [hbl, List.length_zipWith, hHl, hVLl]; rfl
        have Hbl := Lib.hid hbl
        have HR0 := Lib.hid hRR
        have HV0 := Lib.hid hVs
        have HBl := Lib.hid hBLl
        have HVl := Lib.hid hVLl
        have HVb := Lib.hid hVLb
        have HHl := Lib.hid hHl
        have HHb := Lib.hid hHb
        clear hX hX0 hvok hVs hRR hVL hbl hBL hBLl hVLl hVLb hHl hHb hLl hLb hLp hSLb hSLl hv0 hpm hpb hc1 hat64 HSL Hv0 Hv0l HZ HN Hml
        go_wp2_with fail
        go_loopw [283] (fun s283 wr => ∃ k : Nat, k ≤ 8 ∧ s283 = .int .i64 (k : Int) ∧ HRel w gh gk B HH BL k wr ∧ W64 B wr gv2 capv2 VL) (fun i _ => 8 - (intOf i).toNat)
        case atStart => exact ⟨0, by omega, rfl, ⟨HH, HR0.out, HHl.out, by rw [List.take_zero, List.take_zero], rfl⟩, HV0.out⟩
        case round =>
          obtain ⟨k, hk, rfl, ⟨Hp, hR, hpl, htk, hdk⟩, hV⟩ := hrel
          by_cases hk8 : k < 8
          · as_aux_lemma =>
            obtain ⟨y, hy⟩ : ∃ y, y = VL[k]'(by have := HVl.out; omega) := ⟨_, rfl⟩
            obtain ⟨z, hz⟩ : ∃ z, z = Hp[k]'(by omega) := ⟨_, rfl⟩
            have hz2 : z = HH[k]'(by have := HHl.out; omega) := by
              have e1 : (Hp.drop k)[0]? = (HH.drop k)[0]? := by rw [hdk]
              rw [List.getElem?_drop, List.getElem?_drop, Nat.add_zero, List.getElem?_eq_getElem (by omega), List.getElem?_eq_getElem (by have := HHl.out; omega)] at e1
              rw [hz]; exact Option.some.inj e1
            have by4 : y < 4294967296 := by rw [hy]; exact HVb.out _ (List.getElem_mem _)
            have bz4 : z < 4294967296 := by rw [hz2]; exact HHb.out _ (List.getElem_mem _)
            obtain ⟨x, hx⟩ : ∃ x, x = (z + y) % 4294967296 := ⟨_, rfl⟩
            have ch := hR.h.cell k (by omega)
            rw [← hz] at ch
            have fh := hR.h.froz k
            have cv := hV.cell k (by have := HVl.out; omega)
            rw [← hy] at cv
            have hlo := hV.lo
            have hhb := hR.hb
            have Hr : Hid (HRel w gh gk B HH BL (k + 1) (wr.setCell ⟨gh, k, none⟩ (.int .u64 (x : Int))).drew ∧ W64 B (wr.setCell ⟨gh, k, none⟩ (.int .u64 (x : Int))).drew gv2 capv2 VL) := Lib.hid (by
              refine ⟨⟨Hp.set k x, (hR.set k x).step (Mod.drew (Mod.refl _ _)), by rw [List.length_set]; exact hpl, ?_, ?_⟩, hV.kept (Mod.drew ((Mod.refl (· = gh) wr).setCell (p := ⟨gh, k, none⟩) (fun _ => rfl) (.int .u64 (x : Int)))) (by omega)⟩
              · rw [take_set_succ _ _ _ (by omega), htk, List.take_succ_eq_append_getElem (by have := HBl.out; omega)]
                congr 2
                rw [hx, hz2, hy]
                have := Hbl.out
                subst this
                rw [List.getElem_zipWith]
              · rw [List.drop_set_of_lt (by omega), ← List.drop_drop, hdk, List.drop_drop])
            have ia : (0 : Int) ≤ k := by omega
            have ib : (k : Int) < 8 := by omega
            have s1 : IntKind.u64.wrap ((z : Int) + y) = (z : Int) + y := by rw [IntKind.wrap_u64]; omega
            have s2 : ((z : Int) + y) % 4294967296 = (x : Int) := by rw [hx]; omega
            have s3 : ((z : Int) + y).tmod 4294967296 = (x : Int) := by rw [Int.tmod_eq_emod_of_nonneg (by omega)]; exact s2
            clear hy hz hz2 hx htk hdk hR hV hpl Hn Hbl HR0 HV0 HBl HVl HVb HHl HHb HA HP HPL HPP
            go_wp2_with fail
            go_still_tail 13, (by kernel_rfl)
            change wpList _ _ _ _ _ wr.drew
            go_wp2_with fail
            go_roundw
            case rel => exact ⟨k + 1, by omega, by go_num, Hr.out.1, Hr.out.2⟩
            case measure => simp [intOf]; omega
          · obtain rfl : k = 8 := by omega
            have hHp : Hp = BL := by
              have := HBl.out
              rw [List.take_of_length_le (by omega), List.take_of_length_le (by omega)] at htk; exact htk
            rw [hHp] at hR
            clear hHp htk hdk hpl hV HR0 HV0 HBl HVl HVb HHl HHb Hbl
            go_wp2_with fail
            go_roundw
            case rel => exact ⟨j + 1, hj1, val_int (by have := HA.out; omega), by rw [Hn.out]; exact hR⟩
            case measure => have := HA.out; simp [intOf]; omega
      · have hj64 : 64 * j = p.length := by omega
        have hfin : RefAt w gh gk B (absorb p).1 wr := by rw [wordsAt_end p j hj64]; exact hR
        rw [hj64]
        clear hj64 hlt hj hR
        go_wp2_with fail
        go_meet
        exact hfin
  case rest =>
  clear hRef
  have hE8 : (absorb p).1.length = 8 := absorb_words _
  have hEb : ∀ x ∈ (absorb p).1, x < 4294967296 := absorb_lt _
  have hsha : sha m = outTo (absorb p).1 (4 * 8) := by rw [HP.out]; rfl
  have hR := hcut
  clear hcut
  generalize (absorb p).1 = HE at hE8 hEb hsha hR
  have Hsha := Lib.hid hsha
  have HE8 := Lib.hid hE8
  have HEb := Lib.hid hEb
  have HR := Lib.hid hR
  have hc4 := fun (a b c d : Nat) (w : World) => lit_str4 (P := Tryd.prog) a b c d w Tryd.underlying43 Tryd.underlying5 Tryd.underlying9
  clear hsha hE8 hEb hR hpm hpb hc1 HZ HN HP HPL HPP Hml hps hpn hmb hl hNl
  go_wp2_with fail
  go_loopw [25, 302] (fun s25 s302 wr => ∃ k : Nat, k ≤ 8 ∧ s302 = .int .i64 (k : Int) ∧ s25 = .string (bytesOf (outTo HE (4 * k))) ∧ RefAt w gh gk B HE wr) (fun _ i _ => 8 - (intOf i).toNat)
  case atStart => exact ⟨0, by omega, rfl, rfl, HR.out⟩
  case round =>
    obtain ⟨k, hk, rfl, rfl, hR⟩ := hrel
    by_cases hk8 : k < 8
    · as_aux_lemma =>
      obtain ⟨x, hx⟩ : ∃ x, x = HE[k]'(by have := HE8.out; omega) := ⟨_, rfl⟩
      have bx : x < 4294967296 := by rw [hx]; exact HEb.out _ (List.getElem_mem _)
      have cx := hR.h.cell k (by have := HE8.out; omega)
      rw [← hx] at cx
      have hout := outTo_four HE k
      rw [getD_at _ _ (by have := HE8.out; omega), ← hx] at hout
      have hol := outTo_len HE (4 * k)
      obtain ⟨T, hT⟩ : ∃ T, T = outTo HE (4 * k) := ⟨_, rfl⟩
      rw [← hT] at hout hol ⊢
      obtain ⟨a, ha⟩ : ∃ a, a = x / 16777216 := ⟨_, rfl⟩
      obtain ⟨b1, hb1⟩ : ∃ a, a = x / 65536 := ⟨_, rfl⟩
      obtain ⟨b, hb⟩ : ∃ a, a = b1 % 256 := ⟨_, rfl⟩
      obtain ⟨c1, hc1⟩ : ∃ a, a = x / 256 := ⟨_, rfl⟩
      obtain ⟨c, hc⟩ : ∃ a, a = c1 % 256 := ⟨_, rfl⟩
      obtain ⟨d, hd⟩ : ∃ a, a = x % 256 := ⟨_, rfl⟩
      have hfour : four x = [a, b, c, d] := by unfold four; rw [ha, hb, hb1, hc, hc1, hd]; rw [Nat.mod_eq_of_lt (show x / 16777216 < 256 by omega)]
      rw [hfour] at hout
      have x0 : (0 : Int) ≤ x := by omega
      have d1 : (x : Int).tdiv 16777216 = (a : Int) := by rw [Int.tdiv_eq_ediv_of_nonneg x0, ha]; omega
      have d2 : (x : Int).tdiv 65536 = (b1 : Int) := by rw [Int.tdiv_eq_ediv_of_nonneg x0, hb1]; omega
      have d3 : (b1 : Int).tmod 256 = (b : Int) := by rw [Int.tmod_eq_emod_of_nonneg (by omega), hb]; omega
      have d4 : (x : Int).tdiv 256 = (c1 : Int) := by rw [Int.tdiv_eq_ediv_of_nonneg x0, hc1]; omega
      have d5 : (c1 : Int).tmod 256 = (c : Int) := by rw [Int.tmod_eq_emod_of_nonneg (by omega), hc]; omega
      have d6 : (x : Int).tmod 256 = (d : Int) := by rw [Int.tmod_eq_emod_of_nonneg x0, hd]; omega
      have e1 : (a : Int) % 256 = (a : Int) := by omega
      have e2 : (b : Int) % 256 = (b : Int) := by omega
      have e3 : (c : Int) % 256 = (c : Int) := by omega
      have e4 : (d : Int) % 256 = (d : Int) := by omega
      have w1 : IntKind.u64.wrap (a : Int) = (a : Int) := by rw [IntKind.wrap_u64]; omega
      have w2 : IntKind.u64.wrap (b1 : Int) = (b1 : Int) := by rw [IntKind.wrap_u64]; omega
      have w3 : IntKind.u64.wrap (c1 : Int) = (c1 : Int) := by rw [IntKind.wrap_u64]; omega
      have hcc := fun w => hc4 a b c d w
      have zT : (bytesOf T).size = 4 * k := by rw [bytesOf_size, hol]
      have z4 : (bytesOf [a, b, c, d]).size = 4 := rfl
      have l1 : ¬ 9223372036854775807 < 4 * k + 4 := by omega
      have Hout : Hid (bytesOf T ++ bytesOf [a, b, c, d] = bytesOf (outTo HE (4 * (k + 1)))) := Lib.hid (by rw [bytesOf_app, hout])
      have ia : (0 : Int) ≤ k := by omega
      have ib : (k : Int) < 8 := by omega
      have HRk := Lib.hid hR
      clear hc4 hout hT hol ha hb hb1 hc hc1 hd hfour hx hR HE8 HEb HR Hsha
      go_wp2_with fail
      go_roundw
      case rel => exact ⟨k + 1, by omega, by go_num, by rw [Hout.out], HRk.out.step ((Mod.refl _ _).alloc _)⟩
      case measure => simp [intOf]; omega
    · obtain rfl : k = 8 := by omega
      rw [← Hsha.out]
      clear HE8 HEb HR hc4
      go_wp2_with fail
      go_ret
      exact ⟨rfl, hR.m⟩
end Go.Proofs.YtiegakeacghnfaaDoor


namespace Go.Proofs.YtiegakeacghnfaaDoor
open Go.RowKit

theorem refofB (s : List UInt8) (w : World) (hl : s.length ≤ 1073741824) :
    Calls Tryd.prog 41 #[.string ⟨s.toArray⟩] w fun r w' => r = .returned (.string ⟨(shaB s).toArray⟩) ∧ Below w.heap.size w w' :=
  (refof_any s w hl).mono fun _ _ ⟨h1, h2⟩ => ⟨by rw [h1, sha_bytes], h2.to_below (Nat.le_refl _) (fun _ _ h => h)⟩
end Go.Proofs.YtiegakeacghnfaaDoor
