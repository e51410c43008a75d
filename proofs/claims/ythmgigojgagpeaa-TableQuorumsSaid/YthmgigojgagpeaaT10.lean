/- The document's Quorum. -/
import Derived.Test.YthmgigojgagpeaaT9
namespace Go.Proofs.Ythmgigojgagpeaa
open Go.RowKit

theorem esum_le (E : List (Nat × Nat)) (h : ∀ e ∈ E, e.2 ≤ 1099511627776) : esum E ≤ E.length * 1099511627776 := by
  induction E with
  | nil => exact Nat.le_refl _
  | cons e E ih =>
    have h1 := h e (by simp)
    have h2 := ih (fun f hf => h f (by simp [hf]))
    rw [esum_cons, List.length_cons, Nat.add_mul]; omega
theorem ein_app (S : List Int) (A B : List (Nat × Nat)) : ein S (A ++ B) = ein S A ++ ein S B := List.filter_append ..

set_option maxRecDepth 20000 in
set_option maxHeartbeats 8000000 in
theorem rquorum_any (ao : Option Addr) (cap : Nat) (E : List (Nat × Nat)) (bo : Option Addr) (capS : Nat) (S : List Int) (w : World) (hE : EntsAt w ao E) (hok : EntsOk E 1) (hl : E.length ≤ 64) (hS : IntsAt w bo S) (hlS : S.length ≤ 1000000) :
    Calls Try.prog 11 #[.slice ao E.length cap, .slice bo S.length capS] w fun r w' => r = .returned (.bool (decide (2 * esum E < 3 * esum (ein S E)))) ∧ Below w.heap.size w w' := by
  have hrt := fun w h => rtotal_any ao cap E w h hok hl
  have hle := Nat.le_trans (esum_le E fun e he => (hok.p e he).2) (Nat.mul_le_mul_right _ hl)
  obtain ⟨n, hn⟩ : ∃ n, E.length = n := ⟨_, rfl⟩
  rw [hn] at hl hrt ⊢
  obtain ⟨nS, hnS⟩ : ∃ n, S.length = n := ⟨_, rfl⟩
  rw [hnS] at hlS ⊢
  have Hn := Lib.hid hn
  have HnS := Lib.hid hnS
  have HE := Lib.hid hE
  have HS := Lib.hid hS
  have Hok := Lib.hid hok
  have Hrt := Lib.hid hrt
  have Hle := Lib.hid hle
  clear hn hnS hE hS hok hrt hle
  go_enter Try.func11, Try.ntmps11
  go_wp2_with fail
  go_loopw [5, 13] (fun s5 s13 wr => ∃ (i t : Nat), i ≤ n ∧ s5 = .int .i64 (t : Int) ∧ s13 = .int .i64 (i : Int) ∧ t ≤ i * 1099511627776 ∧ Hid (t = esum (ein S (E.take i))) ∧ Below w.heap.size w wr) (fun _ i _ => n - (intOf i).toNat)
  case atStart => exact ⟨0, 0, by omega, rfl, rfl, by omega, Lib.hid rfl, Below.refl _ _⟩
  case round =>
    obtain ⟨i, t, hi, rfl, rfl, htb, ht, hB⟩ := hrel
    by_cases hin : i < n
    · have hil : i < E.length := by rw [Hn.out]; exact hin
      obtain ⟨bs, off, rfl, hbs, c1, c2⟩ := (HE.out.old hB) i hil
      have hp := Hok.out.p E[i] (List.getElem_mem hil)
      obtain ⟨m, hm0⟩ : ∃ m, m = E[i].1 := ⟨_, rfl⟩
      obtain ⟨p, hp0⟩ : ∃ m, m = E[i].2 := ⟨_, rfl⟩
      have hty : Hid ((m : Int) ∈ S → t + p = esum (ein S (E.take (i + 1)))) := Lib.hid (by
        intro hs
        rw [← List.take_append_getElem hil, ein_app, esum_app, ← ht.out]
        unfold ein
        rw [List.filter_cons, if_pos (by rw [← hm0]; exact decide_eq_true hs), List.filter_nil, esum_one, hp0])
      have htn : Hid (¬ (m : Int) ∈ S → t = esum (ein S (E.take (i + 1)))) := Lib.hid (by
        intro hs
        rw [← List.take_append_getElem hil, ein_app, esum_app, ← ht.out]
        unfold ein
        rw [List.filter_cons, if_neg (by rw [← hm0, decide_eq_false hs]; decide), List.filter_nil]; rfl)
      rw [← hp0] at hp c2
      rw [← hm0] at c1
      have i1 : (i : Int) < n := by omega
      have i0 : (0 : Int) ≤ i := by omega
      have w1 : IntKind.i64.wrap ((t : Int) + p) = (t : Int) + p := by rw [IntKind.wrap_i64]; omega
      have hb2 : t + p ≤ (i + 1) * 1099511627776 := by rw [Nat.add_mul, Nat.one_mul]; exact Nat.add_le_add htb hp.2
      have hb3 : t ≤ (i + 1) * 1099511627776 := Nat.le_trans htb (Nat.mul_le_mul_right _ (Nat.le_succ i))
      obtain ⟨W3, hW3⟩ : ∃ W, W = wr.alloc (.cells #[.int .i64 (m : Int), .int .i64 (p : Int)] 46) := ⟨_, rfl⟩
      have hB3 : Below w.heap.size w W3 := by rw [hW3]; exact hB.alloc hB.size _
      have hst : W3.heap[wr.heap.size]? = some (.cells #[.int .i64 (m : Int), .int .i64 (p : Int)] 46 (0, 0)) := by rw [hW3]; exact heap_alloc_new _ _
      have s0 : W3.cell? ⟨wr.heap.size, 0, none⟩ = some (.int .i64 (m : Int)) := by rw [cell_of_row W3 wr.heap.size 0 _ 46 (0, 0) hst]; rfl
      have s1 : W3.cell? ⟨wr.heap.size, 1, none⟩ = some (.int .i64 (p : Int)) := by rw [cell_of_row W3 wr.heap.size 1 _ 46 (0, 0) hst]; rfl
      clear hm0 hp0 hp ht htb hst
      go_upto_region 5 with fail
      rw [← hW3]
      clear hW3 c1 c2
      have HS3 := Lib.hid (HS.out.old hB3)
      generalize wr.heap.size = g at s0 s1 ⊢
      go_wp2_with fail
      go_loopw [8, 19] (fun s8 s19 wx => ∃ (j : Nat) (b : Bool), j ≤ nS ∧ s8 = .bool b ∧ s19 = .int .i64 (j : Int) ∧ Hid (b = decide ((m : Int) ∈ S.take j)) ∧ wx = W3) (fun _ j _ => nS - (intOf j).toNat)
      case atStart => exact ⟨0, false, by omega, rfl, rfl, Lib.hid (by simp), rfl⟩
      case round =>
        obtain ⟨j, b, hj, rfl, rfl, hb, rfl⟩ := hrel
        by_cases hjn : j < nS
        · have hjl : j < S.length := by rw [HnS.out]; exact hjn
          obtain ⟨bs2, off2, rfl, hbs2, d1⟩ := HS3.out j hjl
          have hb' : Hid (decide ((m : Int) ∈ S.take (j + 1)) = (b || decide ((m : Int) = S[j]))) := Lib.hid (by
            rw [hb.out, ← List.take_append_getElem hjl]
            simp only [List.mem_append, List.mem_singleton, Bool.decide_or])
          generalize S[j] = x at d1 hb'
          have j1 : (j : Int) < nS := by omega
          have j0 : (0 : Int) ≤ j := by omega
          clear hb
          cases b with
          | true =>
            go_wp2_with fail
            go_roundw
            case rel => exact ⟨j + 1, true, by omega, rfl, by go_num, Lib.hid (by rw [hb'.out]; rfl), trivial⟩
            case measure => simp [intOf]; omega
          | false =>
            by_cases hx : x = (m : Int)
            · have bx : (x == (m : Int)) = true := by rw [beq_iff_eq]; exact hx
              have hd : Hid (true = decide ((m : Int) ∈ S.take (j + 1))) := Lib.hid (by rw [hb'.out, hx]; simp)
              clear hx hb'
              go_wp2_with fail
              go_roundw
              case rel => exact ⟨j + 1, true, by omega, rfl, by go_num, hd, trivial⟩
              case measure => simp [intOf]; omega
            · have bx : (x == (m : Int)) = false := by rw [beq_eq_false_iff_ne]; exact hx
              have hd : Hid (false = decide ((m : Int) ∈ S.take (j + 1))) := Lib.hid (by rw [hb'.out]; simp; exact fun e => hx e.symm)
              clear hx hb'
              go_wp2_with fail
              go_roundw
              case rel => exact ⟨j + 1, false, by omega, rfl, by go_num, hd, trivial⟩
              case measure => simp [intOf]; omega
        · obtain rfl : j = nS := by omega
          rw [List.take_of_length_le (by rw [HnS.out]; exact Nat.le_refl _)] at hb
          cases b with
          | true =>
            have hs : Hid (t + p = esum (ein S (E.take (i + 1)))) := Lib.hid (hty.out (of_decide_eq_true hb.out.symm))
            clear hty htn hb
            go_wp2_with fail
            go_roundw
            case rel => exact ⟨i + 1, t + p, by omega, by go_num, by go_num, hb2, hs, hB3⟩
            case measure => simp [intOf]; omega
          | false =>
            have hs : Hid (t = esum (ein S (E.take (i + 1)))) := Lib.hid (htn.out (of_decide_eq_false hb.out.symm))
            clear hty htn hb
            go_wp2_with fail
            go_roundw
            case rel => exact ⟨i + 1, t, by omega, rfl, by go_num, hb3, hs, hB3⟩
            case measure => simp [intOf]; omega
    · obtain rfl : i = n := by omega
      rw [List.take_of_length_le (by rw [Hn.out]; exact Nat.le_refl _)] at ht
      have hE2 := HE.out.old hB
      obtain ⟨T, hT⟩ : ∃ T, T = esum E := ⟨_, rfl⟩
      have hle := Hle.out
      have hrt := Hrt.out
      rw [← hT] at hle hrt
      have wq : IntKind.i64.wrap (3 * (t : Int)) = 3 * (t : Int) := by rw [IntKind.wrap_i64]; omega
      have wp' : IntKind.i64.wrap (2 * (T : Int)) = 2 * (T : Int) := by rw [IntKind.wrap_i64]; omega
      obtain ⟨b, hb1, hb2⟩ : ∃ b : Bool, decide (2 * (T : Int) < 3 * (t : Int)) = b ∧ decide (2 * T < 3 * t) = b := by
        by_cases h : 2 * T < 3 * t
        · exact ⟨true, by simp; omega, by simp; omega⟩
        · exact ⟨false, by simp; omega, by simp; omega⟩
      have Hb2 : Hid (decide (2 * esum E < 3 * esum (ein S E)) = b) := Lib.hid (by rw [← hT, ← ht.out]; exact hb2)
      have Hrt2 := Lib.hid hrt
      clear Hrt hrt Hle hT ht hb2 hle htb
      go_wp2_with fail
      refine (Hrt2.out _ hE2).mono ?_
      rintro r w2 ⟨rfl, hbw⟩
      go_wp2_with fail
      go_ret
      exact ⟨by rw [Hb2.out]; rfl, hB.trans (hbw.mono hB.size)⟩
end Go.Proofs.Ythmgigojgagpeaa
