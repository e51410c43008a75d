/- The document's numbers: at, Add. -/
import Derived.Test.YtepibfpdkjkdjaaDoorN18
import Derived.Test.YtepibfpdkjkdjaaDoorVal
namespace Go.Proofs.YtepibfpdkjkdjaaDoor
open Go.RowKit

theorem rat_any (p : Option Addr) (cap n i : Nat) (A : List Nat) (w : World) (hS : Sl .i64 3 w p cap A) (hn : A.length = n) :
    Calls Tryd.prog 50 #[.slice p n cap, .int .i64 (i : Int)] w fun r w' => r = .returned (.int .i64 ((A.getD i 0 : Nat) : Int)) ∧ w = w' := by
  by_cases hi : i < n
  · have hil : i < A.length := by omega
    have hne : A ≠ [] := by intro e; rw [e] at hil; simp at hil
    obtain ⟨g, rfl⟩ := hS.isPtr hne
    have hc := hS.cell i hil
    have hg : A.getD i 0 = A[i] := by simp [hil]
    rw [hg]
    generalize A[i] = v at hc ⊢
    have i0 : (0 : Int) ≤ i := by omega
    have i1 : (i : Int) < n := by omega
    clear hg hil hne hS hn
    go_enter Tryd.func50, Tryd.ntmps50
    go_wp2_with fail
    go_ret
    exact ⟨rfl, rfl⟩
  · have hg : A.getD i 0 = 0 := by simp [List.getElem?_eq_none (show A.length ≤ i by omega)]
    rw [hg]
    have i1 : ¬ (i : Int) < n := by omega
    clear hg hn hi
    go_enter Tryd.func50, Tryd.ntmps50
    go_wp2_with fail
    go_ret
    exact ⟨rfl, rfl⟩

/-- A call answers the number's digits, in new memory. -/
def DecOut (w : World) (z : Nat) (r : Ending) (w' : World) : Prop :=
  ∃ q c, r = .returned (.slice q (dg 10 z).length c) ∧ DecIn w' q c z ∧ Below w.heap.size w w' ∧ (∀ a, q = some a → w.heap.size ≤ a.block)

/-- Digits are gathered in a row of its own. -/
structure AccR (w : World) (i : Nat) (D : List Nat) (q : Option Addr) (c : Nat) (wr : World) : Prop where
  s : Sl .i64 3 wr q c D
  len : D.length = i
  lt : ∀ z ∈ D, z < 10
  new : ∀ a, q = some a → w.heap.size ≤ a.block
  m : Below w.heap.size w wr
theorem AccR.push {w : World} {i : Nat} {D : List Nat} {q : Option Addr} {c : Nat} {wr w' : World} (h : AccR w i D q c wr) {d : Nat} (hd : d < 10) {q' : Option Addr} {c' : Nat} (hP : Pushed .i64 3 wr q (D ++ [d]) q' c' w') : AccR w (i + 1) (D ++ [d]) q' c' w' := by
  obtain ⟨hS, hm, g, rfl, hor⟩ := hP
  refine ⟨hS, by rw [List.length_append, h.len]; rfl, ?_, ?_, h.m.trans (hm.to_below h.m.size (by rintro j hj ⟨a, e, rfl⟩; have := h.new a e; omega))⟩
  · intro z hz
    rw [List.mem_append, List.mem_singleton] at hz
    rcases hz with h1 | rfl
    · exact h.lt z h1
    · exact hd
  · rintro a e; cases e
    rcases hor with h1 | h1
    · exact h.new _ h1
    · exact Nat.le_trans h.m.size h1
theorem AccR.empty (w : World) : AccR w 0 [] (some ⟨w.heap.size, 0, none⟩) 0 (w.alloc (.cells #[] 3)) :=
  ⟨Sl.made (k := .i64) (T := 3) w [] (by simp [maxLen]), rfl, by simp, (fun a e => by cases e; exact Nat.le_refl _), (Below.refl _ _).alloc (Nat.le_refl _) _⟩

theorem dlen_le {z k : Nat} (h : z < 10 ^ k) : (dg 10 z).length ≤ k := dg_len_le 10 (by decide) z k h
theorem dlt (z : Nat) : z < 10 ^ (dg 10 z).length := lt_pow_dg 10 (by decide) z

set_option maxHeartbeats 2000000 in
set_option maxRecDepth 20000 in
theorem radd_any (p q : Option Addr) (cp cq x y : Nat) (w : World) (hx : DecIn w p cp x) (hy : DecIn w q cq y) (lx : (dg 10 x).length ≤ 100000) (ly : (dg 10 y).length ≤ 100000) :
    Calls Tryd.prog 23 #[.slice p (dg 10 x).length cp, .slice q (dg 10 y).length cq] w (DecOut w (x + y)) := by
  obtain ⟨la, hla⟩ : ∃ n, (dg 10 x).length = n := ⟨_, rfl⟩
  obtain ⟨lb', hlb⟩ : ∃ n, (dg 10 y).length = n := ⟨_, rfl⟩
  rw [hla] at lx ⊢
  rw [hlb] at ly ⊢
  have Hla := Lib.hid hla
  have Hlb := Lib.hid hlb
  have hxl : Hid (x < 10 ^ la) := Lib.hid (by rw [← hla]; exact dlt x)
  have hyl : Hid (y < 10 ^ lb') := Lib.hid (by rw [← hlb]; exact dlt y)
  have hK := AccR.empty w
  clear hla hlb
  go_enter Tryd.func23, Tryd.ntmps23
  go_wp2_with fail
  generalize (w.alloc (.cells #[] 3)) = W at hK ⊢
  obtain ⟨M, hM⟩ : ∃ M, M = max la lb' := ⟨_, rfl⟩
  have HM := Lib.hid hM
  have hMl : M ≤ 100000 := by omega
  clear hM
  go_loopw [5, 6, 7] (fun s5 s6 s7 wr => ∃ (i c : Nat) (D : List Nat) (pq : Option Addr) (cq' : Nat), s5 = .slice pq i cq' ∧ s6 = .int .i64 (c : Int) ∧ s7 = .int .i64 (i : Int) ∧ i ≤ M + 1 ∧ c ≤ 1 ∧ AccR w i D pq cq' wr ∧ Hid (vl 10 D + 10 ^ i * c = x % 10 ^ i + y % 10 ^ i)) (fun _ _ i _ => M + 1 - (intOf i).toNat)
  case atStart => exact ⟨0, 0, [], _, 0, rfl, rfl, rfl, by omega, by omega, hK, Lib.hid (by simp [vl, Nat.mod_one])⟩
  case round =>
    clear hK
    obtain ⟨i, c, D, pq, cq', rfl, rfl, rfl, hiM, hc1, hR, hval⟩ := hrel
    have hend : Hid (M ≤ i → vl 10 D + 10 ^ i * c = x + y) := Lib.hid (by
      intro h
      have hm := HM.out
      rw [hval.out, Nat.mod_eq_of_lt (Nat.lt_of_lt_of_le hxl.out (Nat.pow_le_pow_right (by decide) (by omega))), Nat.mod_eq_of_lt (Nat.lt_of_lt_of_le hyl.out (Nat.pow_le_pow_right (by decide) (by omega)))])
    by_cases hgo : i < la ∨ i < lb' ∨ 0 < c
    · have hiM2 : i ≤ M := by
        have hm := HM.out
        rcases hgo with h | h | h
        · omega
        · omega
        · apply Nat.le_of_not_lt
          intro hlt
          have e : i = M + 1 := by omega
          have h1 := hend.out (by omega)
          have hx2 := Nat.lt_of_lt_of_le hxl.out (Nat.pow_le_pow_right (n := 10) (by decide) (show la ≤ M by omega))
          have hy2 := Nat.lt_of_lt_of_le hyl.out (Nat.pow_le_pow_right (n := 10) (by decide) (show lb' ≤ M by omega))
          have h2 : 10 ^ i * 1 ≤ 10 ^ i * c := Nat.mul_le_mul_left _ h
          rw [e, Nat.pow_succ] at h2
          rw [e, Nat.pow_succ] at h1
          omega
      have hcond : (i : Int) < la ∨ (¬ (i : Int) < la ∧ (i : Int) < lb') ∨ (¬ (i : Int) < la ∧ ¬ (i : Int) < lb' ∧ (0 : Int) < c) := by omega
      obtain ⟨dx, hdx⟩ : ∃ d, d = x / 10 ^ i % 10 := ⟨_, rfl⟩
      obtain ⟨dy, hdy⟩ : ∃ d, d = y / 10 ^ i % 10 := ⟨_, rfl⟩
      have ldx : dx < 10 := by rw [hdx]; exact Nat.mod_lt _ (by decide)
      have ldy : dy < 10 := by rw [hdy]; exact Nat.mod_lt _ (by decide)
      have hax : ∀ wr, Below w.heap.size w wr → Calls Tryd.prog 50 #[.slice p la cp, .int .i64 (i : Int)] wr fun r w' => r = .returned (.int .i64 (dx : Int)) ∧ wr = w' := by
        intro wr hb
        have := rat_any p cp la i (dg 10 x) wr (hx.old hb) Hla.out
        rw [dg_getD 10 (by decide) x i, ← hdx] at this; exact this
      have hay : ∀ wr, Below w.heap.size w wr → Calls Tryd.prog 50 #[.slice q lb' cq, .int .i64 (i : Int)] wr fun r w' => r = .returned (.int .i64 (dy : Int)) ∧ wr = w' := by
        intro wr hb
        have := rat_any q cq lb' i (dg 10 y) wr (hy.old hb) Hlb.out
        rw [dg_getD 10 (by decide) y i, ← hdy] at this; exact this
      obtain ⟨s, hs⟩ : ∃ s, s = c + dx + dy := ⟨_, rfl⟩
      have hst := add_step 10 x y i (vl 10 D) c s (by rw [hs, hdx, hdy]) hval.out
      obtain ⟨d, hd⟩ : ∃ d, d = s % 10 := ⟨_, rfl⟩
      obtain ⟨c2, hc2⟩ : ∃ d, d = s / 10 := ⟨_, rfl⟩
      have hval2 : Hid (vl 10 (D ++ [d]) + 10 ^ (i + 1) * c2 = x % 10 ^ (i + 1) + y % 10 ^ (i + 1)) := Lib.hid (by
        rw [vl_app, hR.len]
        simp only [vl, Nat.mul_zero, Nat.add_zero]
        rw [hd, hc2]; exact hst)
      have e1 : IntKind.i64.wrap ((dx : Int) + dy) = (dx : Int) + dy := by rw [IntKind.wrap_i64]; omega
      have e2 : (dx : Int) + dy + c = s := by omega
      have e3 : IntKind.i64.wrap (s : Int) = s := by rw [IntKind.wrap_i64]; omega
      have e4 : (s : Int).tmod 10 = d := by rw [Int.tmod_eq_emod_of_nonneg (by omega)]; omega
      have e5 : (s : Int) % 10 = d := by omega
      have e6 : (s : Int).tdiv 10 = c2 := by rw [Int.tdiv_eq_ediv_of_nonneg (by omega)]; omega
      have e7 : (s : Int) / 10 = c2 := by omega
      have hc21 : c2 ≤ 1 := by omega
      have hd10 : d < 10 := by omega
      have HD := Lib.hid hR.len
      have hax1 := hax wr hR.m
      have hay1 := hay wr hR.m
      have Hax := Lib.hid hax1
      have Hay := Lib.hid hay1
      have hRs := hR.s
      have w1 : IntKind.i64.wrap ((i : Int) + 1) = (i : Int) + 1 := by rw [IntKind.wrap_i64]; omega
      clear hst hval hend hdx hdy hs hd hc2 hgo hax hay hax1 hay1 ldx ldy
      rcases hcond with b1 | ⟨b1, b2⟩ | ⟨b1, b2, b3⟩
      all_goals
        go_wp2_with fail
        refine Hax.out.mono ?_
        rintro r w2 ⟨rfl, rfl⟩
        go_wp2_with fail
        refine Hay.out.mono ?_
        rintro r w2 ⟨rfl, rfl⟩
        go_wp2_with (at_builtin; refine wpList_push rfl _ _ .i64 26 3 (.int .i64 0) 8 rfl Tryd.underlying26 info_int rfl (by decide) pq cq' i 1 D [d] HD.out rfl (by decide) rfl hRs rfl (by omega) ?_; intro pq2 cq2 W5 hP)
        have hR5 := hR.push hd10 hP
        clear hP hR hRs
        go_wp2_with fail
        go_roundw
        case rel => exact ⟨i + 1, c2, D ++ [d], pq2, cq2, rfl, rfl, by go_num, by omega, hc21, hR5, hval2⟩
        case measure => simp [intOf]; omega
    · have hc0 : c = 0 := by omega
      subst hc0
      have b1 : ¬ (i : Int) < la := by omega
      have b2 : ¬ (i : Int) < lb' := by omega
      have hv := hend.out (by have := HM.out; omega)
      rw [Nat.mul_zero, Nat.add_zero] at hv
      have htr := rtrim_any pq cq' i D wr hR.s hR.len hR.lt (by omega)
      rw [hv] at htr
      clear hv hval hend hgo
      go_wp2_with fail
      refine htr.mono ?_
      clear htr
      rintro r w2 ⟨rfl, hD, rfl⟩
      have hB := hR.m
      have hnew := hR.new
      clear hR
      go_wp2_with fail
      go_ret
      exact ⟨pq, cq', rfl, hD, hB, hnew⟩
end Go.Proofs.YtepibfpdkjkdjaaDoor
