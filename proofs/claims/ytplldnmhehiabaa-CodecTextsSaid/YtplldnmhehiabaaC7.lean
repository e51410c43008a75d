import Derived.Test.YtplldnmhehiabaaC6
import Derived.OpenShut
namespace Go.Proofs.Ytplldnmhehiabaa
open Go.RowKit

theorem numS_num (x : Int) (hx : x ≤ 9223372036854775807) (r : List UInt8) : numS (numL x ++ r) 0 9223372036854775807 = (max x 0, r, 0) := by
  have h := headL_num x.toNat (by omega) r
  rw [← numL_toNat] at h
  unfold numS
  rw [h]
  simp only [ne_eq, not_true_eq_false, if_false, List.drop_left]
  rw [if_neg (by omega)]
  congr 1
  omega

theorem begins_false {x y : Int} (hx : x ≤ 9223372036854775807) (hy : y ≤ 9223372036854775807) (h : max x 0 ≠ max y 0) (k : Nat) : ((numL y).take k == numL x) = false := by
  rw [beq_eq_false_iff_ne]
  intro e
  have e2 : numL y = numL x ++ (numL y).drop k := by rw [← e, List.take_append_drop]
  rw [numL_toNat x, numL_toNat y] at e2
  have := numL_inj x.toNat y.toNat (by omega) (by omega) _ e2
  omega

set_option maxHeartbeats 1000000 in
theorem codecNums_any (x y : Int) (w : World) (hx0 : -9223372036854775808 ≤ x) (hx : x ≤ 9223372036854775807) (hy0 : -9223372036854775808 ≤ y) (hy : y ≤ 9223372036854775807) :
    Calls Try.prog 3 #[.int .i64 x, .int .i64 y] w fun r w' => r = .returned (.bool true) ∧ Below w.heap.size w w' := by
  go_enter Try.func3, Try.ntmps3
  go_wp2_with fail
  refine (awake_any w).mono ?_
  rintro r w0 ⟨rfl, hB0⟩
  have hA : OutAt 25 5 (((w0.alloc (.cells #[.slice none 0 0] 25)).alloc (.cells #[.slice none 0 0] 25)).alloc (.cells #[.slice none 0 0] 25)) w0.heap.size (.slice none 0 0) [] := ((OutAt.fresh w0).alloc _).alloc _
  have hB : OutAt 25 5 (((w0.alloc (.cells #[.slice none 0 0] 25)).alloc (.cells #[.slice none 0 0] 25)).alloc (.cells #[.slice none 0 0] 25)) (w0.heap.size + 1) (.slice none 0 0) [] := by
    have := (OutAt.fresh (T := 25) (E := 5) (w0.alloc (.cells #[.slice none 0 0] 25))).alloc (.cells #[.slice none 0 0] 25)
    simpa using this
  have hC : OutAt 25 5 (((w0.alloc (.cells #[.slice none 0 0] 25)).alloc (.cells #[.slice none 0 0] 25)).alloc (.cells #[.slice none 0 0] 25)) (w0.heap.size + 1 + 1) (.slice none 0 0) [] := by
    have := (OutAt.fresh (T := 25) (E := 5) ((w0.alloc (.cells #[.slice none 0 0] 25)).alloc (.cells #[.slice none 0 0] 25)))
    simpa using this
  have hS : w0.heap.size + 3 = (((w0.alloc (.cells #[.slice none 0 0] 25)).alloc (.cells #[.slice none 0 0] 25)).alloc (.cells #[.slice none 0 0] 25)).heap.size := by simp
  have hW : Below w.heap.size w (((w0.alloc (.cells #[.slice none 0 0] 25)).alloc (.cells #[.slice none 0 0] 25)).alloc (.cells #[.slice none 0 0] 25)) := by
    have := hB0.size
    exact ((hB0.alloc this _).alloc (by simp; omega) _).alloc (by simp; omega) _
  have hNw := hB0.size
  clear hB0
  go_wp2_with fail
  generalize (((w0.alloc (.cells #[.slice none 0 0] 25)).alloc (.cells #[.slice none 0 0] 25)).alloc (.cells #[.slice none 0 0] 25)) = W0 at hA hB hC hS hW ⊢
  generalize w0.heap.size = N at hA hB hC hS hNw ⊢
  have hlx := numL_len x (by omega)
  have hly := numL_len y (by omega)
  -- o.Num(x)
  refine (num_any x N _ [] W0 hx0 hx hA (by simp)).mono ?_
  rintro r w1 ⟨rfl, v1, hA1, hM1, hv1⟩
  rw [List.nil_append] at hA1
  have hr1 : ∀ k, v1.ownBlock = some k → N + 3 ≤ k := by
    intro k hk; rcases hv1 with h | h
    · rw [h] at hk; simp [Value.ownBlock] at hk
    · have := h k hk; omega
  have hB1 := hB.kept hM1 (by rintro (h | h) <;> first | omega | simp [Value.ownBlock] at h) (by simp [Value.ownBlock])
  have hC1 := hC.kept hM1 (by rintro (h | h) <;> first | omega | simp [Value.ownBlock] at h) (by simp [Value.ownBlock])
  have hW1 : Below w.heap.size w w1 := hW.trans (hM1.to_below (by omega) (by rintro k hk (h | h) <;> first | omega | simp [Value.ownBlock] at h))
  have hs1 := hM1.size
  clear hA hB hC hM1 hv1 hW
  -- o.Num(y)
  go_wp2_with fail
  refine (num_any y N v1 _ w1 hy0 hy hA1 (by omega)).mono ?_
  rintro r w2 ⟨rfl, v2, hA2, hM2, hv2⟩
  have hB2 := hB1.kept hM2 (by rintro (h | h) <;> first | omega | (have := hr1 _ h; omega)) (by simp [Value.ownBlock])
  have hC2 := hC1.kept hM2 (by rintro (h | h) <;> first | omega | (have := hr1 _ h; omega)) (by simp [Value.ownBlock])
  have hW2 : Below w.heap.size w w2 := hW1.trans (hM2.to_below (by omega) (by rintro k hk (h | h) <;> first | omega | (have := hr1 _ h; omega)))
  have hs2 := hM2.size
  clear hA1 hB1 hC1 hM2 hv2 hW1 hr1
  go_wp2_with fail
  refine (bytes_any N v2 _ w2 hA2).mono ?_
  rintro r w2' ⟨rfl, rfl⟩
  clear hA2
  -- a.Num(x)
  go_wp2_with fail
  refine (num_any x (N + 1) _ [] w2 hx0 hx hB2 (by simp)).mono ?_
  rintro r w3 ⟨rfl, v3, hB3, hM3, hv3⟩
  rw [List.nil_append] at hB3
  have hC3 := hC2.kept hM3 (by rintro (h | h) <;> first | omega | simp [Value.ownBlock] at h) (by simp [Value.ownBlock])
  have hW3 : Below w.heap.size w w3 := hW2.trans (hM3.to_below (by omega) (by rintro k hk (h | h) <;> first | omega | simp [Value.ownBlock] at h))
  have hs3 := hM3.size
  clear hB2 hC2 hM3 hv3 hW2
  go_wp2_with fail
  refine (bytes_any (N + 1) v3 _ w3 hB3).mono ?_
  rintro r w3' ⟨rfl, rfl⟩
  clear hB3
  -- b.Num(y)
  go_wp2_with fail
  refine (num_any y (N + 1 + 1) _ [] w3 hy0 hy hC3 (by simp)).mono ?_
  rintro r w4 ⟨rfl, v4, hC4, hM4, hv4⟩
  rw [List.nil_append] at hC4
  have hW4 : Below w.heap.size w w4 := hW3.trans (hM4.to_below (by omega) (by rintro k hk (h | h) <;> first | omega | simp [Value.ownBlock] at h))
  have hs4 := hM4.size
  clear hC3 hM4 hv4 hW3
  go_wp2_with fail
  refine (bytes_any (N + 1 + 1) v4 _ w4 hC4).mono ?_
  rintro r w4' ⟨rfl, rfl⟩
  clear hC4
  -- Of
  go_wp2_with fail
  refine (of_any (numL x ++ numL y) w4 (by rw [List.length_append]; omega)).mono ?_
  rintro r w5 ⟨bi, rfl, hbi, hI5, hb5⟩
  have hW5 := hW4.trans (hb5.mono (by omega))
  have hs5 := hb5.size
  clear hW4 hb5
  -- two numbers
  go_wp2_with fail
  refine (innum_any bi (numL x ++ numL y) 0 9223372036854775807 w5 hI5 (by rw [List.length_append]; omega)).mono ?_
  rintro r w6 ⟨rfl, hI6, hM6⟩
  rw [numS_num x hx] at hI6 ⊢
  have hW6 := hW5.trans (hM6.to_below (B := w.heap.size) (by omega) (by intro k hk h; omega))
  have hs6 := hM6.size
  clear hI5 hM6 hW5
  go_wp2_with fail
  refine (innum_any bi (numL y) 0 9223372036854775807 w6 hI6 (by omega)).mono ?_
  rintro r w7 ⟨rfl, hI7, hM7⟩
  have hn2 := numS_num y hy []
  rw [List.append_nil] at hn2
  rw [hn2] at hI7 ⊢
  have hW7 := hW6.trans (hM7.to_below (B := w.heap.size) (by omega) (by intro k hk h; omega))
  have hs7 := hM7.size
  clear hI6 hM7 hW6 hn2
  have hsz : w.heap.size ≤ w7.heap.size := by omega
  clear hs1 hs2 hs3 hs4 hs5 hs6 hs7 hS
  have hR1 : Hid (∀ w, Calls Try.prog 10 #[.int .i64 x] w fun r w' => r = .returned (.string ⟨(numL x).toArray⟩) ∧ Below w.heap.size w w') := Lib.hid (fun w => refnum_any x w hx0 hx)
  have hR2 : Hid (∀ w, Calls Try.prog 10 #[.int .i64 y] w fun r w' => r = .returned (.string ⟨(numL y).toArray⟩) ∧ Below w.heap.size w w') := Lib.hid (fun w => refnum_any y w hy0 hy)
  have hbf := fun h => begins_false hx hy h (numL x).length
  have hxy : max x 0 = max y 0 → numL x = numL y := fun h => by rw [numL_toNat x, numL_toNat y, show x.toNat = y.toNat by omega]
  have happ := ByteArray.mk_append_mk (numL x) (numL y)
  generalize numL x = t at *
  generalize numL y = u at *
  clear hx hy hx0 hy0
  by_cases hm : max x 0 = max y 0
  · have e := hxy hm
    subst e
    have tm : (max x 0 == max y 0) = true := by rw [hm]; simp
    have tk : (((ByteArray.mk t.toArray).extract 0 t.length).toList == t) = true := by rw [extract_head, ByteArray.toList_mk]; simp
    clear hxy hbf hm
    go_wp2_with fail
    go_wp2_with fail
    refine (hR1.out _).mono ?_
    rintro r w8 ⟨rfl, hb8⟩
    have hI8 := hI7.kept (Mod.of_below hb8) (by have := hI7.lt; omega)
    have hW8 := hW7.trans (hb8.mono hsz)
    have hs8 := hb8.size
    clear hI7 hb8 hW7
    go_wp2_with fail
    refine (hR2.out _).mono ?_
    rintro r w9 ⟨rfl, hb9⟩
    have hI9 := hI8.kept (Mod.of_below hb9) (by have := hI8.lt; omega)
    have hW9 := hW8.trans (hb9.mono (by omega))
    clear hI8 hb9 hW8
    go_wp2_with fail
    refine (end_any bi [] 0 w9 hI9).mono ?_
    rintro r w10 ⟨rfl, rfl⟩
    clear hI9
    go_wp2_with fail
    go_ret
    exact ⟨rfl, hW9⟩
  · have tm : (max x 0 == max y 0) = false := by rw [beq_eq_false_iff_ne]; exact hm
    have tk : (((ByteArray.mk u.toArray).extract 0 t.length).toList == t) = false := by rw [extract_head, ByteArray.toList_mk]; exact hbf hm
    clear hxy hbf hm
    by_cases hl : t.length ≤ u.length
    all_goals
      go_wp2_with fail
      refine (hR1.out _).mono ?_
      rintro r w8 ⟨rfl, hb8⟩
      have hI8 := hI7.kept (Mod.of_below hb8) (by have := hI7.lt; omega)
      have hW8 := hW7.trans (hb8.mono hsz)
      have hs8 := hb8.size
      clear hI7 hb8 hW7
      go_wp2_with fail
      refine (hR2.out _).mono ?_
      rintro r w9 ⟨rfl, hb9⟩
      have hI9 := hI8.kept (Mod.of_below hb9) (by have := hI8.lt; omega)
      have hW9 := hW8.trans (hb9.mono (by omega))
      clear hI8 hb9 hW8
      go_wp2_with fail
      refine (end_any bi [] 0 w9 hI9).mono ?_
      rintro r w10 ⟨rfl, rfl⟩
      clear hI9
      go_wp2_with fail
      go_ret
      exact ⟨rfl, hW9⟩

theorem codecNums_row (x y : Int) (w : World) (wx : (Lit.int .i64 x).wf = true) (wy : (Lit.int .i64 y).wf = true) :
    Calls Try.prog 3 #[.int .i64 x, .int .i64 y] w fun r w' => r = .returned (.bool true) ∧ Below w.heap.size w w' := by
  have hx := bounds_i64 wx
  have hy := bounds_i64 wy
  exact codecNums_any x y w hx.1 hx.2 hy.1 hy.2

end Go.Proofs.Ytplldnmhehiabaa
