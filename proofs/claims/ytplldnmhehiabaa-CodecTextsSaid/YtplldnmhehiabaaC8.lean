import Derived.Test.YtplldnmhehiabaaC7
namespace Go.Proofs.Ytplldnmhehiabaa
open Go.RowKit

theorem numS_len_at (s r : List UInt8) (most : Int) (hs : (s.length : Int) ≤ 9223372036854775807) :
    numS (numL s.length ++ r) 0 most = if most < s.length then (0, [], 4) else ((s.length : Int), r, 0) := by
  have h := headL_num s.length (by omega) r
  unfold numS
  rw [h]
  simp only [ne_eq, not_true_eq_false, if_false, List.drop_left]
  split
  · simp [failS]
  · rfl
theorem textS_yes (s r : List UInt8) (most : Int) (hs : (s.length : Int) ≤ 9223372036854775807) (h : (s.length : Int) ≤ max most 0) :
    textS (numL s.length ++ s ++ r) 0 most = (s, r, 0) := by
  unfold textS
  rw [List.append_assoc, numS_len_at _ _ _ hs, if_neg (by omega)]
  simp only [rawS]
  rw [if_neg (by simp; omega)]
  simp
theorem textS_no (s r : List UInt8) (most : Int) (hs : (s.length : Int) ≤ 9223372036854775807) (h : ¬ (s.length : Int) ≤ max most 0) :
    textS (numL s.length ++ s ++ r) 0 most = ([], [], 4) := by
  unfold textS
  rw [List.append_assoc, numS_len_at _ _ _ hs, if_pos (by omega)]
  simp [rawS]
theorem rawS_one (c : UInt8) (r : List UInt8) : rawS (c :: r) 0 1 = ([c], r, 0) := by
  unfold rawS
  rw [if_neg (by simp; omega)]
  rfl

set_option maxHeartbeats 1000000 in
theorem codecTexts_any (a0 b0 : List UInt8) (most : Int) (w : World) (ha0 : (a0.length : Int) ≤ 9223372036854775807) (hb0 : (b0.length : Int) ≤ 9223372036854775807) :
    Calls Try.prog 4 #[.string ⟨a0.toArray⟩, .string ⟨b0.toArray⟩, .int .i64 most] w fun r w' => r = .returned (.bool true) ∧ Below w.heap.size w w' := by
  go_enter Try.func4, Try.ntmps4
  go_wp2_with fail
  refine (awake_any w).mono ?_
  rintro r w0 ⟨rfl, hB0⟩
  go_wp2_with fail
  refine (cut_any a0 300 w0 ha0 (by omega)).mono ?_
  rintro r w0' ⟨rfl, rfl⟩
  go_wp2_with fail
  refine (cut_any b0 300 w0 hb0 (by omega)).mono ?_
  rintro r w0' ⟨rfl, rfl⟩
  have hal : (a0.take 300).length ≤ 300 := List.length_take_le _ _
  have hbl : (b0.take 300).length ≤ 300 := List.length_take_le _ _
  generalize a0.take 300 = a at hal ⊢
  generalize b0.take 300 = b at hbl ⊢
  have hO : OutAt 25 5 (w0.alloc (.cells #[.slice none 0 0] 25)) w0.heap.size (.slice none 0 0) [] := OutAt.fresh w0
  have hW : Below w.heap.size w (w0.alloc (.cells #[.slice none 0 0] 25)) := hB0.alloc hB0.size _
  have hNw := hB0.size
  have hS : w0.heap.size + 1 = (w0.alloc (.cells #[.slice none 0 0] 25)).heap.size := by simp
  clear hB0
  have hla := numL_len a.length (by omega)
  have hlb := numL_len b.length (by omega)
  go_wp2_with fail
  generalize w0.alloc (.cells #[.slice none 0 0] 25) = W0 at hO hW hS ⊢
  generalize w0.heap.size = N at hO hS hNw ⊢
  refine (text_any N _ [] a W0 hO (by simp) (by omega)).mono ?_
  rintro r w1 ⟨rfl, v1, hO1, hM1, hv1⟩
  rw [List.nil_append] at hO1
  have hr1 : ∀ k, v1.ownBlock = some k → N + 1 ≤ k := by
    intro k hk; rcases hv1 with h | h
    · rw [h] at hk; simp [Value.ownBlock] at hk
    · have := h k hk; omega
  have hW1 : Below w.heap.size w w1 := hW.trans (hM1.to_below (by omega) (by rintro k hk (h | h) <;> first | omega | simp [Value.ownBlock] at h))
  have hs1 := hM1.size
  clear hO hW hM1 hv1
  have hX : (numL a.length ++ a).length ≤ 309 := by rw [List.length_append]; omega
  have hY : (numL b.length ++ b).length ≤ 309 := by rw [List.length_append]; omega
  have hXt : Hid (∀ r, textS ((numL a.length ++ a) ++ r) 0 300 = (a, r, 0)) := Lib.hid (fun r => textS_yes a r 300 (by omega) (by omega))
  have hXm : Hid (textS (numL a.length ++ a) 0 most = if (a.length : Int) ≤ max most 0 then (a, [], 0) else ([], [], 4)) := Lib.hid (by
    split
    · have := textS_yes a [] most (by omega) (by assumption); rwa [List.append_nil] at this
    · have := textS_no a [] most (by omega) (by assumption); rwa [List.append_nil] at this)
  have hYt : Hid (textS (numL b.length ++ b) 0 300 = (b, [], 0)) := Lib.hid (by have := textS_yes b [] 300 (by omega) (by omega); rwa [List.append_nil] at this)
  have hRa : Hid (∀ w, Calls Try.prog 17 #[.string ⟨a.toArray⟩] w fun r w' => r = .returned (.string ⟨(numL a.length ++ a).toArray⟩) ∧ Below w.heap.size w w') := Lib.hid (fun w => reftext_any a w (by omega))
  have hRb : Hid (∀ w, Calls Try.prog 17 #[.string ⟨b.toArray⟩] w fun r w' => r = .returned (.string ⟨(numL b.length ++ b).toArray⟩) ∧ Below w.heap.size w w') := Lib.hid (fun w => reftext_any b w (by omega))
  have hTb : Hid (∀ v bs w, OutAt 25 5 w N v bs → bs.length ≤ 1099511627776 → Calls Try.prog 13 #[.pointer (some ⟨N, 0, none⟩), .string ⟨b.toArray⟩] w (NumPost N v (bs ++ (numL b.length ++ b)) w)) := Lib.hid (fun v bs w h hl => text_any N v bs b w h hl (by omega))
  clear hla hlb
  generalize numL a.length ++ a = X at *
  generalize numL b.length ++ b = Y at *
  go_wp2_with fail
  refine (raw_any N v1 X [45] w1 hO1 (by simp; omega)).mono ?_
  rintro r w2 ⟨rfl, v2, hO2, hM2, hv2⟩
  have hr2 : ∀ k, v2.ownBlock = some k → N + 1 ≤ k := by
    intro k hk; rcases hv2 with h | h
    · rw [h] at hk; exact hr1 k hk
    · have := h k hk; omega
  have hW2 : Below w.heap.size w w2 := hW1.trans (hM2.to_below (by omega) (by rintro k hk (h | h) <;> first | omega | (have := hr1 _ h; omega)))
  have hs2 := hM2.size
  clear hO1 hW1 hM2 hv2 hr1
  go_wp2_with fail
  refine (hTb.out v2 (X ++ [45]) w2 hO2 (by simp; omega)).mono ?_
  rintro r w3 ⟨rfl, v3, hO3, hM3, _⟩
  have hW3 : Below w.heap.size w w3 := hW2.trans (hM3.to_below (by omega) (by rintro k hk (h | h) <;> first | omega | (have := hr2 _ h; omega)))
  have hs3 := hM3.size
  clear hO2 hW2 hM3 hr2
  go_wp2_with fail
  refine (bytes_any N v3 _ w3 hO3).mono ?_
  rintro r w3' ⟨rfl, rfl⟩
  clear hO3
  go_wp2_with fail
  refine (of_any (X ++ 45 :: Y) w3 (by simp; omega)).mono ?_
  rintro r w4 ⟨bi, rfl, hbi, hI4, hb4⟩
  have hW4 := hW3.trans (hb4.mono (by omega))
  have hs4 := hb4.size
  clear hW3 hb4
  have hIw : w.heap.size ≤ bi := by omega
  have hsz4 : w.heap.size ≤ w4.heap.size := by omega
  clear hs1 hs2 hs3 hs4 hS hbi
  go_wp2_with fail
  refine (intext_any bi (X ++ 45 :: Y) 0 300 w4 hI4 (by simp; omega)).mono ?_
  rintro r w5 ⟨rfl, hI5, hM5⟩
  rw [hXt.out] at hI5 ⊢
  have hW5 := hW4.trans (hM5.to_below (B := w.heap.size) (by omega) (by intro k hk h; omega))
  have hsz5 := Nat.le_trans hsz4 hM5.size
  clear hI4 hM5 hW4 hsz4
  go_wp2_with fail
  refine (inraw_any bi (45 :: Y) 0 1 w5 hI5 (by simp; omega)).mono ?_
  rintro r w6 ⟨rfl, hI6, hM6⟩
  rw [rawS_one] at hI6 ⊢
  have hW6 := hW5.trans (hM6.to_below (B := w.heap.size) (by omega) (by intro k hk h; omega))
  have hsz6 := Nat.le_trans hsz5 hM6.size
  clear hI5 hM6 hW5 hsz5
  go_wp2_with fail
  refine (intext_any bi Y 0 300 w6 hI6 (by omega)).mono ?_
  rintro r w7 ⟨rfl, hI7, hM7⟩
  rw [hYt.out] at hI7 ⊢
  have hW7 := hW6.trans (hM7.to_below (B := w.heap.size) (by omega) (by intro k hk h; omega))
  have hsz7 := Nat.le_trans hsz6 hM7.size
  clear hI6 hM7 hW6 hsz6
  have e1 : (ByteArray.mk X.toArray ++ ByteArray.mk #[45]) = ByteArray.mk (X ++ [45]).toArray := ByteArray.mk_append_mk X [45]
  have e2 : (ByteArray.mk (X ++ [45]).toArray ++ ByteArray.mk Y.toArray) = ByteArray.mk (X ++ 45 :: Y).toArray := by rw [ByteArray.mk_append_mk]; simp
  go_wp2_with fail
  refine (hRa.out _).mono ?_
  rintro r w8 ⟨rfl, hb8⟩
  have hI8 := hI7.kept (Mod.of_below hb8) (by have := hI7.lt; omega)
  have hW8 := hW7.trans (hb8.mono hsz7)
  have hsz8 := Nat.le_trans hsz7 hb8.size
  clear hI7 hb8 hW7 hsz7
  go_wp2_with fail
  refine (hRb.out _).mono ?_
  rintro r w9 ⟨rfl, hb9⟩
  have hI9 := hI8.kept (Mod.of_below hb9) (by have := hI8.lt; omega)
  have hW9 := hW8.trans (hb9.mono hsz8)
  have hsz9 := Nat.le_trans hsz8 hb9.size
  clear hI8 hb9 hW8 hsz8
  go_wp2_with fail
  refine (end_any bi [] 0 w9 hI9).mono ?_
  rintro r w10 ⟨rfl, rfl⟩
  clear hI9
  go_wp2_with fail
  refine (hRa.out _).mono ?_
  rintro r w11 ⟨rfl, hb11⟩
  have hW11 := hW9.trans (hb11.mono hsz9)
  have hsz11 := Nat.le_trans hsz9 hb11.size
  clear hb11 hW9 hsz9
  go_wp2_with fail
  refine (of_any X w11 (by omega)).mono ?_
  rintro r w12 ⟨bj, rfl, hbj, hI12, hb12⟩
  have hW12 := hW11.trans (hb12.mono hsz11)
  have hsz12 := Nat.le_trans hsz11 hb12.size
  have hJw : w.heap.size ≤ bj := by omega
  clear hW11 hb12 hsz11 hbj
  go_wp2_with fail
  refine (intext_any bj X 0 most w12 hI12 (by omega)).mono ?_
  rintro r w13 ⟨rfl, hI13, hM13⟩
  rw [hXm.out] at hI13 ⊢
  have hW13 := hW12.trans (hM13.to_below (B := w.heap.size) (by omega) (by intro k hk h; omega))
  clear hI12 hM13 hW12 hsz12
  by_cases hm : (a.length : Int) ≤ max most 0
  · rw [if_pos hm] at hI13 ⊢
    go_wp2_with fail
    refine (err_any bj [] 0 w13 hI13).mono ?_
    rintro r w14 ⟨rfl, rfl⟩
    clear hI13
    go_wp2_with fail
    go_ret
    exact ⟨rfl, hW13⟩
  · rw [if_neg hm] at hI13 ⊢
    go_wp2_with fail
    refine (err_any bj [] 4 w13 hI13).mono ?_
    rintro r w14 ⟨rfl, rfl⟩
    clear hI13
    go_wp2_with fail
    go_ret
    exact ⟨rfl, hW13⟩

theorem codecTexts_row (a b : ByteArray) (most : Int) (w : World) (wa : a.size ≤ maxLen) (wb : b.size ≤ maxLen) (_ : (Lit.int .i64 most).wf = true) :
    Calls Try.prog 4 #[.string a, .string b, .int .i64 most] w fun r w' => r = .returned (.bool true) ∧ Below w.heap.size w w' := by
  have h := codecTexts_any a.data.toList b.data.toList most w (by unfold maxLen at wa; simpa using (by omega : (a.size : Int) ≤ 9223372036854775807)) (by unfold maxLen at wb; simpa using (by omega : (b.size : Int) ≤ 9223372036854775807))
  exact h

end Go.Proofs.Ytplldnmhehiabaa
