import Derived.Test.YtkejidmomnmdbaaDoorSha
/- The digest by whole blocks: what the document's own answer reckons. -/
namespace Go.Proofs.YtkejidmomnmdbaaDoor

theorem absorb_app (a b : List Nat) : absorb (a ++ b) = b.foldl absorb1 (absorb a) := by simp [absorb]

theorem fold_part (b : List Nat) (s : List Nat × List Nat) (h : s.2.length + b.length < 64) : b.foldl absorb1 s = (s.1, s.2 ++ b) := by
  induction b generalizing s with
  | nil => simp
  | cons x b ih =>
    rw [List.length_cons] at h
    rw [List.foldl_cons, absorb1, if_neg (by omega), ih _ (by simp; omega)]
    simp

/-- A whole block more. -/
theorem fold_block (b H : List Nat) (h : b.length = 64) : b.foldl absorb1 (H, []) = (block H b, []) := by
  have hne : b ≠ [] := by intro e; rw [e] at h; simp at h
  obtain ⟨c, x, rfl⟩ : ∃ c x, b = c ++ [x] := ⟨b.dropLast, b.getLast hne, (List.dropLast_concat_getLast hne).symm⟩
  have hl : c.length = 63 := by simp at h; omega
  rw [List.foldl_append, fold_part c (H, []) (by simp; omega), List.nil_append, List.foldl_cons, List.foldl_nil, absorb1, if_pos (by simp; omega)]

theorem absorb_whole (m : List Nat) (h : m.length % 64 = 0) : (absorb m).2 = [] := by
  have := absorb_buf m; rw [h] at this; exact List.eq_nil_of_length_eq_zero this

/-- The words behind j blocks. -/
def wordsAt (m : List Nat) (j : Nat) : List Nat := (absorb (m.take (64 * j))).1
theorem wordsAt_zero (m : List Nat) : wordsAt m 0 = hTab := by simp [wordsAt, absorb]
def chunk (m : List Nat) (j : Nat) : List Nat := (m.drop (64 * j)).take 64
theorem chunk_len (m : List Nat) (j : Nat) (h : 64 * (j + 1) ≤ m.length) : (chunk m j).length = 64 := by simp [chunk]; omega
theorem chunk_at (m : List Nat) (j i : Nat) (hi : i < 64) : (chunk m j).getD i 0 = m.getD (64 * j + i) 0 := by
  simp [chunk, List.getD, List.getElem?_drop, hi]
theorem wordsAt_succ (m : List Nat) (j : Nat) (h : 64 * (j + 1) ≤ m.length) : wordsAt m (j + 1) = block (wordsAt m j) (chunk m j) := by
  have e : m.take (64 * (j + 1)) = m.take (64 * j) ++ chunk m j := by
    rw [chunk, show 64 * (j + 1) = 64 * j + 64 by omega, List.take_add]
  have hb : (absorb (m.take (64 * j))).2 = [] := absorb_whole _ (by rw [List.length_take]; omega)
  unfold wordsAt
  rw [e, absorb_app, show absorb (m.take (64 * j)) = ((absorb (m.take (64 * j))).1, []) by rw [← hb], fold_block _ _ (chunk_len m j h)]
theorem wordsAt_len (m : List Nat) (j : Nat) : (wordsAt m j).length = 8 := absorb_words _
theorem wordsAt_lt (m : List Nat) (j : Nat) : ∀ x ∈ wordsAt m j, x < 4294967296 := absorb_lt _
theorem wordsAt_end (m : List Nat) (j : Nat) (h : 64 * j = m.length) : (absorb m).1 = wordsAt m j := by
  unfold wordsAt; rw [List.take_of_length_le (by omega)]

theorem padded_len (m : List Nat) : (padded m).length % 64 = 0 := by
  simp only [padded, List.length_append, List.length_singleton, List.length_replicate, lenBytes_len, zeros]
  omega
theorem padded_lt (m : List Nat) (h : ∀ x ∈ m, x < 256) : ∀ x ∈ padded m, x < 256 := by
  intro x hx
  simp only [padded, List.mem_append, List.mem_singleton] at hx
  rcases hx with ((hx | hx) | hx) | hx
  · exact h x hx
  · omega
  · rw [List.eq_of_mem_replicate hx]; omega
  · obtain ⟨i, _, rfl⟩ := List.mem_map.1 hx; exact Nat.mod_lt _ (by decide)

/-- The length's bytes from behind. -/
theorem lenBytes_from (n k : Nat) (hk : k < 8) : (lenBytes n 8).drop (7 - k) = (n * 8 / 256 ^ k % 256) :: (lenBytes n 8).drop (8 - k) := by
  have hl := lenBytes_len n 8
  rw [List.drop_eq_getElem_cons (by omega), show 7 - k + 1 = 8 - k by omega]
  congr 1
  simp only [lenBytes, List.getElem_map, List.getElem_range]
  rw [show 7 - (7 - k) = k by omega, Nat.pow_mul]

/-- The words of a block by one sum. -/
theorem sched_next (L : List Nat) (n : Nat) (h : 16 ≤ n) : schedTo L (n + 1) = schedTo L n ++ [((schedTo L n).getD (n - 16) 0 + s0 ((schedTo L n).getD (n - 15) 0) + (schedTo L n).getD (n - 7) 0 + s1 ((schedTo L n).getD (n - 2) 0)) % 4294967296] := by
  show schedTo L n ++ [_] = _
  rw [if_neg (by omega)]
  congr 2
  generalize (schedTo L n).getD (n - 16) 0 = a
  generalize s0 _ = b
  generalize (schedTo L n).getD (n - 7) 0 = c
  generalize s1 _ = d
  omega
theorem sched_first (L : List Nat) (n : Nat) (h : n < 16) : schedTo L (n + 1) = schedTo L n ++ [w16 L n] := by
  show schedTo L n ++ [_] = _
  rw [if_pos h]

theorem tOf_sum (v : V) (k w : Nat) : tOf v k w = (v.h + S1 v.e + ch v.e v.f v.g + k + w) % 4294967296 := by
  unfold tOf
  generalize S1 _ = a
  generalize ch _ _ _ = b
  omega

/-- A word's four bytes. -/
def four (x : Nat) : List Nat := [x / 16777216 % 256, x / 65536 % 256, x / 256 % 256, x % 256]
theorem outTo_four (H : List Nat) (k : Nat) : outTo H (4 * (k + 1)) = outTo H (4 * k) ++ four (H.getD k 0) := by
  rw [show 4 * (k + 1) = 4 * k + 1 + 1 + 1 + 1 by omega, outTo_succ, outTo_succ, outTo_succ, outTo_succ]
  rw [show (4 * k + 1 + 1 + 1) / 4 = k by omega, show (4 * k + 1 + 1) / 4 = k by omega, show (4 * k + 1) / 4 = k by omega, show 4 * k / 4 = k by omega,
    show (4 * k + 1 + 1 + 1) % 4 = 3 by omega, show (4 * k + 1 + 1) % 4 = 2 by omega, show (4 * k + 1) % 4 = 1 by omega, show 4 * k % 4 = 0 by omega]
  simp [four]
end Go.Proofs.YtkejidmomnmdbaaDoor
