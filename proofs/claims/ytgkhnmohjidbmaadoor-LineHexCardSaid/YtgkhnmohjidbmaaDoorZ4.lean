/- Texts 4: what the laws lean on. -/
import Derived.Test.YtgkhnmohjidbmaaDoorZ3
set_option linter.unusedVariables false
set_option linter.unusedSimpArgs false
namespace Go.Proofs.YtgkhnmohjidbmaaDoor
open Go.RowKit Go.Shelf

set_option maxRecDepth 20000 in
set_option maxHeartbeats 8000000 in
theorem rlplain_any (s : List UInt8) (k : Nat) (w : World) (hl : s.length ≤ 1000000000) (hk : k ≤ 1000) :
    Calls Tryd.prog 28 #[.string ⟨s.toArray⟩, .int .i64 k] w fun e w' => e = .returned (.bool (plainB s k)) ∧ w = w' := by
  obtain ⟨B, hB⟩ : ∃ B, B = ByteArray.mk s.toArray := ⟨_, rfl⟩
  rw [← hB]
  obtain ⟨n, hn⟩ : ∃ n, n = s.length := ⟨_, rfl⟩
  have n1 : B.size = n := by rw [hB, hn]; rfl
  have hget : Hid (∀ i (h : i < B.size) (h2 : i < s.length), B[i] = s[i]) := Lib.hid (by subst hB; intro i h h2; rfl)
  have Hn := Lib.hid hn
  have n9 : n ≤ 1000000000 := by omega
  clear hB hn
  go_enter Tryd.func28, Tryd.ntmps28
  go_wp2_with fail
  go_loopw [5] (fun s5 wr => ∃ i : Nat, i ≤ n ∧ s5 = .int .i64 i ∧ Hid (∀ j (h : j < s.length), j < i → isAl s[j] = true) ∧ wr = w) (fun s5 _ => n - (intOf s5).toNat)
  case atStart => exact ⟨0, by omega, rfl, Lib.hid (fun j h h2 => by omega), rfl⟩
  case round =>
    obtain ⟨i, hin, rfl, hal, rfl⟩ := hrel
    by_cases hlt : i < n
    · have hib : i < B.size := by omega
      have hil : i < s.length := by rw [← Hn.out]; exact hlt
      have hgt := hget.out i hib hil
      obtain ⟨v, hv⟩ : ∃ v, v = s[i].toNat := ⟨_, rfl⟩
      have hgv : ((B[i]'hib).toNat : Int) = v := by rw [hgt, hv]
      have hdv : isAl s[i] = ((decide (97 ≤ v) && decide (v ≤ 122)) || (decide (48 ≤ v) && decide (v ≤ 57))) := by rw [hv]; rfl
      have i0 : (0 : Int) ≤ i := by omega
      have i1 : (i : Int) < n := by omega
      have i2 : IntKind.i64.wrap ((i : Int) + 1) = (i : Int) + 1 := by rw [IntKind.wrap_i64]; omega
      have hor : (97 ≤ v ∧ v ≤ 122) ∨ (48 ≤ v ∧ v ≤ 57) ∨ v < 48 ∨ (57 < v ∧ v < 97) ∨ 122 < v := by omega
      have hgood : isAl s[i] = true → Hid (∀ j (h : j < s.length), j < i + 1 → isAl s[j] = true) := fun h => Lib.hid (by
        intro j hj hj2
        by_cases e : j = i
        · subst e; exact h
        · exact hal.out j hj (by omega))
      have HG := Lib.hid hgood
      have HDV := Lib.hid hdv
      clear hv hgt hdv hgood
      rcases hor with ⟨a, b⟩ | ⟨a, b⟩ | a | ⟨a, b⟩ | a
      · have hnx := HG.out (by rw [HDV.out, decide_eq_true a, decide_eq_true b]; rfl)
        have a' : (97 : Int) ≤ v := by omega
        have b' : (v : Int) ≤ 122 := by omega
        clear HDV hal
        go_wp2_with fail
        go_roundw
        case rel => exact ⟨i + 1, by omega, by go_num, hnx, trivial⟩
        case measure => simp [intOf]; omega
      · have hnx := HG.out (by rw [HDV.out, decide_eq_true a, decide_eq_true b]; simp)
        have a' : (48 : Int) ≤ v := by omega
        have b' : (v : Int) ≤ 57 := by omega
        have c' : (v : Int) < 97 := by omega
        clear HDV hal
        go_wp2_with fail
        go_roundw
        case rel => exact ⟨i + 1, by omega, by go_num, hnx, trivial⟩
        case measure => simp [intOf]; omega
      · have e9 : Hid (plainB s k = false) := Lib.hid (al_false hil (by rw [HDV.out, decide_eq_false (show ¬ 97 ≤ v by omega), decide_eq_false (show ¬ 48 ≤ v by omega)]; rfl))
        have a' : decide ((97 : Int) ≤ v) = false := decide_eq_false (by omega)
        have b' : decide ((48 : Int) ≤ v) = false := decide_eq_false (by omega)
        clear HDV hal HG
        go_wp2_with fail
        go_ret
        exact ⟨by rw [e9.out]; rfl, rfl⟩
      · have e9 : Hid (plainB s k = false) := Lib.hid (al_false hil (by rw [HDV.out, decide_eq_false (show ¬ 97 ≤ v by omega), decide_eq_false (show ¬ v ≤ 57 by omega)]; simp))
        have a' : decide ((97 : Int) ≤ v) = false := decide_eq_false (by omega)
        have b' : decide ((v : Int) ≤ 57) = false := decide_eq_false (by omega)
        have c' : decide ((48 : Int) ≤ v) = true := decide_eq_true (by omega)
        clear HDV hal HG
        go_wp2_with fail
        go_ret
        exact ⟨by rw [e9.out]; rfl, rfl⟩
      · have e9 : Hid (plainB s k = false) := Lib.hid (al_false hil (by rw [HDV.out, decide_eq_false (show ¬ v ≤ 122 by omega), decide_eq_false (show ¬ v ≤ 57 by omega)]; simp))
        have a' : decide ((97 : Int) ≤ v) = true := decide_eq_true (by omega)
        have b' : decide ((v : Int) ≤ 122) = false := decide_eq_false (by omega)
        have c' : decide ((48 : Int) ≤ v) = true := decide_eq_true (by omega)
        have d' : decide ((v : Int) ≤ 57) = false := decide_eq_false (by omega)
        clear HDV hal HG
        go_wp2_with fail
        go_ret
        exact ⟨by rw [e9.out]; rfl, rfl⟩
    · obtain rfl : i = n := by omega
      have hval : Hid (plainB s k = (decide (1 ≤ i) && decide (i ≤ k))) := Lib.hid (by
        by_cases hne : s = []
        · have : i = 0 := by rw [Hn.out, hne]; rfl
          rw [hne, this]; rfl
        · have h1 : 1 ≤ i := by rw [Hn.out]; exact List.length_pos_iff.2 hne
          by_cases h2 : i ≤ k
          · rw [al_true hne (by rw [← Hn.out]; exact h2) (fun j hj => hal.out j hj (by rw [Hn.out]; exact hj)), decide_eq_true h1, decide_eq_true h2]; rfl
          · unfold plainB; rw [decide_eq_false (show ¬ s.length ≤ k by rw [← Hn.out]; exact h2), decide_eq_false h2]; simp)
      have hor : i < 1 ∨ (1 ≤ i ∧ i ≤ k) ∨ (1 ≤ i ∧ k < i) := by omega
      clear hal
      rcases hor with a | ⟨a, b⟩ | ⟨a, b⟩
      · have a' : (i : Int) < 1 := by omega
        have e9 : Hid (plainB s k = false) := Lib.hid (by rw [hval.out, decide_eq_false (by omega)]; rfl)
        go_wp2_with fail
        go_ret
        exact ⟨by rw [e9.out]; rfl, rfl⟩
      · have a' : (1 : Int) ≤ i := by omega
        have b' : (i : Int) ≤ k := by omega
        have e9 : Hid (plainB s k = true) := Lib.hid (by rw [hval.out, decide_eq_true a, decide_eq_true b]; rfl)
        go_wp2_with fail
        go_ret
        exact ⟨by rw [e9.out]; rfl, rfl⟩
      · have a' : (1 : Int) ≤ i := by omega
        have b' : (k : Int) < i := by omega
        have e9 : Hid (plainB s k = false) := Lib.hid (by rw [hval.out, decide_eq_false (show ¬ i ≤ k by omega)]; simp)
        go_wp2_with fail
        go_ret
        exact ⟨by rw [e9.out, decide_eq_false (show ¬ i ≤ k by omega)]; rfl, rfl⟩
set_option maxRecDepth 20000 in
set_option maxHeartbeats 8000000 in
theorem rlname_any (s : List UInt8) (w : World) (hl : s.length ≤ 1000000000) :
    Calls Tryd.prog 27 #[.string ⟨s.toArray⟩] w fun e w' => e = .returned (.bool (nameB s)) ∧ w = w' := by
  have H1 := Lib.hid (fun w => rlplain_any s 12 w hl (by omega))
  by_cases hp : plainB s 12 = true
  · rw [hp] at H1
    have hne : s ≠ [] := by intro e; rw [e] at hp; cases hp
    have h0 : 0 < s.length := List.length_pos_iff.2 hne
    obtain ⟨v, hv⟩ : ∃ v, v = (s[0]'h0).toNat := ⟨_, rfl⟩
    have hal : isAl (s[0]'h0) = true := by
      unfold plainB at hp; simp only [Bool.and_eq_true] at hp
      exact List.all_eq_true.1 hp.2 _ (List.getElem_mem h0)
    have hnb : nameB s = decide (97 ≤ v) := by
      have hl0 : nameB s = isLt (s[0]'h0) := by
        unfold nameB; rw [hp]
        cases s with
        | nil => exact absurd rfl hne
        | cons a l => rfl
      rw [hl0]
      unfold isAl isLt isDg at hal
      unfold isLt
      rw [← hv] at hal ⊢
      simp at hal
      by_cases h : 97 ≤ v
      · rw [decide_eq_true h, decide_eq_true (by omega)]; rfl
      · rw [decide_eq_false h]; rfl
    obtain ⟨S, hS⟩ : ∃ S, S = ByteArray.mk s.toArray := ⟨_, rfl⟩
    have hS0 : 0 < S.size := by rw [hS]; exact h0
    have hg0 : ((S[0]'hS0).toNat : Int) = v := by subst hS; rw [hv]; rfl
    rw [← hS] at H1 ⊢
    rw [hnb]
    clear hp hne hal hnb hS
    by_cases h : 97 ≤ v
    · have q : (97 : Int) ≤ v := by omega
      rw [decide_eq_true h]
      clear hv h h0
      go_enter Tryd.func27, Tryd.ntmps27
      go_wp2_with fail
      refine (H1.out _).mono ?_
      rintro e w1 ⟨rfl, rfl⟩
      go_wp2_with fail
      go_ret
      exact ⟨rfl, rfl⟩
    · have q : (v : Int) < 97 := by omega
      rw [decide_eq_false h]
      clear hv h h0
      go_enter Tryd.func27, Tryd.ntmps27
      go_wp2_with fail
      refine (H1.out _).mono ?_
      rintro e w1 ⟨rfl, rfl⟩
      go_wp2_with fail
      go_ret
      exact ⟨by rw [decide_eq_false (show ¬ (97 : Int) ≤ v by omega)]; rfl, rfl⟩
  · have hp' : plainB s 12 = false := by simpa using hp
    have hnb : nameB s = false := by unfold nameB; rw [hp']; rfl
    rw [hp'] at H1
    rw [hnb]
    clear hp hp' hnb
    go_enter Tryd.func27, Tryd.ntmps27
    go_wp2_with fail
    refine (H1.out _).mono ?_
    rintro e w1 ⟨rfl, rfl⟩
    go_wp2_with fail
    go_ret
    exact ⟨rfl, rfl⟩

theorem numD_low : ∀ s : List UInt8, s ≠ [] → s.head? ≠ some 48 → s.all isDg = true → 10 ^ (s.length - 1) ≤ numD s := by
  refine snoc_ind (fun h => absurd rfl h) ?_
  intro l c ih _ hh ha
  rw [numD_snoc]
  by_cases hl : l = []
  · subst hl
    have := numD_pos [c] (by simp) hh ha
    rw [show [c] = [] ++ [c] from rfl, numD_snoc] at this
    simpa using this
  · have h1 := ih hl (by cases l with
      | nil => exact absurd rfl hl
      | cons x r => simpa using hh) (by simp at ha ⊢; exact ha.1)
    have hp := List.length_pos_iff.2 hl
    rw [List.length_append, List.length_singleton, show l.length + 1 - 1 = (l.length - 1) + 1 by omega, Nat.pow_succ]
    omega
theorem long_false {s : List UInt8} (h : 13 < s.length) : numOk s = false := by
  by_cases hc : canon s = true
  · unfold numOk
    have hc2 := hc
    unfold canon at hc2
    simp only [Bool.and_eq_true, Bool.or_eq_true, decide_eq_true_eq] at hc2
    have hne : s ≠ [] := by intro e; rw [e] at h; simp at h
    have hh : s.head? ≠ some 48 := by
      rcases hc2.1.2 with h1 | h1
      · exact h1
      · rw [h1] at h; simp at h
    have := numD_low s hne hh hc2.2
    have h13 : 10 ^ 13 ≤ 10 ^ (s.length - 1) := Nat.pow_le_pow_right (by decide) (by omega)
    rw [decide_eq_false (by omega), Bool.and_false]
  · unfold numOk; rw [Bool.not_eq_true _ |>.mp hc, Bool.false_and]
theorem dec_canon : ∀ n, canon (Lib.decDigits n) = true ∧ (1 ≤ n → (Lib.decDigits n).head? ≠ some 48) := by
  intro n
  induction n using Nat.strongRecOn with
  | _ n ih =>
    by_cases h : n < 10
    · rw [Lib.decDigits_one h]
      have : ∀ k : Fin 10, canon [UInt8.ofNat (48 + k.val)] = true ∧ (1 ≤ k.val → [UInt8.ofNat (48 + k.val)].head? ≠ some 48) := by decide +kernel
      exact this ⟨n, h⟩
    · obtain ⟨h1, h2⟩ := ih (n / 10) (by omega)
      have hne : Lib.decDigits (n / 10) ≠ [] := by intro e; rw [e] at h1; cases h1
      have hh := h2 (by omega)
      have hd : isDg (UInt8.ofNat (48 + n % 10)) = true := by
        have : ∀ k : Fin 10, isDg (UInt8.ofNat (48 + k.val)) = true := by decide +kernel
        exact this ⟨n % 10, by omega⟩
      have e : Lib.decDigits n = Lib.decDigits (n / 10) ++ [UInt8.ofNat (48 + n % 10)] := by rw [Lib.decDigits, dif_neg h]
      have hhe : (Lib.decDigits n).head? ≠ some 48 := by
        rw [e]
        cases hl : Lib.decDigits (n / 10) with
        | nil => exact absurd hl hne
        | cons a l => rw [hl] at hh; simpa using hh
      refine ⟨?_, fun _ => hhe⟩
      unfold canon at h1 ⊢
      simp only [Bool.and_eq_true, Bool.or_eq_true, decide_eq_true_eq] at h1 ⊢
      refine ⟨⟨?_, .inl hhe⟩, by rw [e, List.all_append, h1.2]; simp only [List.all_cons, List.all_nil, hd, Bool.and_true]⟩
      rw [e]; cases hl : Lib.decDigits (n / 10) with
        | nil => exact absurd hl hne
        | cons a l => rfl
theorem dec_iff {s : List UInt8} (h0 : s ≠ []) (ha : s.all isDg = true) : (Lib.decDigits (numD s) == s) = canon s := by
  by_cases hc : canon s = true
  · rw [hc, beq_iff_eq]; exact dec_num s hc
  · have hc' : canon s = false := by simpa using hc
    rw [hc', beq_eq_false_iff_ne]
    intro e
    have := (dec_canon (numD s)).1
    rw [e] at this
    exact hc this
theorem numD_lt : ∀ s : List UInt8, s.all isDg = true → numD s < 10 ^ s.length := by
  refine snoc_ind (by simp [numD]) ?_
  intro l c ih ha
  simp only [List.all_append, Bool.and_eq_true] at ha
  have h1 := ih ha.1
  have h2 : isDg c = true := by simpa using ha.2
  unfold isDg at h2; simp at h2
  rw [numD_snoc, List.length_append, List.length_singleton, Nat.pow_succ]
  omega
/-- What the reference's Number answers. -/
def numR (s : List UInt8) : Int := if numOk s then (numD s : Int) else -1
end Go.Proofs.YtgkhnmohjidbmaaDoor

namespace Go.Proofs.YtgkhnmohjidbmaaDoor
open Go.RowKit Go.Shelf

/-- One byte of a row is set. -/
theorem Rw.setU {w : World} {g cap : Nat} {M : List UInt8} (h : Rw encU 5 w (some ⟨g, 0, none⟩) cap M) (i : Nat) (hi : i < M.length) (y : UInt8) :
    w.cell? ⟨g, i, none⟩ = some (.int .u8 ((M[i]).toNat : Int)) ∧ w.frozen? ⟨g, i, none⟩ = false ∧ Rw encU 5 (w.setCell ⟨g, i, none⟩ (.int .u8 (y.toNat : Int))) (some ⟨g, 0, none⟩) cap (M.set i y) := by
  have hall : ∀ L : List UInt8, encU.all L = L.map (fun x => Value.int .u8 (x.toNat : Int)) := by
    intro L
    induction L with
    | nil => rfl
    | cons a l ih => rw [show encU.all (a :: l) = encU.f a ++ encU.all l from rfl, ih]; rfl
  rcases h.shape with ⟨e, _⟩ | ⟨g', e, hl, h1, h2, cur, hh, h3, h4⟩
  · cases e
  cases e
  have hk : encU.k = 1 := rfl
  rw [hk, Nat.mul_one] at h3 h4
  have hci : cur[i]? = some (.int .u8 ((M[i]).toNat : Int)) := by
    have := congrArg (fun l => l[i]?) h4
    simp only [List.getElem?_take, if_pos hi] at this
    rw [← Array.getElem?_toList, this, hall]; simp [hi]
  refine ⟨by rw [cell_of_row w g i cur 5 (0, 0) hh, hci], frozen_of_row w g i cur 5 hh, ?_⟩
  refine Rw.of_row (heap_setCell_same w g i cur 5 _ hh) (by rw [List.length_set]; exact h1) h2 (by rw [hk, Array.size_setIfInBounds, h3]; omega) ?_
  rw [hk, Nat.mul_one, List.length_set, Array.toList_setIfInBounds, hall, List.map_set, ← hall, ← h4, List.take_set]
def oddT (s : List UInt8) (i : Nat) : List UInt8 := if i % 2 = 1 then [UInt8.ofNat (16 * hv (s.getD (i - 1) 0))] else []

set_option maxRecDepth 20000 in
set_option maxHeartbeats 8000000 in
theorem rlbytes_any (s : List UInt8) (w : World) (hl : s.length ≤ 1000000) :
    Calls Tryd.prog 15 #[.string ⟨s.toArray⟩] w fun e w' => e = .returned (hexV s) ∧ Below w.heap.size w w' := by
  obtain ⟨B, hB⟩ : ∃ B, B = ByteArray.mk s.toArray := ⟨_, rfl⟩
  rw [← hB]
  obtain ⟨n, hn⟩ : ∃ n, n = s.length := ⟨_, rfl⟩
  have n1 : B.size = n := by rw [hB, hn]; rfl
  have hL : B.toList = s := by rw [hB, ByteArray.toList_mk]
  have hget : Hid (∀ i (h : i < B.size) (h2 : i < s.length), B[i] = s[i]) := Lib.hid (by subst hB; intro i h h2; rfl)
  have bad : ∀ w', hexO s = none → Below w.heap.size w w' → (Ending.returned (.tuple #[.string ⟨#[]⟩, .bool false]) = .returned (hexV s)) ∧ Below w.heap.size w w' := fun w' h hb => ⟨by unfold hexV; rw [h]; rfl, hb⟩
  have Bad := Lib.hid bad
  clear bad
  by_cases h45 : s = [45]
  · have e0 : (B.toList == [45]) = true := by rw [hL, h45]; rfl
    have e9 : Hid (hexO s = some []) := Lib.hid (by rw [h45]; rfl)
    clear hL hB hn
    go_enter Tryd.func15, Tryd.ntmps15
    go_wp2_with fail
    go_ret2
    exact ⟨by unfold hexV; rw [e9.out]; rfl, Below.refl _ _⟩
  · have e0 : (B.toList == [45]) = false := by rw [hL, beq_eq_false_iff_ne]; exact h45
    by_cases hne : s = []
    · have e1 : (B.toList == []) = true := by rw [hL, hne]; rfl
      have e9 : Hid (hexO s = none) := Lib.hid (by rw [hne]; rfl)
      clear hL hB hn
      go_enter Tryd.func15, Tryd.ntmps15
      go_wp2_with fail
      go_ret2
      exact Bad.out _ e9.out (Below.refl _ _)
    · have e1 : (B.toList == []) = false := by rw [hL, beq_eq_false_iff_ne]; exact hne
      by_cases hodd : n % 2 = 1
      · have e9 : Hid (hexO s = none) := Lib.hid (by
          unfold hexO; rw [if_neg h45]
          have : hexOk s = false := by unfold hexOk; rw [decide_eq_false (by omega), Bool.and_false, Bool.false_and]
          rw [this]; rfl)
        have q1 : (n : Int).tmod 2 = 1 := by rw [Int.tmod_eq_emod_of_nonneg (by omega)]; omega
        clear hL hB hn hodd
        go_enter Tryd.func15, Tryd.ntmps15
        go_wp2_with fail
        go_ret2
        exact Bad.out _ e9.out (Below.refl _ _)
      · have q1 : (n : Int).tmod 2 = 0 := by rw [Int.tmod_eq_emod_of_nonneg (by omega)]; omega
        have Hn := Lib.hid hn
        have HNE := Lib.hid hne
        have H45 := Lib.hid h45
        have HEV : Hid (n % 2 = 0) := Lib.hid (by omega)
        have n9 : n ≤ 1000000 := by omega
        clear hL hB hn hne h45 hodd
        go_enter Tryd.func15, Tryd.ntmps15
        go_wp2_with fail
        obtain ⟨W1, hW1⟩ : ∃ W1, W1 = w.alloc (.cells #[] 5) := ⟨_, rfl⟩
        have h0 : AccR encU 5 w 0 [] (some ⟨w.heap.size, 0, none⟩) 0 W1 := ⟨by rw [hW1]; exact Rw.made (E := encU) 5 w [] (by simp [maxLen]), rfl, (fun a e => by cases e; exact Nat.le_refl _), by rw [hW1]; exact (Below.refl _ _).alloc (Nat.le_refl _) _⟩
        rw [← hW1]
        clear hW1
        go_loopw [4, 5] (fun s4 s5 wr => ∃ (i m : Nat) (q : Option Addr) (c : Nat) (D : List UInt8), i ≤ n ∧ s5 = .int .i64 i ∧ s4 = .slice q m c ∧ m ≤ i ∧ Hid (∀ j (h : j < s.length), j < i → isHx s[j] = true) ∧ Hid (D = unh (s.take i) ++ oddT s i) ∧ AccR encU 5 w m D q c wr) (fun _ s5 _ => n - (intOf s5).toNat)
        case atStart => exact ⟨0, 0, _, _, [], by omega, rfl, rfl, by omega, Lib.hid (fun j h h2 => by omega), Lib.hid rfl, h0⟩
        case round =>
          clear h0
          obtain ⟨i, m, q, c, D, hin, rfl, rfl, hmi, hdig, hD, hA⟩ := hrel
          by_cases hlt : i < n
          · have hib : i < B.size := by omega
            have hil : i < s.length := by rw [← Hn.out]; exact hlt
            have hgt := hget.out i hib hil
            obtain ⟨x, hx⟩ : ∃ x, x = s[i] := ⟨_, rfl⟩
            obtain ⟨v, hv'⟩ : ∃ v, v = x.toNat := ⟨_, rfl⟩
            have hgv : ((B[i]'hib).toNat : Int) = v := by rw [hgt, hv', hx]
            have hv255 : v < 256 := by rw [hv']; exact x.toNat_lt
            have i0 : (0 : Int) ≤ i := by omega
            have i1 : (i : Int) < n := by omega
            have i2 : IntKind.i64.wrap ((i : Int) + 1) = (i : Int) + 1 := by rw [IntKind.wrap_i64]; omega
            have i3 : IntKind.i64.wrap (v : Int) = v := by rw [IntKind.wrap_i64]; omega
            have hpar : (i : Int).tmod 2 = ((i % 2 : Nat) : Int) := by rw [Int.tmod_eq_emod_of_nonneg (by omega)]; omega
            have hdv : isHx x = ((decide (48 ≤ v) && decide (v ≤ 57)) || (decide (97 ≤ v) && decide (v ≤ 102))) := by rw [hv']; rfl
            by_cases hd : isHx x = true
            · obtain ⟨d, hdd⟩ : ∃ d, d = hv x := ⟨_, rfl⟩
              have hd16 : d < 16 := by rw [hdd]; exact (hv_ok x hd).1
              have hor : (48 ≤ v ∧ v ≤ 57 ∧ d + 48 = v) ∨ (97 ≤ v ∧ v ≤ 102 ∧ d + 87 = v) := by
                rw [hdv] at hd
                simp at hd
                have : isDg x = (decide (48 ≤ v) && decide (v ≤ 57)) := by rw [hv']; rfl
                rw [hdd]; unfold hv; rw [this, ← hv']
                rcases hd with ⟨a, b⟩ | ⟨a, b⟩
                · left; rw [decide_eq_true a, decide_eq_true b]; simp; omega
                · right; rw [decide_eq_false (show ¬ v ≤ 57 by omega)]; simp; omega
              have hdig2 : Hid (∀ j (h : j < s.length), j < i + 1 → isHx s[j] = true) := Lib.hid (by
                intro j hj hj2
                by_cases e : j = i
                · subst e; rw [← hx]; exact hd
                · exact hdig.out j hj (by omega))
              have e16 : IntKind.i64.wrap (16 * (d : Int)) = 16 * (d : Int) := by rw [IntKind.wrap_i64]; omega
              have ed : IntKind.u8.wrap (d : Int) = (d : Int) := by rw [IntKind.wrap_u8]; omega
              rcases Nat.mod_two_eq_zero_or_one i with hev | hod
              · obtain ⟨y, hy⟩ : ∃ y, y = UInt8.ofNat (16 * d) := ⟨_, rfl⟩
                have q5 : IntKind.u8.wrap (16 * (d : Int)) = (y.toNat : Int) := by rw [IntKind.wrap_u8, hy]; simp
                have hnx : Hid (D ++ [y] = unh (s.take (i + 1)) ++ oddT s (i + 1)) := Lib.hid (by
                  rw [hD.out, unh_even hil hev]
                  unfold oddT
                  rw [if_neg (by omega), if_pos (by omega), hy, hdd, hx, show i + 1 - 1 = i by omega, List.getD_eq_getElem?_getD, List.getElem?_eq_getElem hil]; simp)
                rw [hev] at hpar
                clear hgt hx hv' hdv hd hdd hdig hD hev hy
                rcases hor with ⟨a, b, e⟩ | ⟨a, b, e⟩
                · have a' : (48 : Int) ≤ v := by omega
                  have b' : (v : Int) ≤ 57 := by omega
                  have c' : decide ((97 : Int) ≤ v) = false := decide_eq_false (by omega)
                  have e' : IntKind.i64.wrap ((v : Int) - 48) = d := by rw [IntKind.wrap_i64]; omega
                  have f' : ¬ (d : Int) < 0 := by omega
                  go_wp2_with (at_builtin; refine wpList_pushR encU rfl _ _ 44 5 (.int .u8 0) 1 rfl Tryd.underlying44 lninfo_u8 rfl (by decide) q c m D hA.len rfl (hA.below ((Below.refl _ wr).alloc (Nat.le_refl _) _)).s (some ⟨wr.heap.size, 0, none⟩) 1 1 [y] rfl rfl (Rd.made encU wr 5 [y] (by simp [maxLen])) (by omega) ?_)
                  intro q2 c2 w6 hP
                  have hA2 := Lib.hid ((hA.below ((Below.refl _ wr).alloc (Nat.le_refl _) _)).push hP)
                  clear hP
                  go_wp2_with fail
                  go_roundw
                  case rel => exact ⟨i + 1, m + 1, q2, c2, D ++ [y], by omega, by go_num, rfl, by omega, hdig2, hnx, hA2.out⟩
                  case measure => simp [intOf]; omega
                · have a' : decide ((v : Int) ≤ 57) = false := decide_eq_false (by omega)
                  have a2 : (48 : Int) ≤ v := by omega
                  have b' : (97 : Int) ≤ v := by omega
                  have c' : (v : Int) ≤ 102 := by omega
                  have e' : IntKind.i64.wrap ((v : Int) - 87) = d := by rw [IntKind.wrap_i64]; omega
                  have f' : ¬ (d : Int) < 0 := by omega
                  go_wp2_with (at_builtin; refine wpList_pushR encU rfl _ _ 44 5 (.int .u8 0) 1 rfl Tryd.underlying44 lninfo_u8 rfl (by decide) q c m D hA.len rfl (hA.below ((Below.refl _ wr).alloc (Nat.le_refl _) _)).s (some ⟨wr.heap.size, 0, none⟩) 1 1 [y] rfl rfl (Rd.made encU wr 5 [y] (by simp [maxLen])) (by omega) ?_)
                  intro q2 c2 w6 hP
                  have hA2 := Lib.hid ((hA.below ((Below.refl _ wr).alloc (Nat.le_refl _) _)).push hP)
                  clear hP
                  go_wp2_with fail
                  go_roundw
                  case rel => exact ⟨i + 1, m + 1, q2, c2, D ++ [y], by omega, by go_num, rfl, by omega, hdig2, hnx, hA2.out⟩
                  case measure => simp [intOf]; omega
              · obtain ⟨p, hp⟩ : ∃ p, p = hv (s.getD (i - 1) 0) := ⟨_, rfl⟩
                have hpe : s.getD (i - 1) 0 = s[i - 1]'(by omega) := by rw [List.getD_eq_getElem?_getD, List.getElem?_eq_getElem (by omega)]; rfl
                have hp16 : p < 16 := by rw [hp, hpe]; exact (hv_ok _ (hdig.out (i - 1) (by omega) (by omega))).1
                obtain ⟨z, hz⟩ : ∃ z, z = UInt8.ofNat (16 * p + d) := ⟨_, rfl⟩
                have hDe : D = unh (s.take i) ++ [UInt8.ofNat (16 * p)] := by rw [hD.out, hp]; unfold oddT; rw [if_pos hod]
                obtain ⟨j, hj⟩ : ∃ j, j = (unh (s.take i)).length := ⟨_, rfl⟩
                have hmj : m = j + 1 := by rw [← hA.len, hDe, List.length_append, hj]; rfl
                have hjD : j < D.length := by rw [hA.len]; omega
                have hDj : (D[j]'hjD).toNat = 16 * p := by
                  have : D[j]? = some (UInt8.ofNat (16 * p)) := by rw [hDe, hj]; simp
                  rw [List.getElem?_eq_getElem hjD] at this
                  rw [Option.some.inj this]; simp; omega
                have hDs : Hid (D.set j z = unh (s.take (i + 1)) ++ oddT s (i + 1)) := Lib.hid (by
                  rw [hDe, hj, List.set_append_right _ _ (Nat.le_refl _), Nat.sub_self, unh_odd hil hod]
                  unfold oddT
                  rw [if_neg (by omega), hz, hp, hpe, hdd, hx]; simp)
                have hqs : ∃ g, q = some ⟨g, 0, none⟩ := by
                  rcases hA.s.shape with ⟨_, e, _⟩ | ⟨g, e, _⟩
                  · rw [e] at hjD; simp at hjD
                  · exact ⟨g, e⟩
                obtain ⟨g, rfl⟩ := hqs
                obtain ⟨c1, c2, c3⟩ := hA.s.setU j hjD z
                rw [hDj] at c1
                have q5 : IntKind.u8.wrap (((16 * p : Nat) : Int) + d) = (z.toNat : Int) := by rw [IntKind.wrap_u8, hz]; simp
                obtain ⟨P16, hP16⟩ : ∃ P, P = 16 * p := ⟨_, rfl⟩
                rw [← hP16] at c1 q5
                have qa : IntKind.i64.wrap ((j : Int) + 1 - 1) = j := by rw [IntKind.wrap_i64]; omega
                have qb : IntKind.i64.wrap (j : Int) = j := by rw [IntKind.wrap_i64]; omega
                have hnA : AccR encU 5 w m (D.set j z) (some ⟨g, 0, none⟩) c (wr.setCell ⟨g, j, none⟩ (.int .u8 (z.toNat : Int))) := ⟨c3, by rw [List.length_set]; exact hA.len, hA.new, hA.m.trans (((Mod.refl (fun k => k = g) wr).setCell (p := ⟨g, j, none⟩) (fun _ => rfl) _).to_below hA.m.size (by rintro k hk e; subst e; have := hA.new _ rfl; simp only at this; omega))⟩
                have HNA := Lib.hid hnA
                rw [hod] at hpar
                subst hmj
                clear hgt hx hv' hdv hd hdd hdig hD hod hp hpe hz hDe hj hjD hDj hA hP16 c3 hnA
                rcases hor with ⟨a, b, e⟩ | ⟨a, b, e⟩
                · have a' : (48 : Int) ≤ v := by omega
                  have b' : (v : Int) ≤ 57 := by omega
                  have c' : decide ((97 : Int) ≤ v) = false := decide_eq_false (by omega)
                  have e' : IntKind.i64.wrap ((v : Int) - 48) = d := by rw [IntKind.wrap_i64]; omega
                  have f' : ¬ (d : Int) < 0 := by omega
                  go_wp2_with fail
                  go_roundw
                  case rel => exact ⟨i + 1, j + 1, _, c, D.set j z, by omega, by go_num, rfl, by omega, hdig2, hDs, HNA.out⟩
                  case measure => simp [intOf]; omega
                · have a' : decide ((v : Int) ≤ 57) = false := decide_eq_false (by omega)
                  have a2 : (48 : Int) ≤ v := by omega
                  have b' : (97 : Int) ≤ v := by omega
                  have c' : (v : Int) ≤ 102 := by omega
                  have e' : IntKind.i64.wrap ((v : Int) - 87) = d := by rw [IntKind.wrap_i64]; omega
                  have f' : ¬ (d : Int) < 0 := by omega
                  go_wp2_with fail
                  go_roundw
                  case rel => exact ⟨i + 1, j + 1, _, c, D.set j z, by omega, by go_num, rfl, by omega, hdig2, hDs, HNA.out⟩
                  case measure => simp [intOf]; omega
            · have hd' : isHx x = false := by simpa using hd
              have e9 : Hid (hexO s = none) := Lib.hid (hx_false hil (by rw [← hx]; exact hd') H45.out)
              have hor : v < 48 ∨ (57 < v ∧ v < 97) ∨ 102 < v := by
                rw [hdv] at hd'; simp at hd'; omega
              have HM := Lib.hid hA.m
              clear hgt hx hv' hdv hd hd' hdig hD hA
              rcases hor with a | ⟨a, b⟩ | a
              · have a' : decide ((48 : Int) ≤ v) = false := decide_eq_false (by omega)
                have b' : decide ((97 : Int) ≤ v) = false := decide_eq_false (by omega)
                go_wp2_with fail
                go_ret2
                exact Bad.out _ e9.out HM.out
              · have a' : decide ((v : Int) ≤ 57) = false := decide_eq_false (by omega)
                have a2 : (48 : Int) ≤ v := by omega
                have b' : decide ((97 : Int) ≤ v) = false := decide_eq_false (by omega)
                go_wp2_with fail
                go_ret2
                exact Bad.out _ e9.out HM.out
              · have a' : decide ((v : Int) ≤ 57) = false := decide_eq_false (by omega)
                have a2 : (48 : Int) ≤ v := by omega
                have b' : (97 : Int) ≤ v := by omega
                have c' : decide ((v : Int) ≤ 102) = false := decide_eq_false (by omega)
                go_wp2_with fail
                go_ret2
                exact Bad.out _ e9.out HM.out
          · obtain rfl : i = n := by omega
            have htk : s.take i = s := List.take_of_length_le (by rw [← Hn.out]; exact Nat.le_refl _)
            have hDs : D = unh s := by rw [hD.out, htk]; unfold oddT; rw [if_neg (by have := HEV.out; omega), List.append_nil]
            have hok := hx_true HNE.out (by rw [← Hn.out]; exact HEV.out) (fun k hk => hdig.out k hk (by rw [Hn.out]; exact hk))
            have hune : unh s ≠ [] := by
              intro e
              have := unh_len s
              rw [e] at this
              have h1 := HNE.out
              have h2 := List.length_pos_iff.2 h1
              have h3 := HEV.out
              have h4 := Hn.out
              simp at this; omega
            have hcv := convU (cap := c) hA.s.rd (by rw [hDs]; exact hune)
            rw [hA.len, hDs] at hcv
            have HOK := Lib.hid hok
            have HM := Lib.hid hA.m
            clear hdig hD htk hDs hok hune hA
            go_wp2_with fail
            go_ret2
            exact ⟨by unfold hexV; rw [HOK.out]; rfl, HM.out⟩
end Go.Proofs.YtgkhnmohjidbmaaDoor
