/- Texts 4: what the laws lean on. -/
import Derived.Test.YtpdhmjmklmoknaaDoorZ3
set_option linter.unusedVariables false
set_option linter.unusedSimpArgs false
namespace Go.Proofs.YtpdhmjmklmoknaaDoor
open Go.RowKit Go.Shelf

set_option maxRecDepth 20000 in
set_option maxHeartbeats 8000000 in
theorem rlplain_any (s : List UInt8) (k : Nat) (w : World) (hl : s.length ≤ 1000000000) (hk : k ≤ 1000) :
    Calls Tryd.prog 28 #[.string ⟨s.toArray⟩, .int .i64 k] w fun e w' => e = .returned (.bool (plainB s k)) ∧ w = w' := by
  obtain ⟨B, hB⟩ : ∃ B, B = ByteArray.mk s.toArray := ⟨_, rfl⟩
  rw [← hB]
  obtain ⟨n, hn⟩ : ∃ n, n = s.length := ⟨_, rfl⟩
  have n1 : B.size = n := by rw [hB, hn]; rfl
  have hget : Hid (∀ i (h : i < B.size) (h2 : i < s.length), B[i] = s[i]) := Lib.hid (by subst hB; intro i h h2; rfl)
  have Hn := Lib.hid hn
  have n9 : n ≤ 1000000000 := by omega
  clear hB hn
  go_enter Tryd.func28, Tryd.ntmps28
  go_wp2_with fail
  go_loopw [5] (fun s5 wr => ∃ i : Nat, i ≤ n ∧ s5 = .int .i64 i ∧ Hid (∀ j (h : j < s.length), j < i → isAl s[j] = true) ∧ wr = w) (fun s5 _ => n - (intOf s5).toNat)
  case atStart => exact ⟨0, by omega, rfl, Lib.hid (fun j h h2 => by omega), rfl⟩
  case round =>
    obtain ⟨i, hin, rfl, hal, rfl⟩ := hrel
    by_cases hlt : i < n
    · have hib : i < B.size := by omega
      have hil : i < s.length := by rw [← Hn.out]; exact hlt
      have hgt := hget.out i hib hil
      obtain ⟨v, hv⟩ : ∃ v, v = s[i].toNat := ⟨_, rfl⟩
      have hgv : ((B[i]'hib).toNat : Int) = v := by rw [hgt, hv]
      have hdv : isAl s[i] = ((decide (97 ≤ v) && decide (v ≤ 122)) || (decide (48 ≤ v) && decide (v ≤ 57))) := by rw [hv]; rfl
      have i0 : (0 : Int) ≤ i := by omega
      have i1 : (i : Int) < n := by omega
      have i2 : IntKind.i64.wrap ((i : Int) + 1) = (i : Int) + 1 := by rw [IntKind.wrap_i64]; omega
      have hor : (97 ≤ v ∧ v ≤ 122) ∨ (48 ≤ v ∧ v ≤ 57) ∨ v < 48 ∨ (57 < v ∧ v < 97) ∨ 122 < v := by omega
      have hgood : isAl s[i] = true → Hid (∀ j (h : j < s.length), j < i + 1 → isAl s[j] = true) := fun h => Lib.hid (by
        intro j hj hj2
        by_cases e : j = i
        · subst e; exact h
        · exact hal.out j hj (by omega))
      have HG := Lib.hid hgood
      have HDV := Lib.hid hdv
      clear hv hgt hdv hgood
      rcases hor with ⟨a, b⟩ | ⟨a, b⟩ | a | ⟨a, b⟩ | a
      · have hnx := HG.out (by rw [HDV.out, decide_eq_true a, decide_eq_true b]; rfl)
        have a' : (97 : Int) ≤ v := by omega
        have b' : (v : Int) ≤ 122 := by omega
        clear HDV hal
        go_wp2_with fail
        go_roundw
        case rel => exact ⟨i + 1, by omega, by go_num, hnx, trivial⟩
        case measure => simp [intOf]; omega
      · have hnx := HG.out (by rw [HDV.out, decide_eq_true a, decide_eq_true b]; simp)
        have a' : (48 : Int) ≤ v := by omega
        have b' : (v : Int) ≤ 57 := by omega
        have c' : (v : Int) < 97 := by omega
        clear HDV hal
        go_wp2_with fail
        go_roundw
        case rel => exact ⟨i + 1, by omega, by go_num, hnx, trivial⟩
        case measure => simp [intOf]; omega
      · have e9 : Hid (plainB s k = false) := Lib.hid (al_false hil (by rw [HDV.out, decide_eq_false (show ¬ 97 ≤ v by omega), decide_eq_false (show ¬ 48 ≤ v by omega)]; rfl))
        have a' : decide ((97 : Int) ≤ v) = false := decide_eq_false (by omega)
        have b' : decide ((48 : Int) ≤ v) = false := decide_eq_false (by omega)
        clear HDV hal HG
        go_wp2_with fail
        go_ret
        exact ⟨by rw [e9.out]; rfl, rfl⟩
      · have e9 : Hid (plainB s k = false) := Lib.hid (al_false hil (by rw [HDV.out, decide_eq_false (show ¬ 97 ≤ v by omega), decide_eq_false (show ¬ v ≤ 57 by omega)]; simp))
        have a' : decide ((97 : Int) ≤ v) = false := decide_eq_false (by omega)
        have b' : decide ((v : Int) ≤ 57) = false := decide_eq_false (by omega)
        have c' : decide ((48 : Int) ≤ v) = true := decide_eq_true (by omega)
        clear HDV hal HG
        go_wp2_with fail
        go_ret
        exact ⟨by rw [e9.out]; rfl, rfl⟩
      · have e9 : Hid (plainB s k = false) := Lib.hid (al_false hil (by rw [HDV.out, decide_eq_false (show ¬ v ≤ 122 by omega), decide_eq_false (show ¬ v ≤ 57 by omega)]; simp))
        have a' : decide ((97 : Int) ≤ v) = true := decide_eq_true (by omega)
        have b' : decide ((v : Int) ≤ 122) = false := decide_eq_false (by omega)
        have c' : decide ((48 : Int) ≤ v) = true := decide_eq_true (by omega)
        have d' : decide ((v : Int) ≤ 57) = false := decide_eq_false (by omega)
        clear HDV hal HG
        go_wp2_with fail
        go_ret
        exact ⟨by rw [e9.out]; rfl, rfl⟩
    · obtain rfl : i = n := by omega
      have hval : Hid (plainB s k = (decide (1 ≤ i) && decide (i ≤ k))) := Lib.hid (by
        by_cases hne : s = []
        · have : i = 0 := by rw [Hn.out, hne]; rfl
          rw [hne, this]; rfl
        · have h1 : 1 ≤ i := by rw [Hn.out]; exact List.length_pos_iff.2 hne
          by_cases h2 : i ≤ k
          · rw [al_true hne (by rw [← Hn.out]; exact h2) (fun j hj => hal.out j hj (by rw [Hn.out]; exact hj)), decide_eq_true h1, decide_eq_true h2]; rfl
          · unfold plainB; rw [decide_eq_false (show ¬ s.length ≤ k by rw [← Hn.out]; exact h2), decide_eq_false h2]; simp)
      have hor : i < 1 ∨ (1 ≤ i ∧ i ≤ k) ∨ (1 ≤ i ∧ k < i) := by omega
      clear hal
      rcases hor with a | ⟨a, b⟩ | ⟨a, b⟩
      · have a' : (i : Int) < 1 := by omega
        have e9 : Hid (plainB s k = false) := Lib.hid (by rw [hval.out, decide_eq_false (by omega)]; rfl)
        go_wp2_with fail
        go_ret
        exact ⟨by rw [e9.out]; rfl, rfl⟩
      · have a' : (1 : Int) ≤ i := by omega
        have b' : (i : Int) ≤ k := by omega
        have e9 : Hid (plainB s k = true) := Lib.hid (by rw [hval.out, decide_eq_true a, decide_eq_true b]; rfl)
        go_wp2_with fail
        go_ret
        exact ⟨by rw [e9.out]; rfl, rfl⟩
      · have a' : (1 : Int) ≤ i := by omega
        have b' : (k : Int) < i := by omega
        have e9 : Hid (plainB s k = false) := Lib.hid (by rw [hval.out, decide_eq_false (show ¬ i ≤ k by omega)]; simp)
        go_wp2_with fail
        go_ret
        exact ⟨by rw [e9.out, decide_eq_false (show ¬ i ≤ k by omega)]; rfl, rfl⟩
set_option maxRecDepth 20000 in
set_option maxHeartbeats 8000000 in
theorem rlname_any (s : List UInt8) (w : World) (hl : s.length ≤ 1000000000) :
    Calls Tryd.prog 27 #[.string ⟨s.toArray⟩] w fun e w' => e = .returned (.bool (nameB s)) ∧ w = w' := by
  have H1 := Lib.hid (fun w => rlplain_any s 12 w hl (by omega))
  by_cases hp : plainB s 12 = true
  · rw [hp] at H1
    have hne : s ≠ [] := by intro e; rw [e] at hp; cases hp
    have h0 : 0 < s.length := List.length_pos_iff.2 hne
    obtain ⟨v, hv⟩ : ∃ v, v = (s[0]'h0).toNat := ⟨_, rfl⟩
    have hal : isAl (s[0]'h0) = true := by
      unfold plainB at hp; simp only [Bool.and_eq_true] at hp
      exact List.all_eq_true.1 hp.2 _ (List.getElem_mem h0)
    have hnb : nameB s = decide (97 ≤ v) := by
      have hl0 : nameB s = isLt (s[0]'h0) := by
        unfold nameB; rw [hp]
        cases s with
        | nil => exact absurd rfl hne
        | cons a l => rfl
      rw [hl0]
      unfold isAl isLt isDg at hal
      unfold isLt
      rw [← hv] at hal ⊢
      simp at hal
      by_cases h : 97 ≤ v
      · rw [decide_eq_true h, decide_eq_true (by omega)]; rfl
      · rw [decide_eq_false h]; rfl
    obtain ⟨S, hS⟩ : ∃ S, S = ByteArray.mk s.toArray := ⟨_, rfl⟩
    have hS0 : 0 < S.size := by rw [hS]; exact h0
    have hg0 : ((S[0]'hS0).toNat : Int) = v := by subst hS; rw [hv]; rfl
    rw [← hS] at H1 ⊢
    rw [hnb]
    clear hp hne hal hnb hS
    by_cases h : 97 ≤ v
    · have q : (97 : Int) ≤ v := by omega
      rw [decide_eq_true h]
      clear hv h h0
      go_enter Tryd.func27, Tryd.ntmps27
      go_wp2_with fail
      refine (H1.out _).mono ?_
      rintro e w1 ⟨rfl, rfl⟩
      go_wp2_with fail
      go_ret
      exact ⟨rfl, rfl⟩
    · have q : (v : Int) < 97 := by omega
      rw [decide_eq_false h]
      clear hv h h0
      go_enter Tryd.func27, Tryd.ntmps27
      go_wp2_with fail
      refine (H1.out _).mono ?_
      rintro e w1 ⟨rfl, rfl⟩
      go_wp2_with fail
      go_ret
      exact ⟨by rw [decide_eq_false (show ¬ (97 : Int) ≤ v by omega)]; rfl, rfl⟩
  · have hp' : plainB s 12 = false := by simpa using hp
    have hnb : nameB s = false := by unfold nameB; rw [hp']; rfl
    rw [hp'] at H1
    rw [hnb]
    clear hp hp' hnb
    go_enter Tryd.func27, Tryd.ntmps27
    go_wp2_with fail
    refine (H1.out _).mono ?_
    rintro e w1 ⟨rfl, rfl⟩
    go_wp2_with fail
    go_ret
    exact ⟨rfl, rfl⟩

theorem numD_low : ∀ s : List UInt8, s ≠ [] → s.head? ≠ some 48 → s.all isDg = true → 10 ^ (s.length - 1) ≤ numD s := by
  refine snoc_ind (fun h => absurd rfl h) ?_
  intro l c ih _ hh ha
  rw [numD_snoc]
  by_cases hl : l = []
  · subst hl
    have := numD_pos [c] (by simp) hh ha
    rw [show [c] = [] ++ [c] from rfl, numD_snoc] at this
    simpa using this
  · have h1 := ih hl (by cases l with
      | nil => exact absurd rfl hl
      | cons x r => simpa using hh) (by simp at ha ⊢; exact ha.1)
    have hp := List.length_pos_iff.2 hl
    rw [List.length_append, List.length_singleton, show l.length + 1 - 1 = (l.length - 1) + 1 by omega, Nat.pow_succ]
    omega
theorem long_false {s : List UInt8} (h : 13 < s.length) : numOk s = false := by
  by_cases hc : canon s = true
  · unfold numOk
    have hc2 := hc
    unfold canon at hc2
    simp only [Bool.and_eq_true, Bool.or_eq_true, decide_eq_true_eq] at hc2
    have hne : s ≠ [] := by intro e; rw [e] at h; simp at h
    have hh : s.head? ≠ some 48 := by
      rcases hc2.1.2 with h1 | h1
      · exact h1
      · rw [h1] at h; simp at h
    have := numD_low s hne hh hc2.2
    have h13 : 10 ^ 13 ≤ 10 ^ (s.length - 1) := Nat.pow_le_pow_right (by decide) (by omega)
    rw [decide_eq_false (by omega), Bool.and_false]
  · unfold numOk; rw [Bool.not_eq_true _ |>.mp hc, Bool.false_and]
theorem dec_canon : ∀ n, canon (Lib.decDigits n) = true ∧ (1 ≤ n → (Lib.decDigits n).head? ≠ some 48) := by
  intro n
  induction n using Nat.strongRecOn with
  | _ n ih =>
    by_cases h : n < 10
    · rw [Lib.decDigits_one h]
      have : ∀ k : Fin 10, canon [UInt8.ofNat (48 + k.val)] = true ∧ (1 ≤ k.val → [UInt8.ofNat (48 + k.val)].head? ≠ some 48) := by decide +kernel
      exact this ⟨n, h⟩
    · obtain ⟨h1, h2⟩ := ih (n / 10) (by omega)
      have hne : Lib.decDigits (n / 10) ≠ [] := by intro e; rw [e] at h1; cases h1
      have hh := h2 (by omega)
      have hd : isDg (UInt8.ofNat (48 + n % 10)) = true := by
        have : ∀ k : Fin 10, isDg (UInt8.ofNat (48 + k.val)) = true := by decide +kernel
        exact this ⟨n % 10, by omega⟩
      have e : Lib.decDigits n = Lib.decDigits (n / 10) ++ [UInt8.ofNat (48 + n % 10)] := by rw [Lib.decDigits, dif_neg h]
      have hhe : (Lib.decDigits n).head? ≠ some 48 := by
        rw [e]
        cases hl : Lib.decDigits (n / 10) with
        | nil => exact absurd hl hne
        | cons a l => rw [hl] at hh; simpa using hh
      refine ⟨?_, fun _ => hhe⟩
      unfold canon at h1 ⊢
      simp only [Bool.and_eq_true, Bool.or_eq_true, decide_eq_true_eq] at h1 ⊢
      refine ⟨⟨?_, .inl hhe⟩, by rw [e, List.all_append, h1.2]; simp only [List.all_cons, List.all_nil, hd, Bool.and_true]⟩
      rw [e]; cases hl : Lib.decDigits (n / 10) with
        | nil => exact absurd hl hne
        | cons a l => rfl
theorem dec_iff {s : List UInt8} (h0 : s ≠ []) (ha : s.all isDg = true) : (Lib.decDigits (numD s) == s) = canon s := by
  by_cases hc : canon s = true
  · rw [hc, beq_iff_eq]; exact dec_num s hc
  · have hc' : canon s = false := by simpa using hc
    rw [hc', beq_eq_false_iff_ne]
    intro e
    have := (dec_canon (numD s)).1
    rw [e] at this
    exact hc this
theorem numD_lt : ∀ s : List UInt8, s.all isDg = true → numD s < 10 ^ s.length := by
  refine snoc_ind (by simp [numD]) ?_
  intro l c ih ha
  simp only [List.all_append, Bool.and_eq_true] at ha
  have h1 := ih ha.1
  have h2 : isDg c = true := by simpa using ha.2
  unfold isDg at h2; simp at h2
  rw [numD_snoc, List.length_append, List.length_singleton, Nat.pow_succ]
  omega
/-- What the reference's Number answers. -/
def numR (s : List UInt8) : Int := if numOk s then (numD s : Int) else -1
end Go.Proofs.YtpdhmjmklmoknaaDoor

namespace Go.Proofs.YtpdhmjmklmoknaaDoor
open Go.RowKit Go.Shelf

/-- One byte of a row is set. -/
theorem Rw.setU {w : World} {g cap : Nat} {M : List UInt8} (h : Rw encU 5 w (some ⟨g, 0, none⟩) cap M) (i : Nat) (hi : i < M.length) (y : UInt8) :
    w.cell? ⟨g, i, none⟩ = some (.int .u8 ((M[i]).toNat : Int)) ∧ w.frozen? ⟨g, i, none⟩ = false ∧ Rw encU 5 (w.setCell ⟨g, i, none⟩ (.int .u8 (y.toNat : Int))) (some ⟨g, 0, none⟩) cap (M.set i y) := by
  have hall : ∀ L : List UInt8, encU.all L = L.map (fun x => Value.int .u8 (x.toNat : Int)) := by
    intro L
    induction L with
    | nil => rfl
    | cons a l ih => rw [show encU.all (a :: l) = encU.f a ++ encU.all l from rfl, ih]; rfl
  rcases h.shape with ⟨e, _⟩ | ⟨g', e, hl, h1, h2, cur, hh, h3, h4⟩
  · cases e
  cases e
  have hk : encU.k = 1 := rfl
  rw [hk, Nat.mul_one] at h3 h4
  have hci : cur[i]? = some (.int .u8 ((M[i]).toNat : Int)) := by
    have := congrArg (fun l => l[i]?) h4
    simp only [List.getElem?_take, if_pos hi] at this
    rw [← Array.getElem?_toList, this, hall]; simp [hi]
  refine ⟨by rw [cell_of_row w g i cur 5 (0, 0) hh, hci], frozen_of_row w g i cur 5 hh, ?_⟩
  refine Rw.of_row (heap_setCell_same w g i cur 5 _ hh) (by rw [List.length_set]; exact h1) h2 (by rw [hk, Array.size_setIfInBounds, h3]; omega) ?_
  rw [hk, Nat.mul_one, List.length_set, Array.toList_setIfInBounds, hall, List.map_set, ← hall, ← h4, List.take_set]
def oddT (s : List UInt8) (i : Nat) : List UInt8 := if i % 2 = 1 then [UInt8.ofNat (16 * hv (s.getD (i - 1) 0))] else []

set_option maxRecDepth 20000 in
set_option maxHeartbeats 8000000 in
theorem rlbytes_any (s : List UInt8) (w : World) (hl : s.length ≤ 1000000) :
    Calls Tryd.prog 15 #[.string ⟨s.toArray⟩] w fun e w' => e = .returned (hexV s) ∧ Below w.heap.size w w' := by
  obtain ⟨B, hB⟩ : ∃ B, B = ByteArray.mk s.toArray := ⟨_, rfl⟩
  rw [← hB]
  obtain ⟨n, hn⟩ : ∃ n, n = s.length := ⟨_, rfl⟩
  have n1 : B.size = n := by rw [hB, hn]; rfl
  have hL : B.toList = s := by rw [hB, ByteArray.toList_mk]
  have hget : Hid (∀ i (h : i < B.size) (h2 : i < s.length), B[i] = s[i]) := Lib.hid (by subst hB; intro i h h2; rfl)
  have bad : ∀ w', hexO s = none → Below w.heap.size w w' → (Ending.returned (.tuple #[.string ⟨#[]⟩, .bool false]) = .returned (hexV s)) ∧ Below w.heap.size w w' := fun w' h hb => ⟨by unfold hexV; rw [h]; rfl, hb⟩
  have Bad := Lib.hid bad
  clear bad
  by_cases h45 : s = [45]
  · have e0 : (B.toList == [45]) = true := by rw [hL, h45]; rfl
    have e9 : Hid (hexO s = some []) := Lib.hid (by rw [h45]; rfl)
    clear hL hB hn
    go_enter Tryd.func15, Tryd.ntmps15
    go_wp2_with fail
    go_ret2
    exact ⟨by unfold hexV; rw [e9.out]; rfl, Below.refl _ _⟩
  · have e0 : (B.toList == [45]) = false := by rw [hL, beq_eq_false_iff_ne]; exact h45
    by_cases hne : s = []
    · have e1 : (B.toList == []) = true := by rw [hL, hne]; rfl
      have e9 : Hid (hexO s = none) := Lib.hid (by rw [hne]; rfl)
      clear hL hB hn
      go_enter Tryd.func15, Tryd.ntmps15
      go_wp2_with fail
      go_ret2
      exact Bad.out _ e9.out (Below.refl _ _)
    · have e1 : (B.toList == []) = false := by rw [hL, beq_eq_false_iff_ne]; exact hne
      by_cases hodd : n % 2 = 1
      · have e9 : Hid (hexO s = none) := Lib.hid (by
          unfold hexO; rw [if_neg h45]
          have : hexOk s = false := by unfold hexOk; rw [decide_eq_false (by omega), Bool.and_false, Bool.false_and]
          rw [this]; rfl)
        have q1 : (n : Int).tmod 2 = 1 := by rw [Int.tmod_eq_emod_of_nonneg (by omega)]; omega
        clear hL hB hn hodd
        go_enter Tryd.func15, Tryd.ntmps15
        go_wp2_with fail
        go_ret2
        exact Bad.out _ e9.out (Below.refl _ _)
      · have q1 : (n : Int).tmod 2 = 0 := by rw [Int.tmod_eq_emod_of_nonneg (by omega)]; omega
        have Hn := Lib.hid hn
        have HNE := Lib.hid hne
        have H45 := Lib.hid h45
        have HEV : Hid (n % 2 = 0) := Lib.hid (by omega)
        have n9 : n ≤ 1000000 := by omega
        clear hL hB hn hne h45 hodd
        go_enter Tryd.func15, Tryd.ntmps15
        go_wp2_with fail
        obtain ⟨W1, hW1⟩ : ∃ W1, W1 = w.alloc (.cells #[] 5) := ⟨_, rfl⟩
        have h0 : AccR encU 5 w 0 [] (some ⟨w.heap.size, 0, none⟩) 0 W1 := ⟨by rw [hW1]; exact Rw.made (E := encU) 5 w [] (by simp [maxLen]), rfl, (fun a e => by cases e; exact Nat.le_refl _), by rw [hW1]; exact (Below.refl _ _).alloc (Nat.le_refl _) _⟩
        rw [← hW1]
        clear hW1
        go_loopw [4, 5] (fun s4 s5 wr => ∃ (i m : Nat) (q : Option Addr) (c : Nat) (D : List UInt8), i ≤ n ∧ s5 = .int .i64 i ∧ s4 = .slice q m c ∧ m ≤ i ∧ Hid (∀ j (h : j < s.length), j < i → isHx s[j] = true) ∧ Hid (D = unh (s.take i) ++ oddT s i) ∧ AccR encU 5 w m D q c wr) (fun _ s5 _ => n - (intOf s5).toNat)
        case atStart => exact ⟨0, 0, _, _, [], by omega, rfl, rfl, by omega, Lib.hid (fun j h h2 => by omega), Lib.hid rfl, h0⟩
        case round =>
          clear h0
          obtain ⟨i, m, q, c, D, hin, rfl, rfl, hmi, hdig, hD, hA⟩ := hrel
          by_cases hlt : i < n
          · have hib : i < B.size := by omega
            have hil : i < s.length := by rw [← Hn.out]; exact hlt
            have hgt := hget.out i hib hil
            obtain ⟨x, hx⟩ : ∃ x, x = s[i] := ⟨_, rfl⟩
            obtain ⟨v, hv'⟩ : ∃ v, v = x.toNat := ⟨_, rfl⟩
            have hgv : ((B[i]'hib).toNat : Int) = v := by rw [hgt, hv', hx]
            have hv255 : v < 256 := by rw [hv']; exact x.toNat_lt
            have i0 : (0 : Int) ≤ i := by omega
            have i1 : (i : Int) < n := by omega
            have i2 : IntKind.i64.wrap ((i : Int) + 1) = (i : Int) + 1 := by rw [IntKind.wrap_i64]; omega
            have i3 : IntKind.i64.wrap (v : Int) = v := by rw [IntKind.wrap_i64]; omega
            have hpar : (i : Int).tmod 2 = ((i % 2 : Nat) : Int) := by rw [Int.tmod_eq_emod_of_nonneg (by omega)]; omega
            have hdv : isHx x = ((decide (48 ≤ v) && decide (v ≤ 57)) || (decide (97 ≤ v) && decide (v ≤ 102))) := by rw [hv']; rfl
            by_cases hd : isHx x = true
            · obtain ⟨d, hdd⟩ : ∃ d, d = hv x := ⟨_, rfl⟩
              have hd16 : d < 16 := by rw [hdd]; exact (hv_ok x hd).1
              have hor : (48 ≤ v ∧ v ≤ 57 ∧ d + 48 = v) ∨ (97 ≤ v ∧ v ≤ 102 ∧ d + 87 = v) := by
                rw [hdv] at hd
                simp at hd
                have : isDg x = (decide (48 ≤ v) && decide (v ≤ 57)) := by rw [hv']; rfl
                rw [hdd]; unfold hv; rw [this, ← hv']
                rcases hd with ⟨a, b⟩ | ⟨a, b⟩
                · left; rw [decide_eq_true a, decide_eq_true b]; simp; omega
                · right; rw [decide_eq_false (show ¬ v ≤ 57 by omega)]; simp; omega
              have hdig2 : Hid (∀ j (h : j < s.length), j < i + 1 → isHx s[j] = true) := Lib.hid (by
                intro j hj hj2
                by_cases e : j = i
                · subst e; rw [← hx]; exact hd
                · exact hdig.out j hj (by omega))
              have e16 : IntKind.i64.wrap (16 * (d : Int)) = 16 * (d : Int) := by rw [IntKind.wrap_i64]; omega
              have ed : IntKind.u8.wrap (d : Int) = (d : Int) := by rw [IntKind.wrap_u8]; omega
              rcases Nat.mod_two_eq_zero_or_one i with hev | hod
              · obtain ⟨y, hy⟩ : ∃ y, y = UInt8.ofNat (16 * d) := ⟨_, rfl⟩
                have q5 : IntKind.u8.wrap (16 * (d : Int)) = (y.toNat : Int) := by rw [IntKind.wrap_u8, hy]; simp
                have hnx : Hid (D ++ [y] = unh (s.take (i + 1)) ++ oddT s (i + 1)) := Lib.hid (by
                  rw [hD.out, unh_even hil hev]
                  unfold oddT
                  rw [if_neg (by omega), if_pos (by omega), hy, hdd, hx, show i + 1 - 1 = i by omega, List.getD_eq_getElem?_getD, List.getElem?_eq_getElem hil]; simp)
                rw [hev] at hpar
                clear hgt hx hv' hdv hd hdd hdig hD hev hy
                rcases hor with ⟨a, b, e⟩ | ⟨a, b, e⟩
                · have a' : (48 : Int) ≤ v := by omega
                  have b' : (v : Int) ≤ 57 := by omega
                  have c' : decide ((97 : Int) ≤ v) = false := decide_eq_false (by omega)
                  have e' : IntKind.i64.wrap ((v : Int) - 48) = d := by rw [IntKind.wrap_i64]; omega
                  have f' : ¬ (d : Int) < 0 := by omega
                  go_wp2_with (at_builtin; refine wpList_pushR encU rfl _ _ 44 5 (.int .u8 0) 1 rfl Tryd.underlying44 lninfo_u8 rfl (by decide) q c m D hA.len rfl (hA.below ((Below.refl _ wr).alloc (Nat.le_refl _) _)).s (some ⟨wr.heap.size, 0, none⟩) 1 1 [y] rfl rfl (Rd.made encU wr 5 [y] (by simp [maxLen])) (by omega) ?_)
                  intro q2 c2 w6 hP
                  have hA2 := Lib.hid ((hA.below ((Below.refl _ wr).alloc (Nat.le_refl _) _)).push hP)
                  clear hP
                  go_wp2_with fail
                  go_roundw
                  case rel => exact ⟨i + 1, m + 1, q2, c2, D ++ [y], by omega, by go_num, rfl, by omega, hdig2, hnx, hA2.out⟩
                  case measure => simp [intOf]; omega
                · have a' : decide ((v : Int) ≤ 57) = false := decide_eq_false (by omega)
                  have a2 : (48 : Int) ≤ v := by omega
                  have b' : (97 : Int) ≤ v := by omega
                  have c' : (v : Int) ≤ 102 := by omega
                  have e' : IntKind.i64.wrap ((v : Int) - 87) = d := by rw [IntKind.wrap_i64]; omega
                  have f' : ¬ (d : Int) < 0 := by omega
                  go_wp2_with (at_builtin; refine wpList_pushR encU rfl _ _ 44 5 (.int .u8 0) 1 rfl Tryd.underlying44 lninfo_u8 rfl (by decide) q c m D hA.len rfl (hA.below ((Below.refl _ wr).alloc (Nat.le_refl _) _)).s (some ⟨wr.heap.size, 0, none⟩) 1 1 [y] rfl rfl (Rd.made encU wr 5 [y] (by simp [maxLen])) (by omega) ?_)
                  intro q2 c2 w6 hP
                  have hA2 := Lib.hid ((hA.below ((Below.refl _ wr).alloc (Nat.le_refl _) _)).push hP)
                  clear hP
                  go_wp2_with fail
                  go_roundw
                  case rel => exact ⟨i + 1, m + 1, q2, c2, D ++ [y], by omega, by go_num, rfl, by omega, hdig2, hnx, hA2.out⟩
                  case measure => simp [intOf]; omega
              · obtain ⟨p, hp⟩ : ∃ p, p = hv (s.getD (i - 1) 0) := ⟨_, rfl⟩
                have hpe : s.getD (i - 1) 0 = s[i - 1]'(by omega) := by rw [List.getD_eq_getElem?_getD, List.getElem?_eq_getElem (by omega)]; rfl
                have hp16 : p < 16 := by rw [hp, hpe]; exact (hv_ok _ (hdig.out (i - 1) (by omega) (by omega))).1
                obtain ⟨z, hz⟩ : ∃ z, z = UInt8.ofNat (16 * p + d) := ⟨_, rfl⟩
                have hDe : D = unh (s.take i) ++ [UInt8.ofNat (16 * p)] := by rw [hD.out, hp]; unfold oddT; rw [if_pos hod]
                obtain ⟨j, hj⟩ : ∃ j, j = (unh (s.take i)).length := ⟨_, rfl⟩
                have hmj : m = j + 1 := by rw [← hA.len, hDe, List.length_append, hj]; rfl
                have hjD : j < D.length := by rw [hA.len]; omega
                have hDj : (D[j]'hjD).toNat = 16 * p := by
                  have : D[j]? = some (UInt8.ofNat (16 * p)) := by rw [hDe, hj]; simp
                  rw [List.getElem?_eq_getElem hjD] at this
                  rw [Option.some.inj this]; simp; omega
                have hDs : Hid (D.set j z = unh (s.take (i + 1)) ++ oddT s (i + 1)) := Lib.hid (by
                  rw [hDe, hj, List.set_append_right _ _ (Nat.le_refl _), Nat.sub_self, unh_odd hil hod]
                  unfold oddT
                  rw [if_neg (by omega), hz, hp, hpe, hdd, hx]; simp)
                have hqs : ∃ g, q = some ⟨g, 0, none⟩ := by
                  rcases hA.s.shape with ⟨_, e, _⟩ | ⟨g, e, _⟩
                  · rw [e] at hjD; simp at hjD
                  · exact ⟨g, e⟩
                obtain ⟨g, rfl⟩ := hqs
                obtain ⟨c1, c2, c3⟩ := hA.s.setU j hjD z
                rw [hDj] at c1
                have q5 : IntKind.u8.wrap (((16 * p : Nat) : Int) + d) = (z.toNat : Int) := by rw [IntKind.wrap_u8, hz]; simp
                obtain ⟨P16, hP16⟩ : ∃ P, P = 16 * p := ⟨_, rfl⟩
                rw [← hP16] at c1 q5
                have qa : IntKind.i64.wrap ((j : Int) + 1 - 1) = j := by rw [IntKind.wrap_i64]; omega
                have qb : IntKind.i64.wrap (j : Int) = j := by rw [IntKind.wrap_i64]; omega
                have hnA : AccR encU 5 w m (D.set j z) (some ⟨g, 0, none⟩) c (wr.setCell ⟨g, j, none⟩ (.int .u8 (z.toNat : Int))) := ⟨c3, by rw [List.length_set]; exact hA.len, hA.new, hA.m.trans (((Mod.refl (fun k => k = g) wr).setCell (p := ⟨g, j, none⟩) (fun _ => rfl) _).to_below hA.m.size (by rintro k hk e; subst e; have := hA.new _ rfl; simp only at this; omega))⟩
                have HNA := Lib.hid hnA
                rw [hod] at hpar
                subst hmj
                clear hgt hx hv' hdv hd hdd hdig hD hod hp hpe hz hDe hj hjD hDj hA hP16 c3 hnA
                rcases hor with ⟨a, b, e⟩ | ⟨a, b, e⟩
                · have a' : (48 : Int) ≤ v := by omega
                  have b' : (v : Int) ≤ 57 := by omega
                  have c' : decide ((97 : Int) ≤ v) = false := decide_eq_false (by omega)
                  have e' : IntKind.i64.wrap ((v : Int) - 48) = d := by rw [IntKind.wrap_i64]; omega
                  have f' : ¬ (d : Int) < 0 := by omega
                  go_wp2_with fail
                  go_roundw
                  case rel => exact ⟨i + 1, j + 1, _, c, D.set j z, by omega, by go_num, rfl, by omega, hdig2, hDs, HNA.out⟩
                  case measure => simp [intOf]; omega
                · have a' : decide ((v : Int) ≤ 57) = false := decide_eq_false (by omega)
                  have a2 : (48 : Int) ≤ v := by omega
                  have b' : (97 : Int) ≤ v := by omega
                  have c' : (v : Int) ≤ 102 := by omega
                  have e' : IntKind.i64.wrap ((v : Int) - 87) = d := by rw [IntKind.wrap_i64]; omega
                  have f' : ¬ (d : Int) < 0 := by omega
                  go_wp2_with fail
                  go_roundw
                  case rel => exact ⟨i + 1, j + 1, _, c, D.set j z, by omega, by go_num, rfl, by omega, hdig2, hDs, HNA.out⟩
                  case measure => simp [intOf]; omega
            · have hd' : isHx x = false := by simpa using hd
              have e9 : Hid (hexO s = none) := Lib.hid (hx_false hil (by rw [← hx]; exact hd') H45.out)
              have hor : v < 48 ∨ (57 < v ∧ v < 97) ∨ 102 < v := by
                rw [hdv] at hd'; simp at hd'; omega
              have HM := Lib.hid hA.m
              clear hgt hx hv' hdv hd hd' hdig hD hA
              rcases hor with a | ⟨a, b⟩ | a
              · have a' : decide ((48 : Int) ≤ v) = false := decide_eq_false (by omega)
                have b' : decide ((97 : Int) ≤ v) = false := decide_eq_false (by omega)
                go_wp2_with fail
                go_ret2
                exact Bad.out _ e9.out HM.out
              · have a' : decide ((v : Int) ≤ 57) = false := decide_eq_false (by omega)
                have a2 : (48 : Int) ≤ v := by omega
                have b' : decide ((97 : Int) ≤ v) = false := decide_eq_false (by omega)
                go_wp2_with fail
                go_ret2
                exact Bad.out _ e9.out HM.out
              · have a' : decide ((v : Int) ≤ 57) = false := decide_eq_false (by omega)
                have a2 : (48 : Int) ≤ v := by omega
                have b' : (97 : Int) ≤ v := by omega
                have c' : decide ((v : Int) ≤ 102) = false := decide_eq_false (by omega)
                go_wp2_with fail
                go_ret2
                exact Bad.out _ e9.out HM.out
          · obtain rfl : i = n := by omega
            have htk : s.take i = s := List.take_of_length_le (by rw [← Hn.out]; exact Nat.le_refl _)
            have hDs : D = unh s := by rw [hD.out, htk]; unfold oddT; rw [if_neg (by have := HEV.out; omega), List.append_nil]
            have hok := hx_true HNE.out (by rw [← Hn.out]; exact HEV.out) (fun k hk => hdig.out k hk (by rw [Hn.out]; exact hk))
            have hune : unh s ≠ [] := by
              intro e
              have := unh_len s
              rw [e] at this
              have h1 := HNE.out
              have h2 := List.length_pos_iff.2 h1
              have h3 := HEV.out
              have h4 := Hn.out
              simp at this; omega
            have hcv := convU (cap := c) hA.s.rd (by rw [hDs]; exact hune)
            rw [hA.len, hDs] at hcv
            have HOK := Lib.hid hok
            have HM := Lib.hid hA.m
            clear hdig hD htk hDs hok hune hA
            go_wp2_with fail
            go_ret2
            exact ⟨by unfold hexV; rw [HOK.out]; rfl, HM.out⟩
end Go.Proofs.YtpdhmjmklmoknaaDoor

namespace Go.Proofs.YtpdhmjmklmoknaaDoor
open Go.RowKit Go.Shelf

theorem ext_take (s : List UInt8) (n : Nat) : (ByteArray.mk s.toArray).extract 0 n = ⟨(s.take n).toArray⟩ := by
  rw [ByteArray.extract_mk, List.drop_zero, Nat.sub_zero]
set_option maxRecDepth 20000 in
set_option maxHeartbeats 400000 in
theorem lwcut_any (s : List UInt8) (n : Nat) (w : World) (_hl : s.length ≤ 9223372036854775807) (_hn : n ≤ 1000000) :
    Calls Tryd.prog 9 #[.string ⟨s.toArray⟩, .int .i64 n] w fun r w' => r = .returned (.string ⟨(s.take n).toArray⟩) ∧ w = w' := by
  obtain ⟨B, hB⟩ : ∃ B, B = ByteArray.mk s.toArray := ⟨_, rfl⟩
  have n1 : B.size = s.length := by rw [hB]; rfl
  have he := ext_take s n
  rw [← hB] at he ⊢
  by_cases h : n < s.length
  · have h' : (n : Int) < s.length := by omega
    have HE := Lib.hid he
    clear he hB
    go_enter Tryd.func9, Tryd.ntmps9
    go_wp2_with fail
    rw [HE.out]
    go_ret
    exact ⟨rfl, rfl⟩
  · have h' : ¬ (n : Int) < s.length := by omega
    have e : Hid (s.take n = s) := Lib.hid (List.take_of_length_le (by omega))
    have HB := Lib.hid hB
    clear he hB
    go_enter Tryd.func9, Tryd.ntmps9
    go_wp2_with fail
    go_ret
    exact ⟨by rw [e.out, ← HB.out]; rfl, rfl⟩
theorem bcat2' (u : List UInt8) : (⟨#[114, 97, 119, 32]⟩ : ByteArray) ++ ⟨u.toArray⟩ = ⟨([114, 97, 119] ++ 32 :: u).toArray⟩ := by apply ByteArray.ext; simp
def rawS : List UInt8 := [114, 97, 119]
theorem hx_no {u : List UInt8} {c : UInt8} (hc : c ∈ u) (h : isHx c = false) (h2 : c ≠ 45) : hexO u = none := by
  obtain ⟨i, hi, rfl⟩ := List.getElem_of_mem hc
  refine hx_false hi h ?_
  rintro rfl
  have : i = 0 := by simp at hi; exact hi
  subst this
  exact h2 rfl
theorem raw_step (u : List UInt8) : stepM (rawS ++ 32 :: u) = (hexO u).map fun b => ⟨rawS, [], [], b⟩ := by
  have hs : spl 32 (rawS ++ 32 :: u) = rawS :: spl 32 u := by
    have := splA_cut 32 u rawS [] (by decide)
    rwa [List.nil_append] at this
  have hn : needP rawS = some [72] := by decide
  unfold stepM
  rw [hs]
  show stepW rawS (spl 32 u) = _
  unfold stepW
  rw [hn]
  simp only
  by_cases h : (32 : UInt8) ∈ u
  · rw [hx_no h (by decide) (by decide), if_neg]; rfl
    rw [spl_len]
    have := List.count_pos_iff.2 h
    simp; omega
  · rw [show spl 32 u = [u] from by unfold spl; rw [splA_none 32 u [] h]; rfl, if_pos (show ([u] : List (List UInt8)).length = ([72] : List UInt8).length from rfl)]
    show (take1 72 u _).bind _ = _
    unfold take1
    rw [if_neg (by decide), if_neg (by decide), if_neg (by decide), if_neg (by decide), if_neg (by decide)]
    cases hexO u <;> rfl
theorem raw_par (u : List UInt8) (h : (10 : UInt8) ∉ u) : parM (rawS ++ 32 :: u) = match hexO u with | none => ([], 1, false) | some b => ([⟨rawS, [], [], b⟩], 0, true) := by
  have hs : spl 10 (rawS ++ 32 :: u) = [rawS ++ 32 :: u] := by
    unfold spl; rw [splA_none 10 _ [] (by
      intro hm
      rw [List.mem_append, List.mem_cons] at hm
      rcases hm with hm | hm | hm
      · exact absurd hm (by decide)
      · exact absurd hm (by decide)
      · exact h hm)]; rfl
  unfold parM
  rw [hs, parG, if_neg (by rw [show mute (rawS ++ 32 :: u) = false from rfl]; decide), raw_step]
  cases hexO u <;> rfl
theorem hx_plain {u b : List UInt8} (h : hexO u = some b) : (10 : UInt8) ∉ u := by
  intro hm
  rw [hx_no hm (by decide) (by decide)] at h; cases h

set_option maxRecDepth 20000 in
set_option maxHeartbeats 8000000 in
theorem lineHex_any (s0 t0 : List UInt8) (w : World) (_hs : s0.length ≤ 9223372036854775807) (_ht : t0.length ≤ 9223372036854775807) :
    Calls Tryd.prog 6 #[.string ⟨s0.toArray⟩, .string ⟨t0.toArray⟩] w fun e w' => e = .returned (.bool true) ∧ Below w.heap.size w w' := by
  have HA := Lib.hid (fun w => lawake_any w)
  have HC1 := Lib.hid (fun w => lwcut_any s0 200 w _hs (by omega))
  have HC2 := Lib.hid (fun w => lwcut_any t0 200 w _ht (by omega))
  obtain ⟨b, hb⟩ : ∃ b, b = s0.take 200 := ⟨_, rfl⟩
  obtain ⟨u, hu⟩ : ∃ u, u = t0.take 200 := ⟨_, rfl⟩
  have hbl : b.length ≤ 200 := by rw [hb, List.length_take]; omega
  have hul : u.length ≤ 200 := by rw [hu, List.length_take]; omega
  rw [← hb] at HC1
  rw [← hu] at HC2
  clear hb hu
  have hhl : (hexW b).length ≤ 1000 := by
    unfold hexW; split
    · decide
    · rw [hexL_len]; omega
  have HX := Lib.hid (fun w => lhex_any b w (by omega))
  have HB1 := Lib.hid (fun w => rlbytes_any (hexW b) w (by omega))
  have HB2 := Lib.hid (fun w => rlbytes_any u w (by omega))
  have HSP := Lib.hid (fun w => rlsplit_any u 10 w (by omega))
  unfold hexV at HB1 HB2
  rw [hexO_hexW] at HB1
  simp only [Option.getD_some, Option.isSome_some] at HB1
  have HP := Lib.hid (fun w => lparse_any (rawS ++ 32 :: u) w (by rw [List.length_append, List.length_cons]; simp [rawS]; omega))
  obtain ⟨U, hU⟩ : ∃ U, U = ByteArray.mk u.toArray := ⟨_, rfl⟩
  have HCC : Hid ((⟨#[114, 97, 119, 32]⟩ : ByteArray) ++ U = ⟨(rawS ++ 32 :: u).toArray⟩) := Lib.hid (by
    rw [hU]; exact bcat2' u)
  have n1 : U.size = u.length := by rw [hU]; rfl
  have hget : Hid (∀ i (h : i < U.size) (h2 : i < u.length), U[i] = u[i]) := Lib.hid (by subst hU; intro i h h2; rfl)
  obtain ⟨Bb, hBb⟩ : ∃ B, B = ByteArray.mk b.toArray := ⟨_, rfl⟩
  have hbs : Bb.size ≤ 200 := by rw [hBb]; exact hbl
  rw [← hU] at HC2 HB2 HSP
  rw [← hBb] at HC1 HX HB1
  obtain ⟨n, hn⟩ : ∃ n, n = u.length := ⟨_, rfl⟩
  have Hn := Lib.hid hn
  rw [← hn] at n1 hul
  cases ho : hexO u with
  | some bv =>
    have HNO : Hid ((10 : UInt8) ∉ u) := Lib.hid (hx_plain ho)
    have hpar := raw_par u (hx_plain ho)
    rw [ho] at hpar HB2
    simp only [Option.getD_some, Option.isSome_some] at hpar HB2
    rw [hpar] at HP
    clear hpar ho hU hBb hn hbl hhl
    go_enter Tryd.func6, Tryd.ntmps6
    go_wp2_with fail
    refine (HA.out _).mono ?_
    rintro e w1 ⟨rfl, hb1⟩
    have M1 := Lib.hid hb1
    clear hb1
    go_wp2_with fail
    refine (HC1.out _).mono ?_
    rintro e w2 ⟨rfl, rfl⟩
    go_wp2_with fail
    refine (HC2.out _).mono ?_
    rintro e w2 ⟨rfl, rfl⟩
    go_wp2_with fail
    refine (HX.out _).mono ?_
    rintro e w2 ⟨rfl, hb2⟩
    have M2 := Lib.hid (M1.out.trans (hb2.mono M1.out.size))
    clear hb2
    go_wp2_with fail
    refine (HB1.out _).mono ?_
    rintro e w3 ⟨rfl, hb3⟩
    have M3 := Lib.hid (M2.out.trans (hb3.mono M2.out.size))
    clear hb3
    go_wp2_with fail
    rw [HCC.out]
    refine (HP.out _).mono ?_
    rintro e w4 ⟨hb4, q, c, V, rfl, hV, hR, _, hok⟩
    simp only at hV
    obtain ⟨v, rfl⟩ := List.length_eq_one_iff.1 (show V.length = 1 by have := congrArg List.length hV; simpa using this)
    have hvs : v.st = ⟨rawS, [], [], bv⟩ := by simpa using hV
    have M4 := Lib.hid (M3.out.trans (hb4.mono M3.out.size))
    have HR := Lib.hid hR
    have HVS := Lib.hid hvs
    clear hV hR hok hvs hb4
    go_wp2_with fail
    refine (HB2.out _).mono ?_
    rintro e w5 ⟨rfl, hb5⟩
    have M5 := Lib.hid (M4.out.trans (hb5.mono M4.out.size))
    have hR5 := HR.out.old hb5
    obtain ⟨g, rfl, _⟩ := shape_ne hR5 (by simp)
    have c3 := encV_cell hR5 0 3 (by simp) (by omega)
    simp only [List.getElem_cons_zero, Sv.c, stC, HVS.out, List.getElem?_toArray, List.getElem?_cons_succ, List.getElem?_cons_zero, List.length_cons, List.length_nil, Nat.reduceAdd, Nat.reduceMul, Nat.zero_add] at c3
    clear hb5 hR5 HR HVS
    go_wp2_with fail
    go_loopw [39, 11] (fun s39 s11 wr => ∃ i : Nat, i ≤ n ∧ s39 = .int .i64 i ∧ s11 = .bool true ∧ wr = w5) (fun s39 _ _ => n - (intOf s39).toNat)
    case atStart => exact ⟨0, by omega, rfl, rfl, rfl⟩
    case round =>
      obtain ⟨i, hin, rfl, rfl, rfl⟩ := hrel
      by_cases hlt : i < n
      · have hib : i < U.size := by omega
        have hil : i < u.length := by rw [← Hn.out]; exact hlt
        have hgt := hget.out i hib hil
        obtain ⟨x, hx⟩ : ∃ x, x = (u[i]).toNat := ⟨_, rfl⟩
        have hgv : ((U[i]'hib).toNat : Int) = x := by rw [hgt, hx]
        have hx10 : ((x : Int) != 10) = true := by
          rw [bne_iff_ne]; intro e
          refine HNO.out ?_
          have : u[i] = 10 := UInt8.toNat_inj.1 (by rw [← hx]; show x = 10; omega)
          rw [← this]; exact List.getElem_mem hil
        have i0 : (0 : Int) ≤ i := by omega
        have i1 : (i : Int) < n := by omega
        have i2 : IntKind.i64.wrap ((i : Int) + 1) = (i : Int) + 1 := by rw [IntKind.wrap_i64]; omega
        clear hgt hx
        go_wp2_with fail
        go_roundw
        case rel => exact ⟨i + 1, by omega, by go_num, rfl, trivial⟩
        case measure => simp [intOf]; omega
      · obtain rfl : i = n := by omega
        go_wp2_with fail
        go_ret
        exact ⟨rfl, M5.out⟩
  | none =>
    have hpn : Hid ((10 : UInt8) ∉ u → parM (rawS ++ 32 :: u) = ([], 1, false)) := Lib.hid (fun h => by have := raw_par u h; rwa [ho] at this)
    have hsp : Hid ((10 : UInt8) ∈ u → 1 < (spl 10 u).length) := Lib.hid (fun h => by rw [spl_len]; have := List.count_pos_iff.2 h; omega)
    rw [ho] at HB2
    simp only [Option.getD_none, Option.isSome_none] at HB2
    obtain ⟨L0, k0, ok0, hpe⟩ : ∃ L k ok, parM (rawS ++ 32 :: u) = (L, k, ok) := ⟨_, _, _, rfl⟩
    have hok0 : Hid (ok0 = true → (10 : UInt8) ∈ u) := Lib.hid (fun h => by
      by_cases hm : (10 : UInt8) ∈ u
      · exact hm
      · have := hpn.out hm; rw [hpe] at this; injection this with _ this; injection this with _ this; rw [this] at h; cases h)
    have hL300 : L0.length ≤ 300 := by have := parG_len (spl 10 (rawS ++ 32 :: u)) 0 [] (by simp); rw [show parG (spl 10 (rawS ++ 32 :: u)) 0 [] = parM (rawS ++ 32 :: u) from rfl, hpe] at this; exact this
    rw [hpe] at HP
    clear hpe hpn ho hU hBb hn hbl hhl
    go_enter Tryd.func6, Tryd.ntmps6
    go_wp2_with fail
    refine (HA.out _).mono ?_
    rintro e w1 ⟨rfl, hb1⟩
    have M1 := Lib.hid hb1
    clear hb1
    go_wp2_with fail
    refine (HC1.out _).mono ?_
    rintro e w2 ⟨rfl, rfl⟩
    go_wp2_with fail
    refine (HC2.out _).mono ?_
    rintro e w2 ⟨rfl, rfl⟩
    go_wp2_with fail
    refine (HX.out _).mono ?_
    rintro e w2 ⟨rfl, hb2⟩
    have M2 := Lib.hid (M1.out.trans (hb2.mono M1.out.size))
    clear hb2
    go_wp2_with fail
    refine (HB1.out _).mono ?_
    rintro e w3 ⟨rfl, hb3⟩
    have M3 := Lib.hid (M2.out.trans (hb3.mono M2.out.size))
    clear hb3
    go_wp2_with fail
    rw [HCC.out]
    refine (HP.out _).mono ?_
    rintro e w4 ⟨hb4, q, c, V, rfl, hV, hR, _, hok⟩
    have M4 := Lib.hid (M3.out.trans (hb4.mono M3.out.size))
    have HR := Lib.hid hR
    simp only at hV
    have hVl : V.length = L0.length := by have := congrArg List.length hV; simpa using this
    clear hV hR hok hb4
    obtain ⟨m, hm⟩ : ∃ m, m = V.length := ⟨_, rfl⟩
    rw [← hm]
    have hm9 : m ≤ 1000000000 := by omega
    clear hVl hL300
    go_wp2_with fail
    refine (HB2.out _).mono ?_
    rintro e w5 ⟨rfl, hb5⟩
    have M5 := Lib.hid (M4.out.trans (hb5.mono M4.out.size))
    have hR5 := HR.out.old hb5
    have HC3 : Hid (0 < m → ∃ g, q = some ⟨g, 0, none⟩ ∧ ∃ T : List UInt8, w5.cell? ⟨g, 3, none⟩ = some (.string ⟨T.toArray⟩)) := Lib.hid (fun h => by
      obtain ⟨g, rfl, _⟩ := shape_ne hR5 (by omega)
      have c3 := encV_cell hR5 0 3 (by omega) (by omega)
      exact ⟨g, rfl, V[0].st.text, by rw [show 0 * 4 + 3 = 3 from rfl] at c3; rw [c3]; rfl⟩)
    clear hb5 hR5 HR
    go_wp2_with fail
    go_loopw [39, 11] (fun s39 s11 wr => ∃ i : Nat, i ≤ n ∧ s39 = .int .i64 i ∧ s11 = .bool false ∧ wr = w5) (fun s39 _ _ => n - (intOf s39).toNat)
    case atStart => exact ⟨0, by omega, rfl, rfl, rfl⟩
    case round =>
      obtain ⟨i, hin, rfl, rfl, rfl⟩ := hrel
      by_cases hlt : i < n
      · have i1 : (i : Int) < n := by omega
        have i2 : IntKind.i64.wrap ((i : Int) + 1) = (i : Int) + 1 := by rw [IntKind.wrap_i64]; omega
        go_wp2_with fail
        go_roundw
        case rel => exact ⟨i + 1, by omega, by go_num, rfl, trivial⟩
        case measure => simp [intOf]; omega
      · obtain rfl : i = n := by omega
        cases ok0 with
        | false =>
          go_wp2_with fail
          go_ret
          exact ⟨rfl, M5.out⟩
        | true =>
          have hs1 := Lib.hid (hsp.out (hok0.out rfl))
          have HF : Hid (∀ q6 c6 w6, SplP wr 10 u (.returned (.slice q6 (spl 10 u).length c6)) w6 → True) := Lib.hid (fun _ _ _ _ => trivial)
          clear HF
          by_cases h0 : 0 < m
          · obtain ⟨g, rfl, T, c3⟩ := HC3.out h0
            obtain ⟨TB, hTB⟩ : ∃ B, B = ByteArray.mk T.toArray := ⟨_, rfl⟩
            rw [← hTB] at c3
            have h1m : (1 : Int) ≤ m := by omega
            clear hTB
            by_cases hTe : (TB.toList == []) = true
            · go_wp2_with fail
              refine (HSP.out _).mono ?_
              rintro e w6 ⟨hb6, q6, c6, rfl, _, _⟩
              have M6 := Lib.hid (M5.out.trans (hb6.mono M5.out.size))
              clear hb6
              go_wp2_with fail
              go_ret
              exact ⟨by rw [decide_eq_true (show (1 : Int) < ((spl 10 u).length : Int) by have := hs1.out; omega)]; rfl, M6.out⟩
            · have hTe' : (TB.toList == []) = false := by simpa using hTe
              clear hTe
              go_wp2_with fail
              refine (HSP.out _).mono ?_
              rintro e w6 ⟨hb6, q6, c6, rfl, _, _⟩
              have M6 := Lib.hid (M5.out.trans (hb6.mono M5.out.size))
              clear hb6
              go_wp2_with fail
              go_ret
              exact ⟨by rw [decide_eq_true (show (1 : Int) < ((spl 10 u).length : Int) by have := hs1.out; omega)]; rfl, M6.out⟩
          · have h1m : (m : Int) < 1 := by omega
            go_wp2_with fail
            refine (HSP.out _).mono ?_
            rintro e w6 ⟨hb6, q6, c6, rfl, _, _⟩
            have M6 := Lib.hid (M5.out.trans (hb6.mono M5.out.size))
            clear hb6
            go_wp2_with fail
            go_ret
            exact ⟨by rw [decide_eq_true (show (1 : Int) < ((spl 10 u).length : Int) by have := hs1.out; omega)]; rfl, M6.out⟩
end Go.Proofs.YtpdhmjmklmoknaaDoor

namespace Go.Proofs.YtpdhmjmklmoknaaDoor
open Go.RowKit Go.Shelf

set_option maxRecDepth 20000 in
set_option maxHeartbeats 8000000 in
theorem rlnumber_any (s : List UInt8) (w : World) (hl : s.length ≤ 1000000) :
    Calls Tryd.prog 26 #[.string ⟨s.toArray⟩] w fun e w' => e = .returned (.int .i64 (numR s)) ∧ Below w.heap.size w w' := by
  obtain ⟨B, hB⟩ : ∃ B, B = ByteArray.mk s.toArray := ⟨_, rfl⟩
  rw [← hB]
  obtain ⟨n, hn⟩ : ∃ n, n = s.length := ⟨_, rfl⟩
  have n1 : B.size = n := by rw [hB, hn]; rfl
  have hL : B.toList = s := by rw [hB, ByteArray.toList_mk]
  have HL := Lib.hid hL
  have hget : Hid (∀ i (h : i < B.size) (h2 : i < s.length), B[i] = s[i]) := Lib.hid (by subst hB; intro i h h2; rfl)
  have HBad : Hid (numOk s = false → numR s = -1) := Lib.hid (fun h => by unfold numR; rw [h]; rfl)
  obtain ⟨R, hR⟩ : ∃ R, R = numR s := ⟨_, rfl⟩
  rw [← hR] at HBad ⊢
  have HR := Lib.hid hR
  by_cases hne : s = []
  · have e1 : (B.toList == []) = true := by rw [hL, hne]; rfl
    have e9 : Hid (R = -1) := Lib.hid (HBad.out (by rw [hne]; rfl))
    clear hL hB hn hR
    go_enter Tryd.func26, Tryd.ntmps26
    go_wp2_with fail
    go_ret
    exact ⟨by rw [e9.out]; rfl, Below.refl _ _⟩
  · have e1 : (B.toList == []) = false := by rw [hL, beq_eq_false_iff_ne]; exact hne
    by_cases h13 : 13 < n
    · have h13' : (13 : Int) < n := by omega
      have e9 : Hid (R = -1) := Lib.hid (HBad.out (long_false (by omega)))
      clear hL hB hn hR
      go_enter Tryd.func26, Tryd.ntmps26
      go_wp2_with fail
      go_ret
      exact ⟨by rw [e9.out]; rfl, Below.refl _ _⟩
    · have h13' : ¬ (13 : Int) < n := by omega
      have Hn := Lib.hid hn
      have HNE := Lib.hid hne
      have n13 : n ≤ 13 := by omega
      clear hL hB hn hR hne h13
      go_enter Tryd.func26, Tryd.ntmps26
      go_wp2_with fail
      go_loopw [3, 4] (fun s3 s4 wr => ∃ i m : Nat, i ≤ n ∧ s4 = .int .i64 i ∧ s3 = .int .i64 m ∧ m ≤ 10000000000000 ∧ Hid (m = numD (s.take i)) ∧ Hid (∀ j (h : j < s.length), j < i → isDg s[j] = true) ∧ wr = w) (fun _ s4 _ => n - (intOf s4).toNat)
      case atStart => exact ⟨0, 0, by omega, rfl, rfl, by omega, Lib.hid rfl, Lib.hid (fun j h h2 => by omega), rfl⟩
      case round =>
        obtain ⟨i, m, hin, rfl, rfl, hm9, hm, hdig, rfl⟩ := hrel
        by_cases hlt : i < n
        · have hib : i < B.size := by omega
          have hil : i < s.length := by rw [← Hn.out]; exact hlt
          have hgt := hget.out i hib hil
          obtain ⟨x, hx⟩ : ∃ x, x = s[i] := ⟨_, rfl⟩
          obtain ⟨v, hv'⟩ : ∃ v, v = x.toNat := ⟨_, rfl⟩
          have hgv : ((B[i]'hib).toNat : Int) = v := by rw [hgt, hv', hx]
          have hv255 : v < 256 := by rw [hv']; exact x.toNat_lt
          have i0 : (0 : Int) ≤ i := by omega
          have i1 : (i : Int) < n := by omega
          have i2 : IntKind.i64.wrap ((i : Int) + 1) = (i : Int) + 1 := by rw [IntKind.wrap_i64]; omega
          have i3 : IntKind.i64.wrap (v : Int) = v := by rw [IntKind.wrap_i64]; omega
          have hdv : isDg x = (decide (48 ≤ v) && decide (v ≤ 57)) := by rw [hv']; rfl
          by_cases hd : isDg x = true
          · have hor : 48 ≤ v ∧ v ≤ 57 := by rw [hdv] at hd; simpa using hd
            obtain ⟨m2, hm2⟩ : ∃ m2, m2 = 10 * m + (v - 48) := ⟨_, rfl⟩
            have hdig2 : ∀ j (h : j < s.length), j < i + 1 → isDg s[j] = true := by
              intro j hj hj2
              by_cases e : j = i
              · subst e; rw [← hx]; exact hd
              · exact hdig.out j hj (by omega)
            have hm2e : m2 = numD (s.take (i + 1)) := by rw [numD_take s i hil, hm2, hm.out, hv', hx]
            have hb2 : m2 < 10 ^ (i + 1) := by
              have := numD_lt (s.take (i + 1)) (by
                rw [List.all_eq_true]; intro y hy
                obtain ⟨j, hj, rfl⟩ := List.getElem_of_mem hy
                rw [List.getElem_take]
                rw [List.length_take] at hj
                exact hdig2 j (by omega) (by omega))
              rw [List.length_take, Nat.min_eq_left (by omega)] at this
              rw [hm2e]; exact this
            have hb3 : m2 ≤ 10000000000000 := by
              have : 10 ^ (i + 1) ≤ 10 ^ 13 := Nat.pow_le_pow_right (by decide) (by omega)
              omega
            have HD2 := Lib.hid hdig2
            have HM2 := Lib.hid hm2e
            have a1 : decide ((v : Int) < 48) = false := decide_eq_false (by omega)
            have a2 : decide ((57 : Int) < v) = false := decide_eq_false (by omega)
            have q1 : IntKind.i64.wrap (10 * (m : Int)) = 10 * (m : Int) := by rw [IntKind.wrap_i64]; omega
            have q2 : IntKind.i64.wrap (10 * (m : Int) + v) = 10 * (m : Int) + v := by rw [IntKind.wrap_i64]; omega
            have q3 : IntKind.i64.wrap (10 * (m : Int) + v - 48) = m2 := by rw [IntKind.wrap_i64]; omega
            clear hgt hx hv' hdv hd hdig hdig2 hm2 hm2e hb2 hm
            go_wp2_with fail
            go_roundw
            case rel => exact ⟨i + 1, m2, by omega, by go_num, rfl, hb3, HM2, HD2, trivial⟩
            case measure => simp [intOf]; omega
          · have hd' : isDg x = false := by simpa using hd
            have e9 : Hid (R = -1) := Lib.hid (HBad.out (by
              unfold numOk canon
              have : s.all isDg = false := by
                rw [← Bool.not_eq_true, List.all_eq_true]; intro hh
                have := hh _ (List.getElem_mem hil); rw [← hx, hd'] at this; cases this
              rw [this, Bool.and_false, Bool.false_and]))
            have hor : v < 48 ∨ 57 < v := by rw [hdv] at hd'; simp at hd'; omega
            clear hgt hx hv' hdv hd hd' hdig hm
            rcases hor with a | a
            · have a1 : decide ((v : Int) < 48) = true := decide_eq_true (by omega)
              go_wp2_with fail
              go_ret
              exact ⟨by rw [e9.out]; rfl, Below.refl _ _⟩
            · have a1 : decide ((v : Int) < 48) = false := decide_eq_false (by omega)
              have a2 : decide ((57 : Int) < v) = true := decide_eq_true (by omega)
              go_wp2_with fail
              go_ret
              exact ⟨by rw [e9.out]; rfl, Below.refl _ _⟩
        · obtain rfl : i = n := by omega
          have hall : s.all isDg = true := by
            rw [List.all_eq_true]; intro y hy
            obtain ⟨j, hj, rfl⟩ := List.getElem_of_mem hy
            exact hdig.out j hj (by rw [Hn.out]; exact hj)
          have hms : m = numD s := by rw [hm.out, List.take_of_length_le (by rw [← Hn.out]; exact Nat.le_refl _)]
          have hdc := dec_iff HNE.out hall
          rw [← hms] at hdc
          have HDG := Lib.hid (fun w => rldigits_any m w (by omega))
          obtain ⟨DB, hDB⟩ : ∃ B, B = ByteArray.mk (Lib.decDigits m).toArray := ⟨_, rfl⟩
          rw [← hDB] at HDG
          have hDL : DB.toList = Lib.decDigits m := by rw [hDB, ByteArray.toList_mk]
          have hcmp : (DB.toList == B.toList) = canon s := by rw [hDL, HL.out, hdc]
          by_cases hc : canon s = true
          · rw [hc] at hcmp
            have hcmp2 : (DB.toList != B.toList) = false := by rw [bne, hcmp]; rfl
            by_cases hbig : 1099511627776 < m
            · have hb' : decide ((1099511627776 : Int) < m) = true := decide_eq_true (by omega)
              have e9 : Hid (R = -1) := Lib.hid (HBad.out (by unfold numOk; rw [decide_eq_false (by omega), Bool.and_false]))
              clear hall hms hdc hDB hDL hc hm hdig
              go_wp2_with fail
              refine (HDG.out _).mono ?_
              rintro e w6 ⟨rfl, hb6⟩
              have M6 := Lib.hid hb6
              clear hb6
              go_wp2_with fail
              go_ret
              exact ⟨by rw [e9.out]; rfl, M6.out⟩
            · have hb' : decide ((1099511627776 : Int) < m) = false := decide_eq_false (by omega)
              have e9 : Hid (R = m) := Lib.hid (by rw [HR.out]; unfold numR; rw [if_pos (by unfold numOk; rw [hc, decide_eq_true (by omega)]; rfl), hms])
              clear hall hms hdc hDB hDL hc hm hdig
              go_wp2_with fail
              refine (HDG.out _).mono ?_
              rintro e w6 ⟨rfl, hb6⟩
              have M6 := Lib.hid hb6
              clear hb6
              go_wp2_with fail
              go_ret
              exact ⟨by rw [e9.out]; rfl, M6.out⟩
          · have hc' : canon s = false := by simpa using hc
            rw [hc'] at hcmp
            have hcmp2 : (DB.toList != B.toList) = true := by rw [bne, hcmp]; rfl
            have e9 : Hid (R = -1) := Lib.hid (HBad.out (by unfold numOk; rw [hc', Bool.false_and]))
            clear hall hms hdc hDB hDL hc hc' hm hdig
            go_wp2_with fail
            refine (HDG.out _).mono ?_
            rintro e w6 ⟨rfl, hb6⟩
            have M6 := Lib.hid hb6
            clear hb6
            go_wp2_with fail
            go_ret
            exact ⟨by rw [e9.out]; rfl, M6.out⟩
end Go.Proofs.YtpdhmjmklmoknaaDoor

namespace Go.Proofs.YtpdhmjmklmoknaaDoor
open Go.RowKit Go.Shelf

/-- Its table, flat. -/
def needF : List (List UInt8) := needTab.flatMap fun p => [p.1, p.2]
theorem needF_len : needF.length = 36 := by decide
theorem needF_at : ∀ k : Fin 18, needF[2 * k.val]? = (needTab[k.val]?).map (·.1) ∧ needF[2 * k.val + 1]? = (needTab[k.val]?).map (·.2) ∧ needP ((needTab[k.val]?).map (·.1) |>.getD []) = (needTab[k.val]?).map (·.2) := by decide +kernel
theorem needP_none {s : List UInt8} (h : ∀ j (h : j < needTab.length), needTab[j].1 ≠ s) : needP s = none := by
  unfold needP
  rw [List.find?_eq_none.2 (by
    intro p hp
    obtain ⟨j, hj, rfl⟩ := List.getElem_of_mem hp
    simpa using h j hj)]; rfl
set_option maxRecDepth 20000 in
set_option maxHeartbeats 8000000 in
theorem rlneeds_any (s : List UInt8) (w : World) :
    Calls Tryd.prog 25 #[.string ⟨s.toArray⟩] w fun e w' => e = .returned (.tuple #[.string ⟨((needP s).getD []).toArray⟩, .bool (needP s).isSome]) ∧ Below w.heap.size w w' := by
  obtain ⟨B, hB⟩ : ∃ B, B = ByteArray.mk s.toArray := ⟨_, rfl⟩
  rw [← hB]
  have hL : B.toList = s := by rw [hB, ByteArray.toList_mk]
  have HL := Lib.hid hL
  obtain ⟨R, hR⟩ : ∃ R, R = needP s := ⟨_, rfl⟩
  rw [← hR]
  have HR := Lib.hid hR
  clear hB hL hR
  go_enter Tryd.func25, Tryd.ntmps25
  go_wp2_with fail
  obtain ⟨W1, hW1⟩ : ∃ W1, W1 = w.alloc (.cells #[.string ⟨#[111, 112, 101, 110]⟩, .string ⟨#[]⟩, .string ⟨#[117, 110, 109, 97, 114, 107]⟩, .string ⟨#[]⟩, .string ⟨#[99, 111, 109, 112, 97, 99, 116]⟩, .string ⟨#[]⟩, .string ⟨#[104, 101, 97, 100]⟩, .string ⟨#[]⟩, .string ⟨#[108, 111, 111, 107]⟩, .string ⟨#[]⟩, .string ⟨#[100, 105, 115, 107]⟩, .string ⟨#[78]⟩, .string ⟨#[104, 97, 108, 116]⟩, .string ⟨#[78]⟩, .string ⟨#[99, 108, 111, 99, 107]⟩, .string ⟨#[78]⟩, .string ⟨#[106, 111, 105, 110]⟩, .string ⟨#[78]⟩, .string ⟨#[108, 101, 97, 118, 101]⟩, .string ⟨#[78]⟩, .string ⟨#[97, 103, 97, 105, 110]⟩, .string ⟨#[73]⟩, .string ⟨#[119, 114, 111, 110, 103]⟩, .string ⟨#[73]⟩, .string ⟨#[99, 114, 97, 115, 104]⟩, .string ⟨#[77]⟩, .string ⟨#[109, 97, 114, 107]⟩, .string ⟨#[76]⟩, .string ⟨#[99, 101, 114, 116]⟩, .string ⟨#[76, 77]⟩, .string ⟨#[116, 97, 107, 101]⟩, .string ⟨#[78, 78]⟩, .string ⟨#[114, 97, 119]⟩, .string ⟨#[72]⟩, .string ⟨#[98, 108, 111, 99, 107]⟩, .string ⟨#[73, 78, 78, 84, 78, 78, 78, 76]⟩] 9) := ⟨_, rfl⟩
  have h0 : Rd encS W1 (some ⟨w.heap.size, 0, none⟩) needF := by rw [hW1]; exact Rd.made encS w 9 needF (by decide)
  have hb0 : Below w.heap.size w W1 := by rw [hW1]; exact (Below.refl _ _).alloc (Nat.le_refl _) _
  have HM := Lib.hid hb0
  have HC : Hid (∀ j (h : j < needF.length), W1.cell? ⟨w.heap.size, j, none⟩ = some (.string ⟨(needF[j]).toArray⟩)) := Lib.hid (fun j h => by
    obtain ⟨bs, off, e, _, hc⟩ := h0.str j h
    cases e
    rw [Nat.zero_add] at hc
    exact hc)
  rw [← hW1]
  clear hW1 h0 hb0
  go_loopw [5] (fun s5 wr => ∃ i k : Nat, Hid (i = 2 * k) ∧ k ≤ 18 ∧ s5 = .int .i64 i ∧ Hid (∀ j (h : j < needTab.length), j < k → needTab[j].1 ≠ s) ∧ wr = W1) (fun s5 _ => 36 - (intOf s5).toNat)
  case atStart => exact ⟨0, 0, Lib.hid rfl, by omega, rfl, Lib.hid (fun j h h2 => by omega), rfl⟩
  case round =>
    obtain ⟨i, k, HIK, hk18, rfl, hno, rfl⟩ := hrel
    have hik := HIK.out
    by_cases hlt : k < 18
    · have i0 : (0 : Int) ≤ i := by omega
      have HLT := Lib.hid hlt
      have i1 : (i : Int) < 36 := by omega
      have i4 : (i : Int) + 1 < 36 := by omega
      have i2 : IntKind.i64.wrap ((i : Int) + 2) = (i : Int) + 2 := by rw [IntKind.wrap_i64]; omega
      have i3 : IntKind.i64.wrap (1 + (i : Int)) = ((i + 1 : Nat) : Int) := by rw [IntKind.wrap_i64]; omega
      have hkl : k < needTab.length := hlt
      obtain ⟨n1, n2, n3⟩ := needF_at ⟨k, hlt⟩
      simp only at n1 n2 n3
      rw [← hik] at n1 n2
      have hi1 : i < needF.length := by rw [needF_len]; omega
      have hi2 : i + 1 < needF.length := by rw [needF_len]; omega
      have c1 := HC.out i hi1
      have c2 := HC.out (i + 1) hi2
      rw [List.getElem?_eq_getElem hkl] at n1 n2 n3
      rw [List.getElem?_eq_getElem hi1] at n1
      rw [List.getElem?_eq_getElem hi2] at n2
      simp only [Option.map_some, Option.some.injEq, Option.getD_some] at n1 n2 n3
      rw [n1] at c1
      rw [n2] at c2
      obtain ⟨A, hA⟩ : ∃ A, A = ByteArray.mk (needTab[k].1).toArray := ⟨_, rfl⟩
      have hAl : A.toList = needTab[k].1 := by rw [hA, ByteArray.toList_mk]
      obtain ⟨A2, hA2⟩ : ∃ A, A = ByteArray.mk (needTab[k].2).toArray := ⟨_, rfl⟩
      rw [← hA] at c1
      rw [← hA2] at c2
      by_cases he : needTab[k].1 = s
      · have q : (A.toList == B.toList) = true := by rw [hAl, HL.out, he, beq_self_eq_true]
        have e9 : Hid ((⟨(R.getD []).toArray⟩ : ByteArray) = A2 ∧ R.isSome = true) := Lib.hid (by rw [HR.out, ← he, n3, hA2]; exact ⟨rfl, rfl⟩)
        clear hik n1 n2 n3 hA hA2 hAl he hno hlt hkl hi1 hi2
        go_wp2_with fail
        go_ret2
        exact ⟨by rw [e9.out.1, e9.out.2]; rfl, HM.out⟩
      · have q : (A.toList == B.toList) = false := by rw [hAl, HL.out, beq_eq_false_iff_ne]; exact he
        have hno2 : Hid (∀ j (h : j < needTab.length), j < k + 1 → needTab[j].1 ≠ s) := Lib.hid (by
          intro j h hj
          by_cases e : j = k
          · subst e; exact he
          · exact hno.out j h (by omega))
        clear hik n1 n2 n3 hA hA2 hAl he hno hlt hkl hi1 hi2 c2
        go_wp2_with fail
        go_roundw
        case rel => exact ⟨i + 2, k + 1, Lib.hid (by have := HIK.out; omega), by have := HLT.out; omega, by go_num, hno2, trivial⟩
        case measure => simp [intOf]; omega
    · have e9 : Hid (R = none) := Lib.hid (by rw [HR.out]; exact needP_none (fun j h => hno.out j h (by have : needTab.length = 18 := rfl; omega)))
      have i1 : ¬ (i : Int) < 36 := by omega
      clear hno hik
      go_wp2_with fail
      go_ret2
      exact ⟨by rw [e9.out]; rfl, HM.out⟩
end Go.Proofs.YtpdhmjmklmoknaaDoor

namespace Go.Proofs.YtpdhmjmklmoknaaDoor
open Go.RowKit Go.Shelf

/-- Block g is a step x; its rows, and it, lie from B on. -/
structure StQ (B : Nat) (w : World) (g : Nat) (x : St) (na : Option Addr) (nc : Nat) (ia : Option Addr) (ic : Nat) : Prop where
  blk : w.heap[g]? = some (.cells (stC x na nc ia ic) 33 (0, 0))
  rn : Rw encS 9 w na nc x.names
  ri : Rw encNt 3 w ia ic x.nums
  lo : B ≤ g
  an : ∀ a, na = some a → B ≤ a.block ∧ a.block ≠ g
  ai : ∀ a, ia = some a → B ≤ a.block ∧ a.block ≠ g
  ap : ∀ a b, na = some a → ia = some b → a.block ≠ b.block
theorem StQ.cell {B : Nat} {w : World} {g : Nat} {x : St} {na : Option Addr} {nc : Nat} {ia : Option Addr} {ic : Nat} (h : StQ B w g x na nc ia ic) (k : Nat) : w.cell? ⟨g, k, none⟩ = (stC x na nc ia ic)[k]? := cell_of_row w g k _ 33 (0, 0) h.blk
theorem StQ.froz {B : Nat} {w : World} {g : Nat} {x : St} {na : Option Addr} {nc : Nat} {ia : Option Addr} {ic : Nat} (h : StQ B w g x na nc ia ic) (k : Nat) : w.frozen? ⟨g, k, none⟩ = false := frozen_of_row w g k _ 33 h.blk
theorem StQ.lt {B : Nat} {w : World} {g : Nat} {x : St} {na : Option Addr} {nc : Nat} {ia : Option Addr} {ic : Nat} (h : StQ B w g x na nc ia ic) : g < w.heap.size := (Array.getElem?_eq_some_iff.1 h.blk).1
theorem StQ.old {B : Nat} {w w' : World} {g : Nat} {x : St} {na : Option Addr} {nc : Nat} {ia : Option Addr} {ic : Nat} (h : StQ B w g x na nc ia ic) (hb : Below w.heap.size w w') : StQ B w' g x na nc ia ic :=
  ⟨(hb.block g h.lt).trans h.blk, h.rn.old hb, h.ri.old hb, h.lo, h.an, h.ai, h.ap⟩
/-- One name more. -/
theorem StQ.name {B : Nat} {w w' : World} {g : Nat} {x : St} {na : Option Addr} {nc : Nat} {ia : Option Addr} {ic : Nat} (h : StQ B w g x na nc ia ic) {f : List UInt8} {q : Option Addr} {c : Nat} (hP : PushR encS 9 w na (x.names ++ [f]) q c w') :
    w'.cell? ⟨g, 1, none⟩ = some (.slice na x.names.length nc) ∧ w'.frozen? ⟨g, 1, none⟩ = false ∧ StQ B (w'.setCell ⟨g, 1, none⟩ (.slice q (x.names.length + 1) c)) g { x with names := x.names ++ [f] } q c ia ic ∧ (B ≤ w.heap.size → Below B w w') := by
  obtain ⟨hR, hm, hor⟩ := hP
  have hg : ¬ ∃ a, na = some a ∧ g = a.block := by rintro ⟨a, e, h2⟩; exact (h.an a e).2 h2.symm
  have hblk := (hm.block g h.lt hg).trans h.blk
  have hq : ∀ a, q = some a → (na = some a) ∨ w.heap.size ≤ a.block := hor
  have hlt := h.lt
  refine ⟨cell_of_row w' g 1 _ 33 (0, 0) hblk, frozen_of_row w' g 1 _ 33 hblk, ⟨?_, ?_, ?_, h.lo, ?_, ?_, ?_⟩, fun hB => hm.to_below hB (by rintro k hk ⟨a, e, rfl⟩; have := (h.an a e).1; omega)⟩
  · rw [heap_setCell_same w' g 1 _ 33 _ hblk]; simp [stC]
  · refine hR.kept (S := (· = g)) ((Mod.refl (· = g) w').setCell (p := ⟨g, 1, none⟩) (fun _ => rfl) _) (fun a e hs => ?_)
    rcases hq a e with h1 | h1
    · exact (h.an a h1).2 hs
    · omega
  · refine (h.ri.kept hm (fun a e => ?_)).kept (S := (· = g)) ((Mod.refl (· = g) w').setCell (p := ⟨g, 1, none⟩) (fun _ => rfl) _) (fun a e hs => (h.ai a e).2 hs)
    rintro ⟨b, e2, h2⟩
    exact h.ap b a e2 e h2.symm
  · intro a e
    rcases hq a e with h1 | h1
    · exact h.an a h1
    · have := h.lo; exact ⟨by omega, by omega⟩
  · exact h.ai
  · intro a b e e2
    rcases hq a e with h1 | h1
    · exact h.ap a b h1 e2
    · subst e2; have := h.ri.lt; omega
/-- One number more. -/
theorem StQ.num {B : Nat} {w w' : World} {g : Nat} {x : St} {na : Option Addr} {nc : Nat} {ia : Option Addr} {ic : Nat} (h : StQ B w g x na nc ia ic) {f : Nat} {q : Option Addr} {c : Nat} (hP : PushR encNt 3 w ia (x.nums ++ [f]) q c w') :
    w'.cell? ⟨g, 2, none⟩ = some (.slice ia x.nums.length ic) ∧ w'.frozen? ⟨g, 2, none⟩ = false ∧ StQ B (w'.setCell ⟨g, 2, none⟩ (.slice q (x.nums.length + 1) c)) g { x with nums := x.nums ++ [f] } na nc q c ∧ (B ≤ w.heap.size → Below B w w') := by
  obtain ⟨hR, hm, hor⟩ := hP
  have hg : ¬ ∃ a, ia = some a ∧ g = a.block := by rintro ⟨a, e, h2⟩; exact (h.ai a e).2 h2.symm
  have hblk := (hm.block g h.lt hg).trans h.blk
  have hq : ∀ a, q = some a → (ia = some a) ∨ w.heap.size ≤ a.block := hor
  have hlt := h.lt
  refine ⟨cell_of_row w' g 2 _ 33 (0, 0) hblk, frozen_of_row w' g 2 _ 33 hblk, ⟨?_, ?_, ?_, h.lo, ?_, ?_, ?_⟩, fun hB => hm.to_below hB (by rintro k hk ⟨a, e, rfl⟩; have := (h.ai a e).1; omega)⟩
  · rw [heap_setCell_same w' g 2 _ 33 _ hblk]; simp [stC]
  · refine (h.rn.kept hm (fun a e => ?_)).kept (S := (· = g)) ((Mod.refl (· = g) w').setCell (p := ⟨g, 2, none⟩) (fun _ => rfl) _) (fun a e hs => (h.an a e).2 hs)
    rintro ⟨b, e2, h2⟩
    exact h.ap a b e e2 h2
  · refine hR.kept (S := (· = g)) ((Mod.refl (· = g) w').setCell (p := ⟨g, 2, none⟩) (fun _ => rfl) _) (fun a e hs => ?_)
    rcases hq a e with h1 | h1
    · exact (h.ai a h1).2 hs
    · omega
  · exact h.an
  · intro a e
    rcases hq a e with h1 | h1
    · exact h.ai a h1
    · have := h.lo; exact ⟨by omega, by omega⟩
  · intro a b e e2
    rcases hq b e2 with h1 | h1
    · exact h.ap a b e h1
    · subst e; have := h.rn.lt; omega
/-- Another text. -/
theorem StQ.txt {B : Nat} {w : World} {g : Nat} {x : St} {na : Option Addr} {nc : Nat} {ia : Option Addr} {ic : Nat} (h : StQ B w g x na nc ia ic) (f : List UInt8) :
    StQ B (w.setCell ⟨g, 3, none⟩ (.string ⟨f.toArray⟩)) g { x with text := f } na nc ia ic := by
  refine ⟨?_, h.rn.kept (S := (· = g)) ((Mod.refl (· = g) w).setCell (p := ⟨g, 3, none⟩) (fun _ => rfl) _) (fun a e hs => (h.an a e).2 hs), h.ri.kept (S := (· = g)) ((Mod.refl (· = g) w).setCell (p := ⟨g, 3, none⟩) (fun _ => rfl) _) (fun a e hs => (h.ai a e).2 hs), h.lo, h.an, h.ai, h.ap⟩
  rw [heap_setCell_same w g 3 _ 33 _ h.blk]; simp [stC]


theorem rl_size (x : St) (na : Option Addr) (nc : Nat) (ia : Option Addr) (ic : Nat) : (Tryd.prog.info? 33).map (·.size) = some (stC x na nc ia ic).size := by
  show _ = some 4
  kernel_rfl
/-- A part is taken. -/
def part1 (c : UInt8) (p : List UInt8) (x : St) : Option St :=
  if c = 78 ∨ c = 77 then (if numOk p then some { x with nums := x.nums ++ [numD p] } else none)
  else if c = 73 ∨ c = 76 then (if nameB p then some { x with names := x.names ++ [p] } else none)
  else if c = 84 then (if plainB p 8 then some { x with text := p } else none)
  else (hexO p).map fun b => { x with text := b }
def partsL (c : UInt8) : List (List UInt8) → St → Option St
  | [], x => some x
  | p :: ps, x => (part1 c p x).bind (partsL c ps)
def partsF (c : UInt8) (f : List UInt8) : List (List UInt8) := if c = 76 ∨ c = 77 then (if f = [45] then [] else spl 44 f) else [f]
theorem parts_names : ∀ (ps : List (List UInt8)) (x : St), partsL 76 ps x = if ps.all nameB then some { x with names := x.names ++ ps } else none
  | [], x => by simp [partsL]
  | p :: ps, x => by
    rw [partsL, List.all_cons]
    have h1 : part1 76 p x = if nameB p then some { x with names := x.names ++ [p] } else none := by
      unfold part1; rw [if_neg (by decide), if_pos (by decide)]
    rw [h1]
    cases nameB p with
    | false => rfl
    | true =>
      show partsL 76 ps _ = _
      rw [parts_names ps]; simp
theorem parts_nums : ∀ (ps : List (List UInt8)) (x : St), partsL 77 ps x = if ps.all numOk then some { x with nums := x.nums ++ ps.map numD } else none
  | [], x => by simp [partsL]
  | p :: ps, x => by
    rw [partsL, List.all_cons]
    have h1 : part1 77 p x = if numOk p then some { x with nums := x.nums ++ [numD p] } else none := by
      unfold part1; rw [if_pos (by decide)]
    rw [h1]
    cases numOk p with
    | false => rfl
    | true =>
      show partsL 77 ps _ = _
      rw [parts_nums ps]; simp
theorem parts_one (c : UInt8) (p : List UInt8) (x : St) : partsL c [p] x = part1 c p x := by
  show (part1 c p x).bind (partsL c []) = _
  cases part1 c p x <;> rfl
theorem take1_parts (c : UInt8) (f : List UInt8) (x : St) : take1 c f x = partsL c (partsF c f) x := by
  unfold partsF
  by_cases h6 : c = 76
  · subst h6
    rw [if_pos (by decide)]
    unfold take1
    rw [if_neg (by decide), if_neg (by decide), if_pos rfl]
    by_cases hf : f = [45]
    · rw [if_pos hf, if_pos hf]; rfl
    · rw [if_neg hf, if_neg hf, parts_names]
  · by_cases h7 : c = 77
    · subst h7
      rw [if_pos (by decide)]
      unfold take1
      rw [if_neg (by decide), if_neg (by decide), if_neg (by decide), if_pos rfl]
      by_cases hf : f = [45]
      · rw [if_pos hf, if_pos hf]; rfl
      · rw [if_neg hf, if_neg hf, parts_nums]
    · rw [if_neg (by rintro (h | h); exact h6 h; exact h7 h), parts_one]
      unfold take1 part1
      simp only [h6, h7, or_false, if_false]
theorem parts_len (c : UInt8) (f : List UInt8) : (partsF c f).length ≤ f.length + 1 := by
  have := spl_len_le 44 f
  unfold partsF
  split
  · split
    · simp
    · exact this
  · simp
theorem parts_sz (c : UInt8) (f : List UInt8) : ∀ p ∈ partsF c f, p.length ≤ f.length := by
  unfold partsF
  intro p hp
  split at hp
  · split at hp
    · cases hp
    · exact spl_sizes 44 f p hp
  · rw [List.mem_singleton.1 hp]; exact Nat.le_refl _
theorem part1_sizes {c : UInt8} {p : List UInt8} {x y : St} (h : part1 c p x = some y) : y.names.length ≤ x.names.length + 1 ∧ y.nums.length ≤ x.nums.length + 1 := by
  unfold part1 at h
  split at h
  · split at h <;> cases h; simp
  split at h
  · split at h <;> cases h; simp
  split at h
  · split at h <;> cases h; simp
  cases hh : hexO p with
  | none => rw [hh] at h; cases h
  | some b => rw [hh] at h; cases h; simp
/-- While the parts of the k-th field are taken. -/
structure RiR (w : World) (g : Nat) (L : List (List UInt8)) (lq : Option Addr) (lc : Nat) (T0 : Option St) (F : St → Option St) (c : UInt8) (P : List (List UInt8)) (pq : Option Addr) (k j : Nat) (x : St) (na : Option Addr) (nc : Nat) (ia : Option Addr) (ic : Nat) (wr : World) : Prop where
  st : StQ w.heap.size wr g x na nc ia ic
  rl : Rw encS 9 wr lq lc L
  pr : Rd encS wr pq P
  rb : wr.heap[w.heap.size]? = some (.cells (stC zSt none 0 none 0) 33 (0, 0))
  n1 : ∀ a, na = some a → g + 1 ≤ a.block
  n2 : ∀ a, ia = some a → g + 1 ≤ a.block
  ln : ∀ a, lq = some a → a.block < g ∧ w.heap.size < a.block
  pn : ∀ b, pq = some b → g < b.block ∧ (∀ a, na = some a → a.block ≠ b.block) ∧ (∀ a, ia = some a → a.block ≠ b.block)
  m : Below w.heap.size w wr
  s1 : x.names.length ≤ k * 1000001 + j
  s2 : x.nums.length ≤ k * 1000001 + j
  eq : T0 = (partsL c (P.drop j) x).bind F
  hg : w.heap.size < g
theorem zRowQ {w V : World} (hg : V.heap[w.heap.size]? = some (.cells (stC zSt none 0 none 0) 33 (0, 0))) (hb : Below w.heap.size w V) (cs : Array Value) :
    (V.setRow w.heap.size cs).heap[w.heap.size]? = some (.cells cs 33 (0, 0)) ∧ Below w.heap.size w (V.setRow w.heap.size cs) ∧ Mod (· = w.heap.size) V (V.setRow w.heap.size cs) :=
  ⟨setRow_heap _ _ _ _ _ _ hg, ((mod_none (S := fun _ => False) hb).setRow (g := w.heap.size) cs).drop_new (Nat.le_refl _) |>.to_below (Nat.le_refl _) (fun _ _ h => h), ((Mod.refl (fun _ => False) V).setRow (g := w.heap.size) cs).mono (fun i _ h => h.elim (fun h => h.elim) (fun h => h))⟩

theorem rdK {α : Type} {E : Enc α} {w w' : World} {ao : Option Addr} {L : List α} (h : Rd E w ao L) {S : Nat → Prop} (hm : Mod S w w') (hn : ∀ a, ao = some a → ¬ S a.block) : Rd E w' ao L := by
  intro j hj
  obtain ⟨bs, off, e, hlt, hc⟩ := h j hj
  exact ⟨bs, off, e, Nat.lt_of_lt_of_le hlt hm.size, fun i u hu => (World.cell?_of_block (hm.block bs hlt (hn _ e))).trans (hc i u hu)⟩
section
variable {w : World} {g : Nat} {L : List (List UInt8)} {lq : Option Addr} {lc : Nat} {T0 : Option St} {F : St → Option St} {c : UInt8} {P : List (List UInt8)} {pq : Option Addr} {k j : Nat} {x : St} {na : Option Addr} {nc : Nat} {ia : Option Addr} {ic : Nat} {wr : World}
theorem RiR.below (h : RiR w g L lq lc T0 F c P pq k j x na nc ia ic wr) {W : World} (hb : Below wr.heap.size wr W) : RiR w g L lq lc T0 F c P pq k j x na nc ia ic W :=
  ⟨h.st.old hb, h.rl.old hb, h.pr.old hb, (hb.block _ (Array.getElem?_eq_some_iff.1 h.rb).1).trans h.rb, h.n1, h.n2, h.ln, h.pn, h.m.trans (hb.mono h.m.size), h.s1, h.s2, h.eq, h.hg⟩
theorem RiR.next (h : RiR w g L lq lc T0 F c P pq k j x na nc ia ic wr) {W2 : World} {y : St} {na' : Option Addr} {nc' : Nat} {ia' : Option Addr} {ic' : Nat} (hm : Mod (FPs g na ia) wr W2) (hS : StQ w.heap.size W2 g y na' nc' ia' ic') (hn : Nw wr na na') (hi : Nw wr ia ia')
    (hj : j < P.length) (hy : part1 c P[j] x = some y) : RiR w g L lq lc T0 F c P pq k (j + 1) y na' nc' ia' ic' W2 := by
  have hg := h.hg
  have hlt := h.st.lt
  obtain ⟨z1, z2⟩ := part1_sizes hy
  obtain ⟨bs, off, hpe, hbs, _⟩ := h.pr j hj
  have hno : ∀ i, i < g → ¬ FPs g na ia i := by
    rintro i h1 (e | ⟨a, e, rfl⟩ | ⟨a, e, rfl⟩)
    · omega
    · have := h.n1 a e; omega
    · have := h.n2 a e; omega
  refine ⟨hS, h.rl.kept hm (fun a e => hno _ (h.ln a e).1), rdK h.pr hm (fun a e => ?_), (hm.block _ (by omega) (hno _ (by omega))).trans h.rb, ?_, ?_, h.ln, ?_, h.m.trans (hm.to_below h.m.size (by rintro i hi2 e; exact hno i (by omega) e)), by have := h.s1; omega, by have := h.s2; omega, ?_, hg⟩
  · obtain ⟨q1, q2, q3⟩ := h.pn a e
    rintro (e2 | ⟨b, e2, e3⟩ | ⟨b, e2, e3⟩)
    · omega
    · exact q2 b e2 e3.symm
    · exact q3 b e2 e3.symm
  · intro a e
    rcases hn a e with h1 | h1
    · exact h.n1 a h1
    · omega
  · intro a e
    rcases hi a e with h1 | h1
    · exact h.n2 a h1
    · omega
  · intro b e
    obtain ⟨q1, q2, q3⟩ := h.pn b e
    have hbb : b.block < wr.heap.size := by rw [hpe] at e; cases e; exact hbs
    refine ⟨q1, fun a e2 => ?_, fun a e2 => ?_⟩
    · rcases hn a e2 with h1 | h1
      · exact q2 a h1
      · omega
    · rcases hi a e2 with h1 | h1
      · exact q3 a h1
      · omega
  · rw [h.eq, List.drop_eq_getElem_cons hj, partsL, hy]; rfl
theorem RiR.enter {nd : List UInt8} {fs : List (List UInt8)} (h : RiR w g L lq lc T0 (takeAll (nd.drop k) (fs.drop k)) 0 [] none k 0 x na nc ia ic wr) (h1 : k < nd.length) (h2 : k < fs.length) {W : World} (hb : Below wr.heap.size wr W) (hP : Rd encS W pq (partsF nd[k] fs[k])) (hq : ∀ b, pq = some b → wr.heap.size ≤ b.block) :
    RiR w g L lq lc T0 (takeAll (nd.drop (k + 1)) (fs.drop (k + 1))) nd[k] (partsF nd[k] fs[k]) pq k 0 x na nc ia ic W := by
  have h' := h.below hb
  have hlt := h.st.lt
  refine ⟨h'.st, h'.rl, hP, h'.rb, h.n1, h.n2, h.ln, fun b e => ?_, h'.m, h.s1, h.s2, ?_, h.hg⟩
  · have := hq b e
    refine ⟨by omega, fun a e2 => ?_, fun a e2 => ?_⟩
    · subst e2; have := h.st.rn.lt; omega
    · subst e2; have := h.st.ri.lt; omega
  · have e0 : T0 = takeAll (nd.drop k) (fs.drop k) x := h.eq
    rw [e0, takeAll_step h1 h2, take1_parts]; rfl
set_option maxRecDepth 20000 in
theorem RiR.leave {nd : List UInt8} {fs : List (List UInt8)} (h : RiR w g L lq lc T0 (takeAll (nd.drop (k + 1)) (fs.drop (k + 1))) c P pq k P.length x na nc ia ic wr) (hl : P.length ≤ 1000001) :
    RiR w g L lq lc T0 (takeAll (nd.drop (k + 1)) (fs.drop (k + 1))) 0 [] none (k + 1) 0 x na nc ia ic wr := by
  refine ⟨h.st, h.rl, (fun j hj => absurd hj (by simp)), h.rb, h.n1, h.n2, h.ln, (fun b e => by cases e), h.m, ?_, ?_, ?_, h.hg⟩
  · have h1 := h.s1; rw [Nat.add_zero, Nat.add_mul, Nat.one_mul]; omega
  · have h1 := h.s2; rw [Nat.add_zero, Nat.add_mul, Nat.one_mul]; omega
  · rw [h.eq, List.drop_length]; rfl
end
end Go.Proofs.YtpdhmjmklmoknaaDoor
