/- LineLimit's walk. -/
import Derived.Test.YtgkhnmohjidbmaaDoorZ3
set_option linter.unusedVariables false
set_option linter.unusedSimpArgs false
namespace Go.Proofs.YtgkhnmohjidbmaaDoor
open Go.RowKit Go.Shelf

def liHead : List UInt8 := [35, 32, 97, 32, 110, 111, 116, 101]
def liStep : List UInt8 := [104, 101, 97, 100]
def liBad : List UInt8 := [104, 101, 97, 100, 115]
/-- n times the same line. -/
def liRep : Nat → List UInt8
  | 0 => []
  | n + 1 => liRep n ++ (liStep ++ [10])
theorem liRep_len (n : Nat) : (liRep n).length = 5 * n := by
  induction n with
  | zero => rfl
  | succ n ih => rw [liRep, List.length_append, ih]; simp [liStep]; omega
/-- The other way round. -/
theorem liRep_cons : ∀ n, liRep (n + 1) = liStep ++ 10 :: liRep n
  | 0 => rfl
  | n + 1 => by
    have e : liRep (n + 2) = liRep (n + 1) ++ (liStep ++ [10]) := rfl
    rw [e]
    conv => lhs; rw [liRep_cons n]
    show _ = liStep ++ 10 :: (liRep n ++ (liStep ++ [10]))
    simp
def liText (n : Nat) (m : Bool) : List UInt8 := liHead ++ [10] ++ liRep n ++ (if m then liBad else [])
theorem spl_cut (c : UInt8) (a b : List UInt8) (h : c ∉ a) : spl c (a ++ c :: b) = a :: spl c b := by
  have := splA_cut c b a [] h
  rwa [List.nil_append] at this
theorem li_spl : ∀ (n : Nat) (t : List UInt8), spl 10 (liRep n ++ t) = List.replicate n liStep ++ spl 10 t
  | 0, t => rfl
  | n + 1, t => by
    rw [liRep_cons, List.append_assoc, List.cons_append, spl_cut 10 liStep _ (by decide), li_spl n t, List.replicate_succ]; rfl
theorem li_step : stepM liStep = some ⟨liStep, [], [], []⟩ := by rfl
theorem li_bad : stepM liBad = none := by rfl
theorem li_par : ∀ (j k : Nat) (acc : List St) (rest : List (List UInt8)), acc.length + j ≤ 300 → ∃ acc', acc'.length = acc.length + j ∧ parG (List.replicate j liStep ++ rest) k acc = parG rest (k + j) acc'
  | 0, k, acc, rest, _ => ⟨acc, rfl, rfl⟩
  | j + 1, k, acc, rest, h => by
    obtain ⟨acc', h1, h2⟩ := li_par j (k + 1) (acc ++ [⟨liStep, [], [], []⟩]) rest (by simp; omega)
    refine ⟨acc', by rw [h1]; simp; omega, ?_⟩
    rw [List.replicate_succ, List.cons_append, parG, if_neg (by decide), li_step]
    simp only
    rw [if_neg (by omega), h2, show k + 1 + j = k + (j + 1) by omega]
theorem li_over (acc : List St) (k : Nat) (rest : List (List UInt8)) (h : acc.length = 300) : parG (liStep :: rest) k acc = ([], k + 1, false) := by
  rw [parG, if_neg (by decide), li_step]
  simp only
  rw [if_pos h]
/-- What Parse tells of it. -/
theorem li_text (n : Nat) (m : Bool) : (300 < n → parM (liText n m) = ([], 302, false)) ∧ (n ≤ 300 → m = true → parM (liText n m) = ([], n + 2, false)) ∧ (n ≤ 300 → m = false → ∃ L, L.length = n ∧ parM (liText n m) = (L, 0, true)) := by
  have hs : parM (liText n m) = parG (List.replicate n liStep ++ spl 10 (if m then liBad else [])) 1 [] := by
    unfold parM liText
    rw [List.append_assoc, List.append_assoc, List.singleton_append, spl_cut 10 liHead _ (by decide), li_spl, parG, if_pos (by decide)]
  refine ⟨fun h => ?_, fun h hm => ?_, fun h hm => ?_⟩
  · rw [hs, show n = 300 + (n - 301 + 1) by omega, ← List.replicate_append_replicate, List.append_assoc]
    obtain ⟨acc', h1, h2⟩ := li_par 300 1 [] (List.replicate (n - 301 + 1) liStep ++ spl 10 (if m then liBad else [])) (by simp)
    rw [h2, List.replicate_succ, List.cons_append, li_over acc' _ _ (by simpa using h1)]
  · subst hm
    obtain ⟨acc', h1, h2⟩ := li_par n 1 [] (spl 10 liBad) (by simpa using h)
    rw [hs, if_pos rfl, h2, show spl 10 liBad = [liBad] from rfl, parG, if_neg (by decide), li_bad]
    simp only
    rw [show 1 + n + 1 = n + 2 by omega]
  · subst hm
    obtain ⟨acc', h1, h2⟩ := li_par n 1 [] (spl 10 []) (by simpa using h)
    refine ⟨acc', by simpa using h1, ?_⟩
    rw [hs, if_neg (by simp), h2, show spl 10 [] = [[]] from rfl, parG, if_pos (by decide)]
    rfl
theorem bcat2 (a b : List UInt8) : (ByteArray.mk a.toArray) ++ (ByteArray.mk b.toArray) = ⟨(a ++ b).toArray⟩ := by
  apply ByteArray.ext; simp
set_option maxRecDepth 20000 in
set_option maxHeartbeats 8000000 in
theorem lineLimit_any (n : Int) (m : Bool) (w : World) (_hn0 : -9223372036854775808 ≤ n) (_hn1 : n ≤ 9223372036854775807) :
    Calls Tryd.prog 5 #[.int .i64 n, .bool m] w fun e w' => e = .returned (.bool true) ∧ Below w.heap.size w w' := by
  have HA := Lib.hid (fun w => lawake_any w)
  obtain ⟨x, hx⟩ : ∃ x, min n 310 = x := ⟨_, rfl⟩
  obtain ⟨k, hk⟩ : ∃ k : Nat, max 0 x = (k : Int) := ⟨(max 0 x).toNat, by omega⟩
  have hk310 : k ≤ 310 := by omega
  have HT := Lib.hid (li_text k m)
  have HP := Lib.hid (fun w => lparse_any (liText k m) w (by unfold liText; simp [liRep_len, liHead, liBad]; split <;> simp <;> omega))
  go_enter Tryd.func5, Tryd.ntmps5
  go_wp2_with fail
  refine (HA.out _).mono ?_
  rintro e w1 ⟨rfl, hb1⟩
  have HB1 := Lib.hid hb1
  clear hb1
  go_wp2_with fail
  go_loopw [15, 5] (fun s15 s5 wr => ∃ i : Nat, i ≤ k ∧ s15 = .int .i64 i ∧ s5 = .string ⟨(liHead ++ [10] ++ liRep i).toArray⟩ ∧ wr = w1) (fun s15 _ _ => k - (intOf s15).toNat)
  case atStart => exact ⟨0, by omega, rfl, rfl, rfl⟩
  case round =>
    obtain ⟨i, hik, rfl, rfl, rfl⟩ := hrel
    by_cases hlt : i < k
    · have q1 : (i : Int) < k := by omega
      have hc := bcat2 (liHead ++ [10] ++ liRep i) [104, 101, 97, 100, 10]
      have hL : (liHead ++ [10] ++ liRep i).length ≤ 100000 := by simp [liRep_len, liHead]; omega
      obtain ⟨B, hB⟩ : ∃ B, B = ByteArray.mk (liHead ++ [10] ++ liRep i).toArray := ⟨_, rfl⟩
      have hsz : B.size ≤ 100000 := by rw [hB]; exact hL
      have HCC : Hid (B ++ ⟨#[104, 101, 97, 100, 10]⟩ = ⟨(liHead ++ [10] ++ liRep (i + 1)).toArray⟩) := Lib.hid (by rw [hB, hc, liRep]; simp [liStep])
      rw [← hB]
      clear hc hL hB
      go_wp2_with fail
      go_roundw
      case rel => exact ⟨i + 1, by omega, by go_num, by rw [HCC.out], trivial⟩
      case measure => simp [intOf]; omega
    · obtain rfl : i = k := by omega
      cases m with
      | true =>
        have hc := bcat2 (liHead ++ [10] ++ liRep i) [104, 101, 97, 100, 115]
        have hL : (liHead ++ [10] ++ liRep i).length ≤ 100000 := by simp [liRep_len, liHead]; omega
        obtain ⟨B, hB⟩ : ∃ B, B = ByteArray.mk (liHead ++ [10] ++ liRep i).toArray := ⟨_, rfl⟩
        have hsz : B.size ≤ 100000 := by rw [hB]; exact hL
        have HCC : Hid (B ++ ⟨#[104, 101, 97, 100, 115]⟩ = ⟨(liText i true).toArray⟩) := Lib.hid (by rw [hB, hc]; rfl)
        rw [← hB]
        clear hc hL hB
        by_cases h300 : 300 < i
        · have hpr := HT.out.1 h300
          rw [hpr] at HP
          have q2 : (300 : Int) < i := by omega
          clear hpr HT
          go_wp2_with fail
          rw [HCC.out]
          refine (HP.out _).mono ?_
          rintro e w2 ⟨hb2, q, c, V, rfl, hV, _, _, _⟩
          simp only at hV
          obtain rfl : V = [] := List.map_eq_nil_iff.1 hV
          have HB2 := Lib.hid (HB1.out.trans (hb2.mono HB1.out.size))
          clear hb2 hV
          go_wp2_with fail
          go_ret
          exact ⟨rfl, HB2.out⟩
        · have q2 : ¬ (300 : Int) < i := by omega
          have hpr := HT.out.2.1 (by omega) rfl
          rw [hpr] at HP
          have q3 : IntKind.i64.wrap ((i : Int) + 2) = (i : Int) + 2 := by rw [IntKind.wrap_i64]; omega
          clear hpr HT
          go_wp2_with fail
          rw [HCC.out]
          refine (HP.out _).mono ?_
          rintro e w2 ⟨hb2, q, c, V, rfl, hV, _, _, _⟩
          simp only at hV
          obtain rfl : V = [] := List.map_eq_nil_iff.1 hV
          have HB2 := Lib.hid (HB1.out.trans (hb2.mono HB1.out.size))
          clear hb2 hV
          go_wp2_with fail
          go_ret
          exact ⟨rfl, HB2.out⟩
      | false =>
        have HCC : Hid (liHead ++ [10] ++ liRep i = liText i false) := Lib.hid (by unfold liText; simp)
        rw [HCC.out]
        by_cases h300 : 300 < i
        · have hpr := HT.out.1 h300
          rw [hpr] at HP
          have q2 : (300 : Int) < i := by omega
          clear hpr HT
          go_wp2_with fail
          refine (HP.out _).mono ?_
          rintro e w2 ⟨hb2, q, c, V, rfl, hV, _, _, _⟩
          simp only at hV
          obtain rfl : V = [] := List.map_eq_nil_iff.1 hV
          have HB2 := Lib.hid (HB1.out.trans (hb2.mono HB1.out.size))
          clear hb2 hV
          go_wp2_with fail
          go_ret
          exact ⟨rfl, HB2.out⟩
        · have q2 : ¬ (300 : Int) < i := by omega
          obtain ⟨L, hL, hpr⟩ := HT.out.2.2 (by omega) rfl
          rw [hpr] at HP
          clear hpr HT
          go_wp2_with fail
          refine (HP.out _).mono ?_
          rintro e w2 ⟨hb2, q, c, V, rfl, hV, _, _, _⟩
          simp only at hV
          have hVl : V.length = i := by have := congrArg List.length hV; simp at this; omega
          have HB2 := Lib.hid (HB1.out.trans (hb2.mono HB1.out.size))
          clear hb2 hV hL
          go_wp2_with fail
          go_ret
          exact ⟨rfl, HB2.out⟩
end Go.Proofs.YtgkhnmohjidbmaaDoor
