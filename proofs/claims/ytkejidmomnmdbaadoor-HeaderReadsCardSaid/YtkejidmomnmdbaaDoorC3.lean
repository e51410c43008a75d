/- Package codec (PARTS). -/
import Derived.Test.YtkejidmomnmdbaaDoorC2
namespace Go.Proofs.YtkejidmomnmdbaaDoor
open Go.RowKit

def Head3 (p : Nat × Nat × Int) (w : World) (r : Ending) (w' : World) : Prop := r = .returned (.tuple #[.int .i64 p.1, .int .i64 p.2.1, .int .i64 p.2.2]) ∧ w = w'

theorem ret3 {a b c a' b' c' : Int} (h1 : a = a') (h2 : b = b') (h3 : c = c') : Ending.returned (.tuple #[.int .i64 a, .int .i64 b, .int .i64 c]) = .returned (.tuple #[.int .i64 a', .int .i64 b', .int .i64 c']) := by rw [h1, h2, h3]

/-- A byte more at the foot of a number below 2^56. -/
theorem or_byte (V : Nat) (x : UInt8) (hV : V < 72057594037927936) : bits BinOp.or IntKind.u64 (((V : Nat) : Int) * 256) (IntKind.u64.wrap ((x.toNat : Nat) : Int)) = ((V * 256 + x.toNat : Nat) : Int) := by
  have hx := x.toNat_lt
  rw [IntWalk.u64_in _ (by omega), show ((V : Nat) : Int) * 256 = ((V * 256 : Nat) : Int) by omega, bits_or_u64_nat _ _ (by omega) (by omega)]
  rw [Nat.mul_comm V 256]
  exact congrArg Int.ofNat (Nat.two_pow_add_eq_or_of_lt (i := 8) (by omega) V).symm

theorem get_behind (c : UInt8) (l : List UInt8) (k : Nat) (h : k < l.length) (h' : 1 + k < (ByteArray.mk (c :: l).toArray).size) : (ByteArray.mk (c :: l).toArray)[1 + k] = l[k] := by
  have e : ∀ j, (hj : j < (ByteArray.mk (c :: l).toArray).size) → j = k + 1 → (ByteArray.mk (c :: l).toArray)[j] = l[k] := by
    intro j hj e; subst e; rfl
  exact e _ _ (by omega)

set_option maxHeartbeats 400000 in
theorem number_any (s : List UInt8) (w : World) (hl : s.length ≤ 1099511627776) : Calls Tryd.prog 157 #[.string ⟨s.toArray⟩] w (Head3 (headL s) w) := by
  rcases s with _ | ⟨c, r⟩
  · go_enter Tryd.func157, Tryd.ntmps157
    go_wp2
    go_ret3
    exact ⟨rfl, rfl⟩
  · have g0 : ({ data := (c :: r).toArray } : ByteArray)[0]'(by simp [ByteArray.size]) = c := rfl
    have hcb := c.toNat_lt
    have hll : r.length + 1 ≤ 1099511627776 := hl
    clear hl
    have z0 : ((r.length : Int) + 1 == 0) = false := by simp; omega
    by_cases h0 : c.toNat = 0
    · have hfin : headL (c :: r) = (0, 1, 0) := by simp [headL, h0]
      rw [hfin]
      have t0 : ((c.toNat : Int) == 0) = true := by simp [h0]
      clear h0 hfin
      go_enter Tryd.func157, Tryd.ntmps157
      go_wp2
      go_ret3
      exact ⟨rfl, rfl⟩
    have t0 : ((c.toNat : Int) == 0) = false := by simp [h0]
    by_cases h1 : 8 < c.toNat
    · have hfin : headL (c :: r) = (0, 0, 3) := by simp [headL, h0, h1]
      rw [hfin]
      clear h0 hfin
      go_enter Tryd.func157, Tryd.ntmps157
      go_wp2
      go_ret3
      exact ⟨rfl, rfl⟩
    rcases r with _ | ⟨d, r⟩
    · have hfin : headL [c] = (0, 0, 2) := by simp [headL, h0, h1]
      rw [hfin]
      clear h0 hfin
      go_enter Tryd.func157, Tryd.ntmps157
      go_wp2
      go_ret3
      exact ⟨rfl, rfl⟩
    have g1 : ({ data := (c :: d :: r).toArray } : ByteArray)[1]'(by simp [ByteArray.size]) = d := rfl
    have z1 : ((r.length : Int) + 1 + 1 == 1) = false := by simp; omega
    simp only [List.length_cons] at hll z0
    by_cases h2 : d.toNat = 0
    · have hfin : headL (c :: d :: r) = (0, 0, 3) := by simp [headL, h0, h1, h2]
      rw [hfin]
      have t1 : ((d.toNat : Int) == 0) = true := by simp [h2]
      clear h0 h2 hfin
      go_enter Tryd.func157, Tryd.ntmps157
      go_wp2
      go_ret3
      exact ⟨rfl, rfl⟩
    have t1 : ((d.toNat : Int) == 0) = false := by simp [h2]
    by_cases h3 : (d :: r).length < c.toNat
    · have hfin : headL (c :: d :: r) = (0, 0, 2) := by simp only [headL, if_neg h0, if_neg h1, if_neg h2, if_pos h3]
      rw [hfin]
      simp only [List.length_cons] at h3
      clear h0 h2 hfin
      go_enter Tryd.func157, Tryd.ntmps157
      go_wp2
      go_ret3
      exact ⟨rfl, rfl⟩
    have H0 := Lib.hid h0
    have H2 := Lib.hid h2
    have H3 := Lib.hid h3
    clear h0 h2
    simp only [List.length_cons] at h3
    have z2 : ((r.length : Int) + 1 + 1 == 0) = false := by simp; omega
    have z3 : decide ((r.length : Int) + 1 + 1 ≤ c.toNat) = false := by simp; omega
    have z4 : decide (8 < (c.toNat : Int)) = false := by simp; omega
    clear z0
    go_enter Tryd.func157, Tryd.ntmps157
    go_wp2
    go_loop [6, 34] (fun x i => ∃ k : Nat, k ≤ c.toNat ∧ i = .int .i64 k ∧ x = .int .u64 (beVal ((d :: r).take k))) (fun _ i => c.toNat - (intOf i).toNat)
    case atStart => exact ⟨0, by omega, rfl, rfl⟩
    case round =>
      obtain ⟨k, hk, rfl, rfl⟩ := hrel
      by_cases hlt : k < c.toNat
      · have hkl : k < (d :: r).length := by simp; omega
        have hkl' : k < r.length + 1 := by omega
        have hv := beVal_take_lt (d :: r) k (by omega)
        have hv7 : beVal ((d :: r).take k) < 256 ^ 7 := Nat.lt_of_lt_of_le hv (Nat.pow_le_pow_right (by decide) (by omega))
        obtain ⟨V, hV⟩ : ∃ V, V = beVal ((d :: r).take k) := ⟨_, rfl⟩
        rw [← hV] at hv7 ⊢
        have hv8 : V < 72057594037927936 := hv7
        have HV := Lib.hid hV
        clear hV hv hv7
        go_wp2
        go_round
        case rel => 
          refine ⟨k + 1, by omega, by go_num, ?_⟩
          rw [or_byte _ _ hv8, List.take_succ_eq_append_getElem hkl, beVal_snoc, HV.out, get_behind c (d :: r) k hkl]
        case measure => simp [intOf]; omega
      · obtain rfl : k = c.toNat := by omega
        by_cases h5 : 9223372036854775807 < beVal ((d :: r).take c.toNat)
        · have hfin : headL (c :: d :: r) = (0, 0, 3) := by simp only [headL, if_neg H0.out, if_neg h1, if_neg H2.out, if_neg H3.out, if_pos h5]
          have Hfin := Lib.hid hfin
          clear hfin
          go_wp2
          go_ret3
          exact ⟨by rw [Hfin.out]; exact ret3 rfl rfl rfl, rfl⟩
        · have hfin : headL (c :: d :: r) = (beVal ((d :: r).take c.toNat), c.toNat + 1, 0) := by simp only [headL, if_neg H0.out, if_neg h1, if_neg H2.out, if_neg H3.out, if_neg h5]
          have Hfin := Lib.hid hfin
          clear hfin
          go_wp2
          go_ret3
          exact ⟨by rw [Hfin.out]; exact ret3 rfl (show 1 + (c.toNat : Int) = ((c.toNat + 1 : Nat) : Int) by omega) rfl, rfl⟩
end Go.Proofs.YtkejidmomnmdbaaDoor
