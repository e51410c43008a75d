/- nat.Small. -/
import Derived.Test.YtepibfpdkjkdjaaDoorN17
namespace Go.Proofs.YtepibfpdkjkdjaaDoor
open Go.RowKit

theorem small_yes (p : Option Addr) (cp x : Nat) (w : World) (hx : NatIn w p cp x) (lx : Hid (x < 18446744073709551616)) :
    Calls Tryd.prog 35 #[.agg #[.slice p (lb x).length cp]] w fun r w' => r = .returned (.tuple #[.int .u64 (x : Int), .bool true]) ∧ Below w.heap.size w w' := by
  have hn2 := lb_64 lx.out
  obtain ⟨n, hn⟩ : ∃ n, n = (lb x).length := ⟨_, rfl⟩
  rw [← hn] at hn2 ⊢
  have Hn := Lib.hid hn
  have hk := Boxed.new w 25 (.slice p n cp)
  have hB : Below w.heap.size w (w.alloc (.cells #[.slice p n cp] 25)) := (Below.refl _ _).alloc (Nat.le_refl _) _
  have hx2 := hx.alloc (.cells #[.slice p n cp] 25)
  have hkc := hk.cell
  have b0 : ¬ (2 : Int) < n := by omega
  clear hn
  go_enter Tryd.func35, Tryd.ntmps35
  go_wp2_with fail
  generalize (w.alloc (.cells #[.slice p n cp] 25)) = W at *
  go_loopw [4, 14] (fun s4 s14 wr => ∃ i t : Nat, i ≤ n ∧ s14 = .int .i64 (i : Int) ∧ s4 = .int .u64 (t : Int) ∧ Hid (t = x % 4294967296 ^ i) ∧ wr = W) (fun _ i _ => n - (intOf i).toNat)
  case atStart => exact ⟨0, 0, by omega, rfl, rfl, Lib.hid (by rw [Nat.pow_zero, Nat.mod_one]), rfl⟩
  case round =>
    obtain ⟨i, t, hi, rfl, rfl, ht, rfl⟩ := hrel
    by_cases hin : i < n
    · have hil : i < (lb x).length := by rw [← Hn.out]; exact hin
      have hne : lb x ≠ [] := by intro e; rw [e] at hil; simp at hil
      obtain ⟨g, rfl⟩ := hx.isPtr hne
      have hc := hx2.cell i hil
      obtain ⟨v, hv⟩ : ∃ v, v = (lb x)[i] := ⟨_, rfl⟩
      rw [← hv] at hc
      have lv : v < 4294967296 := by rw [hv]; exact lb_lt x _ (List.getElem_mem hil)
      have hvx : v = x / 4294967296 ^ i % 4294967296 := by
        rw [hv]; exact dg_at 4294967296 (by decide) x i hil
      have hms := mod_succ x 4294967296 i
      rw [← hvx, ← ht.out] at hms
      have i0 : (0 : Int) ≤ i := by omega
      have i1 : (i : Int) < n := by omega
      have lt : t < 4294967296 ^ i := by rw [ht.out]; exact Nat.mod_lt _ (Nat.pow_pos (by decide))
      have hi2 : i = 0 ∨ i = 1 := by omega
      clear hv hvx
      rcases hi2 with rfl | rfl
      · have e0 : t = 0 := by rw [Nat.pow_zero] at lt; omega
        subst e0
        have e1 : bits BinOp.or IntKind.u64 (0 : Int) (v : Int) = (v : Int) := by
          have := u64_or_nat 0 v (by decide) (by omega)
          rw [Nat.zero_or] at this; exact this
        have hv2 : Hid (v = x % 4294967296 ^ (0 + 1)) := Lib.hid (by rw [hms]; simp)
        clear hms lt ht
        go_wp2_with fail
        go_roundw
        case rel => exact ⟨1, v, by omega, by go_num, rfl, hv2, trivial⟩
        case measure => simp [intOf]; omega
      · obtain ⟨z, hz⟩ : ∃ z, z = t + 4294967296 * v := ⟨_, rfl⟩
        rw [Nat.pow_one] at lt
        have e1 : bits BinOp.or IntKind.u64 (t : Int) ((v : Int) * 4294967296) = (z : Int) := by
          rw [show (v : Int) * 4294967296 = ((v * 4294967296 : Nat) : Int) by omega, u64_or_nat _ _ (by omega) (by omega), hz]
          congr 1
          rw [Nat.mul_comm v, Nat.or_comm, Nat.add_comm]; exact (Nat.two_pow_add_eq_or_of_lt (i := 32) lt v).symm
        have e2 : IntKind.u64.wrap ((v : Int) * 4294967296) = (v : Int) * 4294967296 := by rw [IntKind.wrap_u64]; omega
        have hz2 : Hid (z = x % 4294967296 ^ (1 + 1)) := Lib.hid (by rw [hms, hz, Nat.pow_one])
        clear hms lt ht hz
        go_wp2_with fail
        go_roundw
        case rel => exact ⟨2, z, by omega, by go_num, rfl, hz2, trivial⟩
        case measure => simp [intOf]; omega
    · obtain rfl : i = n := by omega
      have hxt : t = x := by
        rw [ht.out]
        apply Nat.mod_eq_of_lt
        have := lt_pow_dg 4294967296 (by decide) x
        rw [Hn.out]; exact this
      subst hxt
      clear hin hi
      go_wp2_with fail
      refine bodyPost_ret (v := .tuple #[.int .u64 (t : Int), .bool true]) (by simp [results, Tryd.results35, go_sem]) rfl ⟨rfl, hB⟩
end Go.Proofs.YtepibfpdkjkdjaaDoor
