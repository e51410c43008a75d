/- The document's numbers: Of. -/
import Derived.Test.YtepibfpdkjkdjaaDoorN24
namespace Go.Proofs.YtepibfpdkjkdjaaDoor
open Go.RowKit

set_option maxHeartbeats 2000000 in
set_option maxRecDepth 20000 in
theorem rof_any (x : Nat) (w : World) (hx : Hid (x < 18446744073709551616)) :
    Calls Tryd.prog 42 #[.int .u64 (x : Int)] w (DecOut w x) := by
  have hl : Hid ((dg 10 x).length ≤ 20) := Lib.hid (dlen_le (Nat.lt_of_lt_of_le hx.out (by decide)))
  have hK := AccR.empty w
  go_enter Tryd.func42, Tryd.ntmps42
  go_wp2_with fail
  generalize (w.alloc (.cells #[] 3)) = W at hK ⊢
  go_loopw [0, 3] (fun s0 s3 wr => ∃ (y i : Nat) (D : List Nat) (pq : Option Addr) (cq : Nat), s0 = .int .u64 (y : Int) ∧ s3 = .slice pq i cq ∧ AccR w i D pq cq wr ∧ Hid (y < 18446744073709551616) ∧ Hid (D ++ dg 10 y = dg 10 x)) (fun s0 _ _ => (intOf s0).toNat)
  case atStart => exact ⟨x, 0, [], _, 0, rfl, rfl, hK, hx, Lib.hid rfl⟩
  case round =>
    clear hK
    obtain ⟨y, i, D, pq, cq, rfl, rfl, hR, hy, hv⟩ := hrel
    by_cases hy0 : y = 0
    · subst hy0
      have hD : D = dg 10 x := by have := hv.out; rwa [dg_zero, List.append_nil] at this
      subst hD
      have hlen := Lib.hid hR.len
      go_wp2_with fail
      go_ret
      exact ⟨pq, cq, by rw [hlen.out]; rfl, hR.s, hR.m, hR.new⟩
    · have b0 : (0 : Int) < y := by omega
      obtain ⟨d, hd⟩ : ∃ d, d = y % 10 := ⟨_, rfl⟩
      obtain ⟨z, hz⟩ : ∃ d, d = y / 10 := ⟨_, rfl⟩
      have hv2 : Hid ((D ++ [d]) ++ dg 10 z = dg 10 x) := Lib.hid (by
        rw [← hv.out, dg_pos 10 y (by decide) hy0, ← hd, ← hz, List.append_assoc]; rfl)
      have hd10 : d < 10 := by rw [hd]; exact Nat.mod_lt _ (by decide)
      have hzy : z < y := by rw [hz]; exact Nat.div_lt_self (by omega) (by decide)
      have hz2 : Hid (z < 18446744073709551616) := Lib.hid (Nat.lt_trans hzy hy.out)
      have hi : i ≤ 20 := by
        have h1 := congrArg List.length hv.out
        rw [List.length_append, hR.len] at h1
        have := hl.out; omega
      have e1 : (y : Int) % 10 = d := by omega
      have e2 : (y : Int) / 10 = z := by omega
      have e3 : IntKind.i64.wrap (d : Int) = d := by rw [IntKind.wrap_i64]; omega
      have e4 : IntKind.u64.wrap (z : Int) = z := by have := hy.out; rw [IntKind.wrap_u64]; omega
      have HD := Lib.hid hR.len
      have hRs := hR.s
      clear hd hz hv hy0
      go_wp2_with (at_builtin; refine wpList_push rfl _ _ .i64 26 3 (.int .i64 0) 8 rfl Tryd.underlying26 info_int rfl (by decide) pq cq i 1 D [d] HD.out rfl (by decide) rfl hRs rfl (by omega) ?_; intro pq2 cq2 W5 hP)
      have hR5 := hR.push hd10 hP
      clear hP hR hRs
      go_wp2_with fail
      go_roundw
      case rel => exact ⟨z, i + 1, D ++ [d], pq2, cq2, rfl, rfl, hR5, hz2, hv2⟩
      case measure => simp [intOf]; omega
end Go.Proofs.YtepibfpdkjkdjaaDoor
