import Derived.Test.YtepibfpdkjkdjaaDoorW
import Derived.Test.YtepibfpdkjkdjaaDoorShelf
import Derived.BigQuiet
import Derived.Deep.QuietTactic
import Derived.Deep.DeepCutAuto
import Derived.Outline
namespace Go.Proofs.YtepibfpdkjkdjaaDoor
open Go.RowKit

/-- Noughts behind are left out. -/
theorem trim_any (p : Option Addr) (cap : Nat) (A : List Nat) (w : World) (hS : Sl .u32 38 w p cap A) (hA : ∀ x ∈ A, x < 4294967296) (hl : A.length ≤ 1000000) :
    Calls Tryd.prog 53 #[.slice p A.length cap] w fun r w' => ∃ q c, r = .returned (.agg #[.slice q (lb (vl 4294967296 A)).length c]) ∧ NatIn w' q c (vl 4294967296 A) ∧ Below w.heap.size w w' ∧ (q = none ∨ q = p) := by
  obtain ⟨n, hn⟩ : ∃ n, n = A.length := ⟨_, rfl⟩
  rw [← hn] at hl ⊢
  have Hn := Lib.hid hn
  clear hn
  have hcap := hS.cap_le
  rw [← Hn.out] at hcap
  go_enter Tryd.func53, Tryd.ntmps53
  go_wp2_with fail
  go_loopw [3] (fun s3 wr => ∃ k : Nat, k ≤ n ∧ s3 = .int .i64 (k : Int) ∧ Hid (∀ i (hi : i < A.length), k ≤ i → A[i] = 0) ∧ wr = w.alloc (.cells #[.slice none 0 0] 25)) (fun i _ => (intOf i).toNat)
  case atStart => exact ⟨n, by omega, rfl, fun i hi h => by have := Hn.out; omega, rfl⟩
  case round =>
    obtain ⟨k, hk, rfl, hz, rfl⟩ := hrel
    by_cases hk0 : 0 < k
    · have hne : A ≠ [] := by intro e; have := Hn.out; subst e; simp at this; omega
      obtain ⟨g, rfl⟩ := hS.isPtr hne
      have hlt : k - 1 < A.length := by have := Hn.out; omega
      obtain ⟨x, hx⟩ : ∃ x, x = A[k - 1] := ⟨_, rfl⟩
      have hc := (hS.alloc (.cells #[.slice none 0 0] 25)).cell (k - 1) hlt
      rw [← hx] at hc
      have i0 : (0 : Int) ≤ (k : Int) - 1 := by omega
      have i1 : (k : Int) - 1 < n := by omega
      have i2 : ((k : Int) - 1).toNat = k - 1 := by omega
      have b0 : decide ((0 : Int) < (k : Int)) = true := by simp; omega
      have Hx := Lib.hid hx
      clear hx
      by_cases hx0 : x = 0
      · subst hx0
        have hz2 : Hid (∀ i (hi : i < A.length), k - 1 ≤ i → A[i] = 0) := by
          intro i hi h
          by_cases e : i = k - 1
          · subst e; exact Hx.out.symm
          · exact hz.out i hi (by omega)
        clear Hx hz
        go_wp2_with fail
        go_roundw
        case rel => exact ⟨k - 1, by omega, by go_num, hz2, trivial⟩
        case measure => simp [intOf]; omega
      · have hxb : ((x : Int) == 0) = false := by rw [beq_eq_false_iff_ne]; omega
        have hkb : ((k : Int) == 0) = false := by rw [beq_eq_false_iff_ne]; omega
        have hd : Hid (lb (vl 4294967296 A) = A.take k) := dg_take _ (by decide) A hA k (by have := Hn.out; omega) (fun i hi h => hz.out i hi h) (fun _ => by rw [← Hx.out]; exact hx0)
        have hln : Hid ((A.take k).length = k) := Lib.hid (by rw [List.length_take]; have := Hn.out; omega)
        clear Hx hz
        go_wp2_with fail
        refine bodyPost_ret (v := .agg #[.slice (some ⟨g, 0, none⟩) k cap]) (by simp [results, Tryd.results53, go_sem]) rfl ⟨some ⟨g, 0, none⟩, cap, ?_, ?_, ?_, .inr rfl⟩
        · rw [hd.out, hln.out]
        · show Sl _ _ _ _ _ (lb _); rw [hd.out]; exact (hS.take k (by have := Hn.out; omega)).alloc _
        · exact (Below.refl _ _).alloc (Nat.le_refl _) _
    · obtain rfl : k = 0 := by omega
      have hd : Hid (lb (vl 4294967296 A) = []) := dg_take _ (by decide) A hA 0 (by omega) (fun i hi h => hz.out i hi h) (fun h => by omega)
      clear hz
      go_wp2_with fail
      refine bodyPost_ret (v := .agg #[.slice none 0 0]) (by simp [results, Tryd.results53, go_sem]) rfl ⟨none, 0, ?_, ?_, ?_, .inl rfl⟩
      · rw [hd.out]; rfl
      · show Sl _ _ _ _ _ (lb _); rw [hd.out]; exact Sl.empty _ _ _
      · exact (Below.refl _ _).alloc (Nat.le_refl _) _

theorem vl_two (x : Nat) : vl 4294967296 [x % 4294967296, x / 4294967296] = x := by
  simp only [vl]; omega

theorem nofn_any (x : Nat) (w : World) (hx : Hid (x < 18446744073709551616)) :
    Calls Tryd.prog 36 #[.int .u64 x] w (NatOut w x) := by
  obtain ⟨a, ha⟩ : ∃ a, a = x % 4294967296 := ⟨_, rfl⟩
  obtain ⟨b, hb⟩ : ∃ b, b = x / 4294967296 % 4294967296 := ⟨_, rfl⟩
  have e1 : (x : Int) % 4294967296 = a := by omega
  have e2 : (x : Int) / 4294967296 % 4294967296 = b := by omega
  have ev : Hid (vl 4294967296 [a, b] = x) := Lib.hid (by have := hx.out; simp only [vl]; omega)
  have hA : ∀ y ∈ [a, b], y < 4294967296 := by intro y hy; simp at hy; omega
  clear ha hb
  go_enter Tryd.func36, Tryd.ntmps36
  go_wp2_with fail
  have hS := Sl.made (k := .u32) (T := 38) (w.alloc (.cells #[.slice none 0 0] 25)) [a, b] (by simp [maxLen])
  rw [World.size_alloc] at hS
  have hB : Below w.heap.size w ((w.alloc (.cells #[.slice none 0 0] 25)).alloc (.cells (nums .u32 [a, b]).toArray 38)) := ((Below.refl _ _).alloc (Nat.le_refl _) _).alloc (by simp) _
  refine (trim_any (some ⟨w.heap.size + 1, 0, none⟩) 2 [a, b] _ hS hA (by simp)).mono ?_
  rintro r w' ⟨q, c, rfl, hN, hb, hq⟩
  rw [ev.out] at hN ⊢
  have hq2 : ∀ a, q = some a → w.heap.size + 1 ≤ a.block := by rintro a rfl; rcases hq with h | h <;> cases h; simp
  have hB2 := hB.trans (hb.mono (by simp; omega))
  have hbx : Boxed w' w.heap.size 25 (.slice none 0 0) := (hb.block w.heap.size (by simp; omega)).trans (by rw [Below.heap_alloc _ _ _ (by simp)]; exact heap_alloc_new _ _)
  have hc := hbx.cell
  have hf := hbx.frozen
  clear hB hS hq hb
  go_wp2_with fail
  have hbs := hbx.set (.slice q (lb x).length c)
  have hc2 := hbs.cell
  refine bodyPost_ret (v := .agg #[.slice q (lb x).length c]) (by simp [results, Tryd.results36, go_sem, hc2]) rfl ⟨q, c, rfl, ?_, ?_, fun a e => Nat.le_of_succ_le (hq2 a e)⟩
  · exact hN.other ⟨w.heap.size, 0, none⟩ _ (fun a e => by have := hq2 a e; simp; omega)
  · exact hB2.setCell (p := ⟨w.heap.size, 0, none⟩) (Nat.le_refl _) _

theorem zero_any (p : Option Addr) (cap n : Nat) (w : World) :
    Calls Tryd.prog 28 #[.agg #[.slice p (lb n).length cap]] w fun r w' => r = .returned (.bool (n == 0)) ∧ Below w.heap.size w w' := by
  have h : ((lb n).length == 0) = (n == 0) := by
    rw [Bool.eq_iff_iff]; simp only [beq_iff_eq]
    rw [List.length_eq_zero_iff]; exact lb_nil
  have h2 : (((lb n).length : Int) == 0) = (n == 0) := by rw [← h, Bool.eq_iff_iff]; simp
  clear h
  go_enter Tryd.func28, Tryd.ntmps28
  go_wp2_with fail
  go_ret
  exact ⟨rfl, (Below.refl _ _).alloc (Nat.le_refl _) _⟩
end Go.Proofs.YtepibfpdkjkdjaaDoor
