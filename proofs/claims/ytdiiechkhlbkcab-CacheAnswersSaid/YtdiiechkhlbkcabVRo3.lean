/- Texts 3: what the laws lean on. -/
import Derived.Test.YtdiiechkhlbkcabVRo2
import Derived.Laws.EntriesVeiled
namespace Go.Proofs.Ytdiiechkhlbkcab
open Go.RowKit

theorem key_index (A : List UInt8) (n : Nat) (hn : n < A.length) (w : World) :
    (Instr.index 9 (.string ⟨A.toArray⟩) (.int .i64 (n : Int))).run Try.prog w = .ok (.int .u8 ((A[n]).toNat : Int)) w := by
  have h1 : (0 : Int) ≤ n ∧ (n : Int) < ((⟨A.toArray⟩ : ByteArray).size : Nat) := by
    have : (⟨A.toArray⟩ : ByteArray).size = A.length := by simp [ByteArray.size]
    rw [this]; omega
  have e : (⟨A.toArray⟩ : ByteArray).data[n]? = some A[n] := by simp [hn]
  unfold Instr.index
  simp [go_sem, h1, hn]
  rfl

set_option maxRecDepth 20000 in
set_option maxHeartbeats 2000000 in
theorem answers_walk (most : Int) (ao : Option Addr) (cap : Nat) (L : List (List UInt8)) (W : World) (hr : Rd encS W ao L) (hs : ∀ s ∈ L, s.length ≤ maxLen) (hn : L.length ≤ 9223372036854775807) :
    Calls Try.prog 4 #[.int .i64 most, .slice ao L.length cap] W fun e w' => e = .returned (.bool true) ∧ Below W.heap.size W w' := by
  obtain ⟨m1, e1⟩ : ∃ m, min most 20 = m := ⟨_, rfl⟩
  obtain ⟨m2, e2⟩ : ∃ m, max (-1) m1 = m := ⟨_, rfl⟩
  obtain ⟨M, e3⟩ : ∃ m, min (max m2 1) 1024 = m := ⟨_, rfl⟩
  have EM : Hid (1 ≤ M ∧ M ≤ 20) := Lib.hid (by omega)
  have HNW : Hid (∀ w, Calls Try.prog 7 #[.int .i64 m2] w fun e w' => ∃ c F, e = .returned (.pointer (some ⟨c, 0, none⟩)) ∧ CA w' c M 0 0 [] F ∧ (∀ i ∈ F, w.heap.size ≤ i) ∧ Below w.heap.size w w') := Lib.hid (fun w => by rw [← e3]; exact ca_new m2 w)
  clear e3
  have HAW := Lib.hid (awake12_any W)
  obtain ⟨n, hnn⟩ : ∃ n, n = L.length := ⟨_, rfl⟩
  rw [← hnn]
  have h63 : (n : Int) ≤ 9223372036854775807 := by omega
  have HN := Lib.hid hnn
  have HR := Lib.hid hr
  have HS := Lib.hid hs
  have hmf : ∀ (fn : Fn) (first cap : Array Value) (w : World), (Instr.makeFunc fn first cap).run Try.prog w = .ok (.func fn first cap) w := fun _ _ _ _ => rfl
  clear hr hs hn hnn
  go_enter Try.func4, Try.ntmps4
  go_wp2_with fail
  refine HAW.out.mono ?_
  rintro e w1 ⟨rfl, hb1⟩
  have HB1 := Lib.hid hb1
  clear hb1 HAW
  go_wp2_with fail
  refine (HNW.out w1).mono ?_
  rintro e w2 ⟨c, F, rfl, hC, hf, hb2⟩
  have HC := Lib.hid hC
  have HF := Lib.hid hf
  have HB2 := Lib.hid hb2
  clear hC hf hb2 HNW
  obtain ⟨pc, hpc⟩ : ∃ pc, pc = w2.heap.size := ⟨_, rfl⟩
  obtain ⟨W3, hW3⟩ : ∃ W3, W3 = w2.alloc (.cells #[.pointer (some ⟨c, 0, none⟩)] 24) := ⟨_, rfl⟩
  have hg3 : W3.heap[pc]? = some (.cells #[.pointer (some ⟨c, 0, none⟩)] 24 (0, 0)) := by rw [hW3, hpc]; exact heap_alloc_new _ _
  have c3 : W3.cell? ⟨pc, 0, none⟩ = some (.pointer (some ⟨c, 0, none⟩)) := by unfold World.cell?; rw [hg3]; rfl
  have HB3 : Hid (Below w2.heap.size w2 W3) := Lib.hid (by rw [hW3]; exact (Below.refl _ _).alloc (Nat.le_refl _) _)
  have HG3 := Lib.hid hg3
  have HW3 := Lib.hid hW3
  have HPC := Lib.hid hpc
  clear hpc hW3 hg3
  go_upto_region 4 with fail
  rw [← HPC.out, ← HW3.out]
  obtain ⟨po, hpo⟩ : ∃ po, po = W3.heap.size := ⟨_, rfl⟩
  obtain ⟨W4, hW4⟩ : ∃ W4, W4 = W3.alloc (.cells #[fvA pc po] 37) := ⟨_, rfl⟩
  have hg4 : W4.heap[po]? = some (.cells #[fvA pc po] 37 (0, 0)) := by rw [hW4, hpo]; exact heap_alloc_new _ _
  have HB4 : Hid (Below W3.heap.size W3 W4) := Lib.hid (by rw [hW4]; exact (Below.refl _ _).alloc (Nat.le_refl _) _)
  have HG4 := Lib.hid hg4
  have HW4 := Lib.hid hW4
  have HPO := Lib.hid hpo
  clear hpo hW4 hg4
  go_upto_region 8 with fail
  rw [← HPO.out, ← HW4.out]
  have hB0 : Below W.heap.size W W4 := ((HB1.out.trans (HB2.out.mono HB1.out.size)).trans (HB3.out.mono (Nat.le_trans HB1.out.size HB2.out.size))).trans (HB4.out.mono (Nat.le_trans HB1.out.size (Nat.le_trans HB2.out.size HB3.out.size)))
  have hF0 : ∀ i ∈ F, W.heap.size ≤ i := fun i hi => Nat.le_trans HB1.out.size (HF.out i hi)
  have hA0 : AS W4 c pc po M 0 F := by
    have h3 := HPC.out
    have h4 := HPO.out
    have hlt : ∀ i ∈ F, i < w2.heap.size := fun i hi => HC.out.lt hi
    have hg3' := (HB4.out.block pc (Array.getElem?_eq_some_iff.1 HG3.out).1).trans HG3.out
    refine ⟨⟨0, 0, [], (HC.out.old HB3.out).old HB4.out, fun x hx => (by cases hx), by have := EM.out.1; simp; omega, by omega, by omega, by omega, by omega⟩, by unfold World.cell?; rw [hg3']; rfl, by unfold World.cell?; rw [HG4.out]; rfl, fun hi => ?_, fun hi => ?_⟩
    · have := hlt _ hi; omega
    · have := hlt _ hi; have := HB3.out.size; omega
  have H0 : Hid (∃ F, AS W4 c pc po M (300 * (0 : Nat)) F ∧ (∀ i ∈ F, W.heap.size ≤ i) ∧ Below W.heap.size W W4) := Lib.hid ⟨F, hA0, hF0, hB0⟩
  clear hB0 hF0 hA0 c3
  go_upto_region 9 with fail
  go_loopw [7, 8, 9, 10] (fun s7 _ _ _ wr => ∃ i : Nat, i ≤ n ∧ i ≤ 20 ∧ s7 = .int .i64 (i : Int) ∧ Hid (∃ F, AS wr c pc po M (300 * i) F ∧ (∀ i ∈ F, W.heap.size ≤ i) ∧ Below W.heap.size W wr)) (fun i _ _ _ _ => n - (intOf i).toNat)
  case atStart => exact ⟨0, Nat.zero_le _, Nat.zero_le _, rfl, H0⟩
  case round =>
    obtain ⟨i, hi, hi20, rfl, HI⟩ := hrel
    by_cases hin : i < n
    · have i1 : (i : Int) < n := by omega
      by_cases hi2 : i < 20
      · have i2 : (i : Int) < 20 := by omega
        have i0 : (0 : Int) ≤ i := by omega
        obtain ⟨F5, hA5, hF5, hb5⟩ := HI.out
        have hil : i < L.length := by rw [← HN.out]; exact hin
        obtain ⟨bs, off, rfl, hbs, c0⟩ := (HR.out.old hb5).str i hil
        have hsl := HS.out _ (List.getElem_mem hil)
        obtain ⟨s, hs⟩ : ∃ s, s = L[i] := ⟨_, rfl⟩
        rw [← hs] at c0 hsl
        have HCUT : Hid (∀ w1, Calls Try.prog 8 #[.string ⟨s.toArray⟩, .int .i64 12] w1 fun r w' => r = .returned (.string ⟨(s.take 12).toArray⟩) ∧ w' = w1) := Lib.hid (fun w1 => cut_any s 12 w1 hsl (by decide))
        obtain ⟨K, hK⟩ : ∃ K, K = s.take 12 := ⟨_, rfl⟩
        rw [← hK] at HCUT
        have hK12 : K.length ≤ 12 := by rw [hK, List.length_take]; omega
        obtain ⟨T, hT⟩ : ∃ T, T = want K := ⟨_, rfl⟩
        have HOF : Hid (Calls Try.prog 12 #[.pointer (some ⟨c, 0, none⟩), .string ⟨K.toArray⟩, fvA pc po] wr fun e w' => e = .returned (.int .i64 T) ∧ AP wr w' c pc po M (300 * i + 20 * K.length + 1) F5) := Lib.hid (by
          rw [hT]
          exact of_as hA5 EM.out.1 (by have := EM.out.2; omega) (by omega) K hK12 (fun w1 F1 h1 => clos_any c pc po M EM.out.1 (by have := EM.out.2; omega) K hK12 w1 _ F1 (by omega) h1))
        have k1 := hA5.c1
        have k2 := hA5.c2
        obtain ⟨m, hm⟩ : ∃ m, m = K.length := ⟨_, rfl⟩
        have w1 : IntKind.i64.wrap ((m : Int) - 1) = (m : Int) - 1 := by rw [IntKind.wrap_i64]; omega
        have HKM := Lib.hid hm
        have HTW : Hid (T = want K) := Lib.hid hT
        have HK12 := Lib.hid hK12
        have HX := Lib.hid (And.intro hF5 hb5)
        rw [hm] at w1
        clear hA5 hF5 hb5 hil hs hsl hK hK12 hT hm hin hi2 HI
        go_wp2_with fail
        refine (HCUT.out wr).mono ?_
        rintro e wc ⟨rfl, hwc⟩
        obtain rfl : wc = wr := hwc
        clear HCUT
        go_wp2_with fail
        go_loopw [9, 10] (fun s9 s10 wx => ∃ (j : Nat) (q u : Int), j ≤ m ∧ q = (j : Int) - 1 ∧ s10 = .int .i64 q ∧ s9 = .int .i64 u ∧ Hid (u = want (K.drop j)) ∧ wx = wc) (fun _ q _ => (intOf q + 1).toNat)
        case atStart => exact ⟨m, (K.length : Int) - 1, 1, Nat.le_refl _, by rw [HKM.out], by simp, rfl, Lib.hid (by rw [HKM.out, List.drop_length]; rfl), rfl⟩
        case round =>
          obtain ⟨j, q, u, hj, hq, rfl, rfl, hu, rfl⟩ := hrel
          cases j with
          | zero =>
            obtain rfl : q = -1 := by omega
            obtain rfl : u = T := by rw [hu.out, HTW.out]; rfl
            clear hu hj hq
            go_wp2_with fail
            refine HOF.out.mono ?_
            rintro e w6 ⟨rfl, hA6⟩
            have HA6 := Lib.hid hA6
            clear hA6 HOF
            go_wp2_with fail
            go_roundw
            case rel =>
              obtain ⟨F6, hA6, hF6, hm6⟩ := HA6.out
              refine ⟨i + 1, by omega, by omega, by go_num, Lib.hid ⟨F6, hA6.mono (by have := HK12.out; omega), fun x hx => ?_, HX.out.2.trans (hm6.to_below HX.out.2.size (fun x hx h => absurd (HX.out.1 x h) (by omega)))⟩⟩
              rcases hF6 x hx with h | h
              · exact HX.out.1 x h
              · exact Nat.le_trans HX.out.2.size h
            case measure => simp [intOf]; omega
          | succ j =>
            obtain rfl : q = (j : Int) := by omega
            have hjl : j < K.length := by rw [← HKM.out]; omega
            have e0 := fun w => key_index K j hjl w
            have hwu := want_12 (K.drop (j + 1)) (by rw [List.length_drop]; have := HK12.out; omega)
            rw [← hu.out] at hwu
            obtain ⟨y, hy⟩ : ∃ y, y = K[j] := ⟨_, rfl⟩
            rw [← hy] at e0
            have hyb : y.toNat < 256 := y.toNat_lt
            obtain ⟨u3, hu3⟩ : ∃ u3, u3 = 3 * u := ⟨_, rfl⟩
            obtain ⟨u4, hu4⟩ : ∃ u4, u4 = (y.toNat : Int) + u3 := ⟨_, rfl⟩
            have w3 : IntKind.i64.wrap (3 * u) = u3 := by rw [hu3, IntKind.wrap_i64]; omega
            have w4 : IntKind.i64.wrap ((y.toNat : Int) + u3) = u4 := by rw [hu4, hu3, IntKind.wrap_i64]; omega
            have w5 : IntKind.i64.wrap (y.toNat : Int) = (y.toNat : Int) := by rw [IntKind.wrap_i64]; omega
            have hj12 : j ≤ 12 := by have := HK12.out; omega
            have w6 : IntKind.i64.wrap ((j : Int) - 1) = (j : Int) - 1 := by rw [IntKind.wrap_i64]; omega
            have HU : Hid (u4 = want (K.drop j)) := Lib.hid (by
              have : K.drop j = y :: K.drop (j + 1) := by rw [hy]; exact List.drop_eq_getElem_cons hjl
              rw [this, hu4, hu3, hu.out]; rfl)
            have j0 : (0 : Int) ≤ j := by omega
            clear hq hjl hj12 hwu hy hyb hu3 hu4 hu
            go_wp2_with fail
            go_roundw
            case rel => exact ⟨j, (j : Int) - 1, u4, by omega, rfl, by simp, by simp, HU, trivial⟩
            case measure => simp [intOf]
      · have i2 : ¬ (i : Int) < 20 := by omega
        clear hi2 hin
        obtain ⟨F5, hA5, hF5, hb5⟩ := HI.out
        obtain ⟨fd5, ak5, L5, hC5, hG5, hl5, r5⟩ := hA5.ca
        have k1 := hA5.c1
        have HL5 := Lib.hid (ca_len hC5)
        have h20 : (L5.length : Int) ≤ 20 := by have := EM.out.2; omega
        have HB5 := Lib.hid hb5
        clear hA5 hF5 hb5 hC5 hG5 hl5 r5 HI
        go_wp2_with fail
        refine HL5.out.mono ?_
        rintro e w9 ⟨rfl, hw9⟩
        have HW9 := Lib.hid hw9
        clear hw9 HL5
        go_wp2_with fail
        go_ret
        rw [HW9.out]
        exact ⟨rfl, HB5.out⟩
    · have i1 : ¬ (i : Int) < n := by omega
      clear hin
      obtain ⟨F5, hA5, hF5, hb5⟩ := HI.out
      obtain ⟨fd5, ak5, L5, hC5, hG5, hl5, r5⟩ := hA5.ca
      have k1 := hA5.c1
      have HL5 := Lib.hid (ca_len hC5)
      have h20 : (L5.length : Int) ≤ 20 := by have := EM.out.2; omega
      have HB5 := Lib.hid hb5
      clear hA5 hF5 hb5 hC5 hG5 hl5 r5 HI
      go_wp2_with fail
      refine HL5.out.mono ?_
      rintro e w9 ⟨rfl, hw9⟩
      have HW9 := Lib.hid hw9
      clear hw9 HL5
      go_wp2_with fail
      go_ret
      rw [HW9.out]
      exact ⟨rfl, HB5.out⟩
end Go.Proofs.Ytdiiechkhlbkcab
