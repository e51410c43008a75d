/- JournalReads: the walk, unfinished. Builds up to region 23 (put `trace_state; sorry` behind `go_upto_region 23 with fail` in place of what follows); the two halves behind it are not done: with k = 0 all calls go through, but the comparison of F with F (region 25) leaves its other branch open (say the fact under List.instBEq, see Jnv); k > 0 is untried. -/
import Derived.Test.YtippakeemfldfaaDoorZ10
namespace Go.Proofs.YtippakeemfldfaaDoor
open Go.RowKit
set_option maxRecDepth 20000 in
set_option maxHeartbeats 4000000 in
theorem journalReads_any (o : Option Addr) (cap : Nat) (L : List (List UInt8)) (a1 a2 : Int) (W : World) (hR : Rd encS W o L) (hz : ∀ s ∈ L, (s.length : Int) ≤ 9223372036854775807) (hn : L.length ≤ 9223372036854775807) (_h1 : -9223372036854775808 ≤ a1) (_h2 : a1 ≤ 9223372036854775807) (_h3 : -9223372036854775808 ≤ a2) (_h4 : a2 ≤ 9223372036854775807) (hT : TabAt W) :
    Calls Tryd.prog 4 #[.slice o L.length cap, .int .i64 a1, .int .i64 a2] W fun e w' => e = .returned (.bool true) ∧ Below W.heap.size W w' := by
  have HAW := Lib.hid (awake10_any W hT)
  have HT := Lib.hid hT
  have HRD := Lib.hid hR
  have HZ := Lib.hid hz
  have hL : (L.length : Int) ≤ 9223372036854775807 := by omega
  clear hT hR hz
  go_enter Tryd.func4, Tryd.ntmps4
  go_wp2_with fail
  refine HAW.out.mono ?_
  rintro e w1 ⟨rfl, hb1⟩
  have HB1 := Lib.hid hb1
  clear hb1 HAW
  go_upto_block 0 with fail
  have H0 : Hid (GaR w1 w1 [] 0 none 0 none 0) := Lib.hid ⟨Below.refl _ _, rfl, Rw.empty _ _, Rw.empty _ _, (fun a e => by cases e), (fun a e => by cases e), (fun a b e => by cases e)⟩
  go_cut [7, 8, 9] from 10 to 57 (fun s7 s8 s9 wx => ∃ (T : List (List UInt8)) (n : Nat) (p : Option Addr) (c : Nat) (q : Option Addr) (c2 : Nat) (A : List UInt8), s7 = .string ⟨A.toArray⟩ ∧ s8 = .slice q n c2 ∧ s9 = .slice p n c ∧ Hid (T.length ≤ 6 ∧ (∀ z ∈ T, z.length ≤ 40) ∧ A = frmsB T ∧ GaR w1 wx T n p c q c2))
  case rest =>
    obtain ⟨T, n, p, c, q, c2, A, rfl, rfl, rfl, HC⟩ := hcut
    obtain ⟨m, hm⟩ : ∃ m : Nat, (m : Int) = max 0 (min a1 (A.length : Int)) := ⟨(max 0 (min a1 (A.length : Int))).toNat, by omega⟩
    have hmA : m ≤ A.length := by omega
    have hA288 : A.length ≤ 288 := by have h1 := frms40 HC.out.2.1; have h2 := HC.out.1; rw [HC.out.2.2.1]; omega
    have HM := Lib.hid hm
    have hmi : (m : Int) ≤ A.length := by omega
    have hmi0 : (0 : Int) ≤ m := by omega
    obtain ⟨B, hB⟩ : ∃ B, B = A.take m := ⟨_, rfl⟩
    have hBl : B.length = m := by rw [hB, List.length_take]; omega
    have hx : (⟨A.toArray⟩ : ByteArray).extract 0 m = ⟨B.toArray⟩ := by apply ByteArray.ext; simp [hB]
    have hT1 := TabJ.old (TabJ.old HT.out HB1.out) (by exact HC.out.2.2.2.b)
    have HTC := Lib.hid hT1
    have HBW := Lib.hid (HB1.out.trans (HC.out.2.2.2.b.mono HB1.out.size))
    have HNW := Lib.hid (Dk.new 1000 1000 1000 wc (by decide) (by decide))
    have g0 : Gd ⟨1000, 0, -1, false, []⟩ 0 := Gd.new 1000 (by decide) (by decide)
    obtain ⟨s1, s2⟩ := st_log B (by omega)
    obtain ⟨s3, s4⟩ := st_new B (by omega)
    have g1 : Gd ⟨1000, 1, -1, false, [(logN, B, 0)]⟩ 1 := by have := g0.app logN B (by decide); rwa [s2] at this
    have g2 : Gd ⟨1000, 2, -1, false, [(logN, B, 0), (newN, someN, 0)]⟩ 2 := by have := g1.app newN someN (by decide); rwa [s4] at this
    have HA1 : Hid (∀ w d, Dk wc w d ⟨1000, 0, -1, false, []⟩ → Calls Tryd.prog 21 #[.pointer (some ⟨d, 0, none⟩), .string ⟨#[108, 111, 103]⟩, .string ⟨B.toArray⟩] w fun e w' => e = .returned (.int .i64 0) ∧ Dk wc w' d ⟨1000, 1, -1, false, [(logN, B, 0)]⟩) := Lib.hid (fun w d h => by
      have := h.append (g0.ok (by decide)) logN B (by decide) (by omega)
      rwa [s1, s2] at this)
    have HA2 : Hid (∀ w d, Dk wc w d ⟨1000, 1, -1, false, [(logN, B, 0)]⟩ → Calls Tryd.prog 21 #[.pointer (some ⟨d, 0, none⟩), .string ⟨#[110, 101, 119]⟩, .string ⟨#[115, 111, 109, 101]⟩] w fun e w' => e = .returned (.int .i64 0) ∧ Dk wc w' d ⟨1000, 2, -1, false, [(logN, B, 0), (newN, someN, 0)]⟩) := Lib.hid (fun w d h => by
      have := h.append (g1.ok (by decide)) newN someN (by decide) (by decide)
      rwa [s3, s4] at this)
    have HG2 := Lib.hid g2
    have HBB := Lib.hid hB
    have HBL := Lib.hid hBl
    clear hm hB hBl hT1 g0 g1 g2 s1 s2 s3 s4
    go_upto_region 13 with fail
    rw [← HM.out]
    go_wp2_with fail
    refine HNW.out.mono ?_
    rintro e w2 ⟨d, rfl, hD⟩
    have HD := Lib.hid hD
    clear hD HNW
    go_wp2_with fail
    refine (HA1.out _ _ HD.out).mono ?_
    rintro e w3 ⟨rfl, hD⟩
    have HD := Lib.hid hD
    clear hD HA1
    go_wp2_with fail
    refine (HA2.out _ _ HD.out).mono ?_
    rintro e w4 ⟨rfl, hD⟩
    have HD := Lib.hid hD
    clear hD HA2 hx
    have hnT := HC.out.2.2.2.n
    have HRI : Hid (∀ k (h : k < T.length), ∃ bs off, q = some ⟨bs, off, none⟩ ∧ w4.cell? ⟨bs, off + k, none⟩ = some (.int .i64 ((frmsB (T.take (k + 1))).length : Nat))) := Lib.hid (by
      intro k hk
      obtain ⟨bs, off, e, _, hc⟩ := (HC.out.2.2.2.ri.rd.old HD.out.b) k (by rw [endsB_len]; exact hk)
      refine ⟨bs, off, e, ?_⟩
      have := hc 0 (.int .i64 ((frmsB (T.take (k + 1))).length : Nat)) (by simp [encI, endsB])
      simpa [encI] using this)
    have hT6 := HC.out.1
    have HNT := Lib.hid hnT
    clear hnT
    go_upto_block 2 with fail
    go_cut [13] from 79 to 92 (fun s13 wx => ∃ k : Nat, s13 = .int .i64 (k : Int) ∧ Hid (w4 = wx ∧ k ≤ T.length ∧ (frmsB (T.take k)).length ≤ m ∧ (k < T.length → m < (frmsB (T.take (k + 1))).length)))
    case first =>
      have hn6 : (n : Int) = T.length := by have := HNT.out; omega
      go_wp2_with fail
      go_loopw [13] (fun s13 wr => ∃ k : Nat, k ≤ T.length ∧ s13 = .int .i64 (k : Int) ∧ Hid (w4 = wr ∧ (frmsB (T.take k)).length ≤ m)) (fun s13 _ => T.length + 1 - (intOf s13).toNat)
      case atStart => exact ⟨0, by omega, rfl, Lib.hid ⟨rfl, Nat.zero_le _⟩⟩
      case round =>
        obtain ⟨k, hk, rfl, HK⟩ := hrel
        obtain ⟨hww, hkm⟩ := HK.out
        subst hww
        have k0 : (0 : Int) ≤ k := by omega
        by_cases hkt : k < T.length
        · have hkt' : (k : Int) < n := by omega
          obtain ⟨bs, off, rfl, hcell⟩ := HRI.out k hkt
          obtain ⟨z, hz⟩ : ∃ z, z = (frmsB (T.take (k + 1))).length := ⟨_, rfl⟩
          rw [← hz] at hcell
          have HZZ := Lib.hid hz
          by_cases hzm : z ≤ m
          · have hzm' : (z : Int) ≤ m := by omega
            have HN : Hid ((frmsB (T.take (k + 1))).length ≤ m) := Lib.hid (by omega)
            clear hz hkm HK hn6
            go_wp2_with fail
            go_roundw
            case rel => exact ⟨k + 1, by omega, by go_num, Lib.hid ⟨by first | trivial | rfl, HN.out⟩⟩
            case measure => simp [intOf]; omega
          · have hzm' : ¬ (z : Int) ≤ m := by omega
            have HN : Hid (m < (frmsB (T.take (k + 1))).length) := Lib.hid (by omega)
            have HKM := Lib.hid hkm
            clear hz hkm HK hn6
            go_wp2_with fail
            go_meet
            exact ⟨k, rfl, Lib.hid ⟨rfl, by omega, HKM.out, fun _ => HN.out⟩⟩
        · have hkt' : ¬ (k : Int) < n := by omega
          have HKM := Lib.hid hkm
          clear hkm HK hn6
          go_wp2_with fail
          go_meet
          exact ⟨k, rfl, Lib.hid ⟨rfl, by omega, HKM.out, fun h => absurd h hkt⟩⟩
    case rest =>
    obtain ⟨k, rfl, HK⟩ := hcut
    obtain ⟨hww, hkT, hkm, hkn⟩ := HK.out
    subst hww
    obtain ⟨F, hF⟩ : ∃ F, F = frmsB (T.take k) := ⟨_, rfl⟩
    obtain ⟨M, hM⟩ : ∃ M, M = F.length := ⟨_, rfl⟩
    have hT20 : ∀ s ∈ T, s.length ≤ 1048576 := fun s hs => by have := HC.out.2.1 s hs; omega
    have hwc := whoB_cut hT20 m k (by rw [← HC.out.2.2.1]; exact hmA) hkT hkm hkn
    rw [← HC.out.2.2.1, ← HBB.out, ← hF, ← hM] at hwc
    have hFm : M ≤ m := by rw [hM, hF]; exact hkm
    obtain ⟨dd', hop⟩ := opn_part (rm := 1000) (dd := 2) (B := someN) hwc.1 (by rw [HBL.out]; exact hFm)
    rw [hwc.2] at hop
    have HFL := Lib.hid hF
    have HML := Lib.hid hM
    obtain ⟨S3, hS3⟩ : ∃ S, S = (⟨1000, dd', -1, false, [(logN, F, M)]⟩ : St) := ⟨_, rfl⟩
    rw [← hS3] at hop
    have hk' : (T.take k).length = k := by rw [List.length_take]; omega
    have HOP := Lib.hid (HD.out.jopen HG2.out (by decide) HTC.out (T.take k) S3 hop)
    have r1 : rdX S3 logN = (F, 0) := by rw [hS3]; simp [rdX, hasX, fiX]
    have r2 : rdX S3 newN = ([], 7) := by rw [hS3]; simp [rdX, hasX]
    have l1 : (fiX logN S3.X).2.1.length - (fiX logN S3.X).2.2 = 0 := by rw [hS3]; simp [fiX, hM]
    have l2 : ∀ x ∈ S3.X, x.2.1.length ≤ 2000000000 := by rw [hS3]; intro x hx; simp at hx; rw [hx]; show F.length ≤ _; omega
    rw [hk'] at HOP
    have HR1 : Hid (∀ w d j, JD wc w d j S3 → Calls Tryd.prog 22 #[.pointer (some ⟨d, 0, none⟩), .string ⟨#[108, 111, 103]⟩] w fun e w' => e = .returned (.tuple #[.string ⟨F.toArray⟩, .int .i64 0]) ∧ JD wc w' d j S3 ∧ Below w.heap.size w w') := Lib.hid (fun w d j h => by
      have h2 := h
      obtain ⟨F', hA, _⟩ := h
      have := dkread_any hA logN (by decide)
      rw [r1] at this
      exact this.mono (by rintro e w' ⟨rfl, hb⟩; exact ⟨rfl, h2.old hb, hb⟩))
    have HR2 : Hid (∀ w d j, JD wc w d j S3 → Calls Tryd.prog 22 #[.pointer (some ⟨d, 0, none⟩), .string ⟨#[110, 101, 119]⟩] w fun e w' => e = .returned (.tuple #[.string ⟨#[]⟩, .int .i64 7]) ∧ JD wc w' d j S3 ∧ Below w.heap.size w w') := Lib.hid (fun w d j h => by
      have h2 := h
      obtain ⟨F', hA, _⟩ := h
      have := dkread_any hA newN (by decide)
      rw [r2] at this
      exact this.mono (by rintro e w' ⟨rfl, hb⟩; exact ⟨rfl, h2.old hb, hb⟩))
    have HLO : Hid (∀ w d j, JD wc w d j S3 → Calls Tryd.prog 23 #[.pointer (some ⟨d, 0, none⟩), .string ⟨#[108, 111, 103]⟩] w fun e w' => e = .returned (.int .i64 0) ∧ JD wc w' d j S3 ∧ Below w.heap.size w w') := Lib.hid (fun w d j h => by
      have h2 := h
      obtain ⟨F', hA, _⟩ := h
      refine (dkloose_any hA logN (by decide) l2).mono ?_
      rintro e w' ⟨rfl, hb⟩
      exact ⟨by rw [l1]; rfl, h2.old hb, hb⟩)
    have HRW0 : Hid (∀ w, Below wc.heap.size wc w → Rd encS w p (T.take k)) := Lib.hid (fun w hb => (HC.out.2.2.2.rw.old hb).rd.takeS k)
    have HXF : Hid ((⟨A.toArray⟩ : ByteArray).extract 0 M = ⟨F.toArray⟩) := Lib.hid (by
      have h1 : A.take M = F := by
        have := hwc.2
        rw [HBB.out, List.take_take, Nat.min_eq_left hFm] at this
        exact this
      apply ByteArray.ext; simp [h1])
    have hMA : (M : Int) ≤ A.length := by omega
    have hM0 : (0 : Int) ≤ M := by omega
    have hkn' : (k : Int) ≤ n := by have := HNT.out; omega
    have hk0 : (0 : Int) ≤ k := by omega
    clear hwc hop hS3 r1 r2 l1 l2 hF hM hT20 HK
    go_wp2_with fail
    refine HOP.out.mono ?_
    rintro e w5 ⟨j, p2, c3, rfl, hJ, hRw, _, _⟩
    have HJ := Lib.hid hJ
    have HRR := Lib.hid hRw
    clear hJ hRw HOP
    go_wp2_with fail
    refine (HR1.out _ _ _ HJ.out).mono ?_
    rintro e w6 ⟨rfl, hJ, hb⟩
    have HJ := Lib.hid hJ
    have HRR := Lib.hid (HRR.out.old hb)
    clear hJ hb HR1
    go_wp2_with fail
    refine (HR2.out _ _ _ HJ.out).mono ?_
    rintro e w7 ⟨rfl, hJ, hb⟩
    have HJ := Lib.hid hJ
    have HRR := Lib.hid (HRR.out.old hb)
    clear hJ hb HR2
    have HSA : Hid (∀ w, Rw encS 9 w p2 c3 (T.take k) → Below wc.heap.size wc w → Calls Tryd.prog 16 #[.slice p2 k c3, .slice p k c] w fun e w' => e = .returned (.bool true) ∧ Below w.heap.size w w') := Lib.hid (fun w hr hb => by
      have := same10_any p2 p c3 c (T.take k) (T.take k) w hr.rd (HRW0.out w hb) (by omega) (by omega)
      rw [hk'] at this
      exact this.mono (by rintro e w' ⟨rfl, hb⟩; exact ⟨by simp, hb⟩))
    have HFB : Hid (∀ w, Below wc.heap.size wc w → Below W.heap.size W w) := Lib.hid (fun w hb => HBW.out.trans (hb.mono HBW.out.size))
    by_cases hkz : k = 0
    · have hMz : M = 0 := by have h1 := HML.out; have h2 := HFL.out; rw [hkz] at h2; rw [h1, h2]; rfl
      subst hMz
      have hki : (k : Int) = 0 := by omega
      have HSA : Hid (∀ w, Rw encS 9 w p2 c3 (T.take k) → Below wc.heap.size wc w → Calls Tryd.prog 16 #[.slice p2 k c3, .slice p 0 c] w fun e w' => e = .returned (.bool true) ∧ Below w.heap.size w w') := Lib.hid (fun w h1 h2 => by have := HSA.out w h1 h2; rw [hkz] at this ⊢; exact this)
      have hF0 : F = [] := List.eq_nil_of_length_eq_zero (by rw [← HML.out])
      subst hF0
      clear hk0 hkz
      go_wp2_with fail
      refine (HSA.out _ HRR.out HJ.out.b).mono ?_
      rintro e w8 ⟨rfl, hb⟩
      have HJ := Lib.hid (HJ.out.old hb)
      clear hb HSA
      go_wp2_with fail
      refine (HLO.out _ _ _ HJ.out).mono ?_
      rintro e w9 ⟨rfl, hJ, hb⟩
      have HJ := Lib.hid hJ
      clear hJ hb HLO
      go_wp2_with fail
      go_ret
      exact ⟨rfl, HFB.out _ HJ.out.b⟩
    · obtain ⟨bs, off, rfl, hcell⟩ := HRI.out (k - 1) (by omega)
      rw [show k - 1 + 1 = k by omega, ← HFL.out, ← HML.out] at hcell
      have hkc : (k : Int) ≤ c := by
        have h1 := (HC.out.2.2.2.rw).cap_le
        omega
      have hc7 : w7.cell? ⟨bs, off + (k - 1), none⟩ = some (.int .i64 (M : Nat)) := by
        obtain ⟨bs', off', e, _, hc⟩ := (HC.out.2.2.2.ri.rd.old HJ.out.b) (k - 1) (by rw [endsB_len]; omega)
        cases e
        have := hc 0 (.int .i64 ((frmsB (T.take (k - 1 + 1))).length : Nat)) (by simp [encI, endsB])
        rw [show k - 1 + 1 = k by omega, ← HFL.out, ← HML.out] at this
        simpa [encI] using this
      have hki : (0 : Int) < k := by omega
      have hkt : ((k : Int) - 1).toNat = k - 1 := by omega
      have hk9 : (0 : Int) ≤ (k : Int) - 1 := by omega
      have hk8 : (k : Int) - 1 < n := by omega
      have hM8 : (0 : Int) < M := by
        have h1 := frmsB_count (T.take k)
        have h2 := HML.out
        have h3 := HFL.out
        rw [← h3] at h1
        omega
      clear hcell
      go_wp2_with fail
      refine (HSA.out _ HRR.out HJ.out.b).mono ?_
      rintro e w8 ⟨rfl, hb⟩
      have HJ := Lib.hid (HJ.out.old hb)
      clear hb HSA
      have hxf := HXF.out
      go_wp2_with fail
      refine (HLO.out _ _ _ HJ.out).mono ?_
      rintro e w9 ⟨rfl, hJ, hb⟩
      have HJ := Lib.hid hJ
      clear hJ hb HLO
      go_upto_region 29 with fail
      obtain ⟨cp, W10, C, fr, hcv, hb10, hx10, hCl, hCf, hC⟩ := toBytes w9 F
      have HJ10 := Lib.hid (HJ.out.old hb10)
      have HX10 := Lib.hid hx10
      have HCC := Lib.hid (And.intro hCl (And.intro hCf hC))
      obtain ⟨g, hg⟩ : ∃ g, g = w9.heap.size := ⟨_, rfl⟩
      rw [← hg] at hcv HX10
      have Hg := Lib.hid hg
      have HCO : Hid (∀ n w, n ≤ 2000000000 → Calls Tryd.prog 17 #[.int .i64 ((n : Nat) : Int)] w fun r w' => r = .returned (.int .i64 (8 + (n : Int))) ∧ w = w') := Lib.hid (fun n w h => jcost_nat n w h)
      clear hxf hb10 hx10 hCl hCf hC hg hc7
      go_upto_region 30 with fail
      clear hcv
      obtain ⟨z, hz⟩ : ∃ z, z = T[k - 1]'(by omega) := ⟨_, rfl⟩
      obtain ⟨gp, rfl, hcp⟩ : ∃ gp, p = some ⟨gp, 0, none⟩ ∧ W10.cell? ⟨gp, k - 1, none⟩ = some (.string ⟨z.toArray⟩) := by
        have hrw := HC.out.2.2.2.rw.old HJ10.out.b
        rcases hrw.shape with ⟨_, rfl, _⟩ | ⟨gp, rfl, _⟩
        · simp at hkT; omega
        · obtain ⟨bs', off', e, _, hc⟩ := hrw.rd (k - 1) (by omega)
          cases e
          have := hc 0 (.string ⟨(T[k - 1]).toArray⟩) rfl
          exact ⟨gp, rfl, by rw [hz]; simpa [encS] using this⟩
      have hzl : z.length ≤ 40 := by rw [hz]; exact HC.out.2.1 _ (List.getElem_mem _)
      obtain ⟨zl, hzl2⟩ : ∃ zl, zl = z.length := ⟨_, rfl⟩
      have HZ2 := Lib.hid hz
      have hsz : (⟨z.toArray⟩ : ByteArray).size = zl := by rw [hzl2]; rfl
      obtain ⟨P, hP⟩ : ∃ P, P = (frmsB (T.take (k - 1))).length := ⟨_, rfl⟩
      have hTk : T.take k = T.take (k - 1) ++ [z] := by
        rw [hz, ← List.take_succ_eq_append_getElem, show k - 1 + 1 = k by omega]
      have hMP : M = P + (8 + zl) := by rw [HML.out, HFL.out, hTk, frmsB_snoc, List.length_append, frmB_len, ← hP, hzl2]
      have w1' : IntKind.i64.wrap ((M : Int) - (8 + (zl : Int))) = (P : Int) := by rw [IntKind.wrap_i64]; omega
      have w2' : IntKind.i64.wrap ((P : Int) + 4) = (P : Int) + 4 := by rw [IntKind.wrap_i64]; omega
      have HCZ := Lib.hid (HCO.out zl W10 (by omega))
      have HTK := Lib.hid hTk
      have HP := Lib.hid hP
      have HMP := Lib.hid hMP
      have HZL := Lib.hid (And.intro hzl2 hzl)
      clear hz hTk hP hMP hzl2 hzl HCO
      go_upto_region 31 with fail
      refine HCZ.out.mono ?_
      rintro e w11 ⟨rfl, hww⟩
      subst hww
      obtain ⟨jj, hj4, hjb⟩ := and3 a2
      obtain ⟨at_, hat⟩ : ∃ x : Nat, x = P + 4 + jj := ⟨_, rfl⟩
      have w3' : wrap64 ((P : Int) + 4 + (jj : Int)) = (at_ : Int) := by
        unfold wrap64
        have := HMP.out; omega
      have HAT := Lib.hid hat
      have HJ4 := Lib.hid hj4
      clear hat hj4
      go_upto_region 31 with fail
      have hFM : F.length = M := HML.out.symm
      have hatF : at_ < F.length := by have h1 := HMP.out; have h2 := HAT.out; have h3 := HJ4.out; omega
      have i0 : (0 : Int) ≤ at_ := by omega
      have i1 : (at_ : Int) < (F.length : Int) := by omega
      obtain ⟨x, hx⟩ : ∃ x, x = F[at_] := ⟨_, rfl⟩
      have c170 : W10.cell? ⟨g, at_, none⟩ = some (.int .u8 (x.toNat : Int)) := by
        rw [cell_of_row W10 g at_ C 5 fr HX10.out, hx]; exact HCC.out.2.2 at_ hatF
      have f170 : W10.frozen? ⟨g, at_, none⟩ = false := by
        have h1 := HCC.out.1
        have h2 := HCC.out.2.1
        simp only [World.frozen?, HX10.out]
        rw [Bool.and_eq_false_iff]
        left; simp only [decide_eq_false_iff_not]; omega
      have hx1 := xor1_bits x
      obtain ⟨W11, hW11⟩ : ∃ W, W = W10.setCell ⟨g, at_, none⟩ (.int .u8 ((x.toNat ^^^ 1 : Nat) : Int)) := ⟨_, rfl⟩
      obtain ⟨G, hG⟩ : ∃ G, G = F.set at_ (x ^^^ 1) := ⟨_, rfl⟩
      have hGl : G.length = F.length := by rw [hG, List.length_set]
      have hce : ∀ i (hi : i < G.length), W11.cell? ⟨g, i, none⟩ = some (.int .u8 (G[i].toNat : Int)) := fun i hi => by
        rw [hW11]
        by_cases hia : i = at_
        · subst hia
          rw [World.cell?_setCell_same' _ _ _ (by rw [c170]; rfl)]
          simp [hG]
        · rw [World.cell?_setCell_other _ _ _ _ (show (⟨g, at_, none⟩ : Addr) ≠ ⟨g, i, none⟩ from fun e => hia (by cases e; rfl)), cell_of_row W10 g i C 5 fr HX10.out]
          rw [HCC.out.2.2 i (by omega)]
          simp [hG, List.getElem_set, Ne.symm hia]
      have hgl : g < W11.heap.size := by
        have := (Array.getElem?_eq_some_iff.1 HX10.out).1
        rw [hW11]
        simpa [World.setCell] using this
      have hbad : whoB (G.length + 1) G = none := by
        have hz40 := HZL.out
        have e1 : F = frmsB (T.take (k - 1) ++ [z]) := by rw [HFL.out, HTK.out]
        have hy : x ^^^ 1 ≠ (frmsB (T.take (k - 1) ++ [z])).getD ((frmsB (T.take (k - 1))).length + 4 + jj) 0 := by
          rw [← e1, ← HP.out, ← HAT.out]
          simp only [List.getD_eq_getElem?_getD, List.getElem?_eq_getElem hatF, Option.getD_some]
          rw [← hx]
          exact xor_one_ne x
        have := spoil_bad (l := T.take (k - 1)) (fun s hs => by have := HC.out.2.1 s (List.mem_of_mem_take hs); omega) z (by omega) jj HJ4.out (x ^^^ 1) hy (G.length + 1) (by
          have h1 := frmsB_count (T.take (k - 1))
          have h2 := HMP.out
          have h3 := HP.out
          omega)
        rw [← e1, ← HP.out, ← HAT.out, ← hG] at this
        exact this
      have hb11 : Below W.heap.size W W11 := by
        rw [hW11]
        exact (HFB.out _ HJ10.out.b).setCell (show W.heap.size ≤ g by have h1 := Hg.out; have h2 := (HFB.out _ HJ.out.b).size; omega) _
      have HST := Lib.hid (st_bad G (by have := hA288; omega) hbad W11 (TabJ.old HT.out hb11))
      have HNW2 := Lib.hid (Dk.new 1000 1000 1000 W11 (by decide) (by decide))
      have HB11 := Lib.hid hb11
      have HCE := Lib.hid (And.intro hGl (And.intro hgl hce))
      have HW11 := Lib.hid hW11
      clear hFM hatF hx hG hGl hce hgl hbad hb11 hW11
      go_upto_region 32 with fail
      rw [← HW11.out]
      clear c170 f170 hx1 i0 i1 w3' hjb
      go_wp2_with fail
      refine HNW2.out.mono ?_
      rintro e w12 ⟨d2, rfl, hD⟩
      have HD2 := Lib.hid hD
      have hcv : (convert 50 9 (.slice (some ⟨g, 0, none⟩) F.length cp)).run Tryd.prog w12 = .ok (.string ⟨G.toArray⟩) w12 := by
        obtain ⟨_, _, _, hbD⟩ := HD2.out
        rw [← HCE.out.1]
        exact fromBytes (fun i hi => (hbD.cell HCE.out.2.1).trans (HCE.out.2.2 i hi))
      clear hD HNW2
      go_wp2_with fail
      refine (HST.out.1 _ _ HD2.out).mono ?_
      rintro e w13 ⟨rfl, hD⟩
      have HD3 := Lib.hid (HST.out.2 _ _ hD)
      clear hD hcv
      go_wp2_with fail
      refine HD3.out.mono ?_
      rintro e w14 ⟨rfl, hb⟩
      have HF := Lib.hid (HB11.out.trans (hb.mono HB11.out.size))
      clear hb HD3 HST
      go_wp2_with fail
      go_ret
      exact ⟨rfl, HF.out⟩
  go_wp2_with fail
  go_loopw [7, 8, 9, 10] (fun s7 s8 s9 s10 wr => ∃ (i n : Nat) (p : Option Addr) (c : Nat) (q : Option Addr) (c2 : Nat) (A : List UInt8), i ≤ L.length ∧ i ≤ 6 ∧ s7 = .string ⟨A.toArray⟩ ∧ s8 = .slice q n c2 ∧ s9 = .slice p n c ∧ s10 = .int .i64 (i : Int) ∧ Hid (A = frmsB ((L.take i).map fun s => s.take 40) ∧ GaR w1 wr ((L.take i).map fun s => s.take 40) n p c q c2)) (fun _ _ _ s10 _ => 7 - (intOf s10).toNat)
  case atStart => exact ⟨0, 0, none, 0, none, 0, [], by omega, by omega, rfl, rfl, rfl, rfl, Lib.hid ⟨rfl, H0.out⟩⟩
  case round =>
    clear H0
    obtain ⟨i, n, p, c, q, c2, A, hi, hi6, rfl, rfl, rfl, rfl, HS⟩ := hrel
    have i0 : (0 : Int) ≤ i := by omega
    have i6 : (i : Int) ≤ 6 := by omega
    by_cases hlt : i < L.length ∧ i < 6
    · obtain ⟨hl1, hl2⟩ := hlt
      have hl1' : (i : Int) < L.length := by omega
      have hl2' : (i : Int) < 6 := by omega
      obtain ⟨bs, off, rfl, hbs, hc⟩ := HRD.out i hl1
      have hbw : Below W.heap.size W wr := HB1.out.trans (HS.out.2.b.mono HB1.out.size)
      have ce : wr.cell? ⟨bs, off + i, none⟩ = some (.string ⟨(L[i]).toArray⟩) := (hbw.cell hbs).trans (by
        have := hc 0 (.string ⟨(L[i]).toArray⟩) rfl
        simpa [encS] using this)
      obtain ⟨x, hx⟩ : ∃ x, x = L[i] := ⟨_, rfl⟩
      rw [← hx] at ce
      have hxl : (x.length : Int) ≤ 9223372036854775807 := hx ▸ HZ.out _ (List.getElem_mem _)
      have HCU := Lib.hid (fun w => jcut40_any x 40 w (by unfold maxLen; omega) (by decide))
      obtain ⟨s, hs⟩ : ∃ s, s = x.take 40 := ⟨_, rfl⟩
      rw [← hs] at HCU
      have hs40 : s.length ≤ 40 := by rw [hs, List.length_take]; omega
      have HFR := Lib.hid (fun w => frame10_any s w (by omega))
      obtain ⟨fb, hfb⟩ : ∃ fb, fb = frmB s := ⟨_, rfl⟩
      rw [← hfb] at HFR
      have hfl : fb.length ≤ 48 := by rw [hfb, frmB_len]; omega
      obtain ⟨T, hTT⟩ : ∃ T, T = (L.take i).map fun s => s.take 40 := ⟨_, rfl⟩
      have hTn : ((L.take (i + 1)).map fun s => s.take 40) = T ++ [s] := by
        rw [List.take_succ_eq_append_getElem hl1, List.map_append, ← hTT, List.map_cons, List.map_nil, ← hx, ← hs]
      have hA0 := HS.out.1
      have hG := HS.out.2
      rw [← hTT] at hA0 hG
      have hTl : T.length ≤ 6 := by rw [hTT, List.length_map, List.length_take]; omega
      have hT40 : ∀ z ∈ T, z.length ≤ 40 := by
        intro z hz
        rw [hTT] at hz
        obtain ⟨y, _, rfl⟩ := List.mem_map.1 hz
        rw [List.length_take]; omega
      have hAl : A.length ≤ 288 := by have := frms40 hT40; rw [hA0]; omega
      obtain ⟨A2, hA2⟩ : ∃ A2, A2 = A ++ fb := ⟨_, rfl⟩
      have hbc : (⟨A.toArray⟩ : ByteArray) ++ ⟨fb.toArray⟩ = ⟨A2.toArray⟩ := by apply ByteArray.ext; simp [hA2]
      have hA2l : A2.length ≤ 336 := by rw [hA2, List.length_append]; omega
      have hAF : A2 = frmsB (T ++ [s]) := by rw [hA2, frmsB_snoc, hA0, hfb]
      have HG := Lib.hid hG
      have HAF := Lib.hid hAF
      have HTN := Lib.hid hTn
      clear hx hs hc hbs hbw hs40 hfb hTT hTn hA0 hG hTl hT40 hA2 hAF HS
      go_wp2_with fail
      refine (HCU.out wr).mono ?_
      rintro e w2 ⟨rfl, hww⟩
      subst hww
      go_wp2_with fail
      refine (HFR.out w2).mono ?_
      rintro e w3 ⟨rfl, hb3⟩
      have HB3 := Lib.hid hb3
      clear hb3
      have hb4 : Below w3.heap.size w3 (w3.alloc (.cells #[.string ⟨s.toArray⟩] 9)) := (Below.refl _ w3).alloc (Nat.le_refl _) _
      have HBA := Lib.hid (HB3.out.trans (hb4.mono HB3.out.size))
      have HRA := Lib.hid (HG.out.rw.old HBA.out)
      have HRS := Lib.hid (Rd.made encS w3 9 [s] (by simp [maxLen]))
      have HTL : Hid (T.length = n) := Lib.hid HG.out.n.symm
      have HNB : Hid (n + 1 ≤ 100000000000) := Lib.hid (by
        have h1 := HG.out.n
        have h2 := congrArg List.length HTN.out
        rw [List.length_map, List.length_take, List.length_append] at h2
        have : [s].length = 1 := rfl
        omega)
      have HEN : Hid (∀ w4 q2 c3, PushR encS 9 (w3.alloc (.cells #[.string ⟨s.toArray⟩] 9)) p (T ++ [s]) q2 c3 w4 → Rw encI 3 (w4.alloc (.cells #[.int .i64 (A2.length : Int)] 3)) q c2 (endsB T) ∧ Rd encI (w4.alloc (.cells #[.int .i64 (A2.length : Int)] 3)) (some ⟨w4.heap.size, 0, none⟩) [(A2.length : Int)] ∧ (endsB T).length = n) := Lib.hid (by
        intro w4 q2 c3 hP
        have hb5 : Below w4.heap.size w4 (w4.alloc (.cells #[.int .i64 (A2.length : Int)] 3)) := (Below.refl _ w4).alloc (Nat.le_refl _) _
        refine ⟨((HG.out.ri.old HBA.out).kept hP.2.1 (fun b eb => ?_)).old hb5, Rd.made encI w4 3 [(A2.length : Int)] (by simp [maxLen]), by rw [endsB_len, HTL.out]⟩
        rintro ⟨a, ea, he⟩
        exact HG.out.ne a b ea eb he.symm)
      have HPG : Hid (∀ w4 q2 c3 w5 q3 c4, PushR encS 9 (w3.alloc (.cells #[.string ⟨s.toArray⟩] 9)) p (T ++ [s]) q2 c3 w4 → PushR encI 3 (w4.alloc (.cells #[.int .i64 (A2.length : Int)] 3)) q (endsB T ++ [(A2.length : Int)]) q3 c4 w5 → GaR w1 w5 (T ++ [s]) (n + 1) q2 c3 q3 c4) := Lib.hid (by
        intro w4 q2 c3 w5 q3 c4 hP hQ
        have hQ2 : PushR encI 3 (w4.alloc (.cells #[.int .i64 (A2.length : Int)] 3)) q (endsB (T ++ [s])) q3 c4 w5 := by rw [endsB_snoc, ← HAF.out]; exact hQ
        exact HG.out.push HBA.out hP ((Below.refl _ w4).alloc (Nat.le_refl _) (.cells #[.int .i64 (A2.length : Int)] 3)) hQ2)
      clear hb4
      go_wp2_with (first
        | (refine wpList_pushR encS rfl (.tmp 49) (.tmp 51) 27 9 (.string ⟨#[]⟩) 16 rfl Tryd.underlying27 info_str rfl (by decide) p c n T HTL.out rfl HRA.out (some ⟨w3.heap.size, 0, none⟩) 1 1 [s] rfl rfl HRS.out HNB.out ?_; intro p5 c5 w4 hP4; have HP4 := Lib.hid hP4; clear hP4; go_frame)
        | (refine wpList_pushR encI rfl (.tmp 53) (.tmp 56) 31 3 (.int .i64 0) 8 rfl Tryd.underlying31 info_i64J rfl (by decide) q c2 n (endsB T) (HEN.out _ _ _ HP4.out).2.2 rfl (HEN.out _ _ _ HP4.out).1 (some ⟨w4.heap.size, 0, none⟩) 1 1 [(A2.length : Int)] rfl rfl (HEN.out _ _ _ HP4.out).2.1 HNB.out ?_; intro q5 c6 w5 hP5; have HP5 := Lib.hid hP5; clear hP5; go_frame))
      have HN := Lib.hid (HPG.out _ _ _ _ _ _ HP4.out HP5.out)
      clear HEN HPG HP4 HP5 HRA HRS HBA HG
      go_roundw
      case rel => exact ⟨i + 1, n + 1, p5, c5, q5, c6, A2, by omega, by omega, rfl, rfl, rfl, by go_num, Lib.hid ⟨by rw [HTN.out]; exact HAF.out, by rw [HTN.out]; exact HN.out⟩⟩
      case measure => simp [intOf]; omega
    · have HM : Hid (((L.take i).map fun s => s.take 40).length ≤ 6 ∧ (∀ z ∈ ((L.take i).map fun s => s.take 40), z.length ≤ 40) ∧ A = frmsB ((L.take i).map fun s => s.take 40) ∧ GaR w1 wr ((L.take i).map fun s => s.take 40) n p c q c2) := Lib.hid ⟨by rw [List.length_map, List.length_take]; omega, (by
        intro z hz
        obtain ⟨y, _, rfl⟩ := List.mem_map.1 hz
        rw [List.length_take]; omega), HS.out.1, HS.out.2⟩
      by_cases hl1 : i < L.length
      · obtain rfl : i = 6 := by omega
        have hl1' : (6 : Int) < L.length := by omega
        clear hlt HS
        go_wp2_with fail
        go_meet
        exact ⟨_, n, p, c, q, c2, A, rfl, rfl, rfl, HM⟩
      · have hl1' : ¬ (i : Int) < L.length := by omega
        clear hlt HS
        go_wp2_with fail
        go_meet
        exact ⟨_, n, p, c, q, c2, A, rfl, rfl, rfl, HM⟩
end Go.Proofs.YtippakeemfldfaaDoor
