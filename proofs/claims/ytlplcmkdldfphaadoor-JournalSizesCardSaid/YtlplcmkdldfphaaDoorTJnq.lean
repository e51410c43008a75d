/- JournalSizes: what is told of it holds for every room and all texts. -/
import Derived.Test.YtlplcmkdldfphaaDoorZ10
namespace Go.Proofs.YtlplcmkdldfphaaDoor
open Go.RowKit

theorem jcut_any (s : List UInt8) (n : Nat) (w : World) (_hl : s.length ≤ maxLen) (_hn : n ≤ 1000000) :
    Calls Tryd.prog 22 #[.string ⟨s.toArray⟩, .int .i64 n] w fun r w' => r = .returned (.string ⟨(s.take n).toArray⟩) ∧ w' = w := by
  have h0 : (0 : Int) ≤ n := by omega
  by_cases h : n < s.length
  · have hx : (⟨s.toArray⟩ : ByteArray).extract 0 n = ⟨(s.take n).toArray⟩ := by apply ByteArray.ext; simp
    go_enter Tryd.func22, Tryd.ntmps22
    go_wp2_with fail
    go_ret
    exact ⟨rfl, rfl⟩
  · have e : s.take n = s := List.take_of_length_le (by omega)
    rw [e]
    clear e
    go_enter Tryd.func22, Tryd.ntmps22
    go_wp2_with fail
    go_ret
    exact ⟨rfl, rfl⟩
/-- What holds behind i appends. -/
structure SzR (W wr : World) (d j : Nat) (r : Int) (i m : Nat) : Prop where
  ex : ∃ dd l b, JD W wr d j (JS r dd l b) ∧ (b = false → l = []) ∧ m = (frmsB l).length ∧ (m : Int) ≤ r ∧ Gd (JS r dd l b) (2 * i) ∧ Below W.heap.size W wr
set_option maxRecDepth 20000 in
set_option maxHeartbeats 2000000 in
theorem journalSizes_any (a0 : Int) (o : Option Addr) (cap : Nat) (L : List (List UInt8)) (W : World) (_h1 : -9223372036854775808 ≤ a0) (_h2 : a0 ≤ 9223372036854775807) (hR : Rd encS W o L) (hz : ∀ s ∈ L, (s.length : Int) ≤ 9223372036854775807) (hn : L.length ≤ 9223372036854775807) (hT : TabAt W) :
    Calls Tryd.prog 7 #[.int .i64 a0, .slice o L.length cap] W fun e w' => e = .returned (.bool true) ∧ Below W.heap.size W w' := by
  obtain ⟨r, hr⟩ : ∃ r, r = max 0 (min a0 600) := ⟨_, rfl⟩
  have hr0 : 0 ≤ r := by omega
  have hr1 : r ≤ 600 := by omega
  have HAW := Lib.hid (awake10_any W hT)
  have HNW := Lib.hid (fun w => Dk.new r r r w (by omega) (by omega))
  have HT := Lib.hid hT
  have HRD := Lib.hid hR
  have HZ := Lib.hid hz
  have hL : (L.length : Int) ≤ 9223372036854775807 := by omega
  have Hr := Lib.hid hr
  clear hT hR hz _h1 _h2 hr
  go_enter Tryd.func7, Tryd.ntmps7
  go_wp2_with fail
  refine HAW.out.mono ?_
  rintro e w1 ⟨rfl, hb1⟩
  have HB1 := Lib.hid hb1
  clear hb1 HAW
  go_wp2_with fail
  rw [← Hr.out]
  clear Hr
  refine (HNW.out w1).mono ?_
  rintro e w2 ⟨p, rfl, hD⟩
  have hT1 := TabJ.old HT.out HB1.out
  have g0 : Gd (JS r 0 [] false) 0 := Gd.new r hr0 (by omega)
  have HO := Lib.hid (Dk.jopen (S := JS r 0 [] false) hD g0 (by decide) hT1 [] _ (JS.opn (fun _ => rfl) (fun x hx => by cases hx)))
  have HT1 := Lib.hid hT1
  have HG0 := Lib.hid g0
  clear hD HNW hT1 g0
  go_wp2_with fail
  refine HO.out.mono ?_
  rintro e w3 ⟨j, q, c, rfl, hJ, _, _, _⟩
  have H0 : Hid (SzR w1 w3 p j r 0 0) := Lib.hid ⟨0, [], false, hJ, fun _ => rfl, rfl, hr0, HG0.out, hJ.b⟩
  clear hJ HO HG0
  simp only [List.length_nil]
  go_wp2_with fail
  go_loopw [9, 10] (fun s9 s10 wr => ∃ i m : Nat, i ≤ L.length ∧ i ≤ 20 ∧ s10 = .int .i64 (i : Int) ∧ s9 = .int .i64 (m : Int) ∧ Hid (SzR w1 wr p j r i m)) (fun _ s10 _ => 21 - (intOf s10).toNat)
  case atStart => exact ⟨0, 0, by omega, by omega, rfl, rfl, H0⟩
  case round =>
    clear H0
    obtain ⟨i, m, hi, hi20, rfl, rfl, HS⟩ := hrel
    have i0 : (0 : Int) ≤ i := by omega
    have i20 : (i : Int) ≤ 20 := by omega
    by_cases hlt : i < L.length ∧ i < 20
    · obtain ⟨hl1, hl2⟩ := hlt
      have hl1' : (i : Int) < L.length := by omega
      have hl2' : (i : Int) < 20 := by omega
      obtain ⟨bs, off, rfl, hbs, hc⟩ := HRD.out i hl1
      have hb13 : Below W.heap.size W wr := by
        obtain ⟨_, _, _, _, _, _, _, _, hb⟩ := HS.out.ex
        exact HB1.out.trans (hb.mono HB1.out.size)
      have cc : wr.cell? ⟨bs, off + i, none⟩ = some (.string ⟨(L[i]).toArray⟩) := (hb13.cell hbs).trans (by
        have := hc 0 (.string ⟨(L[i]).toArray⟩) rfl
        simpa [encS] using this)
      obtain ⟨x, hx⟩ : ∃ x, x = L[i] := ⟨_, rfl⟩
      rw [← hx] at cc
      have hxl : (x.length : Int) ≤ 9223372036854775807 := hx ▸ HZ.out _ (List.getElem_mem _)
      have HCU := Lib.hid (fun w => jcut_any x 60 w (by unfold maxLen; omega) (by decide))
      obtain ⟨s, hs⟩ : ∃ s, s = x.take 60 := ⟨_, rfl⟩
      have hsl : s.length ≤ 60 := by rw [hs, List.length_take]; omega
      have hsl' : (s.length : Int) ≤ 60 := by omega
      rw [← hs] at HCU
      have HFR := Lib.hid (fun w => frame10_any s w (by omega))
      have hfl : (frmB s).length = 8 + s.length := frmB_len s
      obtain ⟨fb, hfb⟩ : ∃ fb, fb = frmB s := ⟨_, rfl⟩
      rw [← hfb] at HFR hfl
      have hfl' : (fb.length : Int) = 8 + (s.length : Int) := by omega
      have HCN : Hid (∀ w, Calls Tryd.prog 20 #[.int .i64 (-(i : Int))] w fun e w' => e = .returned (.int .i64 8) ∧ w = w') := Lib.hid (fun w => (jcost_any (-(i : Int)) w (by omega)).mono (by rintro e w' ⟨rfl, rfl⟩; exact ⟨by rw [show 8 + max (-(i : Int)) 0 = 8 by omega], rfl⟩))
      have HCS : Hid (∀ w, Calls Tryd.prog 20 #[.int .i64 (s.length : Int)] w fun e w' => e = .returned (.int .i64 (8 + (s.length : Int))) ∧ w = w') := Lib.hid (fun w => jcost_nat s.length w (by omega))
      obtain ⟨dd, l, b, hJ, hb, hm, hmr, hG, _⟩ := HS.out.ex
      have hmr' : (m : Int) ≤ 600 := by omega
      have ok := hG.ok (by omega)
      by_cases hfit : (m : Int) + (8 + (s.length : Int)) ≤ r
      · have e := JS.apd_fits (rm := r) (dd := dd) hb s (by omega) (by omega)
        have hG2 := hG.apd s
        rw [e] at hG2
        have HA := Lib.hid (hJ.append hG (by omega) s (by omega) HT1.out)
        rw [e] at HA
        have hm2 : ((m + (8 + s.length) : Nat) : Int) = (m : Int) + (8 + (s.length : Int)) := by omega
        have hm3 : m + (8 + s.length) = (frmsB (l ++ [s])).length := by rw [frmsB_snoc, List.length_append, frmB_len, ← hm]
        have HSZ : Hid (∀ w', JD w1 w' p j (JS r (dd + 2) (l ++ [s]) true) → Calls Tryd.prog 21 #[.pointer (some ⟨j, 0, none⟩)] w' fun e w'' => e = .returned (.int .i64 ((m : Int) + (8 + (s.length : Int)))) ∧ JD w1 w'' p j (JS r (dd + 2) (l ++ [s]) true)) := Lib.hid (fun w' h => by
          have := h.size rfl
          rwa [JS.rd (fun h => by cases h), ← hm3, hm2] at this)
        have HUS : Hid (∀ w', JD w1 w' p j (JS r (dd + 2) (l ++ [s]) true) → Calls Tryd.prog 13 #[.pointer (some ⟨p, 0, none⟩)] w' fun e w'' => e = .returned (.int .i64 ((m : Int) + (8 + (s.length : Int)))) ∧ JD w1 w'' p j (JS r (dd + 2) (l ++ [s]) true)) := Lib.hid (fun w' h => by
          have := h.used (hG2.ok (by omega))
          rwa [JS.used (fun h => by cases h), ← hm3, hm2] at this)
        have HN : Hid (∀ w', JD w1 w' p j (JS r (dd + 2) (l ++ [s]) true) → SzR w1 w' p j r (i + 1) (m + (8 + s.length))) := Lib.hid (fun w' h => ⟨dd + 2, l ++ [s], true, h, (fun h => by cases h), hm3, by omega, by have := hG2; rwa [show 2 * i + 2 = 2 * (i + 1) by omega] at this, h.b⟩)
        clear hJ hb hm hG ok e hG2 hm3 hc hx hs hfb hbs hb13 HS
        go_wp2_with fail
        refine (HCU.out wr).mono ?_
        rintro e w4 ⟨rfl, hww⟩
        subst hww
        go_wp2_with fail
        refine HA.out.mono ?_
        rintro e w5 ⟨rfl, hJ⟩
        have HJ := Lib.hid hJ
        clear hJ HA
        go_wp2_with fail
        refine (HFR.out w5).mono ?_
        rintro e w6 ⟨rfl, hb6⟩
        have HJ := Lib.hid (HJ.out.old hb6)
        clear hb6
        have hle : (m : Int) + (fb.length : Int) ≤ r := by omega
        go_wp2_with fail
        refine (HCS.out w6).mono ?_
        rintro e w7 ⟨rfl, hww⟩
        subst hww
        go_wp2_with fail
        refine (HSZ.out _ HJ.out).mono ?_
        rintro e w8 ⟨rfl, hJ⟩
        have HJ := Lib.hid hJ
        clear hJ HSZ
        go_wp2_with fail
        refine (HUS.out _ HJ.out).mono ?_
        rintro e w9 ⟨rfl, hJ⟩
        have HJ := Lib.hid hJ
        clear hJ HUS
        go_wp2_with fail
        refine (HCN.out w9).mono ?_
        rintro e w10 ⟨rfl, hww⟩
        have HR10 := Lib.hid (HN.out _ (hww ▸ HJ.out))
        clear hww
        go_wp2_with fail
        go_roundw
        case rel => exact ⟨i + 1, m + (8 + s.length), by omega, by omega, by go_num, by go_num, HR10⟩
        case measure => simp [intOf]; omega
      · have e := JS.apd_full (rm := r) (dd := dd) hb s (by omega) (by omega)
        have HA := Lib.hid (hJ.append hG (by omega) s (by omega) HT1.out)
        rw [e] at HA
        have HSZ : Hid (∀ w', JD w1 w' p j (JS r dd l b) → Calls Tryd.prog 21 #[.pointer (some ⟨j, 0, none⟩)] w' fun e w'' => e = .returned (.int .i64 (m : Int)) ∧ JD w1 w'' p j (JS r dd l b)) := Lib.hid (fun w' h => by
          have := h.size rfl
          rwa [JS.rd hb, ← hm] at this)
        have HUS : Hid (∀ w', JD w1 w' p j (JS r dd l b) → Calls Tryd.prog 13 #[.pointer (some ⟨p, 0, none⟩)] w' fun e w'' => e = .returned (.int .i64 (m : Int)) ∧ JD w1 w'' p j (JS r dd l b)) := Lib.hid (fun w' h => by
          have := h.used ok
          rwa [JS.used hb, ← hm] at this)
        have HN : Hid (∀ w', JD w1 w' p j (JS r dd l b) → SzR w1 w' p j r (i + 1) m) := Lib.hid (fun w' h => ⟨dd, l, b, h, hb, hm, hmr, hG.more (by omega), h.b⟩)
        clear hJ hb hm hG ok e hc hx hs hfb hbs hb13 HS
        go_wp2_with fail
        refine (HCU.out wr).mono ?_
        rintro e w4 ⟨rfl, hww⟩
        subst hww
        go_wp2_with fail
        refine HA.out.mono ?_
        rintro e w5 ⟨rfl, hJ⟩
        have HJ := Lib.hid hJ
        clear hJ HA
        go_wp2_with fail
        refine (HFR.out w5).mono ?_
        rintro e w6 ⟨rfl, hb6⟩
        have HJ := Lib.hid (HJ.out.old hb6)
        clear hb6
        have hle : ¬ ((m : Int) + (fb.length : Int) ≤ r) := by omega
        go_wp2_with fail
        refine (HSZ.out _ HJ.out).mono ?_
        rintro e w8 ⟨rfl, hJ⟩
        have HJ := Lib.hid hJ
        clear hJ HSZ
        go_wp2_with fail
        refine (HUS.out _ HJ.out).mono ?_
        rintro e w9 ⟨rfl, hJ⟩
        have HJ := Lib.hid hJ
        clear hJ HUS
        go_wp2_with fail
        refine (HCN.out w9).mono ?_
        rintro e w10 ⟨rfl, hww⟩
        have HR10 := Lib.hid (HN.out _ (hww ▸ HJ.out))
        clear hww
        go_wp2_with fail
        go_roundw
        case rel => exact ⟨i + 1, m, by omega, by omega, by go_num, rfl, HR10⟩
        case measure => simp [intOf]; omega
    · by_cases hl1 : i < L.length
      · obtain rfl : i = 20 := by omega
        have hl1' : (20 : Int) < L.length := by omega
        have HF : Hid (Below W.heap.size W wr) := Lib.hid (by
          obtain ⟨_, _, _, _, _, _, _, _, hb⟩ := HS.out.ex
          exact HB1.out.trans (hb.mono HB1.out.size))
        clear HS hlt
        go_wp2_with fail
        go_ret
        exact ⟨rfl, HF.out⟩
      · obtain rfl : i = L.length := by omega
        have HF : Hid (Below W.heap.size W wr) := Lib.hid (by
          obtain ⟨_, _, _, _, _, _, _, _, hb⟩ := HS.out.ex
          exact HB1.out.trans (hb.mono HB1.out.size))
        clear HS hlt
        go_wp2_with fail
        go_ret
        exact ⟨rfl, HF.out⟩
end Go.Proofs.YtlplcmkdldfphaaDoor
