/- The document's Parse. -/
import Derived.Test.YtepibfpdkjkdjaaDoorN13
namespace Go.Proofs.YtepibfpdkjkdjaaDoor
open Go.RowKit

set_option maxHeartbeats 2000000 in
theorem rparse_any (l : List UInt8) (w : World) (hl : l.length ≤ 1000000000) :
    Calls Tryd.prog 40 #[.string ⟨l.toArray⟩] w (RParsed w l) := by
  obtain ⟨s, hs⟩ : ∃ s, s = ByteArray.mk l.toArray := ⟨_, rfl⟩
  rw [← hs]
  obtain ⟨n, hn⟩ : ∃ n, n = l.length := ⟨_, rfl⟩
  have n1 : s.size = n := by rw [hs, hn]; rfl
  have hL : s.toList = l := by rw [hs, ByteArray.toList_mk]
  have hget : Hid (∀ i (h : i < s.size) (h2 : i < l.length), s[i] = l[i]) := Lib.hid (by subst hs; intro i h h2; rfl)
  by_cases hne : l = []
  · have e0 : (s.toList == []) = true := by rw [hL, hne]; rfl
    have e9 : Hid (isNum l = false) := Lib.hid (by rw [hne]; rfl)
    clear hL hs hget
    go_enter Tryd.func40, Tryd.ntmps40
    go_wp2_with fail
    refine bodyPost_ret (v := .tuple #[.slice none 0 0, .bool false]) (by simp [results, Tryd.results40, go_sem]) rfl ?_
    exact rrefused_out e9.out (Below.refl _ _)
  · have e0 : (s.toList == []) = false := by rw [hL, beq_eq_false_iff_ne]; exact hne
    have n0 : 0 < n := by rw [hn]; exact List.length_pos_iff.2 hne
    have Hn := Lib.hid hn
    by_cases h4 : 400 < n
    · have e9 : Hid (isNum l = false) := Lib.hid (isNum_long (by omega))
      clear hL hs hget hn hl
      go_enter Tryd.func40, Tryd.ntmps40
      go_wp2_with fail
      refine bodyPost_ret (v := .tuple #[.slice none 0 0, .bool false]) (by simp [results, Tryd.results40, go_sem]) rfl ?_
      exact rrefused_out e9.out (Below.refl _ _)
    · have h0 : 0 < s.size := by omega
      obtain ⟨v0, hv0⟩ : ∃ v, v = l[0]'(by omega) := ⟨_, rfl⟩
      have g0 : s[0]'h0 = v0 := by rw [hv0]; exact hget.out 0 h0 (by omega)
      have hhead : l.head? = some v0 := by rw [hv0]; cases l <;> simp_all
      by_cases hbad : v0 = 48 ∧ 1 < n
      · obtain ⟨rfl, h1⟩ := hbad
        have e9 : Hid (isNum l = false) := Lib.hid (by
          unfold isNum
          have : l ≠ [48] := by intro e; rw [e] at hn; simp at hn; omega
          rw [hhead]; simp [this])
        have hv : ((48 : UInt8).toNat : Int) = 48 := rfl
        have h1' : (1 : Int) < n := by omega
        clear hL hs hget hn hl hhead hv0 h1
        go_enter Tryd.func40, Tryd.ntmps40
        go_wp2_with fail
        refine bodyPost_ret (v := .tuple #[.slice none 0 0, .bool false]) (by simp [results, Tryd.results40, go_sem]) rfl ?_
        exact rrefused_out e9.out (Below.refl _ _)
      · have e9 : Hid (isNum l = l.all isD) := Lib.hid (isNum_of hne (by omega) (by
          by_cases h48 : v0 = 48
          · right
            have h1 : n = 1 := by
              by_cases h : 1 < n
              · exact absurd ⟨h48, h⟩ hbad
              · omega
            rw [hn] at h1
            obtain ⟨a, rfl⟩ := List.length_eq_one_iff.1 h1
            rw [List.head?_cons, h48] at hhead
            rw [Option.some.inj hhead]
          · left; rw [hhead]; intro e; exact h48 (Option.some.inj e)))
        have hv : ((v0.toNat : Int) = 48 → ¬ (1 : Int) < n) := by
          intro h h2
          exact absurd ⟨UInt8.toNat_inj.1 (by show v0.toNat = 48; omega), by omega⟩ hbad
        have h4i : ¬ (400 : Int) < n := by omega
        have hn400 : n ≤ 400 := by omega
        have hwr : IntKind.i64.wrap ((n : Int) - 1) = (n : Int) - 1 := by rw [IntKind.wrap_i64]; omega
        clear hL hs hn hl hhead hv0 hbad hne h4
        go_enter Tryd.func40, Tryd.ntmps40
        go_upto_region 3 with fail
        all_goals
          clear hv g0 e0 h4i
          go_wp2_with fail
          have hK : RParR w l 0 (some ⟨w.heap.size, 0, none⟩) 0 [] (w.alloc (.cells #[] 3)) :=
            ⟨Sl.made (k := .i64) (T := 3) w [] (by simp [maxLen]), rfl, by simp, by simp [vl], fun i h h2 => by omega, (fun a e => by cases e; exact Nat.le_refl _), (Below.refl _ _).alloc (Nat.le_refl _) _⟩
          generalize (w.alloc (.cells #[] 3)) = W at hK ⊢
          go_loopw [4, 5] (fun s4 s5 wr => ∃ (k j : Nat) (q : Option Addr) (c : Nat) (D : List Nat) (z : Int), s4 = .slice q k c ∧ k + j = n ∧ s5 = .int .i64 z ∧ z = (j : Int) - 1 ∧ RParR w l k q c D wr) (fun _ i _ => (intOf i + 1).toNat)
          case atStart => exact ⟨0, n, _, 0, [], _, rfl, by omega, rfl, rfl, hK⟩
          case round =>
            clear hK
            obtain ⟨k, j, q, c, D, z, rfl, hkj, rfl, hz, hR⟩ := hrel
            by_cases hj : 0 < j
            · obtain ⟨i, rfl⟩ : ∃ i, j = i + 1 := ⟨j - 1, by omega⟩
              obtain rfl : z = (i : Int) := by omega
              have hp : i < s.size := by omega
              have hpl : i < l.length := by rw [← Hn.out]; omega
              have hgt := hget.out i hp hpl
              have hil : l.length - 1 - k = i := by rw [← Hn.out]; omega
              have hkl : k < l.length := by rw [← Hn.out]; omega
              obtain ⟨cv, hcv⟩ : ∃ v, v = l[i] := ⟨_, rfl⟩
              rw [← hcv] at hgt
              obtain ⟨v, hv⟩ : ∃ v, cv.toNat = v := ⟨_, rfl⟩
              have hv256 : v < 256 := by rw [← hv]; exact cv.toNat_lt
              have b0 : (0 : Int) ≤ i := by omega
              have b1 : (i : Int) < n := by omega
              have b2 : i < n := by omega
              have Hcv := Lib.hid hcv
              by_cases hd : 48 ≤ v ∧ v ≤ 57
              · obtain ⟨d48, d57⟩ := hd
                have hD : isD (l[l.length - 1 - k]'(by omega)) = true := by
                  simp only [hil]; rw [← hcv]; unfold isD; rw [hv]; simp [d48, d57]
                obtain ⟨d, hdd⟩ : ∃ d, d = v - 48 := ⟨_, rfl⟩
                have hd2 : Hid (d = (l[l.length - 1 - k]'(by omega)).toNat - 48) := Lib.hid (by simp only [hil]; rw [← hcv, hv]; exact hdd)
                have a1 : ¬ (v : Int) < 48 := by omega
                have a2 : ¬ (57 : Int) < v := by omega
                have a3 : (v : Int) - 48 = d := by omega
                have a4 : IntKind.i64.wrap (d : Int) = d := by rw [IntKind.wrap_i64]; omega
                have a5 : IntKind.i64.wrap ((i : Int) - 1) = (i : Int) - 1 := by rw [IntKind.wrap_i64]; omega
                have HD := Lib.hid hR.len
                have hRs := hR.s
                clear hcv hdd hz
                go_wp2_with (at_builtin; refine wpList_push rfl _ _ .i64 26 3 (.int .i64 0) 8 rfl Tryd.underlying26 info_int rfl (by decide) q c k 1 D [d] HD.out rfl (by decide) rfl hRs rfl (by omega) ?_; intro pq cq W5 hP)
                have hR5 := hR.next hkl hD d hd2.out pq cq hP
                clear hP hR hRs
                go_wp2_with fail
                go_roundw
                case rel => exact ⟨k + 1, i, pq, cq, D ++ [d], _, rfl, by omega, rfl, by omega, hR5⟩
                case measure => simp [intOf]
              · have e0 : Hid (isNum l = false) := Lib.hid (by
                  rw [e9.out]; exact all_false hpl (by rw [← hcv]; unfold isD; rw [hv]; by_cases h : 48 ≤ v <;> simp [h]; omega))
                have hor : (v : Int) < 48 ∨ ¬ (v : Int) < 48 ∧ (57 : Int) < v := by omega
                have hBS := hR.m
                clear hcv hz hil hR hd
                rcases hor with a1 | ⟨a1, a2⟩
                all_goals
                  go_wp2_with fail
                  refine bodyPost_ret (v := .tuple #[.slice none 0 0, .bool false]) (by simp [results, Tryd.results40, go_sem]) rfl ?_
                  exact rrefused_out e0.out hBS
            · obtain rfl : j = 0 := by omega
              obtain rfl : z = -1 := by omega
              obtain rfl : k = n := by omega
              clear hkj hj hz
              have hv := hR.val
              rw [← Hn.out, Nat.sub_self, List.take_zero, show num [] = 0 from rfl, Nat.mul_zero, Nat.add_zero] at hv
              have e0 : Hid (isNum l = true) := Lib.hid (by
                rw [e9.out, List.all_eq_true]
                intro x hx
                obtain ⟨i, hi, rfl⟩ := List.getElem_of_mem hx
                exact hR.dig i hi (by rw [← Hn.out]; omega))
              have Hv := Lib.hid hv
              have htr := rtrim_any q c k D wr hR.s hR.len hR.lt (by omega)
              clear hv
              rw [Hv.out] at htr
              go_wp2_with fail
              refine htr.mono ?_
              clear htr
              rintro r W2 ⟨rfl, hD2, rfl⟩
              have hBS := hR.m
              have hnew := hR.new
              clear hR
              go_wp2_with fail
              refine bodyPost_ret (v := .tuple #[.slice q (dg 10 (num l)).length c, .bool true]) (by simp [results, Tryd.results40, go_sem]) rfl ⟨q, c, num l, by rw [e0.out], Lib.hid (by rw [e0.out]; rfl), hD2, hBS, hnew⟩
end Go.Proofs.YtepibfpdkjkdjaaDoor
