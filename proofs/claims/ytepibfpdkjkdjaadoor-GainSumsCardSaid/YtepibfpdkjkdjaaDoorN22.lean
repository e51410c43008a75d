/- The document's numbers: Cmp, Text, Of. -/
import Derived.Test.YtepibfpdkjkdjaaDoorN21
namespace Go.Proofs.YtepibfpdkjkdjaaDoor
open Go.RowKit

theorem div_split (x i : Nat) : x / 10 ^ i = 10 * (x / 10 ^ (i + 1)) + x / 10 ^ i % 10 := by
  rw [Nat.pow_succ, ← Nat.div_div_eq_div_mul]
  have := Nat.div_add_mod (x / 10 ^ i) 10
  omega
theorem lt_of_div {x y P : Nat} (h : x / P < y / P) : x < y := by
  apply Nat.lt_of_not_le
  intro hle
  have := Nat.div_le_div_right (c := P) hle
  omega

set_option maxHeartbeats 2000000 in
set_option maxRecDepth 20000 in
theorem rcmp_any (p q : Option Addr) (cp cq x y : Nat) (w : World) (hx : DecIn w p cp x) (hy : DecIn w q cq y) (lx : (dg 10 x).length ≤ 100000) (ly : (dg 10 y).length ≤ 100000) :
    Calls Tryd.prog 18 #[.slice p (dg 10 x).length cp, .slice q (dg 10 y).length cq] w fun r w' => r = .returned (.int .i64 (cmpI x y)) ∧ w' = w := by
  obtain ⟨la, hla⟩ : ∃ n, (dg 10 x).length = n := ⟨_, rfl⟩
  obtain ⟨lb', hlb⟩ : ∃ n, (dg 10 y).length = n := ⟨_, rfl⟩
  rw [hla] at lx ⊢
  rw [hlb] at ly ⊢
  have hxl : x < 10 ^ la := by rw [← hla]; exact dlt x
  have hyl : y < 10 ^ lb' := by rw [← hlb]; exact dlt y
  obtain ⟨M, hM⟩ : ∃ M, M = max la lb' := ⟨_, rfl⟩
  have hM2 : max (la : Int) (lb' : Int) = (M : Int) := by omega
  have hMl : M ≤ 100000 := by omega
  have hx0 : x / 10 ^ M = 0 := Nat.div_eq_of_lt (Nat.lt_of_lt_of_le hxl (Nat.pow_le_pow_right (by decide) (by omega)))
  have hy0 : y / 10 ^ M = 0 := Nat.div_eq_of_lt (Nat.lt_of_lt_of_le hyl (Nat.pow_le_pow_right (by decide) (by omega)))
  have heq0 : Hid (x / 10 ^ M = y / 10 ^ M) := Lib.hid (by rw [hx0, hy0])
  have hw1 : IntKind.i64.wrap ((M : Int) - 1) = (M : Int) - 1 := by rw [IntKind.wrap_i64]; omega
  have Hla := Lib.hid hla
  have Hlb := Lib.hid hlb
  clear hla hlb hxl hyl hx0 hy0 hM lx ly
  go_enter Tryd.func18, Tryd.ntmps18
  go_wp2_with fail
  go_loopw [5] (fun s5 wr => ∃ (j : Nat) (z : Int), s5 = .int .i64 z ∧ z = (j : Int) - 1 ∧ j ≤ M ∧ wr = w ∧ Hid (x / 10 ^ j = y / 10 ^ j)) (fun i _ => (intOf i + 1).toNat)
  case atStart => exact ⟨M, _, rfl, rfl, by omega, rfl, heq0⟩
  case round =>
    clear heq0
    obtain ⟨j, z, rfl, hz, hj, rfl, he⟩ := hrel
    by_cases hj0 : 0 < j
    · obtain ⟨i, rfl⟩ : ∃ i, j = i + 1 := ⟨j - 1, by omega⟩
      obtain rfl : z = (i : Int) := by omega
      obtain ⟨dx, hdx⟩ : ∃ d, d = x / 10 ^ i % 10 := ⟨_, rfl⟩
      obtain ⟨dy, hdy⟩ : ∃ d, d = y / 10 ^ i % 10 := ⟨_, rfl⟩
      have sx := div_split x i
      have sy := div_split y i
      rw [← hdx, he.out] at sx
      rw [← hdy] at sy
      have hax := rat_any p cp la i (dg 10 x) wr hx Hla.out
      rw [dg_getD 10 (by decide) x i, ← hdx] at hax
      have hay := rat_any q cq lb' i (dg 10 y) wr hy Hlb.out
      rw [dg_getD 10 (by decide) y i, ← hdy] at hay
      have Hax := Lib.hid hax
      have Hay := Lib.hid hay
      have a5 : IntKind.i64.wrap ((i : Int) - 1) = (i : Int) - 1 := by rw [IntKind.wrap_i64]; omega
      have b0 : (0 : Int) ≤ i := by omega
      have hcase : (dx < dy ∧ cmpI x y = -1) ∨ (dy < dx ∧ cmpI x y = 1) ∨ (dx = dy ∧ x / 10 ^ i = y / 10 ^ i) := by
        rcases Nat.lt_trichotomy dx dy with h | h | h
        · refine .inl ⟨h, ?_⟩
          have : x < y := lt_of_div (P := 10 ^ i) (by omega)
          unfold cmpI; rw [if_pos this]
        · exact .inr (.inr ⟨h, by omega⟩)
        · refine .inr (.inl ⟨h, ?_⟩)
          have : y < x := lt_of_div (P := 10 ^ i) (by omega)
          unfold cmpI; rw [if_neg (by omega), if_pos this]
      clear hdx hdy sx sy hax hay he hz hj0
      rcases hcase with ⟨h, hr⟩ | ⟨h, hr⟩ | ⟨h, hr⟩
      · have c1 : (dx : Int) < dy := by omega
        have Hr := Lib.hid hr
        clear h hr
        go_wp2_with fail
        refine Hax.out.mono ?_
        rintro r w2 ⟨rfl, rfl⟩
        go_wp2_with fail
        refine Hay.out.mono ?_
        rintro r w2 ⟨rfl, rfl⟩
        go_wp2_with fail
        go_ret
        exact ⟨by rw [Hr.out]; rfl, rfl⟩
      · have c1 : ¬ (dx : Int) < dy := by omega
        have c2 : (dy : Int) < dx := by omega
        have Hr := Lib.hid hr
        clear h hr
        go_wp2_with fail
        refine Hax.out.mono ?_
        rintro r w2 ⟨rfl, rfl⟩
        go_wp2_with fail
        refine Hay.out.mono ?_
        rintro r w2 ⟨rfl, rfl⟩
        go_wp2_with fail
        refine Hax.out.mono ?_
        rintro r w2 ⟨rfl, rfl⟩
        go_wp2_with fail
        refine Hay.out.mono ?_
        rintro r w2 ⟨rfl, rfl⟩
        go_wp2_with fail
        go_ret
        exact ⟨by rw [Hr.out]; rfl, rfl⟩
      · have c1 : ¬ (dx : Int) < dy := by omega
        have c2 : ¬ (dy : Int) < dx := by omega
        have Hr := Lib.hid hr
        clear h hr
        go_wp2_with fail
        refine Hax.out.mono ?_
        rintro r w2 ⟨rfl, rfl⟩
        go_wp2_with fail
        refine Hay.out.mono ?_
        rintro r w2 ⟨rfl, rfl⟩
        go_wp2_with fail
        refine Hax.out.mono ?_
        rintro r w2 ⟨rfl, rfl⟩
        go_wp2_with fail
        refine Hay.out.mono ?_
        rintro r w2 ⟨rfl, rfl⟩
        go_wp2_with fail
        go_roundw
        case rel => exact ⟨i, _, rfl, by omega, by omega, trivial, Hr⟩
        case measure => simp [intOf]
    · obtain rfl : j = 0 := by omega
      obtain rfl : z = -1 := by omega
      have hxy := he.out
      rw [Nat.pow_zero, Nat.div_one, Nat.div_one] at hxy
      have hr : Hid (cmpI x y = 0) := Lib.hid (by rw [hxy, cmpI_self])
      clear hz hj0 hj he hxy
      go_wp2_with fail
      go_ret
      exact ⟨by rw [hr.out]; rfl, rfl⟩

theorem dec_pos {x : Nat} (h : x ≠ 0) : dec x = chars ((dg 10 x).reverse.map (48 + ·)) := by unfold dec; rw [if_neg h]

set_option maxHeartbeats 2000000 in
set_option maxRecDepth 20000 in
theorem rtext_any (p : Option Addr) (cp x : Nat) (w : World) (hx : DecIn w p cp x) (lx : (dg 10 x).length ≤ 100000) :
    Calls Tryd.prog 22 #[.slice p (dg 10 x).length cp] w fun r w' => r = .returned (.string ⟨(dec x).toArray⟩) ∧ Below w.heap.size w w' := by
  obtain ⟨n, hn⟩ : ∃ n, (dg 10 x).length = n := ⟨_, rfl⟩
  rw [hn] at lx ⊢
  have Hn := Lib.hid hn
  by_cases hx0 : x = 0
  · have hn0 : n = 0 := by rw [← hn, hx0, dg_zero]; rfl
    have hd : Hid (dec x = [48]) := Lib.hid (by rw [hx0]; rfl)
    subst hn0
    clear hn hx0
    go_enter Tryd.func22, Tryd.ntmps22
    go_wp2_with fail
    go_ret
    exact ⟨by rw [hd.out]; rfl, Below.refl _ _⟩
  · have hne : dg 10 x ≠ [] := fun e => hx0 (dg_nil 10 (by decide) e)
    obtain ⟨g, rfl⟩ := hx.isPtr hne
    have hn0 : 0 < n := by rw [← hn]; exact List.length_pos_iff.2 hne
    have hnb : ((n : Int) == 0) = false := by rw [beq_eq_false_iff_ne]; omega
    have hd := Lib.hid (dec_pos hx0)
    clear hn hne
    go_enter Tryd.func22, Tryd.ntmps22
    go_wp2_with fail
    go_loopw [3, 11] (fun s3 s11 wr => ∃ (i : Nat) (S : ByteArray), s3 = .string S ∧ s11 = .int .i64 (i : Int) ∧ i ≤ n ∧ Hid (S = ⟨(chars (((dg 10 x).take i).reverse.map (48 + ·))).toArray⟩) ∧ Below w.heap.size w wr) (fun _ i _ => n - (intOf i).toNat)
    case atStart => exact ⟨0, ⟨#[]⟩, rfl, rfl, by omega, Lib.hid rfl, Below.refl _ _⟩
    case round =>
      obtain ⟨i, S, rfl, rfl, hi, hS, hB⟩ := hrel
      by_cases hin : i < n
      · have hil : i < (dg 10 x).length := by rw [Hn.out]; exact hin
        have hc := (hx.old hB).cell i hil
        obtain ⟨d, hdd⟩ : ∃ d, d = (dg 10 x)[i] := ⟨_, rfl⟩
        rw [← hdd] at hc
        have ld : d < 10 := by rw [hdd]; exact dg_lt 10 (by decide) x _ (List.getElem_mem hil)
        obtain ⟨v, hv⟩ : ∃ v, v = 48 + d := ⟨_, rfl⟩
        have e1 : (48 : Int) + d = v := by omega
        have e2 : IntKind.i64.wrap (v : Int) = v := by rw [IntKind.wrap_i64]; omega
        have e3 : (v : Int) % 256 = v := by omega
        have i0 : (0 : Int) ≤ i := by omega
        have i1 : (i : Int) < n := by omega
        have hcv2 : (convert 71 9 (.slice (some ⟨wr.heap.size, 0, none⟩) 1 1)).run Tryd.prog (wr.alloc (.cells #[.int .u8 (v : Int)] 5)) = .ok (.string ⟨#[UInt8.ofNat v]⟩) (wr.alloc (.cells #[.int .u8 (v : Int)] 5)) := conv_str (some ⟨wr.heap.size, 0, none⟩) 1 1 [v] rfl _ (Sl.made (k := .u8) (T := 5) wr [v] (by simp [maxLen]))
        have hB2 := hB.alloc hB.size (.cells #[.int .u8 (v : Int)] 5)
        have hS2 : Hid (ByteArray.mk #[UInt8.ofNat v] ++ S = ⟨(chars (((dg 10 x).take (i + 1)).reverse.map (48 + ·))).toArray⟩) := Lib.hid (by
          rw [hS.out, ← List.take_append_getElem hil, ← hdd, hv]
          rw [List.reverse_append, List.map_append]
          exact ByteArray.mk_append_mk [UInt8.ofNat (48 + d)] _)
        have hSz : S.size = i := by
          rw [hS.out]
          show (chars _).toArray.size = i
          rw [List.size_toArray, chars, List.length_map, List.length_map, List.length_reverse, List.length_take]
          omega
        clear hdd hv hil hS hB
        go_wp2_with fail
        go_roundw
        case rel => exact ⟨i + 1, _, rfl, by go_num, by omega, hS2, hB2⟩
        case measure => simp [intOf]; omega
      · obtain rfl : i = n := by omega
        have hS2 : Hid (S = ⟨(dec x).toArray⟩) := Lib.hid (by rw [hS.out, hd.out, List.take_of_length_le (by rw [Hn.out]; exact Nat.le_refl _)])
        clear hS hin hi
        go_wp2_with fail
        go_ret
        exact ⟨by rw [← hS2.out]; rfl, hB⟩
end Go.Proofs.YtepibfpdkjkdjaaDoor
