/- The document's numbers: Div, Bits, Bytes. -/
import Derived.Test.YtepibfpdkjkdjaaDoorN24
import Derived.Test.YtepibfpdkjkdjaaDoorNum4
import Derived.Test.YtepibfpdkjkdjaaDoorN9
namespace Go.Proofs.YtepibfpdkjkdjaaDoor
open Go.RowKit

/-- 'make([]int, n)'. -/
theorem wpList_makeI {ops : Array Oper} {rest : List Oper} {o : Oper} {a : Act} {Q : Exit → Act → World → Prop} {w : World} (hgd : o.guard = none) (l c : Operand) (hop : o.op = Op.makeSlice 26 l c)
    (n : Nat) (L C : Int) (hl : a.eval l = .int .i64 L) (hc : a.eval c = .int .i64 C) (hL : L = (n : Int)) (hC : C = (n : Int)) (hn : n ≤ 1000000)
    (hK : ∀ w', Sl .i64 3 w' (some ⟨w.heap.size, 0, none⟩) n (List.replicate n 0) → Below w.heap.size w w' → w.heap.size < w'.heap.size → wpList Tryd.prog ops Q rest (a.put o.dst (.slice (some ⟨w.heap.size, 0, none⟩) n n)) w') :
    wpList Tryd.prog ops Q (o :: rest) a w := by
  obtain ⟨i, hi, hz, h1, h2⟩ := info_parts info_int
  refine wpList_make_full w hgd l c 26 hop 0 3 i (.int .i64 0) 1 Tryd.underlying26 hi hz h1 .i64 .i64 L C n hl hc hL hC (by rw [h2]; omega) (by unfold maxLen; omega) (Nat.zero_le _) ?_
  intro w' hown hgrow
  have e : (madeCells (Value.int .i64 0).cells (n * 1)).toList = nums .i64 (List.replicate n 0) := by
    rw [nums_zeros, Nat.mul_one]; exact toList_madeCells_one _ _
  rw [e] at hown
  refine hK w' ?_ ((Below.refl _ _).grown hgrow (Nat.le_refl _) (by intro k h; cases h)) ?_
  · unfold Sl; rw [List.length_replicate]; exact hown
  · rcases hown.2 with ⟨h, _⟩ | ⟨g, cap, cur, h, _, hh, _⟩
    · cases h
    · simp only [Value.slice.injEq, Option.some.injEq, Addr.mk.injEq] at h
      obtain ⟨⟨rfl, _⟩, _⟩ := h
      exact (Array.getElem?_eq_some_iff.1 hh).1

/-- While it is divided: k digits from behind are. -/
structure DivD (w : World) (g n x d k : Nat) (S : List Nat) (r : Nat) (wr : World) : Prop where
  s : Sl .i64 3 wr (some ⟨g, 0, none⟩) n S
  len : S.length = n
  lt : ∀ z ∈ S, z < 10
  val : vl 10 (S.drop (n - k)) = x / 10 ^ (n - k) / d
  r : r = x / 10 ^ (n - k) % d
  m : Below w.heap.size w wr
theorem DivD.next {w : World} {g n x d k : Nat} {S : List Nat} {r : Nat} {wr : World} (h : DivD w g n x d k S r wr) (hg : w.heap.size ≤ g) (i : Nat) (hi : i + k + 1 = n) (hd : 0 < d) (v t : Nat) (hv : v = x / 10 ^ i % 10) (ht : t = 10 * r + v) :
    DivD w g n x d (k + 1) (S.set i (t / d)) (t % d) (wr.setCell ⟨g, i, none⟩ (.int .i64 ((t / d : Nat) : Int))) := by
  have hl : i < S.length := by rw [h.len]; omega
  have hs := div_step 10 x i d
  have hr := h.r
  rw [show n - k = i + 1 by omega] at hr
  rw [← hr, ← hv, Nat.mul_comm r 10, ← ht] at hs
  have hrd : r < d := by rw [hr]; exact Nat.mod_lt _ hd
  have hv4 : v < 10 := by rw [hv]; exact Nat.mod_lt _ (by decide)
  have hq : t / d < 10 := by
    rw [Nat.div_lt_iff_lt_mul hd, ht]
    omega
  refine ⟨h.s.set _ _, by simpa using h.len, set_lt h.lt hq, ?_, ?_, h.m.setCell (p := ⟨g, i, none⟩) hg _⟩
  · have hval := h.val
    rw [show n - k = i + 1 by omega] at hval
    rw [show n - (k + 1) = i by omega, List.drop_eq_getElem_cons (by simpa using hl), List.getElem_set_self, List.drop_set_of_lt (by omega), vl, hval, hs.1]
    omega
  · rw [show n - (k + 1) = i by omega]; exact hs.2.symm

set_option maxHeartbeats 2000000 in
set_option maxRecDepth 20000 in
theorem rdiv_any (p : Option Addr) (cp x d : Nat) (w : World) (hx : DecIn w p cp x) (lx : (dg 10 x).length ≤ 100000) (hd : 0 < d) (hdd : d ≤ 4294967296) :
    Calls Tryd.prog 34 #[.slice p (dg 10 x).length cp, .int .i64 (d : Int)] w fun r w' => ∃ q c, r = .returned (.tuple #[.slice q (dg 10 (x / d)).length c, .int .i64 ((x % d : Nat) : Int)]) ∧ DecIn w' q c (x / d) ∧ Below w.heap.size w w' ∧ (∀ a, q = some a → w.heap.size ≤ a.block) := by
  obtain ⟨n, hn⟩ : ∃ n, (dg 10 x).length = n := ⟨_, rfl⟩
  obtain ⟨y, hy⟩ : ∃ y, y = x / d := ⟨_, rfl⟩
  obtain ⟨r0, hr0⟩ : ∃ y, y = x % d := ⟨_, rfl⟩
  rw [hn] at lx ⊢
  rw [← hy, ← hr0]
  have Hn := Lib.hid hn
  have Hy := Lib.hid hy
  have Hr := Lib.hid hr0
  clear hn hy hr0
  have hxn : Hid (x < 10 ^ n) := Lib.hid (by rw [← Hn.out]; exact dlt x)
  have hS0 := hx
  go_enter Tryd.func34, Tryd.ntmps34
  go_upto_block 0 with (first | (at_make; refine wpList_makeI rfl _ _ rfl n _ _ rfl rfl (by go_num) (by go_num) (by omega) ?_; intro W1 hS1 hb1 hl1) | fail)
  have hR0 : DivD w w.heap.size n x d 0 (List.replicate n 0) 0 W1 := ⟨hS1, by simp, by intro z hz; rw [List.eq_of_mem_replicate hz]; decide, by
    rw [Nat.sub_zero, Nat.div_eq_of_lt hxn.out, Nat.zero_div, List.drop_of_length_le (by simp)]; rfl, by rw [Nat.sub_zero, Nat.div_eq_of_lt hxn.out, Nat.zero_mod], hb1⟩
  clear hS0 hS1 hl1 hb1
  go_cut [7] (fun s7 wr => ∃ (S : List Nat), s7 = .int .i64 (r0 : Int) ∧ DivD w w.heap.size n x d n S r0 wr)
  case first =>
    go_wp2_with fail
    go_loopw [7, 8] (fun s7 s8 wr => ∃ (k r : Nat) (z : Int) (S : List Nat), k ≤ n ∧ s7 = .int .i64 (r : Int) ∧ s8 = .int .i64 z ∧ Hid (z = (n : Int) - 1 - k) ∧ DivD w w.heap.size n x d k S r wr) (fun _ i _ => (intOf i + 1).toNat)
    case atStart => exact ⟨0, 0, (n : Int) - 1, _, by omega, rfl, by first | rfl | simp, Lib.hid (by omega), hR0⟩
    case round =>
      clear hR0
      obtain ⟨k, r, z, S, hk, rfl, rfl, hz, hR⟩ := hrel
      by_cases hlt : k < n
      · obtain ⟨i, rfl⟩ : ∃ i : Nat, z = (i : Int) := ⟨n - 1 - k, by have := hz.out; omega⟩
        have hik : i + k + 1 = n := by have := hz.out; omega
        have hne : dg 10 x ≠ [] := by intro e; have := Hn.out; rw [e] at this; simp at this; omega
        obtain ⟨g, rfl⟩ := hx.isPtr hne
        have hXr : DecIn wr (some ⟨g, 0, none⟩) cp x := hx.old hR.m
        have hil : i < (dg 10 x).length := by rw [Hn.out]; omega
        obtain ⟨v, hv⟩ : ∃ v, v = x / 10 ^ i % 10 := ⟨_, rfl⟩
        have cx : wr.cell? ⟨g, i, none⟩ = some (.int .i64 (v : Int)) := by rw [hv, ← dg_at 10 (by decide) x i hil]; exact hXr.cell i hil
        obtain ⟨t, ht⟩ : ∃ t, t = 10 * r + v := ⟨_, rfl⟩
        have hN := hR.next (Nat.le_refl _) i hik hd v t hv ht
        have hrd : r < d := by rw [hR.r]; exact Nat.mod_lt _ hd
        have hv10 : v < 10 := by rw [hv]; exact Nat.mod_lt _ (by decide)
        have hSl : i < S.length := by rw [hR.len]; omega
        have cS := hR.s.cell i hSl
        have fS := hR.s.froz i
        generalize S[i] = old at cS
        obtain ⟨q, hq⟩ : ∃ q, q = t / d := ⟨_, rfl⟩
        obtain ⟨r2, hr2⟩ : ∃ q, q = t % d := ⟨_, rfl⟩
        rw [← hq, ← hr2] at hN
        have hqt : q ≤ t := by rw [hq]; exact Nat.div_le_self _ _
        have hrt : r2 < d := by rw [hr2]; exact Nat.mod_lt _ hd
        have e1 : 10 * (r : Int) + (v : Int) = t := by omega
        have e2 : (t : Int) / d = q := by rw [hq]; exact (Int.natCast_ediv _ _).symm
        have e3 : (t : Int) % d = r2 := by rw [hr2]; exact (Int.natCast_emod _ _).symm
        have e4 : (t : Int).tdiv d = q := by rw [Int.tdiv_eq_ediv_of_nonneg (by omega)]; exact e2
        have e5 : (t : Int).tmod d = r2 := by rw [Int.tmod_eq_emod_of_nonneg (by omega)]; exact e3
        have w1 : IntKind.i64.wrap (10 * (r : Int)) = 10 * (r : Int) := by rw [IntKind.wrap_i64]; omega
        have w2 : IntKind.i64.wrap (t : Int) = t := by rw [IntKind.wrap_i64]; omega
        have w3 : IntKind.i64.wrap (q : Int) = q := by rw [IntKind.wrap_i64]; omega
        have w4 : IntKind.i64.wrap (r2 : Int) = r2 := by rw [IntKind.wrap_i64]; omega
        have b1 : ((d : Int) != 0) = true := by rw [bne_iff_ne]; omega
        have b2 : ¬ (d : Int) = 0 := by omega
        have b3 : ((d : Int) == 0) = false := by rw [beq_eq_false_iff_ne]; omega
        have d1 : (0 : Int) < d := by omega
        have i0 : (0 : Int) ≤ i := by omega
        have i1 : (i : Int) < n := by omega
        have i2 : i < n := by omega
        clear hq hr2 ht hv hqt hR hXr
        go_wp2_with fail
        go_roundw
        case rel => exact ⟨k + 1, r2, (i : Int) - 1, _, by omega, rfl, by simp, Lib.hid (by omega), hN⟩
        case measure => simp [intOf]
      · obtain rfl : k = n := by omega
        obtain rfl : z = -1 := by have := hz.out; omega
        have hr := hR.r
        rw [Nat.sub_self, Nat.pow_zero, Nat.div_one, ← Hr.out] at hr
        subst hr
        clear hz
        go_wp2_with fail
        go_meet
        exact ⟨S, rfl, hR⟩
  case rest =>
  obtain ⟨S, rfl, hR⟩ := hcut
  rename World => wz
  have hv := hR.val
  rw [Nat.sub_self, List.drop_zero, Nat.pow_zero, Nat.div_one, ← Hy.out] at hv
  have hSl := hR.len
  have hSs := hR.s
  have htr := rtrim_any (some ⟨w.heap.size, 0, none⟩) n n S wz hSs hSl hR.lt (by omega)
  rw [hv] at htr
  have hm := hR.m
  clear hR0 hR hv hSs hSl
  go_wp2_with fail
  refine htr.mono ?_
  clear htr
  rintro e w' ⟨rfl, hN, rfl⟩
  go_wp2_with fail
  refine bodyPost_ret (v := .tuple #[.slice (some ⟨w.heap.size, 0, none⟩) (dg 10 y).length n, .int .i64 (r0 : Int)]) (by simp [results, Tryd.results34, go_sem]) rfl ⟨_, _, rfl, hN, hm, fun a e => by cases e; exact Nat.le_refl _⟩

theorem bl_half (y : Nat) (h : y ≠ 0) : bl y = bl (y / 2) + 1 := by
  unfold bl; rw [dg_pos 2 y (by decide) h]; rfl
theorem byts_step (y : Nat) (h : y ≠ 0) : byts y = byts (y / 256) ++ [UInt8.ofNat (y % 256)] := by
  unfold byts; rw [dg_pos 256 y (by decide) h]; simp [chars]

set_option maxHeartbeats 2000000 in
set_option maxRecDepth 20000 in
theorem rbits_any (p : Option Addr) (cp x : Nat) (w : World) (hx : DecIn w p cp x) (lx : (dg 10 x).length ≤ 10000) (lb' : bl x ≤ 1000000) :
    Calls Tryd.prog 31 #[.slice p (dg 10 x).length cp] w fun r w' => r = .returned (.int .i64 (bl x : Int)) ∧ Below w.heap.size w w' := by
  obtain ⟨B, hB⟩ : ∃ B, B = bl x := ⟨_, rfl⟩
  rw [← hB] at lb' ⊢
  go_enter Tryd.func31, Tryd.ntmps31
  go_wp2_with fail
  go_loopg [0, 3] (x + 1) (fun m s0 s3 wr => ∃ (k y ny : Nat) (q : Option Addr) (c : Nat), s0 = .slice q ny c ∧ Hid (ny = (dg 10 y).length) ∧ ny ≤ 10000 ∧ s3 = .int .i64 (k : Int) ∧ y < m ∧ Hid (B = k + bl y) ∧ DecIn wr q c y ∧ Below w.heap.size w wr)
  case atStart => exact ⟨0, x, _, p, cp, rfl, Lib.hid rfl, lx, rfl, by omega, Lib.hid (by omega), hx, Below.refl _ _⟩
  case round =>
    clear hx lx hB
    obtain ⟨k, y, ny, q, c, rfl, hny, hnb, rfl, hym, hk, hN, hm⟩ := hrel
    by_cases hy0 : y = 0
    · subst hy0
      obtain rfl : ny = 0 := by rw [hny.out, dg_zero]; rfl
      obtain rfl : k = B := by have := hk.out; rw [bl_zero] at this; omega
      clear hny hk
      go_wp2_with fail
      go_ret
      exact ⟨rfl, hm⟩
    · have hn0 : 0 < ny := by rw [hny.out]; exact List.length_pos_iff.2 (fun e => hy0 (dg_nil 10 (by decide) e))
      have b1 : (0 : Int) < ny := by omega
      have hb := bl_half y hy0
      obtain ⟨y2, hy2⟩ : ∃ y2, y2 = y / 2 := ⟨_, rfl⟩
      have hyl : y2 < y := by omega
      rw [← hy2] at hb
      have hk2 : Hid (B = (k + 1) + bl y2) := Lib.hid (by rw [hk.out, hb]; omega)
      have hkB : k ≤ 1000000 := by have := hk.out; omega
      have hdv := rdiv_any q c y 2 wr hN (by rw [← hny.out]; omega) (by decide) (by decide)
      rw [← hy2, ← hny.out] at hdv
      have hl2 : (dg 10 y2).length ≤ 10000 := Nat.le_trans (dg_len_mono 10 (by decide) (Nat.le_of_lt hyl)) (by rw [← hny.out]; exact hnb)
      clear hy2 hb hk
      go_wp2_with fail
      refine hdv.mono ?_
      clear hdv
      rintro r w1 ⟨q2, c2, rfl, hN2, hb2, -⟩
      have hm2 := hm.trans (hb2.mono hm.size)
      clear hm hb2 hN
      go_wp2_with fail
      go_roundg (y2 + 1)
      case rel => exact ⟨k + 1, y2, _, q2, c2, rfl, Lib.hid rfl, hl2, by go_num, by omega, hk2, hN2, hm2⟩
      case measure => omega

set_option maxHeartbeats 2000000 in
set_option maxRecDepth 20000 in
theorem rbytes_any (p : Option Addr) (cp x : Nat) (w : World) (hx : DecIn w p cp x) (lx : (dg 10 x).length ≤ 10000) (lb' : (byts x).length ≤ 1000000) :
    Calls Tryd.prog 33 #[.slice p (dg 10 x).length cp] w fun r w' => r = .returned (.string ⟨(byts x).toArray⟩) ∧ Below w.heap.size w w' := by
  have h0 : byts x = byts x ++ [] := by simp
  go_enter Tryd.func33, Tryd.ntmps33
  go_wp2_with fail
  go_loopg [0, 3] (x + 1) (fun m s0 s3 wr => ∃ (S : ByteArray) (t : List UInt8) (y ny : Nat) (q : Option Addr) (c : Nat), s0 = .slice q ny c ∧ Hid (ny = (dg 10 y).length) ∧ ny ≤ 10000 ∧ s3 = .string S ∧ Hid (S = ⟨t.toArray⟩) ∧ y < m ∧ Hid (byts x = byts y ++ t) ∧ DecIn wr q c y ∧ Below w.heap.size w wr)
  case atStart => exact ⟨⟨#[]⟩, [], x, _, p, cp, rfl, Lib.hid rfl, lx, rfl, Lib.hid rfl, by omega, Lib.hid h0, hx, Below.refl _ _⟩
  case round =>
    clear hx lx h0
    obtain ⟨S, t, y, ny, q, c, rfl, hny, hnb, rfl, hS, hym, hk, hN, hm⟩ := hrel
    by_cases hy0 : y = 0
    · subst hy0
      obtain rfl : ny = 0 := by rw [hny.out, dg_zero]; rfl
      have hfin : S = ⟨(byts x).toArray⟩ := by rw [hk.out, hS.out]; unfold byts; rw [dg_zero]; rfl
      have Hfin := Lib.hid hfin
      clear hny hk hfin
      go_wp2_with fail
      go_ret
      exact ⟨by first | rfl | (rw [Hfin.out]; rfl), hm⟩
    · have hn0 : 0 < ny := by rw [hny.out]; exact List.length_pos_iff.2 (fun e => hy0 (dg_nil 10 (by decide) e))
      have b1 : (0 : Int) < ny := by omega
      have hb := byts_step y hy0
      obtain ⟨y2, hy2⟩ : ∃ y2, y2 = y / 256 := ⟨_, rfl⟩
      obtain ⟨r0, hr0⟩ : ∃ r0, r0 = y % 256 := ⟨_, rfl⟩
      have hyl : y2 < y := by omega
      have hrl : r0 < 256 := by omega
      rw [← hy2, ← hr0] at hb
      have hk2 : Hid (byts x = byts y2 ++ ([UInt8.ofNat r0] ++ t)) := Lib.hid (by rw [hk.out, hb, List.append_assoc])
      have htl : S.size ≤ 1000000 := by
        have := congrArg List.length hk.out
        rw [List.length_append] at this
        rw [hS.out]; show t.length ≤ _; omega
      obtain ⟨m, hsm⟩ : ∃ m, S.size = m := ⟨_, rfl⟩
      have hm6 : m ≤ 1000000 := by omega
      have hdv := rdiv_any q c y 256 wr hN (by rw [← hny.out]; omega) (by decide) (by decide)
      rw [← hy2, ← hr0, ← hny.out] at hdv
      have hl2 : (dg 10 y2).length ≤ 10000 := Nat.le_trans (dg_len_mono 10 (by decide) (Nat.le_of_lt hyl)) (by rw [← hny.out]; exact hnb)
      have e1 : (r0 : Int) % 256 = r0 := by omega
      clear hy2 hr0 hb hk htl
      go_wp2_with fail
      refine hdv.mono ?_
      clear hdv
      rintro r w1 ⟨q2, c2, rfl, hN2, hb2, -⟩
      have hm2 := hm.trans (hb2.mono hm.size)
      have hm3 := hm2.alloc hm2.size (.cells #[.int .u8 (r0 : Int)] 5)
      have hN3 : DecIn (w1.alloc (.cells #[.int .u8 (r0 : Int)] 5)) q2 c2 y2 := hN2.alloc _
      have hcv2 : (convert 71 9 (.slice (some ⟨w1.heap.size, 0, none⟩) 1 1)).run Tryd.prog (w1.alloc (.cells #[.int .u8 (r0 : Int)] 5)) = .ok (.string ⟨#[UInt8.ofNat r0]⟩) (w1.alloc (.cells #[.int .u8 (r0 : Int)] 5)) := conv_str (some ⟨w1.heap.size, 0, none⟩) 1 1 [r0] rfl _ (Sl.made (k := .u8) (T := 5) w1 [r0] (by simp [maxLen]))
      obtain ⟨S2, hS2⟩ : ∃ S2, S2 = (⟨#[UInt8.ofNat r0]⟩ : ByteArray) ++ S := ⟨_, rfl⟩
      have hS3 : Hid (S2 = ⟨([UInt8.ofNat r0] ++ t).toArray⟩) := Lib.hid (by rw [hS2, hS.out]; exact ByteArray.mk_append_mk [UInt8.ofNat r0] t)
      have hS4 := hS2.symm
      clear hm hb2 hN hS2
      go_wp2_with fail
      go_roundg (y2 + 1)
      case rel => exact ⟨S2, [UInt8.ofNat r0] ++ t, y2, _, q2, c2, rfl, Lib.hid rfl, hl2, by first | rfl | rw [hS4], hS3, by omega, hk2, hN3, hm3⟩
      case measure => omega
end Go.Proofs.YtepibfpdkjkdjaaDoor
