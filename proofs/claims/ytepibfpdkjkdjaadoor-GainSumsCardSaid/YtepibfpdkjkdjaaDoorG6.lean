/- The document's logarithm: limbs, half. -/
import Derived.Test.YtepibfpdkjkdjaaDoorG3
import Derived.Test.YtepibfpdkjkdjaaDoorN31
namespace Go.Proofs.YtepibfpdkjkdjaaDoor
open Go.RowKit

/-- The slice holds the limbs of six digits, the lowest first. -/
abbrev M6 (w : World) (p : Option Addr) (cap n : Nat) : Prop := Sl .i64 3 w p cap (dg 1000000 n)
/-- A call answers the number's limbs, in new memory. -/
def M6Out (w : World) (z : Nat) (r : Ending) (w' : World) : Prop :=
  ∃ q c, r = .returned (.slice q (dg 1000000 z).length c) ∧ M6 w' q c z ∧ Below w.heap.size w w' ∧ (∀ a, q = some a → w.heap.size ≤ a.block)
/-- Numbers are gathered in a row of its own. -/
structure AccB (w : World) (i : Nat) (D : List Nat) (q : Option Addr) (c : Nat) (wr : World) : Prop where
  s : Sl .i64 3 wr q c D
  len : D.length = i
  new : ∀ a, q = some a → w.heap.size ≤ a.block
  m : Below w.heap.size w wr
theorem AccB.push {w : World} {i : Nat} {D : List Nat} {q : Option Addr} {c : Nat} {wr w' : World} (h : AccB w i D q c wr) {d : Nat} {q' : Option Addr} {c' : Nat} (hP : Pushed .i64 3 wr q (D ++ [d]) q' c' w') : AccB w (i + 1) (D ++ [d]) q' c' w' := by
  obtain ⟨hS, hm, g, rfl, hor⟩ := hP
  refine ⟨hS, by rw [List.length_append, h.len]; rfl, ?_, h.m.trans (hm.to_below h.m.size (by rintro j hj ⟨a, e, rfl⟩; have := h.new a e; omega))⟩
  rintro a e; cases e
  rcases hor with h1 | h1
  · exact h.new _ h1
  · exact Nat.le_trans h.m.size h1
theorem AccB.empty (w : World) : AccB w 0 [] (some ⟨w.heap.size, 0, none⟩) 0 (w.alloc (.cells #[] 3)) :=
  ⟨Sl.made (k := .i64) (T := 3) w [] (by simp [maxLen]), rfl, (fun a e => by cases e; exact Nat.le_refl _), (Below.refl _ _).alloc (Nat.le_refl _) _⟩

set_option maxHeartbeats 2000000 in
set_option maxRecDepth 20000 in
theorem limbs_any (x : Nat) (w : World) (hx : Hid (x < 18446744073709551616)) :
    Calls Tryd.prog 61 #[.int .u64 (x : Int)] w (M6Out w x) := by
  have hl : Hid ((dg 1000000 x).length ≤ 20) := Lib.hid (dg_len_le 1000000 (by decide) x 20 (Nat.lt_of_lt_of_le hx.out (by decide)))
  have hK := AccB.empty w
  go_enter Tryd.func61, Tryd.ntmps61
  go_wp2_with fail
  generalize (w.alloc (.cells #[] 3)) = W at hK ⊢
  go_loopw [0, 3] (fun s0 s3 wr => ∃ (y i : Nat) (D : List Nat) (pq : Option Addr) (cq : Nat), s0 = .int .u64 (y : Int) ∧ s3 = .slice pq i cq ∧ AccB w i D pq cq wr ∧ Hid (y < 18446744073709551616) ∧ Hid (D ++ dg 1000000 y = dg 1000000 x)) (fun s0 _ _ => (intOf s0).toNat)
  case atStart => exact ⟨x, 0, [], _, 0, rfl, rfl, hK, hx, Lib.hid rfl⟩
  case round =>
    clear hK
    obtain ⟨y, i, D, pq, cq, rfl, rfl, hR, hy, hv⟩ := hrel
    by_cases hy0 : y = 0
    · subst hy0
      have hD : D = dg 1000000 x := by have := hv.out; rwa [dg_zero, List.append_nil] at this
      subst hD
      have hlen := Lib.hid hR.len
      go_wp2_with fail
      go_ret
      exact ⟨pq, cq, by rw [hlen.out]; rfl, hR.s, hR.m, hR.new⟩
    · have b0 : (0 : Int) < y := by omega
      obtain ⟨d, hd⟩ : ∃ d, d = y % 1000000 := ⟨_, rfl⟩
      obtain ⟨z, hz⟩ : ∃ d, d = y / 1000000 := ⟨_, rfl⟩
      have hv2 : Hid ((D ++ [d]) ++ dg 1000000 z = dg 1000000 x) := Lib.hid (by
        rw [← hv.out, dg_pos 1000000 y (by decide) hy0, ← hd, ← hz, List.append_assoc]; rfl)
      have hd10 : d < 1000000 := by rw [hd]; exact Nat.mod_lt _ (by decide)
      have hzy : z < y := by rw [hz]; exact Nat.div_lt_self (by omega) (by decide)
      have hz2 : Hid (z < 18446744073709551616) := Lib.hid (Nat.lt_trans hzy hy.out)
      have hi : i ≤ 20 := by
        have h1 := congrArg List.length hv.out
        rw [List.length_append, hR.len] at h1
        have := hl.out; omega
      have e1 : (y : Int) % 1000000 = d := by omega
      have e2 : (y : Int) / 1000000 = z := by omega
      have e3 : IntKind.i64.wrap (d : Int) = d := by rw [IntKind.wrap_i64]; omega
      have e4 : IntKind.u64.wrap (z : Int) = z := by have := hy.out; rw [IntKind.wrap_u64]; omega
      have HD := Lib.hid hR.len
      have hRs := hR.s
      clear hd hz hv hy0
      go_wp2_with (at_builtin; refine wpList_push rfl _ _ .i64 26 3 (.int .i64 0) 8 rfl Tryd.underlying26 info_int rfl (by decide) pq cq i 1 D [d] HD.out rfl (by decide) rfl hRs rfl (by omega) ?_; intro pq2 cq2 W5 hP)
      have hR5 := hR.push hP
      clear hP hR hRs
      go_wp2_with fail
      go_roundw
      case rel => exact ⟨z, i + 1, D ++ [d], pq2, cq2, rfl, rfl, hR5, hz2, hv2⟩
      case measure => simp [intOf]; omega

/-- While it is divided: k limbs from behind are. -/
structure DivH (w : World) (g n x d k : Nat) (S : List Nat) (r : Nat) (wr : World) : Prop where
  s : Sl .i64 3 wr (some ⟨g, 0, none⟩) n S
  len : S.length = n
  lt : ∀ z ∈ S, z < 1000000
  val : vl 1000000 (S.drop (n - k)) = x / 1000000 ^ (n - k) / d
  r : r = x / 1000000 ^ (n - k) % d
  m : Below w.heap.size w wr
theorem DivH.next {w : World} {g n x d k : Nat} {S : List Nat} {r : Nat} {wr : World} (h : DivH w g n x d k S r wr) (hg : w.heap.size ≤ g) (i : Nat) (hi : i + k + 1 = n) (hd : 0 < d) (v t : Nat) (hv : v = x / 1000000 ^ i % 1000000) (ht : t = 1000000 * r + v) :
    DivH w g n x d (k + 1) (S.set i (t / d)) (t % d) (wr.setCell ⟨g, i, none⟩ (.int .i64 ((t / d : Nat) : Int))) := by
  have hl : i < S.length := by rw [h.len]; omega
  have hs := div_step 1000000 x i d
  have hr := h.r
  rw [show n - k = i + 1 by omega] at hr
  rw [← hr, ← hv, Nat.mul_comm r 1000000, ← ht] at hs
  have hrd : r < d := by rw [hr]; exact Nat.mod_lt _ hd
  have hv4 : v < 1000000 := by rw [hv]; exact Nat.mod_lt _ (by decide)
  have hq : t / d < 1000000 := by
    rw [Nat.div_lt_iff_lt_mul hd, ht]
    omega
  refine ⟨h.s.set _ _, by simpa using h.len, set_lt h.lt hq, ?_, ?_, h.m.setCell (p := ⟨g, i, none⟩) hg _⟩
  · have hval := h.val
    rw [show n - k = i + 1 by omega] at hval
    rw [show n - (k + 1) = i by omega, List.drop_eq_getElem_cons (by simpa using hl), List.getElem_set_self, List.drop_set_of_lt (by omega), vl, hval, hs.1]
    omega
  · rw [show n - (k + 1) = i by omega]; exact hs.2.symm

set_option maxHeartbeats 4000000 in
set_option maxRecDepth 20000 in
theorem half_any (p : Option Addr) (cp x k : Nat) (w : World) (hx : M6 w p cp x) (lx : (dg 1000000 x).length ≤ 100000) (hk : k ≤ 30) :
    Calls Tryd.prog 63 #[.slice p (dg 1000000 x).length cp, .int .i64 (k : Int)] w (M6Out w (x / 2 ^ k)) := by
  obtain ⟨n, hn⟩ : ∃ n, (dg 1000000 x).length = n := ⟨_, rfl⟩
  obtain ⟨d, hd⟩ : ∃ d, d = 2 ^ k := ⟨_, rfl⟩
  obtain ⟨y, hy⟩ : ∃ y, y = x / d := ⟨_, rfl⟩
  rw [hn] at lx ⊢
  rw [← hd, ← hy]
  have hd0 : 0 < d := by rw [hd]; exact Nat.pow_pos (by decide)
  have hdd : d ≤ 1073741824 := by rw [hd]; exact Nat.pow_le_pow_right (n := 2) (by decide) hk
  have Hn := Lib.hid hn
  have Hy := Lib.hid hy
  have Hd := Lib.hid hd
  have hpw : Hid (∀ i, i ≤ k → 2 ^ i ≤ d) := Lib.hid (fun i hi => by rw [Hd.out]; exact Nat.pow_le_pow_right (by decide) hi)
  clear hn hy hd
  have hxn : Hid (x < 1000000 ^ n) := Lib.hid (by rw [← Hn.out]; exact lt_pow_dg 1000000 (by decide) x)
  go_enter Tryd.func63, Tryd.ntmps63
  go_upto_block 0 with fail
  go_cut [5] (fun s5 wr => s5 = .int .i64 (d : Int) ∧ wr = w)
  case first =>
    go_wp2_with fail
    go_loopw [5, 6] (fun s5 s6 wr => ∃ (i t : Nat), i ≤ k ∧ s5 = .int .i64 (t : Int) ∧ s6 = .int .i64 (i : Int) ∧ Hid (t = 2 ^ i) ∧ wr = w) (fun _ i _ => k - (intOf i).toNat)
    case atStart => exact ⟨0, 1, by omega, rfl, rfl, Lib.hid rfl, rfl⟩
    case round =>
      obtain ⟨i, t, hi, rfl, rfl, ht, rfl⟩ := hrel
      by_cases hik : i < k
      · have htd : t ≤ d := by rw [ht.out]; exact hpw.out i hi
        have ht2 : Hid (2 * t = 2 ^ (i + 1)) := Lib.hid (by rw [ht.out, Nat.pow_succ]; omega)
        have i1 : (i : Int) < k := by omega
        have w1 : IntKind.i64.wrap (2 * (t : Int)) = 2 * (t : Int) := by rw [IntKind.wrap_i64]; omega
        go_wp2_with fail
        go_roundw
        case rel => exact ⟨i + 1, 2 * t, by omega, by go_num, by go_num, ht2, trivial⟩
        case measure => simp [intOf]; omega
      · obtain rfl : i = k := by omega
        have e : t = d := by rw [ht.out, Hd.out]
        subst e
        go_wp2_with fail
        go_meet
        exact ⟨rfl, rfl⟩
  case rest =>
  obtain ⟨rfl, rfl⟩ := hcut
  rename World => w
  go_upto_block 2 with (first | (at_make; refine wpList_makeI rfl _ _ rfl n _ _ rfl rfl (by go_num) (by go_num) (by omega) ?_; intro W1 hS1 hb1 hl1) | fail)
  have hR0 : DivH w w.heap.size n x d 0 (List.replicate n 0) 0 W1 := ⟨hS1, by simp, by intro z hz; rw [List.eq_of_mem_replicate hz]; decide, by
    rw [Nat.sub_zero, Nat.div_eq_of_lt hxn.out, Nat.zero_div, List.drop_of_length_le (by simp)]; rfl, by rw [Nat.sub_zero, Nat.div_eq_of_lt hxn.out, Nat.zero_mod], hb1⟩
  clear hS1 hl1 hb1
  go_cut [8, 9] (fun s8 s9 wr => ∃ (S : List Nat) (r0 : Nat), DivH w w.heap.size n x d n S r0 wr)
  case first =>
    go_wp2_with fail
    go_loopw [8, 9] (fun s8 s9 wr => ∃ (k r : Nat) (z : Int) (S : List Nat), k ≤ n ∧ s8 = .int .i64 (r : Int) ∧ s9 = .int .i64 z ∧ Hid (z = (n : Int) - 1 - k) ∧ DivH w w.heap.size n x d k S r wr) (fun _ i _ => (intOf i + 1).toNat)
    case atStart => exact ⟨0, 0, (n : Int) - 1, _, by omega, rfl, by first | rfl | simp, Lib.hid (by omega), hR0⟩
    case round =>
      clear hR0
      obtain ⟨k2, r, z, S, hk2, rfl, rfl, hz, hR⟩ := hrel
      by_cases hlt : k2 < n
      · obtain ⟨i, rfl⟩ : ∃ i : Nat, z = (i : Int) := ⟨n - 1 - k2, by have := hz.out; omega⟩
        have hik : i + k2 + 1 = n := by have := hz.out; omega
        have hne : dg 1000000 x ≠ [] := by intro e; have := Hn.out; rw [e] at this; simp at this; omega
        obtain ⟨g, rfl⟩ := hx.isPtr hne
        have hXr : M6 wr (some ⟨g, 0, none⟩) cp x := hx.old hR.m
        have hil : i < (dg 1000000 x).length := by rw [Hn.out]; omega
        obtain ⟨v, hv⟩ : ∃ v, v = x / 1000000 ^ i % 1000000 := ⟨_, rfl⟩
        have cx : wr.cell? ⟨g, i, none⟩ = some (.int .i64 (v : Int)) := by rw [hv, ← dg_at 1000000 (by decide) x i hil]; exact hXr.cell i hil
        obtain ⟨t, ht⟩ : ∃ t, t = 1000000 * r + v := ⟨_, rfl⟩
        have hN := hR.next (Nat.le_refl _) i hik hd0 v t hv ht
        have hrd : r < d := by rw [hR.r]; exact Nat.mod_lt _ hd0
        have hv10 : v < 1000000 := by rw [hv]; exact Nat.mod_lt _ (by decide)
        have hSl : i < S.length := by rw [hR.len]; omega
        have cS := hR.s.cell i hSl
        have fS := hR.s.froz i
        generalize S[i] = old at cS
        obtain ⟨q, hq⟩ : ∃ q, q = t / d := ⟨_, rfl⟩
        obtain ⟨r2, hr2⟩ : ∃ q, q = t % d := ⟨_, rfl⟩
        rw [← hq, ← hr2] at hN
        have hqt : q ≤ t := by rw [hq]; exact Nat.div_le_self _ _
        have hrt : r2 < d := by rw [hr2]; exact Nat.mod_lt _ hd0
        have e1 : 1000000 * (r : Int) + (v : Int) = t := by omega
        have e2 : (t : Int) / d = q := by rw [hq]; exact (Int.natCast_ediv _ _).symm
        have e3 : (t : Int) % d = r2 := by rw [hr2]; exact (Int.natCast_emod _ _).symm
        have e4 : (t : Int).tdiv d = q := by rw [Int.tdiv_eq_ediv_of_nonneg (by omega)]; exact e2
        have e5 : (t : Int).tmod d = r2 := by rw [Int.tmod_eq_emod_of_nonneg (by omega)]; exact e3
        have w1 : IntKind.i64.wrap (1000000 * (r : Int)) = 1000000 * (r : Int) := by rw [IntKind.wrap_i64]; omega
        have w2 : IntKind.i64.wrap (t : Int) = t := by rw [IntKind.wrap_i64]; omega
        have w3 : IntKind.i64.wrap (q : Int) = q := by rw [IntKind.wrap_i64]; omega
        have w4 : IntKind.i64.wrap (r2 : Int) = r2 := by rw [IntKind.wrap_i64]; omega
        have b1 : ((d : Int) != 0) = true := by rw [bne_iff_ne]; omega
        have b2 : ¬ (d : Int) = 0 := by omega
        have b3 : ((d : Int) == 0) = false := by rw [beq_eq_false_iff_ne]; omega
        have d1 : (0 : Int) < d := by omega
        have i0 : (0 : Int) ≤ i := by omega
        have i1 : (i : Int) < n := by omega
        have i2 : i < n := by omega
        clear hq hr2 ht hv hqt hR hXr
        go_wp2_with fail
        go_roundw
        case rel => exact ⟨k2 + 1, r2, (i : Int) - 1, _, by omega, rfl, by simp, Lib.hid (by omega), hN⟩
        case measure => simp [intOf]
      · obtain rfl : k2 = n := by omega
        obtain rfl : z = -1 := by have := hz.out; omega
        clear hz
        go_wp2_with fail
        go_meet
        exact ⟨S, r, hR⟩
  case rest =>
  obtain ⟨A, r0, hR⟩ := hcut
  rename World => wz
  have hv := hR.val
  rw [Nat.sub_self, List.drop_zero, Nat.pow_zero, Nat.div_one, ← Hy.out] at hv
  have hAl := Lib.hid hR.len
  have hS := hR.s
  have hA := Lib.hid hR.lt
  have hm := hR.m
  have Hv := Lib.hid hv
  clear hR0 hR hv
  go_wp2_with fail
  go_loopw [7] (fun s0 wr => ∃ k : Nat, k ≤ n ∧ s0 = .slice (some ⟨w.heap.size, 0, none⟩) k n ∧ Hid (∀ i (hi : i < A.length), k ≤ i → A[i] = 0) ∧ wr = wz) (fun v _ => match v with | .slice _ k _ => k | _ => 0)
  case atStart => exact ⟨n, by omega, rfl, fun i hi h => by have := hAl.out; omega, rfl⟩
  case round =>
    obtain ⟨k3, hk3, rfl, hz, rfl⟩ := hrel
    by_cases hk0 : 0 < k3
    · have hlt : k3 - 1 < A.length := by have := hAl.out; omega
      obtain ⟨c, hc0⟩ : ∃ c, c = A[k3 - 1] := ⟨_, rfl⟩
      have hc := hS.cell (k3 - 1) hlt
      rw [← hc0] at hc
      have i0 : (0 : Int) ≤ (k3 : Int) - 1 := by omega
      have i1 : (k3 : Int) - 1 < k3 := by omega
      have i2 : ((k3 : Int) - 1).toNat = k3 - 1 := by omega
      have b0 : (0 : Int) < (k3 : Int) := by omega
      have hwr : IntKind.i64.wrap ((k3 : Int) - 1) = (k3 : Int) - 1 := by rw [IntKind.wrap_i64]; omega
      have i3 : (k3 : Int) - 1 ≤ n := by omega
      have i4 : (k3 - 1) ≤ n := by omega
      have Hx := Lib.hid hc0
      clear hc0
      by_cases hx0 : c = 0
      · subst hx0
        have hz2 : Hid (∀ i (hi : i < A.length), k3 - 1 ≤ i → A[i] = 0) := by
          intro i hi h
          by_cases e : i = k3 - 1
          · subst e; exact Hx.out.symm
          · exact hz.out i hi (by omega)
        clear Hx hz
        go_wp2_with fail
        go_roundw
        case rel => exact ⟨k3 - 1, by omega, by go_num, hz2, trivial⟩
        case measure => simp; omega
      · have hxb : ((c : Int) == 0) = false := by rw [beq_eq_false_iff_ne]; omega
        have hd : Hid (dg 1000000 (vl 1000000 A) = A.take k3) := dg_take _ (by decide) A hA.out k3 (by have := hAl.out; omega) (fun i hi h => hz.out i hi h) (fun _ => by rw [← Hx.out]; exact hx0)
        have hln : Hid ((A.take k3).length = k3) := Lib.hid (by rw [List.length_take]; have := hAl.out; omega)
        clear Hx hz
        go_wp2_with fail
        go_ret
        refine ⟨some ⟨w.heap.size, 0, none⟩, n, by rw [← Hv.out, hd.out, hln.out]; rfl, ?_, hm, fun a e => by cases e; exact Nat.le_refl _⟩
        show Sl _ _ _ _ _ (dg 1000000 _); rw [← Hv.out, hd.out]; exact hS.take k3 (by have := hAl.out; omega)
    · obtain rfl : k3 = 0 := by omega
      have hd : Hid (dg 1000000 (vl 1000000 A) = []) := dg_take _ (by decide) A hA.out 0 (by omega) (fun i hi h => hz.out i hi h) (fun h => by omega)
      clear hz
      go_wp2_with fail
      go_ret
      refine ⟨some ⟨w.heap.size, 0, none⟩, n, by rw [← Hv.out, hd.out]; rfl, ?_, hm, fun a e => by cases e; exact Nat.le_refl _⟩
      show Sl _ _ _ _ _ (dg 1000000 _); rw [← Hv.out, hd.out]; exact hS.take 0 (by omega)
end Go.Proofs.YtepibfpdkjkdjaaDoor
