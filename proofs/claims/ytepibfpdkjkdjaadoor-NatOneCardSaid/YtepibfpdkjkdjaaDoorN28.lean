/- nat.From. -/
import Derived.Test.YtepibfpdkjkdjaaDoorN27
import Derived.StillTailTactics
namespace Go.Proofs.YtepibfpdkjkdjaaDoor
open Go.RowKit

theorem or_byte (o c r : Nat) (ho : o < 256 ^ r) : o ||| c * 256 ^ r = o + c * 256 ^ r := by
  have e : (256 : Nat) ^ r = 2 ^ (8 * r) := by rw [Nat.pow_mul]
  rw [e] at ho ⊢
  have := Nat.two_pow_add_eq_or_of_lt (i := 8 * r) ho c
  rw [Nat.mul_comm c, Nat.or_comm, ← this, Nat.add_comm]

set_option maxHeartbeats 2000000 in
theorem from_no (l : List UInt8) (w : World) (hl : l.length ≤ 1000000000) (hno : 160 < l.length ∨ l.head? = some 0) :
    Calls Tryd.prog 41 #[.string ⟨l.toArray⟩] w fun r w' => r = .returned (.tuple #[.agg #[.slice none 0 0], .bool false]) ∧ Below w.heap.size w w' := by
  obtain ⟨s, hs⟩ : ∃ s, s = ByteArray.mk l.toArray := ⟨_, rfl⟩
  rw [← hs]
  obtain ⟨n, hn⟩ : ∃ n, n = l.length := ⟨_, rfl⟩
  have n1 : s.size = n := by rw [hs, hn]; rfl
  have hL : s.toList = l := by rw [hs, ByteArray.toList_mk]
  have hB : Below w.heap.size w ((w.alloc (.cells #[.slice none 0 0] 25)).setCell ⟨w.heap.size, 0, none⟩ (.slice none 0 0)) := ((Below.refl _ _).alloc (Nat.le_refl _) _).setCell (p := ⟨w.heap.size, 0, none⟩) (Nat.le_refl _) _
  have HB := Lib.hid hB
  by_cases h160 : 160 < n
  · have b1 : (160 : Int) < n := by omega
    clear hL hs hno hn hl hB
    go_enter Tryd.func41, Tryd.ntmps41
    go_wp2_with fail
    refine bodyPost_ret (v := .tuple #[.agg #[.slice none 0 0], .bool false]) (by simp [results, Tryd.results41, go_sem]) rfl ⟨rfl, ?_⟩
    first | exact HB.out | exact (Below.refl _ _).alloc (Nat.le_refl _) _
  · have hh : l.head? = some 0 := by rcases hno with h | h; · omega
                                     · exact h
    have hne : l ≠ [] := by intro e; rw [e] at hh; cases hh
    have e0 : (s.toList == []) = false := by rw [hL, beq_eq_false_iff_ne]; exact hne
    have n0 : 0 < n := by rw [hn]; exact List.length_pos_iff.2 hne
    have b1 : ¬ (160 : Int) < n := by omega
    have h0 : 0 < s.size := by omega
    have g0 : s[0]'h0 = 0 := by subst hs; cases l with
      | nil => exact absurd rfl hne
      | cons a t => exact Option.some.inj hh
    have hv : ((0 : UInt8).toNat : Int) = 0 := rfl
    clear hL hs hno hn hl hB hh hne
    go_enter Tryd.func41, Tryd.ntmps41
    go_wp2_with fail
    refine bodyPost_ret (v := .tuple #[.agg #[.slice none 0 0], .bool false]) (by simp [results, Tryd.results41, go_sem]) rfl ⟨rfl, ?_⟩
    first | exact HB.out | exact (Below.refl _ _).alloc (Nat.le_refl _) _

/-- While it is put together: i bytes are. -/
structure FroR (w : World) (g m x i : Nat) (S : List Nat) (wr : World) : Prop where
  s : Sl .u32 38 wr (some ⟨g, 0, none⟩) m S
  len : S.length = m
  lt : ∀ z ∈ S, z < 4294967296
  val : vl 4294967296 S = x % 256 ^ i
  bx : Boxed wr w.heap.size 25 (.slice none 0 0)
  m : Below w.heap.size w wr
theorem FroR.next {w : World} {g m x i : Nat} {S : List Nat} {wr : World} (h : FroR w g m x i S wr) (hg : w.heap.size < g) (hq : i / 4 < S.length) (c : Nat) (hc : c = x / 256 ^ i % 256) :
    S[i / 4] < 256 ^ (i % 4) ∧ FroR w g m x (i + 1) (S.set (i / 4) (S[i / 4] + c * 256 ^ (i % 4))) ((wr.setCell ⟨g, i / 4, none⟩ (.int .u32 ((S[i / 4] + c * 256 ^ (i % 4) : Nat) : Int))).drew) := by
  obtain ⟨h1, h2⟩ := limb_step S x i c h.val hq hc
  have hc256 : c < 256 := by rw [hc]; exact Nat.mod_lt _ (by decide)
  have hz : S[i / 4] + c * 256 ^ (i % 4) < 4294967296 := by
    have : i % 4 = 0 ∨ i % 4 = 1 ∨ i % 4 = 2 ∨ i % 4 = 3 := by omega
    rcases this with e | e | e | e <;> rw [e] at h1 ⊢ <;> omega
  have hm : Mod (· = g) wr (wr.setCell ⟨g, i / 4, none⟩ (.int .u32 ((S[i / 4] + c * 256 ^ (i % 4) : Nat) : Int))) := (Mod.refl (· = g) wr).setCell (p := ⟨g, i / 4, none⟩) (fun _ => rfl) _
  refine ⟨h1, (h.s.set _ _).drew, by simpa using h.len, set_lt h.lt hz, h2, ?_, ?_⟩
  · exact Boxed.below' (Boxed.mod' h.bx hm (by omega)) (Below.refl _ _).drew (by have := h.bx.lt; have := hm.size; omega)
  · exact (h.m.setCell (p := ⟨g, i / 4, none⟩) (by show w.heap.size ≤ g; omega) _).drew

set_option maxRecDepth 20000 in
set_option maxHeartbeats 4000000 in
theorem from_yes (l : List UInt8) (w : World) (hl : l.length ≤ 160) (hh : l.head? ≠ some 0) :
    Calls Tryd.prog 41 #[.string ⟨l.toArray⟩] w fun r w' => ∃ q c, r = .returned (.tuple #[.agg #[.slice q (lb (bval l)).length c], .bool true]) ∧ NatIn w' q c (bval l) ∧ Below w.heap.size w w' ∧ (∀ a, q = some a → w.heap.size ≤ a.block) := by
  obtain ⟨s, hs⟩ : ∃ s, s = ByteArray.mk l.toArray := ⟨_, rfl⟩
  rw [← hs]
  obtain ⟨n, hn⟩ : ∃ n, n = l.length := ⟨_, rfl⟩
  have n1 : s.size = n := by rw [hs, hn]; rfl
  have hL : s.toList = l := by rw [hs, ByteArray.toList_mk]
  obtain ⟨x, hx⟩ : ∃ x, x = bval l := ⟨_, rfl⟩
  rw [← hx]
  have hget : Hid (∀ i j (h : j < s.size), i + j + 1 = n → s[j].toNat = x / 256 ^ i % 256) := Lib.hid (by
    intro i j h hij
    have hlen : (l.map UInt8.toNat).reverse.length = n := by simp [hn]
    have := vl_at 256 (l.map UInt8.toNat).reverse (bval_lt l) i (by omega)
    rw [hx]; unfold bval; rw [this]
    subst hs
    simp only [List.getElem_reverse, List.getElem_map, List.length_map]
    show l[j].toNat = _
    congr 2
    omega)
  have hxn : Hid (x % 256 ^ n = x) := Lib.hid (by
    apply Nat.mod_eq_of_lt
    have := vl_lt 256 (l.map UInt8.toNat).reverse (bval_lt l)
    rw [List.length_reverse, List.length_map, ← hn] at this
    rw [hx]; exact this)
  obtain ⟨b, hb⟩ : ∃ b, (s.toList == []) = b := ⟨_, rfl⟩
  have hfirst : b = true ∨ ∃ (h0 : 0 < s.size), b = false ∧ s[0]'h0 ≠ 0 := by
    rw [hL] at hb
    by_cases hne : l = []
    · left; rw [← hb, hne]; rfl
    · right
      refine ⟨by rw [n1, hn]; exact List.length_pos_iff.2 hne, by rw [← hb, beq_eq_false_iff_ne]; exact hne, ?_⟩
      subst hs
      intro e
      apply hh
      cases l with
      | nil => exact absurd rfl hne
      | cons a t => exact congrArg some e
  have b1 : ¬ (160 : Int) < n := by omega
  have hl160 : n ≤ 160 := by omega
  obtain ⟨m, hm⟩ : ∃ m, m = (n + 3) / 4 := ⟨_, rfl⟩
  have hmn : n ≤ 4 * m := by omega
  have hm41 : m ≤ 41 := by omega
  have d1 : ((n : Int) + 4 - 1) / 4 = (m : Int) := by omega
  have d2 : ((n : Int) + 4 - 1).tdiv 4 = (m : Int) := by rw [Int.tdiv_eq_ediv_of_nonneg (by omega)]; exact d1
  have d3 : (0 : Int) ≤ (n : Int) + 4 - 1 := by omega
  clear hn hs hL hx hh hl hm
  have kB : Boxed (w.alloc (.cells #[.slice none 0 0] 25)) w.heap.size 25 (.slice none 0 0) := Boxed.new _ _ _
  have hB : Below w.heap.size w (w.alloc (.cells #[.slice none 0 0] 25)) := (Below.refl _ _).alloc (Nat.le_refl _) _
  rcases hfirst with rfl | ⟨h0, rfl, hne0⟩
  · skip
    go_enter Tryd.func41, Tryd.ntmps41
    go_wp2_with (first | (at_make; refine wpList_make32 rfl _ _ rfl m _ _ rfl rfl (by go_num) (by go_num) (by omega) ?_; intro W1 hS1 hb1 hl1; have hR0 : FroR w (w.alloc (.cells #[.slice none 0 0] 25)).heap.size m x 0 _ W1 := ⟨hS1, by simp, by intro z hz; rw [List.eq_of_mem_replicate hz]; decide, by rw [vl_zeros]; simp [Nat.mod_one], Boxed.below' kB hb1 kB.lt, hB.trans (hb1.mono (by simp))⟩) | fail)
    clear hS1 hb1 hl1 kB hB hb d1 d2 d3
    rw [World.size_alloc] at hR0
    go_loopw [27] (fun s27 wr => ∃ (i : Nat) (S : List Nat), i ≤ n ∧ s27 = .int .i64 (i : Int) ∧ FroR w (w.heap.size + 1) m x i S wr) (fun i _ => n - (intOf i).toNat)
    case atStart => exact ⟨0, _, by omega, rfl, hR0⟩
    case round =>
      clear hR0
      obtain ⟨i, S, hi, rfl, hR⟩ := hrel
      by_cases hin : i < n
      · obtain ⟨j, hj⟩ : ∃ j, i + j + 1 = n := ⟨n - 1 - i, by omega⟩
        have hjs : j < s.size := by omega
        obtain ⟨cv, hcv⟩ : ∃ v, s[j]'hjs = v := ⟨_, rfl⟩
        have hcx := hget.out i j hjs hj
        rw [hcv] at hcx
        obtain ⟨c, hc⟩ : ∃ c, cv.toNat = c := ⟨_, rfl⟩
        rw [hc] at hcx
        have hc256 : c < 256 := by rw [← hc]; exact cv.toNat_lt
        have hql : i / 4 < S.length := by rw [hR.len]; omega
        have hnx := hR.next (by omega) hql c hcx
        obtain ⟨q, hq⟩ : ∃ q, q = i / 4 := ⟨_, rfl⟩
        obtain ⟨r, hr⟩ : ∃ r, r = i % 4 := ⟨_, rfl⟩
        simp only [← hq, ← hr] at hnx hql
        have cS := hR.s.cell q hql
        have fS := hR.s.froz q
        obtain ⟨o, ho⟩ : ∃ o, o = S[q] := ⟨_, rfl⟩
        rw [← ho] at hnx cS
        obtain ⟨ho1, hnx⟩ := hnx
        have hor := or_byte o c r ho1
        have e1 : (n : Int) - 1 - (i : Int) = (j : Int) := by omega
        have e2 : (i : Int) / 4 = (q : Int) := by omega
        have e3 : (i : Int) % 4 = (r : Int) := by omega
        have i0 : (0 : Int) ≤ i := by omega
        have i1 : (i : Int) < n := by omega
        have q0 : (0 : Int) ≤ q := by omega
        have q1 : (q : Int) < m := by omega
        have j1 : (j : Int) < n := by omega
        have j2 : (0 : Int) ≤ j := by omega
        have hmix : Tryd.prog.follows .mixedOrders = true := by kernel_rfl
        have hr4 : r = 0 ∨ r = 1 ∨ r = 2 ∨ r = 3 := by omega
        have hn9 : n ≤ 160 := hl160
        have wq : IntKind.i64.wrap (q : Int) = q := by rw [IntKind.wrap_i64]; omega
        have wj : IntKind.i64.wrap (j : Int) = j := by rw [IntKind.wrap_i64]; omega
        have wn : IntKind.i64.wrap ((n : Int) - 1) = (n : Int) - 1 := by rw [IntKind.wrap_i64]; omega
        have qt : (q : Int).toNat = q := by omega
        clear hR hget hcx hj hq hr ho
        rcases hr4 with rfl | rfl | rfl | rfl
        · simp only [Nat.reducePow, Nat.mul_one] at hor hnx ho1
          replace e3 : (i : Int).tmod 4 = 0 := by rw [Int.tmod_eq_emod_of_nonneg i0]; omega
          have w8 : IntKind.i64.wrap 0 = 0 := by decide
          have w9 : IntKind.i64.wrap (8 * 0) = 0 := by decide
          generalize hz : o + _ = z at hor hnx
          have e4 : bits BinOp.or IntKind.u32 (o : Int) ((c : Int)) = (z : Int) := by
            rw [show ((c : Int) : Int) = ((c : Nat) : Int) by omega, u32_or_nat _ _ (by omega) (by omega), hor]
          have e5 : IntKind.u32.wrap ((c : Int)) = (c : Int) := by rw [IntKind.wrap_u32]; omega
          clear hz hor ho1
          go_upto_region 7 with fail
          go_still_tail 19, (by kernel_rfl)
          change wpList _ _ _ _ _ wr.drew
          go_wp2_with fail
          go_roundw
          case rel => exact ⟨i + 1, _, by omega, by go_num, hnx⟩
          case measure => simp [intOf]; omega
        · simp only [Nat.reducePow] at hor hnx ho1
          replace e3 : (i : Int).tmod 4 = 1 := by rw [Int.tmod_eq_emod_of_nonneg i0]; omega
          have w8 : IntKind.i64.wrap 8 = 8 := by decide
          have w9 : IntKind.i64.wrap (8 * 1) = 8 := by decide
          generalize hz : o + _ = z at hor hnx
          have e4 : bits BinOp.or IntKind.u32 (o : Int) ((c : Int) * 256) = (z : Int) := by
            rw [show ((c : Int) * 256 : Int) = ((c * 256 : Nat) : Int) by omega, u32_or_nat _ _ (by omega) (by omega), hor]
          have e5 : IntKind.u32.wrap ((c : Int) * 256) = (c : Int) * 256 := by rw [IntKind.wrap_u32]; omega
          clear hz hor ho1
          go_upto_region 7 with fail
          go_still_tail 19, (by kernel_rfl)
          change wpList _ _ _ _ _ wr.drew
          go_wp2_with fail
          go_roundw
          case rel => exact ⟨i + 1, _, by omega, by go_num, hnx⟩
          case measure => simp [intOf]; omega
        · simp only [Nat.reducePow] at hor hnx ho1
          replace e3 : (i : Int).tmod 4 = 2 := by rw [Int.tmod_eq_emod_of_nonneg i0]; omega
          have w8 : IntKind.i64.wrap 16 = 16 := by decide
          have w9 : IntKind.i64.wrap (8 * 2) = 16 := by decide
          generalize hz : o + _ = z at hor hnx
          have e4 : bits BinOp.or IntKind.u32 (o : Int) ((c : Int) * 65536) = (z : Int) := by
            rw [show ((c : Int) * 65536 : Int) = ((c * 65536 : Nat) : Int) by omega, u32_or_nat _ _ (by omega) (by omega), hor]
          have e5 : IntKind.u32.wrap ((c : Int) * 65536) = (c : Int) * 65536 := by rw [IntKind.wrap_u32]; omega
          clear hz hor ho1
          go_upto_region 7 with fail
          go_still_tail 19, (by kernel_rfl)
          change wpList _ _ _ _ _ wr.drew
          go_wp2_with fail
          go_roundw
          case rel => exact ⟨i + 1, _, by omega, by go_num, hnx⟩
          case measure => simp [intOf]; omega
        · simp only [Nat.reducePow] at hor hnx ho1
          replace e3 : (i : Int).tmod 4 = 3 := by rw [Int.tmod_eq_emod_of_nonneg i0]; omega
          have w8 : IntKind.i64.wrap 24 = 24 := by decide
          have w9 : IntKind.i64.wrap (8 * 3) = 24 := by decide
          generalize hz : o + _ = z at hor hnx
          have e4 : bits BinOp.or IntKind.u32 (o : Int) ((c : Int) * 16777216) = (z : Int) := by
            rw [show ((c : Int) * 16777216 : Int) = ((c * 16777216 : Nat) : Int) by omega, u32_or_nat _ _ (by omega) (by omega), hor]
          have e5 : IntKind.u32.wrap ((c : Int) * 16777216) = (c : Int) * 16777216 := by rw [IntKind.wrap_u32]; omega
          clear hz hor ho1
          go_upto_region 7 with fail
          go_still_tail 19, (by kernel_rfl)
          change wpList _ _ _ _ _ wr.drew
          go_wp2_with fail
          go_roundw
          case rel => exact ⟨i + 1, _, by omega, by go_num, hnx⟩
          case measure => simp [intOf]; omega
      · obtain rfl : i = n := by omega
        have hv := hR.val
        rw [hxn.out] at hv
        have hS := hR.s
        have hSl := hR.len
        have hSb := hR.lt
        have kb := hR.bx
        have hB2 := hR.m
        have htr := trim_any (some ⟨w.heap.size + 1, 0, none⟩) m S wr hS hSb (by omega)
        rw [hSl, hv] at htr
        clear hR hv hget hxn hSl
        go_wp2_with fail
        refine htr.mono ?_
        clear htr
        rintro r w3 ⟨q3, c3, rfl, hN, hb3, hq3⟩
        have k3 := Boxed.below' kb hb3 kb.lt
        have hB3 := hB2.trans (hb3.mono hB2.size)
        have hf3 : ∀ a, q3 = some a → a.block = w.heap.size + 1 := by
          rintro a rfl
          rcases hq3 with h | h
          · cases h
          · cases h; rfl
        have c4 := k3.cell
        have f4 := k3.frozen
        clear kb hB2 hb3 hq3 hS hSb
        go_wp2_with fail
        have c5 := (k3.set (.slice q3 (lb x).length c3)).cell
        refine bodyPost_ret (v := .tuple #[.agg #[.slice q3 (lb x).length c3], .bool true]) (by simp [results, Tryd.results41, go_sem, c5]) rfl ⟨q3, c3, rfl, ?_, ?_, fun a e => by have := hf3 a e; omega⟩
        · exact hN.other ⟨w.heap.size, 0, none⟩ _ (fun a e => by have := hf3 a e; show a.block ≠ w.heap.size; omega)
        · exact hB3.setCell (p := ⟨w.heap.size, 0, none⟩) (Nat.le_refl _) _
  · obtain ⟨v0, hv0⟩ : ∃ v, s[0]'h0 = v := ⟨_, rfl⟩
    rw [hv0] at hne0
    have hne1 : ((v0.toNat : Int) == 0) = false := by rw [beq_eq_false_iff_ne]; intro e; exact hne0 (UInt8.toNat_inj.1 (by show v0.toNat = 0; omega))
    clear hne0
    go_enter Tryd.func41, Tryd.ntmps41
    go_wp2_with (first | (at_make; refine wpList_make32 rfl _ _ rfl m _ _ rfl rfl (by go_num) (by go_num) (by omega) ?_; intro W1 hS1 hb1 hl1; have hR0 : FroR w (w.alloc (.cells #[.slice none 0 0] 25)).heap.size m x 0 _ W1 := ⟨hS1, by simp, by intro z hz; rw [List.eq_of_mem_replicate hz]; decide, by rw [vl_zeros]; simp [Nat.mod_one], Boxed.below' kB hb1 kB.lt, hB.trans (hb1.mono (by simp))⟩) | fail)
    clear hS1 hb1 hl1 kB hB hb d1 d2 d3
    rw [World.size_alloc] at hR0
    go_loopw [27] (fun s27 wr => ∃ (i : Nat) (S : List Nat), i ≤ n ∧ s27 = .int .i64 (i : Int) ∧ FroR w (w.heap.size + 1) m x i S wr) (fun i _ => n - (intOf i).toNat)
    case atStart => exact ⟨0, _, by omega, rfl, hR0⟩
    case round =>
      clear hR0
      obtain ⟨i, S, hi, rfl, hR⟩ := hrel
      by_cases hin : i < n
      · obtain ⟨j, hj⟩ : ∃ j, i + j + 1 = n := ⟨n - 1 - i, by omega⟩
        have hjs : j < s.size := by omega
        obtain ⟨cv, hcv⟩ : ∃ v, s[j]'hjs = v := ⟨_, rfl⟩
        have hcx := hget.out i j hjs hj
        rw [hcv] at hcx
        obtain ⟨c, hc⟩ : ∃ c, cv.toNat = c := ⟨_, rfl⟩
        rw [hc] at hcx
        have hc256 : c < 256 := by rw [← hc]; exact cv.toNat_lt
        have hql : i / 4 < S.length := by rw [hR.len]; omega
        have hnx := hR.next (by omega) hql c hcx
        obtain ⟨q, hq⟩ : ∃ q, q = i / 4 := ⟨_, rfl⟩
        obtain ⟨r, hr⟩ : ∃ r, r = i % 4 := ⟨_, rfl⟩
        simp only [← hq, ← hr] at hnx hql
        have cS := hR.s.cell q hql
        have fS := hR.s.froz q
        obtain ⟨o, ho⟩ : ∃ o, o = S[q] := ⟨_, rfl⟩
        rw [← ho] at hnx cS
        obtain ⟨ho1, hnx⟩ := hnx
        have hor := or_byte o c r ho1
        have e1 : (n : Int) - 1 - (i : Int) = (j : Int) := by omega
        have e2 : (i : Int) / 4 = (q : Int) := by omega
        have e3 : (i : Int) % 4 = (r : Int) := by omega
        have i0 : (0 : Int) ≤ i := by omega
        have i1 : (i : Int) < n := by omega
        have q0 : (0 : Int) ≤ q := by omega
        have q1 : (q : Int) < m := by omega
        have j1 : (j : Int) < n := by omega
        have j2 : (0 : Int) ≤ j := by omega
        have hmix : Tryd.prog.follows .mixedOrders = true := by kernel_rfl
        have hr4 : r = 0 ∨ r = 1 ∨ r = 2 ∨ r = 3 := by omega
        have hn9 : n ≤ 160 := hl160
        have wq : IntKind.i64.wrap (q : Int) = q := by rw [IntKind.wrap_i64]; omega
        have wj : IntKind.i64.wrap (j : Int) = j := by rw [IntKind.wrap_i64]; omega
        have wn : IntKind.i64.wrap ((n : Int) - 1) = (n : Int) - 1 := by rw [IntKind.wrap_i64]; omega
        have qt : (q : Int).toNat = q := by omega
        clear hR hget hcx hj hq hr ho
        rcases hr4 with rfl | rfl | rfl | rfl
        · simp only [Nat.reducePow, Nat.mul_one] at hor hnx ho1
          replace e3 : (i : Int).tmod 4 = 0 := by rw [Int.tmod_eq_emod_of_nonneg i0]; omega
          have w8 : IntKind.i64.wrap 0 = 0 := by decide
          have w9 : IntKind.i64.wrap (8 * 0) = 0 := by decide
          generalize hz : o + _ = z at hor hnx
          have e4 : bits BinOp.or IntKind.u32 (o : Int) ((c : Int)) = (z : Int) := by
            rw [show ((c : Int) : Int) = ((c : Nat) : Int) by omega, u32_or_nat _ _ (by omega) (by omega), hor]
          have e5 : IntKind.u32.wrap ((c : Int)) = (c : Int) := by rw [IntKind.wrap_u32]; omega
          clear hz hor ho1
          go_upto_region 7 with fail
          go_still_tail 19, (by kernel_rfl)
          change wpList _ _ _ _ _ wr.drew
          go_wp2_with fail
          go_roundw
          case rel => exact ⟨i + 1, _, by omega, by go_num, hnx⟩
          case measure => simp [intOf]; omega
        · simp only [Nat.reducePow] at hor hnx ho1
          replace e3 : (i : Int).tmod 4 = 1 := by rw [Int.tmod_eq_emod_of_nonneg i0]; omega
          have w8 : IntKind.i64.wrap 8 = 8 := by decide
          have w9 : IntKind.i64.wrap (8 * 1) = 8 := by decide
          generalize hz : o + _ = z at hor hnx
          have e4 : bits BinOp.or IntKind.u32 (o : Int) ((c : Int) * 256) = (z : Int) := by
            rw [show ((c : Int) * 256 : Int) = ((c * 256 : Nat) : Int) by omega, u32_or_nat _ _ (by omega) (by omega), hor]
          have e5 : IntKind.u32.wrap ((c : Int) * 256) = (c : Int) * 256 := by rw [IntKind.wrap_u32]; omega
          clear hz hor ho1
          go_upto_region 7 with fail
          go_still_tail 19, (by kernel_rfl)
          change wpList _ _ _ _ _ wr.drew
          go_wp2_with fail
          go_roundw
          case rel => exact ⟨i + 1, _, by omega, by go_num, hnx⟩
          case measure => simp [intOf]; omega
        · simp only [Nat.reducePow] at hor hnx ho1
          replace e3 : (i : Int).tmod 4 = 2 := by rw [Int.tmod_eq_emod_of_nonneg i0]; omega
          have w8 : IntKind.i64.wrap 16 = 16 := by decide
          have w9 : IntKind.i64.wrap (8 * 2) = 16 := by decide
          generalize hz : o + _ = z at hor hnx
          have e4 : bits BinOp.or IntKind.u32 (o : Int) ((c : Int) * 65536) = (z : Int) := by
            rw [show ((c : Int) * 65536 : Int) = ((c * 65536 : Nat) : Int) by omega, u32_or_nat _ _ (by omega) (by omega), hor]
          have e5 : IntKind.u32.wrap ((c : Int) * 65536) = (c : Int) * 65536 := by rw [IntKind.wrap_u32]; omega
          clear hz hor ho1
          go_upto_region 7 with fail
          go_still_tail 19, (by kernel_rfl)
          change wpList _ _ _ _ _ wr.drew
          go_wp2_with fail
          go_roundw
          case rel => exact ⟨i + 1, _, by omega, by go_num, hnx⟩
          case measure => simp [intOf]; omega
        · simp only [Nat.reducePow] at hor hnx ho1
          replace e3 : (i : Int).tmod 4 = 3 := by rw [Int.tmod_eq_emod_of_nonneg i0]; omega
          have w8 : IntKind.i64.wrap 24 = 24 := by decide
          have w9 : IntKind.i64.wrap (8 * 3) = 24 := by decide
          generalize hz : o + _ = z at hor hnx
          have e4 : bits BinOp.or IntKind.u32 (o : Int) ((c : Int) * 16777216) = (z : Int) := by
            rw [show ((c : Int) * 16777216 : Int) = ((c * 16777216 : Nat) : Int) by omega, u32_or_nat _ _ (by omega) (by omega), hor]
          have e5 : IntKind.u32.wrap ((c : Int) * 16777216) = (c : Int) * 16777216 := by rw [IntKind.wrap_u32]; omega
          clear hz hor ho1
          go_upto_region 7 with fail
          go_still_tail 19, (by kernel_rfl)
          change wpList _ _ _ _ _ wr.drew
          go_wp2_with fail
          go_roundw
          case rel => exact ⟨i + 1, _, by omega, by go_num, hnx⟩
          case measure => simp [intOf]; omega
      · obtain rfl : i = n := by omega
        have hv := hR.val
        rw [hxn.out] at hv
        have hS := hR.s
        have hSl := hR.len
        have hSb := hR.lt
        have kb := hR.bx
        have hB2 := hR.m
        have htr := trim_any (some ⟨w.heap.size + 1, 0, none⟩) m S wr hS hSb (by omega)
        rw [hSl, hv] at htr
        clear hR hv hget hxn hSl
        go_wp2_with fail
        refine htr.mono ?_
        clear htr
        rintro r w3 ⟨q3, c3, rfl, hN, hb3, hq3⟩
        have k3 := Boxed.below' kb hb3 kb.lt
        have hB3 := hB2.trans (hb3.mono hB2.size)
        have hf3 : ∀ a, q3 = some a → a.block = w.heap.size + 1 := by
          rintro a rfl
          rcases hq3 with h | h
          · cases h
          · cases h; rfl
        have c4 := k3.cell
        have f4 := k3.frozen
        clear kb hB2 hb3 hq3 hS hSb
        go_wp2_with fail
        have c5 := (k3.set (.slice q3 (lb x).length c3)).cell
        refine bodyPost_ret (v := .tuple #[.agg #[.slice q3 (lb x).length c3], .bool true]) (by simp [results, Tryd.results41, go_sem, c5]) rfl ⟨q3, c3, rfl, ?_, ?_, fun a e => by have := hf3 a e; omega⟩
        · exact hN.other ⟨w.heap.size, 0, none⟩ _ (fun a e => by have := hf3 a e; show a.block ≠ w.heap.size; omega)
        · exact hB3.setCell (p := ⟨w.heap.size, 0, none⟩) (Nat.le_refl _) _
end Go.Proofs.YtepibfpdkjkdjaaDoor
