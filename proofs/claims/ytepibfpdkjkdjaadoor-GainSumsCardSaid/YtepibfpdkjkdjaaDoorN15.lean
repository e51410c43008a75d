/- The law's numbers: Of. -/
import Derived.Test.YtepibfpdkjkdjaaDoorN14
namespace Go.Proofs.YtepibfpdkjkdjaaDoor
open Go.RowKit

/-- What the law's Of answers. -/
def OfOut (w : World) (n : Nat) (r : Ending) (w' : World) : Prop :=
  ∃ q c q' c' x, r = .returned (.tuple #[.agg #[.slice q (lb x).length c], .slice q' (dg 10 x).length c']) ∧ Hid (x < 10 ^ n) ∧ NatIn w' q c x ∧ DecIn w' q' c' x ∧ Below w.heap.size w w' ∧ (∀ a, q = some a → w.heap.size ≤ a.block) ∧ (∀ a, q' = some a → w.heap.size ≤ a.block)

theorem num_lt (l : List UInt8) (h : l.all isD = true) : num l < 10 ^ l.length := by
  suffices hh : ∀ k, k ≤ l.length → num (l.take k) < 10 ^ k by
    have := hh l.length (Nat.le_refl _); rwa [List.take_length] at this
  intro k
  induction k with
  | zero => intro _; simp [num]
  | succ k ih =>
    intro hk
    have h1 := ih (by omega)
    rw [num_take l k (by omega), Nat.pow_succ]
    have h2 := List.all_eq_true.1 h l[k] (List.getElem_mem _)
    unfold isD at h2; simp at h2; omega

/-- While the digits are gathered. -/
structure GatR (w : World) (n : Nat) (t : List UInt8) (S : ByteArray) (wr : World) : Prop where
  s : S = ⟨t.toArray⟩
  len : t.length ≤ n
  dig : t.all isD = true
  head : t.head? ≠ some 48
  bx : Boxed wr w.heap.size 25 (.slice none 0 0)
  m : Below w.heap.size w wr

theorem GatR.next {w : World} {n : Nat} {t : List UInt8} {S : ByteArray} {wr : World} (h : GatR w n t S wr) (d : Nat) (hd : d < 10) (h0 : t ≠ [] ∨ 0 < d) (hn : t.length < n) (o : Obj) : GatR w n (t ++ [UInt8.ofNat (48 + d)]) (S ++ ⟨#[UInt8.ofNat (48 + d)]⟩) (wr.alloc o) := by
  have hv : (UInt8.ofNat (48 + d)).toNat = 48 + d := UInt8.toNat_ofNat_of_lt' (by show 48 + d < 256; omega)
  refine ⟨?_, by rw [List.length_append]; exact hn, ?_, ?_, h.bx.alloc _, h.m.alloc h.m.size _⟩
  · rw [h.s]; exact ByteArray.mk_append_mk t [UInt8.ofNat (48 + d)]
  · rw [List.all_append, h.dig]
    have : isD (UInt8.ofNat (48 + d)) = true := by unfold isD; rw [hv]; simp; omega
    rw [List.all_cons, List.all_nil, this]; rfl
  · cases t with
    | nil =>
      intro e
      have e2 : UInt8.ofNat (48 + d) = 48 := Option.some.inj e
      have := congrArg UInt8.toNat e2
      rw [hv] at this
      have h48 : (48 : UInt8).toNat = 48 := rfl
      rw [h48] at this
      rcases h0 with h0 | h0
      · exact h0 rfl
      · omega
    | cons a l => exact h.head

theorem isNum_gat {t : List UInt8} (h0 : t ≠ []) (h4 : t.length ≤ 400) (hd : t.all isD = true) (hh : t.head? ≠ some 48) : isNum t = true := by
  rw [isNum_of h0 h4 (.inl hh)]; exact hd

set_option maxHeartbeats 2000000 in
set_option maxRecDepth 20000 in
theorem lawOf_any (s : ByteArray) (n : Nat) (w : World) (hs : s.size ≤ maxLen) (hn : n ≤ 400) (hn0 : 0 < n) :
    Calls Tryd.prog 17 #[.string s, .int .i64 (n : Int)] w (OfOut w n) := by
  unfold maxLen at hs
  obtain ⟨N, hN⟩ : ∃ N, s.size = N := ⟨_, rfl⟩
  rw [hN] at hs
  have HN := Lib.hid hN
  have Hs := Lib.hid hs
  have hK : GatR w n [] ⟨#[]⟩ (w.alloc (.cells #[.slice none 0 0] 25)) := ⟨rfl, by simp, rfl, by simp, Boxed.new w _ _, (Below.refl _ _).alloc (Nat.le_refl _) _⟩
  clear hs
  go_enter Tryd.func17, Tryd.ntmps17
  go_upto_block 0 with fail
  generalize (w.alloc (.cells #[.slice none 0 0] 25)) = W at hK ⊢
  go_cut [6] (fun s6 wr => ∃ (t : List UInt8) (S : ByteArray), s6 = .string S ∧ GatR w n t S wr)
  case first =>
    go_wp2_with fail
    go_loopw [6, 7] (fun s6 s7 wr => ∃ (t : List UInt8) (S : ByteArray) (i : Nat), s6 = .string S ∧ s7 = .int .i64 (i : Int) ∧ i ≤ N ∧ GatR w n t S wr) (fun _ i _ => N - (intOf i).toNat)
    case atStart => exact ⟨[], ⟨#[]⟩, 0, rfl, rfl, by omega, hK⟩
    case round =>
      clear hK
      obtain ⟨t, S, i, rfl, rfl, hi, hR⟩ := hrel
      by_cases hin : i < N
      · obtain ⟨m, hm⟩ : ∃ m, S.size = m := ⟨_, rfl⟩
        have hmt : m = t.length := by rw [← hm, hR.s]; rfl
        have hlen := hR.len
        have b1 : (i : Int) < N := by omega
        have b2 : (0 : Int) ≤ i := by omega
        by_cases hmn : m < n
        · have b3 : (m : Int) < n := by omega
          have hw1 : IntKind.i64.wrap ((i : Int) + 1) = (i : Int) + 1 := by have := Hs.out; rw [IntKind.wrap_i64]; omega
          have hp : i < s.size := by omega
          obtain ⟨cv, hcv⟩ : ∃ v, s[i]'hp = v := ⟨_, rfl⟩
          obtain ⟨v, hv⟩ : ∃ v, cv.toNat = v := ⟨_, rfl⟩
          have hv256 : v < 256 := by rw [← hv]; exact cv.toNat_lt
          obtain ⟨d, hd⟩ : ∃ d, d = v % 16 := ⟨_, rfl⟩
          have e1 : (v : Int) % 16 = d := by omega
          obtain ⟨b, hb⟩ : ∃ b, (S.toList == []) = b := ⟨_, rfl⟩
          have hbt : b = true ↔ t = [] := by rw [← hb, hR.s, ByteArray.toList_mk]; simp
          have Hbt := Lib.hid hbt
          have Hmt := Lib.hid hmt
          clear hd hbt hmt
          by_cases hd10 : d < 10
          · have a1 : (d : Int) < 10 := by omega
            by_cases hbb : b = true ∧ d = 0
            · obtain ⟨rfl, rfl⟩ := hbb
              go_wp2_with fail
              go_roundw
              case rel => exact ⟨t, S, i + 1, rfl, by go_num, by omega, hR⟩
              case measure => simp [intOf]; omega
            · have h0 : t ≠ [] ∨ 0 < d := by
                by_cases h : t = []
                · right
                  have : ¬ d = 0 := fun e => hbb ⟨Hbt.out.2 h, e⟩
                  omega
                · exact .inl h
              have hfacts : b = false ∨ (b = true ∧ (0 : Int) < d) := by
                cases b
                · exact .inl rfl
                · exact .inr ⟨rfl, by have : ¬ d = 0 := fun e => hbb ⟨rfl, e⟩; omega⟩
              have hnx := fun o => hR.next d hd10 h0 (by rw [← Hmt.out]; exact hmn) o
              have hcv2 : (convert 71 9 (.slice (some ⟨wr.heap.size, 0, none⟩) 1 1)).run Tryd.prog (wr.alloc (.cells #[.int .u8 ((48 + d : Nat) : Int)] 5)) = .ok (.string ⟨#[UInt8.ofNat (48 + d)]⟩) (wr.alloc (.cells #[.int .u8 ((48 + d : Nat) : Int)] 5)) := conv_str (some ⟨wr.heap.size, 0, none⟩) 1 1 [48 + d] rfl _ (Sl.made (k := .u8) (T := 5) wr [48 + d] (by simp [maxLen]))
              obtain ⟨x, hx⟩ : ∃ x, x = 48 + d := ⟨_, rfl⟩
              have e3 : (48 + (d : Int)) = x := by omega
              have e4 : (48 + (d : Int)) % 256 = x := by omega
              have e6 : (x : Int) % 256 = x := by omega
              rw [← hx] at hcv2 hnx
              have hR2 : GatR w n _ _ (wr.alloc (.cells #[.int .u8 (x : Int)] 5)) := hnx (.cells #[.int .u8 (x : Int)] 5)
              clear hx hnx hbb h0 hR hlen hi hin hmn hv256 hd10
              obtain ⟨S2, hS2⟩ : ∃ S2, S2 = S ++ ⟨#[UInt8.ofNat x]⟩ := ⟨_, rfl⟩
              rw [← hS2] at hR2
              have HS2 := Lib.hid hS2
              clear hS2
              rcases hfacts with rfl | ⟨rfl, hd0⟩
              all_goals
                go_wp2_with fail
                go_roundw
                case rel => exact ⟨_, _, i + 1, rfl, by go_num, by omega, by rw [HS2.out] at hR2; exact hR2⟩
                case measure => simp [intOf]; omega
          · have a1 : ¬ (d : Int) < 10 := by omega
            go_wp2_with fail
            go_roundw
            case rel => exact ⟨t, S, i + 1, rfl, by go_num, by omega, hR⟩
            case measure => simp [intOf]; omega
        · have b3 : ¬ (m : Int) < n := by omega
          go_wp2_with fail
          go_meet
          exact ⟨t, S, rfl, hR⟩
      · have b1 : ¬ (i : Int) < N := by omega
        go_wp2_with fail
        go_meet
        exact ⟨t, S, rfl, hR⟩
  case rest =>
    obtain ⟨t, S, rfl, hA⟩ := hcut
    clear hK
    rename World => wz
    obtain ⟨b, hb⟩ : ∃ b, (S.toList == []) = b := ⟨_, rfl⟩
    have hSt := hA.s
    have hbt : b = true ↔ t = [] := by rw [← hb, hSt, ByteArray.toList_mk]; simp
    have hbx := hA.bx
    have hm := hA.m
    cases b
    case' true =>
      obtain ⟨T, hT⟩ : ∃ T : List UInt8, T = [48] := ⟨_, rfl⟩
      have hnum : Hid (isNum T = true) := Lib.hid (by rw [hT]; decide)
      have hlt : Hid (num T < 10 ^ n) := Lib.hid (by rw [hT]; exact Nat.pow_pos (by decide))
      have hp : Calls Tryd.prog 39 #[.string ⟨#[48]⟩] wz (Parsed wz T) := by rw [hT]; exact parse_any [48] wz (by decide)
      have hrp : Hid (∀ w, Calls Tryd.prog 40 #[.string ⟨#[48]⟩] w (RParsed w T)) := Lib.hid (by intro w; rw [hT]; exact rparse_any [48] w (by decide))
      clear hT
    case' false =>
      have htne : t ≠ [] := fun e => by have := hbt.2 e; cases this
      obtain ⟨T, hT⟩ : ∃ T : List UInt8, T = t := ⟨_, rfl⟩
      have hl400 : t.length ≤ 400 := Nat.le_trans hA.len hn
      have hnum : Hid (isNum T = true) := Lib.hid (by rw [hT]; exact isNum_gat htne hl400 hA.dig hA.head)
      have hlt : Hid (num T < 10 ^ n) := Lib.hid (by rw [hT]; exact Nat.lt_of_lt_of_le (num_lt t hA.dig) (Nat.pow_le_pow_right (by decide) hA.len))
      have hp : Calls Tryd.prog 39 #[.string S] wz (Parsed wz T) := by rw [hT, hSt]; exact parse_any t wz (Nat.le_trans hl400 (by decide))
      have hrp : Hid (∀ w, Calls Tryd.prog 40 #[.string S] w (RParsed w T)) := Lib.hid (by intro w; rw [hT, hSt]; exact rparse_any t w (Nat.le_trans hl400 (by decide)))
      clear hT htne hl400
    all_goals
      clear hbt hSt hA hn hn0
      go_wp2_with fail
      refine hp.mono ?_
      clear hp
      rintro r w1 ⟨q, c, x, rfl, hx, hN1, hb1, hq1⟩
      rw [hnum.out]
      have hxx : x = num T := by have := hx.out; rw [hnum.out] at this; exact this
      have hsz := hm.size
      have hbx1 := Boxed.below' hbx hb1 hbx.lt
      have hm1 := hm.trans (hb1.mono hsz)
      have hk1 := Boxed.new w1 25 (.slice q (lb x).length c)
      have hN2 := hN1.alloc (.cells #[.slice q (lb x).length c] 25)
      have hbx2 := hbx1.alloc (.cells #[.slice q (lb x).length c] 25)
      have hm2 := hm1.alloc hm1.size (.cells #[.slice q (lb x).length c] 25)
      have hw1 := hm1.size
      have hq1' : ∀ a, q = some a → wz.heap.size ≤ a.block ∧ a.block < w1.heap.size := fun a e => ⟨hq1 a e, by subst e; exact hN1.lt⟩
      have hwz1 := hb1.size
      have hzl := hbx.lt
      have Hxx := Lib.hid hxx
      clear hx hxx hb1 hbx hm hbx1 hN1 hq1 hm1
      go_wp2_with fail
      have hsz1 : w1.heap.size < (w1.alloc (.cells #[.slice q (lb x).length c] 25)).heap.size := by simp
      generalize (w1.alloc (.cells #[.slice q (lb x).length c] 25)) = w2 at hk1 hN2 hbx2 hm2 hsz1 ⊢
      generalize w1.heap.size = g9 at hk1 hq1' hwz1 hsz1 hw1 ⊢
      refine (hrp.out _).mono ?_
      clear hrp
      rintro r w3 ⟨q', c', y, rfl, hy, hD3, hb3, hq3⟩
      have hyy : y = x := by have := hy.out; rw [hnum.out] at this; rw [Hxx.out]; exact this
      subst hyy
      rw [hnum.out]
      have hk3 := Boxed.below' hk1 hb3 hsz1
      have hN3 := hN2.old hb3
      have hbx3 := Boxed.below' hbx2 hb3 hbx2.lt
      have hm3 := hm2.trans (hb3.mono hm2.size)
      have c9 := hk3.cell
      have f4 := hbx3.frozen
      have c4 := hbx3.cell
      have hbs := hbx3.set (.slice q (lb y).length c)
      have cb2 := hbs.cell
      have hm2s := hm2.size
      clear hb3 hk1 hN2 hbx2 hm2 hy
      go_wp2_with fail
      refine bodyPost_ret (v := .tuple #[.agg #[.slice q (lb y).length c], .slice q' (dg 10 y).length c']) (by simp [results, Tryd.results17, go_sem, cb2]) rfl ⟨q, c, q', c', y, rfl, ?_, ?_, ?_, ?_, ?_, ?_⟩
      · rw [Hxx.out]; exact hlt
      · exact hN3.other ⟨w.heap.size, 0, none⟩ _ (fun a e => by have := hq1' a e; show a.block ≠ w.heap.size; omega)
      · exact hD3.other ⟨w.heap.size, 0, none⟩ _ (fun a e => by have := hq3 a e; show a.block ≠ w.heap.size; omega)
      · exact hm3.setCell (p := ⟨w.heap.size, 0, none⟩) (Nat.le_refl _) _
      · intro a e; have := hq1' a e; omega
      · intro a e; have := hq3 a e; omega
end Go.Proofs.YtepibfpdkjkdjaaDoor
