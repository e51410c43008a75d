import Derived.Test.YtepibfpdkjkdjaaDoorN7
import Derived.Test.YtepibfpdkjkdjaaDoorLaw2
import Derived.Deep.LoopGhost
namespace Go.Proofs.YtepibfpdkjkdjaaDoor
open Go.RowKit

theorem digits_le {D n x : Nat} (h : 10 ^ D ≤ x) (hx : x < 4294967296 ^ n) : D ≤ 10 * n := by
  apply Nat.le_of_not_lt; intro hlt
  have h1 : (10 : Nat) ^ (10 * n) ≤ 10 ^ D := Nat.pow_le_pow_right (by decide) (by omega)
  have h2 : (4294967296 : Nat) ^ n ≤ (10 ^ 10) ^ n := Nat.pow_le_pow_left (by decide) n
  rw [← Nat.pow_mul] at h2
  omega
/-- What Text has laid by. -/
structure TxtR (w : World) (x gl : Nat) (D : List Nat) (pd : Option Addr) (cd : Nat) (wr : World) : Prop where
  s : Sl .u8 5 wr pd cd (D.map (48 + ·))
  lt : ∀ z ∈ D, z < 10
  m : Below w.heap.size w wr
  fd : ∀ a, pd = some a → gl < a.block
  lo : w.heap.size ≤ gl
  gs : gl < wr.heap.size
theorem TxtR.mod {w : World} {x gl : Nat} {D : List Nat} {pd : Option Addr} {cd : Nat} {wr w' : World} {S : Nat → Prop} (h : TxtR w x gl D pd cd wr) (hm : Mod S wr w') (hS : ∀ i, i < w.heap.size → ¬ S i) (hp : ∀ a, pd = some a → ¬ S a.block) : TxtR w x gl D pd cd w' :=
  ⟨h.s.kept hm hp, h.lt, h.m.trans (hm.to_below h.m.size (fun i hi => hS i hi)), h.fd, h.lo, Nat.lt_of_lt_of_le h.gs hm.size⟩
theorem TxtR.below {w : World} {x gl : Nat} {D : List Nat} {pd : Option Addr} {cd : Nat} {wr w' : World} (h : TxtR w x gl D pd cd wr) (hb : Below wr.heap.size wr w') : TxtR w x gl D pd cd w' :=
  h.mod (Mod.of_below hb) (fun i hi hle => by have := h.m.size; omega) (fun a e hle => by subst e; have := h.s.lt; omega)
theorem TxtR.push {w : World} {x gl d t : Nat} {D : List Nat} {pd pq : Option Addr} {cd cq : Nat} {wr w' : World} (h : TxtR w x gl D pd cd wr) (hP : Pushed .u8 5 wr pd (D.map (48 + ·) ++ [t]) pq cq w') (ht : t = 48 + d) (hd : d < 10) : TxtR w x gl (D ++ [d]) pq cq w' := by
  obtain ⟨hS, hm, g, rfl, hor⟩ := hP
  have hfd := h.fd
  have hlo := h.lo
  refine ⟨by rw [List.map_append, List.map_singleton, ← ht]; exact hS, ?_, h.m.trans (hm.to_below h.m.size (by rintro i hi ⟨a, e, he⟩; have := hfd a e; omega)), ?_, hlo, Nat.lt_of_lt_of_le h.gs hm.size⟩
  · intro z hz
    rcases List.mem_append.1 hz with hz | hz
    · exact h.lt z hz
    · rw [List.mem_singleton.1 hz]; exact hd
  · rintro a e
    cases e
    rcases hor with hor | hor
    · exact hfd _ hor
    · exact Nat.lt_of_lt_of_le h.gs hor
theorem dec_of {x : Nat} {D : List Nat} (hx : x ≠ 0) (hD : ∀ z ∈ D, z < 10) (hv : vl 10 D = x) : (chars (D.map (48 + ·))).reverse.dropWhile (· == 48) = dec x := by
  rw [trim_chars D hD, hv, dec, if_neg hx]
theorem chars_rev (l : List Nat) : chars l.reverse = (chars l).reverse := by simp [chars]

set_option maxHeartbeats 4000000 in
theorem text_any (p : Option Addr) (cp x : Nat) (w : World) (hx : NatIn w p cp x) (lx : (lb x).length ≤ 100000) :
    Calls Tryd.prog 21 #[.agg #[.slice p (lb x).length cp]] w fun r w' => r = .returned (.string ⟨(dec x).toArray⟩) ∧ Below w.heap.size w w' := by
  by_cases hx0 : x = 0
  · subst hx0
    have e0 : (0 == 0) = true := rfl
    go_enter Tryd.func21, Tryd.ntmps21
    go_wp2_with fail
    refine (zero_any p cp 0 _).mono ?_
    rintro r w1 ⟨rfl, hb⟩
    have hB : Below w.heap.size w w1 := ((Below.refl _ _).alloc (Nat.le_refl _) _).trans (hb.mono (by simp))
    clear hb
    go_wp2_with fail
    go_ret
    exact ⟨rfl, hB⟩
  · have e0 : (x == 0) = false := by rw [beq_eq_false_iff_ne]; exact hx0
    go_enter Tryd.func21, Tryd.ntmps21
    go_wp2_with fail
    refine (zero_any p cp x _).mono ?_
    rintro r w1 ⟨rfl, hb⟩
    have k1 : Boxed w1 w.heap.size 25 (.slice p (lb x).length cp) := Boxed.below' (Boxed.new w _ _) hb (by simp)
    have hB : Below w.heap.size w w1 := ((Below.refl _ _).alloc (Nat.le_refl _) _).trans (hb.mono (by simp))
    have hx1 := hx.old hB
    have c1 := k1.cell
    clear hb k1
    go_wp2_with fail
    refine (clone_any p cp (lb x) w1 hx1 (by omega)).mono ?_
    rintro r w2 ⟨q, c, rfl, hS2, hb2, hf2⟩
    have hB2 := hB.trans (hb2.mono hB.size)
    have hf2' : ∀ a, q = some a → a.block < w2.heap.size := by rintro a rfl; exact hS2.lt
    have hgl : w.heap.size ≤ w2.heap.size := hB2.size
    have hB3 : Below w.heap.size w (w2.alloc (.cells #[.slice q (lb x).length c] 25)) := hB2.alloc hgl _
    have k4 := Boxed.new w2 25 (.slice q (lb x).length c)
    have hS3 : NatIn (w2.alloc (.cells #[.slice q (lb x).length c] 25)) q c x := hS2.alloc _
    have hsz : w2.heap.size < (w2.alloc (.cells #[.slice q (lb x).length c] 25)).heap.size := by simp
    have hf3 : ∀ a, q = some a → w.heap.size ≤ a.block := fun a e => Nat.le_trans hB.size (hf2 a e)
    clear hx hx1 c1 hB hS2 hb2 hf2 hB2
    go_wp2_with fail
    generalize (w2.alloc (.cells #[.slice q (lb x).length c] 25)) = W at hB3 k4 hS3 hsz ⊢
    generalize w2.heap.size = gl at hf2' hgl k4 hsz ⊢
    have hbd : Hid (∀ (D : List Nat) (y : Nat), vl 10 D + 10 ^ D.length * y = x → y ≠ 0 → D.length ≤ 1000000) := Lib.hid (by
      intro D y h hy
      have h1 : 10 ^ D.length * 1 ≤ 10 ^ D.length * y := Nat.mul_le_mul_left _ (by omega)
      have := digits_le (show 10 ^ D.length ≤ x by omega) (lt_pow_dg 4294967296 (by decide) x)
      change D.length ≤ 10 * (lb x).length at this
      omega)
    have hR0 : TxtR w x gl [] none 0 W := ⟨Sl.empty _ _ _, by simp, hB3, (fun a h => by cases h), hgl, hsz⟩
    go_loopg [3] (x + 1) (fun k s3 wr => ∃ (D : List Nat) (pd : Option Addr) (cd y : Nat) (q : Option Addr) (c nd : Nat), s3 = .slice pd nd cd ∧ Hid (nd = D.length) ∧ nd ≤ 1000009 ∧ y < k ∧ TxtR w x gl D pd cd wr ∧ Hid (vl 10 D + 10 ^ D.length * y = x) ∧ (lb y).length ≤ 100000 ∧
      Boxed wr gl 25 (.slice q (lb y).length c) ∧ NatIn wr q c y ∧ (∀ a, q = some a → w.heap.size ≤ a.block ∧ a.block ≠ gl ∧ ∀ b, pd = some b → b.block ≠ a.block))
    case atStart => exact ⟨[], none, 0, x, q, c, 0, rfl, rfl, by omega, by omega, hR0, Lib.hid (by simp [vl]), lx, k4, hS3, fun a e => ⟨hf3 a e, by have := hf2' a e; omega, fun b h => by cases h⟩⟩
    case round =>
      clear hR0 hB3 k4 hS3 hsz hf3 hf2'
      obtain ⟨D, pd, cd, y, q, c, nd, rfl, hnd, hnb, hyk, hR, hval, ly, kb, hN, hq⟩ := hrel
      have c4 := kb.cell
      by_cases hy0 : y = 0
      · subst hy0
        have ey : (0 == 0) = true := rfl
        go_wp2_with fail
        refine (zero_any q c 0 wr).mono ?_
        rintro r w1 ⟨rfl, hb⟩
        have hR1 := hR.below hb
        clear c4 kb hN hq hb hR
        have hv := hval.out
        rw [Nat.mul_zero, Nat.add_zero] at hv
        have hDne : D.map (48 + ·) ≠ [] := by intro e; have : D = [] := by simpa using e
                                              subst this; simp [vl] at hv; omega
        obtain ⟨g, rfl⟩ := hR1.s.isPtr hDne
        have hg := hR1.fd _ rfl
        have hgw : w.heap.size ≤ g := by have := hR1.lo; have : gl < g := hg; omega
        have hrv := reverse_any g cd (D.map (48 + ·)) w1 hR1.s (by rw [List.length_map, ← hnd.out]; omega)
        rw [List.length_map, ← hnd.out] at hrv
        go_wp2_with fail
        refine hrv.mono ?_
        clear hrv
        rintro r w2 ⟨rfl, hS2, hm2⟩
        obtain ⟨R, hRe⟩ : ∃ R, R = (D.map (48 + ·)).reverse := ⟨_, rfl⟩
        rw [← hRe] at hS2
        have hcv := conv_str (some ⟨g, 0, none⟩) cd nd R (by rw [hRe, List.length_reverse, List.length_map, hnd.out]) w2 hS2
        have hB2 : Below w.heap.size w w2 := hR1.m.trans (hm2.to_below hR1.m.size (by intro k hk h; omega))
        have hfin : Hid ((chars R).dropWhile (· == 48) = dec x) := Lib.hid (by rw [hRe, chars_rev, dec_of hx0 hR1.lt hv])
        have HRe := Lib.hid hRe
        have Hv := Lib.hid hv
        clear hRe hv hS2 hm2 hR1 hg hgw
        go_wp2_with fail
        refine (trimleft_any (chars R) 48 (by decide) w2).mono ?_
        rintro r w3 ⟨rfl, rfl⟩
        rw [hfin.out]
        clear hcv
        go_wp2_with fail
        go_ret
        exact ⟨rfl, hB2⟩
      · have ey : (y == 0) = false := by rw [beq_eq_false_iff_ne]; exact hy0
        go_wp2_with fail
        refine (zero_any q c y wr).mono ?_
        rintro r w1 ⟨rfl, hb⟩
        have hR1 := hR.below hb
        have kb1 := Boxed.below' kb hb hR.gs
        have hN1 := hN.old hb
        have c1 := kb1.cell
        clear c4 kb hN hb hR
        go_wp2_with fail
        have hdv := divide_any q c y 1000000000 (lb y) w1 hN1 rfl (by omega) (by decide) (by decide)
        refine hdv.mono ?_
        clear hdv
        rintro r w2 ⟨rfl, S, hSl, hSb, hSv, hS2, hm2⟩
        have hR2 := hR1.mod hm2 (fun i hi h => by obtain ⟨a, e, h⟩ := h; have := (hq a e).1; omega) (fun b e h => by obtain ⟨a, e', h⟩ := h; exact (hq a e').2.2 b e h)
        have kb2 := Boxed.mod' kb1 hm2 (by rintro ⟨a, e, h⟩; exact (hq a e).2.1 h.symm)
        have c2 := kb2.cell
        obtain ⟨y', hy'⟩ : ∃ y', y' = y / 1000000000 := ⟨_, rfl⟩
        obtain ⟨r0, hr0⟩ : ∃ r0, r0 = y % 1000000000 := ⟨_, rfl⟩
        rw [← hy'] at hSv
        rw [← hr0]
        have HSl := Lib.hid hSl
        have HSv := Lib.hid hSv
        have hval1 : Hid (vl 10 D + 10 ^ D.length * (r0 + 10 ^ 9 * y') = x) := Lib.hid (by rw [← hval.out, hr0, hy']; congr 2; exact Nat.mod_add_div y 1000000000)
        have hr9 : r0 < 10 ^ 9 := by rw [hr0]; exact Nat.mod_lt _ (by decide)
        have hyl : y' < y := by rw [hy']; exact Nat.div_lt_self (by omega) (by decide)
        have ly' : (lb y').length ≤ 100000 := Nat.le_trans (dg_len_mono 4294967296 (by decide) (Nat.le_of_lt hyl)) ly
        clear c1 kb1 hN1 hm2 hR1 hSl hSv hy' hr0
        go_wp2_with fail
        have htr := trim_any q c S w2 hS2 hSb (by rw [HSl.out]; omega)
        rw [HSl.out, HSv.out] at htr
        refine htr.mono ?_
        clear htr
        rintro r w3 ⟨q3, c3, rfl, hN3, hb3, hq3⟩
        have hR3 := hR2.below hb3
        have kb3 := Boxed.below' kb2 hb3 hR2.gs
        have hq3' : ∀ a, q3 = some a → w.heap.size ≤ a.block ∧ a.block ≠ gl ∧ ∀ b, pd = some b → b.block ≠ a.block := by
          rintro a rfl
          rcases hq3 with h | h
          · cases h
          · exact hq a h.symm
        have c4 := kb3.cell
        have f4 := kb3.frozen
        have hR4 := hR3.mod ((Mod.refl (· = gl) w3).setCell (p := ⟨gl, 0, none⟩) (fun _ => rfl) (.slice q3 (lb y').length c3)) (fun i hi h => by have := hR3.lo; omega) (fun b e h => by have := hR3.fd b e; omega)
        have kb4 : Boxed (w3.setCell ⟨gl, 0, none⟩ (.slice q3 (lb y').length c3)) gl 25 (.slice q3 (lb y').length c3) := kb3.set _
        have hN4 : NatIn (w3.setCell ⟨gl, 0, none⟩ (.slice q3 (lb y').length c3)) q3 c3 y' := hN3.other ⟨gl, 0, none⟩ _ (fun a e => (hq3' a e).2.1)
        clear c2 kb2 hR2 hS2 hb3 hq3 hq hN3 hR3 hSb kb3
        have hnb6 : nd ≤ 1000000 := by rw [hnd.out]; exact hbd.out D y hval.out hy0
        go_wp2_with fail
        generalize w3.setCell ⟨gl, 0, none⟩ (.slice q3 (lb y').length c3) = W4 at hR4 kb4 hN4 ⊢
        clear c4 f4
        obtain ⟨wo, rfl⟩ : ∃ wo : World, wo = wr := ⟨_, rfl⟩
        go_loopw [3, 5, 21] (fun s3 s5 s21 wr => ∃ (j k r : Nat) (D : List Nat) (pd : Option Addr) (cd nd : Nat), j + k = 9 ∧ nd + k ≤ 1000009 ∧ s21 = .int .i64 (j : Int) ∧ s5 = .int .u32 (r : Int) ∧ Hid (r < 10 ^ k) ∧ r < 1000000000 ∧ s3 = .slice pd nd cd ∧ Hid (nd = D.length) ∧ TxtR w x gl D pd cd wr ∧ Hid (vl 10 D + 10 ^ D.length * (r + 10 ^ k * y') = x) ∧
          Boxed wr gl 25 (.slice q3 (lb y').length c3) ∧ NatIn wr q3 c3 y' ∧ (∀ a, q3 = some a → w.heap.size ≤ a.block ∧ a.block ≠ gl ∧ ∀ b, pd = some b → b.block ≠ a.block)) (fun _ _ j _ => 9 - (intOf j).toNat)
        case atStart => exact ⟨0, 9, r0, D, pd, cd, nd, rfl, by omega, rfl, rfl, hr9, hr9, rfl, hnd, hR4, hval1, kb4, hN4, hq3'⟩
        case round =>
          clear hR4 kb4 hN4 hq3' hval1 hval hnd hr9
          obtain ⟨j, k, r, D, pd, cd, nd, hjk, hnk, rfl, rfl, hr, hr9, rfl, hnd, hR, hval, kb, hN, hq⟩ := hrel
          by_cases hj9 : j < 9
          · obtain ⟨k', rfl⟩ : ∃ k', k = k' + 1 := ⟨k - 1, by omega⟩
            have hv2 := take_digit D r k' y' x hval.out
            have hr2 : r / 10 < 10 ^ k' := by have := hr.out; rw [Nat.pow_succ] at this; omega
            obtain ⟨d, hd⟩ : ∃ d, d = r % 10 := ⟨_, rfl⟩
            obtain ⟨t, ht⟩ : ∃ t, t = 48 + d := ⟨_, rfl⟩
            obtain ⟨r', hr'⟩ : ∃ r', r' = r / 10 := ⟨_, rfl⟩
            rw [← hd, ← hr'] at hv2
            rw [← hr'] at hr2
            have e1 : (r : Int) % 10 = d := by omega
            have e2 : (d : Int) % 256 = d := by omega
            have e3 : (48 + (d : Int)) = t := by omega
            have e4 : (48 + (d : Int)) % 256 = t := by omega
            have e5 : (r : Int) / 10 = r' := by omega
            have e6 : (t : Int) % 256 = t := by omega
            have hd10 : d < 10 := by omega
            have Hv2 := Lib.hid hv2
            have Ht := Lib.hid ht
            have Hr2 := Lib.hid hr2
            have hr9' : r' < 1000000000 := by omega
            have hDm : (D.map (48 + ·)).length = nd := by rw [List.length_map, hnd.out]
            have HDm := Lib.hid hDm
            clear hv2 hd ht hr' hr2 hval hr hDm
            go_wp2_with (at_builtin; refine wpList_push rfl _ _ .u8 71 5 (.int .u8 0) 1 rfl Tryd.underlying71 info_u8 rfl (by decide) pd cd nd 1 (D.map (48 + ·)) [t] HDm.out rfl (by decide) rfl hR.s rfl (by omega) ?_; intro pq cq W5 hP)
            have hR5 := hR.push hP Ht.out hd10
            obtain ⟨hS5, hm5, gq, rfl, hor⟩ := hP
            have hfd := hR.fd
            have kb5 := Boxed.mod' kb hm5 (by rintro ⟨a, e, he⟩; have := hfd a e; omega)
            have hN5 : NatIn W5 q3 c3 y' := hN.kept hm5 (by rintro a e ⟨b, e', he⟩; exact (hq a e).2.2 b e' he.symm)
            have hq5 : ∀ a, q3 = some a → w.heap.size ≤ a.block ∧ a.block ≠ gl ∧ ∀ b, (some ⟨gq, 0, none⟩ : Option Addr) = some b → b.block ≠ a.block := by
              intro a e
              refine ⟨(hq a e).1, (hq a e).2.1, ?_⟩
              intro b hb
              cases hb
              rcases hor with hor | hor
              · exact (hq a e).2.2 _ hor
              · subst e; have := hN.lt; show gq ≠ a.block; omega
            clear hS5 hm5 hor hfd hR kb hN hq
            go_wp2_with fail
            go_roundw
            case rel => exact ⟨j + 1, k', r', D ++ [d], some ⟨gq, 0, none⟩, cq, nd + 1, by omega, by omega, by go_num, rfl, Hr2.out, hr9', rfl, Lib.hid (by rw [List.length_append, hnd.out]; rfl), hR5, Hv2.out, kb5, hN5, hq5⟩
            case measure => simp [intOf]; omega
          · obtain rfl : j = 9 := by omega
            obtain rfl : k = 0 := by omega
            have hv := hval.out
            have hr0 : r = 0 := by have := hr.out; rw [Nat.pow_zero] at this; omega
            rw [hr0, Nat.pow_zero, Nat.one_mul, Nat.zero_add] at hv
            have Hv := Lib.hid hv
            clear hv hr0 hval
            go_wp2_with fail
            go_roundg (y' + 1)
            case measure => omega
            case rel => exact ⟨D, pd, cd, y', q3, c3, nd, rfl, hnd, by omega, by omega, hR, Hv, ly', kb, hN, hq⟩
end Go.Proofs.YtepibfpdkjkdjaaDoor
