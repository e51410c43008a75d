/- The law HeaderReads. -/
import Derived.Test.YtkejidmomnmdbaaDoorH22
namespace Go.Proofs.YtkejidmomnmdbaaDoor
open Go.RowKit

theorem beBytes_val : ∀ (l : List UInt8), (∀ d r, l = d :: r → d.toNat ≠ 0) → beBytes (beVal l) = l := by
  intro l
  induction hn : l.length using Nat.strongRecOn generalizing l with
  | _ n ih =>
    intro h
    rcases List.eq_nil_or_concat l with rfl | ⟨L, b, rfl⟩
    · exact beBytes_zero
    · rw [List.concat_eq_append] at hn h ⊢
      rw [beVal_snoc]
      have hb := b.toNat_lt
      have hL : ∀ d r, L = d :: r → d.toNat ≠ 0 := fun d r e => h d (r ++ [b]) (by rw [e]; rfl)
      have hpos : 0 < beVal L * 256 + b.toNat := by
        cases L with
        | nil => have := h b [] rfl; simp only [beVal, List.foldl_nil]; omega
        | cons d r =>
          have hd := hL d r rfl
          rw [beVal_cons]
          have : 0 < d.toNat * 256 ^ r.length := Nat.mul_pos (by omega) (Nat.pow_pos (by decide))
          omega
      rw [beBytes_pos _ hpos, show (beVal L * 256 + b.toNat) / 256 = beVal L by omega, show (beVal L * 256 + b.toNat) % 256 = b.toNat by omega]
      rw [ih L.length (by rw [← hn]; simp) L rfl hL]
      simp
theorem headL_fwd (s : List UInt8) (h : (headL s).2.2 = 0) : s = numL (headL s).1 ++ s.drop (headL s).2.1 := by
  rcases s with _ | ⟨c, r⟩
  · exact absurd h (by unfold headL; decide)
  by_cases h0 : c.toNat = 0
  · have hc : c = 0 := UInt8.toNat_inj.1 h0
    subst hc
    have e : headL (0 :: r) = (0, 1, 0) := by simp [headL]
    rw [e]
    have : numL ((0 : Nat) : Int) = [0] := by unfold numL; rw [Int.toNat_natCast, beBytes_zero]; rfl
    rw [this]; rfl
  by_cases h1 : 8 < c.toNat
  · have e : headL (c :: r) = (0, 0, 3) := by simp [headL, h0, h1]
    rw [e] at h; exact absurd h (by decide)
  rcases r with _ | ⟨d, r⟩
  · have e : headL [c] = (0, 0, 2) := by simp [headL, h0, h1]
    rw [e] at h; exact absurd h (by decide)
  by_cases h2 : d.toNat = 0
  · have e : headL (c :: d :: r) = (0, 0, 3) := by simp [headL, h0, h1, h2]
    rw [e] at h; exact absurd h (by decide)
  by_cases h3 : (d :: r).length < c.toNat
  · have e : headL (c :: d :: r) = (0, 0, 2) := by simp only [headL, if_neg h0, if_neg h1, if_neg h2, if_pos h3]
    rw [e] at h; exact absurd h (by decide)
  by_cases h5 : 9223372036854775807 < beVal ((d :: r).take c.toNat)
  · have e : headL (c :: d :: r) = (0, 0, 3) := by simp only [headL, if_neg h0, if_neg h1, if_neg h2, if_neg h3, if_pos h5]
    rw [e] at h; exact absurd h (by decide)
  have e : headL (c :: d :: r) = (beVal ((d :: r).take c.toNat), c.toNat + 1, 0) := by simp only [headL, if_neg h0, if_neg h1, if_neg h2, if_neg h3, if_neg h5]
  rw [e]
  have hb : beBytes (beVal ((d :: r).take c.toNat)) = (d :: r).take c.toNat := beBytes_val _ (fun d' r' e' => by
    obtain ⟨n, hn⟩ : ∃ n, c.toNat = n + 1 := ⟨c.toNat - 1, by omega⟩
    rw [hn, List.take_succ_cons] at e'
    cases e'; exact h2)
  have hl : ((d :: r).take c.toNat).length = c.toNat := by rw [List.length_take]; omega
  unfold numL
  simp only [Int.toNat_natCast, hb, hl]
  have hc : UInt8.ofNat c.toNat = c := by simp
  rw [hc, List.cons_append, List.drop_succ_cons, List.take_append_drop]
theorem numS_fwd (s : List UInt8) (e m : Int) (h : (numS s e m).2.2 = 0) : e = 0 ∧ s = numL (numS s e m).1 ++ (numS s e m).2.1 := by
  by_cases he : e = 0
  · subst he
    refine ⟨rfl, ?_⟩
    by_cases hh : (headL s).2.2 = 0
    · by_cases hm : m < (headL s).1
      · rw [numS_big s m hh hm] at h; exact absurd h (by decide)
      · rw [numS_yes s m hh hm]; exact headL_fwd s hh
    · rw [numS_no s m hh] at h; exact absurd h hh
  · exfalso
    unfold numS failS at h
    split at h
    · simp only at h; split at h
      · exact he h
      · rename_i h2; simp [he] at h2
    · split at h
      · simp only at h; split at h
        · exact he h
        · rename_i h2; simp [he] at h2
      · exact he h
theorem rawS_fwd (s : List UInt8) (e n : Int) (hn : 0 ≤ n) (h : (rawS s e n).2.2 = 0) : e = 0 ∧ s = (rawS s e n).1 ++ (rawS s e n).2.1 ∧ ((rawS s e n).1.length : Int) = n := by
  unfold rawS failS at h ⊢
  split at h
  · simp only at h
    split at h
    · rename_i h2
      rcases h2 with h2 | h2
      · exact absurd h2 (by decide)
      · exact absurd h h2
    · exact absurd h (by decide)
  · rename_i hc
    rw [if_neg hc]
    refine ⟨h, by simp, ?_⟩
    simp only [List.length_take]
    omega
theorem textS_fwd (s : List UInt8) (e m : Int) (h : (textS s e m).2.2 = 0) : e = 0 ∧ s = numL (textS s e m).1.length ++ ((textS s e m).1 ++ (textS s e m).2.1) := by
  unfold textS at h ⊢
  obtain ⟨h1, h2, h3⟩ := rawS_fwd _ _ _ (numS_lo _ _ _) h
  obtain ⟨h4, h5⟩ := numS_fwd _ _ _ h1
  refine ⟨h4, ?_⟩
  rw [← h2, h3]; exact h5
theorem parS_fwd (k : Nat) (s : List UInt8) (e : Int) (h : (parS k s e).2.2 = 0) : e = 0 ∧ s = ((parS k s e).1.map (·.1)).flatten ++ (parS k s e).2.1 := by
  induction k with
  | zero => exact ⟨h, by simp [parS]⟩
  | succ k ih =>
    obtain ⟨h1, h2, h3⟩ := rawS_fwd (parS k s e).2.1 (parS k s e).2.2 32 (by decide) h
    obtain ⟨h4, h5⟩ := ih h1
    refine ⟨h4, ?_⟩
    have e1 : idL (rawS (parS k s e).2.1 (parS k s e).2.2 32).1 = (rawS (parS k s e).2.1 (parS k s e).2.2 32).1 := idL_self _ (by omega)
    simp only [parS, List.map_append, List.map_cons, List.map_nil, List.flatten_append, List.flatten_cons, List.flatten_nil, List.append_nil, e1]
    rw [List.append_assoc, ← h2]; exact h5
theorem parT_all (k : Nat) (s : List UInt8) (e : Int) (h : (parT k s e).2.2 = 0) : ∀ x ∈ (parT k s e).1, x.length = 32 := by
  induction k with
  | zero => intro x hx; simp [parT] at hx
  | succ k ih =>
    obtain ⟨h1, h2, h3⟩ := rawS_fwd (parT k s e).2.1 (parT k s e).2.2 32 (by decide) h
    intro x hx
    simp only [parT, List.mem_append, List.mem_singleton] at hx
    rcases hx with hx | rfl
    · exact ih h1 x hx
    · omega
theorem takeS_fwd (s : List UInt8) (he : (takeS s).2.2 = 0) (hr : (takeS s).2.1 = []) : hbytes (·.1) (takeS s).1 = s := by
  obtain ⟨⟨x1, s1, e1⟩, h1⟩ : ∃ p, p = numS s 0 4611686018427387904 := ⟨_, rfl⟩
  obtain ⟨⟨x2, s2, e2⟩, h2⟩ : ∃ p, p = numS s1 e1 4611686018427387904 := ⟨_, rfl⟩
  obtain ⟨⟨x3, s3, e3⟩, h3⟩ : ∃ p, p = textS s2 e2 8 := ⟨_, rfl⟩
  obtain ⟨⟨x4, s4, e4⟩, h4⟩ : ∃ p, p = numS s3 e3 4611686018427387904 := ⟨_, rfl⟩
  obtain ⟨⟨x5, s5, e5⟩, h5⟩ : ∃ p, p = numS s4 e4 4611686018427387904 := ⟨_, rfl⟩
  obtain ⟨⟨x6, s6, e6⟩, h6⟩ : ∃ p, p = numS s5 e5 5 := ⟨_, rfl⟩
  obtain ⟨⟨P, s7, e7⟩, h7⟩ : ∃ p, p = parS x6.toNat s6 e6 := ⟨_, rfl⟩
  obtain ⟨⟨x8, s8, e8⟩, h8⟩ : ∃ p, p = numS s7 e7 4611686018427387904 := ⟨_, rfl⟩
  have ht : takeS s = (⟨x1, x2, x3, x4, x5.toNat, P, x8⟩, s8, e8) := by simp only [takeS, ← h1, ← h2, ← h3, ← h4, ← h5, ← h6, ← h7, ← h8]
  rw [ht] at he hr ⊢
  simp only at he hr ⊢
  subst he
  subst hr
  have f8 := numS_fwd s7 e7 4611686018427387904 (by rw [← h8])
  rw [← h8] at f8
  obtain ⟨rfl, f8⟩ := f8
  have f7 := parS_fwd x6.toNat s6 e6 (by rw [← h7])
  have lP := parS_len x6.toNat s6 e6
  rw [← h7] at f7 lP
  obtain ⟨rfl, f7⟩ := f7
  have lo6 := numS_lo s5 e5 5
  have f6 := numS_fwd s5 e5 5 (by rw [← h6])
  rw [← h6] at f6 lo6
  obtain ⟨rfl, f6⟩ := f6
  have lo5 := numS_lo s4 e4 4611686018427387904
  have hi5 := numS_hi s4 e4 4611686018427387904 (by omega)
  have f5 := numS_fwd s4 e4 4611686018427387904 (by rw [← h5])
  rw [← h5] at f5 lo5 hi5
  obtain ⟨rfl, f5⟩ := f5
  have f4 := numS_fwd s3 e3 4611686018427387904 (by rw [← h4])
  rw [← h4] at f4
  obtain ⟨rfl, f4⟩ := f4
  have f3 := textS_fwd s2 e2 8 (by rw [← h3])
  rw [← h3] at f3
  obtain ⟨rfl, f3⟩ := f3
  have f2 := numS_fwd s1 e1 4611686018427387904 (by rw [← h2])
  rw [← h2] at f2
  obtain ⟨rfl, f2⟩ := f2
  have f1 := numS_fwd s 0 4611686018427387904 (by rw [← h1])
  rw [← h1] at f1
  simp only at f1 f2 f3 f4 f5 f6 f7 f8 lP lo5 hi5 lo6
  have hp : pwN x5.toNat = x5 := by unfold pwN; rw [if_neg (by omega)]; omega
  have hn : ((P.length : Nat) : Int) = x6 := by rw [lP]; omega
  unfold hbytes hhead
  simp only [hp, hn]
  rw [f1.2, f2, f3, f4, f5, f6, f7, f8]
  simp only [List.append_assoc, List.append_nil]
theorem textS_inv (s : List UInt8) (e m : Int) (h : e ≠ 0 → s = []) : (textS s e m).2.2 ≠ 0 → (textS s e m).2.1 = [] := by
  unfold textS; exact rawS_inv _ _ _ (numS_inv _ _ _ h)
theorem parS_inv (k : Nat) (s : List UInt8) (e : Int) (h : e ≠ 0 → s = []) : (parS k s e).2.2 ≠ 0 → (parS k s e).2.1 = [] := by
  rw [← parT_rest]; exact parT_inv k s e h
theorem takeS_inv (s : List UInt8) : (takeS s).2.2 ≠ 0 → (takeS s).2.1 = [] :=
  numS_inv _ _ _ (parS_inv _ _ _ (numS_inv _ _ _ (numS_inv _ _ _ (numS_inv _ _ _ (textS_inv _ _ _ (numS_inv _ _ _ (numS_inv _ _ _ (fun h => absurd rfl h))))))))
theorem takeR_all (s : List UInt8) (h : (takeR s).2.2 = 0) : ∀ x ∈ (takeR s).1.ps, x.length = 32 := by
  have h2 := numS_fwd _ _ _ h
  exact parT_all _ _ _ h2.1
theorem own_rs (L : List (List UInt8)) (h : ∀ x ∈ L, x.length = 32) : (L.map nmOf).map (·.1) = L := by
  rw [List.map_map]
  conv => rhs; rw [← List.map_id L]
  exact List.map_congr_left fun x hx => idL_self x (h x hx)
theorem chk_own (h : Hd (List UInt8)) (R : Bool) : chk (ownH h) R = chk h R := by
  unfold chk ownH; simp only [List.length_map]
theorem rparE_eq (s : List UInt8) : rparE s = hparE s := by
  obtain ⟨h1, h2⟩ := takeR_own s
  have hi := takeS_inv s
  have hall := takeR_all s
  unfold rparE hparE
  rw [h2] at hall ⊢
  by_cases he : (takeS s).2.2 = 0
  · rw [if_pos he]
    by_cases hr : (takeS s).2.1 = []
    · rw [if_pos hr, if_pos hr, if_pos he, ← h1, chk_own]
      unfold hrs hrsS ownH
      simp only [own_rs _ (hall he), List.length_map]
    · rw [if_neg hr, if_neg hr]
  · rw [if_neg he, if_pos (hi he), if_neg he]
end Go.Proofs.YtkejidmomnmdbaaDoor
