/- A header's bytes come back; the first header. -/
import Derived.Test.YtkejidmomnmdbaaDoorH9
namespace Go.Proofs.YtkejidmomnmdbaaDoor
open Go.RowKit

theorem numS_back (x most : Int) (h0 : 0 ≤ x) (hx : x ≤ most) (hm : most ≤ 9223372036854775807) (r : List UInt8) : numS (numL x ++ r) 0 most = (x, r, 0) := by
  obtain ⟨n, rfl⟩ : ∃ n : Nat, x = n := ⟨x.toNat, by omega⟩
  have h := headL_num n (by omega) r
  unfold numS
  rw [h]
  simp only [ne_eq, not_true_eq_false, if_false, List.drop_left]
  rw [if_neg (by omega)]
theorem textS_back (s r : List UInt8) (most : Int) (hm : most ≤ 9223372036854775807) (h : (s.length : Int) ≤ most) : textS (numL s.length ++ (s ++ r)) 0 most = (s, r, 0) := by
  unfold textS
  rw [numS_back _ _ (by omega) (by omega) (by omega)]
  simp only [rawS]
  rw [if_neg (by simp; omega)]
  simp
theorem rawS_back (s r : List UInt8) (n : Int) (h : (s.length : Int) = n) : rawS (s ++ r) 0 n = (s, r, 0) := by
  unfold rawS
  rw [if_neg (by simp; omega), ← h]
  simp
theorem parS_back (L : List Nm) (r : List UInt8) : ∀ k, k ≤ L.length → parS k ((L.map (·.1)).flatten ++ r) 0 = (L.take k, ((L.drop k).map (·.1)).flatten ++ r, 0)
  | 0, _ => by simp [parS]
  | k + 1, h => by
    have ih := parS_back L r k (by omega)
    have hk : k < L.length := by omega
    have e : ((L.drop k).map (·.1)).flatten ++ r = L[k].1 ++ (((L.drop (k + 1)).map (·.1)).flatten ++ r) := by
      rw [List.drop_eq_getElem_cons hk, List.map_cons, List.flatten_cons, List.append_assoc]
    have hr : rawS (((L.drop k).map (·.1)).flatten ++ r) 0 32 = (L[k].1, ((L.drop (k + 1)).map (·.1)).flatten ++ r, 0) := by rw [e, rawS_back _ _ 32 (by rw [L[k].2]; rfl)]
    simp only [parS, ih]
    have e1 : (⟨idL (rawS (((L.drop k).map (·.1)).flatten ++ r) 0 32).1, idL_len _⟩ : Nm) = L[k] := Subtype.ext (by
      show idL (rawS (((L.drop k).map (·.1)).flatten ++ r) 0 32).1 = L[k].1
      rw [hr]; exact idL_self _ L[k].2)
    rw [e1, hr, List.take_succ_eq_append_getElem hk]
/-- A header that may be. -/
def HOkay {α : Type} (h : Hd α) : Prop := (1 ≤ h.ht ∧ h.ht ≤ 1073741824) ∧ (0 ≤ h.mi ∧ h.mi < 64) ∧ (1 ≤ h.tk.length ∧ h.tk.length ≤ 8) ∧ (1 ≤ h.wi ∧ h.wi ≤ 15) ∧ (2 ≤ h.pw ∧ h.pw ≤ 4611686018427387904) ∧ (1 ≤ h.ps.length ∧ h.ps.length ≤ 5) ∧ (0 ≤ h.sa ∧ h.sa ≤ 1073741824)
theorem chk_zero {α : Type} (h : Hd α) (R : Bool) : chk h R = 0 ↔ HOkay h ∧ R = true := by
  unfold chk HOkay
  by_cases h5 : 5 < h.ps.length
  · rw [if_pos h5]
    constructor
    · intro h; cases h
    · rintro ⟨⟨_, _, _, _, _, h6, _⟩, _⟩; omega
  · rw [if_neg h5]
    split
    · rename_i hc
      constructor
      · intro h; cases h
      · rintro ⟨⟨h1, h2, h3, h4, h5, h6, h7⟩, rfl⟩
        rcases hc with hc | hc | hc | hc | hc | hc | hc
        · omega
        · omega
        · omega
        · omega
        · omega
        · rcases hc with hc | hc
          · omega
          · cases hc
        · omega
    · rename_i hc
      constructor
      · intro _
        simp only [not_or] at hc
        obtain ⟨h1, h2, h3, h4, h5, h6, h7⟩ := hc
        refine ⟨⟨by omega, by omega, by omega, by omega, by omega, by omega, by omega⟩, ?_⟩
        cases R with
        | true => rfl
        | false => exact absurd rfl h6.2
      · intro _; rfl
theorem takeS_back (h : Hd Nm) (ok : HOkay h) : takeS (hbytes (·.1) h) = (h, [], 0) := by
  obtain ⟨ht, mi, tk, wi, pw, ps, sa⟩ := h
  obtain ⟨h1, h2, h3, h4, h5, h6, h7⟩ := ok
  simp only at h1 h2 h3 h4 h5 h6 h7
  have hp : pwN pw = (pw : Int) := by unfold pwN; rw [if_neg (by omega)]
  unfold hbytes hhead
  simp only [hp, List.append_assoc]
  unfold takeS
  rw [numS_back ht _ (by omega) (by omega) (by omega)]
  simp only
  rw [numS_back mi _ (by omega) (by omega) (by omega)]
  simp only
  rw [textS_back tk _ 8 (by omega) (by omega)]
  simp only
  rw [numS_back wi _ (by omega) (by omega) (by omega)]
  simp only
  rw [numS_back (pw : Int) _ (by omega) (by omega) (by omega)]
  simp only
  rw [numS_back (ps.length : Int) 5 (by omega) (by omega) (by omega)]
  simp only [Int.toNat_natCast]
  rw [parS_back ps _ ps.length (Nat.le_refl _)]
  simp only [List.take_length, List.drop_length, List.map_nil, List.flatten_nil, List.nil_append]
  have := numS_back sa 4611686018427387904 (by omega) (by omega) (by omega) []
  rw [List.append_nil] at this
  rw [this]
theorem hpar_back (h : Hd Nm) (ok : HOkay h) (hr : hrs h = true) : (takeS (hbytes (·.1) h)).1 = h ∧ hparE (hbytes (·.1) h) = 0 := by
  unfold hparE
  rw [takeS_back h ok]
  exact ⟨rfl, (chk_zero h _).2 ⟨ok, hr⟩⟩
theorem HOk.of {h : Hd Nm} (ok : HOkay h) : HOk h := by
  obtain ⟨h1, h2, h3, h4, h5, h6, h7⟩ := ok
  exact ⟨by omega, by omega, by omega, by omega, by omega, by omega, by omega⟩

/-- The first header. -/
def ghd : Hd Nm := ⟨0, 0, [], 0, 2, [], 0⟩
theorem ghd_ok : HOk ghd := ⟨by decide, by decide, by decide, by decide, by decide, by decide, by decide⟩
set_option maxRecDepth 20000 in
set_option maxHeartbeats 1000000 in
theorem genesis_any (w : World) : Calls Tryd.prog 93 #[] w fun r w' => r = .returned (.agg (hcells ghd none 0)) ∧ Below w.heap.size w w' := by
  have hg := heap_alloc_new w (.cells #[.int .i64 0, .int .i64 0, .string ⟨#[]⟩, .int .i64 0, .int .u64 0, .slice none 0 0, .int .i64 0] 43)
  have L0 := Lib.hid (setRow_heap _ w.heap.size _ #[.int .i64 0, .int .i64 0, .string ⟨#[]⟩, .int .i64 0, .int .u64 2, .slice none 0 0, .int .i64 0] 43 (0, 0) hg)
  go_enter Tryd.func93, Tryd.ntmps93
  go_wp2_with (refine wpList_store_row rfl rfl 43 (.tmp 0) (.tmp 1) rfl w.heap.size rfl 43 _ #[.int .i64 0, .int .i64 0, .string ⟨#[]⟩, .int .i64 0, .int .u64 2, .slice none 0 0, .int .i64 0] rfl hg rfl hinfo (hcells_one ghd none 0) ?_)
  exact bodyPost_ret (v := .agg (hcells ghd none 0)) (results_cell_row Tryd.results93 _ _ w.heap.size 43 _ (0, 0) _ rfl L0.out Tryd.underlying43 rfl hinfo) rfl ⟨rfl, stored_below⟩

/-- The first header's name. -/
def rootB : List UInt8 := shaB (hbytes (·.1) ghd)
theorem rootB_len : rootB.length = 32 := shaB_len _
set_option maxRecDepth 20000 in
set_option maxHeartbeats 1000000 in
theorem root_any (w : World) (hT : TabAt w) : Calls Tryd.prog 94 #[] w fun r w' => r = .returned (.agg (vals rootB).toArray) ∧ Below w.heap.size w w' := by
  have hz := zid_run
  have hZl := rootB_len
  have q2 := zid_len.trans (id_size hZl).symm
  have q3 := id_info hZl
  have q4 := id_one rootB
  have hid := Lib.hid (fun w (hT : TabAt w) => hid_any ghd none 0 w (Rd.nil _ _) ghd_ok hT)
  have hgen := Lib.hid genesis_any
  unfold ghd at hid hgen
  unfold hcells at hid hgen
  rw [show shaB (hbytes (·.1) (⟨0, 0, [], 0, 2, [], 0⟩ : Hd Nm)) = rootB from rfl] at hid
  generalize (vals zid).toArray = ZA at hz q2
  obtain ⟨Y, hY⟩ : ∃ Y, Y = (vals rootB).toArray := ⟨_, rfl⟩
  rw [← hY] at q2 q3 q4 hid ⊢
  clear hY hZl
  obtain ⟨W0, hW0⟩ : ∃ W0, W0 = w.alloc (.cells ZA 25) := ⟨_, rfl⟩
  have hb0 : Hid (Below w.heap.size w W0) := Lib.hid (by rw [hW0]; exact (Below.refl _ w).alloc (Nat.le_refl _) _)
  have hres : Hid (W0.heap[w.heap.size]? = some (.cells ZA 25 (0, 0))) := Lib.hid (by rw [hW0]; exact heap_alloc_new w _)
  have HT := Lib.hid hT
  have HW0 := Lib.hid hW0
  clear hW0 hT
  go_enter Tryd.func94, Tryd.ntmps94
  go_wp2_with fail
  rw [← HW0.out]
  refine (hgen.out W0).mono ?_
  rintro r w1 ⟨rfl, hb1⟩
  have B1 := Lib.hid (hb0.out.trans (hb1.mono hb0.out.size))
  have res1 := Lib.hid ((hb1.block _ (Array.getElem?_eq_some_iff.1 hres.out).1).trans hres.out)
  clear hb1
  go_wp2_with fail
  refine (hid.out w1 (HT.out.old B1.out)).mono ?_
  rintro r w2 ⟨rfl, hb2⟩
  have res2 := (hb2.block _ (Array.getElem?_eq_some_iff.1 res1.out).1).trans res1.out
  have B2 := B1.out.trans (hb2.mono B1.out.size)
  have L0 := Lib.hid (setRow_heap w2 w.heap.size ZA Y 25 (0, 0) res2)
  have LB := Lib.hid (B2.trans (((Mod.refl (fun _ => False) w2).setRow (g := w.heap.size) Y).to_below B2.size (by rintro k hk (h | h) <;> first | exact h | omega)))
  clear hb2 B2
  go_wp2_with (refine wpList_store_row rfl rfl 25 (.tmp 0) (.tmp 2) rfl w.heap.size rfl 25 ZA Y rfl res2 q2 q3 q4 ?_)
  exact bodyPost_ret (v := .agg Y) (results_cell_row Tryd.results94 _ _ w.heap.size 25 Y (0, 0) _ rfl L0.out Tryd.underlying25 rfl q3) rfl ⟨rfl, LB.out⟩
end Go.Proofs.YtkejidmomnmdbaaDoor
