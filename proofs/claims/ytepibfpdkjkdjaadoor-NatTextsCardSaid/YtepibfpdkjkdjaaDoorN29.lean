/- The law NatSmall. -/
import Derived.Test.YtepibfpdkjkdjaaDoorN28
import Derived.Test.YtepibfpdkjkdjaaDoorN26
import Derived.Test.YtepibfpdkjkdjaaDoorN22
import Derived.Test.YtepibfpdkjkdjaaDoorN17
import Derived.Test.YtepibfpdkjkdjaaDoorN18
namespace Go.Proofs.YtepibfpdkjkdjaaDoor
open Go.RowKit

theorem num_chars (D : List Nat) (hD : ∀ z ∈ D, z < 10) : num (chars (D.reverse.map (48 + ·))) = vl 10 D := by
  induction D with
  | nil => rfl
  | cons d D ih =>
    have hd := hD d (by simp)
    have := ih (fun z hz => hD z (by simp [hz]))
    rw [List.reverse_cons, List.map_append, chars_app, show chars ([d].map (48 + ·)) = [UInt8.ofNat (48 + d)] from rfl, num_snoc, this, UInt8.toNat_ofNat_of_lt' (by show 48 + d < 256; omega), vl]
    omega
theorem dec_len (x n : Nat) (hn : 0 < n) (h : x < 10 ^ n) : (dec x).length ≤ n := by
  unfold dec
  by_cases h0 : x = 0
  · rw [if_pos h0]; exact hn
  · rw [if_neg h0]; simp [chars]; exact dg_len_le 10 (by decide) x n h
theorem num_dec (x : Nat) : num (dec x) = x := by
  unfold dec
  by_cases h0 : x = 0
  · rw [if_pos h0, h0]; rfl
  · rw [if_neg h0, num_chars _ (dg_lt 10 (by decide) x), vl_dg 10 (by decide)]
theorem isNum_dec (x : Nat) (h : x < 10 ^ 400) : isNum (dec x) = true := by
  have hl := dec_len x 400 (by decide) h
  by_cases h0 : x = 0
  · subst h0; rfl
  · have hne : dg 10 x ≠ [] := fun e => h0 (dg_nil 10 (by decide) e)
    have hd : dec x = chars ((dg 10 x).reverse.map (48 + ·)) := by unfold dec; rw [if_neg h0]
    have hall : (dec x).all isD = true := by
      rw [hd, List.all_eq_true]
      intro c hc
      unfold chars at hc
      rw [List.map_map] at hc
      obtain ⟨z, hz, rfl⟩ := List.mem_map.1 hc
      have hz10 := dg_lt 10 (by decide) x z (List.mem_reverse.1 hz)
      show isD (UInt8.ofNat (48 + z)) = true
      unfold isD; rw [UInt8.toNat_ofNat_of_lt' (show 48 + z < 256 by omega)]; simp; omega
    rw [isNum_of (by rw [hd]; intro e; unfold chars at e; simp at e; exact hne e) hl (.inl ?_)]
    · exact hall
    · rw [hd]
      intro e
      cases hr : (dg 10 x).reverse with
      | nil => simp at hr; exact hne hr
      | cons z r =>
        rw [hr] at e
        have hz : UInt8.ofNat (48 + z) = 48 := Option.some.inj e
        have hm : z ∈ dg 10 x := List.mem_reverse.1 (by rw [hr]; simp)
        have hlast : (dg 10 x).getLast? = some z := by rw [← List.head?_reverse, hr]; rfl
        have h1 := dg_top 10 (by decide) x z hlast
        have h2 := dg_lt 10 (by decide) x z hm
        have := congrArg UInt8.toNat hz
        rw [UInt8.toNat_ofNat_of_lt' (show 48 + z < 256 by omega)] at this
        have e48 : UInt8.toNat 48 = 48 := rfl
        rw [e48] at this; omega

set_option maxRecDepth 20000 in
set_option maxHeartbeats 4000000 in
theorem natSmall_any (x y : Nat) (w : World) (hx : Hid (x < 18446744073709551616)) (hy : Hid (y < 18446744073709551616)) :
    Calls Tryd.prog 9 #[.int .u64 (x : Int), .int .u64 (y : Int)] w fun r w' => r = .returned (.bool true) ∧ Below w.heap.size w w' := by
  have lx := lb_64 hx.out
  have ly := lb_64 hy.out
  have hp : ∀ n, 20 ≤ n → Hid (x < 10 ^ n) := fun n hn => Lib.hid (Nat.lt_of_lt_of_le hx.out (Nat.le_trans (show 18446744073709551616 ≤ 10 ^ 20 by decide) (Nat.pow_le_pow_right (by decide) hn)))
  have hnum : Hid (isNum (dec x) = true) := Lib.hid (isNum_dec x (hp 400 (by decide)).out)
  have hdl : Hid ((dec x).length ≤ 400) := Lib.hid (dec_len x 400 (by decide) (hp 400 (by decide)).out)
  have hbl : Hid ((byts x).length ≤ 8) := Lib.hid (by rw [byts_len]; exact dg_len_le 256 (by decide) x 8 (Nat.lt_of_lt_of_le hx.out (by decide)))
  have h10 : Hid ((dg 10 x).length ≤ 100000) := Lib.hid (dg_len_le 10 (by decide) x 100000 (hp 100000 (by decide)).out)
  clear hp
  go_enter Tryd.func9, Tryd.ntmps9
  go_wp2_with fail
  refine (awake_any w).mono ?_
  rintro r w1 ⟨rfl, hb1⟩
  go_wp2_with fail
  refine (nofn_any x w1 hx).mono ?_
  rintro r w2 ⟨q, c, rfl, nx, hb, -⟩
  have hB := hb1.trans (hb.mono hb1.size)
  clear hb hb1
  go_wp2_with fail
  refine (nofn_any y w2 hy).mono ?_
  rintro r w3 ⟨p, d, rfl, ny, hb, -⟩
  replace hB := hB.trans (hb.mono hB.size)
  replace nx := nx.old hb
  clear hb
  go_upto_region 4 with fail
  have kx : Boxed ((w3.alloc (.cells #[.slice q (lb x).length c] 25)).alloc (.cells #[.slice p (lb y).length d] 25)) w3.heap.size 25 (.slice q (lb x).length c) := (Boxed.new w3 _ _).alloc _
  have ky : Boxed ((w3.alloc (.cells #[.slice q (lb x).length c] 25)).alloc (.cells #[.slice p (lb y).length d] 25)) (w3.heap.size + 1) 25 (.slice p (lb y).length d) := by
    have := Boxed.new (w3.alloc (.cells #[.slice q (lb x).length c] 25)) 25 (.slice p (lb y).length d)
    rwa [World.size_alloc] at this
  have hs3 := hB.size
  replace hB := (hB.alloc hs3 (.cells #[.slice q (lb x).length c] 25)).alloc (by simp; omega) (.cells #[.slice p (lb y).length d] 25)
  replace nx := (nx.alloc (.cells #[.slice q (lb x).length c] 25)).alloc (.cells #[.slice p (lb y).length d] 25)
  replace ny := (ny.alloc (.cells #[.slice q (lb x).length c] 25)).alloc (.cells #[.slice p (lb y).length d] 25)
  generalize ((w3.alloc (.cells #[.slice q (lb x).length c] 25)).alloc (.cells #[.slice p (lb y).length d] 25)) = W0 at *
  generalize w3.heap.size = ga at *
  have c5 := kx.cell
  go_wp2_with fail
  refine (small_yes q c x W0 nx hx).mono ?_
  rintro r W1 ⟨rfl, hb⟩
  replace hB := hB.trans (hb.mono hB.size)
  replace kx := Boxed.below' kx hb kx.lt
  replace ky := Boxed.below' ky hb ky.lt
  replace nx := nx.old hb
  replace ny := ny.old hb
  clear hb c5
  have c5 := kx.cell
  go_wp2_with fail
  refine (text_any q c x W1 nx (by omega)).mono ?_
  rintro r W2 ⟨rfl, hb⟩
  replace hB := hB.trans (hb.mono hB.size)
  replace kx := Boxed.below' kx hb kx.lt
  replace ky := Boxed.below' ky hb ky.lt
  replace nx := nx.old hb
  replace ny := ny.old hb
  clear hb c5
  have c5 := kx.cell
  go_wp2_with fail
  refine (parse_any (dec x) W2 (Nat.le_trans hdl.out (by decide))).mono ?_
  rintro r W3 ⟨q3, c3, z, rfl, hz, n3, hb, -⟩
  have hz2 : z = x := by rw [hz.out, hnum.out, if_pos rfl, num_dec]
  subst hz2
  rw [hnum.out]
  clear hz
  replace hB := hB.trans (hb.mono hB.size)
  replace kx := Boxed.below' kx hb kx.lt
  replace ky := Boxed.below' ky hb ky.lt
  replace nx := nx.old hb
  replace ny := ny.old hb
  clear hb c5
  have c5 := kx.cell
  have k3 := Boxed.new W3 25 (.slice q3 (lb z).length c3)
  replace hB := hB.alloc hB.size (.cells #[.slice q3 (lb z).length c3] 25)
  replace kx := kx.alloc (.cells #[.slice q3 (lb z).length c3] 25)
  replace ky := ky.alloc (.cells #[.slice q3 (lb z).length c3] 25)
  replace nx := nx.alloc (.cells #[.slice q3 (lb z).length c3] 25)
  replace ny := ny.alloc (.cells #[.slice q3 (lb z).length c3] 25)
  replace n3 := n3.alloc (.cells #[.slice q3 (lb z).length c3] 25)
  clear c5
  have c5 := kx.cell
  go_upto_region 6 with fail
  generalize W3.alloc (.cells #[.slice q3 (lb z).length c3] 25) = W4 at *
  generalize W3.heap.size = gc at *
  go_wp2_with fail
  refine (bytes_any q c z W4 nx (by omega)).mono ?_
  rintro r W5 ⟨rfl, hb⟩
  replace hB := hB.trans (hb.mono hB.size)
  replace kx := Boxed.below' kx hb kx.lt
  replace ky := Boxed.below' ky hb ky.lt
  replace k3 := Boxed.below' k3 hb k3.lt
  replace nx := nx.old hb
  replace ny := ny.old hb
  replace n3 := n3.old hb
  clear hb c5
  have c5 := kx.cell
  go_wp2_with fail
  have hfr := from_yes (byts z) W5 (Nat.le_trans hbl.out (by decide)) (byts_head z)
  rw [bval_byts] at hfr
  refine hfr.mono ?_
  clear hfr
  rintro r W6 ⟨q4, c4, rfl, n4, hb, -⟩
  replace hB := hB.trans (hb.mono hB.size)
  replace kx := Boxed.below' kx hb kx.lt
  replace ky := Boxed.below' ky hb ky.lt
  replace k3 := Boxed.below' k3 hb k3.lt
  replace nx := nx.old hb
  replace ny := ny.old hb
  replace n3 := n3.old hb
  clear hb c5
  have c5 := kx.cell
  have k4 := Boxed.new W6 25 (.slice q4 (lb z).length c4)
  replace hB := hB.alloc hB.size (.cells #[.slice q4 (lb z).length c4] 25)
  replace kx := kx.alloc (.cells #[.slice q4 (lb z).length c4] 25)
  replace ky := ky.alloc (.cells #[.slice q4 (lb z).length c4] 25)
  replace k3 := k3.alloc (.cells #[.slice q4 (lb z).length c4] 25)
  replace nx := nx.alloc (.cells #[.slice q4 (lb z).length c4] 25)
  replace ny := ny.alloc (.cells #[.slice q4 (lb z).length c4] 25)
  replace n3 := n3.alloc (.cells #[.slice q4 (lb z).length c4] 25)
  replace n4 := n4.alloc (.cells #[.slice q4 (lb z).length c4] 25)
  clear c5
  have c5 := kx.cell
  have c6 := ky.cell
  have c9 := k3.cell
  have c11 := k4.cell
  go_upto_region 7 with fail
  generalize W6.alloc (.cells #[.slice q4 (lb z).length c4] 25) = W at *
  generalize W6.heap.size = gd at *
  have hcc : Hid (cmpI z z = 0) := Lib.hid (cmpI_self z)
  have h3 : (z < y ∧ cmpI z y = -1) ∨ (y < z ∧ cmpI z y = 1) ∨ (z = y ∧ cmpI z y = 0) := by
    rcases Nat.lt_trichotomy z y with h | h | h
    · exact .inl ⟨h, by unfold cmpI; rw [if_pos h]⟩
    · exact .inr (.inr ⟨h, by rw [h]; exact cmpI_self y⟩)
    · exact .inr (.inl ⟨h, by unfold cmpI; rw [if_neg (by omega), if_pos h]⟩)
  rcases h3 with ⟨hlt, he⟩ | ⟨hlt, he⟩ | ⟨hlt, he⟩
  all_goals
    first
    | (have b1 : (z : Int) < y := by omega)
    | (have b1 : ¬ (z : Int) < y := by omega
       have b2 : (y : Int) < z := by omega)
    | (have b1 : ¬ (z : Int) < y := by omega
       have b2 : ¬ (y : Int) < z := by omega)
    have He := Lib.hid he
    clear he hlt
    go_wp2_with fail
    refine (cmp_any q3 q c3 c z z W n3 nx (by omega)).mono ?_
    rw [hcc.out]
    rintro r V1 ⟨rfl, hb⟩
    replace hB := hB.trans (hb.mono hB.size)
    replace kx := Boxed.below' kx hb kx.lt
    replace ky := Boxed.below' ky hb ky.lt
    replace k3 := Boxed.below' k3 hb k3.lt
    replace k4 := Boxed.below' k4 hb k4.lt
    replace nx := nx.old hb
    replace ny := ny.old hb
    replace n3 := n3.old hb
    replace n4 := n4.old hb
    clear hb c5 c6 c9 c11
    have c5 := kx.cell
    have c6 := ky.cell
    have c9 := k3.cell
    have c11 := k4.cell
    go_wp2_with fail
    refine (cmp_any q4 q c4 c z z V1 n4 nx (by omega)).mono ?_
    rw [hcc.out]
    rintro r V2 ⟨rfl, hb⟩
    replace hB := hB.trans (hb.mono hB.size)
    replace kx := Boxed.below' kx hb kx.lt
    replace ky := Boxed.below' ky hb ky.lt
    replace k3 := Boxed.below' k3 hb k3.lt
    replace k4 := Boxed.below' k4 hb k4.lt
    replace nx := nx.old hb
    replace ny := ny.old hb
    replace n3 := n3.old hb
    replace n4 := n4.old hb
    clear hb c5 c6 c9 c11
    have c5 := kx.cell
    have c6 := ky.cell
    have c9 := k3.cell
    have c11 := k4.cell
    go_wp2_with fail
    refine (cmp_any q p c d z y V2 nx ny (by omega)).mono ?_
    rw [He.out]
    rintro r V3 ⟨rfl, hb⟩
    replace hB := hB.trans (hb.mono hB.size)
    replace kx := Boxed.below' kx hb kx.lt
    replace ky := Boxed.below' ky hb ky.lt
    replace k3 := Boxed.below' k3 hb k3.lt
    replace k4 := Boxed.below' k4 hb k4.lt
    replace nx := nx.old hb
    replace ny := ny.old hb
    replace n3 := n3.old hb
    replace n4 := n4.old hb
    clear hb c5 c6 c9 c11
    have c5 := kx.cell
    have c6 := ky.cell
    have c9 := k3.cell
    have c11 := k4.cell
    go_wp2_with fail
    refine (text_any q c z V3 nx (by omega)).mono ?_
    rintro r V4 ⟨rfl, hb⟩
    replace hB := hB.trans (hb.mono hB.size)
    replace kx := Boxed.below' kx hb kx.lt
    replace ky := Boxed.below' ky hb ky.lt
    replace k3 := Boxed.below' k3 hb k3.lt
    replace k4 := Boxed.below' k4 hb k4.lt
    replace nx := nx.old hb
    replace ny := ny.old hb
    replace n3 := n3.old hb
    replace n4 := n4.old hb
    clear hb c5 c6 c9 c11
    have c5 := kx.cell
    have c6 := ky.cell
    have c9 := k3.cell
    have c11 := k4.cell
    go_wp2_with fail
    refine (rof_any z V4 hx).mono ?_
    rintro r V5 ⟨q5, c5', rfl, n5, hb, -⟩
    replace hB := hB.trans (hb.mono hB.size)
    replace kx := Boxed.below' kx hb kx.lt
    replace ky := Boxed.below' ky hb ky.lt
    replace k3 := Boxed.below' k3 hb k3.lt
    replace k4 := Boxed.below' k4 hb k4.lt
    replace nx := nx.old hb
    replace ny := ny.old hb
    replace n3 := n3.old hb
    replace n4 := n4.old hb
    clear hb c5 c6 c9 c11
    have c5 := kx.cell
    have c6 := ky.cell
    have c9 := k3.cell
    have c11 := k4.cell
    go_wp2_with fail
    refine (rtext_any q5 c5' z V5 n5 h10.out).mono ?_
    rintro r V6 ⟨rfl, hb⟩
    replace hB := hB.trans (hb.mono hB.size)
    clear hb
    go_wp2_with fail
    go_ret
    exact ⟨rfl, hB⟩
end Go.Proofs.YtepibfpdkjkdjaaDoor
