/- LineHex's walk. -/
import Derived.Test.YtgkhnmohjidbmaaDoorZ4
set_option linter.unusedVariables false
set_option linter.unusedSimpArgs false
namespace Go.Proofs.YtgkhnmohjidbmaaDoor
open Go.RowKit Go.Shelf

theorem ext_take (s : List UInt8) (n : Nat) : (ByteArray.mk s.toArray).extract 0 n = ⟨(s.take n).toArray⟩ := by
  rw [ByteArray.extract_mk, List.drop_zero, Nat.sub_zero]
set_option maxRecDepth 20000 in
set_option maxHeartbeats 400000 in
theorem lwcut_any (s : List UInt8) (n : Nat) (w : World) (_hl : s.length ≤ 9223372036854775807) (_hn : n ≤ 1000000) :
    Calls Tryd.prog 9 #[.string ⟨s.toArray⟩, .int .i64 n] w fun r w' => r = .returned (.string ⟨(s.take n).toArray⟩) ∧ w = w' := by
  obtain ⟨B, hB⟩ : ∃ B, B = ByteArray.mk s.toArray := ⟨_, rfl⟩
  have n1 : B.size = s.length := by rw [hB]; rfl
  have he := ext_take s n
  rw [← hB] at he ⊢
  by_cases h : n < s.length
  · have h' : (n : Int) < s.length := by omega
    have HE := Lib.hid he
    clear he hB
    go_enter Tryd.func9, Tryd.ntmps9
    go_wp2_with fail
    rw [HE.out]
    go_ret
    exact ⟨rfl, rfl⟩
  · have h' : ¬ (n : Int) < s.length := by omega
    have e : Hid (s.take n = s) := Lib.hid (List.take_of_length_le (by omega))
    have HB := Lib.hid hB
    clear he hB
    go_enter Tryd.func9, Tryd.ntmps9
    go_wp2_with fail
    go_ret
    exact ⟨by rw [e.out, ← HB.out]; rfl, rfl⟩
theorem bcat2' (u : List UInt8) : (⟨#[114, 97, 119, 32]⟩ : ByteArray) ++ ⟨u.toArray⟩ = ⟨([114, 97, 119] ++ 32 :: u).toArray⟩ := by apply ByteArray.ext; simp
def rawS : List UInt8 := [114, 97, 119]
theorem hx_no {u : List UInt8} {c : UInt8} (hc : c ∈ u) (h : isHx c = false) (h2 : c ≠ 45) : hexO u = none := by
  obtain ⟨i, hi, rfl⟩ := List.getElem_of_mem hc
  refine hx_false hi h ?_
  rintro rfl
  have : i = 0 := by simp at hi; exact hi
  subst this
  exact h2 rfl
theorem raw_step (u : List UInt8) : stepM (rawS ++ 32 :: u) = (hexO u).map fun b => ⟨rawS, [], [], b⟩ := by
  have hs : spl 32 (rawS ++ 32 :: u) = rawS :: spl 32 u := by
    have := splA_cut 32 u rawS [] (by decide)
    rwa [List.nil_append] at this
  have hn : needP rawS = some [72] := by decide
  unfold stepM
  rw [hs]
  show stepW rawS (spl 32 u) = _
  unfold stepW
  rw [hn]
  simp only
  by_cases h : (32 : UInt8) ∈ u
  · rw [hx_no h (by decide) (by decide), if_neg]; rfl
    rw [spl_len]
    have := List.count_pos_iff.2 h
    simp; omega
  · rw [show spl 32 u = [u] from by unfold spl; rw [splA_none 32 u [] h]; rfl, if_pos (show ([u] : List (List UInt8)).length = ([72] : List UInt8).length from rfl)]
    show (take1 72 u _).bind _ = _
    unfold take1
    rw [if_neg (by decide), if_neg (by decide), if_neg (by decide), if_neg (by decide), if_neg (by decide)]
    cases hexO u <;> rfl
theorem raw_par (u : List UInt8) (h : (10 : UInt8) ∉ u) : parM (rawS ++ 32 :: u) = match hexO u with | none => ([], 1, false) | some b => ([⟨rawS, [], [], b⟩], 0, true) := by
  have hs : spl 10 (rawS ++ 32 :: u) = [rawS ++ 32 :: u] := by
    unfold spl; rw [splA_none 10 _ [] (by
      intro hm
      rw [List.mem_append, List.mem_cons] at hm
      rcases hm with hm | hm | hm
      · exact absurd hm (by decide)
      · exact absurd hm (by decide)
      · exact h hm)]; rfl
  unfold parM
  rw [hs, parG, if_neg (by rw [show mute (rawS ++ 32 :: u) = false from rfl]; decide), raw_step]
  cases hexO u <;> rfl
theorem hx_plain {u b : List UInt8} (h : hexO u = some b) : (10 : UInt8) ∉ u := by
  intro hm
  rw [hx_no hm (by decide) (by decide)] at h; cases h

set_option maxRecDepth 20000 in
set_option maxHeartbeats 8000000 in
theorem lineHex_any (s0 t0 : List UInt8) (w : World) (_hs : s0.length ≤ 9223372036854775807) (_ht : t0.length ≤ 9223372036854775807) :
    Calls Tryd.prog 6 #[.string ⟨s0.toArray⟩, .string ⟨t0.toArray⟩] w fun e w' => e = .returned (.bool true) ∧ Below w.heap.size w w' := by
  have HA := Lib.hid (fun w => lawake_any w)
  have HC1 := Lib.hid (fun w => lwcut_any s0 200 w _hs (by omega))
  have HC2 := Lib.hid (fun w => lwcut_any t0 200 w _ht (by omega))
  obtain ⟨b, hb⟩ : ∃ b, b = s0.take 200 := ⟨_, rfl⟩
  obtain ⟨u, hu⟩ : ∃ u, u = t0.take 200 := ⟨_, rfl⟩
  have hbl : b.length ≤ 200 := by rw [hb, List.length_take]; omega
  have hul : u.length ≤ 200 := by rw [hu, List.length_take]; omega
  rw [← hb] at HC1
  rw [← hu] at HC2
  clear hb hu
  have hhl : (hexW b).length ≤ 1000 := by
    unfold hexW; split
    · decide
    · rw [hexL_len]; omega
  have HX := Lib.hid (fun w => lhex_any b w (by omega))
  have HB1 := Lib.hid (fun w => rlbytes_any (hexW b) w (by omega))
  have HB2 := Lib.hid (fun w => rlbytes_any u w (by omega))
  have HSP := Lib.hid (fun w => rlsplit_any u 10 w (by omega))
  unfold hexV at HB1 HB2
  rw [hexO_hexW] at HB1
  simp only [Option.getD_some, Option.isSome_some] at HB1
  have HP := Lib.hid (fun w => lparse_any (rawS ++ 32 :: u) w (by rw [List.length_append, List.length_cons]; simp [rawS]; omega))
  obtain ⟨U, hU⟩ : ∃ U, U = ByteArray.mk u.toArray := ⟨_, rfl⟩
  have HCC : Hid ((⟨#[114, 97, 119, 32]⟩ : ByteArray) ++ U = ⟨(rawS ++ 32 :: u).toArray⟩) := Lib.hid (by
    rw [hU]; exact bcat2' u)
  have n1 : U.size = u.length := by rw [hU]; rfl
  have hget : Hid (∀ i (h : i < U.size) (h2 : i < u.length), U[i] = u[i]) := Lib.hid (by subst hU; intro i h h2; rfl)
  obtain ⟨Bb, hBb⟩ : ∃ B, B = ByteArray.mk b.toArray := ⟨_, rfl⟩
  have hbs : Bb.size ≤ 200 := by rw [hBb]; exact hbl
  rw [← hU] at HC2 HB2 HSP
  rw [← hBb] at HC1 HX HB1
  obtain ⟨n, hn⟩ : ∃ n, n = u.length := ⟨_, rfl⟩
  have Hn := Lib.hid hn
  rw [← hn] at n1 hul
  cases ho : hexO u with
  | some bv =>
    have HNO : Hid ((10 : UInt8) ∉ u) := Lib.hid (hx_plain ho)
    have hpar := raw_par u (hx_plain ho)
    rw [ho] at hpar HB2
    simp only [Option.getD_some, Option.isSome_some] at hpar HB2
    rw [hpar] at HP
    clear hpar ho hU hBb hn hbl hhl
    go_enter Tryd.func6, Tryd.ntmps6
    go_wp2_with fail
    refine (HA.out _).mono ?_
    rintro e w1 ⟨rfl, hb1⟩
    have M1 := Lib.hid hb1
    clear hb1
    go_wp2_with fail
    refine (HC1.out _).mono ?_
    rintro e w2 ⟨rfl, rfl⟩
    go_wp2_with fail
    refine (HC2.out _).mono ?_
    rintro e w2 ⟨rfl, rfl⟩
    go_wp2_with fail
    refine (HX.out _).mono ?_
    rintro e w2 ⟨rfl, hb2⟩
    have M2 := Lib.hid (M1.out.trans (hb2.mono M1.out.size))
    clear hb2
    go_wp2_with fail
    refine (HB1.out _).mono ?_
    rintro e w3 ⟨rfl, hb3⟩
    have M3 := Lib.hid (M2.out.trans (hb3.mono M2.out.size))
    clear hb3
    go_wp2_with fail
    rw [HCC.out]
    refine (HP.out _).mono ?_
    rintro e w4 ⟨hb4, q, c, V, rfl, hV, hR, _, hok⟩
    simp only at hV
    obtain ⟨v, rfl⟩ := List.length_eq_one_iff.1 (show V.length = 1 by have := congrArg List.length hV; simpa using this)
    have hvs : v.st = ⟨rawS, [], [], bv⟩ := by simpa using hV
    have M4 := Lib.hid (M3.out.trans (hb4.mono M3.out.size))
    have HR := Lib.hid hR
    have HVS := Lib.hid hvs
    clear hV hR hok hvs hb4
    go_wp2_with fail
    refine (HB2.out _).mono ?_
    rintro e w5 ⟨rfl, hb5⟩
    have M5 := Lib.hid (M4.out.trans (hb5.mono M4.out.size))
    have hR5 := HR.out.old hb5
    obtain ⟨g, rfl, _⟩ := shape_ne hR5 (by simp)
    have c3 := encV_cell hR5 0 3 (by simp) (by omega)
    simp only [List.getElem_cons_zero, Sv.c, stC, HVS.out, List.getElem?_toArray, List.getElem?_cons_succ, List.getElem?_cons_zero, List.length_cons, List.length_nil, Nat.reduceAdd, Nat.reduceMul, Nat.zero_add] at c3
    clear hb5 hR5 HR HVS
    go_wp2_with fail
    go_loopw [39, 11] (fun s39 s11 wr => ∃ i : Nat, i ≤ n ∧ s39 = .int .i64 i ∧ s11 = .bool true ∧ wr = w5) (fun s39 _ _ => n - (intOf s39).toNat)
    case atStart => exact ⟨0, by omega, rfl, rfl, rfl⟩
    case round =>
      obtain ⟨i, hin, rfl, rfl, rfl⟩ := hrel
      by_cases hlt : i < n
      · have hib : i < U.size := by omega
        have hil : i < u.length := by rw [← Hn.out]; exact hlt
        have hgt := hget.out i hib hil
        obtain ⟨x, hx⟩ : ∃ x, x = (u[i]).toNat := ⟨_, rfl⟩
        have hgv : ((U[i]'hib).toNat : Int) = x := by rw [hgt, hx]
        have hx10 : ((x : Int) != 10) = true := by
          rw [bne_iff_ne]; intro e
          refine HNO.out ?_
          have : u[i] = 10 := UInt8.toNat_inj.1 (by rw [← hx]; show x = 10; omega)
          rw [← this]; exact List.getElem_mem hil
        have i0 : (0 : Int) ≤ i := by omega
        have i1 : (i : Int) < n := by omega
        have i2 : IntKind.i64.wrap ((i : Int) + 1) = (i : Int) + 1 := by rw [IntKind.wrap_i64]; omega
        clear hgt hx
        go_wp2_with fail
        go_roundw
        case rel => exact ⟨i + 1, by omega, by go_num, rfl, trivial⟩
        case measure => simp [intOf]; omega
      · obtain rfl : i = n := by omega
        go_wp2_with fail
        go_ret
        exact ⟨rfl, M5.out⟩
  | none =>
    have hpn : Hid ((10 : UInt8) ∉ u → parM (rawS ++ 32 :: u) = ([], 1, false)) := Lib.hid (fun h => by have := raw_par u h; rwa [ho] at this)
    have hsp : Hid ((10 : UInt8) ∈ u → 1 < (spl 10 u).length) := Lib.hid (fun h => by rw [spl_len]; have := List.count_pos_iff.2 h; omega)
    rw [ho] at HB2
    simp only [Option.getD_none, Option.isSome_none] at HB2
    obtain ⟨L0, k0, ok0, hpe⟩ : ∃ L k ok, parM (rawS ++ 32 :: u) = (L, k, ok) := ⟨_, _, _, rfl⟩
    have hok0 : Hid (ok0 = true → (10 : UInt8) ∈ u) := Lib.hid (fun h => by
      by_cases hm : (10 : UInt8) ∈ u
      · exact hm
      · have := hpn.out hm; rw [hpe] at this; injection this with _ this; injection this with _ this; rw [this] at h; cases h)
    have hL300 : L0.length ≤ 300 := by have := parG_len (spl 10 (rawS ++ 32 :: u)) 0 [] (by simp); rw [show parG (spl 10 (rawS ++ 32 :: u)) 0 [] = parM (rawS ++ 32 :: u) from rfl, hpe] at this; exact this
    rw [hpe] at HP
    clear hpe hpn ho hU hBb hn hbl hhl
    go_enter Tryd.func6, Tryd.ntmps6
    go_wp2_with fail
    refine (HA.out _).mono ?_
    rintro e w1 ⟨rfl, hb1⟩
    have M1 := Lib.hid hb1
    clear hb1
    go_wp2_with fail
    refine (HC1.out _).mono ?_
    rintro e w2 ⟨rfl, rfl⟩
    go_wp2_with fail
    refine (HC2.out _).mono ?_
    rintro e w2 ⟨rfl, rfl⟩
    go_wp2_with fail
    refine (HX.out _).mono ?_
    rintro e w2 ⟨rfl, hb2⟩
    have M2 := Lib.hid (M1.out.trans (hb2.mono M1.out.size))
    clear hb2
    go_wp2_with fail
    refine (HB1.out _).mono ?_
    rintro e w3 ⟨rfl, hb3⟩
    have M3 := Lib.hid (M2.out.trans (hb3.mono M2.out.size))
    clear hb3
    go_wp2_with fail
    rw [HCC.out]
    refine (HP.out _).mono ?_
    rintro e w4 ⟨hb4, q, c, V, rfl, hV, hR, _, hok⟩
    have M4 := Lib.hid (M3.out.trans (hb4.mono M3.out.size))
    have HR := Lib.hid hR
    simp only at hV
    have hVl : V.length = L0.length := by have := congrArg List.length hV; simpa using this
    clear hV hR hok hb4
    obtain ⟨m, hm⟩ : ∃ m, m = V.length := ⟨_, rfl⟩
    rw [← hm]
    have hm9 : m ≤ 1000000000 := by omega
    clear hVl hL300
    go_wp2_with fail
    refine (HB2.out _).mono ?_
    rintro e w5 ⟨rfl, hb5⟩
    have M5 := Lib.hid (M4.out.trans (hb5.mono M4.out.size))
    have hR5 := HR.out.old hb5
    have HC3 : Hid (0 < m → ∃ g, q = some ⟨g, 0, none⟩ ∧ ∃ T : List UInt8, w5.cell? ⟨g, 3, none⟩ = some (.string ⟨T.toArray⟩)) := Lib.hid (fun h => by
      obtain ⟨g, rfl, _⟩ := shape_ne hR5 (by omega)
      have c3 := encV_cell hR5 0 3 (by omega) (by omega)
      exact ⟨g, rfl, V[0].st.text, by rw [show 0 * 4 + 3 = 3 from rfl] at c3; rw [c3]; rfl⟩)
    clear hb5 hR5 HR
    go_wp2_with fail
    go_loopw [39, 11] (fun s39 s11 wr => ∃ i : Nat, i ≤ n ∧ s39 = .int .i64 i ∧ s11 = .bool false ∧ wr = w5) (fun s39 _ _ => n - (intOf s39).toNat)
    case atStart => exact ⟨0, by omega, rfl, rfl, rfl⟩
    case round =>
      obtain ⟨i, hin, rfl, rfl, rfl⟩ := hrel
      by_cases hlt : i < n
      · have i1 : (i : Int) < n := by omega
        have i2 : IntKind.i64.wrap ((i : Int) + 1) = (i : Int) + 1 := by rw [IntKind.wrap_i64]; omega
        go_wp2_with fail
        go_roundw
        case rel => exact ⟨i + 1, by omega, by go_num, rfl, trivial⟩
        case measure => simp [intOf]; omega
      · obtain rfl : i = n := by omega
        cases ok0 with
        | false =>
          go_wp2_with fail
          go_ret
          exact ⟨rfl, M5.out⟩
        | true =>
          have hs1 := Lib.hid (hsp.out (hok0.out rfl))
          have HF : Hid (∀ q6 c6 w6, SplP wr 10 u (.returned (.slice q6 (spl 10 u).length c6)) w6 → True) := Lib.hid (fun _ _ _ _ => trivial)
          clear HF
          by_cases h0 : 0 < m
          · obtain ⟨g, rfl, T, c3⟩ := HC3.out h0
            obtain ⟨TB, hTB⟩ : ∃ B, B = ByteArray.mk T.toArray := ⟨_, rfl⟩
            rw [← hTB] at c3
            have h1m : (1 : Int) ≤ m := by omega
            clear hTB
            by_cases hTe : (TB.toList == []) = true
            · go_wp2_with fail
              refine (HSP.out _).mono ?_
              rintro e w6 ⟨hb6, q6, c6, rfl, _, _⟩
              have M6 := Lib.hid (M5.out.trans (hb6.mono M5.out.size))
              clear hb6
              go_wp2_with fail
              go_ret
              exact ⟨by rw [decide_eq_true (show (1 : Int) < ((spl 10 u).length : Int) by have := hs1.out; omega)]; rfl, M6.out⟩
            · have hTe' : (TB.toList == []) = false := by simpa using hTe
              clear hTe
              go_wp2_with fail
              refine (HSP.out _).mono ?_
              rintro e w6 ⟨hb6, q6, c6, rfl, _, _⟩
              have M6 := Lib.hid (M5.out.trans (hb6.mono M5.out.size))
              clear hb6
              go_wp2_with fail
              go_ret
              exact ⟨by rw [decide_eq_true (show (1 : Int) < ((spl 10 u).length : Int) by have := hs1.out; omega)]; rfl, M6.out⟩
          · have h1m : (m : Int) < 1 := by omega
            go_wp2_with fail
            refine (HSP.out _).mono ?_
            rintro e w6 ⟨hb6, q6, c6, rfl, _, _⟩
            have M6 := Lib.hid (M5.out.trans (hb6.mono M5.out.size))
            clear hb6
            go_wp2_with fail
            go_ret
            exact ⟨by rw [decide_eq_true (show (1 : Int) < ((spl 10 u).length : Int) by have := hs1.out; omega)]; rfl, M6.out⟩
end Go.Proofs.YtgkhnmohjidbmaaDoor
