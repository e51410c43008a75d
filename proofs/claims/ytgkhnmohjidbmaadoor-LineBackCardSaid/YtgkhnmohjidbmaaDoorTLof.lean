/- LineBack's walk. -/
import Derived.Test.YtgkhnmohjidbmaaDoorZ6
import Derived.Test.YtgkhnmohjidbmaaDoorZ5
import Derived.Lib.LaidTab
import Derived.Stop.LaidErr
import Derived.WalkKit
import Derived.ProofKit
import Derived.OpenShut
import Derived.LaidSub
import Derived.Test.YtgkhnmohjidbmaaDoorCards
import Derived.Deep.DeepHandedRow
set_option linter.unusedVariables false
set_option linter.unusedSimpArgs false
namespace Go.Proofs.YtgkhnmohjidbmaaDoor
open Go.RowKit Go.Shelf

/-- Numbers that a step holds are small. -/
theorem take_small {n : UInt8} {f : List UInt8} {x y : St} (h : take1 n f x = some y) (hx : ∀ v ∈ x.nums, v ≤ 1099511627776) : ∀ v ∈ y.nums, v ≤ 1099511627776 := by
  have hk : ∀ g : List UInt8, numOk g = true → numD g ≤ 1099511627776 := fun g hg => by unfold numOk at hg; simp only [Bool.and_eq_true, decide_eq_true_eq] at hg; exact hg.2
  unfold take1 at h
  split at h
  · split at h
    · rename_i e; cases h; intro v hv; simp only [List.mem_append, List.mem_singleton] at hv; rcases hv with hv | rfl
      · exact hx v hv
      · exact hk f e
    · cases h
  split at h
  · split at h <;> cases h; exact hx
  split at h
  · split at h
    · cases h; exact hx
    · split at h <;> cases h; exact hx
  split at h
  · split at h
    · cases h; exact hx
    · split at h
      · rename_i e; cases h; intro v hv
        simp only [List.mem_append, List.mem_map] at hv
        rcases hv with hv | ⟨g, hg, rfl⟩
        · exact hx v hv
        · exact hk g (List.all_eq_true.1 e g hg)
      · cases h
  split at h
  · split at h <;> cases h; exact hx
  cases hh : hexO f with
  | none => rw [hh] at h; cases h
  | some b => rw [hh] at h; cases h; exact hx
theorem takeAll_small : ∀ (ns : List UInt8) (fs : List (List UInt8)) (x y : St), takeAll ns fs x = some y → (∀ v ∈ x.nums, v ≤ 1099511627776) → ∀ v ∈ y.nums, v ≤ 1099511627776
  | [], _, x, y, h, hx => by cases h; exact hx
  | _ :: _, [], _, _, h, _ => by cases h
  | n :: ns, f :: fs, x, y, h, hx => by
    obtain ⟨z, h1, h2⟩ := takeAll_cons h
    exact takeAll_small ns fs z y h2 (take_small h1 hx)
theorem step_small {l : List UInt8} {x : St} (h : stepM l = some x) : ∀ v ∈ x.nums, v ≤ 1099511627776 := by
  unfold stepM stepW at h
  split at h
  · cases h
  · split at h
    · exact takeAll_small _ _ _ _ h (fun v hv => by cases hv)
    · cases h
theorem takeAll_len : ∀ (ns : List UInt8) (fs : List (List UInt8)) (x y : St), takeAll ns fs x = some y → y.names.length ≤ x.names.length + fs.flatten.length + fs.length ∧ y.nums.length ≤ x.nums.length + fs.flatten.length + fs.length
  | [], _, x, y, h => by cases h; omega
  | _ :: _, [], _, _, h => by cases h
  | n :: ns, f :: fs, x, y, h => by
    obtain ⟨z, h1, h2⟩ := takeAll_cons h
    have a := takeAll_len ns fs z y h2
    have b := take_sizes h1
    simp only [List.flatten_cons, List.length_append, List.length_cons]
    omega
theorem spl_flat (c : UInt8) (s : List UInt8) : ∀ acc, (splA c acc s).flatten.length ≤ acc.length + s.length := by
  induction s with
  | nil => intro acc; simp [splA]
  | cons a l ih =>
    intro acc
    rw [splA]
    split
    · have := ih []; simp only [List.flatten_cons, List.length_append, List.length_cons, List.length_nil] at this ⊢; omega
    · have := ih (acc ++ [a]); simp only [List.length_append, List.length_cons, List.length_nil] at this ⊢; omega
theorem step_len {l : List UInt8} {x : St} (h : stepM l = some x) : x.names.length ≤ 2 * l.length + 2 ∧ x.nums.length ≤ 2 * l.length + 2 := by
  have h1 := spl_flat 32 l []
  have h2 := spl_len_le 32 l
  have hne : spl 32 l ≠ [] := splA_ne 32 l []
  unfold stepM stepW at h
  cases hs : spl 32 l with
  | nil => exact absurd hs hne
  | cons w fs =>
    rw [show splA 32 [] l = spl 32 l from rfl, hs] at h1
    rw [hs] at h h2
    simp only [List.headD_cons, List.tail_cons, List.flatten_cons, List.length_append, List.length_cons, List.length_nil] at h h1 h2
    split at h
    · cases h
    · rename_i nd' heq'
      by_cases e : fs.length = nd'.length
      · have h : takeAll nd' fs ⟨w, [], [], []⟩ = some x := (if_pos e).symm.trans h
        have := takeAll_len _ _ _ _ h
        simp only [List.length_nil] at this
        omega
      · have h : none = some x := (if_neg e).symm.trans h
        cases h
theorem parG_steps : ∀ (ls : List (List UInt8)) (k : Nat) (acc : List St) (L : List St) (m : Nat), parG ls k acc = (L, m, true) → (∀ x ∈ acc, ∃ l, stepM l = some x ∧ l.length ≤ 2000) → (∀ l ∈ ls, l.length ≤ 2000) → ∀ x ∈ L, ∃ l, stepM l = some x ∧ l.length ≤ 2000
  | [], k, acc, L, m, h, ha, _ => by cases h; exact ha
  | l :: r, k, acc, L, m, h, ha, hl => by
    rw [parG] at h
    split at h
    · exact parG_steps r _ _ _ _ h ha (fun l hl2 => hl l (List.mem_cons_of_mem _ hl2))
    · split at h
      · cases h
      · rename_i x hx
        split at h
        · cases h
        · refine parG_steps r _ _ _ _ h (fun y hy => ?_) (fun l hl2 => hl l (List.mem_cons_of_mem _ hl2))
          rw [List.mem_append, List.mem_singleton] at hy
          rcases hy with hy | rfl
          · exact ha y hy
          · exact ⟨l, hx, hl l List.mem_cons_self⟩
/-- Lines, each with its end. -/
def nlJ : List (List UInt8) → List UInt8
  | [] => []
  | l :: r => l ++ [10] ++ nlJ r
theorem nlJ_snoc : ∀ (L : List (List UInt8)) (l : List UInt8), nlJ (L ++ [l]) = nlJ L ++ (l ++ [10])
  | [], l => by simp [nlJ]
  | a :: r, l => by rw [List.cons_append, nlJ, nlJ_snoc r l, nlJ]; simp
set_option maxRecDepth 20000 in
theorem pow_of_laid {W : World} (h : laidMetH Tryd.prog [("math/bits.deBruijn32tab", Rows.laid_math_bits_deBruijn32tab), ("math/bits.deBruijn64tab", Rows.laid_math_bits_deBruijn64tab), ("internal/strconv.uint64pow10", Rows.laid_internal_strconv_uint64pow10), ("unicode/utf8.acceptRanges", Rows.laid_unicode_utf8_acceptRanges), ("unicode/utf8.first", Rows.laid_unicode_utf8_first)] W) : PowAt W := by
  have h1 := (laidMetH_iff.1 h).1.tail.tail
  have h2 : laidMet Tryd.prog (("internal/strconv.uint64pow10", Lib.tabData .u64 Lib.pow10Tab) :: [("unicode/utf8.acceptRanges", Rows.laid_unicode_utf8_acceptRanges), ("unicode/utf8.first", Rows.laid_unicode_utf8_first)]) W := h1
  exact Lib.tabIs_of_head (g := 3) (t := 104) (e := 92) (n := 20) (by kernel_rfl) (by kernel_rfl) Tryd.underlying104 Tryd.underlying92 (by kernel_rfl) (by kernel_rfl) h2
theorem nlJ_len : ∀ (L : List (List UInt8)), (∀ l ∈ L, l.length ≤ 2000) → (nlJ L).length ≤ 2001 * L.length
  | [], _ => by simp [nlJ]
  | a :: r, h => by
    have h1 := nlJ_len r (fun l hl => h l (List.mem_cons_of_mem _ hl))
    have h2 := h a List.mem_cons_self
    simp only [nlJ, List.length_append, List.length_cons, List.length_nil]
    omega
theorem bcat10 (T p : List UInt8) : (ByteArray.mk T.toArray) ++ ((ByteArray.mk p.toArray) ++ (⟨#[10]⟩ : ByteArray)) = ⟨(T ++ (p ++ [10])).toArray⟩ := by apply ByteArray.ext; simp
set_option maxRecDepth 100000 in
set_option maxHeartbeats 16000000 in
theorem lineBack_any (s0 : List UInt8) (w : World) (_hs : s0.length ≤ 9223372036854775807) (hT : PowAt w) :
    Calls Tryd.prog 4 #[.string ⟨s0.toArray⟩] w fun e w' => e = .returned (.bool true) ∧ Below w.heap.size w w' := by
  have HA := Lib.hid (fun w => lawake_any w)
  have HC1 := Lib.hid (fun w => lwcut_any s0 2000 w _hs (by omega))
  obtain ⟨s, hs⟩ : ∃ s, s = s0.take 2000 := ⟨_, rfl⟩
  have hsl : s.length ≤ 2000 := by rw [hs, List.length_take]; omega
  rw [← hs] at HC1
  have HP := Lib.hid (fun w => lparse_any s w (by omega))
  have HSP := Lib.hid (fun w => rlsplit_any s 10 w (by omega))
  unfold ParP at HP
  unfold SplP at HSP
  obtain ⟨SB, hSB⟩ : ∃ B, B = ByteArray.mk s.toArray := ⟨_, rfl⟩
  rw [← hSB] at HC1 HP HSP
  obtain ⟨P, hP⟩ : ∃ P, P = spl 10 s := ⟨_, rfl⟩
  have hPs : ∀ p ∈ P, p.length ≤ 2000 := by rw [hP]; intro p hp; have := spl_sizes 10 s p hp; omega
  have hPl : P.length ≤ 2001 := by rw [hP]; have := spl_len_le 10 s; omega
  have hPM : parM s = parG P 0 [] := by rw [hP]; rfl
  obtain ⟨Ls, kk, okk, hpe⟩ : ∃ L k ok, parG P 0 [] = (L, k, ok) := ⟨_, _, _, rfl⟩
  rw [← hP] at HSP
  rw [hPM, hpe] at HP
  simp only at HP
  have HT := Lib.hid hT
  cases okk with
  | false =>
    have hL0 : Ls = [] := parG_false _ _ _ _ _ hpe
    subst hL0
    clear hs hSB hP hPs hPM hpe hT
    go_enter Tryd.func4, Tryd.ntmps4
    go_wp2_with fail
    refine (HA.out _).mono ?_
    rintro e w1 ⟨rfl, hb1⟩
    have M1 := Lib.hid hb1
    clear hb1
    go_wp2_with fail
    refine (HC1.out _).mono ?_
    rintro e w2 ⟨rfl, rfl⟩
    go_wp2_with fail
    refine (HP.out _).mono ?_
    rintro e w3 ⟨hb3, q1, c1, V1, rfl, hV1, _, _, _⟩
    obtain rfl : V1 = [] := List.map_eq_nil_iff.1 hV1
    have M3 := Lib.hid (M1.out.trans (hb3.mono M1.out.size))
    clear hb3 hV1
    go_wp2_with fail
    go_ret
    exact ⟨rfl, M3.out⟩
  | true =>
    obtain ⟨hk0, xs, hxs, hxm⟩ := parG_back _ _ _ _ _ hpe
    rw [List.nil_append] at hxs
    subst hxs
    have hst := parG_steps _ _ _ _ _ hpe (fun x hx => by cases hx) hPs
    have hl300 : Ls.length ≤ 300 := by have := parG_len P 0 [] (by simp); rw [hpe] at this; exact this
    have HXM := Lib.hid hxm
    have HST := Lib.hid hst
    have HPS := Lib.hid hPs
    obtain ⟨n, hn⟩ : ∃ n, n = P.length := ⟨_, rfl⟩
    obtain ⟨m, hm⟩ : ∃ m, m = Ls.length := ⟨_, rfl⟩
    rw [← hn] at HSP hPl
    rw [← hm] at hl300
    have HN := Lib.hid hn
    have HM := Lib.hid hm
    clear hs hSB hP hPs hPM hpe hT hn hm hxm hst
    go_enter Tryd.func4, Tryd.ntmps4
    go_wp2_with fail
    refine (HA.out _).mono ?_
    rintro e w1 ⟨rfl, hb1⟩
    have M1 := Lib.hid hb1
    clear hb1
    go_wp2_with fail
    refine (HC1.out _).mono ?_
    rintro e w2 ⟨rfl, rfl⟩
    go_wp2_with fail
    refine (HP.out _).mono ?_
    rintro e w3 ⟨hb3, q1, c1, V1, rfl, hV1, hR1, _, hok1⟩
    have hl1 : V1.length = m := by rw [HM.out, ← hV1, List.length_map]
    rw [hl1]
    have M3 := Lib.hid (M1.out.trans (hb3.mono M1.out.size))
    have HV1 := Lib.hid hV1
    have HR1 := Lib.hid hR1
    have HK1 := Lib.hid hok1
    have HL1 := Lib.hid hl1
    clear hb3 hV1 hR1 hok1 hl1
    go_wp2_with fail
    refine (HSP.out _).mono ?_
    rintro e w5 ⟨hb5, q2, c2, rfl, hR2, _⟩
    have M5 := Lib.hid (M3.out.trans (hb5.mono M3.out.size))
    have HR15 := Lib.hid (HR1.out.old hb5)
    have HK15 := Lib.hid (fun v hv => (HK1.out v hv).old hb5)
    have HR2 := Lib.hid hR2
    clear hb5 hR2 HR1 HK1
    go_wp2_with fail
    go_loopw [6, 30] (fun s6 s30 wr => ∃ (i : Nat) (T : List UInt8), i ≤ n ∧ s30 = .int .i64 i ∧ s6 = .string ⟨T.toArray⟩ ∧ T.length ≤ 2001 * i ∧ Hid (T = nlJ ((P.take i).filter (fun l => !mute l))) ∧ wr = w5) (fun _ s30 _ => n - (intOf s30).toNat)
    case atStart => exact ⟨0, [], by omega, rfl, rfl, by simp, Lib.hid rfl, rfl⟩
    case round =>
      obtain ⟨i, T, hin, rfl, rfl, hTl, hTe, rfl⟩ := hrel
      by_cases hlt : i < n
      · have hil : i < P.length := by rw [← HN.out]; exact hlt
        obtain ⟨g2, rfl, _⟩ := shape_ne HR2.out (by omega)
        have i0 : (0 : Int) ≤ i := by omega
        have i1 : (i : Int) < n := by omega
        have i2 : IntKind.i64.wrap ((i : Int) + 1) = (i : Int) + 1 := by rw [IntKind.wrap_i64]; omega
        have c0 := rd0 HR2.out.rd hil
        have hps := HPS.out _ (List.getElem_mem hil)
        have htk : (P.take (i + 1)).filter (fun l => !mute l) = (P.take i).filter (fun l => !mute l) ++ (if mute P[i] then [] else [P[i]]) := by
          rw [List.take_succ_eq_append_getElem hil, List.filter_append]
          cases hmm : mute P[i] <;> simp [hmm]
        generalize P[i] = p at c0 hps htk
        obtain ⟨PB, hPB⟩ : ∃ B, B = ByteArray.mk p.toArray := ⟨_, rfl⟩
        have hPL : PB.toList = p := by rw [hPB, ByteArray.toList_mk]
        rw [← hPB] at c0
        by_cases hmu : mute p = true
        · rw [if_pos hmu, List.append_nil] at htk
          have HNX : Hid (T = nlJ ((P.take (i + 1)).filter (fun l => !mute l))) := Lib.hid (by rw [htk]; exact hTe.out)
          by_cases hne : p = []
          · have e0 : PB.toList.isEmpty = true := by rw [hPL, hne]; rfl
            clear hPB hPL hmu hne htk hil hTe
            go_wp2_with fail
            go_roundw
            case rel => exact ⟨i + 1, T, by omega, by go_num, rfl, by omega, HNX, trivial⟩
            case measure => simp [intOf]; omega
          · have e0 : PB.toList.isEmpty = false := by rw [hPL]; cases p <;> simp_all
            have hl0 : 0 < PB.size := by rw [hPB]; exact List.length_pos_iff.2 hne
            have hg0 : ((PB[0]'hl0).toNat : Int) = 35 := by
              subst hPB
              cases p with
              | nil => exact absurd rfl hne
              | cons a l => unfold mute at hmu; rw [beq_iff_eq] at hmu; subst hmu; rfl
            clear hPB hPL hmu hne htk hil hTe
            go_wp2_with fail
            go_roundw
            case rel => exact ⟨i + 1, T, by omega, by go_num, rfl, by omega, HNX, trivial⟩
            case measure => simp [intOf]; omega
        · rw [if_neg hmu] at htk
          have hne : p ≠ [] := fun e => hmu (by rw [e]; rfl)
          have e0 : PB.toList.isEmpty = false := by rw [hPL]; cases p <;> simp_all
          have hl0 : 0 < PB.size := by rw [hPB]; exact List.length_pos_iff.2 hne
          obtain ⟨v, hv⟩ : ∃ v, v = (p[0]'(List.length_pos_iff.2 hne)).toNat := ⟨_, rfl⟩
          have hg0 : ((PB[0]'hl0).toNat : Int) = v := by subst hPB; rw [hv]; rfl
          have hv35 : ((v : Int) != 35) = true := by
            rw [bne_iff_ne]; intro e
            refine hmu ?_
            cases p with
            | nil => exact absurd rfl hne
            | cons a l => unfold mute; rw [beq_iff_eq]; exact UInt8.toNat_inj.1 (by show a.toNat = 35; have : v = a.toNat := hv; omega)
          have HNX : Hid (T ++ (p ++ [10]) = nlJ ((P.take (i + 1)).filter (fun l => !mute l))) := Lib.hid (by rw [htk, nlJ_snoc, ← hTe.out])
          obtain ⟨TB, hTB⟩ : ∃ B, B = ByteArray.mk T.toArray := ⟨_, rfl⟩
          have HCC : Hid (TB ++ (PB ++ (⟨#[10]⟩ : ByteArray)) = ⟨(T ++ (p ++ [10])).toArray⟩) := Lib.hid (by rw [hTB, hPB]; exact bcat10 T p)
          have hts : TB.size ≤ 5000000 := by rw [hTB]; show T.length ≤ _; omega
          have hpb : PB.size ≤ 2000 := by rw [hPB]; exact hps
          rw [← hTB]
          clear hPB hPL hmu hne htk hil hTe hv hTB
          go_wp2_with fail
          go_roundw
          case rel => exact ⟨i + 1, T ++ (p ++ [10]), by omega, by go_num, by rw [HCC.out], by simp only [List.length_append, List.length_cons, List.length_nil]; omega, HNX, trivial⟩
          case measure => simp [intOf]; omega
      · obtain rfl : i = n := by omega
        have hT1 : T = nlJ (Ls.map lineM) := by rw [hTe.out, List.take_of_length_le (by rw [← HN.out]; exact Nat.le_refl _), HXM.out]
        have HT1 := Lib.hid hT1
        have hT9 : T.length ≤ 5000000 := by omega
        clear hTe hT1 hTl
        obtain ⟨TB, hTB⟩ : ∃ B, B = ByteArray.mk T.toArray := ⟨_, rfl⟩
        rw [← hTB]
        have HTB := Lib.hid hTB
        clear hTB
        go_wp2_with fail
        go_loopw [9, 48] (fun s9 s48 wr2 => ∃ (j : Nat) (U : List UInt8), j ≤ m ∧ s48 = .int .i64 j ∧ s9 = .string ⟨U.toArray⟩ ∧ U.length ≤ 2001 * j ∧ Hid (U = nlJ ((Ls.take j).map lineM)) ∧ Hid (Below wr.heap.size wr wr2)) (fun _ s48 _ => m - (intOf s48).toNat)
        case atStart => exact ⟨0, [], by omega, rfl, rfl, by simp, Lib.hid rfl, Lib.hid (Below.refl _ _)⟩
        case round =>
          obtain ⟨j, U, hjm, rfl, rfl, hUl, hUe, HB⟩ := hrel
          rename World => wz
          by_cases hlt2 : j < m
          · have h1l : j < V1.length := by rw [HL1.out]; exact hlt2
            have hjl : j < Ls.length := by rw [← HM.out]; exact hlt2
            have i0 : (0 : Int) ≤ j := by omega
            have i1 : (j : Int) < m := by omega
            have i2 : IntKind.i64.wrap ((j : Int) + 1) = (j : Int) + 1 := by rw [IntKind.wrap_i64]; omega
            obtain ⟨g1, rfl, _⟩ := shape_ne HR15.out (by omega)
            have hst : V1[j].st = Ls[j] := by
              have e1 := congrArg (fun l => l[j]?) HV1.out
              simp only [List.getElem?_map, List.getElem?_eq_getElem h1l, List.getElem?_eq_getElem hjl, Option.map_some, Option.some.injEq] at e1
              exact e1
            have x1 := cellsV (HR15.out.old HB.out) h1l
            have k1 := (HK15.out _ (List.getElem_mem h1l)).old HB.out
            obtain ⟨l, hl1, hl2⟩ := HST.out _ (List.getElem_mem hjl)
            have hlb := line_back hl1
            have hsm := step_small hl1
            have hsl2 := step_len hl1
            have htk : nlJ ((Ls.take (j + 1)).map lineM) = nlJ ((Ls.take j).map lineM) ++ (l ++ [10]) := by
              rw [List.take_succ_eq_append_getElem hjl, List.map_append, List.map_singleton, nlJ_snoc, hlb]
            generalize Ls[j] = x at hst hl1 hlb hsm hsl2
            generalize V1[j] = v1 at hst x1 k1
            obtain ⟨C1, hC1⟩ : ∃ C, C = v1.c := ⟨_, rfl⟩
            rw [← hC1] at x1
            have HS1 : Hid ((Tryd.prog.info? 35).map (·.size) = some C1.size) := Lib.hid (by rw [hC1]; exact ln_size _ _ _ _ _)
            have HO1 : Hid (∀ v ∈ C1.toList, v.oneCell' = true) := Lib.hid (by rw [hC1]; exact v1.one)
            have HCZ : Hid (4 = C1.size) := Lib.hid (by rw [hC1]; rfl)
            have HX1 := Lib.hid x1
            have HLN : Hid (∀ w1, Below wz.heap.size wz w1 → Calls Tryd.prog 14 #[.agg C1] w1 fun e w' => e = .returned (.string ⟨l.toArray⟩) ∧ Below w1.heap.size w1 w') := Lib.hid (fun w1 hb => by
              have z1 := k1.old hb
              have hww : Below w.heap.size w w1 := (M5.out.trans (HB.out.mono M5.out.size)).trans (hb.mono (M5.out.trans (HB.out.mono M5.out.size)).size)
              have := lline_any v1.st v1.na v1.nc v1.ia v1.ic w1 z1.rn z1.ri (by rw [hst]; omega) (by rw [hst]; omega) (by rw [hst]; intro n hn; have := hsm n hn; omega) (by rw [hst, hlb]; omega) (HT.out.old hww)
              rw [hst, hlb] at this
              rw [hC1]
              show Calls _ _ #[.agg (stC v1.st _ _ _ _)] _ _
              rw [hst]; exact this)
            have HNX : Hid (U ++ (l ++ [10]) = nlJ ((Ls.take (j + 1)).map lineM)) := Lib.hid (by rw [htk, ← hUe.out])
            obtain ⟨UB, hUB⟩ : ∃ B, B = ByteArray.mk U.toArray := ⟨_, rfl⟩
            obtain ⟨LB, hLB⟩ : ∃ B, B = ByteArray.mk l.toArray := ⟨_, rfl⟩
            have HCC : Hid (UB ++ (LB ++ (⟨#[10]⟩ : ByteArray)) = ⟨(U ++ (l ++ [10])).toArray⟩) := Lib.hid (by rw [hUB, hLB]; exact bcat10 U l)
            have hus : UB.size ≤ 5000000 := by rw [hUB]; show U.length ≤ _; omega
            have hlbs : LB.size ≤ 2000 := by rw [hLB]; exact hl2
            rw [← hUB]
            rw [← hLB] at HLN
            clear hC1 x1 k1 hst h1l hjl hl1 hlb hsm hsl2 htk hUB hLB hUe
            go_wp2_with (first
              | (refine wpList_exec rfl (exec_loadC 35 (.tmp 50) rfl g1 (j * 4) rfl C1 _ HX1.out Tryd.underlying35 rfl HS1.out) ?_)
              | (refine wpList_store_row rfl rfl 35 (.tmp 11) (.tmp 51) rfl wz.heap.size rfl 35 _ C1 rfl (heap_alloc_new wz _) HCZ.out HS1.out HO1.out ?_
                 refine wpList_gen (fun W4 => W4.heap[wz.heap.size]? = some (.cells C1 35 (0, 0)) ∧ Below wz.heap.size wz W4) (lnew_row wz _ _ C1 35 rfl) (fun W4 hW4 => ?_)
                 obtain ⟨hr4, hb4⟩ := hW4
                 have HR4 := Lib.hid hr4
                 have HB4 := Lib.hid hb4
                 clear hr4 hb4)
              | (refine wpList_load_row rfl 35 (.tmp 11) rfl wz.heap.size rfl 35 _ (0, 0) _ HR4.out Tryd.underlying35 rfl HS1.out ?_))
            refine (HLN.out _ HB4.out).mono ?_
            rintro e w8 ⟨rfl, hb8⟩
            have HB8 := Lib.hid (HB.out.trans ((HB4.out.trans (hb8.mono HB4.out.size)).mono HB.out.size))
            clear hb8
            go_wp2_with fail
            go_roundw
            case rel => exact ⟨j + 1, U ++ (l ++ [10]), by omega, by go_num, by rw [HCC.out], by simp only [List.length_append, List.length_cons, List.length_nil]; omega, HNX, HB8⟩
            case measure => simp [intOf]; omega
          · obtain rfl : j = m := by omega
            have hUT : U = T := by rw [hUe.out, List.take_of_length_le (by rw [← HM.out]; exact Nat.le_refl _), HT1.out]
            have hUB : (⟨U.toArray⟩ : ByteArray) = TB := by rw [hUT, HTB.out]
            rw [hUB]
            have HE := Lib.hid (M5.out.trans (HB.out.mono M5.out.size))
            clear hUe hUT hUB
            go_wp2_with fail
            go_ret
            exact ⟨rfl, HE.out⟩
end Go.Proofs.YtgkhnmohjidbmaaDoor
