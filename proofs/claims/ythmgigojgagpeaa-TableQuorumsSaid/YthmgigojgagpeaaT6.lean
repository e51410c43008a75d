/- The law's entries: few, Right. -/
import Derived.Test.YthmgigojgagpeaaT5
namespace Go.Proofs.Ythmgigojgagpeaa
open Go.RowKit

/-- The slice holds any entries. -/
def EntsI (w : World) (ao : Option Addr) (L : List (Int × Int)) : Prop :=
  ∀ j (h : j < L.length), ∃ bs off, ao = some ⟨bs, off, none⟩ ∧ bs < w.heap.size ∧ w.cell? ⟨bs, off + j * 2, none⟩ = some (.int .i64 L[j].1) ∧ w.cell? ⟨bs, off + j * 2 + 1, none⟩ = some (.int .i64 L[j].2)
theorem EntsI.old {w w' : World} {ao : Option Addr} {L : List (Int × Int)} (h : EntsI w ao L) (hb : Below w.heap.size w w') : EntsI w' ao L := by
  intro j hj
  obtain ⟨bs, off, e, hlt, c1, c2⟩ := h j hj
  exact ⟨bs, off, e, Nat.lt_of_lt_of_le hlt hb.size, (hb.cell (p := ⟨bs, off + j * 2, none⟩) hlt).trans c1, (hb.cell (p := ⟨bs, off + j * 2 + 1, none⟩) hlt).trans c2⟩
theorem EntsI.take {w : World} {ao : Option Addr} {L : List (Int × Int)} (h : EntsI w ao L) (n : Nat) : EntsI w ao (L.take n) := by
  intro j hj
  have hj2 : j < L.length := by rw [List.length_take] at hj; omega
  obtain ⟨bs, off, e, hlt, c1, c2⟩ := h j hj2
  refine ⟨bs, off, e, hlt, ?_, ?_⟩ <;> rw [List.getElem_take] <;> assumption

set_option maxHeartbeats 1000000 in
theorem few_any (ao : Option Addr) (cap : Nat) (L : List (Int × Int)) (w : World) (hc : L.length ≤ cap) :
    Calls Try.prog 19 #[.slice ao L.length cap] w fun r w' => r = .returned (.slice ao (L.take 66).length cap) ∧ w = w' := by
  rw [List.length_take]
  obtain ⟨n, hn⟩ : ∃ n, n = L.length := ⟨_, rfl⟩
  rw [← hn] at hc ⊢
  clear hn
  by_cases h : 66 < n
  · have b1 : (66 : Int) < n := by omega
    have i1 : (66 : Int) ≤ cap := by omega
    have i2 : 66 ≤ cap := by omega
    have e : min 66 n = 66 := by omega
    rw [e]
    clear e
    go_enter Try.func19, Try.ntmps19
    go_wp2_with fail
    go_ret
    exact ⟨rfl, rfl⟩
  · have b1 : ¬ (66 : Int) < n := by omega
    have e : min 66 n = n := by omega
    rw [e]
    clear e
    go_enter Try.func19, Try.ntmps19
    go_wp2_with fail
    go_ret
    exact ⟨rfl, rfl⟩

theorem EntsOk.rank {E : List (Nat × Nat)} {least : Nat} (h : EntsOk E least) : ∀ j (hj : j < E.length), j ≤ E[j].1 := by
  intro j
  induction j with
  | zero => intro _; exact Nat.zero_le _
  | succ j ih => intro hj; have h1 := ih (by omega); have h2 := h.up j hj; omega
theorem EntsOk.len {E : List (Nat × Nat)} {least : Nat} (h : EntsOk E least) : E.length ≤ 64 := by
  apply Nat.le_of_not_lt; intro hlt
  have h1 := h.rank 64 hlt
  have h2 := h.m E[64] (List.getElem_mem hlt)
  omega
theorem EntsOk.nil (least : Nat) : EntsOk [] least := ⟨(fun e he => by simp at he), (fun e he => by simp at he), (fun j h => by simp at h)⟩
/-- Entries so far, up to a miner. -/
def UpTo (D : List (Nat × Nat)) (m : Nat) : Prop := EntsOk D 1 ∧ ∀ e ∈ D, e.1 ≤ m
theorem UpTo.push {D : List (Nat × Nat)} {m p : Nat} (h : UpTo D m) (hm : m < 64) (hp : 1 ≤ p ∧ p ≤ 1099511627776) (hlast : ∀ (hk : 0 < D.length), (D[D.length - 1]'(by omega)).1 < m) : UpTo (D ++ [(m, p)]) m := by
  obtain ⟨⟨h1, h2, h3⟩, h4⟩ := h
  refine ⟨⟨?_, ?_, ?_⟩, ?_⟩
  · intro e he
    rcases List.mem_append.1 he with he | he
    · exact h1 e he
    · rw [List.mem_singleton.1 he]; exact hm
  · intro e he
    rcases List.mem_append.1 he with he | he
    · exact h2 e he
    · rw [List.mem_singleton.1 he]; exact hp
  · intro j hj
    rw [List.length_append, List.length_singleton] at hj
    by_cases hjl : j + 1 < D.length
    · rw [List.getElem_append_left (by omega), List.getElem_append_left hjl]; exact h3 j hjl
    · rw [List.getElem_append_left (by omega), List.getElem_append_right (by omega)]
      have hl := hlast (by omega)
      have e : j = D.length - 1 := by omega
      subst e
      simpa using hl
  · intro e he
    rcases List.mem_append.1 he with he | he
    · exact h4 e he
    · rw [List.mem_singleton.1 he]; exact Nat.le_refl _

set_option maxRecDepth 20000 in
set_option maxHeartbeats 8000000 in
theorem right_any (ao : Option Addr) (cap : Nat) (L : List (Int × Int)) (w : World) (hS : EntsI w ao L) (hc : L.length ≤ cap) :
    Calls Try.prog 7 #[.slice ao L.length cap] w fun r w' => ∃ E q c, r = .returned (.slice q E.length c) ∧ Pr 46 w' q c E ∧ EntsOk E 1 ∧ E ≠ [] ∧ Below w.heap.size w w' := by
  have hfew := fun w => few_any ao cap L w hc
  obtain ⟨L2, hL2⟩ : ∃ L2, L2 = L.take 66 := ⟨_, rfl⟩
  have hS2 : EntsI w ao L2 := by rw [hL2]; exact hS.take 66
  have hl2 : L2.length ≤ 66 := by rw [hL2, List.length_take]; exact Nat.min_le_left _ _
  rw [← hL2] at hfew
  obtain ⟨nL, hnL⟩ : ∃ n, n = L.length := ⟨_, rfl⟩
  obtain ⟨n2, hn2⟩ : ∃ n, n = L2.length := ⟨_, rfl⟩
  rw [← hnL, ← hn2] at hfew
  rw [← hnL]
  rw [← hn2] at hl2
  have Hn2 := Lib.hid hn2
  have HS2 := Lib.hid hS2
  have Hfew := Lib.hid hfew
  have hK : AccP 46 w 0 [] none 0 w := ⟨Pr.empty _ _, rfl, (fun a e => by cases e), Below.refl _ _⟩
  clear hfew hL2 hS hS2 hc hnL hn2
  go_enter Try.func7, Try.ntmps7
  go_upto_block 0 with fail
  go_cut [3] (fun s3 wr => ∃ (D : List (Nat × Nat)) (q : Option Addr) (c k : Nat), s3 = .slice q k c ∧ AccP 46 w k D q c wr ∧ EntsOk D 1)
  case first =>
    go_wp2_with fail
    go_loopw [3, 7] (fun s3 s7 wr => ∃ (m : Nat) (D : List (Nat × Nat)) (q : Option Addr) (c k : Nat), m ≤ 64 ∧ s3 = .slice q k c ∧ s7 = .int .i64 (m : Int) ∧ AccP 46 w k D q c wr ∧ Hid (UpTo D m)) (fun _ s7 _ => 64 - (intOf s7).toNat)
    case atStart => exact ⟨0, [], none, 0, 0, by omega, rfl, rfl, hK, Lib.hid ⟨EntsOk.nil 1, (fun e he => by simp at he)⟩⟩
    case round =>
      clear hK
      obtain ⟨m, D, q, c, k, hm, rfl, rfl, hR, hU⟩ := hrel
      by_cases hm64 : m < 64
      · have m1 : (m : Int) < 64 := by omega
        go_wp2_with fail
        refine (Hfew.out wr).mono ?_
        rintro r w2 ⟨rfl, rfl⟩
        go_wp2_with fail
        obtain ⟨wo, rfl⟩ : ∃ wo : World, wo = wr := ⟨_, rfl⟩
        go_loopw [3, 13] (fun s3 s13 wr => ∃ (j : Nat) (D : List (Nat × Nat)) (q : Option Addr) (c k : Nat), j ≤ n2 ∧ s3 = .slice q k c ∧ s13 = .int .i64 (j : Int) ∧ AccP 46 w k D q c wr ∧ Hid (UpTo D m)) (fun _ s13 _ => n2 - (intOf s13).toNat)
        case atStart => exact ⟨0, D, q, c, k, by omega, rfl, rfl, hR, hU⟩
        case round =>
          clear hR hU
          obtain ⟨j, D, q, c, k, hj, rfl, rfl, hR, hU⟩ := hrel
          by_cases hjn : j < n2
          · have hjl : j < L2.length := by rw [← Hn2.out]; exact hjn
            obtain ⟨bs, off, rfl, hbs, c1, c2⟩ := (HS2.out.old hR.m) j hjl
            generalize L2[j].1 = a at c1
            generalize L2[j].2 = b at c2
            have j1 : (j : Int) < n2 := by omega
            have j0 : (0 : Int) ≤ j := by omega
            obtain ⟨x, hx⟩ : ∃ x, bits BinOp.and IntKind.i64 a 63 = x := ⟨_, rfl⟩
            have hb1 : Below wr.heap.size wr (wr.alloc (.cells #[.int .i64 a, .int .i64 b] 46)) := (Below.refl _ _).alloc (Nat.le_refl _) _
            have hR1 := hR.below hb1
            have hkl := Lib.hid hR1.len
            have hk64 : k ≤ 64 := by rw [← hR1.len]; exact hU.out.1.len
            by_cases hxm : x = m
            · have bx : (x == (m : Int)) = true := by rw [beq_iff_eq]; exact hxm
              clear hxm
              clear hR hb1
              by_cases hbh : 1099511627776 < b
              · have hp1 : 1 ≤ 1099511627776 ∧ 1099511627776 ≤ 1099511627776 := by decide
                by_cases hk0 : k = 0
                · have bk : ((k : Int) == 0) = true := by rw [beq_iff_eq]; omega
                  go_wp2_with (at_builtin; refine wpList_pushP rfl _ _ 22 46 _ rfl Try.underlying22 info_rentry rfl q c k D (m, 1099511627776) hkl.out rfl hR1.s rfl (by simp) (by omega) ?_; intro pq2 cq2 W5 hP)
                  have hR5 := hR1.push hP
                  have hU5 : Hid (UpTo (D ++ [(m, 1099511627776)]) m) := Lib.hid (hU.out.push hm64 hp1 (fun h => by have := hkl.out; omega))
                  clear hP hR1
                  go_wp2_with fail
                  go_roundw
                  case rel => exact ⟨j + 1, D ++ [(m, 1099511627776)], pq2, cq2, k + 1, by omega, (by rw [hk0]), by go_num, hR5, hU5⟩
                  case measure => simp [intOf]; omega
                · have hDk : k - 1 < D.length := by have := hkl.out; omega
                  obtain ⟨b2, o2, rfl, hb2, d1, _⟩ := hR1.s.ents (k - 1) hDk
                  obtain ⟨z, hz⟩ : ∃ z, z = D[k - 1].1 := ⟨_, rfl⟩
                  rw [← hz] at d1
                  have bk : ((k : Int) == 0) = false := by rw [beq_eq_false_iff_ne]; omega
                  have k1 : ((k : Int) - 1).toNat = k - 1 := by omega
                  have k2 : (0 : Int) ≤ (k : Int) - 1 := by omega
                  have k3 : (k : Int) - 1 < k := by omega
                  by_cases hlt : z < m
                  · have bz : (z : Int) < m := by omega
                    have hU5' : Hid (UpTo (D ++ [(m, 1099511627776)]) m) := Lib.hid (hU.out.push hm64 hp1 (fun h => by have e := hkl.out; subst e; rw [← hz]; exact hlt))
                    clear hz
                    go_wp2_with (at_builtin; refine wpList_pushP rfl _ _ 22 46 _ rfl Try.underlying22 info_rentry rfl _ c k D (m, 1099511627776) hkl.out rfl hR1.s rfl (by simp) (by omega) ?_; intro pq2 cq2 W5 hP)
                    have hR5 := hR1.push hP
                    clear hP hR1
                    go_wp2_with fail
                    go_roundw
                    case rel => exact ⟨j + 1, D ++ [(m, 1099511627776)], pq2, cq2, k + 1, by omega, rfl, by go_num, hR5, hU5'⟩
                    case measure => simp [intOf]; omega
                  · have bz : ¬ (z : Int) < m := by omega
                    clear hz
                    go_wp2_with fail
                    go_roundw
                    case rel => exact ⟨j + 1, D, _, c, k, by omega, rfl, by go_num, hR1, hU⟩
                    case measure => simp [intOf]; omega
              · by_cases hbl : 1 < b
                · obtain ⟨p, rfl⟩ : ∃ p : Nat, b = p := ⟨b.toNat, by omega⟩
                  have hp1 : 1 ≤ p ∧ p ≤ 1099511627776 := by omega
                  by_cases hk0 : k = 0
                  · have bk : ((k : Int) == 0) = true := by rw [beq_iff_eq]; omega
                    go_wp2_with (at_builtin; refine wpList_pushP rfl _ _ 22 46 _ rfl Try.underlying22 info_rentry rfl q c k D (m, p) hkl.out rfl hR1.s rfl (by simp) (by omega) ?_; intro pq2 cq2 W5 hP)
                    have hR5 := hR1.push hP
                    have hU5 : Hid (UpTo (D ++ [(m, p)]) m) := Lib.hid (hU.out.push hm64 hp1 (fun h => by have := hkl.out; omega))
                    clear hP hR1
                    go_wp2_with fail
                    go_roundw
                    case rel => exact ⟨j + 1, D ++ [(m, p)], pq2, cq2, k + 1, by omega, (by rw [hk0]), by go_num, hR5, hU5⟩
                    case measure => simp [intOf]; omega
                  · have hDk : k - 1 < D.length := by have := hkl.out; omega
                    obtain ⟨b2, o2, rfl, hb2, d1, _⟩ := hR1.s.ents (k - 1) hDk
                    obtain ⟨z, hz⟩ : ∃ z, z = D[k - 1].1 := ⟨_, rfl⟩
                    rw [← hz] at d1
                    have bk : ((k : Int) == 0) = false := by rw [beq_eq_false_iff_ne]; omega
                    have k1 : ((k : Int) - 1).toNat = k - 1 := by omega
                    have k2 : (0 : Int) ≤ (k : Int) - 1 := by omega
                    have k3 : (k : Int) - 1 < k := by omega
                    by_cases hlt : z < m
                    · have bz : (z : Int) < m := by omega
                      have hU5' : Hid (UpTo (D ++ [(m, p)]) m) := Lib.hid (hU.out.push hm64 hp1 (fun h => by have e := hkl.out; subst e; rw [← hz]; exact hlt))
                      clear hz
                      go_wp2_with (at_builtin; refine wpList_pushP rfl _ _ 22 46 _ rfl Try.underlying22 info_rentry rfl _ c k D (m, p) hkl.out rfl hR1.s rfl (by simp) (by omega) ?_; intro pq2 cq2 W5 hP)
                      have hR5 := hR1.push hP
                      clear hP hR1
                      go_wp2_with fail
                      go_roundw
                      case rel => exact ⟨j + 1, D ++ [(m, p)], pq2, cq2, k + 1, by omega, rfl, by go_num, hR5, hU5'⟩
                      case measure => simp [intOf]; omega
                    · have bz : ¬ (z : Int) < m := by omega
                      clear hz
                      go_wp2_with fail
                      go_roundw
                      case rel => exact ⟨j + 1, D, _, c, k, by omega, rfl, by go_num, hR1, hU⟩
                      case measure => simp [intOf]; omega
                · have hp1 : 1 ≤ 1 ∧ 1 ≤ 1099511627776 := by decide
                  by_cases hk0 : k = 0
                  · have bk : ((k : Int) == 0) = true := by rw [beq_iff_eq]; omega
                    go_wp2_with (at_builtin; refine wpList_pushP rfl _ _ 22 46 _ rfl Try.underlying22 info_rentry rfl q c k D (m, 1) hkl.out rfl hR1.s rfl (by simp) (by omega) ?_; intro pq2 cq2 W5 hP)
                    have hR5 := hR1.push hP
                    have hU5 : Hid (UpTo (D ++ [(m, 1)]) m) := Lib.hid (hU.out.push hm64 hp1 (fun h => by have := hkl.out; omega))
                    clear hP hR1
                    go_wp2_with fail
                    go_roundw
                    case rel => exact ⟨j + 1, D ++ [(m, 1)], pq2, cq2, k + 1, by omega, (by rw [hk0]), by go_num, hR5, hU5⟩
                    case measure => simp [intOf]; omega
                  · have hDk : k - 1 < D.length := by have := hkl.out; omega
                    obtain ⟨b2, o2, rfl, hb2, d1, _⟩ := hR1.s.ents (k - 1) hDk
                    obtain ⟨z, hz⟩ : ∃ z, z = D[k - 1].1 := ⟨_, rfl⟩
                    rw [← hz] at d1
                    have bk : ((k : Int) == 0) = false := by rw [beq_eq_false_iff_ne]; omega
                    have k1 : ((k : Int) - 1).toNat = k - 1 := by omega
                    have k2 : (0 : Int) ≤ (k : Int) - 1 := by omega
                    have k3 : (k : Int) - 1 < k := by omega
                    by_cases hlt : z < m
                    · have bz : (z : Int) < m := by omega
                      have hU5' : Hid (UpTo (D ++ [(m, 1)]) m) := Lib.hid (hU.out.push hm64 hp1 (fun h => by have e := hkl.out; subst e; rw [← hz]; exact hlt))
                      clear hz
                      go_wp2_with (at_builtin; refine wpList_pushP rfl _ _ 22 46 _ rfl Try.underlying22 info_rentry rfl _ c k D (m, 1) hkl.out rfl hR1.s rfl (by simp) (by omega) ?_; intro pq2 cq2 W5 hP)
                      have hR5 := hR1.push hP
                      clear hP hR1
                      go_wp2_with fail
                      go_roundw
                      case rel => exact ⟨j + 1, D ++ [(m, 1)], pq2, cq2, k + 1, by omega, rfl, by go_num, hR5, hU5'⟩
                      case measure => simp [intOf]; omega
                    · have bz : ¬ (z : Int) < m := by omega
                      clear hz
                      go_wp2_with fail
                      go_roundw
                      case rel => exact ⟨j + 1, D, _, c, k, by omega, rfl, by go_num, hR1, hU⟩
                      case measure => simp [intOf]; omega
            · have bx : (x == (m : Int)) = false := by rw [beq_eq_false_iff_ne]; exact hxm
              clear hxm hR hb1
              go_wp2_with fail
              go_roundw
              case rel => exact ⟨j + 1, D, q, c, k, by omega, rfl, by go_num, hR1, hU⟩
              case measure => simp [intOf]; omega
          · obtain rfl : j = n2 := by omega
            go_wp2_with fail
            go_roundw
            case rel => exact ⟨m + 1, D, q, c, k, by omega, rfl, by go_num, hR, Lib.hid ⟨hU.out.1, fun e he => Nat.le_succ_of_le (hU.out.2 e he)⟩⟩
            case measure => simp [intOf]; omega
      · obtain rfl : m = 64 := by omega
        go_wp2_with fail
        go_meet
        exact ⟨D, q, c, k, rfl, hR, hU.out.1⟩
  case rest =>
    obtain ⟨D, q, c, k, rfl, hR, hok⟩ := hcut
    have Hok := Lib.hid hok
    have hkl := hR.len
    clear hok hK
    by_cases hk0 : k = 0
    · have bk : ((k : Int) == 0) = true := by rw [beq_iff_eq]; omega
      go_wp2_with fail
      go_ret
      refine ⟨[(0, 1)], some ⟨wc.heap.size, 0, none⟩, 1, rfl, ?_, ?_, (by simp), hR.m.alloc hR.m.size _⟩
      · exact Pr.of_row (heap_alloc_new _ _) (Nat.le_refl _) (by unfold maxLen; omega) rfl rfl
      · exact ⟨(fun e he => by rw [List.mem_singleton.1 he]; decide), (fun e he => by rw [List.mem_singleton.1 he]; decide), (fun j h => by simp at h)⟩
    · have bk : ((k : Int) == 0) = false := by rw [beq_eq_false_iff_ne]; omega
      go_wp2_with fail
      go_ret
      subst hkl
      exact ⟨D, q, c, rfl, hR.s, Hok.out, (fun e => by subst e; exact hk0 rfl), hR.m⟩
end Go.Proofs.Ythmgigojgagpeaa
