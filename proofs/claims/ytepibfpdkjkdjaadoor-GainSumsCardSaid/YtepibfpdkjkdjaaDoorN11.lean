/- nat.behind: one decimal digit more. -/
import Derived.Test.YtepibfpdkjkdjaaDoorN10
import Derived.Test.YtepibfpdkjkdjaaDoorLaw2
namespace Go.Proofs.YtepibfpdkjkdjaaDoor
open Go.RowKit

theorem vl_take_succ (b : Nat) (l : List Nat) (i : Nat) (hi : i < l.length) : vl b (l.take (i + 1)) = vl b (l.take i) + b ^ i * l[i] := by
  rw [← List.take_append_getElem hi, vl_app, List.length_take, Nat.min_eq_left (Nat.le_of_lt hi)]
  simp [vl]

/-- While a digit is put behind. -/
structure BehR (p : Option Addr) (cap d : Nat) (A : List Nat) (w : World) (i : Nat) (R : List Nat) (c : Nat) (wr : World) : Prop where
  s : Sl .u32 38 wr p cap R
  len : R.length = A.length
  lt : ∀ z ∈ R, z < 4294967296
  same : ∀ t (h : t < R.length) (h2 : t < A.length), i ≤ t → R[t] = A[t]
  val : vl 4294967296 (R.take i) + 4294967296 ^ i * c = 10 * vl 4294967296 (A.take i) + d
  c9 : c ≤ 9
  m : Mod (fun i => ∃ a, p = some a ∧ i = a.block) w wr

theorem BehR.next {g cap d : Nat} {A : List Nat} {w : World} {i : Nat} {R : List Nat} {c : Nat} {wr : World} (h : BehR (some ⟨g, 0, none⟩) cap d A w i R c wr) (hA : ∀ z ∈ A, z < 4294967296) (hi : i < A.length) (s : Nat) (hs : s = c + 10 * A[i]) :
    BehR (some ⟨g, 0, none⟩) cap d A w (i + 1) (R.set i (s % 4294967296)) (s / 4294967296) (wr.setCell ⟨g, i, none⟩ (.int .u32 ((s % 4294967296 : Nat) : Int))) := by
  have hl : i < R.length := by rw [h.len]; exact hi
  have hai := hA A[i] (List.getElem_mem hi)
  have hc9 := h.c9
  refine ⟨h.s.set _ _, by simpa using h.len, set_lt h.lt (Nat.mod_lt _ (by decide)), ?_, ?_, ?_, h.m.setCell (p := ⟨g, i, none⟩) (fun _ => ⟨⟨g, 0, none⟩, rfl, rfl⟩) _⟩
  · intro t ht h2 hit
    rw [List.getElem_set_ne (by omega)]
    exact h.same t (by simpa using ht) h2 (by omega)
  · rw [vl_take_succ _ _ i (by simpa using hl), vl_take_succ _ A i hi, List.getElem_set_self, List.take_set_of_le (by omega), Nat.pow_succ]
    have hv := h.val
    have e := Nat.mod_add_div s 4294967296
    generalize s % 4294967296 = m at *
    generalize s / 4294967296 = q at *
    generalize 4294967296 ^ i = P at *
    have e2 : P * m + P * 4294967296 * q = P * s := by rw [← e, Nat.mul_add, Nat.mul_assoc]
    have e3 : P * s = P * c + 10 * (P * A[i]) := by rw [hs, Nat.mul_add, show P * (10 * A[i]) = 10 * (P * A[i]) from Nat.mul_left_comm _ _ _]
    generalize P * m = x1 at *
    generalize P * 4294967296 * q = x2 at *
    generalize P * s = x3 at *
    generalize P * c = x4 at *
    generalize P * A[i] = x5 at *
    generalize vl 4294967296 (R.take i) = x6 at *
    generalize vl 4294967296 (A.take i) = x7 at *
    clear e h hs hA
    omega
  · omega

/-- What 'behind' answers. -/
def Behind (w : World) (p : Option Addr) (A : List Nat) (d : Nat) (r : Ending) (w' : World) : Prop :=
  ∃ q c B, r = .returned (.slice q B.length c) ∧ Sl .u32 38 w' q c B ∧ (∀ z ∈ B, z < 4294967296) ∧ vl 4294967296 B = 10 * vl 4294967296 A + d ∧ B.length ≤ A.length + 1 ∧
    Mod (fun i => ∃ a, p = some a ∧ i = a.block) w w' ∧ (q = p ∨ ∃ g, q = some ⟨g, 0, none⟩ ∧ w.heap.size ≤ g)

set_option maxHeartbeats 1000000 in
theorem behind_any (p : Option Addr) (cap d n : Nat) (A : List Nat) (w : World) (hS : Sl .u32 38 w p cap A) (hn : A.length = n) (hA : ∀ z ∈ A, z < 4294967296) (hl : n ≤ 100000) (hd : d ≤ 9) :
    Calls Tryd.prog 60 #[.slice p n cap, .int .u64 (d : Int)] w (Behind w p A d) := by
  have Hn := Lib.hid hn
  have HA := Lib.hid hA
  have hR0 : BehR p cap d A w 0 A d w := ⟨hS, rfl, hA, fun t _ _ _ => rfl, by simp [vl], hd, Mod.refl _ _⟩
  clear hn hA hS hd
  go_enter Tryd.func60, Tryd.ntmps60
  go_wp2_with fail
  go_loopw [5, 11] (fun s5 s11 wr => ∃ (i c : Nat) (R : List Nat), i ≤ n ∧ s11 = .int .i64 (i : Int) ∧ s5 = .int .u64 (c : Int) ∧ BehR p cap d A w i R c wr) (fun _ i _ => n - (intOf i).toNat)
  case atStart => exact ⟨0, d, A, by omega, rfl, rfl, hR0⟩
  case round =>
    clear hR0
    obtain ⟨i, c, R, hi, rfl, rfl, hR⟩ := hrel
    by_cases hin : i < n
    · have hiA : i < A.length := by rw [Hn.out]; exact hin
      have hiR : i < R.length := by rw [hR.len]; exact hiA
      have hne : R ≠ [] := by intro e; rw [e] at hiR; simp at hiR
      obtain ⟨g, rfl⟩ := hR.s.isPtr hne
      obtain ⟨x, hx⟩ : ∃ x, x = A[i] := ⟨_, rfl⟩
      have lx : x < 4294967296 := by rw [hx]; exact HA.out _ (List.getElem_mem hiA)
      have hc := hR.s.cell i hiR
      rw [hR.same i hiR hiA (Nat.le_refl _), ← hx] at hc
      have hf := hR.s.froz i
      have h9 := hR.c9
      obtain ⟨s, hs⟩ : ∃ s, s = c + 10 * x := ⟨_, rfl⟩
      obtain ⟨v, hv⟩ : ∃ v, v = s % 4294967296 := ⟨_, rfl⟩
      obtain ⟨c', hc'⟩ : ∃ v, v = s / 4294967296 := ⟨_, rfl⟩
      have hN := hR.next HA.out hiA s (by rw [hs, hx])
      rw [← hv, ← hc'] at hN
      have i0 : (0 : Int) ≤ i := by omega
      have i1 : (i : Int) < n := by omega
      have e1 : IntKind.u64.wrap (10 * (x : Int)) = 10 * (x : Int) := by rw [IntKind.wrap_u64]; omega
      have e2 : (c : Int) + 10 * (x : Int) = s := by omega
      have e3 : IntKind.u64.wrap (s : Int) = s := by rw [IntKind.wrap_u64]; omega
      have e4 : (s : Int) % 4294967296 = v := by omega
      have e5 : (s : Int) / 4294967296 = c' := by omega
      clear hx hs hv hc' hR
      go_wp2_with fail
      go_roundw
      case rel => exact ⟨i + 1, c', R.set i v, by omega, by go_num, rfl, hN⟩
      case measure => simp [intOf]; omega
    · obtain rfl : i = n := by omega
      have hv := hR.val
      rw [List.take_of_length_le (by rw [hR.len, Hn.out]; exact Nat.le_refl _), List.take_of_length_le (by rw [Hn.out]; exact Nat.le_refl _)] at hv
      have hRl : R.length = i := by rw [hR.len, Hn.out]
      have hRs := hR.s
      have hRlt := hR.lt
      have hRm := hR.m
      have h9 := hR.c9
      have Hv := Lib.hid hv
      have HRl := Lib.hid hRl
      have Hlt := Lib.hid hRlt
      clear hR hv hRl hRlt
      by_cases hc0 : c = 0
      · subst hc0
        go_wp2_with fail
        go_ret
        refine ⟨p, cap, R, by rw [HRl.out]; rfl, hRs, Hlt.out, ?_, by rw [HRl.out, Hn.out]; omega, hRm, .inl rfl⟩
        have := Hv.out; rw [Nat.mul_zero, Nat.add_zero] at this; exact this
      · have b0 : ((c : Int) == 0) = false := by rw [beq_eq_false_iff_ne]; omega
        have e1 : (c : Int) % 4294967296 = c := by omega
        go_wp2_with (at_builtin; refine wpList_push rfl _ _ .u32 23 38 (.int .u32 0) 4 rfl Tryd.underlying23 info_u32 rfl (by decide) p cap i 1 R [c] HRl.out rfl (by decide) rfl hRs rfl (by omega) ?_; intro pq cq W5 hP)
        obtain ⟨hS5, hm5, gq, rfl, hor⟩ := hP
        go_wp2_with fail
        go_ret
        refine ⟨some ⟨gq, 0, none⟩, cq, R ++ [c], ?_, hS5, ?_, ?_, ?_, hRm.trans hm5 (fun _ _ h => h), ?_⟩
        · rw [List.length_append, HRl.out]; rfl
        · intro z hz; rw [List.mem_append, List.mem_singleton] at hz
          rcases hz with h | h
          · exact Hlt.out z h
          · omega
        · have := Hv.out; rw [vl_app, HRl.out]; simpa [vl] using this
        · rw [List.length_append, HRl.out, Hn.out]; simp
        · rcases hor with h | h
          · exact .inl h.symm
          · exact .inr ⟨gq, rfl, Nat.le_trans hRm.size h⟩
end Go.Proofs.YtepibfpdkjkdjaaDoor
