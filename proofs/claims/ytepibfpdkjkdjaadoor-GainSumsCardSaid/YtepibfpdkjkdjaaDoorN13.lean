/- The document's numbers: trim, Parse. -/
import Derived.Test.YtepibfpdkjkdjaaDoorN12
namespace Go.Proofs.YtepibfpdkjkdjaaDoor
open Go.RowKit

/-- The slice holds the decimal digits, the lowest first. -/
abbrev DecIn (w : World) (p : Option Addr) (cap n : Nat) : Prop := Sl .i64 3 w p cap (dg 10 n)
theorem info_int : (Tryd.prog.info? 3).map (fun i => (i.zero, i.size, i.bytes)) = some (some (.int .i64 0), 1, 8) := by kernel_rfl

theorem rtrim_any (p : Option Addr) (cap n : Nat) (A : List Nat) (w : World) (hS : Sl .i64 3 w p cap A) (hn : A.length = n) (hA : ∀ x ∈ A, x < 10) (hl : n ≤ 1000000) :
    Calls Tryd.prog 57 #[.slice p n cap] w fun r w' => r = .returned (.slice p (dg 10 (vl 10 A)).length cap) ∧ DecIn w' p cap (vl 10 A) ∧ w' = w := by
  have Hn := Lib.hid hn.symm
  clear hn
  have hcap := hS.cap_le
  rw [← Hn.out] at hcap
  go_enter Tryd.func57, Tryd.ntmps57
  go_wp2_with fail
  go_loopw [0] (fun s0 wr => ∃ k : Nat, k ≤ n ∧ s0 = .slice p k cap ∧ Hid (∀ i (hi : i < A.length), k ≤ i → A[i] = 0) ∧ wr = w) (fun v _ => match v with | .slice _ k _ => k | _ => 0)
  case atStart => exact ⟨n, by omega, rfl, fun i hi h => by have := Hn.out; omega, rfl⟩
  case round =>
    obtain ⟨k, hk, rfl, hz, rfl⟩ := hrel
    by_cases hk0 : 0 < k
    · have hne : A ≠ [] := by intro e; have := Hn.out; subst e; simp at this; omega
      obtain ⟨g, rfl⟩ := hS.isPtr hne
      have hlt : k - 1 < A.length := by have := Hn.out; omega
      obtain ⟨x, hx⟩ : ∃ x, x = A[k - 1] := ⟨_, rfl⟩
      have hc := hS.cell (k - 1) hlt
      rw [← hx] at hc
      have i0 : (0 : Int) ≤ (k : Int) - 1 := by omega
      have i1 : (k : Int) - 1 < k := by omega
      have i2 : ((k : Int) - 1).toNat = k - 1 := by omega
      have b0 : (0 : Int) < (k : Int) := by omega
      have hwr : IntKind.i64.wrap ((k : Int) - 1) = (k : Int) - 1 := by rw [IntKind.wrap_i64]; omega
      have i3 : (k : Int) - 1 ≤ cap := by omega
      have i4 : (k - 1) ≤ cap := by omega
      have Hx := Lib.hid hx
      clear hx
      by_cases hx0 : x = 0
      · subst hx0
        have hz2 : Hid (∀ i (hi : i < A.length), k - 1 ≤ i → A[i] = 0) := by
          intro i hi h
          by_cases e : i = k - 1
          · subst e; exact Hx.out.symm
          · exact hz.out i hi (by omega)
        clear Hx hz
        go_wp2_with fail
        go_roundw
        case rel => exact ⟨k - 1, by omega, by go_num, hz2, trivial⟩
        case measure => simp; omega
      · have hxb : ((x : Int) == 0) = false := by rw [beq_eq_false_iff_ne]; omega
        have hd : Hid (dg 10 (vl 10 A) = A.take k) := dg_take _ (by decide) A hA k (by have := Hn.out; omega) (fun i hi h => hz.out i hi h) (fun _ => by rw [← Hx.out]; exact hx0)
        have hln : Hid ((A.take k).length = k) := Lib.hid (by rw [List.length_take]; have := Hn.out; omega)
        clear Hx hz
        go_wp2_with fail
        go_ret
        refine ⟨by rw [hd.out, hln.out]; rfl, ?_, rfl⟩
        show Sl _ _ _ _ _ (dg 10 _); rw [hd.out]; exact hS.take k (by have := Hn.out; omega)
    · obtain rfl : k = 0 := by omega
      have hd : Hid (dg 10 (vl 10 A) = []) := dg_take _ (by decide) A hA 0 (by omega) (fun i hi h => hz.out i hi h) (fun h => by omega)
      clear hz
      go_wp2_with fail
      go_ret
      refine ⟨by rw [hd.out]; rfl, ?_, rfl⟩
      show Sl _ _ _ _ _ (dg 10 _); rw [hd.out]; exact hS.take 0 (by omega)

/-- What the document's parser answers. -/
def RParsed (w : World) (l : List UInt8) (r : Ending) (w' : World) : Prop :=
  ∃ q c x, r = .returned (.tuple #[.slice q (dg 10 x).length c, .bool (isNum l)]) ∧ Hid (x = if isNum l then num l else 0) ∧ DecIn w' q c x ∧ Below w.heap.size w w' ∧ (∀ a, q = some a → w.heap.size ≤ a.block)
theorem rrefused_out {l : List UInt8} {w w' : World} (h : isNum l = false) (hb : Below w.heap.size w w') : RParsed w l (.returned (.tuple #[.slice none 0 0, .bool false])) w' :=
  ⟨none, 0, 0, by rw [h, dg_zero]; rfl, Lib.hid (by rw [h]; rfl), by show Sl _ _ _ _ _ (dg 10 0); rw [dg_zero]; exact Sl.empty _ _ _, hb, fun a e => by cases e⟩

/-- While digits are read from behind. -/
structure RParR (w : World) (l : List UInt8) (k : Nat) (q : Option Addr) (c : Nat) (D : List Nat) (wr : World) : Prop where
  s : Sl .i64 3 wr q c D
  len : D.length = k
  lt : ∀ z ∈ D, z < 10
  val : vl 10 D + 10 ^ k * num (l.take (l.length - k)) = num l
  dig : ∀ i (h : i < l.length), l.length - k ≤ i → isD l[i] = true
  new : ∀ a, q = some a → w.heap.size ≤ a.block
  m : Below w.heap.size w wr

theorem RParR.next {w : World} {l : List UInt8} {k : Nat} {q : Option Addr} {c : Nat} {D : List Nat} {wr w' : World} (h : RParR w l k q c D wr) (hk : k < l.length) (hD : isD (l[l.length - 1 - k]'(by omega)) = true) (d : Nat) (hd : d = (l[l.length - 1 - k]'(by omega)).toNat - 48) (q' : Option Addr) (c' : Nat) (hP : Pushed .i64 3 wr q (D ++ [d]) q' c' w') :
    RParR w l (k + 1) q' c' (D ++ [d]) w' := by
  obtain ⟨hS, hm, g, rfl, hor⟩ := hP
  have hn := num_take l (l.length - 1 - k) (by omega)
  rw [show l.length - 1 - k + 1 = l.length - k by omega, ← hd] at hn
  refine ⟨hS, by rw [List.length_append, h.len]; rfl, ?_, ?_, ?_, ?_, h.m.trans (hm.to_below h.m.size (by rintro j hj ⟨a, e, rfl⟩; have := h.new a e; omega))⟩
  · intro z hz
    rw [List.mem_append, List.mem_singleton] at hz
    rcases hz with h1 | rfl
    · exact h.lt z h1
    · unfold isD at hD; simp at hD; omega
  · rw [vl_app, h.len, show l.length - (k + 1) = l.length - 1 - k by omega]
    have hv := h.val
    rw [hn, Nat.mul_add] at hv
    simp only [vl, Nat.mul_zero, Nat.add_zero]
    rw [Nat.pow_succ, Nat.mul_assoc]
    omega
  · intro i hi h2
    by_cases e : i = l.length - 1 - k
    · subst e; exact hD
    · exact h.dig i hi (by omega)
  · rintro a e; cases e
    rcases hor with h1 | h1
    · exact h.new _ h1
    · exact Nat.le_trans h.m.size h1
end Go.Proofs.YtepibfpdkjkdjaaDoor
