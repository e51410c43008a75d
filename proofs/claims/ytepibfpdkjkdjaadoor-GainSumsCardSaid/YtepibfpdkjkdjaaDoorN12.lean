/- nat.Parse. -/
import Derived.Test.YtepibfpdkjkdjaaDoorN11
import Derived.Lib.OthersKept
namespace Go.Proofs.YtepibfpdkjkdjaaDoor
open Go.RowKit

def isD (c : UInt8) : Bool := decide (48 ≤ c.toNat) && decide (c.toNat ≤ 57)
/-- The number of a row of digits. -/
def num (l : List UInt8) : Nat := l.foldl (fun a c => 10 * a + (c.toNat - 48)) 0
/-- Which texts are numbers. -/
def isNum (l : List UInt8) : Bool := !l.isEmpty && decide (l.length ≤ 400) && (decide (l.head? ≠ some 48) || decide (l = [48])) && l.all isD
theorem num_snoc (l : List UInt8) (c : UInt8) : num (l ++ [c]) = 10 * num l + (c.toNat - 48) := by simp [num]
theorem num_take (l : List UInt8) (i : Nat) (hi : i < l.length) : num (l.take (i + 1)) = 10 * num (l.take i) + (l[i].toNat - 48) := by
  rw [← List.take_append_getElem hi, num_snoc]

/-- What a parser answers. -/
def Parsed (w : World) (l : List UInt8) (r : Ending) (w' : World) : Prop :=
  ∃ q c x, r = .returned (.tuple #[.agg #[.slice q (lb x).length c], .bool (isNum l)]) ∧ Hid (x = if isNum l then num l else 0) ∧ NatIn w' q c x ∧ Below w.heap.size w w' ∧ (∀ a, q = some a → w.heap.size ≤ a.block)

theorem mod_iterAt (w : World) (k : Nat) (s : ByteArray) (p : Nat) : Mod (· = k) w (w.iterAt k s p) :=
  ⟨rfl, rfl, rfl, by rw [Lib.iterAt_size]; exact Nat.le_refl _, fun j _ hj => Lib.iterAt_other w k j s p hj⟩
theorem iterPos_of {w : World} {k : Nat} {s : ByteArray} {p : Nat} (h : w.heap[k]? = some (.stringIter s p)) : w.iterPos k = p := by simp [World.iterPos, h]

/-- While digits are read. -/
structure ParR (w : World) (l : List UInt8) (s : ByteArray) (pos : Nat) (q : Option Addr) (c : Nat) (B : List Nat) (wr : World) : Prop where
  it : wr.heap[w.heap.size + 1]? = some (.stringIter s pos)
  bx : Boxed wr w.heap.size 25 (.slice none 0 0)
  s : Sl .u32 38 wr q c B
  lt : ∀ z ∈ B, z < 4294967296
  val : vl 4294967296 B = num (l.take pos)
  len : B.length ≤ pos
  dig : ∀ i (h : i < l.length), i < pos → isD l[i] = true
  new : ∀ a, q = some a → w.heap.size + 2 ≤ a.block
  m : Below w.heap.size w wr

theorem ParR.iter {w : World} {l : List UInt8} {s : ByteArray} {pos : Nat} {q : Option Addr} {c : Nat} {B : List Nat} {wr : World} (h : ParR w l s pos q c B wr) (p : Nat) :
    Boxed (wr.iterAt (w.heap.size + 1) s p) w.heap.size 25 (.slice none 0 0) ∧ Sl .u32 38 (wr.iterAt (w.heap.size + 1) s p) q c B ∧ Below w.heap.size w (wr.iterAt (w.heap.size + 1) s p) := by
  have hm := mod_iterAt wr (w.heap.size + 1) s p
  refine ⟨Boxed.mod' h.bx hm (by omega), h.s.kept hm (fun a e => by have := h.new a e; omega), ?_⟩
  exact h.m.trans (hm.to_below h.m.size (by intro k hk h; omega))

theorem ParR.next {w : World} {l : List UInt8} {s : ByteArray} {pos : Nat} {q : Option Addr} {c : Nat} {B : List Nat} {wr W1 w' : World} (h : ParR w l s pos q c B wr) (hW : W1 = wr.iterAt (w.heap.size + 1) s (pos + 1)) (hp : pos < l.length) (hd : isD l[pos] = true)
    (q' : Option Addr) (c' : Nat) (B' : List Nat) (hS : Sl .u32 38 w' q' c' B') (hlt : ∀ z ∈ B', z < 4294967296) (hv : vl 4294967296 B' = 10 * vl 4294967296 B + (l[pos].toNat - 48)) (hl : B'.length ≤ B.length + 1) (hm : Mod (fun i => ∃ a, q = some a ∧ i = a.block) W1 w') (hq : q' = q ∨ ∃ g, q' = some ⟨g, 0, none⟩ ∧ W1.heap.size ≤ g) :
    ParR w l s (pos + 1) q' c' B' w' := by
  obtain ⟨hb, _, hbw⟩ := h.iter (pos + 1)
  rw [← hW] at hb hbw
  have hit : W1.heap[w.heap.size + 1]? = some (.stringIter s (pos + 1)) := by rw [hW]; exact Lib.iterAt_heap _ _ _ _ _ h.it
  have hlt2 : w.heap.size + 1 < W1.heap.size := (Array.getElem?_eq_some_iff.1 hit).1
  have hn : ∀ i, i < w.heap.size + 2 → ¬ ∃ a, q = some a ∧ i = a.block := by rintro i hi ⟨a, e, rfl⟩; have := h.new a e; omega
  refine ⟨(hm.block _ hlt2 (hn _ (by omega))).trans hit, Boxed.mod' hb hm (hn _ (by omega)), hS, hlt, ?_, ?_, ?_, ?_, hbw.trans (hm.to_below hbw.size (fun k hk h2 => hn k (by omega) h2))⟩
  · rw [hv, h.val, num_take l pos hp]
  · have := h.len; omega
  · intro i hi hi2
    by_cases e : i = pos
    · subst e; exact hd
    · exact h.dig i hi (by omega)
  · rintro a rfl
    rcases hq with e | ⟨g, e, hg⟩
    · exact h.new a e.symm
    · cases e; exact Nat.le_trans hlt2 hg

theorem isNum_of {l : List UInt8} (h0 : l ≠ []) (h4 : l.length ≤ 400) (h1 : l.head? ≠ some 48 ∨ l = [48]) : isNum l = l.all isD := by
  unfold isNum
  have a : l.isEmpty = false := by cases l <;> simp_all
  have b : (decide (l.head? ≠ some 48) || decide (l = [48])) = true := by rcases h1 with h | h <;> simp [h]
  rw [a, b]; simp [h4]

theorem isNum_long {l : List UInt8} (h : ¬ l.length ≤ 400) : isNum l = false := by
  unfold isNum; rw [decide_eq_false h, Bool.and_false, Bool.false_and, Bool.false_and]
theorem all_false {l : List UInt8} {i : Nat} (hi : i < l.length) (h : isD l[i] = false) : l.all isD = false := by
  rw [← Bool.not_eq_true, List.all_eq_true]
  intro hh
  have := hh _ (List.getElem_mem hi)
  rw [h] at this; cases this
theorem refused_out {l : List UInt8} {w w' : World} (h : isNum l = false) (hb : Below w.heap.size w w') : Parsed w l (.returned (.tuple #[.agg #[.slice none 0 0], .bool false])) w' :=
  ⟨none, 0, 0, by rw [h, lb_zero]; rfl, Lib.hid (by rw [h]; rfl), by show Sl _ _ _ _ _ (lb 0); rw [lb_zero]; exact Sl.empty _ _ _, hb, fun a e => by cases e⟩

set_option maxHeartbeats 2000000 in
theorem parse_any (l : List UInt8) (w : World) (hl : l.length ≤ 1000000000) :
    Calls Tryd.prog 39 #[.string ⟨l.toArray⟩] w (Parsed w l) := by
  obtain ⟨s, hs⟩ : ∃ s, s = ByteArray.mk l.toArray := ⟨_, rfl⟩
  rw [← hs]
  obtain ⟨n, hn⟩ : ∃ n, n = l.length := ⟨_, rfl⟩
  have n1 : s.size = n := by rw [hs, hn]; rfl
  have hL : s.toList = l := by rw [hs, ByteArray.toList_mk]
  have hget : Hid (∀ i (h : i < s.size) (h2 : i < l.length), s[i] = l[i]) := Lib.hid (by subst hs; intro i h h2; rfl)
  by_cases hne : l = []
  · have e0 : (s.toList == []) = true := by rw [hL, hne]; rfl
    have e9 : Hid (isNum l = false) := Lib.hid (by rw [hne]; rfl)
    clear hL hs hget
    go_enter Tryd.func39, Tryd.ntmps39
    go_wp2_with fail
    refine bodyPost_ret (v := .tuple #[.agg #[.slice none 0 0], .bool false]) (by simp [results, Tryd.results39, go_sem]) rfl (refused_out e9.out ((Below.refl _ _).alloc (Nat.le_refl _) _))
  · have e0 : (s.toList == []) = false := by rw [hL, beq_eq_false_iff_ne]; exact hne
    have n0 : 0 < n := by rw [hn]; exact List.length_pos_iff.2 hne
    have Hn := Lib.hid hn
    by_cases h4 : 400 < n
    · have e9 : Hid (isNum l = false) := Lib.hid (isNum_long (by omega))
      clear hL hs hget hn hl
      go_enter Tryd.func39, Tryd.ntmps39
      go_wp2_with fail
      refine bodyPost_ret (v := .tuple #[.agg #[.slice none 0 0], .bool false]) (by simp [results, Tryd.results39, go_sem]) rfl (refused_out e9.out ((Below.refl _ _).alloc (Nat.le_refl _) _))
    · obtain ⟨e1, he1⟩ : ∃ b, (s.toList == [48]) = b := ⟨_, rfl⟩
      have h0 : 0 < s.size := by omega
      obtain ⟨v0, hv0⟩ : ∃ v, v = l[0]'(by omega) := ⟨_, rfl⟩
      have g0 : s[0]'h0 = v0 := by rw [hv0]; exact hget.out 0 h0 (by omega)
      have hhead : l.head? = some v0 := by rw [hv0]; cases l <;> simp_all
      by_cases hbad : v0 = 48 ∧ e1 = false
      · obtain ⟨rfl, rfl⟩ := hbad
        have e9 : Hid (isNum l = false) := Lib.hid (by
          unfold isNum
          have : l ≠ [48] := by rw [hL] at he1; exact fun e => by rw [e] at he1; cases he1
          rw [hhead]; simp [this])
        have hv : ((48 : UInt8).toNat : Int) = 48 := rfl
        clear hL hs hget hn hl hhead hv0
        go_enter Tryd.func39, Tryd.ntmps39
        go_wp2_with fail
        refine bodyPost_ret (v := .tuple #[.agg #[.slice none 0 0], .bool false]) (by simp [results, Tryd.results39, go_sem]) rfl (refused_out e9.out ((Below.refl _ _).alloc (Nat.le_refl _) _))
      · have e9 : Hid (isNum l = l.all isD) := Lib.hid (isNum_of hne (by omega) (by
          by_cases h48 : v0 = 48
          · right
            have : e1 = true := by
              rcases Bool.eq_false_or_eq_true e1 with h | h
              · exact h
              · exact absurd ⟨h48, h⟩ hbad
            rw [hL, this] at he1; exact eq_of_beq he1
          · left; rw [hhead]; intro e; exact h48 (Option.some.inj e)))
        have hv : ((v0.toNat : Int) = 48 → e1 = true) := by
          intro h
          rcases Bool.eq_false_or_eq_true e1 with h2 | h2
          · exact h2
          · exact absurd ⟨UInt8.toNat_inj.1 (by show v0.toNat = 48; omega), h2⟩ hbad
        have hK : ParR w l s 0 none 0 [] ((w.alloc (.cells #[.slice none 0 0] 25)).iter s 0) := by
          refine ⟨?_, ((Boxed.new w _ _).alloc _), Sl.empty _ _ _, by simp, by simp [vl, num], by simp, fun i h h2 => by omega, (fun a e => by cases e), ((Below.refl _ _).alloc (Nat.le_refl _) _).alloc (by simp) _⟩
          have := World.iter_heap (w.alloc (.cells #[.slice none 0 0] 25)) s 0
          rw [World.size_alloc] at this
          exact this
        have e1' : ∀ b : Bool, b = e1 → (v0.toNat : Int) = 48 → b = true := fun b h h2 => by rw [h]; exact hv h2
        clear hL hs hn hl hhead hv0 hbad hv
        go_enter Tryd.func39, Tryd.ntmps39
        go_upto_region 3 with fail
        all_goals
          obtain ⟨hn400, hh⟩ : ∃ _ : n ≤ 400, True := ⟨by omega, trivial⟩
          clear hh e1' he1 g0 e0 h4 hne
          go_wp2_with fail
          generalize ((w.alloc (.cells #[.slice none 0 0] 25)).iter s 0) = W at hK ⊢
          go_loopw [4] (fun s4 wr => ∃ (pos : Nat) (q : Option Addr) (m c : Nat) (B : List Nat), s4 = .slice q m c ∧ Hid (B.length = m) ∧ m ≤ pos ∧ pos ≤ n ∧ ParR w l s pos q c B wr) (fun _ wr => n - wr.iterPos (w.heap.size + 1))
          case atStart => exact ⟨0, none, 0, 0, [], rfl, Lib.hid rfl, by omega, by omega, hK⟩
          case round =>
            clear hK
            obtain ⟨pos, q, m, c, B, rfl, hm, hmp, hpn, hR⟩ := hrel
            have hpos0 := iterPos_of hR.it
            by_cases hp : pos < n
            · have hps : pos < s.size := by omega
              have hpl : pos < l.length := by rw [← Hn.out]; exact hp
              have hgt := hget.out pos hps hpl
              obtain ⟨v, hv⟩ : ∃ v, v = l[pos].toNat := ⟨_, rfl⟩
              have hv256 : v < 256 := by rw [hv]; exact l[pos].toNat_lt
              by_cases h128 : v < 128
              · have hnx : ∀ ty, (Instr.next (.pointer (some ⟨w.heap.size + 1, 0, none⟩)) true ty).run Tryd.prog wr = _ := fun ty => Lib.run_next_ascii_at wr (w.heap.size + 1) s pos ty hR.it hps (by rw [hgt, ← hv]; exact h128)
                rw [hgt, ← hv] at hnx
                obtain ⟨hb1, hS1, hB1⟩ := hR.iter (pos + 1)
                have hit1 := Lib.iterAt_heap wr (w.heap.size + 1) s pos (pos + 1) hR.it
                obtain ⟨W1, hW1⟩ : ∃ W1, W1 = wr.iterAt (w.heap.size + 1) s (pos + 1) := ⟨_, rfl⟩
                rw [← hW1] at hnx hb1 hS1 hB1 hit1
                have HW1 := Lib.hid hW1
                have Hv := Lib.hid hv
                by_cases hd : 48 ≤ v ∧ v ≤ 57
                · obtain ⟨d48, d57⟩ := hd
                  have hD : isD l[pos] = true := by unfold isD; rw [← hv]; simp [d48, d57]
                  obtain ⟨d, hdd⟩ : ∃ d, d = v - 48 := ⟨_, rfl⟩
                  have a1 : ¬ (v : Int) < 48 := by omega
                  have a2 : ¬ (57 : Int) < v := by omega
                  have a3 : IntKind.i32.wrap ((v : Int) - 48) = d := by rw [IntKind.wrap_i32]; omega
                  have a4 : IntKind.u64.wrap (d : Int) = d := by rw [IntKind.wrap_u64]; omega
                  have hd9 : d ≤ 9 := by omega
                  have Hdd := Lib.hid hdd
                  clear hv hW1 hgt hdd
                  go_wp2_with fail
                  have hbe := behind_any q c d m B W1 hS1 hm.out hR.lt (by omega) hd9
                  refine hbe.mono ?_
                  clear hbe
                  rintro r W2 ⟨q2, c2, B2, rfl, hS2, hlt2, hv2, hl2, hm2, hq2⟩
                  have hR2 := hR.next HW1.out hpl hD q2 c2 B2 hS2 hlt2 (by rw [hv2, Hdd.out, Hv.out]) hl2 hm2 hq2
                  obtain ⟨m2, hmm⟩ : ∃ k, k = B2.length := ⟨_, rfl⟩
                  rw [← hmm]
                  have hb2 : m2 ≤ pos + 1 := by rw [hmm]; exact hR2.len
                  have Hm2 := Lib.hid hmm.symm
                  have hpos2 := iterPos_of hR2.it
                  clear hmm hS1 hB1 hb1 hit1 hnx hS2 hv2 hl2 hm2 hq2
                  go_wp2_with fail
                  go_roundw
                  case rel => exact ⟨pos + 1, q2, m2, c2, B2, rfl, Hm2, hb2, by omega, hR2⟩
                  case measure => rw [hpos2, hpos0]; omega
                · have e0 : Hid (isNum l = false) := Lib.hid (by
                    rw [e9.out]; exact all_false hpl (by unfold isD; rw [← hv]; by_cases h : 48 ≤ v <;> simp [h]; omega))
                  have cb := hb1.cell
                  have fb := hb1.frozen
                  have hbs := hb1.set (.slice none 0 0)
                  have cb2 := hbs.cell
                  have hBS : Below w.heap.size w (W1.setCell ⟨w.heap.size, 0, none⟩ (.slice none 0 0)) := hB1.setCell (p := ⟨w.heap.size, 0, none⟩) (Nat.le_refl _) _
                  have hor : (v : Int) < 48 ∨ ¬ (v : Int) < 48 ∧ (57 : Int) < v := by omega
                  clear hv hW1 hgt hd
                  rcases hor with a1 | ⟨a1, a2⟩
                  all_goals
                    go_wp2_with fail
                    refine bodyPost_ret (v := .tuple #[.agg #[.slice none 0 0], .bool false]) (by simp [results, Tryd.results39, go_sem, cb2]) rfl (refused_out e0.out hBS)
              · have hnx : ∀ ty, (Instr.next (.pointer (some ⟨w.heap.size + 1, 0, none⟩)) true ty).run Tryd.prog wr = _ := fun ty => Lib.run_next_any_at wr (w.heap.size + 1) s pos ty hR.it hps
                have hdh := (decode_high s pos hps (by rw [hgt, ← hv]; omega)).1
                obtain ⟨hb1, hS1, hB1⟩ := hR.iter (pos + (Utf8.decode s pos).2)
                generalize wr.iterAt (w.heap.size + 1) s (pos + (Utf8.decode s pos).2) = W1 at *
                generalize (Utf8.decode s pos).1 = u at *
                have e0 : Hid (isNum l = false) := Lib.hid (by
                  rw [e9.out]; exact all_false hpl (by unfold isD; rw [← hv]; simp; omega))
                have cb := hb1.cell
                have fb := hb1.frozen
                have hbs := hb1.set (.slice none 0 0)
                have cb2 := hbs.cell
                have hBS : Below w.heap.size w (W1.setCell ⟨w.heap.size, 0, none⟩ (.slice none 0 0)) := hB1.setCell (p := ⟨w.heap.size, 0, none⟩) (Nat.le_refl _) _
                have a1 : ¬ (u : Int) < 48 := by omega
                have a2 : (57 : Int) < u := by omega
                clear hv hgt
                go_wp2_with fail
                refine bodyPost_ret (v := .tuple #[.agg #[.slice none 0 0], .bool false]) (by simp [results, Tryd.results39, go_sem, cb2]) rfl (refused_out e0.out hBS)
            · obtain rfl : pos = n := by omega
              have hnx : ∀ ty, (Instr.next (.pointer (some ⟨w.heap.size + 1, 0, none⟩)) true ty).run Tryd.prog wr = _ := fun ty => Lib.run_next_end_at wr (w.heap.size + 1) s pos ty hR.it (by omega)
              have hv := hR.val
              rw [List.take_of_length_le (by rw [← Hn.out]; exact Nat.le_refl _)] at hv
              have e0 : Hid (isNum l = true) := Lib.hid (by
                rw [e9.out, List.all_eq_true]
                intro x hx
                obtain ⟨i, hi, rfl⟩ := List.getElem_of_mem hx
                exact hR.dig i hi (by rw [Hn.out]; exact hi))
              have Hv := Lib.hid hv
              clear hv
              go_wp2_with fail
              have htr := trim_any q c B wr hR.s hR.lt (by rw [hm.out]; omega)
              rw [hm.out, Hv.out] at htr
              refine htr.mono ?_
              clear htr
              rintro r W2 ⟨q3, c3, rfl, hN3, hb3, hq3⟩
              have hsz := hR.m.size
              have hbx : w.heap.size < wr.heap.size := hR.bx.lt
              have hb1 := Boxed.below' hR.bx hb3 hbx
              have hB1 := hR.m.trans (hb3.mono hsz)
              have hnew : ∀ a, q3 = some a → w.heap.size + 2 ≤ a.block := by
                rintro a rfl
                rcases hq3 with h | h
                · cases h
                · exact hR.new a h.symm
              have cb := hb1.cell
              have fb := hb1.frozen
              have hbs := hb1.set (.slice q3 (lb (num l)).length c3)
              have cb2 := hbs.cell
              have hBS : Below w.heap.size w (W2.setCell ⟨w.heap.size, 0, none⟩ (.slice q3 (lb (num l)).length c3)) := hB1.setCell (p := ⟨w.heap.size, 0, none⟩) (Nat.le_refl _) _
              have hNS : NatIn (W2.setCell ⟨w.heap.size, 0, none⟩ (.slice q3 (lb (num l)).length c3)) q3 c3 (num l) := hN3.other ⟨w.heap.size, 0, none⟩ _ (fun a e => by have := hnew a e; show a.block ≠ w.heap.size; omega)
              clear hb3 hq3 hsz hbx hb1 hB1
              go_wp2_with fail
              refine bodyPost_ret (v := .tuple #[.agg #[.slice q3 (lb (num l)).length c3], .bool true]) (by simp [results, Tryd.results39, go_sem, cb2]) rfl ⟨q3, c3, num l, by rw [e0.out], Lib.hid (by rw [e0.out]; rfl), hNS, hBS, fun a e => Nat.le_trans (by omega) (hnew a e)⟩
end Go.Proofs.YtepibfpdkjkdjaaDoor
