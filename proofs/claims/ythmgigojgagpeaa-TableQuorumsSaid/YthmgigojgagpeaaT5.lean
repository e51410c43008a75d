/- The law's entries: Own, few, Right. -/
import Derived.Test.YthmgigojgagpeaaPair
namespace Go.Proofs.Ythmgigojgagpeaa
open Go.RowKit

theorem info_entry : (Try.prog.info? 48).map (fun i => (i.zero, i.size, i.bytes)) = some (some (.agg #[.int .i64 0, .int .i64 0]), 2, 16) := by kernel_rfl
theorem info_rentry : (Try.prog.info? 46).map (fun i => (i.zero, i.size, i.bytes)) = some (some (.agg #[.int .i64 0, .int .i64 0]), 2, 16) := by kernel_rfl

/-- Entries are gathered in a row of its own. -/
structure AccP (T : TypeId) (w : World) (i : Nat) (D : List (Nat × Nat)) (q : Option Addr) (c : Nat) (wr : World) : Prop where
  s : Pr T wr q c D
  len : D.length = i
  new : ∀ a, q = some a → w.heap.size ≤ a.block
  m : Below w.heap.size w wr
theorem AccP.push {T : TypeId} {w : World} {i : Nat} {D : List (Nat × Nat)} {q : Option Addr} {c : Nat} {wr w' : World} (h : AccP T w i D q c wr) {d : Nat × Nat} {q' : Option Addr} {c' : Nat} (hP : PushedP T wr q (D ++ [d]) q' c' w') : AccP T w (i + 1) (D ++ [d]) q' c' w' := by
  obtain ⟨hS, hm, g, rfl, hor⟩ := hP
  refine ⟨hS, by rw [List.length_append, h.len]; rfl, ?_, h.m.trans (hm.to_below h.m.size (by rintro j hj ⟨a, e, rfl⟩; have := h.new a e; omega))⟩
  rintro a e; cases e
  rcases hor with h1 | h1
  · exact h.new _ h1
  · exact Nat.le_trans h.m.size h1
theorem AccP.below {T : TypeId} {w : World} {i : Nat} {D : List (Nat × Nat)} {q : Option Addr} {c : Nat} {wr w' : World} (h : AccP T w i D q c wr) (hb : Below wr.heap.size wr w') : AccP T w i D q c w' :=
  ⟨h.s.old hb, h.len, h.new, h.m.trans (hb.mono h.m.size)⟩

set_option maxRecDepth 20000 in
set_option maxHeartbeats 4000000 in
theorem own_any (ao : Option Addr) (cap : Nat) (E : List (Nat × Nat)) (w : World) (hS : EntsAt w ao E) (hl : E.length ≤ 64) :
    Calls Try.prog 9 #[.slice ao E.length cap] w fun r w' => ∃ q c, r = .returned (.slice q E.length c) ∧ Pr 48 w' q c E ∧ Below w.heap.size w w' := by
  obtain ⟨n, hn⟩ : ∃ n, E.length = n := ⟨_, rfl⟩
  rw [hn] at hl ⊢
  have Hn := Lib.hid hn
  have HS := Lib.hid hS
  have hK : AccP 48 w 0 [] none 0 w := ⟨Pr.empty _ _, rfl, (fun a e => by cases e), Below.refl _ _⟩
  clear hn hS
  go_enter Try.func9, Try.ntmps9
  go_wp2_with fail
  go_loopw [3, 8] (fun s3 s8 wr => ∃ (i : Nat) (D : List (Nat × Nat)) (q : Option Addr) (c : Nat), i ≤ n ∧ s3 = .slice q i c ∧ s8 = .int .i64 (i : Int) ∧ Hid (D = E.take i) ∧ AccP 48 w i D q c wr) (fun _ i _ => n - (intOf i).toNat)
  case atStart => exact ⟨0, [], none, 0, by omega, rfl, rfl, Lib.hid rfl, hK⟩
  case round =>
    clear hK
    obtain ⟨i, D, q, c, hi, rfl, rfl, hD, hR⟩ := hrel
    by_cases hin : i < n
    · have hil : i < E.length := by rw [Hn.out]; exact hin
      obtain ⟨bs, off, rfl, hbs, c1, c2⟩ := (HS.out.old hR.m) i hil
      have hD2 : Hid (D ++ [E[i]] = E.take (i + 1)) := Lib.hid (by rw [hD.out]; exact List.take_append_getElem hil)
      obtain ⟨e, he⟩ : ∃ e, e = E[i] := ⟨_, rfl⟩
      rw [← he] at c1 c2 hD2
      obtain ⟨m, p⟩ := e
      have i1 : (i : Int) < n := by omega
      have i0 : (0 : Int) ≤ i := by omega
      have hb1 : Below wr.heap.size wr (wr.alloc (.cells #[.int .i64 (m : Int), .int .i64 (p : Int)] 46)) := (Below.refl _ _).alloc (Nat.le_refl _) _
      have hR1 := hR.below hb1
      have hRl := Lib.hid hR1.len
      have hRs := hR1.s
      clear he hR hb1
      go_wp2_with (at_builtin; refine wpList_pushP rfl _ _ 32 48 _ rfl Try.underlying32 info_entry rfl q c i D (m, p) hRl.out rfl hRs rfl (by simp) (by omega) ?_; intro pq2 cq2 W5 hP)
      have hR5 := hR1.push hP
      clear hP hR1 hRs
      go_wp2_with fail
      go_roundw
      case rel => exact ⟨i + 1, D ++ [(m, p)], pq2, cq2, by omega, rfl, by go_num, hD2, hR5⟩
      case measure => simp [intOf]; omega
    · obtain rfl : i = n := by omega
      have e : D = E := by rw [hD.out, List.take_of_length_le (by rw [Hn.out]; exact Nat.le_refl _)]
      subst e
      clear hD
      go_wp2_with fail
      go_ret
      exact ⟨q, c, rfl, hR.s, hR.m⟩
end Go.Proofs.Ythmgigojgagpeaa
