/- What is written, and what is taken, call by call. -/
import Derived.Test.YtkejidmomnmdbaaDoorC5
import Derived.Test.YtkejidmomnmdbaaDoorRw
namespace Go.Proofs.YtkejidmomnmdbaaDoor
open Go.RowKit

/-- Out at b, made at world W0's end, holds bs; nothing below it has turned since. -/
def OutSt (W0 : World) (b : Nat) (bs : List UInt8) (w : World) : Prop :=
  ∃ v, OutAt 105 5 w b v bs ∧ (∀ j, v.ownBlock = some j → b < j) ∧ Below b W0 w
theorem OutSt.made (W0 : World) : OutSt W0 W0.heap.size [] (W0.alloc (.cells #[.slice none 0 0] 105)) :=
  ⟨.slice none 0 0, OutAt.fresh W0, (fun j h => by simp [Value.ownBlock] at h), (Below.refl _ _).alloc (Nat.le_refl _) _⟩
theorem OutSt.lt {W0 w : World} {b : Nat} {bs : List UInt8} (h : OutSt W0 b bs w) : b < w.heap.size := by obtain ⟨v, h1, _, _⟩ := h; exact h1.lt
theorem OutSt.below {W0 w : World} {b : Nat} {bs : List UInt8} (h : OutSt W0 b bs w) : Below b W0 w := by obtain ⟨v, _, _, h3⟩ := h; exact h3
theorem OutAt.ownlt {T E : TypeId} {w : World} {b : Nat} {v : Value} {bs : List UInt8} (h : OutAt T E w b v bs) (k : Nat) (hk : v.ownBlock = some k) : k < w.heap.size := by
  rcases h.own.2 with ⟨rfl, _⟩ | ⟨g, cap, cur, rfl, _, hh, _⟩
  · simp [Value.ownBlock] at hk
  · simp [Value.ownBlock] at hk; subst hk; exact (Array.getElem?_eq_some_iff.1 hh).1
theorem OutSt.old {W0 w w' : World} {b : Nat} {bs : List UInt8} (h : OutSt W0 b bs w) (hb : Below w.heap.size w w') : OutSt W0 b bs w' := by
  obtain ⟨v, h1, h2, h3⟩ := h
  exact ⟨v, h1.kept (Mod.of_below hb) (by have := h1.lt; omega) (fun k hk => by have := h1.ownlt k hk; omega), h2, h3.trans (hb.mono (Nat.le_of_lt h1.lt))⟩
theorem OutSt.of_post {W0 w w' : World} {b : Nat} {v : Value} {bs bs' : List UInt8} {r : Ending} (hO : OutAt 105 5 w b v bs) (hv : ∀ j, v.ownBlock = some j → b < j) (hB : Below b W0 w) (h : NumPost b v bs' w r w') :
    r = .returned (.pointer (some ⟨b, 0, none⟩)) ∧ OutSt W0 b bs' w' := by
  obtain ⟨hr, v', hO', hM, hown⟩ := h
  refine ⟨hr, v', hO', ?_, hB.trans (hM.to_below (Nat.le_of_lt hO.lt) ?_)⟩
  · intro j hj
    rcases hown with h | h
    · exact hv j (h ▸ hj)
    · exact Nat.lt_of_lt_of_le hO.lt (h j hj)
  · rintro k hk (h | h)
    · omega
    · have := hv k h; omega
theorem out_num (W0 : World) (b : Nat) (bs : List UInt8) (x : Int) (w : World) (h : OutSt W0 b bs w) (hl : bs.length ≤ 1099511627776) (h0 : -9223372036854775808 ≤ x) (h1 : x ≤ 9223372036854775807) :
    Calls Tryd.prog 98 #[.pointer (some ⟨b, 0, none⟩), .int .i64 x] w fun r w' => r = .returned (.pointer (some ⟨b, 0, none⟩)) ∧ OutSt W0 b (bs ++ numL x) w' := by
  obtain ⟨v, hO, hv, hB⟩ := h
  exact (num_any x b v bs w h0 h1 hO hl).mono fun _ _ hp => OutSt.of_post hO hv hB hp
theorem out_raw (W0 : World) (b : Nat) (bs s : List UInt8) (w : World) (h : OutSt W0 b bs w) (hl : bs.length + s.length ≤ 1099511627776) :
    Calls Tryd.prog 75 #[.pointer (some ⟨b, 0, none⟩), .string ⟨s.toArray⟩] w fun r w' => r = .returned (.pointer (some ⟨b, 0, none⟩)) ∧ OutSt W0 b (bs ++ s) w' := by
  obtain ⟨v, hO, hv, hB⟩ := h
  exact (raw_any b v bs s w hO (by omega)).mono fun _ _ hp => OutSt.of_post hO hv hB hp
theorem out_text (W0 : World) (b : Nat) (bs s : List UInt8) (w : World) (h : OutSt W0 b bs w) (hl : bs.length ≤ 549755813888) (hs : s.length ≤ 549755813888) :
    Calls Tryd.prog 72 #[.pointer (some ⟨b, 0, none⟩), .string ⟨s.toArray⟩] w fun r w' => r = .returned (.pointer (some ⟨b, 0, none⟩)) ∧ OutSt W0 b (bs ++ (numL s.length ++ s)) w' := by
  obtain ⟨v, hO, hv, hB⟩ := h
  exact (text_any b v bs s w hO (by omega) hs).mono fun _ _ hp => OutSt.of_post hO hv hB hp
theorem out_bytes (W0 : World) (b : Nat) (bs : List UInt8) (w : World) (h : OutSt W0 b bs w) :
    Calls Tryd.prog 77 #[.pointer (some ⟨b, 0, none⟩)] w fun r w' => r = .returned (.string ⟨bs.toArray⟩) ∧ w = w' := by
  obtain ⟨v, hO, hv, hB⟩ := h
  exact bytes_any b v bs w hO
/-- In at b; nothing below n has turned since world W0. -/
def InSt (W0 : World) (n b : Nat) (s : List UInt8) (e : Int) (w : World) : Prop := n ≤ b ∧ InAt 175 w b s e ∧ Below n W0 w
theorem InSt.size {W0 w : World} {n b : Nat} {s : List UInt8} {e : Int} (h : InSt W0 n b s e w) (hn : n ≤ W0.heap.size) : n ≤ w.heap.size := Nat.le_trans hn h.2.2.size
end Go.Proofs.YtkejidmomnmdbaaDoor
