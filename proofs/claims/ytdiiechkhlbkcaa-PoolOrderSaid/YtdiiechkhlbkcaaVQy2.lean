/- Texts 2: what the laws lean on. -/
import Derived.Test.YtdiiechkhlbkcaaVQy1
import Derived.Lib.Bytealg
import Derived.BigQuiet
import Derived.OwnWalk
import Derived.Deep.CutBlock
import Derived.Deep.DeepCutAuto
import Derived.LoopTactic
import Derived.Test.YtdiiechkhlbkcaaShelf
namespace Go.Proofs.Ytdiiechkhlbkcaa.PS
open Go.RowKit Go.Sort Go.Maps Go.Proofs.Ytdiiechkhlbkcaa

theorem law9 : Keyed Try.prog 9 := string_keyed Try.underlying9
theorem info_str : (Try.prog.info? 9).map (fun i => (i.zero, i.size, i.bytes)) = some (some (.string ⟨#[]⟩), 1, 16) := by kernel_rfl
theorem ranges_same {w w' : World} {b r n cnt : Nat} {D : DataW Value} {left : Lit → Bool} (h : w.ranges Try.prog 9 RV b r n D left cnt) (hb : w'.heap[b]? = w.heap[b]?) (hr : w'.heap[r]? = w.heap[r]?) : w'.ranges Try.prog 9 RV b r n D left cnt := by
  obtain ⟨es, clock, since, seen, c0, h1, h2, h3, h4, h5, h6⟩ := h
  exact ⟨es, clock, since, seen, c0, hb.trans h1, h2, h3, h4, hr.trans h5, h6⟩
/-- A loop over the pool's map, and what was gathered. -/
structure KeysR (w wr : World) (p b gb ri : Nat) (M : Int) (L : List It) (left : Lit → Bool) (cnt : Nat) (ks : List KS) (q : Option Addr) (c : Nat) : Prop where
  rg : wr.ranges Try.prog 9 RV b ri L.length (dOf (L.map entW)) left cnt
  co : Collected (dOf (L.map entW)) left (ks.map (·.1))
  le : ks.length + cnt ≤ L.length
  rw : Rw encS 9 wr q c (ks.map (·.1))
  new : ∀ a, q = some a → ri < a.block
  m : Below w.heap.size w wr
  bx : wr.heap[gb]? = some (.cells #[.pointer (some ⟨p, 0, none⟩)] 24 (0, 0))
  lo : w.heap.size ≤ gb ∧ gb < ri
set_option maxRecDepth 20000 in
set_option maxHeartbeats 2000000 in
theorem keys_any (p b : Nat) (M : Int) (L : List It) (w : World) (h : PoolAt 60 w p b M L) (hn : L.length ≤ 100000) (hk : ∀ x ∈ L, x.1.length ≤ 1000000) (hs : Srt L) :
    Calls Try.prog 21 #[.pointer (some ⟨p, 0, none⟩)] w fun r w' => ∃ q c, r = .returned (.slice q L.length c) ∧ Rw encS 9 w' q c (L.map (·.1)) ∧ (∀ a, q = some a → w.heap.size ≤ a.block) ∧ Below w.heap.size w w' := by
  have HC := Lib.hid sclone_any
  have HK : Hid (∀ (x : List UInt8) (y : DataW Value), (∀ zd, (dOf (L.map entW)).atKey (.string x) zd = y) → x.length ≤ 1000000) := Lib.hid (by
    intro x y hat
    have hh := Maps.has_true_of_atKey hat
    rw [has_dOf, has_ent, List.any_eq_true] at hh
    obtain ⟨z, hz, e⟩ := hh
    have e : z.1 = x := by simpa using e
    rw [← e]; exact hk z hz)
  have HE : Hid (∀ wr ri left cnt ks q c, KeysR w wr p b w.heap.size ri M L left cnt ks q c → (∀ kl, left kl = false) → ks.length = L.length ∧ (ks.mergeSort fun x y => !(ltOf (cfK fun k => rkL k L)) y x).map (·.1) = L.map (·.1)) := Lib.hid (by
    intro wr ri left cnt ks q c hR hl
    have hp := hR.co.perm hR.rg.owns law9 Try.underlying9 hl
    have hp2 : (ks.map (·.1)).Perm (L.map (·.1)) := by
      have := hp.trans (strKeys_dOf _)
      rw [List.map_map] at this
      exact this
    obtain ⟨kL, hkL⟩ := ks_of (L.map (·.1)) (by intro x hx; obtain ⟨y, hy, rfl⟩ := List.mem_map.1 hx; exact hk y hy)
    have hlen := hp2.length_eq
    rw [List.length_map, List.length_map] at hlen
    refine ⟨hlen, ?_⟩
    rw [ksort_eq _ ks kL (ks_perm (by rw [hkL]; exact hp2) hR.co.1) (srt_keys (apart_it h.2.ap) hs kL hkL), hkL])
  have c1 := h.c1
  have hown := h.2.own
  rw [List.length_map] at hown
  have hblt := h.blt
  have hplt := h.plt
  have HP := Lib.hid h
  have HN := Lib.hid hn
  have HL := Lib.hid (And.intro hblt hplt)
  have e1 : (w.alloc (.cells #[.pointer (some ⟨p, 0, none⟩)] 24)).heap.size = w.heap.size + 1 := by simp
  have HB0 := Lib.hid (heap_alloc_new w (.cells #[.pointer (some ⟨p, 0, none⟩)] 24))
  have hbw : Below w.heap.size w (w.alloc (.cells #[.pointer (some ⟨p, 0, none⟩)] 24)) := (Below.refl _ _).alloc (Nat.le_refl _) _
  have HW := Lib.hid hbw
  clear hs hk h hn hblt hbw
  go_enter Try.func21, Try.ntmps21
  go_wp2_with (first
    | (at_range; refine wpList_range_own _ rfl _ 58 rfl 9 62 law9 Try.underlying58 _ b L.length _ rfl (hown.alloc _) ?_; intro w0 hrg0 hg0 hs0)
    | go_in)
  go_frame
  rw [e1] at hrg0 hs0 ⊢
  have HK0 : Hid (KeysR w w0 p b w.heap.size (w.heap.size + 1) M L (Maps.has (dOf (L.map entW))) (Maps.size (dOf (L.map entW))) [] none 0) := Lib.hid
    ⟨hrg0, Collected.start _, by rw [size_dOf]; simp, Rw.empty _ _, (fun a e => by cases e), HW.out.grown hg0 (by simp) (fun j hj => by cases hj), (hg0.block _ (by simp) (by simp)).trans HB0.out, by omega⟩
  clear hrg0 hg0 hs0 hown c1 e1
  generalize w.heap.size + 1 = ri at HK0 ⊢
  generalize hgb : w.heap.size = gb at HK0 HE HB0 ⊢
  have HG := Lib.hid hgb
  clear hgb
  go_loopw [3, 4] (fun s3 _ wr => ∃ (n : Nat) (q : Option Addr) (c : Nat), s3 = .slice q n c ∧ Hid (∃ left cnt ks, n = ks.length ∧ KeysR w wr p b gb ri M L left cnt ks q c)) (fun _ _ wr => wr.rangeLeft b ri)
  case atStart => exact ⟨0, none, 0, rfl, Lib.hid ⟨_, _, [], rfl, HK0.out⟩⟩
  case round =>
    obtain ⟨n, q, c, rfl, hR⟩ := hrel
    obtain ⟨left, cnt, ks, hn, hR⟩ := hR.out
    have hrg := hR.rg
    have HR := Lib.hid hR
    have HNN := Lib.hid hn
    clear hR hn HK0
    go_wp2_with (first
      | (at_next; refine wpList_next_ranges _ rfl _ rfl 9 law9 RV encStr (fun v : Value => v) (fun key kl hk => by obtain ⟨x, hx, _⟩ := Maps.keyOf_str Try.underlying9 hk; exact ⟨x, hx⟩) (fun v y hv => ⟨v, rfl⟩) b ri L.length _ _ _ rfl hrg ?_ ?_)
      | go_in)
    · intro hc0 hl0
      have hfin := HE.out wr ri left cnt ks q c HR.out hl0
      have hP := HP.out.old HR.out.m
      have hsort := psort_any p b gb M L q c ks wr hP HR.out.bx HR.out.rw
        (fun a e => by have h1 := HR.out.new a e; have h2 := HR.out.lo; have h3 := HL.out; omega)
        (by have := hfin.1; have := HN.out; omega)
      rw [← HNN.out] at hsort
      have HS := Lib.hid hsort
      have HF := Lib.hid hfin
      clear hsort hfin hP hrg hl0 hc0
      go_wp2_with fail
      refine HS.out.mono ?_
      rintro r w2 ⟨rfl, hr2, hm2⟩
      have HR2 := Lib.hid hr2
      have hb2 : Below w.heap.size w w2 := HR.out.m.trans (hm2.to_below HR.out.m.size (by rintro k hk ⟨a, e, rfl⟩; have := HR.out.new a e; have := HR.out.lo; omega))
      have HB2 := Lib.hid hb2
      clear hr2 hm2 hb2
      go_wp2_with fail
      go_ret
      refine ⟨q, c, by rw [HNN.out, HF.out.1]; rfl, by rw [← HF.out.2]; exact HR2.out, (fun a e => by have := HR.out.new a e; have := HR.out.lo; omega), HB2.out⟩
    · intro x v kl yd yp w1 cnt1 hkey hlk hv hv2 hat hrg1 hlt hg1 hs1 hen
      obtain ⟨x', ex, rfl, _⟩ := Maps.keyOf_str Try.underlying9 hkey
      obtain rfl : x = x' := encStr_inj ex
      have hxl := HK.out x _ hat
      have hcl := HC.out x w1 hxl
      have hno : ∀ j, some ri = some j → w.heap.size ≤ j := by intro j e; cases e; have := HR.out.lo; omega
      have hR1 : Hid (Rw encS 9 w1 q c (ks.map (·.1)) ∧ Below w.heap.size w w1 ∧ w1.heap[gb]? = some (.cells #[.pointer (some ⟨p, 0, none⟩)] 24 (0, 0))) := Lib.hid (by
        have hm1 : Mod (fun i => i = ri) wr w1 := ⟨hg1.os, hg1.tape, hg1.output, hg1.size, fun k hk hn => hg1.block k hk (fun e => hn (Option.some.inj e))⟩
        refine ⟨HR.out.rw.kept hm1 (fun a e => by have := HR.out.new a e; omega), HR.out.m.grown hg1 HR.out.m.size hno, ?_⟩
        exact (hm1.block gb (Array.getElem?_eq_some_iff.1 HR.out.bx).1 (by have := HR.out.lo; omega)).trans HR.out.bx)
      have HC1 := Lib.hid (HR.out.co.step hlk hat)
      have hrl := hrg1.lt
      have hbl := hrg1.owns.lt
      have hgl := (Array.getElem?_eq_some_iff.1 hR1.out.2.2).1
      have KL := Lib.hid hrl
      have KB : Hid (∀ (w3 w4 : World), Mod (fun i => ∃ a, q = some a ∧ i = a.block) w3 w4 → Below w1.heap.size w1 w3 → w4.heap[b]? = w1.heap[b]? ∧ w4.heap[ri]? = w1.heap[ri]? ∧ w4.heap[gb]? = w1.heap[gb]?) := Lib.hid (by
        intro w3 w4 hm hb
        have hlo := HR.out.lo
        have hLL := HL.out
        have hqn := HR.out.new
        have hsz := hb.size
        refine ⟨(hm.block b (by omega) ?_).trans (hb.block b hbl), (hm.block ri (by omega) ?_).trans (hb.block ri hrl), (hm.block gb (by omega) ?_).trans (hb.block gb hgl)⟩ <;>
        · rintro ⟨a, e, h⟩; have := hqn a e; omega)
      clear hrl hbl hgl
      have HRG := Lib.hid hrg1
      have HLT := Lib.hid hlt
      have HX := Lib.hid hxl
      have HEN := Lib.hid hrg
      clear hxl hkey hlk hv hv2 hat hrg1 hlt hg1 hs1 hno ex hrg
      go_wp2_with fail
      refine hcl.mono ?_
      rintro r w2 ⟨rfl, hb2⟩
      have hS2 : Hid (Rw encS 9 (w2.alloc (.cells #[.string ⟨x.toArray⟩] 9)) q c (ks.map (·.1)) ∧ Below w.heap.size w (w2.alloc (.cells #[.string ⟨x.toArray⟩] 9)) ∧ Rd encS (w2.alloc (.cells #[.string ⟨x.toArray⟩] 9)) (some ⟨w2.heap.size, 0, none⟩) [x] ∧ Below w1.heap.size w1 (w2.alloc (.cells #[.string ⟨x.toArray⟩] 9))) := Lib.hid (by
        have hb3 : Below w1.heap.size w1 (w2.alloc (.cells #[.string ⟨x.toArray⟩] 9)) := hb2.alloc hb2.size _
        exact ⟨hR1.out.1.old hb3, hR1.out.2.1.trans (hb3.mono hR1.out.2.1.size), Rd.made encS w2 9 [x] (by simp [maxLen]), hb3⟩)
      have hnl : (ks.map (·.1)).length = n := by rw [List.length_map]; exact HNN.out.symm
      have hnb : n + 1 ≤ 100000000000 := by have h1 := HR.out.le; have h2 := HN.out; have h3 := HNN.out; omega
      have HNL := Lib.hid hnl
      have HNB := Lib.hid hnb
      clear hb2 hcl hnl hnb
      go_wp2_with (refine wpList_pushR encS rfl (.tmp 14) (.tmp 17) 50 9 (.string ⟨#[]⟩) 16 rfl Try.underlying50 info_str rfl (by decide) q c n (ks.map (·.1)) HNL.out rfl hS2.out.1 (some ⟨w2.heap.size, 0, none⟩) 1 1 [x] rfl rfl hS2.out.2.2.1 HNB.out ?_; intro q2 c2 w4 hP4; have HP4 := Lib.hid hP4; clear hP4; go_frame)
      go_roundw
      case rel =>
        obtain ⟨hRw4, hm4, hor4⟩ := HP4.out
        have h3 := hS2.out
        have hlo := HR.out.lo
        have hLL := HL.out
        have hqn := HR.out.new
        have kb := KB.out _ w4 hm4 h3.2.2.2
        have hK : KeysR w w4 p b gb ri M L (fun z => left z && !z.sameKey (.string x)) cnt1 (ks ++ [⟨x, HX.out⟩]) q2 c2 → ∃ (n' : Nat) (q' : Option Addr) (c' : Nat), Value.slice q2 (n + 1) c2 = .slice q' n' c' ∧ Hid (∃ left cnt ks, n' = ks.length ∧ KeysR w w4 p b gb ri M L left cnt ks q' c') :=
          fun h => ⟨n + 1, q2, c2, rfl, Lib.hid ⟨_, cnt1, ks ++ [⟨x, HX.out⟩], by rw [List.length_append, ← HNN.out]; rfl, h⟩⟩
        refine hK ⟨ranges_same HRG.out kb.1 kb.2.1, by rw [List.map_append]; exact HC1.out, by have := HR.out.le; have := HLT.out; rw [List.length_append]; simp; omega, by rw [List.map_append]; exact hRw4, ?_, ?_, kb.2.2.trans hR1.out.2.2, hlo⟩
        · intro a e
          rcases hor4 a e with h | h
          · exact hqn a h
          · have := h3.2.2.2.size; have := KL.out; omega
        · exact h3.2.1.trans (hm4.to_below h3.2.1.size (by rintro k hk ⟨a, e, rfl⟩; have := hqn a e; omega))
      case measure =>
        obtain ⟨hRw4, hm4, hor4⟩ := HP4.out
        have kb := KB.out _ w4 hm4 hS2.out.2.2.2
        rw [(ranges_same HRG.out kb.1 kb.2.1).left_eq, HEN.out.left_eq]
        exact HLT.out
end Go.Proofs.Ytdiiechkhlbkcaa.PS

namespace Go.Proofs.Ytdiiechkhlbkcaa
open Go.RowKit

theorem less_cmp : ∀ a b : List UInt8, Op.bytesLess a b = decide (Lib.compareBytes a b < 0)
  | [], [] => rfl
  | [], _ :: _ => rfl
  | _ :: _, [] => rfl
  | a :: x, b :: y => by
    have ih := less_cmp x y
    unfold Op.bytesLess Lib.compareBytes
    by_cases h1 : a < b
    · simp [h1]
    · by_cases h2 : b < a
      · have : ¬ a = b := by rintro rfl; exact absurd h2 h1
        simp [h1, h2, this]
      · have e : a = b := by
          rw [UInt8.lt_iff_toNat_lt] at h1 h2
          exact UInt8.toNat_inj.1 (by omega)
        subst e
        simp [h1, ih]
/-- An item: its key, its rank, its thing. -/
abbrev SI := List UInt8 × Int × List UInt8
def encT : Enc SI := ⟨fun x => [.string ⟨x.1.toArray⟩, .int .i64 x.2.1, .string ⟨x.2.2.toArray⟩], 3, fun _ => rfl, fun _ v hv => by simp at hv; rcases hv with rfl | rfl | rfl <;> rfl, by decide⟩
def toI (x : SI) : It := (x.1, x.2.1, .string ⟨x.2.2.toArray⟩)
theorem Rd.it {w : World} {ao : Option Addr} {L : List SI} (h : Rd encT w ao L) (j : Nat) (hj : j < L.length) : ∃ bs off, ao = some ⟨bs, off, none⟩ ∧ bs < w.heap.size ∧
    w.cell? ⟨bs, off + j * 3, none⟩ = some (.string ⟨(L[j]).1.toArray⟩) ∧ w.cell? ⟨bs, off + j * 3 + 1, none⟩ = some (.int .i64 (L[j]).2.1) ∧ w.cell? ⟨bs, off + j * 3 + 2, none⟩ = some (.string ⟨(L[j]).2.2.toArray⟩) := by
  obtain ⟨bs, off, e, hlt, hc⟩ := h j hj
  exact ⟨bs, off, e, hlt, hc 0 _ rfl, hc 1 _ rfl, hc 2 _ rfl⟩
def hasS (k : List UInt8) (L : List SI) : Bool := L.any fun x => x.1 == k
theorem hasS_take (k : List UInt8) (L : List SI) (i : Nat) (h : i < L.length) (h0 : hasS k (L.take i) = false) : hasS k (L.take (i + 1)) = (L[i].1 == k) := by
  unfold hasS at *
  rw [List.take_succ_eq_append_getElem h, List.any_append, h0]; simp
theorem hasS_of (k : List UInt8) (L : List SI) (i : Nat) (h : i < L.length) (h0 : L[i].1 = k) : hasS k L = true := by
  unfold hasS; rw [List.any_eq_true]; exact ⟨L[i], List.getElem_mem h, by simp [h0]⟩

set_option maxRecDepth 20000 in
set_option maxHeartbeats 1000000 in
theorem rget_any (ao : Option Addr) (c : Nat) (L : List SI) (k : List UInt8) (w : World) (hL : Rd encT w ao L) (hn : L.length ≤ 100000) :
    Calls Try.prog 9 #[.slice ao L.length c, .string ⟨k.toArray⟩] w fun r w' => (∃ z : Int, r = .returned (.int .i64 z) ∧ (hasS k L = true → 0 ≤ z) ∧ (hasS k L = false → z < 0)) ∧ Below w.heap.size w w' := by
  obtain ⟨n, hnL⟩ : ∃ n, n = L.length := ⟨_, rfl⟩
  rw [← hnL] at hn ⊢
  have HN := Lib.hid hnL
  have HL := Lib.hid hL
  have HS : Hid (∀ i (h : i < L.length), hasS k (L.take i) = false → hasS k (L.take (i + 1)) = (L[i].1 == k)) := Lib.hid (hasS_take k L)
  have HO : Hid (∀ i (h : i < L.length), L[i].1 = k → hasS k L = true) := Lib.hid (hasS_of k L)
  have HE : Hid (hasS k (L.take n) = false → hasS k L = false) := Lib.hid (by rw [hnL, List.take_length]; exact id)
  have HZ : Hid (hasS k (L.take 0) = false) := Lib.hid rfl
  have n0 : (0 : Int) ≤ n := by omega
  clear hnL hL
  go_enter Try.func9, Try.ntmps9
  go_wp2_with fail
  go_loopw [5, 6, 9] (fun _ _ s9 wr => ∃ (i : Nat), i ≤ n ∧ s9 = .int .i64 (i : Int) ∧ Hid (hasS k (L.take i) = false) ∧ Hid (Below w.heap.size w wr)) (fun _ _ i _ => n - (intOf i).toNat)
  case atStart => exact ⟨0, Nat.zero_le _, rfl, HZ, Lib.hid (Below.refl _ _)⟩
  case round =>
    obtain ⟨i, hi, rfl, hz, HB⟩ := hrel
    by_cases hin : i < n
    · have hil : i < L.length := by rw [← HN.out]; exact hin
      obtain ⟨bs, off, rfl, hbs, c1, c2, c3⟩ := ((HL.out.old HB.out).it) i hil
      have hnx := HS.out i hil hz.out
      have hof := HO.out i hil
      obtain ⟨y, hy⟩ : ∃ y, y = L[i] := ⟨_, rfl⟩
      rw [← hy] at c1 c2 c3 hnx hof
      obtain ⟨yk, yr, yv⟩ := y
      simp only at c1 c2 c3 hnx hof
      have i1 : (i : Int) < n := by omega
      have i0 : (0 : Int) ≤ i := by omega
      have HB2 : Hid (Below w.heap.size w (wr.alloc (.cells #[.string ⟨yk.toArray⟩, .int .i64 yr, .string ⟨yv.toArray⟩] 38))) := Lib.hid (HB.out.alloc HB.out.size _)
      by_cases hk : yk = k
      · have HH := Lib.hid (hof hk)
        subst hk
        clear hnx hy hof
        go_wp2_with fail
        go_ret
        exact ⟨⟨i, rfl, fun _ => i0, fun h => by rw [HH.out] at h; cases h⟩, HB2.out⟩
      · have hke : (yk == k) = false := by simpa using hk
        rw [hke] at hnx
        have HNX := Lib.hid hnx
        clear hnx hof hy
        go_wp2_with fail
        go_roundw
        case rel => exact ⟨i + 1, by omega, by go_num, HNX, HB2⟩
        case measure => simp [intOf]; omega
    · obtain rfl : i = n := by omega
      have HF := Lib.hid (HE.out hz.out)
      clear hz
      go_wp2_with fail
      go_ret
      exact ⟨⟨-1, rfl, fun h => (by rw [HF.out] at h; cases h), fun _ => by decide⟩, HB.out⟩

def dropS (k : List UInt8) (L : List SI) : List SI := L.filter fun x => x.1 != k
theorem dropS_zero (k : List UInt8) (L : List SI) : dropS k (L.take 0) = [] := rfl
theorem dropS_succ (k : List UInt8) (L : List SI) (i : Nat) (h : i < L.length) : dropS k (L.take (i + 1)) = dropS k (L.take i) ++ (if L[i].1 = k then [] else [L[i]]) := by
  unfold dropS
  rw [List.take_succ_eq_append_getElem h, List.filter_append]
  by_cases e : L[i].1 = k <;> simp [e]
theorem dropS_len (k : List UInt8) (L : List SI) : (dropS k L).length ≤ L.length := List.length_filter_le _ _
theorem info_item : (Try.prog.info? 38).map (fun i => (i.zero, i.size, i.bytes)) = some (some (.agg #[.string ⟨#[]⟩, .int .i64 0, .string ⟨#[]⟩]), 3, 40) := by kernel_rfl
theorem AccR.oneT {w wr : World} {k : Nat} {D : List SI} {q : Option Addr} {c : Nat} (h : AccR encT 38 w k D q c wr) (y : SI) :
    Rw encT 38 (wr.alloc (.cells #[.string ⟨y.1.toArray⟩, .int .i64 y.2.1, .string ⟨y.2.2.toArray⟩] 38)) q c D ∧ Rd encT (wr.alloc (.cells #[.string ⟨y.1.toArray⟩, .int .i64 y.2.1, .string ⟨y.2.2.toArray⟩] 38)) (some ⟨wr.heap.size, 0, none⟩) [y] ∧
    ∀ q' c' w', PushR encT 38 (wr.alloc (.cells #[.string ⟨y.1.toArray⟩, .int .i64 y.2.1, .string ⟨y.2.2.toArray⟩] 38)) q (D ++ [y]) q' c' w' → AccR encT 38 w (k + 1) (D ++ [y]) q' c' w' := by
  have h2 := h.below ((Below.refl wr.heap.size wr).alloc (Nat.le_refl _) (.cells #[.string ⟨y.1.toArray⟩, .int .i64 y.2.1, .string ⟨y.2.2.toArray⟩] 38))
  exact ⟨h2.s, Rd.made encT wr 38 [y] (by simp [maxLen]), fun q' c' w' hP => h2.push hP⟩
theorem AccR.start (w : World) : AccR encT 38 w 0 [] (some ⟨w.heap.size, 0, none⟩) 0 (w.alloc (.cells #[] 38)) :=
  ⟨Rw.made (E := encT) 38 w [] (by simp [maxLen]), rfl, (fun a e => by cases e; exact Nat.le_refl _), (Below.refl _ _).alloc (Nat.le_refl _) _⟩

set_option maxRecDepth 20000 in
set_option maxHeartbeats 2000000 in
theorem rdrop_any (ao : Option Addr) (c : Nat) (L : List SI) (k : List UInt8) (w : World) (hL : Rd encT w ao L) (hn : L.length ≤ 100000) :
    Calls Try.prog 13 #[.slice ao L.length c, .string ⟨k.toArray⟩] w fun r w' => ∃ q c', r = .returned (.slice q (dropS k L).length c') ∧ Rw encT 38 w' q c' (dropS k L) ∧ (∀ a, q = some a → w.heap.size ≤ a.block) ∧ Below w.heap.size w w' := by
  obtain ⟨n, hnL⟩ : ∃ n, n = L.length := ⟨_, rfl⟩
  obtain ⟨F, hF⟩ : ∃ F : Ending → World → Prop, F = fun r w' => ∃ q c', r = .returned (.slice q (dropS k L).length c') ∧ Rw encT 38 w' q c' (dropS k L) ∧ (∀ a, q = some a → w.heap.size ≤ a.block) ∧ Below w.heap.size w w' := ⟨_, rfl⟩
  rw [← hF, ← hnL]
  rw [← hnL] at hn
  have HF := Lib.hid hF
  have HN := Lib.hid hnL
  have HL := Lib.hid hL
  have HS : Hid (∀ i (h : i < L.length), dropS k (L.take (i + 1)) = dropS k (L.take i) ++ (if L[i].1 = k then [] else [L[i]])) := Lib.hid (dropS_succ k L)
  have HE : Hid (dropS k (L.take n) = dropS k L) := Lib.hid (by rw [hnL, List.take_length])
  have H0 : Hid (AccR encT 38 w 0 (dropS k (L.take 0)) (some ⟨w.heap.size, 0, none⟩) 0 (w.alloc (.cells #[] 38))) := Lib.hid (AccR.start w)
  clear hnL hL hF
  go_enter Try.func13, Try.ntmps13
  go_wp2_with fail
  go_loopw [5, 7, 11] (fun s5 _ s11 wr => ∃ (i m : Nat) (q : Option Addr) (c' : Nat), i ≤ n ∧ m ≤ i ∧ s11 = .int .i64 (i : Int) ∧ s5 = .slice q m c' ∧ Hid (AccR encT 38 w m (dropS k (L.take i)) q c' wr)) (fun _ _ i _ => n - (intOf i).toNat)
  case atStart => exact ⟨0, 0, _, _, Nat.zero_le _, Nat.le_refl _, rfl, rfl, H0⟩
  case round =>
    obtain ⟨i, m, q, c', hi, hmi, rfl, rfl, HA⟩ := hrel
    by_cases hin : i < n
    · have hil : i < L.length := by rw [← HN.out]; exact hin
      obtain ⟨bs, off, rfl, hbs, c1, c2, c3⟩ := ((HL.out.old HA.out.m).it) i hil
      have hnx := HS.out i hil
      obtain ⟨y, hy⟩ : ∃ y, y = L[i] := ⟨_, rfl⟩
      rw [← hy] at c1 c2 c3 hnx
      obtain ⟨yk, yr, yv⟩ := y
      simp only at c1 c2 c3 hnx
      have i1 : (i : Int) < n := by omega
      have i0 : (0 : Int) ≤ i := by omega
      have HA2 := Lib.hid (HA.out.below ((Below.refl wr.heap.size wr).alloc (Nat.le_refl _) (.cells #[.string ⟨yk.toArray⟩, .int .i64 yr, .string ⟨yv.toArray⟩] 38)))
      have HW : Hid ((wr.alloc (.cells #[.string ⟨yk.toArray⟩, .int .i64 yr, .string ⟨yv.toArray⟩] 38)).heap.size = wr.heap.size + 1) := Lib.hid (by simp)
      by_cases hk : yk = k
      · subst hk
        rw [if_pos rfl, List.append_nil] at hnx
        have HNX := Lib.hid hnx
        clear hnx hy
        go_wp2_with fail
        go_roundw
        case rel => exact ⟨i + 1, m, q, c', by omega, by omega, by go_num, rfl, by rw [HNX.out]; exact HA2⟩
        case measure => simp [intOf]; omega
      · have hke : (yk == k) = false := by simpa using hk
        rw [if_neg hk] at hnx
        have HNX := Lib.hid hnx
        obtain ⟨a1, a2, a3⟩ := HA2.out.oneT (yk, yr, yv)
        simp only [World.size_alloc] at a1 a2 a3
        have A1 := Lib.hid a1
        have A2 := Lib.hid a2
        have A3 := Lib.hid a3
        have HLn := Lib.hid HA2.out.len
        have hmb : m + 1 ≤ 100000000000 := by omega
        clear hnx hy hk a1 a2 a3
        go_wp2_with (refine wpList_pushR encT rfl _ _ 26 38 (.agg #[.string ⟨#[]⟩, .int .i64 0, .string ⟨#[]⟩]) 40 rfl Try.underlying26 info_item rfl (by decide) q c' m _ HLn.out rfl A1.out (some ⟨wr.heap.size + 1, 0, none⟩) 1 1 [(yk, yr, yv)] rfl rfl A2.out hmb ?_; intro q9 c9 w9 hP9; have HP9 := Lib.hid (A3.out _ _ _ hP9); clear hP9; go_frame)
        go_roundw
        case rel => exact ⟨i + 1, m + 1, q9, c9, by omega, by omega, by go_num, rfl, by rw [HNX.out]; exact HP9⟩
        case measure => simp [intOf]; omega
    · obtain rfl : i = n := by omega
      have HA9 : Hid (AccR encT 38 w m (dropS k L) q c' wr) := Lib.hid (by rw [← HE.out]; exact HA.out)
      have HFF := Lib.hid (show F (.returned (.slice q m c')) wr by rw [HF.out]; exact ⟨q, c', by rw [HA9.out.len], HA9.out.s, HA9.out.new, HA9.out.m⟩)
      clear HA
      go_wp2_with fail
      exact HFF.out
end Go.Proofs.Ytdiiechkhlbkcaa

namespace Go.Proofs.Ytdiiechkhlbkcaa
open Go.RowKit

def ltB (x y : SI) : Bool := decide (x.2.1 < y.2.1) || (x.2.1 == y.2.1 && Op.bytesLess x.1 y.1)
def insS (x : SI) : List SI → List SI
  | [] => [x]
  | y :: l => if ltB x y = true then x :: y :: l else y :: insS x l
def stepS (x : SI) (st : List SI × Bool) (y : SI) : List SI × Bool := if st.2 = false ∧ ltB x y = true then (st.1 ++ [x] ++ [y], true) else (st.1 ++ [y], st.2)
def endS (x : SI) (st : List SI × Bool) : List SI := if st.2 then st.1 else st.1 ++ [x]
theorem stepS_true (x : SI) (l A : List SI) : endS x (l.foldl (stepS x) (A, true)) = A ++ l := by
  induction l generalizing A with
  | nil => simp [endS]
  | cons y l ih => rw [List.foldl_cons, show stepS x (A, true) y = (A ++ [y], true) by simp [stepS], ih]; simp
theorem stepS_false (x : SI) (l A : List SI) : endS x (l.foldl (stepS x) (A, false)) = A ++ insS x l := by
  induction l generalizing A with
  | nil => simp [endS, insS]
  | cons y l ih =>
    rw [List.foldl_cons, insS]
    by_cases h : ltB x y = true
    · rw [show stepS x (A, false) y = (A ++ [x] ++ [y], true) by simp [stepS, h], stepS_true, if_pos h]; simp
    · rw [show stepS x (A, false) y = (A ++ [y], false) by simp [stepS, h], ih, if_neg h]; simp
def inS (x : SI) (M : List SI) (j : Nat) : List SI × Bool := (M.take j).foldl (stepS x) ([], false)
theorem inS_succ (x : SI) (M : List SI) (j : Nat) (h : j < M.length) : inS x M (j + 1) = stepS x (inS x M j) M[j] := by
  unfold inS; rw [List.take_succ_eq_append_getElem h, List.foldl_append]; rfl
theorem inS_end (x : SI) (M : List SI) : endS x (inS x M M.length) = insS x M := by
  unfold inS; rw [List.take_length]; have := stepS_false x M []; simpa using this
theorem insS_len (x : SI) (L : List SI) : (insS x L).length = L.length + 1 := by
  induction L with
  | nil => rfl
  | cons y l ih => rw [insS]; split <;> simp [ih]
def putS (x : SI) (L : List SI) : List SI := insS x (dropS x.1 L)

structure AccG (w1 : World) (g0 : Nat) (D : List SI) (q : Option Addr) (c : Nat) (wr : World) : Prop where
  s : Rw encT 38 wr q c D
  new : ∀ a, q = some a → a.block = g0 ∨ w1.heap.size ≤ a.block
  m : Mod (fun k => k = g0) w1 wr
theorem AccG.below {w1 wr w' : World} {g0 : Nat} {D : List SI} {q : Option Addr} {c : Nat} (h : AccG w1 g0 D q c wr) (hb : Below wr.heap.size wr w') : AccG w1 g0 D q c w' :=
  ⟨h.s.old hb, h.new, h.m.trans (Mod.of_below hb) (fun i hi h2 => by have := h.m.size; omega)⟩
theorem AccG.one {w1 wr : World} {g0 : Nat} {D : List SI} {q : Option Addr} {c : Nat} (h : AccG w1 g0 D q c wr) (y : SI) :
    Rw encT 38 (wr.alloc (.cells #[.string ⟨y.1.toArray⟩, .int .i64 y.2.1, .string ⟨y.2.2.toArray⟩] 38)) q c D ∧ Rd encT (wr.alloc (.cells #[.string ⟨y.1.toArray⟩, .int .i64 y.2.1, .string ⟨y.2.2.toArray⟩] 38)) (some ⟨wr.heap.size, 0, none⟩) [y] ∧
    ∀ q' c' w', PushR encT 38 (wr.alloc (.cells #[.string ⟨y.1.toArray⟩, .int .i64 y.2.1, .string ⟨y.2.2.toArray⟩] 38)) q (D ++ [y]) q' c' w' → AccG w1 g0 (D ++ [y]) q' c' w' := by
  have h2 := h.below ((Below.refl wr.heap.size wr).alloc (Nat.le_refl _) (.cells #[.string ⟨y.1.toArray⟩, .int .i64 y.2.1, .string ⟨y.2.2.toArray⟩] 38))
  refine ⟨h2.s, Rd.made encT wr 38 [y] (by simp [maxLen]), fun q' c' w' hP => ?_⟩
  obtain ⟨hS, hm, hor⟩ := hP
  refine ⟨hS, ?_, h2.m.trans hm (fun i hi hx => ?_)⟩
  · intro a e
    rcases hor a e with h1 | h1
    · exact h2.new _ h1
    · exact .inr (Nat.le_trans h2.m.size h1)
  · obtain ⟨a, e, rfl⟩ := hx
    rcases h2.new a e with h1 | h1
    · exact h1
    · omega

set_option maxRecDepth 20000 in
set_option maxHeartbeats 1000000 in
theorem rput_anyC (ao : Option Addr) (c : Nat) (L : List SI) (M : Int) (xk : List UInt8) (xr : Int) (xv : List UInt8) (w : World) (hL : Rd encT w ao L) (hn : L.length ≤ 100000) (hM : 0 ≤ M) :
    Calls Try.prog 19 #[.slice ao L.length c, .int .i64 M, .agg #[.string ⟨xk.toArray⟩, .int .i64 xr, .string ⟨xv.toArray⟩]] w fun r w' =>
      (((putS (xk, xr, xv) L).length : Int) ≤ M → ∃ q c', r = .returned (.tuple #[.slice q (putS (xk, xr, xv) L).length c', .string ⟨#[]⟩, .bool false]) ∧ Rd encT w' q (putS (xk, xr, xv) L) ∧ (putS (xk, xr, xv) L).length ≤ c') ∧
      (M < ((putS (xk, xr, xv) L).length : Int) → ∀ F z, putS (xk, xr, xv) L = F ++ [z] → ∃ q c', r = .returned (.tuple #[.slice q F.length c', .string ⟨z.1.toArray⟩, .bool true]) ∧ Rd encT w' q F ∧ F.length ≤ c') ∧ Below w.heap.size w w' := by
  obtain ⟨F, hF⟩ : ∃ F : Ending → World → Prop, F = fun r w' => (((putS (xk, xr, xv) L).length : Int) ≤ M → ∃ q c', r = .returned (.tuple #[.slice q (putS (xk, xr, xv) L).length c', .string ⟨#[]⟩, .bool false]) ∧ Rd encT w' q (putS (xk, xr, xv) L) ∧ (putS (xk, xr, xv) L).length ≤ c') ∧
      (M < ((putS (xk, xr, xv) L).length : Int) → ∀ F z, putS (xk, xr, xv) L = F ++ [z] → ∃ q c', r = .returned (.tuple #[.slice q F.length c', .string ⟨z.1.toArray⟩, .bool true]) ∧ Rd encT w' q F ∧ F.length ≤ c') ∧ Below w.heap.size w w' := ⟨_, rfl⟩
  rw [← hF]
  have HF := Lib.hid hF
  have HDL := dropS_len xk L
  obtain ⟨n, hnL⟩ : ∃ n, n = L.length := ⟨_, rfl⟩
  rw [← hnL] at hn HDL ⊢
  have hb1 : Below w.heap.size w (w.alloc (.cells #[.string ⟨xk.toArray⟩, .int .i64 xr, .string ⟨xv.toArray⟩] 38)) := (Below.refl _ _).alloc (Nat.le_refl _) _
  have hb2 : Below w.heap.size w ((w.alloc (.cells #[.string ⟨xk.toArray⟩, .int .i64 xr, .string ⟨xv.toArray⟩] 38)).alloc (.cells #[] 38)) := hb1.alloc (by simp) _
  have hdr := rdrop_any ao c L xk _ (hL.old hb2) (by omega)
  rw [← hnL] at hdr
  have hbx : ((w.alloc (.cells #[.string ⟨xk.toArray⟩, .int .i64 xr, .string ⟨xv.toArray⟩] 38)).alloc (.cells #[] 38)).heap[w.heap.size]? = some (.cells #[.string ⟨xk.toArray⟩, .int .i64 xr, .string ⟨xv.toArray⟩] 38 (0, 0)) := (Below.heap_alloc _ _ _ (by simp)).trans (heap_alloc_new w _)
  have hrow : Rw encT 38 ((w.alloc (.cells #[.string ⟨xk.toArray⟩, .int .i64 xr, .string ⟨xv.toArray⟩] 38)).alloc (.cells #[] 38)) (some ⟨w.heap.size + 1, 0, none⟩) 0 [] := by
    have := Rw.made (E := encT) 38 (w.alloc (.cells #[.string ⟨xk.toArray⟩, .int .i64 xr, .string ⟨xv.toArray⟩] 38)) [] (by simp [maxLen])
    simpa [Enc.all] using this
  have hsz : ((w.alloc (.cells #[.string ⟨xk.toArray⟩, .int .i64 xr, .string ⟨xv.toArray⟩] 38)).alloc (.cells #[] 38)).heap.size = w.heap.size + 2 := by simp
  have HDR := Lib.hid hdr
  have HBX := Lib.hid hbx
  have HRO := Lib.hid hrow
  have HB2 := Lib.hid hb2
  have HSZ := Lib.hid hsz
  clear hdr hbx hrow hb1 hb2 hsz hL hF hnL
  go_enter Try.func19, Try.ntmps19
  go_wp2_with fail
  generalize (w.alloc (.cells #[.string ⟨xk.toArray⟩, .int .i64 xr, .string ⟨xv.toArray⟩] 38)).alloc (.cells #[] 38) = W at HDR HBX HRO HB2 HSZ ⊢
  refine HDR.out.mono ?_
  rintro r w1 ⟨q1, c1, rfl, hR1, hq1, hbw⟩
  obtain ⟨m, hm⟩ : ∃ m, m = (dropS xk L).length := ⟨_, rfl⟩
  rw [← hm] at HDL ⊢
  have HM := Lib.hid hm
  have HR1 := Lib.hid hR1
  have HQ1 := Lib.hid hq1
  have HW1 : Hid (Below W.heap.size W w1) := Lib.hid hbw
  have HA0 : Hid (AccG w1 (w.heap.size + 1) (inS (xk, xr, xv) (dropS xk L) 0).1 (some ⟨w.heap.size + 1, 0, none⟩) 0 w1) := Lib.hid ⟨HRO.out.old hbw, (fun a e => by cases e; exact .inl rfl), Mod.refl _ _⟩
  have HBX1 : Hid (w1.heap[w.heap.size]? = some (.cells #[.string ⟨xk.toArray⟩, .int .i64 xr, .string ⟨xv.toArray⟩] 38 (0, 0))) := Lib.hid ((hbw.block _ (by rw [HSZ.out]; omega)).trans HBX.out)
  have HBW : Hid (∀ wr, Mod (fun k => k = w.heap.size + 1) w1 wr → Below w.heap.size w wr) := Lib.hid (fun wr hm => by
    have h1 := HB2.out.trans (hbw.mono HB2.out.size)
    exact h1.trans (hm.to_below h1.size (by rintro k hk rfl; omega)))
  have HQN : Hid (∀ a, q1 = some a → a.block ≠ w.heap.size + 1) := Lib.hid (fun a e => by have := hq1 a e; rw [HSZ.out] at this; omega)
  have m0 : (0 : Int) ≤ m := by omega
  clear hm hR1 hq1 hbw HDR
  generalize hg : w.heap.size = g at HA0 HBX1 HBW HQN ⊢
  have HBV : Hid (∀ wr, Mod (fun k => k = g + 1) w1 wr → Below w.heap.size w wr) := Lib.hid (fun wr h => by rw [hg]; exact HBW.out wr h)
  clear hg HBW
  go_wp2_with fail
  go_loopw [9, 10, 12, 20] (fun s9 s10 _ s20 wr => ∃ (j : Nat) (q2 : Option Addr) (c2 k : Nat) (d : Bool), j ≤ m ∧ k ≤ 2 * j ∧ s20 = .int .i64 (j : Int) ∧ s9 = .slice q2 k c2 ∧ s10 = .bool d ∧ Hid (d = (inS (xk, xr, xv) (dropS xk L) j).2) ∧ Hid (k = (inS (xk, xr, xv) (dropS xk L) j).1.length) ∧ Hid (AccG w1 (g + 1) (inS (xk, xr, xv) (dropS xk L) j).1 q2 c2 wr)) (fun _ _ _ j _ => m - (intOf j).toNat)
  case atStart => exact ⟨0, some ⟨g + 1, 0, none⟩, 0, 0, false, Nat.zero_le _, Nat.le_refl _, rfl, rfl, rfl, Lib.hid rfl, Lib.hid rfl, HA0⟩
  case round =>
    obtain ⟨j, q2, c2, k, d, hj, hk, rfl, rfl, rfl, HD, HKL, HA⟩ := hrel
    by_cases hjm : j < m
    · have hjM : j < (dropS xk L).length := by rw [← HM.out]; exact hjm
      obtain ⟨bs, off, e1, hbs, cy0, cy1, cy2⟩ := ((HR1.out.kept HA.out.m HQN.out).rd.it) j hjM
      subst e1
      have hnx := inS_succ (xk, xr, xv) (dropS xk L) j hjM
      have hbx : wr.heap[g]? = some (.cells #[.string ⟨xk.toArray⟩, .int .i64 xr, .string ⟨xv.toArray⟩] 38 (0, 0)) := (HA.out.m.block g (Array.getElem?_eq_some_iff.1 HBX1.out).1 (by omega)).trans HBX1.out
      have b0 : wr.cell? ⟨g, 0, none⟩ = some (.string ⟨xk.toArray⟩) := by unfold World.cell?; rw [hbx]; rfl
      have b1 : wr.cell? ⟨g, 1, none⟩ = some (.int .i64 xr) := by unfold World.cell?; rw [hbx]; rfl
      have b2 : wr.cell? ⟨g, 2, none⟩ = some (.string ⟨xv.toArray⟩) := by unfold World.cell?; rw [hbx]; rfl
      have hgl : g < wr.heap.size := (Array.getElem?_eq_some_iff.1 hbx).1
      obtain ⟨y, hy⟩ : ∃ y, y = (dropS xk L)[j] := ⟨_, rfl⟩
      rw [← hy] at cy0 cy1 cy2 hnx
      obtain ⟨yk, yr, yv⟩ := y
      simp only at cy0 cy1 cy2 hnx
      obtain ⟨D, hD⟩ : ∃ D, D = (inS (xk, xr, xv) (dropS xk L) j).1 := ⟨_, rfl⟩
      have hst : inS (xk, xr, xv) (dropS xk L) j = (D, d) := by rw [hD, HD.out]
      rw [hst] at hnx HKL HA
      simp only at HKL HA
      have j0 : (0 : Int) ≤ j := by omega
      have j1 : (j : Int) < m := by omega
      have h1w : (wr.alloc (.cells #[.string ⟨yk.toArray⟩, .int .i64 yr, .string ⟨yv.toArray⟩] 38)).heap.size = wr.heap.size + 1 := by simp
      have h2w : ((wr.alloc (.cells #[.string ⟨yk.toArray⟩, .int .i64 yr, .string ⟨yv.toArray⟩] 38)).alloc (.cells #[.string ⟨xk.toArray⟩, .int .i64 xr, .string ⟨xv.toArray⟩] 38)).heap.size = wr.heap.size + 2 := by simp
      have hA2 := HA.out.below ((Below.refl wr.heap.size wr).alloc (Nat.le_refl _) (.cells #[.string ⟨yk.toArray⟩, .int .i64 yr, .string ⟨yv.toArray⟩] 38))
      obtain ⟨a1, a2, a3⟩ := hA2.one (yk, yr, yv)
      obtain ⟨x1, x2, x3⟩ := hA2.one (xk, xr, xv)
      simp only [World.size_alloc] at a1 a2 a3 x1 x2 x3
      have A1 := Lib.hid a1
      have A2 := Lib.hid a2
      have A3 := Lib.hid a3
      have X1 := Lib.hid x1
      have X2 := Lib.hid x2
      have X3 := Lib.hid x3
      have KY : Hid (∀ (W9 : World) (q9 : Option Addr) (c9 : Nat), PushR encT 38 ((wr.alloc (.cells #[.string ⟨yk.toArray⟩, .int .i64 yr, .string ⟨yv.toArray⟩] 38)).alloc (.cells #[.string ⟨xk.toArray⟩, .int .i64 xr, .string ⟨xv.toArray⟩] 38)) q2 (D ++ [(xk, xr, xv)]) q9 c9 W9 → wr.heap.size < W9.heap.size ∧ W9.cell? ⟨wr.heap.size, 0, none⟩ = some (.string ⟨yk.toArray⟩) ∧ W9.cell? ⟨wr.heap.size, 1, none⟩ = some (.int .i64 yr) ∧ W9.cell? ⟨wr.heap.size, 2, none⟩ = some (.string ⟨yv.toArray⟩)) := Lib.hid (by
        rintro W9 q9 c9 ⟨_, hm9, _⟩
        have hq2 : ∀ a, q2 = some a → a.block < wr.heap.size := fun a e => by subst e; exact HA.out.s.lt
        have hrow : W9.heap[wr.heap.size]? = some (.cells #[.string ⟨yk.toArray⟩, .int .i64 yr, .string ⟨yv.toArray⟩] 38 (0, 0)) := (hm9.block _ (by rw [h2w]; omega) (by rintro ⟨a, e, h⟩; have := hq2 a e; omega)).trans ((Below.heap_alloc _ _ _ (by rw [h1w]; omega)).trans (heap_alloc_new wr _))
        have := hm9.size
        refine ⟨by rw [h2w] at this; omega, ?_, ?_, ?_⟩ <;> (unfold World.cell?; rw [hrow]; rfl))
      have hkb : k + 1 + 1 ≤ 100000000000 := by have := hn; omega
      have hkb1 : k + 1 ≤ 100000000000 := by omega
      have HKL2 : Hid (D.length = k) := Lib.hid HKL.out.symm
      have HKL3 : Hid ((D ++ [(xk, xr, xv)]).length = k + 1) := Lib.hid (by rw [List.length_append, HKL2.out]; rfl)
      have HJ := Lib.hid hjm
      clear hjM hbx hy hD hst h1w h2w hA2 a1 a2 a3 x1 x2 x3 HD HKL hjm
      cases d with
      | true =>
        have hnx2 : inS (xk, xr, xv) (dropS xk L) (j + 1) = (D ++ [(yk, yr, yv)], true) := by rw [hnx]; simp [stepS]
        have HNX := Lib.hid hnx2
        clear hnx hnx2 KY X1 X2 X3
        go_wp2_with (at_builtin; refine wpList_pushR encT rfl (.tmp 51) (.tmp 53) 26 38 (.agg #[.string ⟨#[]⟩, .int .i64 0, .string ⟨#[]⟩]) 40 rfl Try.underlying26 info_item rfl (by decide) q2 c2 k _ HKL2.out rfl A1.out (some ⟨wr.heap.size + 1, 0, none⟩) 1 1 [(yk, yr, yv)] rfl rfl A2.out hkb1 ?_; intro q9 c9 w9 hP9; have HP9 := Lib.hid (A3.out _ _ _ hP9); clear hP9; go_frame)
        have hjm := HJ.out
        go_roundw
        case rel => exact ⟨j + 1, q9, c9, k + 1, true, by omega, by omega, by go_num, rfl, rfl, Lib.hid (by rw [HNX.out]), Lib.hid (by rw [HNX.out, List.length_append, HKL2.out]; rfl), by rw [HNX.out]; exact HP9.out⟩
        case measure => simp [intOf]; omega
      | false =>
        have HNXg : Hid (ltB (xk, xr, xv) (yk, yr, yv) = true → inS (xk, xr, xv) (dropS xk L) (j + 1) = (D ++ [(xk, xr, xv)] ++ [(yk, yr, yv)], true)) := Lib.hid (by intro h; rw [hnx]; simp [stepS, h])
        have HNXn : Hid (ltB (xk, xr, xv) (yk, yr, yv) = false → inS (xk, xr, xv) (dropS xk L) (j + 1) = (D ++ [(yk, yr, yv)], false)) := Lib.hid (by intro h; rw [hnx]; simp [stepS, h])
        by_cases h1 : xr < yr
        · have HNX := Lib.hid (HNXg.out (by simp [ltB, h1]))
          clear hnx A1 A2 A3
          go_wp2_with (first
            | (at_builtin; refine wpList_pushR encT rfl (.tmp 47) (.tmp 49) 26 38 (.agg #[.string ⟨#[]⟩, .int .i64 0, .string ⟨#[]⟩]) 40 rfl Try.underlying26 info_item rfl (by decide) q2 c2 k D HKL2.out rfl X1.out (some ⟨wr.heap.size + 1, 0, none⟩) 1 1 [(xk, xr, xv)] rfl rfl X2.out hkb1 ?_; intro q9 c9 w9 hP9; have HP9 := Lib.hid (X3.out _ _ _ hP9); obtain ⟨y3, y0, y1, y2⟩ := KY.out _ _ _ hP9; obtain ⟨e1, e2, e3⟩ := HP9.out.one (yk, yr, yv); simp only at e1 e2 e3; have E1 := Lib.hid e1; have E2 := Lib.hid e2; have E3 := Lib.hid e3; clear hP9 e1 e2 e3; go_frame)
            | (at_builtin; refine wpList_pushR encT rfl (.tmp 51) (.tmp 53) 26 38 (.agg #[.string ⟨#[]⟩, .int .i64 0, .string ⟨#[]⟩]) 40 rfl Try.underlying26 info_item rfl (by decide) q9 c9 (k + 1) _ HKL3.out rfl E1.out (some ⟨w9.heap.size, 0, none⟩) 1 1 [(yk, yr, yv)] rfl rfl E2.out hkb ?_; intro q8 c8 w8 hP8; have HP8 := Lib.hid (E3.out _ _ _ hP8); clear hP8; go_frame))
          have hjm := HJ.out
          go_roundw
          case rel => exact ⟨j + 1, q8, c8, k + 1 + 1, true, by omega, by omega, by go_num, rfl, rfl, Lib.hid (by rw [HNX.out]), Lib.hid (by rw [HNX.out, List.length_append, HKL3.out]; rfl), by rw [HNX.out]; exact HP8.out⟩
          case measure => simp [intOf]; omega

        · by_cases h2 : xr = yr
          · subst h2
            cases h3 : Op.bytesLess xk yk with
            | true =>
              have HNX := Lib.hid (HNXg.out (by simp [ltB, h3]))
              clear hnx A1 A2 A3
              go_wp2_with (first
                | (at_builtin; refine wpList_pushR encT rfl (.tmp 47) (.tmp 49) 26 38 (.agg #[.string ⟨#[]⟩, .int .i64 0, .string ⟨#[]⟩]) 40 rfl Try.underlying26 info_item rfl (by decide) q2 c2 k D HKL2.out rfl X1.out (some ⟨wr.heap.size + 1, 0, none⟩) 1 1 [(xk, xr, xv)] rfl rfl X2.out hkb1 ?_; intro q9 c9 w9 hP9; have HP9 := Lib.hid (X3.out _ _ _ hP9); obtain ⟨y3, y0, y1, y2⟩ := KY.out _ _ _ hP9; obtain ⟨e1, e2, e3⟩ := HP9.out.one (yk, xr, yv); simp only at e1 e2 e3; have E1 := Lib.hid e1; have E2 := Lib.hid e2; have E3 := Lib.hid e3; clear hP9 e1 e2 e3; go_frame)
                | (at_builtin; refine wpList_pushR encT rfl (.tmp 51) (.tmp 53) 26 38 (.agg #[.string ⟨#[]⟩, .int .i64 0, .string ⟨#[]⟩]) 40 rfl Try.underlying26 info_item rfl (by decide) q9 c9 (k + 1) _ HKL3.out rfl E1.out (some ⟨w9.heap.size, 0, none⟩) 1 1 [(yk, xr, yv)] rfl rfl E2.out hkb ?_; intro q8 c8 w8 hP8; have HP8 := Lib.hid (E3.out _ _ _ hP8); clear hP8; go_frame))
              have hjm := HJ.out
              go_roundw
              case rel => exact ⟨j + 1, q8, c8, k + 1 + 1, true, by omega, by omega, by go_num, rfl, rfl, Lib.hid (by rw [HNX.out]), Lib.hid (by rw [HNX.out, List.length_append, HKL3.out]; rfl), by rw [HNX.out]; exact HP8.out⟩
              case measure => simp [intOf]; omega

            | false =>
              have HNX := Lib.hid (HNXn.out (by simp [ltB, h3]))
              clear hnx KY X1 X2 X3
              go_wp2_with (at_builtin; refine wpList_pushR encT rfl (.tmp 51) (.tmp 53) 26 38 (.agg #[.string ⟨#[]⟩, .int .i64 0, .string ⟨#[]⟩]) 40 rfl Try.underlying26 info_item rfl (by decide) q2 c2 k _ HKL2.out rfl A1.out (some ⟨wr.heap.size + 1, 0, none⟩) 1 1 [(yk, xr, yv)] rfl rfl A2.out hkb1 ?_; intro q9 c9 w9 hP9; have HP9 := Lib.hid (A3.out _ _ _ hP9); clear hP9; go_frame)
              have hjm := HJ.out
              go_roundw
              case rel => exact ⟨j + 1, q9, c9, k + 1, false, by omega, by omega, by go_num, rfl, rfl, Lib.hid (by rw [HNX.out]), Lib.hid (by rw [HNX.out, List.length_append, HKL2.out]; rfl), by rw [HNX.out]; exact HP9.out⟩
              case measure => simp [intOf]; omega

          · have h4 : (xr == yr) = false := by simpa using h2
            have HNX := Lib.hid (HNXn.out (by simp [ltB, h1, h2]))
            clear hnx KY X1 X2 X3
            go_wp2_with (at_builtin; refine wpList_pushR encT rfl (.tmp 51) (.tmp 53) 26 38 (.agg #[.string ⟨#[]⟩, .int .i64 0, .string ⟨#[]⟩]) 40 rfl Try.underlying26 info_item rfl (by decide) q2 c2 k _ HKL2.out rfl A1.out (some ⟨wr.heap.size + 1, 0, none⟩) 1 1 [(yk, yr, yv)] rfl rfl A2.out hkb1 ?_; intro q9 c9 w9 hP9; have HP9 := Lib.hid (A3.out _ _ _ hP9); clear hP9; go_frame)
            have hjm := HJ.out
            go_roundw
            case rel => exact ⟨j + 1, q9, c9, k + 1, false, by omega, by omega, by go_num, rfl, rfl, Lib.hid (by rw [HNX.out]), Lib.hid (by rw [HNX.out, List.length_append, HKL2.out]; rfl), by rw [HNX.out]; exact HP9.out⟩
            case measure => simp [intOf]; omega

    · obtain rfl : j = m := by omega
      have hend := inS_end (xk, xr, xv) (dropS xk L)
      rw [← HM.out] at hend
      obtain ⟨D, hD⟩ : ∃ D, D = (inS (xk, xr, xv) (dropS xk L) j).1 := ⟨_, rfl⟩
      have hst : inS (xk, xr, xv) (dropS xk L) j = (D, d) := by rw [hD, HD.out]
      rw [hst] at hend HKL HA
      simp only at HKL HA
      clear hD hst HD
      cases d with
      | true =>
        have hPL : putS (xk, xr, xv) L = D := by rw [← show endS (xk, xr, xv) (D, true) = D from rfl, hend]; rfl
        have HKP : Hid ((putS (xk, xr, xv) L).length = k) := Lib.hid (by rw [hPL, HKL.out])
        have HAP : Hid (AccG w1 (g + 1) (putS (xk, xr, xv) L) q2 c2 wr) := Lib.hid (by rw [hPL]; exact HA.out)
        clear hend hPL HKL HA
        obtain ⟨K, hK⟩ : ∃ K, K = k := ⟨_, rfl⟩
        rw [← hK] at HKP ⊢
        by_cases hle : (K : Int) ≤ M
        · have HFF : Hid (F (.returned (.tuple #[.slice q2 K c2, .string ⟨#[]⟩, .bool false])) wr) := Lib.hid (by
            rw [HF.out]
            exact ⟨fun _ => ⟨q2, c2, by rw [HKP.out], HAP.out.s.rd, HAP.out.s.cap_le⟩, (fun h => absurd hle (by rw [HKP.out] at h; omega)), HBV.out _ HAP.out.m⟩)
          clear hK
          go_wp2_with fail
          go_ret3
          exact HFF.out
        · obtain ⟨K1, rfl⟩ : ∃ K1, K = K1 + 1 := ⟨K - 1, by have h1 := HKP.out; have h2 := insS_len (xk, xr, xv) (dropS xk L); unfold putS at h1; simp only at h1; omega⟩
          have hKl : K1 < (putS (xk, xr, xv) L).length := by rw [HKP.out]; omega
          obtain ⟨gq, gc⟩ : ∃ gq, q2 = some ⟨gq, 0, none⟩ := by
            rcases HAP.out.s.shape with ⟨_, e, _⟩ | ⟨gq, e, _⟩
            · rw [e] at hKl; simp at hKl
            · exact ⟨gq, e⟩
          have hcap := HAP.out.s.cap_le
          rw [HKP.out] at hcap
          subst gc
          obtain ⟨bs, off, e1, _, cz, _, _⟩ := HAP.out.s.rd.it K1 hKl
          simp only [Option.some.injEq, Addr.mk.injEq] at e1
          obtain ⟨rfl, rfl, _⟩ := e1
          rw [Nat.zero_add] at cz
          obtain ⟨z, hz⟩ : ∃ z, z = (putS (xk, xr, xv) L)[K1] := ⟨_, rfl⟩
          rw [← hz] at cz
          have hTK : Hid (∀ (F' : List SI) (z' : SI), putS (xk, xr, xv) L = F' ++ [z'] → F'.length = K1 ∧ z' = z ∧ F' = (putS (xk, xr, xv) L).take K1) := Lib.hid (by
            intro F' z' e
            have hl : F'.length = K1 := by have := congrArg List.length e; rw [HKP.out] at this; simp at this; omega
            refine ⟨hl, ?_, ?_⟩
            · rw [hz]; simp only [e, ← hl]; simp
            · rw [e, ← hl]; simp)
          have HFF : Hid (∀ W', Below wr.heap.size wr W' → F (.returned (.tuple #[.slice (some ⟨gq, 0, none⟩) K1 c2, .string ⟨z.1.toArray⟩, .bool true])) W') := Lib.hid (by
            intro W' hbW
            rw [HF.out]
            refine ⟨(fun h => absurd (by rw [← HKP.out]; exact h) hle), (fun _ F' z' e => ?_), (HBV.out _ HAP.out.m).trans (hbW.mono (HBV.out _ HAP.out.m).size)⟩
            obtain ⟨t1, t2, t3⟩ := hTK.out F' z' e
            exact ⟨some ⟨gq, 0, none⟩, c2, by rw [t1, t2], by rw [t3]; exact (HAP.out.s.rd.old hbW).take K1, by have := HAP.out.s.cap_le; rw [HKP.out] at this; omega⟩)
          have HBD : Hid (∀ W' (q : Nat), W' = wr.drewN q → Below wr.heap.size wr W') := Lib.hid (fun w' q e => by rw [e]; exact ⟨rfl, rfl, rfl, Nat.le_refl _, fun _ _ => rfl⟩)
          have k1 : ((K1 + 1 : Nat) : Int) - 1 = (K1 : Int) := by omega
          have k2 : (K1 : Int) < ((K1 + 1 : Nat) : Int) := by omega
          have k3 : (0 : Int) ≤ (K1 : Int) := by omega
          have k4 : (K1 : Int) ≤ (c2 : Int) := by omega
          have k5 : IntKind.i64.wrap (K1 : Int) = (K1 : Int) := IntWalk.i64_in _ (by have h1 := HKP.out; have h2 := insS_len (xk, xr, xv) (dropS xk L); have h3 := dropS_len xk L; have h4 := HDL; have h5 := HM.out; unfold putS at h1; simp only at h1; omega)
          have HZ := Lib.hid hz
          clear hK hcap hz hTK
          go_wp2_with fail
          go_quiet (fail)
          have HFG := Lib.hid (HFF.out _ (HBD.out _ nq rfl))
          generalize hWd : wr.drewN nq = WD at HFG ⊢
          clear hWd
          go_wp2_with fail
          go_ret3
          exact HFG.out
      | false =>
        have hPL : putS (xk, xr, xv) L = D ++ [(xk, xr, xv)] := by rw [← show endS (xk, xr, xv) (D, false) = D ++ [(xk, xr, xv)] from rfl, hend]; rfl
        have hbx : wr.heap[g]? = some (.cells #[.string ⟨xk.toArray⟩, .int .i64 xr, .string ⟨xv.toArray⟩] 38 (0, 0)) := (HA.out.m.block g (Array.getElem?_eq_some_iff.1 HBX1.out).1 (by omega)).trans HBX1.out
        have b0 : wr.cell? ⟨g, 0, none⟩ = some (.string ⟨xk.toArray⟩) := by unfold World.cell?; rw [hbx]; rfl
        have b1 : wr.cell? ⟨g, 1, none⟩ = some (.int .i64 xr) := by unfold World.cell?; rw [hbx]; rfl
        have b2 : wr.cell? ⟨g, 2, none⟩ = some (.string ⟨xv.toArray⟩) := by unfold World.cell?; rw [hbx]; rfl
        obtain ⟨x1, x2, x3⟩ := HA.out.one (xk, xr, xv)
        simp only at x1 x2 x3
        have X1 := Lib.hid x1
        have X2 := Lib.hid x2
        have X3 := Lib.hid x3
        have hkb1 : k + 1 ≤ 100000000000 := by have := hn; omega
        have HKL2 : Hid (D.length = k) := Lib.hid HKL.out.symm
        have HPL := Lib.hid hPL
        clear hend hPL hbx x1 x2 x3 HKL
        go_upto_region 13 with (at_builtin; refine wpList_pushR encT rfl (.tmp 58) (.tmp 60) 26 38 (.agg #[.string ⟨#[]⟩, .int .i64 0, .string ⟨#[]⟩]) 40 rfl Try.underlying26 info_item rfl (by decide) q2 c2 k _ HKL2.out rfl X1.out (some ⟨wr.heap.size, 0, none⟩) 1 1 [(xk, xr, xv)] rfl rfl X2.out hkb1 ?_; intro q9 c9 w9 hP9; have HP9 := Lib.hid (X3.out _ _ _ hP9); clear hP9; go_frame)
        have HKP : Hid ((putS (xk, xr, xv) L).length = k + 1) := Lib.hid (by rw [HPL.out, List.length_append, HKL2.out]; rfl)
        have HAP : Hid (AccG w1 (g + 1) (putS (xk, xr, xv) L) q9 c9 w9) := Lib.hid (by rw [HPL.out]; exact HP9.out)
        clear HPL HP9 HKL2 X1 X2 X3 HA b0 b1 b2
        obtain ⟨K, hK⟩ : ∃ K, K = k + 1 := ⟨_, rfl⟩
        rw [← hK] at HKP ⊢
        by_cases hle : (K : Int) ≤ M
        · have HFF : Hid (F (.returned (.tuple #[.slice q9 K c9, .string ⟨#[]⟩, .bool false])) w9) := Lib.hid (by
            rw [HF.out]
            exact ⟨fun _ => ⟨q9, c9, by rw [HKP.out], HAP.out.s.rd, HAP.out.s.cap_le⟩, (fun h => absurd hle (by rw [HKP.out] at h; omega)), HBV.out _ HAP.out.m⟩)
          clear hK
          go_wp2_with fail
          go_ret3
          exact HFF.out
        · obtain ⟨K1, rfl⟩ : ∃ K1, K = K1 + 1 := ⟨K - 1, by have h1 := HKP.out; have h2 := insS_len (xk, xr, xv) (dropS xk L); unfold putS at h1; simp only at h1; omega⟩
          have hKl : K1 < (putS (xk, xr, xv) L).length := by rw [HKP.out]; omega
          obtain ⟨gq, gc⟩ : ∃ gq, q9 = some ⟨gq, 0, none⟩ := by
            rcases HAP.out.s.shape with ⟨_, e, _⟩ | ⟨gq, e, _⟩
            · rw [e] at hKl; simp at hKl
            · exact ⟨gq, e⟩
          have hcap := HAP.out.s.cap_le
          rw [HKP.out] at hcap
          subst gc
          obtain ⟨bs, off, e1, _, cz, _, _⟩ := HAP.out.s.rd.it K1 hKl
          simp only [Option.some.injEq, Addr.mk.injEq] at e1
          obtain ⟨rfl, rfl, _⟩ := e1
          rw [Nat.zero_add] at cz
          obtain ⟨z, hz⟩ : ∃ z, z = (putS (xk, xr, xv) L)[K1] := ⟨_, rfl⟩
          rw [← hz] at cz
          have hTK : Hid (∀ (F' : List SI) (z' : SI), putS (xk, xr, xv) L = F' ++ [z'] → F'.length = K1 ∧ z' = z ∧ F' = (putS (xk, xr, xv) L).take K1) := Lib.hid (by
            intro F' z' e
            have hl : F'.length = K1 := by have := congrArg List.length e; rw [HKP.out] at this; simp at this; omega
            refine ⟨hl, ?_, ?_⟩
            · rw [hz]; simp only [e, ← hl]; simp
            · rw [e, ← hl]; simp)
          have HFF : Hid (∀ W', Below w9.heap.size w9 W' → F (.returned (.tuple #[.slice (some ⟨gq, 0, none⟩) K1 c9, .string ⟨z.1.toArray⟩, .bool true])) W') := Lib.hid (by
            intro W' hbW
            rw [HF.out]
            refine ⟨(fun h => absurd (by rw [← HKP.out]; exact h) hle), (fun _ F' z' e => ?_), (HBV.out _ HAP.out.m).trans (hbW.mono (HBV.out _ HAP.out.m).size)⟩
            obtain ⟨t1, t2, t3⟩ := hTK.out F' z' e
            exact ⟨some ⟨gq, 0, none⟩, c9, by rw [t1, t2], by rw [t3]; exact (HAP.out.s.rd.old hbW).take K1, by have := HAP.out.s.cap_le; rw [HKP.out] at this; omega⟩)
          have HBD : Hid (∀ W' (q : Nat), W' = w9.drewN q → Below w9.heap.size w9 W') := Lib.hid (fun w' q e => by rw [e]; exact ⟨rfl, rfl, rfl, Nat.le_refl _, fun _ _ => rfl⟩)
          have k1 : ((K1 + 1 : Nat) : Int) - 1 = (K1 : Int) := by omega
          have k2 : (K1 : Int) < ((K1 + 1 : Nat) : Int) := by omega
          have k3 : (0 : Int) ≤ (K1 : Int) := by omega
          have k4 : (K1 : Int) ≤ (c9 : Int) := by omega
          have k5 : IntKind.i64.wrap (K1 : Int) = (K1 : Int) := IntWalk.i64_in _ (by have h1 := HKP.out; have h2 := insS_len (xk, xr, xv) (dropS xk L); have h3 := dropS_len xk L; have h4 := HDL; have h5 := HM.out; unfold putS at h1; simp only at h1; omega)
          have HZ := Lib.hid hz
          clear hK hcap hz hTK
          go_wp2_with fail
          go_quiet (fail)
          have HFG := Lib.hid (HFF.out _ (HBD.out _ nq rfl))
          generalize hWd : w9.drewN nq = WD at HFG ⊢
          clear hWd
          go_wp2_with fail
          go_ret3
          exact HFG.out
theorem rput_any (ao : Option Addr) (c : Nat) (L : List SI) (M : Int) (xk : List UInt8) (xr : Int) (xv : List UInt8) (w : World) (hL : Rd encT w ao L) (hn : L.length ≤ 100000) (hM : 0 ≤ M) :
    Calls Try.prog 19 #[.slice ao L.length c, .int .i64 M, .agg #[.string ⟨xk.toArray⟩, .int .i64 xr, .string ⟨xv.toArray⟩]] w fun r w' =>
      (((putS (xk, xr, xv) L).length : Int) ≤ M → ∃ q c', r = .returned (.tuple #[.slice q (putS (xk, xr, xv) L).length c', .string ⟨#[]⟩, .bool false]) ∧ Rd encT w' q (putS (xk, xr, xv) L)) ∧
      (M < ((putS (xk, xr, xv) L).length : Int) → ∀ F z, putS (xk, xr, xv) L = F ++ [z] → ∃ q c', r = .returned (.tuple #[.slice q F.length c', .string ⟨z.1.toArray⟩, .bool true]) ∧ Rd encT w' q F) ∧ Below w.heap.size w w' :=
  (rput_anyC ao c L M xk xr xv w hL hn hM).mono fun _ _ ⟨h1, h2, hb⟩ => ⟨fun h => by obtain ⟨q, c', e, hR, _⟩ := h1 h; exact ⟨q, c', e, hR⟩, fun h F z hz => by obtain ⟨q, c', e, hR, _⟩ := h2 h F z hz; exact ⟨q, c', e, hR⟩, hb⟩
end Go.Proofs.Ytdiiechkhlbkcaa

namespace Go.Proofs.Ytdiiechkhlbkcaa.PS
open Go.RowKit Go.Sort Go.Proofs.Ytdiiechkhlbkcaa

set_option maxRecDepth 20000 in
set_option maxHeartbeats 1000000 in
theorem put_fits (p b : Nat) (M : Int) (L : List It) (w : World) (h : PoolAt 60 w p b M L) (hn : L.length ≤ 100000) (k : List UInt8) (hk : k.length ≤ 1000000) (r : Int) (tb : ByteArray)
    (hf : ((putI (k, r, (Value.string tb)) L).length : Int) ≤ M) :
    Calls Try.prog 18 #[.pointer (some ⟨p, 0, none⟩), .string ⟨k.toArray⟩, .int .i64 r, (Value.string tb)] w fun e w' => e = .returned (.tuple #[.string ⟨#[]⟩, .bool false]) ∧ PoolAt 60 w' p b M (putI (k, r, (Value.string tb)) L) ∧ Mod (fun i => i = b) w w' := by
  have hset := set_any p b M L w h (by omega) k hk r (Value.string tb) rfl
  have hpp := putI_perm (k, r, (Value.string tb)) L
  have HPP := Lib.hid hpp
  have HSET := Lib.hid hset
  obtain ⟨n, hnn⟩ : ∃ n, n = (putI (k, r, (Value.string tb)) L).length := ⟨_, rfl⟩
  rw [← hnn] at hf
  have HNN := Lib.hid hnn
  clear h hn hk hset hpp hnn
  go_enter Try.func18, Try.ntmps18
  go_wp2_with fail
  refine HSET.out.mono ?_
  rintro e W1 ⟨rfl, hP1, hm1⟩
  have hP2 : PoolAt 60 W1 p b M (putI (k, r, (Value.string tb)) L) := hP1.perm HPP.out.symm
  have HP := Lib.hid hP2
  have HM := Lib.hid hm1
  have HL : Hid (∀ w', Below W1.heap.size W1 w' → Calls Try.prog 27 #[.pointer (some ⟨p, 0, none⟩)] w' fun r w'' => r = .returned (.int .i64 (n : Int)) ∧ w'' = w') := Lib.hid (by
    intro w' hb
    have := len_any p b M _ w' (HP.out.old hb)
    rw [← HNN.out] at this; exact this)
  clear hP1 hP2 hm1
  go_wp2_with fail
  refine wp_region_puts (fun t v w => VK (match t with
    | 18 => .eq (.pointer (some ⟨p, 0, none⟩))
    | 19 => .eq (.int .i64 (n : Int))
    | 20 => .eq (.pointer (some ⟨p, 0, none⟩))
    | 21 => .eq (.pointer (some ⟨p, 0, none⟩))
    | 22 => .eq (.pointer (some ⟨p, 0, none⟩))
    | 23 => .eq (.int .i64 M)
    | 24 => .eq (Value.bool true)
    | _ => .any) v w) (fun w' => Below W1.heap.size W1 w') 37 (by kernel_rfl) (by decide +kernel) rfl (Below.refl _ _).drew (by
    refine OweAll.cons (owesK rfl rfl fun a w1 ha hG hV => ?_) ?_
    · skip
      have h0 := ha.outer 0 (by decide +kernel)
      simp only [Act.eval] at h0
      exact ⟨.pointer (some ⟨p, 0, none⟩), w1, wanted_free rfl, by simp [execOp, go_sem, h0], Below.refl _ _, rfl⟩
    refine OweAll.cons (owesK_call rfl rfl 27 fun a w1 ha hG hV => ?_) ?_
    · skip
      have h18 : a.tmps.getD 18 undef = .pointer (some ⟨p, 0, none⟩) := hV.get 18 (by decide +kernel)
      refine ⟨#[.pointer (some ⟨p, 0, none⟩)], wanted_free rfl, by simp [execOp, resolve, invoke, go_sem, h18], ?_⟩
      refine (HL.out w1 hG).mono ?_
      rintro e u2 ⟨rfl, rfl⟩; exact ⟨_, rfl, rfl, Below.refl _ _⟩
    refine OweAll.cons (owesK rfl rfl fun a w1 ha hG hV => ?_) ?_
    · skip
      have h0 := ha.outer 0 (by decide +kernel)
      simp only [Act.eval] at h0
      exact ⟨.pointer (some ⟨p, 0, none⟩), w1, wanted_free rfl, by simp [execOp, go_sem, h0], Below.refl _ _, rfl⟩
    refine OweAll.cons (owesK rfl rfl fun a w1 ha hG hV => ?_) ?_
    · skip
      have h20 : a.tmps.getD 20 undef = .pointer (some ⟨p, 0, none⟩) := hV.get 20 (by decide +kernel)
      exact ⟨.pointer (some ⟨p, 0, none⟩), w1, wanted_free rfl, by simp [execOp, go_sem, h20], Below.refl _ _, rfl⟩
    refine OweAll.cons (owesK rfl rfl fun a w1 ha hG hV => ?_) ?_
    · skip
      have h21 : a.tmps.getD 21 undef = .pointer (some ⟨p, 0, none⟩) := hV.get 21 (by decide +kernel)
      exact ⟨.pointer (some ⟨p, 0, none⟩), w1, wanted_free rfl, by simp [execOp, go_sem, h21], Below.refl _ _, rfl⟩
    refine OweAll.cons (owesK rfl rfl fun a w1 ha hG hV => ?_) ?_
    · skip
      have h22 : a.tmps.getD 22 undef = .pointer (some ⟨p, 0, none⟩) := hV.get 22 (by decide +kernel)
      have cc : w1.cell? ⟨p, 0, none⟩ = some (.int .i64 M) := (HP.out.old hG).c0
      exact ⟨.int .i64 M, w1, wanted_free rfl, by simp [execOp, go_sem, h22, cc], Below.refl _ _, rfl⟩
    refine OweAll.cons (owesK rfl rfl fun a w1 ha hG hV => ?_) ?_
    · skip
      have h19 : a.tmps.getD 19 undef = .int .i64 (n : Int) := hV.get 19 (by decide +kernel)
      have h23 : a.tmps.getD 23 undef = .int .i64 M := hV.get 23 (by decide +kernel)
      exact ⟨Value.bool true, w1, wanted_free rfl, by simp [execOp, go_sem, h19, h23, hf], Below.refl _ _, rfl⟩
    exact OweAll.nil
    ) ?_
  intro f wz hG hv
  have e24 : f 24 = Value.bool true := hv 6 _ 24 rfl rfl
  rename_i hK
  refine hK _ _ ?_
  clear hK hv
  simp only [dsts, puts, List.filterMap_cons, List.filterMap_nil, List.foldl_cons, List.foldl_nil, Act.put, List.setIfInBounds_toArray, List.set_cons_succ, List.set_cons_zero, e24]
  clear e24
  have HE : Hid (Below W1.heap.size W1 wz) := Lib.hid hG
  clear hG
  go_wp2_with fail
  go_ret2
  exact ⟨rfl, HP.out.old HE.out, HM.out.trans (Mod.of_below HE.out |>.mono (fun i hi h => by omega)) (fun _ _ h => h)⟩

set_option maxRecDepth 20000 in
set_option maxHeartbeats 2000000 in
theorem put_goes (p b : Nat) (M : Int) (L : List It) (w : World) (h : PoolAt 60 w p b M L) (hn : L.length ≤ 90000) (hkL : ∀ x ∈ L, x.1.length ≤ 1000000) (hoL : ∀ x ∈ L, x.2.2.oneCell' = true) (hs : Srt L) (k : List UInt8) (hk : k.length ≤ 1000000) (r : Int) (tb : ByteArray)
    (F : List It) (z : It) (hz : putI (k, r, (Value.string tb)) L = F ++ [z]) (hf : M < ((putI (k, r, (Value.string tb)) L).length : Int)) :
    Calls Try.prog 18 #[.pointer (some ⟨p, 0, none⟩), .string ⟨k.toArray⟩, .int .i64 r, (Value.string tb)] w fun e w' => e = .returned (.tuple #[.string ⟨z.1.toArray⟩, .bool true]) ∧ PoolAt 60 w' p b M F ∧ Mod (fun i => i = b) w w' := by
  have hset := set_any p b M L w h (by omega) k hk r (Value.string tb) rfl
  have hpp := putI_perm (k, r, (Value.string tb)) L
  have hall : ∀ x ∈ putI (k, r, (Value.string tb)) L, x.1.length ≤ 1000000 ∧ x.2.2.oneCell' = true := by
    intro x hx
    rcases List.mem_cons.1 (hpp.mem_iff.1 hx) with rfl | hx
    · exact ⟨hk, rfl⟩
    · exact ⟨hkL x (List.mem_filter.1 hx).1, hoL x (List.mem_filter.1 hx).1⟩
  have hsr := putI_srt hs (k, r, (Value.string tb))
  have hln : (putI (k, r, (Value.string tb)) L).length ≤ 100000 := by
    have := hpp.length_eq; simp at this
    have h2 : (dropL k L).length ≤ L.length := List.length_filter_le _ _
    omega
  have HPP := Lib.hid hpp
  have HSET := Lib.hid hset
  have HA := Lib.hid hall
  have HSR := Lib.hid hsr
  have HLN := Lib.hid hln
  have HZ := Lib.hid hz
  obtain ⟨n, hnn⟩ : ∃ n, n = (putI (k, r, (Value.string tb)) L).length := ⟨_, rfl⟩
  rw [← hnn] at hf
  have hf2 : ¬ (n : Int) ≤ M := by omega
  have HNN := Lib.hid hnn
  have hnF : n = F.length + 1 := by rw [hnn, hz]; simp
  have HNF := Lib.hid hnF
  clear h hn hk hset hpp hnn hall hsr hln hz hkL hoL hs hf hnF
  go_enter Try.func18, Try.ntmps18
  go_wp2_with fail
  refine HSET.out.mono ?_
  rintro e W1 ⟨rfl, hP1, hm1⟩
  have hP2 : PoolAt 60 W1 p b M (putI (k, r, (Value.string tb)) L) := hP1.perm HPP.out.symm
  have HP := Lib.hid hP2
  have HM := Lib.hid hm1
  have HL : Hid (∀ w', Below W1.heap.size W1 w' → Calls Try.prog 27 #[.pointer (some ⟨p, 0, none⟩)] w' fun r w'' => r = .returned (.int .i64 (n : Int)) ∧ w'' = w') := Lib.hid (by
    intro w' hb
    have := len_any p b M _ w' (HP.out.old hb)
    rw [← HNN.out] at this; exact this)
  clear hP1 hP2 hm1
  go_wp2_with fail
  refine wp_region_puts (fun t v w => VK (match t with
    | 18 => .eq (.pointer (some ⟨p, 0, none⟩))
    | 19 => .eq (.int .i64 (n : Int))
    | 20 => .eq (.pointer (some ⟨p, 0, none⟩))
    | 21 => .eq (.pointer (some ⟨p, 0, none⟩))
    | 22 => .eq (.pointer (some ⟨p, 0, none⟩))
    | 23 => .eq (.int .i64 M)
    | 24 => .eq (Value.bool false)
    | _ => .any) v w) (fun w' => Below W1.heap.size W1 w') 37 (by kernel_rfl) (by decide +kernel) rfl (Below.refl _ _).drew (by
    refine OweAll.cons (owesK rfl rfl fun a w1 ha hG hV => ?_) ?_
    · skip
      have h0 := ha.outer 0 (by decide +kernel)
      simp only [Act.eval] at h0
      exact ⟨.pointer (some ⟨p, 0, none⟩), w1, wanted_free rfl, by simp [execOp, go_sem, h0], Below.refl _ _, rfl⟩
    refine OweAll.cons (owesK_call rfl rfl 27 fun a w1 ha hG hV => ?_) ?_
    · skip
      have h18 : a.tmps.getD 18 undef = .pointer (some ⟨p, 0, none⟩) := hV.get 18 (by decide +kernel)
      refine ⟨#[.pointer (some ⟨p, 0, none⟩)], wanted_free rfl, by simp [execOp, resolve, invoke, go_sem, h18], ?_⟩
      refine (HL.out w1 hG).mono ?_
      rintro e u2 ⟨rfl, rfl⟩; exact ⟨_, rfl, rfl, Below.refl _ _⟩
    refine OweAll.cons (owesK rfl rfl fun a w1 ha hG hV => ?_) ?_
    · skip
      have h0 := ha.outer 0 (by decide +kernel)
      simp only [Act.eval] at h0
      exact ⟨.pointer (some ⟨p, 0, none⟩), w1, wanted_free rfl, by simp [execOp, go_sem, h0], Below.refl _ _, rfl⟩
    refine OweAll.cons (owesK rfl rfl fun a w1 ha hG hV => ?_) ?_
    · skip
      have h20 : a.tmps.getD 20 undef = .pointer (some ⟨p, 0, none⟩) := hV.get 20 (by decide +kernel)
      exact ⟨.pointer (some ⟨p, 0, none⟩), w1, wanted_free rfl, by simp [execOp, go_sem, h20], Below.refl _ _, rfl⟩
    refine OweAll.cons (owesK rfl rfl fun a w1 ha hG hV => ?_) ?_
    · skip
      have h21 : a.tmps.getD 21 undef = .pointer (some ⟨p, 0, none⟩) := hV.get 21 (by decide +kernel)
      exact ⟨.pointer (some ⟨p, 0, none⟩), w1, wanted_free rfl, by simp [execOp, go_sem, h21], Below.refl _ _, rfl⟩
    refine OweAll.cons (owesK rfl rfl fun a w1 ha hG hV => ?_) ?_
    · skip
      have h22 : a.tmps.getD 22 undef = .pointer (some ⟨p, 0, none⟩) := hV.get 22 (by decide +kernel)
      have cc : w1.cell? ⟨p, 0, none⟩ = some (.int .i64 M) := (HP.out.old hG).c0
      exact ⟨.int .i64 M, w1, wanted_free rfl, by simp [execOp, go_sem, h22, cc], Below.refl _ _, rfl⟩
    refine OweAll.cons (owesK rfl rfl fun a w1 ha hG hV => ?_) ?_
    · skip
      have h19 : a.tmps.getD 19 undef = .int .i64 (n : Int) := hV.get 19 (by decide +kernel)
      have h23 : a.tmps.getD 23 undef = .int .i64 M := hV.get 23 (by decide +kernel)
      exact ⟨Value.bool false, w1, wanted_free rfl, by simp [execOp, go_sem, h19, h23, hf2], Below.refl _ _, rfl⟩
    exact OweAll.nil
    ) ?_
  intro f wz hG hv
  have e24 : f 24 = Value.bool false := hv 6 _ 24 rfl rfl
  rename_i hK
  refine hK _ _ ?_
  clear hK hv
  simp only [dsts, puts, List.filterMap_cons, List.filterMap_nil, List.foldl_cons, List.foldl_nil, Act.put, List.setIfInBounds_toArray, List.set_cons_succ, List.set_cons_zero, e24]
  clear e24
  have HE : Hid (Below W1.heap.size W1 wz) := Lib.hid hG
  have hP3 := HP.out.old HE.out
  have hkeys := keys_any p b M _ wz hP3 HLN.out (fun x hx => (HA.out x hx).1) HSR.out
  rw [← HNN.out] at hkeys
  have HK := Lib.hid hkeys
  clear hG hP3 hkeys hf2
  go_wp2_with fail
  refine HK.out.mono ?_
  rintro e W2 ⟨q, c, rfl, hR2, hq2, hb2⟩
  have hP4 := (HP.out.old HE.out).old hb2
  have hap := apart_it hP4.2.ap
  have hzm : z ∈ putI (k, r, (Value.string tb)) L := by rw [HZ.out]; simp
  have hlast : ∃ g, q = some ⟨g, 0, none⟩ ∧ W2.cell? ⟨g, F.length, none⟩ = some (.string ⟨z.1.toArray⟩) := by
    have hFl : F.length < ((putI (k, r, (Value.string tb)) L).map (·.1)).length := by rw [List.length_map, HZ.out]; simp
    obtain ⟨bs, off, e1, _, hc⟩ := hR2.rd.str F.length hFl
    rcases hR2.shape with ⟨e, e0, _⟩ | ⟨g, e, _⟩
    · rw [e] at e1; cases e1
    · rw [e] at e1; cases e1
      refine ⟨_, e, ?_⟩
      have e2 : ((putI (k, r, (Value.string tb)) L).map (·.1))[F.length]'hFl = z.1 := by
        simp only [List.getElem_map, HZ.out]
        simp
      rw [e2, Nat.zero_add] at hc; exact hc
  obtain ⟨g, rfl, hcl⟩ := hlast
  have hdrop := drop_any p b M _ W2 hP4 z.1 (HA.out z hzm).1 (by rw [th_mem hap hzm]; exact (HA.out z hzm).2)
  have e3 : ((putI (k, r, (Value.string tb)) L).filter fun x => x.1 != z.1) = F := by have := srt_last (L := F) (x := z) (by rw [← HZ.out]; exact hap); rw [← HZ.out] at this; exact this
  rw [any_mem hzm, e3] at hdrop
  have HD := Lib.hid hdrop
  have HB := Lib.hid (HE.out.trans (hb2.mono HE.out.size))
  obtain rfl := HNF.out
  clear hR2 hq2 hb2 hP4 hap hzm hdrop e3 HK
  have j1 : ((F.length + 1 : Nat) : Int) - 1 = (F.length : Int) := by omega
  have j2 : (F.length : Int) < ((F.length + 1 : Nat) : Int) := by omega
  have j3 : (0 : Int) ≤ (F.length : Int) := by omega
  have j4 : IntKind.i64.wrap (F.length : Int) = (F.length : Int) := IntWalk.i64_in _ (by have := HLN.out; have := HNN.out; omega)
  go_wp2_with fail

  refine HD.out.mono ?_
  rintro e W3 ⟨rfl, hP5, hm5⟩
  have HP5 := Lib.hid hP5
  have HM5 := Lib.hid hm5
  clear hP5 hm5
  go_wp2_with fail
  go_ret2
  exact ⟨rfl, HP5.out, (HM.out.trans (Mod.of_below HB.out |>.mono (fun i hi h => by omega)) (fun _ _ h => h)).trans HM5.out (fun _ _ h => h)⟩
end Go.Proofs.Ytdiiechkhlbkcaa.PS

namespace Go.Proofs.Ytdiiechkhlbkcaa
open Go.RowKit PS

theorem extract_head (s : List UInt8) (k : Nat) : (ByteArray.mk s.toArray).extract 0 k = ⟨(s.take k).toArray⟩ := by
  rw [ByteArray.extract_mk]; simp
set_option maxHeartbeats 400000 in
theorem cut_any (s : List UInt8) (n : Nat) (w : World) (_hl : s.length ≤ maxLen) (_hn : n ≤ 1000000) :
    Calls Try.prog 8 #[.string ⟨s.toArray⟩, .int .i64 n] w fun r w' => r = .returned (.string ⟨(s.take n).toArray⟩) ∧ w' = w := by
  have h0 : (0 : Int) ≤ n := by omega
  by_cases h : n < s.length
  · go_enter Try.func8, Try.ntmps8
    go_wp2_with fail
    rw [extract_head]
    go_ret
    exact ⟨rfl, rfl⟩
  · have e : s.take n = s := List.take_of_length_le (by omega)
    rw [e]
    clear e
    go_enter Try.func8, Try.ntmps8
    go_wp2_with fail
    go_ret
    exact ⟨rfl, rfl⟩
theorem cmpT_less (a b : List UInt8) : (Op.bytesLess a b = true) ↔ Lib.compareBytes a b < 0 := by rw [less_cmp]; simp
theorem toI_lt (x y : SI) : ltB x y = true ↔ ltI (toI x) (toI y) := by
  unfold ltB ltI toI
  simp [cmpT_less]
theorem insS_toI (x : SI) (L : List SI) : (insS x L).map toI = insI (toI x) (L.map toI) := by
  induction L with
  | nil => rfl
  | cons y l ih =>
    rw [insS, List.map_cons, insI]
    by_cases h : ltB x y = true
    · have h' := (toI_lt x y).1 h
      unfold ltI at h'
      rw [if_pos h, if_pos h']; rfl
    · have h' : ¬ ltI (toI x) (toI y) := fun h' => h ((toI_lt x y).2 h')
      unfold ltI at h'
      rw [if_neg h, if_neg h', List.map_cons, ih]
theorem dropS_toI (k : List UInt8) (L : List SI) : (dropS k L).map toI = dropL k (L.map toI) := by
  unfold dropS dropL
  rw [List.filter_map]; rfl
theorem putS_toI (x : SI) (L : List SI) : (putS x L).map toI = putI (toI x) (L.map toI) := by
  unfold putS putI
  rw [insS_toI, dropS_toI]; rfl
/-- What waits is just this, in its order. -/
structure Same (w : World) (p b : Nat) (M : Int) (L : List SI) : Prop where
  at_ : PoolAt 60 w p b M (L.map toI)
  srt : Srt (L.map toI)
  keys : ∀ x ∈ L, x.1.length ≤ 1000000
  few : L.length ≤ 1000
theorem Same.old {w w' : World} {p b : Nat} {M : Int} {L : List SI} (h : Same w p b M L) (hb : Below w.heap.size w w') : Same w' p b M L := ⟨h.at_.old hb, h.srt, h.keys, h.few⟩
theorem Same.ap {w : World} {p b : Nat} {M : Int} {L : List SI} (h : Same w p b M L) : ApI (L.map toI) := apart_it h.at_.2.ap
theorem Same.keys' {w : World} {p b : Nat} {M : Int} {L : List SI} (h : Same w p b M L) : ∀ x ∈ L.map toI, x.1.length ≤ 1000000 := by
  intro x hx; obtain ⟨y, hy, rfl⟩ := List.mem_map.1 hx; exact h.keys y hy
theorem Same.keysC {w : World} {p b : Nat} {M : Int} {L : List SI} (h : Same w p b M L) :
    Calls Try.prog 21 #[.pointer (some ⟨p, 0, none⟩)] w fun r w' => ∃ q c, r = .returned (.slice q L.length c) ∧ Rw encS 9 w' q c (L.map (·.1)) ∧ (∀ a, q = some a → w.heap.size ≤ a.block) ∧ Below w.heap.size w w' := by
  have := keys_any p b M _ w h.at_ (by rw [List.length_map]; have := h.few; omega) h.keys' h.srt
  rw [List.length_map, List.map_map] at this
  exact this
theorem Same.lenC {w : World} {p b : Nat} {M : Int} {L : List SI} (h : Same w p b M L) :
    Calls Try.prog 27 #[.pointer (some ⟨p, 0, none⟩)] w fun r w' => r = .returned (.int .i64 (L.length : Nat)) ∧ w' = w := by
  have := len_any p b M _ w h.at_
  rw [List.length_map] at this
  exact this
theorem Same.rankC {w : World} {p b : Nat} {M : Int} {L : List SI} (h : Same w p b M L) (x : SI) (hx : x ∈ L) :
    Calls Try.prog 11 #[.pointer (some ⟨p, 0, none⟩), .string ⟨x.1.toArray⟩] w fun r w' => r = .returned (.int .i64 x.2.1) ∧ w' = w := by
  have := rank_any p b M _ w h.at_ x.1 (by have := h.keys x hx; simp [maxLen]; omega)
  rw [show rkL x.1 (L.map toI) = x.2.1 from rk_mem h.ap (List.mem_map_of_mem (f := toI) hx)] at this
  exact this
theorem Same.getC {w : World} {p b : Nat} {M : Int} {L : List SI} (h : Same w p b M L) (x : SI) (hx : x ∈ L) :
    Calls Try.prog 10 #[.pointer (some ⟨p, 0, none⟩), .string ⟨x.1.toArray⟩] w fun r w' => r = .returned (.tuple #[.string ⟨x.2.2.toArray⟩, .bool true]) ∧ Below w.heap.size w w' := by
  have e := th_mem h.ap (List.mem_map_of_mem (f := toI) hx) (.string ⟨#[]⟩)
  have := get_any p b M _ w h.at_ x.1 (by have := h.keys x hx; simp [maxLen]; omega) (by rw [show (toI x).1 = x.1 from rfl] at e; rw [e]; rfl)
  rw [show thL x.1 (L.map toI) (.string ⟨#[]⟩) = .string ⟨x.2.2.toArray⟩ from e, show ((L.map toI).any fun y => y.1 == x.1) = true from any_mem (List.mem_map_of_mem (f := toI) hx)] at this
  exact this

set_option maxRecDepth 20000 in
set_option maxHeartbeats 4000000 in
theorem is_any (p b : Nat) (M : Int) (L : List SI) (ao : Option Addr) (c : Nat) (w : World) (h : Same w p b M L) (hL : Rd encT w ao L) :
    Calls Try.prog 16 #[.pointer (some ⟨p, 0, none⟩), .slice ao L.length c] w fun r w' => r = .returned (.bool true) ∧ Below w.heap.size w w' := by
  have HK := Lib.hid h.keysC
  have HP := Lib.hid h
  have HL := Lib.hid hL
  obtain ⟨n, hn⟩ : ∃ n, n = L.length := ⟨_, rfl⟩
  have hb := h.few
  rw [← hn] at hb
  rw [← hn] at HK ⊢
  have HN := Lib.hid hn
  have HLEN : Hid (∀ w', Below w.heap.size w w' → Calls Try.prog 27 #[.pointer (some ⟨p, 0, none⟩)] w' fun r w'' => r = .returned (.int .i64 (n : Int)) ∧ w'' = w') := Lib.hid (fun w' hb => by have := (h.old hb).lenC; rw [← hn] at this; exact this)
  clear h hL hn
  go_enter Try.func16, Try.ntmps16
  go_wp2_with fail
  refine HK.out.mono ?_
  rintro r w1 ⟨q, cq, rfl, hR, hq, hb1⟩
  have HR := Lib.hid hR
  have HB1 := Lib.hid hb1
  have hlen := HLEN.out w1 hb1
  have HLC := Lib.hid hlen
  clear hR hq hb1 hlen HK
  go_wp2_with fail
  refine HLC.out.mono ?_
  rintro r w2 ⟨rfl, rfl⟩
  clear HLC
  have n0 : (0 : Int) ≤ n := by omega
  go_wp2_with fail
  go_loopw [6, 7, 8, 9, 26] (fun _ _ _ _ s26 wr => ∃ j : Nat, j ≤ n ∧ s26 = .int .i64 (j : Int) ∧ Hid (Below w2.heap.size w2 wr)) (fun _ _ _ _ j _ => n - (intOf j).toNat)
  case atStart => exact ⟨0, Nat.zero_le _, rfl, Lib.hid (Below.refl _ _)⟩
  case round =>
    obtain ⟨j, hj, rfl, HB⟩ := hrel
    by_cases hjn : j < n
    · have hjl : j < L.length := by rw [← HN.out]; exact hjn
      have hbw := HB1.out.trans (HB.out.mono HB1.out.size)
      obtain ⟨bs, off, rfl, hbs, cy0, cy1, cy2⟩ := (HL.out.old hbw).it j hjl
      have hkl : j < (L.map (·.1)).length := by rw [List.length_map]; exact hjl
      obtain ⟨bk, ok, ek, hbk, ck⟩ := HR.out.rd.str j hkl
      have hq0 : ok = 0 := by
        rcases HR.out.shape with ⟨e, _⟩ | ⟨g, e, _⟩
        · rw [e] at ek; cases ek
        · rw [e] at ek; cases ek; rfl
      subst hq0
      subst ek
      rw [Nat.zero_add, List.getElem_map] at ck
      have hmem : L[j] ∈ L := List.getElem_mem hjl
      obtain ⟨y, hy⟩ : ∃ y, y = L[j] := ⟨_, rfl⟩
      rw [← hy] at cy0 cy1 cy2 ck hmem
      obtain ⟨yk, yr, yv⟩ := y
      simp only at cy0 cy1 cy2 ck
      have j0 : (0 : Int) ≤ j := by omega
      have j1 : (j : Int) < n := by omega
      have hba : Below wr.heap.size wr (wr.alloc (.cells #[.string ⟨yk.toArray⟩, .int .i64 yr, .string ⟨yv.toArray⟩] 38)) := (Below.refl _ _).alloc (Nat.le_refl _) _
      have hg7 := heap_alloc_new wr (.cells #[.string ⟨yk.toArray⟩, .int .i64 yr, .string ⟨yv.toArray⟩] 38)
      have hget := (HP.out.old (hbw.trans (hba.mono hbw.size))).getC _ hmem
      have HGET := Lib.hid hget
      have HG0 := Lib.hid hg7
      have HBA := Lib.hid (HB.out.trans (hba.mono HB.out.size))
      have HRKW : Hid (∀ w1 : World, Below w.heap.size w w1 → Calls Try.prog 11 #[.pointer (some ⟨p, 0, none⟩), .string ⟨yk.toArray⟩] w1 fun r w' => r = .returned (.int .i64 yr) ∧ w' = w1) := Lib.hid (fun w1 hb => (HP.out.old hb).rankC _ hmem)
      have HCK0 := Lib.hid ck
      have HBK := Lib.hid hbk
      have HJ := Lib.hid hjn
      clear hjl hbw hkl hmem hy ck hba hg7 hget hjn hbk
      go_wp2_with fail
      generalize wr.alloc (.cells #[.string ⟨yk.toArray⟩, .int .i64 yr, .string ⟨yv.toArray⟩] 38) = WA at HG0 HBA HGET ⊢
      generalize wr.heap.size = g7 at HG0 ⊢
      refine HGET.out.mono ?_
      rintro r W3 ⟨rfl, hb3⟩
      have HG7 := Lib.hid ((hb3.block g7 (Array.getElem?_eq_some_iff.1 HG0.out).1).trans HG0.out)
      have HB3 : Hid (Below w2.heap.size w2 W3) := Lib.hid (HBA.out.trans (hb3.mono HBA.out.size))
      have HRK : Hid (∀ w1 : World, Below W3.heap.size W3 w1 → Calls Try.prog 11 #[.pointer (some ⟨p, 0, none⟩), .string ⟨yk.toArray⟩] w1 fun r w' => r = .returned (.int .i64 yr) ∧ w' = w1) := Lib.hid (fun w1 hb => HRKW.out w1 (by
        have h1 := HB1.out.trans (HB3.out.mono HB1.out.size); exact h1.trans (hb.mono h1.size)))
      have HCK : Hid (W3.cell? ⟨bk, j, none⟩ = some (.string ⟨yk.toArray⟩)) := Lib.hid ((World.cell?_of_block (HB3.out.block bk HBK.out)).trans HCK0.out)
      have HGQ : Hid (bk < W3.heap.size) := Lib.hid (Nat.lt_of_lt_of_le HBK.out HB3.out.size)
      have ksz : (Try.prog.info? 9).map (·.size) = some 1 := by kernel_rfl
      clear hb3 HG0 HGET HRKW
      go_wp2_with fail
      refine wp_region_puts (fun t v w => VK (match t with
        | 38 => .eq (.slice (some ⟨bk, 0, none⟩) n cq)
        | 39 => .eq (.int .i64 (j : Int))
        | 40 => .eq (.pointer (some ⟨bk, j, none⟩))
        | 41 => .eq (.string ⟨yk.toArray⟩)
        | 42 => .eq (.pointer (some ⟨g7, 0, none⟩))
        | 43 => .eq (.string ⟨yk.toArray⟩)
        | 44 => .eq (Value.bool false)
        | 45 => .eq (Value.bool false)
        | 46 => .eq (.string ⟨yv.toArray⟩)
        | 47 => .eq (.pointer (some ⟨g7, 2, none⟩))
        | 48 => .eq (.string ⟨yv.toArray⟩)
        | 49 => .eq (Value.bool false)
        | 50 => .eq (Value.bool false)
        | 51 => .eq (Value.bool false)
        | 52 => .eq (Value.bool true)
        | 53 => .eq (Value.bool false)
        | 54 => .eq (Value.bool false)
        | 55 => .eq (Value.bool false)
        | 56 => .eq (.pointer (some ⟨p, 0, none⟩))
        | 57 => .eq (.pointer (some ⟨g7, 0, none⟩))
        | 58 => .eq (.string ⟨yk.toArray⟩)
        | 59 => .eq (.int .i64 yr)
        | 60 => .eq (.pointer (some ⟨g7, 1, none⟩))
        | 61 => .eq (.int .i64 yr)
        | 62 => .eq (Value.bool false)
        | 63 => .eq (Value.bool false)
        | _ => .any) v w) (fun w' => Below W3.heap.size W3 w') 65 (by kernel_rfl) (by decide +kernel) rfl (Below.refl _ _).drew (by
        refine OweAll.cons (owesK rfl rfl fun a w1 ha hG hV => ?_) ?_
        · skip
          have h5 := ha.outer 5 (by decide +kernel)
          simp only [Act.eval] at h5
          exact ⟨.slice (some ⟨bk, 0, none⟩) n cq, w1, wanted_free rfl, by simp [execOp, go_sem, h5], Below.refl _ _, rfl⟩
        refine OweAll.cons (owesK rfl rfl fun a w1 ha hG hV => ?_) ?_
        · skip
          have h6 := ha.outer 6 (by decide +kernel)
          simp only [Act.eval] at h6
          exact ⟨.int .i64 (j : Int), w1, wanted_free rfl, by simp [execOp, go_sem, h6], Below.refl _ _, rfl⟩
        refine OweAll.cons (owesK rfl rfl fun a w1 ha hG hV => ?_) ?_
        · skip
          have h38 : a.tmps.getD 38 undef = .slice (some ⟨bk, 0, none⟩) n cq := hV.get 38 (by decide +kernel)
          have h39 : a.tmps.getD 39 undef = .int .i64 (j : Int) := hV.get 39 (by decide +kernel)
          exact ⟨.pointer (some ⟨bk, j, none⟩), w1, wanted_free rfl, by simp [execOp, go_sem, h38, h39, Try.underlying50, j0, j1, ksz], Below.refl _ _, rfl⟩
        refine OweAll.cons (owesK rfl rfl fun a w1 ha hG hV => ?_) ?_
        · skip
          have h40 : a.tmps.getD 40 undef = .pointer (some ⟨bk, j, none⟩) := hV.get 40 (by decide +kernel)
          have cc : w1.cell? ⟨bk, j, none⟩ = _ := (World.cell?_of_block (hG.block bk HGQ.out)).trans HCK.out
          exact ⟨.string ⟨yk.toArray⟩, w1, wanted_free rfl, by simp [execOp, go_sem, h40, cc], Below.refl _ _, rfl⟩
        refine OweAll.cons (owesK rfl rfl fun a w1 ha hG hV => ?_) ?_
        · skip
          have h7 := ha.outer 7 (by decide +kernel)
          simp only [Act.eval] at h7
          exact ⟨.pointer (some ⟨g7, 0, none⟩), w1, wanted_free rfl, by simp [execOp, go_sem, h7], Below.refl _ _, rfl⟩
        refine OweAll.cons (owesK rfl rfl fun a w1 ha hG hV => ?_) ?_
        · skip
          have h42 : a.tmps.getD 42 undef = .pointer (some ⟨g7, 0, none⟩) := hV.get 42 (by decide +kernel)
          have cc : w1.cell? ⟨g7, 0, none⟩ = some (.string ⟨yk.toArray⟩) := by unfold World.cell?; rw [(hG.block g7 (Array.getElem?_eq_some_iff.1 HG7.out).1).trans HG7.out]; rfl
          exact ⟨.string ⟨yk.toArray⟩, w1, wanted_free rfl, by simp [execOp, go_sem, h42, cc], Below.refl _ _, rfl⟩
        refine OweAll.cons (owesK rfl rfl fun a w1 ha hG hV => ?_) ?_
        · skip
          have h41 : a.tmps.getD 41 undef = .string ⟨yk.toArray⟩ := hV.get 41 (by decide +kernel)
          have h43 : a.tmps.getD 43 undef = .string ⟨yk.toArray⟩ := hV.get 43 (by decide +kernel)
          exact ⟨Value.bool false, w1, wanted_free rfl, by simp [execOp, go_sem, h41, h43], Below.refl _ _, rfl⟩
        refine OweAll.cons (owesK rfl rfl fun a w1 ha hG hV => ?_) ?_
        · skip
          have h44 : a.tmps.getD 44 undef = Value.bool false := hV.get 44 (by decide +kernel)
          exact ⟨Value.bool false, w1, wanted_free rfl, by simp [execOp, go_sem, h44], Below.refl _ _, rfl⟩
        refine OweAll.cons (owesK rfl rfl fun a w1 ha hG hV => ?_) ?_
        · skip
          have h8 := ha.outer 8 (by decide +kernel)
          simp only [Act.eval] at h8
          exact ⟨.string ⟨yv.toArray⟩, w1, (wanted_of (t := 45) rfl rfl (hV.get 45 (by decide +kernel))), by simp [execOp, go_sem, h8], Below.refl _ _, rfl⟩
        refine OweAll.cons (owesK rfl rfl fun a w1 ha hG hV => ?_) ?_
        · skip
          have h7 := ha.outer 7 (by decide +kernel)
          simp only [Act.eval] at h7
          exact ⟨.pointer (some ⟨g7, 2, none⟩), w1, (wanted_of (t := 45) rfl rfl (hV.get 45 (by decide +kernel))), by simp [execOp, go_sem, h7], Below.refl _ _, rfl⟩
        refine OweAll.cons (owesK rfl rfl fun a w1 ha hG hV => ?_) ?_
        · skip
          have h47 : a.tmps.getD 47 undef = .pointer (some ⟨g7, 2, none⟩) := hV.get 47 (by decide +kernel)
          have cc : w1.cell? ⟨g7, 2, none⟩ = some (.string ⟨yv.toArray⟩) := by unfold World.cell?; rw [(hG.block g7 (Array.getElem?_eq_some_iff.1 HG7.out).1).trans HG7.out]; rfl
          exact ⟨.string ⟨yv.toArray⟩, w1, (wanted_of (t := 45) rfl rfl (hV.get 45 (by decide +kernel))), by simp [execOp, go_sem, h47, cc], Below.refl _ _, rfl⟩
        refine OweAll.cons (owesK rfl rfl fun a w1 ha hG hV => ?_) ?_
        · skip
          have h46 : a.tmps.getD 46 undef = .string ⟨yv.toArray⟩ := hV.get 46 (by decide +kernel)
          have h48 : a.tmps.getD 48 undef = .string ⟨yv.toArray⟩ := hV.get 48 (by decide +kernel)
          exact ⟨Value.bool false, w1, (wanted_of (t := 45) rfl rfl (hV.get 45 (by decide +kernel))), by simp [execOp, go_sem, h46, h48], Below.refl _ _, rfl⟩
        refine OweAll.cons (owesK rfl rfl fun a w1 ha hG hV => ?_) ?_
        · skip
          have h45 : a.tmps.getD 45 undef = Value.bool false := hV.get 45 (by decide +kernel)
          have h49 : a.tmps.getD 49 undef = Value.bool false := hV.get 49 (by decide +kernel)
          exact ⟨Value.bool false, w1, wanted_free rfl, by simp [execOp, go_sem, h45, h49], Below.refl _ _, rfl⟩
        refine OweAll.cons (owesK rfl rfl fun a w1 ha hG hV => ?_) ?_
        · skip
          have h50 : a.tmps.getD 50 undef = Value.bool false := hV.get 50 (by decide +kernel)
          exact ⟨Value.bool false, w1, wanted_free rfl, by simp [execOp, go_sem, h50], Below.refl _ _, rfl⟩
        refine OweAll.cons (owesK rfl rfl fun a w1 ha hG hV => ?_) ?_
        · skip
          have h9 := ha.outer 9 (by decide +kernel)
          simp only [Act.eval] at h9
          exact ⟨Value.bool true, w1, (wanted_of (t := 51) rfl rfl (hV.get 51 (by decide +kernel))), by simp [execOp, go_sem, h9], Below.refl _ _, rfl⟩
        refine OweAll.cons (owesK rfl rfl fun a w1 ha hG hV => ?_) ?_
        · skip
          have h52 : a.tmps.getD 52 undef = Value.bool true := hV.get 52 (by decide +kernel)
          exact ⟨Value.bool false, w1, (wanted_of (t := 51) rfl rfl (hV.get 51 (by decide +kernel))), by simp [execOp, go_sem, h52], Below.refl _ _, rfl⟩
        refine OweAll.cons (owesK rfl rfl fun a w1 ha hG hV => ?_) ?_
        · skip
          have h51 : a.tmps.getD 51 undef = Value.bool false := hV.get 51 (by decide +kernel)
          have h53 : a.tmps.getD 53 undef = Value.bool false := hV.get 53 (by decide +kernel)
          exact ⟨Value.bool false, w1, wanted_free rfl, by simp [execOp, go_sem, h51, h53], Below.refl _ _, rfl⟩
        refine OweAll.cons (owesK rfl rfl fun a w1 ha hG hV => ?_) ?_
        · skip
          have h54 : a.tmps.getD 54 undef = Value.bool false := hV.get 54 (by decide +kernel)
          exact ⟨Value.bool false, w1, wanted_free rfl, by simp [execOp, go_sem, h54], Below.refl _ _, rfl⟩
        refine OweAll.cons (owesK rfl rfl fun a w1 ha hG hV => ?_) ?_
        · skip
          have h0 := ha.outer 0 (by decide +kernel)
          simp only [Act.eval] at h0
          exact ⟨.pointer (some ⟨p, 0, none⟩), w1, (wanted_of (t := 55) rfl rfl (hV.get 55 (by decide +kernel))), by simp [execOp, go_sem, h0], Below.refl _ _, rfl⟩
        refine OweAll.cons (owesK rfl rfl fun a w1 ha hG hV => ?_) ?_
        · skip
          have h7 := ha.outer 7 (by decide +kernel)
          simp only [Act.eval] at h7
          exact ⟨.pointer (some ⟨g7, 0, none⟩), w1, (wanted_of (t := 55) rfl rfl (hV.get 55 (by decide +kernel))), by simp [execOp, go_sem, h7], Below.refl _ _, rfl⟩
        refine OweAll.cons (owesK rfl rfl fun a w1 ha hG hV => ?_) ?_
        · skip
          have h57 : a.tmps.getD 57 undef = .pointer (some ⟨g7, 0, none⟩) := hV.get 57 (by decide +kernel)
          have cc : w1.cell? ⟨g7, 0, none⟩ = some (.string ⟨yk.toArray⟩) := by unfold World.cell?; rw [(hG.block g7 (Array.getElem?_eq_some_iff.1 HG7.out).1).trans HG7.out]; rfl
          exact ⟨.string ⟨yk.toArray⟩, w1, (wanted_of (t := 55) rfl rfl (hV.get 55 (by decide +kernel))), by simp [execOp, go_sem, h57, cc], Below.refl _ _, rfl⟩
        refine OweAll.cons (owesK_call rfl rfl 11 fun a w1 ha hG hV => ?_) ?_
        · skip
          have h56 : a.tmps.getD 56 undef = .pointer (some ⟨p, 0, none⟩) := hV.get 56 (by decide +kernel)
          have h58 : a.tmps.getD 58 undef = .string ⟨yk.toArray⟩ := hV.get 58 (by decide +kernel)
          refine ⟨#[.pointer (some ⟨p, 0, none⟩), .string ⟨yk.toArray⟩], (wanted_of (t := 55) rfl rfl (hV.get 55 (by decide +kernel))), by simp [execOp, resolve, invoke, go_sem, h56, h58], ?_⟩
          refine (HRK.out w1 hG).mono ?_
          rintro e u2 ⟨rfl, rfl⟩; exact ⟨_, rfl, rfl, Below.refl _ _⟩
        refine OweAll.cons (owesK rfl rfl fun a w1 ha hG hV => ?_) ?_
        · skip
          have h7 := ha.outer 7 (by decide +kernel)
          simp only [Act.eval] at h7
          exact ⟨.pointer (some ⟨g7, 1, none⟩), w1, (wanted_of (t := 55) rfl rfl (hV.get 55 (by decide +kernel))), by simp [execOp, go_sem, h7], Below.refl _ _, rfl⟩
        refine OweAll.cons (owesK rfl rfl fun a w1 ha hG hV => ?_) ?_
        · skip
          have h60 : a.tmps.getD 60 undef = .pointer (some ⟨g7, 1, none⟩) := hV.get 60 (by decide +kernel)
          have cc : w1.cell? ⟨g7, 1, none⟩ = some (.int .i64 yr) := by unfold World.cell?; rw [(hG.block g7 (Array.getElem?_eq_some_iff.1 HG7.out).1).trans HG7.out]; rfl
          exact ⟨.int .i64 yr, w1, (wanted_of (t := 55) rfl rfl (hV.get 55 (by decide +kernel))), by simp [execOp, go_sem, h60, cc], Below.refl _ _, rfl⟩
        refine OweAll.cons (owesK rfl rfl fun a w1 ha hG hV => ?_) ?_
        · skip
          have h59 : a.tmps.getD 59 undef = .int .i64 yr := hV.get 59 (by decide +kernel)
          have h61 : a.tmps.getD 61 undef = .int .i64 yr := hV.get 61 (by decide +kernel)
          exact ⟨Value.bool false, w1, (wanted_of (t := 55) rfl rfl (hV.get 55 (by decide +kernel))), by simp [execOp, go_sem, h59, h61], Below.refl _ _, rfl⟩
        refine OweAll.cons (owesK rfl rfl fun a w1 ha hG hV => ?_) ?_
        · skip
          have h55 : a.tmps.getD 55 undef = Value.bool false := hV.get 55 (by decide +kernel)
          have h62 : a.tmps.getD 62 undef = Value.bool false := hV.get 62 (by decide +kernel)
          exact ⟨Value.bool false, w1, wanted_free rfl, by simp [execOp, go_sem, h55, h62], Below.refl _ _, rfl⟩
        exact OweAll.nil
        ) ?_
      intro f wz hG hv
      have e63 : f 63 = Value.bool false := hv 25 _ 63 rfl rfl
      rename_i hK
      refine hK _ _ ?_
      clear hK hv
      simp only [dsts, puts, List.filterMap_cons, List.filterMap_nil, List.foldl_cons, List.foldl_nil, Act.put, List.setIfInBounds_toArray, List.set_cons_succ, List.set_cons_zero, e63]
      clear e63
      have HBZ := Lib.hid (HB3.out.trans (hG.mono HB3.out.size))
      clear hG ksz
      have hjn := HJ.out
      go_wp2_with fail
      go_roundw
      case rel => exact ⟨j + 1, by omega, by go_num, HBZ⟩
      case measure => simp [intOf]; omega
    · obtain rfl : j = n := by omega
      go_wp2_with fail
      go_ret
      exact ⟨rfl, HB1.out.trans (HB.out.mono HB1.out.size)⟩
end Go.Proofs.Ytdiiechkhlbkcaa

namespace Go.Proofs.Ytdiiechkhlbkcaa
open Go.RowKit Go.Maps PS

theorem most_any (p b : Nat) (M : Int) (L : List It) (w : World) (h : PoolAt 60 w p b M L) :
    Calls Try.prog 17 #[.pointer (some ⟨p, 0, none⟩)] w fun r w' => r = .returned (.int .i64 M) ∧ w' = w := by
  have c0 := h.c0
  clear h
  go_enter Try.func17, Try.ntmps17
  go_wp2_with fail
  go_ret
  exact ⟨rfl, rfl⟩
def firstL (m : Int) : List SI → List UInt8 × Bool
  | [] => ([], false)
  | x :: _ => if x.2.1 ≤ m then (x.1, true) else ([], false)
set_option maxRecDepth 20000 in
theorem first_any (p b : Nat) (M : Int) (L : List SI) (m : Int) (w : World) (h : Same w p b M L) :
    Calls Try.prog 14 #[.pointer (some ⟨p, 0, none⟩), .int .i64 m] w fun r w' => r = .returned (.tuple #[.string ⟨(firstL m L).1.toArray⟩, .bool (firstL m L).2]) ∧ Below w.heap.size w w' := by
  have HK := Lib.hid h.keysC
  have HP := Lib.hid h
  clear h
  cases L with
  | nil =>
    unfold firstL
    go_enter Try.func14, Try.ntmps14
    go_wp2_with fail
    refine HK.out.mono ?_
    rintro r w1 ⟨q, cq, rfl, hR, hq, hb1⟩
    have HB1 := Lib.hid hb1
    clear hR hq hb1 HK
    go_wp2_with fail
    go_ret2
    exact ⟨rfl, HB1.out⟩
  | cons x l =>
    obtain ⟨xk, xr, xv⟩ := x
    have HRK : Hid (∀ w', Below w.heap.size w w' → Calls Try.prog 11 #[.pointer (some ⟨p, 0, none⟩), .string ⟨xk.toArray⟩] w' fun r w'' => r = .returned (.int .i64 xr) ∧ w'' = w') := Lib.hid (fun w' hb => (HP.out.old hb).rankC (xk, xr, xv) (by simp))
    have hn0 : ((((xk, xr, xv) :: l).length : Nat) : Int) ≠ 0 := by simp; omega
    obtain ⟨n, hn⟩ : ∃ n, n = ((xk, xr, xv) :: l).length := ⟨_, rfl⟩
    rw [← hn] at HK hn0
    have hnb : ((n : Int) == 0) = false := by simpa using hn0
    have hn1 : (0 : Int) < n := by omega
    have HN := Lib.hid hn
    clear hn hn0
    unfold firstL
    by_cases hm : xr ≤ m
    · simp only [if_pos hm]
      have hm2 : ¬ m < xr := by omega
      go_enter Try.func14, Try.ntmps14
      go_wp2_with fail
      refine HK.out.mono ?_
      rintro r w1 ⟨q, cq, rfl, hR, hq, hb1⟩
      obtain ⟨bk, ok, rfl, _, ck⟩ := hR.rd.str 0 (by simp)
      have ck : w1.cell? ⟨bk, ok, none⟩ = some (.string ⟨xk.toArray⟩) := by simpa using ck
      have HB1 := Lib.hid hb1
      have hrk := HRK.out w1 hb1
      have HC := Lib.hid hrk
      clear hR hq hb1 HK hrk
      go_wp2_with fail
      refine HC.out.mono ?_
      rintro r w2 ⟨rfl, rfl⟩
      go_wp2_with fail
      go_ret2
      exact ⟨rfl, HB1.out⟩
    · simp only [if_neg hm]
      have hm2 : m < xr := by omega
      go_enter Try.func14, Try.ntmps14
      go_wp2_with fail
      refine HK.out.mono ?_
      rintro r w1 ⟨q, cq, rfl, hR, hq, hb1⟩
      obtain ⟨bk, ok, rfl, _, ck⟩ := hR.rd.str 0 (by simp)
      have ck : w1.cell? ⟨bk, ok, none⟩ = some (.string ⟨xk.toArray⟩) := by simpa using ck
      have HB1 := Lib.hid hb1
      have hrk := HRK.out w1 hb1
      have HC := Lib.hid hrk
      clear hR hq hb1 HK hrk
      go_wp2_with fail
      refine HC.out.mono ?_
      rintro r w2 ⟨rfl, rfl⟩
      go_wp2_with fail
      go_ret2
      exact ⟨rfl, HB1.out⟩

/-- What has come out of the map so far. -/
def outI (L : List It) (left : Lit → Bool) : List It := L.filter fun x => !left (.string x.1)
theorem outI_start (L : List It) : outI L (Maps.has (dOf (L.map entW))) = [] := by
  unfold outI
  rw [List.filter_eq_nil_iff]
  intro x hx
  rw [has_dOf, has_ent]
  simp
  exact ⟨x.2.1, x.2.2, hx⟩
theorem outI_end (L : List It) (left : Lit → Bool) (h : ∀ k, left k = false) : outI L left = L := by
  unfold outI
  exact List.filter_eq_self.2 (fun x _ => by rw [h]; rfl)
theorem outI_step {L : List It} (hL : ApI L) {left : Lit → Bool} {z : It} (hz : z ∈ L) (hl : left (.string z.1) = true) : (outI L fun y => left y && !y.sameKey (.string z.1)).Perm (z :: outI L left) := by
  unfold outI
  induction L with
  | nil => cases hz
  | cons y l ih =>
    obtain ⟨h1, h2⟩ := List.pairwise_cons.1 hL
    rcases List.mem_cons.1 hz with rfl | hz
    · have e1 : (l.filter fun x => !(left (.string x.1) && !(Lit.string x.1).sameKey (.string z.1))) = l.filter fun x => !left (.string x.1) := by
        refine List.filter_congr (fun x hx => ?_)
        have : x.1 ≠ z.1 := fun e => h1 x hx e.symm
        simp [Lit.sameKey, this]
      rw [List.filter_cons_of_pos (by simp [Lit.sameKey]), List.filter_cons_of_neg (by simp [hl]), e1]
    · have hne : y.1 ≠ z.1 := h1 z hz
      have ih := ih h2 hz
      cases hy : left (.string y.1) with
      | true => rw [List.filter_cons_of_neg (by simp [hy, Lit.sameKey, hne]), List.filter_cons_of_neg (by simp [hy])]; exact ih
      | false => rw [List.filter_cons_of_pos (by simp [hy]), List.filter_cons_of_pos (by simp [hy])]; exact (ih.cons y).trans (List.Perm.swap z y _)
theorem outI_not {L : List It} {left : Lit → Bool} {k : List UInt8} (hl : left (.string k) = true) : ∀ x ∈ outI L left, x.1 ≠ k := by
  intro x hx e
  have := (List.mem_filter.1 hx).2
  rw [e, hl] at this; cases this
theorem held_mem {L : List It} (h : Apart (L.map entW)) {x : List UInt8} {v : Value} (hat : ∀ zd, (dOf (L.map entW)).atKey (.string x) zd = .held v) : ∃ z ∈ L, z.1 = x ∧ v = .agg #[.int .i64 z.2.1, z.2.2] := by
  have hh := Maps.has_true_of_atKey hat
  rw [has_dOf, has_ent, List.any_eq_true] at hh
  obtain ⟨z, hz, e⟩ := hh
  have e : z.1 = x := by simpa using e
  have h1 := hat (.held (.agg #[.int .i64 0, .int .i64 0]))
  rw [atKey_dOf h, get_ent] at h1
  subst e
  have ha := apart_it h
  rw [rk_mem ha hz, th_mem ha hz] at h1
  injection h1 with h1
  exact ⟨z, hz, rfl, h1.symm⟩

structure CloneR (w wr : World) (p b p' b' ri : Nat) (M : Int) (L : List It) (left : Lit → Bool) (cnt : Nat) (C : List It) : Prop where
  rg : wr.ranges Try.prog 9 RV b ri L.length (dOf (L.map entW)) left cnt
  at_ : PoolAt 60 wr p' b' M C
  c : C.Perm (outI L left)
  m : Below w.heap.size w wr
  lo : w.heap.size ≤ p' ∧ w.heap.size ≤ b' ∧ b' < ri ∧ w.heap.size ≤ ri
set_option maxRecDepth 20000 in
set_option maxHeartbeats 2000000 in
theorem clone_any (p b : Nat) (M : Int) (L : List SI) (w : World) (h : Same w p b M L) (h0 : 0 ≤ M) (h64 : M ≤ 64) :
    Calls Try.prog 15 #[.pointer (some ⟨p, 0, none⟩)] w fun r w' => ∃ p' b', r = .returned (.pointer (some ⟨p', 0, none⟩)) ∧ Same w' p' b' M L ∧ Below w.heap.size w w' ∧ w.heap.size ≤ p' ∧ w.heap.size ≤ b' := by
  have c0 := h.at_.c0
  have c1 := h.at_.c1
  have HNEW := Lib.hid (new_any M w h0 h64)
  have HP := Lib.hid h
  obtain ⟨I, hI⟩ : ∃ I, I = L.map toI := ⟨_, rfl⟩
  have HPI : Hid (PoolAt 60 w p b M I ∧ I.length = L.length ∧ I = L.map toI) := Lib.hid ⟨by rw [hI]; exact h.at_, by rw [hI, List.length_map], hI⟩
  clear h h0 h64 hI
  go_enter Try.func15, Try.ntmps15
  go_wp2_with fail
  refine HNEW.out.mono ?_
  rintro r w1 ⟨p', b', rfl, hN, hb1, hlp, hlb⟩
  have hP1 := HPI.out.1.old hb1
  have c1' := hP1.c1
  have hown := hP1.2.own
  rw [List.length_map] at hown
  have HN := Lib.hid hN
  have HB1 := Lib.hid hb1
  have HLP := Lib.hid (And.intro hlp hlb)
  have hbb := hN.blt
  have HBB := Lib.hid hbb
  clear hN hb1 hlp hlb c0 c1 hP1 hbb
  go_wp2_with (first
    | (at_range; refine wpList_range_own _ rfl _ 58 rfl 9 62 law9 Try.underlying58 _ b I.length _ rfl hown ?_; intro w0 hrg0 hg0 hs0)
    | go_in)
  go_frame
  have HK0 : Hid (CloneR w w0 p b p' b' w1.heap.size M I (Maps.has (dOf (I.map entW))) (Maps.size (dOf (I.map entW))) []) := Lib.hid (by
    have hm0 : Mod (fun _ => False) w1 w0 := ⟨hg0.os, hg0.tape, hg0.output, hg0.size, fun k hk hn => hg0.block k hk (by simp)⟩
    refine ⟨hrg0, HN.out.kept hm0 (fun h => h) (fun h => h), by rw [outI_start], HB1.out.grown hg0 HB1.out.size (fun j hj => by cases hj), ?_⟩
    have h1 := HLP.out; have h2 := HBB.out; have h3 := HB1.out.size
    exact ⟨h1.1, h1.2, h2, h3⟩)
  clear hrg0 hg0 hs0 hown c1'
  generalize w1.heap.size = ri at HK0 ⊢
  go_loopw [4, 5] (fun _ _ wr => Hid (∃ left cnt C, CloneR w wr p b p' b' ri M I left cnt C)) (fun _ _ wr => wr.rangeLeft b ri)
  case atStart => exact Lib.hid ⟨_, _, [], HK0.out⟩
  case round =>
    obtain ⟨left, cnt, C, hR⟩ := hrel.out
    have hrg := hR.rg
    have HR := Lib.hid hR
    clear hR HK0 hrel
    go_wp2_with (first
      | (at_next; refine wpList_next_ranges _ rfl _ rfl 9 law9 RV encStr (fun v : Value => v) (fun key kl hk => by obtain ⟨x, hx, _⟩ := Maps.keyOf_str Try.underlying9 hk; exact ⟨x, hx⟩) (fun v y hv => ⟨v, rfl⟩) b ri I.length _ _ _ rfl hrg ?_ ?_)
      | go_in)
    · intro hc0 hl0
      have HF : Hid (Same wr p' b' M L) := Lib.hid (by
        have h1 := HR.out.c
        rw [outI_end _ _ hl0, HPI.out.2.2] at h1
        exact ⟨HR.out.at_.perm h1, HP.out.srt, HP.out.keys, HP.out.few⟩)
      clear hrg hl0 hc0
      go_wp2_with fail
      go_ret
      exact ⟨p', b', rfl, HF.out, HR.out.m, HLP.out.1, HLP.out.2⟩
    · intro x v kl yd yp w2 cnt1 hkey hlk hv hv2 hat hrg1 hlt hg1 hs1 hen
      obtain ⟨x', ex, rfl, _⟩ := Maps.keyOf_str Try.underlying9 hkey
      obtain rfl : x = x' := encStr_inj ex
      subst hv
      obtain ⟨z, hz, hzx, hzv⟩ := held_mem HPI.out.1.2.ap hat
      obtain ⟨y, hy, rfl⟩ := List.mem_map.1 (by rw [← HPI.out.2.2]; exact hz)
      subst hzx
      subst hzv
      have hxl := HP.out.keys y hy
      obtain ⟨yk, yr, yv⟩ := y
      unfold toI at hlk hen hz hrg1
      simp only at hlk hen hz hrg1 hxl
      have hm1 : Mod (fun i => i = ri) wr w2 := ⟨hg1.os, hg1.tape, hg1.output, hg1.size, fun k hk hn => hg1.block k hk (fun e => hn (Option.some.inj e))⟩
      have hba : Below w2.heap.size w2 (w2.alloc (.cells #[.int .i64 yr, .string ⟨yv.toArray⟩] 62)) := (Below.refl _ _).alloc (Nat.le_refl _) _
      have HLL : Hid (L.length ≤ 1000) := Lib.hid HP.out.few
      have hnew := HR.out.at_.kept hm1 (by have h1 := HR.out.at_.plt; have h2 := HR.out.lo; intro e; have h3 := HR.out.rg; have := hm1; obtain ⟨es, ck, si, se, c00, _, _, _, _, hr5, _⟩ := h3; have := HR.out.at_.1; rw [e] at this; rw [hr5] at this; cases this) (by have := HR.out.lo; omega)
      have hset := set_any p' b' M C _ (hnew.old hba) (by have h1 := HR.out.c.length_eq; have h2 : (outI I left).length ≤ I.length := List.length_filter_le _ _; have h3 := HPI.out.2.1; have := HLL.out; omega) yk hxl yr (.string ⟨yv.toArray⟩) rfl
      have HSET := Lib.hid hset
      have HM1 := Lib.hid hm1
      have HLK := Lib.hid hlk
      have HZ := Lib.hid hz
      have HRG := Lib.hid hrg1
      have HLT := Lib.hid hlt
      have HRO := Lib.hid hrg
      have HBA := Lib.hid hba
      clear hkey hlk hv2 hat hrg1 hlt hg1 hs1 ex hrg hy hz hxl hm1 hba hnew hset
      go_wp2_with fail
      refine HSET.out.mono ?_
      rintro r w4 ⟨rfl, hP4, hm4⟩
      have HP4 := Lib.hid hP4
      have HM4 := Lib.hid hm4
      clear hP4 hm4
      go_wp2_with fail
      have KB : w4.heap[b]? = w2.heap[b]? ∧ w4.heap[ri]? = w2.heap[ri]? := by
        have h1 := HR.out.lo
        have h2 := HPI.out.1.blt
        have h3 := HRG.out.lt
        have h4 := HRG.out.owns.lt
        have h5 := HBA.out.size
        exact ⟨(HM4.out.block b (by omega) (by omega)).trans (HBA.out.block b h4), (HM4.out.block ri (by omega) (by omega)).trans (HBA.out.block ri h3)⟩
      go_roundw
      case rel =>
        refine Lib.hid ⟨_, cnt1, _, ranges_same HRG.out KB.1 KB.2, HP4.out, ?_, ?_, HR.out.lo⟩
        · have e1 : (C.filter fun x => x.1 != yk) = C := List.filter_eq_self.2 (fun x hx => by simpa using outI_not HLK.out x (HR.out.c.mem_iff.1 hx))
          rw [e1]
          exact (HR.out.c.cons _).trans (outI_step (apart_it HPI.out.1.2.ap) HZ.out HLK.out).symm
        · have h1 := HR.out.m.trans (HM1.out.to_below HR.out.m.size (by rintro k hk rfl; have := HR.out.lo; omega))
          have h2 := h1.trans (HBA.out.mono h1.size)
          exact h2.trans (HM4.out.to_below h2.size (by rintro k hk rfl; have := HR.out.lo; omega))
      case measure =>
        rw [(ranges_same HRG.out KB.1 KB.2).left_eq, HRO.out.left_eq]
        exact HLT.out
end Go.Proofs.Ytdiiechkhlbkcaa

namespace Go.Proofs.Ytdiiechkhlbkcaa.PI
open Go.RowKit Go.Proofs.Ytdiiechkhlbkcaa

theorem zeroW (w : World) : (zeroValue 75).run Try.prog w = .ok (.agg #[.int .i64 0, (.int .i64 0)]) w := by kernel_rfl

theorem len_any (p b : Nat) (M : Int) (L : List It) (w : World) (h : PoolAt 72 w p b M L) :
    Calls Try.prog 25 #[.pointer (some ⟨p, 0, none⟩)] w fun r w' => r = .returned (.int .i64 (L.length : Nat)) ∧ w' = w := by
  have c1 := h.c1
  have hl := fun ty => h.2.len Try.underlying70 ty
  rw [List.length_map] at hl
  go_enter Try.func25, Try.ntmps25
  go_wp2_with fail
  go_ret
  exact ⟨rfl, rfl⟩
set_option maxRecDepth 20000 in
theorem rank_any (p b : Nat) (M : Int) (L : List It) (w : World) (h : PoolAt 72 w p b M L) (k : List UInt8) (hk : k.length ≤ maxLen) :
    Calls Try.prog 43 #[.pointer (some ⟨p, 0, none⟩), .string ⟨k.toArray⟩] w fun r w' => r = .returned (.int .i64 (rkL k L)) ∧ w' = w := by
  have c1 := h.c1
  have hl := h.2.look Try.underlying9 Try.underlying70 (zeroW w) k hk
  rw [get_ent] at hl
  generalize thL k L (.int .i64 0) = V at hl
  generalize rkL k L = R at hl ⊢
  clear hk h
  have hf : (Instr.field 75 (.agg #[.int .i64 R, V]) 0).run Try.prog w = .ok (.int .i64 R) w := by kernel_rfl
  go_enter Try.func43, Try.ntmps43
  go_wp2_with fail
  go_ret
  exact ⟨rfl, rfl⟩
set_option maxRecDepth 20000 in
theorem get_any (p b : Nat) (M : Int) (L : List It) (w : World) (h : PoolAt 72 w p b M L) (k : List UInt8) (hk : k.length ≤ maxLen) (h1 : (thL k L (.int .i64 0)).oneCell' = true) :
    Calls Try.prog 24 #[.pointer (some ⟨p, 0, none⟩), .string ⟨k.toArray⟩] w fun r w' => r = .returned (.tuple #[thL k L (.int .i64 0), .bool (L.any fun x => x.1 == k)]) ∧ Below w.heap.size w w' := by
  have c1 := h.c1
  have hl := h.2.look_ok Try.underlying9 Try.underlying70 (zeroW w) k hk
  rw [get_ent, has_ent] at hl
  generalize thL k L (.int .i64 0) = V at hl h1 ⊢
  generalize rkL k L = R at hl
  generalize (L.any fun x => x.1 == k) = B at hl ⊢
  clear hk h
  go_enter Try.func24, Try.ntmps24
  have hr1 : (w.alloc (.cells #[.int .i64 0, (.int .i64 0)] 75)).heap[w.heap.size]? = some (.cells #[.int .i64 0, (.int .i64 0)] 75 (0, 0)) := heap_alloc_new _ _
  have hg := setRow_heap (w.alloc (.cells #[.int .i64 0, (.int .i64 0)] 75)) w.heap.size _ #[.int .i64 R, V] 75 (0, 0) hr1
  have hB : Below w.heap.size w ((w.alloc (.cells #[.int .i64 0, (.int .i64 0)] 75)).setRow w.heap.size #[.int .i64 R, V]) := ((((Mod.refl (fun _ => False) w).alloc (.cells #[.int .i64 0, (.int .i64 0)] 75)).setRow _).to_below (Nat.le_refl _) (by rintro k hk (h | h) <;> omega))
  have hi : (Try.prog.info? 75).map (·.size) = some 2 := by kernel_rfl
  have hV : ∀ v ∈ (#[.int .i64 R, V] : Array Value).toList, v.oneCell' = true := by intro v hv; simp at hv; rcases hv with rfl | rfl; exact rfl; exact h1
  go_upto_region 2 with (refine wpList_store_row rfl rfl 75 (.tmp 6) (.tmp 15) rfl w.heap.size rfl 75 _ #[.int .i64 R, V] rfl hr1 rfl hi hV ?_)
  generalize (w.alloc (.cells #[.int .i64 0, (.int .i64 0)] 75)).setRow w.heap.size #[.int .i64 R, V] = W at hg hB ⊢
  have c2 : W.cell? ⟨w.heap.size, 1, none⟩ = some V := by unfold World.cell?; rw [hg]; rfl
  clear hr1
  generalize w.heap.size = n0 at c2 hg ⊢
  clear hi hV
  go_wp2_with fail
  go_ret2
  exact ⟨rfl, hB⟩
end Go.Proofs.Ytdiiechkhlbkcaa.PI

namespace Go.Proofs.Ytdiiechkhlbkcaa.PI
open Go.RowKit Go.Proofs.Ytdiiechkhlbkcaa

theorem exec_load_row {P : Program} {o : Oper} {a : Act} {w : World} (ty : TypeId) (x : Operand) (ho : o.op = .load ty x) (g : Nat) (hx : a.eval x = .pointer (some ⟨g, 0, none⟩)) (t : TypeId) (cs : Array Value) (fr : Nat × Nat) (d : TypeDesc) (hg : w.heap[g]? = some (.cells cs t fr))
    (hu : P.underlying ty = some d) (hd : (match d with | .struct _ | .array _ _ => true | _ => false) = true) (hi : (P.info? ty).map (·.size) = some cs.size) : (execOp a.eval o).run P w = .ok (.value (.agg cs)) w := by
  unfold execOp
  simp only [ho, hx, Instr.loadAt, Instr.sureAddr, Sem.run_bind, Sem.run_pure, Result.andThen_ok, run_loadVar_row w g t ty cs fr d hg hu hd hi]

theorem sclone_any (k : List UInt8) (w : World) (hk : k.length ≤ 1000000) :
    Calls Try.prog 28 #[.string ⟨k.toArray⟩] w fun r w' => r = .returned (.string ⟨k.toArray⟩) ∧ Below w.heap.size w w' := by
  have h := fun w => Try.stringslite_Clone ⟨k.toArray⟩ w (by simp [ByteArray.size]; omega)
  have H := Lib.hid h
  clear h
  go_enter Try.func28, Try.ntmps28
  go_wp2_with fail
  refine (H.out _).mono ?_
  rintro r w1 ⟨rfl, hb⟩
  have HB := Lib.hid hb
  clear hb
  go_wp2_with fail
  go_ret
  exact ⟨rfl, HB.out⟩
theorem new_any (m : Int) (w : World) (hm : 0 ≤ m) (hm2 : m ≤ 64) :
    Calls Try.prog 22 #[.int .i64 m] w fun r w' => ∃ p b, r = .returned (.pointer (some ⟨p, 0, none⟩)) ∧ PoolAt 72 w' p b m [] ∧ Below w.heap.size w w' ∧ w.heap.size ≤ p ∧ w.heap.size ≤ b := by
  have e1 : max m 0 = m := by omega
  have e2 : min m 64 = m := by omega
  have hP : PoolAt 72 ((w.alloc (.map #[] 0)).alloc (.cells #[.int .i64 m, .map (some w.heap.size)] 72)) (w.heap.size + 1) w.heap.size m [] := by
    refine ⟨?_, ?_⟩
    · have := heap_alloc_new (w.alloc (.map #[] 0)) (.cells #[.int .i64 m, .map (some w.heap.size)] 72)
      simpa using this
    · exact (MapAt.made _ _ w).same (Below.heap_alloc _ _ _ (by simp))
  have HP := Lib.hid hP
  clear hP
  have hmk : (Instr.makeMap 70 none).run Try.prog w = .ok (.map (some w.heap.size)) (w.alloc (.map #[] 0)) := run_makeMap _ _
  go_enter Try.func22, Try.ntmps22
  go_wp2_with fail
  go_ret
  exact ⟨_, _, rfl, HP.out, ((Below.refl _ w).alloc (Nat.le_refl _) _).alloc (by simp) _, by omega, Nat.le_refl _⟩

set_option maxRecDepth 20000 in
set_option maxHeartbeats 1000000 in
theorem set_any (p b : Nat) (M : Int) (L : List It) (w : World) (h : PoolAt 72 w p b M L) (hn : L.length ≤ 1000000) (k : List UInt8) (hk : k.length ≤ 1000000) (r : Int) (th : Value) (h1 : th.oneCell' = true) :
    Calls Try.prog 34 #[.pointer (some ⟨p, 0, none⟩), .string ⟨k.toArray⟩, .agg #[.int .i64 r, th]] w fun e w' => e = .returned (.tuple #[]) ∧ PoolAt 72 w' p b M ((k, r, th) :: (L.filter fun x => x.1 != k)) ∧ Mod (fun i => i = b) w w' := by
  have HC := Lib.hid (fun w => sclone_any k w hk)
  have hkm : k.length ≤ maxLen := by simp [maxLen]; omega
  have hnm : L.length < maxLen := by simp [maxLen]; omega
  have HS : Hid (∀ w', PoolAt 72 w' p b M L → ∃ w2, (Instr.mapUpdate 70 (.map (some b)) (.string ⟨k.toArray⟩) (.agg #[.int .i64 r, th])).run Try.prog w' = .ok () w2 ∧ PoolAt 72 w2 p b M ((k, r, th) :: (L.filter fun x => x.1 != k)) ∧ Mod (fun i => i = b) w' w2) := Lib.hid (by
    intro w' h
    obtain ⟨w2, hr, hM, hmd⟩ := h.2.store Try.underlying9 Try.underlying70 (by rw [List.length_map]; exact hnm) k hkm (.agg #[.int .i64 r, th])
    rw [without_ent] at hM
    exact ⟨w2, hr, ⟨(hmd.block p h.plt h.ne).trans h.1, hM⟩, hmd⟩)
  have hg := heap_alloc_new w (.cells #[.int .i64 r, th] 75)
  have hM0 : Mod (fun _ => False) w (w.alloc (.cells #[.int .i64 r, th] 75)) := (Mod.refl _ w).alloc _
  have HP := Lib.hid (h.kept hM0 (fun h => h) (fun h => h))
  have HM := Lib.hid hM0
  have HI : Hid ((Try.prog.info? 75).map (·.size) = some 2) := Lib.hid (by kernel_rfl)
  clear h hM0 hkm hnm hn hk
  go_enter Try.func34, Try.ntmps34
  go_wp2_with fail
  generalize w.alloc (.cells #[.int .i64 r, th] 75) = W0 at hg HP HM ⊢
  generalize w.heap.size = g at hg ⊢
  have HG := Lib.hid hg
  clear hg
  have HG0 : Hid ((fun (j : Nat) (_ : Value) (w' : World) => (j ≤ 1 → Below W0.heap.size W0 w') ∧ (j = 2 → PoolAt 72 w' p b M ((k, r, th) :: (L.filter fun x => x.1 != k)) ∧ Mod (fun i => i = b) W0 w')) 0 undef W0.drew) := Lib.hid ⟨(fun _ => (Below.refl _ _).drew), (fun h => absurd h (by omega))⟩
  refine wp_region_chain (fun t v => match t with
    | 6 => v = .pointer (some ⟨p, 0, none⟩)
    | 7 => v = .pointer (some ⟨p, 0, none⟩)
    | 8 => v = .pointer (some ⟨p, 1, none⟩)
    | 9 => v = .map (some b)
    | 10 => v = .string ⟨k.toArray⟩
    | 11 => v = .string ⟨k.toArray⟩
    | 12 => v = .agg #[.int .i64 r, th]
    | _ => True) (fun (j : Nat) (_ : Value) (w' : World) => (j ≤ 1 → Below W0.heap.size W0 w') ∧ (j = 2 → PoolAt 72 w' p b M ((k, r, th) :: (L.filter fun x => x.1 != k)) ∧ Mod (fun i => i = b) W0 w')) [5, 7] 13 (by kernel_rfl) (by decide +kernel) rfl (by decide +kernel) (by decide) (by decide) HG0.out (by
    refine OweAllC.cons (owesC_val 1 (by decide +kernel) (by decide) rfl rfl fun k' a w1 x hk ha hG hV => ?_) ?_
    · skip
      have h0 := ha.outer 0 (by decide +kernel)
      simp only [Act.eval] at h0
      exact ⟨.pointer (some ⟨p, 0, none⟩), wanted_free rfl, by simp [execOp, go_sem, h0], rfl⟩
    refine OweAllC.cons (owesC_val 1 (by decide +kernel) (by decide) rfl rfl fun k' a w1 x hk ha hG hV => ?_) ?_
    · skip
      have h6 : a.tmps.getD 6 undef = .pointer (some ⟨p, 0, none⟩) := hV.get 6 (by decide +kernel)
      exact ⟨.pointer (some ⟨p, 0, none⟩), wanted_free rfl, by simp [execOp, go_sem, h6], rfl⟩
    refine OweAllC.cons (owesC_val 1 (by decide +kernel) (by decide) rfl rfl fun k' a w1 x hk ha hG hV => ?_) ?_
    · skip
      have h7 : a.tmps.getD 7 undef = .pointer (some ⟨p, 0, none⟩) := hV.get 7 (by decide +kernel)
      exact ⟨.pointer (some ⟨p, 1, none⟩), wanted_free rfl, by simp [execOp, go_sem, h7], rfl⟩
    refine OweAllC.cons (owesC_val 1 (by decide +kernel) (by decide) rfl rfl fun k' a w1 x hk ha hG hV => ?_) ?_
    · skip
      have h8 : a.tmps.getD 8 undef = .pointer (some ⟨p, 1, none⟩) := hV.get 8 (by decide +kernel)
      have hb := hG.1 (by omega)
      have cc : w1.cell? ⟨p, 1, none⟩ = some (.map (some b)) := (HP.out.old hb).c1
      exact ⟨.map (some b), wanted_free rfl, by simp [execOp, go_sem, h8, cc], rfl⟩
    refine OweAllC.cons (owesC_val 0 (by decide +kernel) (by decide) rfl rfl fun k' a w1 x hk ha hG hV => ?_) ?_
    · skip
      have h1 := ha.outer 1 (by decide +kernel)
      simp only [Act.eval] at h1
      exact ⟨.string ⟨k.toArray⟩, wanted_free rfl, by simp [execOp, go_sem, h1], rfl⟩
    refine OweAllC.cons (owesC_call 0 rfl rfl rfl 28 fun a w1 x ha hG hx hV => ?_) ?_
    · skip
      have h10 : a.tmps.getD 10 undef = .string ⟨k.toArray⟩ := hV.get 10 (by decide +kernel)
      refine ⟨#[.string ⟨k.toArray⟩], wanted_free rfl, by simp [execOp, resolve, invoke, go_sem, h10], ?_⟩
      have hb := hG.1 (by omega)
      refine (HC.out w1).mono ?_
      rintro r' u2 ⟨rfl, hb2⟩
      exact ⟨_, rfl, rfl, (fun _ => hb.trans (hb2.mono hb.size)), (fun h => absurd h (by omega))⟩
    refine OweAllC.cons (owesC_val 1 (by decide +kernel) (by decide) rfl rfl fun k' a w1 x hk ha hG hV => ?_) ?_
    · skip
      have h5 := ha.outer 5 (by decide +kernel)
      simp only [Act.eval] at h5
      have hb := hG.1 (by omega)
      have hh : w1.heap[g]? = some (.cells #[.int .i64 r, th] 75 (0, 0)) := (hb.block g (Array.getElem?_eq_some_iff.1 HG.out).1).trans HG.out
      exact ⟨.agg #[.int .i64 r, th], wanted_free rfl, exec_load_row 75 (.tmp 5) rfl g h5 75 #[.int .i64 r, th] (0, 0) _ hh Try.underlying75 rfl HI.out, rfl⟩
    refine OweAllC.cons (owesC_store 1 rfl rfl rfl fun a w1 x ha hG hx hV => ?_) ?_
    · skip
      have h9 : a.tmps.getD 9 undef = .map (some b) := hV.get 9 (by decide +kernel)
      have h11 : a.tmps.getD 11 undef = .string ⟨k.toArray⟩ := hV.get 11 (by decide +kernel)
      have h12 : a.tmps.getD 12 undef = .agg #[.int .i64 r, th] := hV.get 12 (by decide +kernel)
      have hb := hG.1 (by omega)
      have hP1 := HP.out.old hb
      obtain ⟨w2, hr, hm, hmd⟩ := HS.out w1 hP1
      refine ⟨w2, wanted_free rfl, by simp [execOp, go_sem, h9, h11, h12, hr], (fun h => absurd h (by omega)), fun _ => ⟨hm, ?_⟩⟩
      exact (((Mod.of_below hb).mono (fun i hi h => by omega)).trans hmd (fun _ _ h => h))
    exact OweAllC.nil
    ) ?_
  intro f wz xz hG hx hv
  clear hv hx
  have hG2 := hG.2 rfl
  have HE := Lib.hid hG2
  clear hG hG2
  go_end0
  exact ⟨rfl, HE.out.1, (HM.out.mono (fun _ _ h => h.elim)).trans HE.out.2 (fun _ _ h => h)⟩

set_option maxRecDepth 20000 in
set_option maxHeartbeats 1000000 in
theorem drop_any (p b : Nat) (M : Int) (L : List It) (w : World) (h : PoolAt 72 w p b M L) (k : List UInt8) (hk : k.length ≤ 1000000) (h1 : (thL k L (.int .i64 0)).oneCell' = true) :
    Calls Try.prog 36 #[.pointer (some ⟨p, 0, none⟩), .string ⟨k.toArray⟩] w fun e w' => e = .returned (.bool (L.any fun x => x.1 == k)) ∧ PoolAt 72 w' p b M (L.filter fun x => x.1 != k) ∧ Mod (fun i => i = b) w w' := by
  have hkm : k.length ≤ maxLen := by simp [maxLen]; omega
  have c1 := h.c1
  have hl := h.2.look_ok Try.underlying9 Try.underlying70 (zeroW w) k hkm
  rw [get_ent, has_ent] at hl
  have HS : Hid (∀ w', PoolAt 72 w' p b M L → ∃ w2, (∀ ty, (Builtin.delete_ #[70, 9] ty #[.map (some b), .string ⟨k.toArray⟩]).run Try.prog w' = .ok (.tuple #[]) w2) ∧ PoolAt 72 w2 p b M (L.filter fun x => x.1 != k) ∧ Mod (fun i => i = b) w' w2) := Lib.hid (by
    intro w' h
    obtain ⟨w2, hr, hM, hmd⟩ := h.2.drop Try.underlying9 Try.underlying70 k hkm 0
    rw [without_ent] at hM
    exact ⟨w2, fun _ => hr, ⟨(hmd.block p h.plt h.ne).trans h.1, hM⟩, hmd⟩)
  have HPf := Lib.hid (fun (w' : World) hm => h.kept (S := fun _ => False) (w' := w') hm (fun h => h) (fun h => h))
  generalize (L.filter fun x => x.1 != k) = LF at HS ⊢
  generalize thL k L (.int .i64 0) = V at hl h1
  generalize rkL k L = R at hl
  generalize (L.any fun x => x.1 == k) = B at hl ⊢
  clear hk hkm h
  have hr1 : (w.alloc (.cells #[.int .i64 0, (.int .i64 0)] 75)).heap[w.heap.size]? = some (.cells #[.int .i64 0, (.int .i64 0)] 75 (0, 0)) := heap_alloc_new _ _
  have hg := setRow_heap (w.alloc (.cells #[.int .i64 0, (.int .i64 0)] 75)) w.heap.size _ #[.int .i64 R, V] 75 (0, 0) hr1
  have hB : Mod (fun _ => False) w ((w.alloc (.cells #[.int .i64 0, (.int .i64 0)] 75)).setRow w.heap.size #[.int .i64 R, V]) := ((((Mod.refl (fun _ => False) w).alloc (.cells #[.int .i64 0, (.int .i64 0)] 75)).setRow _)).mono (by rintro i hi (h | h); exact h; omega)
  have hi : (Try.prog.info? 75).map (·.size) = some 2 := by kernel_rfl
  have hV : ∀ v ∈ (#[.int .i64 R, V] : Array Value).toList, v.oneCell' = true := by intro v hv; simp at hv; rcases hv with rfl | rfl; exact rfl; exact h1
  go_enter Try.func36, Try.ntmps36
  go_upto_region 2 with (refine wpList_store_row rfl rfl 75 (.tmp 5) (.tmp 14) rfl w.heap.size rfl 75 _ #[.int .i64 R, V] rfl hr1 rfl hi hV ?_)
  have hP := HPf.out _ hB
  have HB := Lib.hid hB
  clear hB
  generalize (w.alloc (.cells #[.int .i64 0, (.int .i64 0)] 75)).setRow w.heap.size #[.int .i64 R, V] = W at hP HB ⊢
  obtain ⟨w2, hdel, hP2, hmd⟩ := HS.out W hP
  have c3 := hP.c1
  have HE := Lib.hid hP2
  have HD := Lib.hid hmd
  clear hr1 hg hi hV hP hP2 hmd
  go_wp2_with fail
  go_ret
  exact ⟨rfl, HE.out, (HB.out.mono (fun _ _ h => h.elim)).trans HD.out (fun _ _ h => h)⟩
end Go.Proofs.Ytdiiechkhlbkcaa.PI

namespace Go.Proofs.Ytdiiechkhlbkcaa.PI
open Go.RowKit Go.Sort Go.Proofs.Ytdiiechkhlbkcaa

set_option maxRecDepth 20000 in
set_option maxHeartbeats 1000000 in
theorem cmp_any (p b gb : Nat) (M : Int) (L : List It) (W : World) (h : PoolAt 72 W p b M L) (hbx : W.heap[gb]? = some (.cells #[.pointer (some ⟨p, 0, none⟩)] 53 (0, 0))) (s u : List UInt8) (hs : s.length ≤ 1000000) (hu : u.length ≤ 1000000) :
    Calls Try.prog 42 #[.string ⟨s.toArray⟩, .string ⟨u.toArray⟩, .pointer (some ⟨gb, 0, none⟩)] W fun e w' => e = .returned (.int .i64 (cfR (fun k => rkL k L) s u)) ∧ ∃ q os', w' = grow (W.drewN q) os' := by
  have HP := Lib.hid h
  have HB := Lib.hid hbx
  have HS : Hid (s.length ≤ maxLen) := Lib.hid (by simp [maxLen]; omega)
  have HU : Hid (u.length ≤ maxLen) := Lib.hid (by simp [maxLen]; omega)
  have HW : Hid (∀ w', (∃ q os, w' = grow (W.drewN q) os) → Below W.heap.size W w') := Lib.hid (by
    rintro w' ⟨q, os, rfl⟩
    refine ⟨rfl, rfl, rfl, by simp [grow, World.drewN], fun k hk => ?_⟩
    show (W.heap ++ os)[k]? = _
    rw [Array.getElem?_append_left hk])
  unfold cfR
  obtain ⟨c1, hc1⟩ : ∃ c, c = Lib.compareInt (rkL s L) (rkL u L) := ⟨_, rfl⟩
  obtain ⟨c2, hc2⟩ : ∃ c, c = Lib.compareBytes s u := ⟨_, rfl⟩
  simp only
  rw [← hc1, ← hc2]
  have HC1 := Lib.hid hc1
  have HC2 := Lib.hid hc2
  clear h hbx hs hu hc1 hc2
  go_enter Try.func42, Try.ntmps42
  go_wp2_with fail
  have HG0 : Hid ((fun (j : Nat) (z : Value) (w' : World) => (∃ q os, w' = grow (W.drewN q) os) ∧ (j = 1 → ∃ g, z = .slice (some ⟨g, 0, none⟩) 2 2 ∧ w'.heap[g]? = some (.cells #[.int .i64 c1, .int .i64 c2] 3 (0, 0)))) 0 undef W.drew) := Lib.hid ⟨⟨1, #[], by rw [grow_empty]; rfl⟩, (fun h => absurd h (by omega))⟩
  refine wp_region_chain (fun t v => match t with
    | 6 => v = .pointer (some ⟨p, 0, none⟩)
    | 7 => v = .string ⟨s.toArray⟩
    | 8 => v = .int .i64 (rkL s L)
    | 9 => v = .pointer (some ⟨p, 0, none⟩)
    | 10 => v = .string ⟨u.toArray⟩
    | 11 => v = .int .i64 (rkL u L)
    | 12 => v = .int .i64 c1
    | 13 => v = .string ⟨s.toArray⟩
    | 14 => v = .string ⟨u.toArray⟩
    | 15 => v = .int .i64 c2
    | 17 => v = .int .i64 (or2 c1 c2)
    | 5 => v = .int .i64 (or2 c1 c2)
    | _ => True) (fun (j : Nat) (z : Value) (w' : World) => (∃ q os, w' = grow (W.drewN q) os) ∧ (j = 1 → ∃ g, z = .slice (some ⟨g, 0, none⟩) 2 2 ∧ w'.heap[g]? = some (.cells #[.int .i64 c1, .int .i64 c2] 3 (0, 0)))) [10, 11] 18 (by kernel_rfl) (by decide +kernel) rfl (by decide +kernel) (by decide) (by decide) HG0.out (by
    refine OweAllC.cons (owesC_val 0 (by decide +kernel) (by decide) rfl rfl fun k' a w1 x hk ha hG hV => ?_) ?_
    · skip
      have h2 := ha.outer 2 (by decide +kernel)
      simp only [Act.eval] at h2
      have hb := HW.out w1 hG.1
      have cc : w1.cell? ⟨gb, 0, none⟩ = some (.pointer (some ⟨p, 0, none⟩)) := by unfold World.cell?; rw [(hb.block gb (Array.getElem?_eq_some_iff.1 HB.out).1).trans HB.out]; rfl
      exact ⟨.pointer (some ⟨p, 0, none⟩), wanted_free rfl, by simp [execOp, go_sem, h2, cc], rfl⟩
    refine OweAllC.cons (owesC_val 0 (by decide +kernel) (by decide) rfl rfl fun k' a w1 x hk ha hG hV => ?_) ?_
    · skip
      have h0 := ha.outer 0 (by decide +kernel)
      simp only [Act.eval] at h0
      exact ⟨.string ⟨s.toArray⟩, wanted_free rfl, by simp [execOp, go_sem, h0], rfl⟩
    refine OweAllC.cons (owesC_side 0 (by decide +kernel) (by decide) rfl rfl 43 fun k' a w1 x hk ha hG hV => ?_) ?_
    · skip
      have h6 : a.tmps.getD 6 undef = .pointer (some ⟨p, 0, none⟩) := hV.get 6 (by decide +kernel)
      have h7 : a.tmps.getD 7 undef = .string ⟨s.toArray⟩ := hV.get 7 (by decide +kernel)
      refine ⟨#[.pointer (some ⟨p, 0, none⟩), .string ⟨s.toArray⟩], wanted_free rfl, by simp [execOp, resolve, invoke, go_sem, h6, h7], ?_⟩
      refine (rank_any p b M L w1 (HP.out.old (HW.out w1 hG.1)) s HS.out).mono ?_
      rintro e u2 ⟨rfl, rfl⟩; exact ⟨_, rfl, rfl, hG⟩
    refine OweAllC.cons (owesC_val 0 (by decide +kernel) (by decide) rfl rfl fun k' a w1 x hk ha hG hV => ?_) ?_
    · skip
      have h2 := ha.outer 2 (by decide +kernel)
      simp only [Act.eval] at h2
      have hb := HW.out w1 hG.1
      have cc : w1.cell? ⟨gb, 0, none⟩ = some (.pointer (some ⟨p, 0, none⟩)) := by unfold World.cell?; rw [(hb.block gb (Array.getElem?_eq_some_iff.1 HB.out).1).trans HB.out]; rfl
      exact ⟨.pointer (some ⟨p, 0, none⟩), wanted_free rfl, by simp [execOp, go_sem, h2, cc], rfl⟩
    refine OweAllC.cons (owesC_val 0 (by decide +kernel) (by decide) rfl rfl fun k' a w1 x hk ha hG hV => ?_) ?_
    · skip
      have h1 := ha.outer 1 (by decide +kernel)
      simp only [Act.eval] at h1
      exact ⟨.string ⟨u.toArray⟩, wanted_free rfl, by simp [execOp, go_sem, h1], rfl⟩
    refine OweAllC.cons (owesC_side 0 (by decide +kernel) (by decide) rfl rfl 43 fun k' a w1 x hk ha hG hV => ?_) ?_
    · skip
      have h9 : a.tmps.getD 9 undef = .pointer (some ⟨p, 0, none⟩) := hV.get 9 (by decide +kernel)
      have h10 : a.tmps.getD 10 undef = .string ⟨u.toArray⟩ := hV.get 10 (by decide +kernel)
      refine ⟨#[.pointer (some ⟨p, 0, none⟩), .string ⟨u.toArray⟩], wanted_free rfl, by simp [execOp, resolve, invoke, go_sem, h9, h10], ?_⟩
      refine (rank_any p b M L w1 (HP.out.old (HW.out w1 hG.1)) u HU.out).mono ?_
      rintro e u2 ⟨rfl, rfl⟩; exact ⟨_, rfl, rfl, hG⟩
    refine OweAllC.cons (owesC_side 0 (by decide +kernel) (by decide) rfl rfl 32 fun k' a w1 x hk ha hG hV => ?_) ?_
    · skip
      have h8 : a.tmps.getD 8 undef = .int .i64 (rkL s L) := hV.get 8 (by decide +kernel)
      have h11 : a.tmps.getD 11 undef = .int .i64 (rkL u L) := hV.get 11 (by decide +kernel)
      refine ⟨#[.int .i64 (rkL s L), .int .i64 (rkL u L)], wanted_free rfl, by simp [execOp, resolve, invoke, go_sem, h8, h11], ?_⟩
      refine (Try.cmp_Compare_int (rkL s L) (rkL u L) w1).mono ?_
      rintro e u2 ⟨rfl, rfl⟩; exact ⟨.int .i64 c1, by rw [HC1.out], rfl, hG⟩
    refine OweAllC.cons (owesC_val 0 (by decide +kernel) (by decide) rfl rfl fun k' a w1 x hk ha hG hV => ?_) ?_
    · skip
      have h0 := ha.outer 0 (by decide +kernel)
      simp only [Act.eval] at h0
      exact ⟨.string ⟨s.toArray⟩, wanted_free rfl, by simp [execOp, go_sem, h0], rfl⟩
    refine OweAllC.cons (owesC_val 0 (by decide +kernel) (by decide) rfl rfl fun k' a w1 x hk ha hG hV => ?_) ?_
    · skip
      have h1 := ha.outer 1 (by decide +kernel)
      simp only [Act.eval] at h1
      exact ⟨.string ⟨u.toArray⟩, wanted_free rfl, by simp [execOp, go_sem, h1], rfl⟩
    refine OweAllC.cons (owesC_side 0 (by decide +kernel) (by decide) rfl rfl 33 fun k' a w1 x hk ha hG hV => ?_) ?_
    · skip
      have h13 : a.tmps.getD 13 undef = .string ⟨s.toArray⟩ := hV.get 13 (by decide +kernel)
      have h14 : a.tmps.getD 14 undef = .string ⟨u.toArray⟩ := hV.get 14 (by decide +kernel)
      refine ⟨#[.string ⟨s.toArray⟩, .string ⟨u.toArray⟩], wanted_free rfl, by simp [execOp, resolve, invoke, go_sem, h13, h14], ?_⟩
      refine (Try.strings_Compare ⟨s.toArray⟩ ⟨u.toArray⟩ w1).mono ?_
      rintro e u2 ⟨rfl, rfl⟩; exact ⟨.int .i64 c2, by rw [HC2.out], rfl, hG⟩
    refine OweAllC.cons (owesC_mem 0 rfl rfl rfl fun a w1 x ha hG hx hV => ?_) ?_
    · skip
      have h12 : a.tmps.getD 12 undef = .int .i64 c1 := hV.get 12 (by decide +kernel)
      have h15 : a.tmps.getD 15 undef = .int .i64 c2 := hV.get 15 (by decide +kernel)
      have g12 : a.tmps[12]?.getD undef = .int .i64 c1 := by simpa using h12
      have g15 : a.tmps[15]?.getD undef = .int .i64 c2 := by simpa using h15
      refine ⟨.slice (some ⟨w1.heap.size, 0, none⟩) 2 2, w1.alloc (.cells #[.int .i64 c1, .int .i64 c2] 3), wanted_free rfl, by simp [execOp, go_sem, h12, h15, g12, g15], trivial, ?_, fun _ => ⟨_, rfl, heap_alloc_new _ _⟩⟩
      obtain ⟨q, os, rfl⟩ := hG.1
      exact ⟨q, _, by rw [alloc_eq_grow, grow_grow]⟩
    refine OweAllC.cons (owesC_call 1 rfl rfl rfl 31 fun a w1 x ha hG hx hV => ?_) ?_
    · skip
      have h16 := hx 0 10 _ 16 rfl rfl rfl rfl
      simp only [Act.eval] at h16
      obtain ⟨g, rfl, hg⟩ := hG.2 rfl
      refine ⟨#[.slice (some ⟨g, 0, none⟩) 2 2], wanted_free rfl, by simp [execOp, resolve, invoke, go_sem, h16], ?_⟩
      refine (or2_any g c1 c2 w1 hg).mono ?_
      rintro e u2 ⟨rfl, rfl⟩
      exact ⟨_, rfl, rfl, hG.1, (fun h => absurd h (by omega))⟩
    refine OweAllC.cons (owesC_val 2 (by decide +kernel) (by decide) rfl rfl fun k' a w1 x hk ha hG hV => ?_) ?_
    · skip
      have h17 : a.tmps.getD 17 undef = .int .i64 (or2 c1 c2) := hV.get 17 (by decide +kernel)
      exact ⟨.int .i64 (or2 c1 c2), wanted_free rfl, by simp [execOp, go_sem, h17], rfl⟩
    exact OweAllC.nil
    ) ?_
  intro f wz xz hG hx hv
  have e5 : f 5 = .int .i64 (or2 c1 c2) := hv 12 _ 5 rfl rfl
  first | (rename_i hK; refine hK _ _ ?_; clear hK) | (rename_i hK _; refine hK _ _ ?_; clear hK) | (rename_i hK _ _; refine hK _ _ ?_; clear hK) | (rename_i hK _ _ _; refine hK _ _ ?_; clear hK)
  clear hv hx
  simp only [dsts, puts, List.filterMap_cons, List.filterMap_nil, List.foldl_cons, List.foldl_nil, Act.put, List.setIfInBounds_toArray, List.set_cons_succ, List.set_cons_zero, e5]
  clear e5
  have HE := Lib.hid hG.1
  clear hG
  go_wp2_with fail
  go_ret
  exact ⟨rfl, HE.out⟩
end Go.Proofs.Ytdiiechkhlbkcaa.PI

namespace Go.Proofs.Ytdiiechkhlbkcaa.PI
open Go.RowKit Go.Sort Go.Maps Go.Proofs.Ytdiiechkhlbkcaa

theorem psort_any (p b gb : Nat) (M : Int) (L : List It) (q : Option Addr) (c : Nat) (ks : List KS) (w : World) (h : PoolAt 72 w p b M L) (hbx : w.heap[gb]? = some (.cells #[.pointer (some ⟨p, 0, none⟩)] 53 (0, 0)))
    (hR : Rw encS 9 w q c (ks.map (·.1))) (hq : ∀ a, q = some a → a.block ≠ p ∧ a.block ≠ b ∧ a.block ≠ gb) (hn : ks.length ≤ 1000000) :
    Calls Try.prog 29 #[.slice q ks.length c, .func (.func 42) #[] #[.pointer (some ⟨gb, 0, none⟩)]] w fun r w' => r = .returned (.tuple #[]) ∧
      Rw encS 9 w' q c ((ks.mergeSort fun x y => !(ltOf (cfK fun k => rkL k L)) y x).map (·.1)) ∧ Mod (fun i => ∃ a, q = some a ∧ i = a.block) w w' := by
  by_cases h0 : ks = []
  · subst h0
    have h := AnyF.slices_SortFunc_none (P := Try.prog) (ρ := Try.sortS_ren) { Try.sortS with } q c (.func (.func 42) #[] #[.pointer (some ⟨gb, 0, none⟩)]) w
    refine Calls.mono (show Calls Try.prog 29 _ _ _ from h) ?_
    rintro r w' ⟨rfl, rfl⟩
    refine ⟨rfl, ?_, Mod.refl _ _⟩
    rw [show ([] : List KS).mergeSort _ = [] by simp]; exact hR
  · rcases hR.shape with ⟨_, e, _⟩ | ⟨g, rfl, hgl, _⟩
    · exact absurd (List.map_eq_nil_iff.1 e) h0
    · obtain ⟨n1, n2, n3⟩ := hq _ rfl
      have eg : ∀ args w, (callFunc 42 args).run Try.prog w = .ok (.enter 42 args) w := enters_of Try.func42 (by kernel_rfl) rfl
      have h := Any.slices_SortFunc_total Try.sortS encK (fun _ => rfl) (cfK fun k => rkL k L) (cfK_swo _) 42 #[.pointer (some ⟨gb, 0, none⟩)] g 0 c ks.toArray w eg
        (by
          intro m os dk hdk x y
          have hs := hR.sorted1 dk.toList (by rw [Array.length_toList, hdk, List.size_toArray]) m os
          rw [Array.toArray_toList] at hs
          have hP2 := h.kept hs.2 (fun e => n1 e.symm) (fun e => n2 e.symm)
          have hB2 := (hs.2.block gb (Array.getElem?_eq_some_iff.1 hbx).1 (fun e => n3 e.symm)).trans hbx
          exact cmp_any p b gb M L _ hP2 hB2 x.1 y.1 x.2 y.2)
        hR.holds1 hgl (by rw [List.size_toArray]; omega) (cfK_total _)
      rw [List.size_toArray] at h
      refine Calls.mono (show Calls Try.prog 29 _ _ _ from h) ?_
      rintro r w' ⟨rfl, m, os, rfl⟩
      have hs := hR.sorted1 (ks.mergeSort fun x y => !(ltOf (cfK fun k => rkL k L)) y x) (List.length_mergeSort _) m os
      exact ⟨rfl, hs.1, hs.2.mono (fun i _ e => ⟨_, rfl, e⟩)⟩
end Go.Proofs.Ytdiiechkhlbkcaa.PI

namespace Go.Proofs.Ytdiiechkhlbkcaa.PI
open Go.RowKit Go.Sort Go.Maps Go.Proofs.Ytdiiechkhlbkcaa

theorem law9 : Keyed Try.prog 9 := string_keyed Try.underlying9
theorem info_str : (Try.prog.info? 9).map (fun i => (i.zero, i.size, i.bytes)) = some (some (.string ⟨#[]⟩), 1, 16) := by kernel_rfl
theorem ranges_same {w w' : World} {b r n cnt : Nat} {D : DataW Value} {left : Lit → Bool} (h : w.ranges Try.prog 9 RV b r n D left cnt) (hb : w'.heap[b]? = w.heap[b]?) (hr : w'.heap[r]? = w.heap[r]?) : w'.ranges Try.prog 9 RV b r n D left cnt := by
  obtain ⟨es, clock, since, seen, c0, h1, h2, h3, h4, h5, h6⟩ := h
  exact ⟨es, clock, since, seen, c0, hb.trans h1, h2, h3, h4, hr.trans h5, h6⟩
/-- A loop over the pool's map, and what was gathered. -/
structure KeysR (w wr : World) (p b gb ri : Nat) (M : Int) (L : List It) (left : Lit → Bool) (cnt : Nat) (ks : List KS) (q : Option Addr) (c : Nat) : Prop where
  rg : wr.ranges Try.prog 9 RV b ri L.length (dOf (L.map entW)) left cnt
  co : Collected (dOf (L.map entW)) left (ks.map (·.1))
  le : ks.length + cnt ≤ L.length
  rw : Rw encS 9 wr q c (ks.map (·.1))
  new : ∀ a, q = some a → ri < a.block
  m : Below w.heap.size w wr
  bx : wr.heap[gb]? = some (.cells #[.pointer (some ⟨p, 0, none⟩)] 53 (0, 0))
  lo : w.heap.size ≤ gb ∧ gb < ri
set_option maxRecDepth 20000 in
set_option maxHeartbeats 2000000 in
theorem keys_any (p b : Nat) (M : Int) (L : List It) (w : World) (h : PoolAt 72 w p b M L) (hn : L.length ≤ 100000) (hk : ∀ x ∈ L, x.1.length ≤ 1000000) (hs : Srt L) :
    Calls Try.prog 35 #[.pointer (some ⟨p, 0, none⟩)] w fun r w' => ∃ q c, r = .returned (.slice q L.length c) ∧ Rw encS 9 w' q c (L.map (·.1)) ∧ (∀ a, q = some a → w.heap.size ≤ a.block) ∧ Below w.heap.size w w' := by
  have HC := Lib.hid sclone_any
  have HK : Hid (∀ (x : List UInt8) (y : DataW Value), (∀ zd, (dOf (L.map entW)).atKey (.string x) zd = y) → x.length ≤ 1000000) := Lib.hid (by
    intro x y hat
    have hh := Maps.has_true_of_atKey hat
    rw [has_dOf, has_ent, List.any_eq_true] at hh
    obtain ⟨z, hz, e⟩ := hh
    have e : z.1 = x := by simpa using e
    rw [← e]; exact hk z hz)
  have HE : Hid (∀ wr ri left cnt ks q c, KeysR w wr p b w.heap.size ri M L left cnt ks q c → (∀ kl, left kl = false) → ks.length = L.length ∧ (ks.mergeSort fun x y => !(ltOf (cfK fun k => rkL k L)) y x).map (·.1) = L.map (·.1)) := Lib.hid (by
    intro wr ri left cnt ks q c hR hl
    have hp := hR.co.perm hR.rg.owns law9 Try.underlying9 hl
    have hp2 : (ks.map (·.1)).Perm (L.map (·.1)) := by
      have := hp.trans (strKeys_dOf _)
      rw [List.map_map] at this
      exact this
    obtain ⟨kL, hkL⟩ := ks_of (L.map (·.1)) (by intro x hx; obtain ⟨y, hy, rfl⟩ := List.mem_map.1 hx; exact hk y hy)
    have hlen := hp2.length_eq
    rw [List.length_map, List.length_map] at hlen
    refine ⟨hlen, ?_⟩
    rw [ksort_eq _ ks kL (ks_perm (by rw [hkL]; exact hp2) hR.co.1) (srt_keys (apart_it h.2.ap) hs kL hkL), hkL])
  have c1 := h.c1
  have hown := h.2.own
  rw [List.length_map] at hown
  have hblt := h.blt
  have hplt := h.plt
  have HP := Lib.hid h
  have HN := Lib.hid hn
  have HL := Lib.hid (And.intro hblt hplt)
  have e1 : (w.alloc (.cells #[.pointer (some ⟨p, 0, none⟩)] 53)).heap.size = w.heap.size + 1 := by simp
  have HB0 := Lib.hid (heap_alloc_new w (.cells #[.pointer (some ⟨p, 0, none⟩)] 53))
  have hbw : Below w.heap.size w (w.alloc (.cells #[.pointer (some ⟨p, 0, none⟩)] 53)) := (Below.refl _ _).alloc (Nat.le_refl _) _
  have HW := Lib.hid hbw
  clear hs hk h hn hblt hbw
  go_enter Try.func35, Try.ntmps35
  go_wp2_with (first
    | (at_range; refine wpList_range_own _ rfl _ 70 rfl 9 75 law9 Try.underlying70 _ b L.length _ rfl (hown.alloc _) ?_; intro w0 hrg0 hg0 hs0)
    | go_in)
  go_frame
  rw [e1] at hrg0 hs0 ⊢
  have HK0 : Hid (KeysR w w0 p b w.heap.size (w.heap.size + 1) M L (Maps.has (dOf (L.map entW))) (Maps.size (dOf (L.map entW))) [] none 0) := Lib.hid
    ⟨hrg0, Collected.start _, by rw [size_dOf]; simp, Rw.empty _ _, (fun a e => by cases e), HW.out.grown hg0 (by simp) (fun j hj => by cases hj), (hg0.block _ (by simp) (by simp)).trans HB0.out, by omega⟩
  clear hrg0 hg0 hs0 hown c1 e1
  generalize w.heap.size + 1 = ri at HK0 ⊢
  generalize hgb : w.heap.size = gb at HK0 HE HB0 ⊢
  have HG := Lib.hid hgb
  clear hgb
  go_loopw [3, 4] (fun s3 _ wr => ∃ (n : Nat) (q : Option Addr) (c : Nat), s3 = .slice q n c ∧ Hid (∃ left cnt ks, n = ks.length ∧ KeysR w wr p b gb ri M L left cnt ks q c)) (fun _ _ wr => wr.rangeLeft b ri)
  case atStart => exact ⟨0, none, 0, rfl, Lib.hid ⟨_, _, [], rfl, HK0.out⟩⟩
  case round =>
    obtain ⟨n, q, c, rfl, hR⟩ := hrel
    obtain ⟨left, cnt, ks, hn, hR⟩ := hR.out
    have hrg := hR.rg
    have HR := Lib.hid hR
    have HNN := Lib.hid hn
    clear hR hn HK0
    go_wp2_with (first
      | (at_next; refine wpList_next_ranges _ rfl _ rfl 9 law9 RV encStr (fun v : Value => v) (fun key kl hk => by obtain ⟨x, hx, _⟩ := Maps.keyOf_str Try.underlying9 hk; exact ⟨x, hx⟩) (fun v y hv => ⟨v, rfl⟩) b ri L.length _ _ _ rfl hrg ?_ ?_)
      | go_in)
    · intro hc0 hl0
      have hfin := HE.out wr ri left cnt ks q c HR.out hl0
      have hP := HP.out.old HR.out.m
      have hsort := psort_any p b gb M L q c ks wr hP HR.out.bx HR.out.rw
        (fun a e => by have h1 := HR.out.new a e; have h2 := HR.out.lo; have h3 := HL.out; omega)
        (by have := hfin.1; have := HN.out; omega)
      rw [← HNN.out] at hsort
      have HS := Lib.hid hsort
      have HF := Lib.hid hfin
      clear hsort hfin hP hrg hl0 hc0
      go_wp2_with fail
      refine HS.out.mono ?_
      rintro r w2 ⟨rfl, hr2, hm2⟩
      have HR2 := Lib.hid hr2
      have hb2 : Below w.heap.size w w2 := HR.out.m.trans (hm2.to_below HR.out.m.size (by rintro k hk ⟨a, e, rfl⟩; have := HR.out.new a e; have := HR.out.lo; omega))
      have HB2 := Lib.hid hb2
      clear hr2 hm2 hb2
      go_wp2_with fail
      go_ret
      refine ⟨q, c, by rw [HNN.out, HF.out.1]; rfl, by rw [← HF.out.2]; exact HR2.out, (fun a e => by have := HR.out.new a e; have := HR.out.lo; omega), HB2.out⟩
    · intro x v kl yd yp w1 cnt1 hkey hlk hv hv2 hat hrg1 hlt hg1 hs1 hen
      obtain ⟨x', ex, rfl, _⟩ := Maps.keyOf_str Try.underlying9 hkey
      obtain rfl : x = x' := encStr_inj ex
      have hxl := HK.out x _ hat
      have hcl := HC.out x w1 hxl
      have hno : ∀ j, some ri = some j → w.heap.size ≤ j := by intro j e; cases e; have := HR.out.lo; omega
      have hR1 : Hid (Rw encS 9 w1 q c (ks.map (·.1)) ∧ Below w.heap.size w w1 ∧ w1.heap[gb]? = some (.cells #[.pointer (some ⟨p, 0, none⟩)] 53 (0, 0))) := Lib.hid (by
        have hm1 : Mod (fun i => i = ri) wr w1 := ⟨hg1.os, hg1.tape, hg1.output, hg1.size, fun k hk hn => hg1.block k hk (fun e => hn (Option.some.inj e))⟩
        refine ⟨HR.out.rw.kept hm1 (fun a e => by have := HR.out.new a e; omega), HR.out.m.grown hg1 HR.out.m.size hno, ?_⟩
        exact (hm1.block gb (Array.getElem?_eq_some_iff.1 HR.out.bx).1 (by have := HR.out.lo; omega)).trans HR.out.bx)
      have HC1 := Lib.hid (HR.out.co.step hlk hat)
      have hrl := hrg1.lt
      have hbl := hrg1.owns.lt
      have hgl := (Array.getElem?_eq_some_iff.1 hR1.out.2.2).1
      have KL := Lib.hid hrl
      have KB : Hid (∀ (w3 w4 : World), Mod (fun i => ∃ a, q = some a ∧ i = a.block) w3 w4 → Below w1.heap.size w1 w3 → w4.heap[b]? = w1.heap[b]? ∧ w4.heap[ri]? = w1.heap[ri]? ∧ w4.heap[gb]? = w1.heap[gb]?) := Lib.hid (by
        intro w3 w4 hm hb
        have hlo := HR.out.lo
        have hLL := HL.out
        have hqn := HR.out.new
        have hsz := hb.size
        refine ⟨(hm.block b (by omega) ?_).trans (hb.block b hbl), (hm.block ri (by omega) ?_).trans (hb.block ri hrl), (hm.block gb (by omega) ?_).trans (hb.block gb hgl)⟩ <;>
        · rintro ⟨a, e, h⟩; have := hqn a e; omega)
      clear hrl hbl hgl
      have HRG := Lib.hid hrg1
      have HLT := Lib.hid hlt
      have HX := Lib.hid hxl
      have HEN := Lib.hid hrg
      clear hxl hkey hlk hv hv2 hat hrg1 hlt hg1 hs1 hno ex hrg
      go_wp2_with fail
      refine hcl.mono ?_
      rintro r w2 ⟨rfl, hb2⟩
      have hS2 : Hid (Rw encS 9 (w2.alloc (.cells #[.string ⟨x.toArray⟩] 9)) q c (ks.map (·.1)) ∧ Below w.heap.size w (w2.alloc (.cells #[.string ⟨x.toArray⟩] 9)) ∧ Rd encS (w2.alloc (.cells #[.string ⟨x.toArray⟩] 9)) (some ⟨w2.heap.size, 0, none⟩) [x] ∧ Below w1.heap.size w1 (w2.alloc (.cells #[.string ⟨x.toArray⟩] 9))) := Lib.hid (by
        have hb3 : Below w1.heap.size w1 (w2.alloc (.cells #[.string ⟨x.toArray⟩] 9)) := hb2.alloc hb2.size _
        exact ⟨hR1.out.1.old hb3, hR1.out.2.1.trans (hb3.mono hR1.out.2.1.size), Rd.made encS w2 9 [x] (by simp [maxLen]), hb3⟩)
      have hnl : (ks.map (·.1)).length = n := by rw [List.length_map]; exact HNN.out.symm
      have hnb : n + 1 ≤ 100000000000 := by have h1 := HR.out.le; have h2 := HN.out; have h3 := HNN.out; omega
      have HNL := Lib.hid hnl
      have HNB := Lib.hid hnb
      clear hb2 hcl hnl hnb
      go_wp2_with (refine wpList_pushR encS rfl (.tmp 14) (.tmp 17) 50 9 (.string ⟨#[]⟩) 16 rfl Try.underlying50 info_str rfl (by decide) q c n (ks.map (·.1)) HNL.out rfl hS2.out.1 (some ⟨w2.heap.size, 0, none⟩) 1 1 [x] rfl rfl hS2.out.2.2.1 HNB.out ?_; intro q2 c2 w4 hP4; have HP4 := Lib.hid hP4; clear hP4; go_frame)
      go_roundw
      case rel =>
        obtain ⟨hRw4, hm4, hor4⟩ := HP4.out
        have h3 := hS2.out
        have hlo := HR.out.lo
        have hLL := HL.out
        have hqn := HR.out.new
        have kb := KB.out _ w4 hm4 h3.2.2.2
        have hK : KeysR w w4 p b gb ri M L (fun z => left z && !z.sameKey (.string x)) cnt1 (ks ++ [⟨x, HX.out⟩]) q2 c2 → ∃ (n' : Nat) (q' : Option Addr) (c' : Nat), Value.slice q2 (n + 1) c2 = .slice q' n' c' ∧ Hid (∃ left cnt ks, n' = ks.length ∧ KeysR w w4 p b gb ri M L left cnt ks q' c') :=
          fun h => ⟨n + 1, q2, c2, rfl, Lib.hid ⟨_, cnt1, ks ++ [⟨x, HX.out⟩], by rw [List.length_append, ← HNN.out]; rfl, h⟩⟩
        refine hK ⟨ranges_same HRG.out kb.1 kb.2.1, by rw [List.map_append]; exact HC1.out, by have := HR.out.le; have := HLT.out; rw [List.length_append]; simp; omega, by rw [List.map_append]; exact hRw4, ?_, ?_, kb.2.2.trans hR1.out.2.2, hlo⟩
        · intro a e
          rcases hor4 a e with h | h
          · exact hqn a h
          · have := h3.2.2.2.size; have := KL.out; omega
        · exact h3.2.1.trans (hm4.to_below h3.2.1.size (by rintro k hk ⟨a, e, rfl⟩; have := hqn a e; omega))
      case measure =>
        obtain ⟨hRw4, hm4, hor4⟩ := HP4.out
        have kb := KB.out _ w4 hm4 hS2.out.2.2.2
        rw [(ranges_same HRG.out kb.1 kb.2.1).left_eq, HEN.out.left_eq]
        exact HLT.out
end Go.Proofs.Ytdiiechkhlbkcaa.PI
