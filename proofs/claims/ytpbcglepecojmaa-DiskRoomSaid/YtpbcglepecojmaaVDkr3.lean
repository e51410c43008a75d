/- Texts 3: what the laws lean on. -/
import Derived.Test.YtpbcglepecojmaaVDkr2
import Derived.Sort.KeysCollected
import Derived.Lib.BufferMore
import Derived.Test.YtpbcglepecojmaaVDkr1
import Derived.Laws.OwnMore
import Derived.Test.YtpbcglepecojmaaRows
import Derived.WalkKit
import Derived.ProofKit
import Derived.OpenShut
import Derived.Deep.Slices
namespace Go.Proofs.Ytpbcglepecojmaa
open Go.RowKit Go.Sort

theorem info_str : (Try.prog.info? 9).map (fun i => (i.zero, i.size, i.bytes)) = some (some (.string ⟨#[]⟩), 1, 16) := by kernel_rfl
theorem leq_total (a b : List UInt8) : (decide (a ≤ b) || decide (b ≤ a)) = true := by
  by_cases h : a ≤ b
  · simp [h]
  · simp [List.le_of_lt (List.not_le.1 h)]
theorem nsort_eq {ks M : List (List UInt8)} (hp : ks.Perm M) (hM : M.Pairwise (· < ·)) : (ks.mergeSort fun x y => decide (x ≤ y)) = M := by
  refine List.Perm.eq_of_pairwise (le := fun a b => decide (a ≤ b) = true) (fun a b _ _ h1 h2 => ?_) (List.pairwise_mergeSort ?_ ?_ ks) (hM.imp ?_) ((List.mergeSort_perm ks _).trans hp)
  · simp only [decide_eq_true_eq] at h1 h2
    exact List.le_antisymm h1 h2
  · intro a b c h1 h2
    simp only [decide_eq_true_eq] at *
    exact List.le_trans h1 h2
  · exact fun a b => leq_total a b
  · intro a b h
    simp only [decide_eq_true_eq]
    exact List.le_of_lt h
theorem Rw.holdsS {T : TypeId} {w : World} {g c : Nat} {L : List (List UInt8)} (h : Rw encS T w (some ⟨g, 0, none⟩) c L) : Holds encStr w g 0 L.toArray := by
  rcases h.shape with ⟨e, _⟩ | ⟨g', e, hl, h1, h2, cur, hh, h3, h4⟩
  · cases e
  simp only [Option.some.injEq, Addr.mk.injEq] at e
  obtain ⟨rfl, _⟩ := e
  intro j hj
  have hj2 : j < L.length := by simpa using hj
  refine ⟨?_, frozen_of_row w g _ _ T hh⟩
  rw [cell_of_row w g _ _ T (0, 0) hh, Nat.zero_add, ← Array.getElem?_toList]
  have e2 : (cur.toList.take (L.length * encS.k))[j]? = some (encStr L[j]) := by rw [h4, encS_all]; simp [hj2, encStr]
  rw [List.getElem?_take_of_lt (by simp [encS]; omega)] at e2
  rw [e2]
  simp [hj2]
theorem Rw.sortedS {T : TypeId} {w : World} {g c : Nat} {L : List (List UInt8)} (h : Rw encS T w (some ⟨g, 0, none⟩) c L) (d : List (List UInt8)) (hd : d.length = L.length) (m : Nat) (os : Array Obj) :
    Rw encS T (grow (putRow encStr (Sort.ahead w m) g 0 d.toArray) os) (some ⟨g, 0, none⟩) c d ∧ Mod (fun i => i = g) w (grow (putRow encStr (Sort.ahead w m) g 0 d.toArray) os) := by
  rcases h.shape with ⟨e, _⟩ | ⟨g', e, hl, h1, h2, cur, hh, h3, h4⟩
  · cases e
  simp only [Option.some.injEq, Addr.mk.injEq] at e
  obtain ⟨rfl, _⟩ := e
  have eh : (grow (putRow encStr (Sort.ahead w m) g 0 d.toArray) os).heap = (w.heap.modify g (onCells (putCells encStr 0 d.toArray))) ++ os := rfl
  have hk : ∀ k, k < w.heap.size → (grow (putRow encStr (Sort.ahead w m) g 0 d.toArray) os).heap[k]? = if g = k then some (.cells (putCells encStr 0 d.toArray cur) T (0, 0)) else w.heap[k]? := by
    intro k hk
    rw [eh, Array.getElem?_append_left (by rw [Array.size_modify]; exact hk), Array.getElem?_modify]
    by_cases e1 : g = k
    · subst e1; rw [if_pos rfl, if_pos rfl, hh]; rfl
    · rw [if_neg e1, if_neg e1]
  have hsz : w.heap.size ≤ (grow (putRow encStr (Sort.ahead w m) g 0 d.toArray) os).heap.size := by
    rw [eh, Array.size_append, Array.size_modify]; omega
  refine ⟨Rw.of_row (by rw [hk g hl, if_pos rfl]) (by rw [hd]; exact h1) h2 (by rw [← h3]; simp [putCells]) ?_, rfl, rfl, rfl, hsz, fun k hk1 hn => by rw [hk k hk1, if_neg (fun e => hn e.symm)]⟩
  rw [encS_all]
  have hcl : L.length ≤ cur.size := by rw [h3]; simpa [encS] using h1
  apply List.ext_getElem?
  intro t
  by_cases ht : t < d.length
  · rw [List.getElem?_take_of_lt (by simpa [encS] using ht), Array.getElem?_toList]
    have htc : t < cur.size := by omega
    simp [putCells, htc, ht, encStr]
  · rw [List.getElem?_eq_none (by rw [List.length_take]; exact Nat.le_trans (Nat.min_le_left _ _) (by simpa [encS] using ht)), List.getElem?_eq_none (by simpa using ht)]
/-- slices.Sort at texts. -/
theorem nsort_any {w : World} {q : Option Addr} {c : Nat} {ks : List (List UInt8)} (h : Rw encS 9 w q c ks) (hn : ks.length ≤ 1000000) :
    Calls Try.prog 43 #[.slice q ks.length c] w fun e w' => e = .returned (.tuple #[]) ∧ Rw encS 9 w' q c (ks.mergeSort fun x y => decide (x ≤ y)) ∧ Mod (fun i => ∃ a, q = some a ∧ i = a.block) w w' := by
  have h2 := h
  rcases h.shape with ⟨rfl, rfl, rfl⟩ | ⟨g, rfl, hl, h1, _⟩
  · refine (Try.slices_Sort_string_none none 0 w).mono ?_
    rintro r w' ⟨rfl, rfl⟩
    exact ⟨rfl, by simpa using h2, Mod.refl _ _⟩
  · refine (Try.slices_Sort_string g 0 c ks w h2.holdsS hl (by omega)).mono ?_
    rintro r w' ⟨rfl, n, os, rfl⟩
    obtain ⟨h3, h4⟩ := h2.sortedS (ks.mergeSort fun x y => decide (x ≤ y)) (List.length_mergeSort ks) n os
    exact ⟨rfl, h3, h4.mono (fun i _ e => ⟨_, rfl, e⟩)⟩
/-- A loop over the disk's map, and what was gathered. -/
structure NamR (w wr : World) (b ri : Nat) (L : List Fl) (left : Lit → Bool) (cnt : Nat) (ks : List (List UInt8)) (q : Option Addr) (c : Nat) : Prop where
  rg : wr.ranges Try.prog 9 RV b ri L.length (dOf (L.map entD)) left cnt
  co : Collected (dOf (L.map entD)) left ks
  le : ks.length + cnt ≤ L.length
  rw : Rw encS 9 wr q c ks
  new : ∀ a, q = some a → ri < a.block
  m : Below w.heap.size w wr
set_option maxRecDepth 20000 in
set_option maxHeartbeats 2000000 in
theorem dknames_any {w : World} {d : Nat} {S : St} {F : Nat → Prop} (h : DA w d S F) (hn : S.X.length ≤ 1000000) (hu : ∀ x ∈ S.X, x.1.length ≤ 1000000) :
    Calls Try.prog 22 #[.pointer (some ⟨d, 0, none⟩)] w fun e w' => ∃ q c, e = .returned (.slice q S.X.length c) ∧ Rw encS 9 w' q c (S.X.map (·.1)) ∧ (∀ a, q = some a → w.heap.size ≤ a.block) ∧ Below w.heap.size w w' := by
  obtain ⟨b, L, h, _, _⟩ := h
  have HC := Lib.hid dsclone_any
  have c1 := h.c1
  have hown := h.map.own
  rw [List.length_map] at hown
  have hnl : L.length ≤ 1000000 := by rw [h.len]; exact hn
  have HK : Hid (∀ (x : List UInt8) (y : DataW Value), (∀ zd, (dOf (L.map entD)).atKey (.string x) zd = y) → x.length ≤ 1000000) := Lib.hid (by
    intro x y hat
    have hh := Maps.has_true_of_atKey hat
    rw [has_dOf, has_entD, hasL_eq h] at hh
    have h2 := fiX_mem hh
    have h3 := hu _ h2
    rwa [fiX_key] at h3)
  have HE : Hid (∀ wr ri left cnt ks q c, NamR w wr b ri L left cnt ks q c → (∀ kl, left kl = false) → ks.length = S.X.length ∧ (ks.mergeSort fun x y => decide (x ≤ y)) = S.X.map (·.1)) := Lib.hid (by
    intro wr ri left cnt ks q c hR hl
    have hp := h.keys hR.co hR.rg hl
    refine ⟨by have := hp.length_eq; rwa [List.length_map] at this, nsort_eq hp ?_⟩
    exact List.pairwise_map.2 h.so)
  have HN := Lib.hid hnl
  have HBL := Lib.hid h.map.lt
  have HLN := Lib.hid h.len
  clear h hn hu hnl
  go_enter Try.func22, Try.ntmps22
  go_wp2_with (first
    | (at_range; refine wpList_range_own _ rfl _ 58 rfl 9 62 keyed9 Try.underlying58 _ b L.length _ rfl hown ?_; intro w0 hrg0 hg0 hs0)
    | go_in)
  go_frame
  have HK0 : Hid (NamR w w0 b w.heap.size L (Maps.has (dOf (L.map entD))) (Maps.size (dOf (L.map entD))) [] none 0) := Lib.hid
    ⟨hrg0, Collected.start _, by rw [size_dOf]; simp, Rw.empty _ _, (fun a e => by cases e), (Below.refl _ w).grown hg0 (by simp) (fun j hj => by cases hj)⟩
  clear hrg0 hg0 hs0 hown c1
  generalize hri : w.heap.size = ri at HK0 HBL ⊢
  have HRI := Lib.hid hri
  clear hri
  go_loopw [3, 4] (fun s3 _ wr => ∃ (n : Nat) (q : Option Addr) (c : Nat), s3 = .slice q n c ∧ Hid (∃ left cnt ks, n = ks.length ∧ NamR w wr b ri L left cnt ks q c)) (fun _ _ wr => wr.rangeLeft b ri)
  case atStart => exact ⟨0, none, 0, rfl, Lib.hid ⟨_, _, [], rfl, HK0.out⟩⟩
  case round =>
    obtain ⟨n, q, c, rfl, hR⟩ := hrel
    obtain ⟨left, cnt, ks, hn, hR⟩ := hR.out
    have hrg := hR.rg
    have HR := Lib.hid hR
    have HNN := Lib.hid hn
    clear hR hn HK0
    go_wp2_with (first
      | (at_next; refine wpList_next_ranges _ rfl _ rfl 9 keyed9 RV encStr (fun v : Value => v) (fun key kl hk => by obtain ⟨x, hx, _⟩ := Maps.keyOf_str Try.underlying9 hk; exact ⟨x, hx⟩) (fun v y hv => ⟨v, rfl⟩) b ri L.length _ _ _ rfl hrg ?_ ?_)
      | go_in)
    · intro hc0 hl0
      have hfin := HE.out wr ri left cnt ks q c HR.out hl0
      have hsort := nsort_any HR.out.rw (by have := hfin.1; have := HN.out; have := HLN.out; omega)
      rw [← HNN.out] at hsort
      have HS := Lib.hid hsort
      have HF := Lib.hid hfin
      clear hsort hfin hrg hl0 hc0
      go_wp2_with fail
      refine HS.out.mono ?_
      rintro r w2 ⟨rfl, hr2, hm2⟩
      have HR2 := Lib.hid hr2
      have hb2 : Below w.heap.size w w2 := HR.out.m.trans (hm2.to_below HR.out.m.size (by rintro k hk ⟨a, e, rfl⟩; have := HR.out.new a e; have := HRI.out; omega))
      have HB2 := Lib.hid hb2
      clear hr2 hm2 hb2
      go_wp2_with fail
      go_ret
      refine ⟨q, c, by rw [HNN.out, HF.out.1]; rfl, by rw [← HF.out.2]; exact HR2.out, (fun a e => by have := HR.out.new a e; have := HRI.out; omega), HB2.out⟩
    · intro x v kl yd yp w1 cnt1 hkey hlk hv hv2 hat hrg1 hlt hg1 hs1 hen
      obtain ⟨x', ex, rfl, _⟩ := Maps.keyOf_str Try.underlying9 hkey
      obtain rfl : x = x' := encStr_inj ex
      have hxl := HK.out x _ hat
      have hcl := HC.out x w1 hxl
      have hno : ∀ j, some ri = some j → w.heap.size ≤ j := by intro j e; cases e; have := HRI.out; omega
      have hR1 : Hid (Rw encS 9 w1 q c ks ∧ Below w.heap.size w w1) := Lib.hid (by
        have hm1 : Mod (fun i => i = ri) wr w1 := ⟨hg1.os, hg1.tape, hg1.output, hg1.size, fun k hk hn => hg1.block k hk (fun e => hn (Option.some.inj e))⟩
        exact ⟨HR.out.rw.kept hm1 (fun a e => by have := HR.out.new a e; omega), HR.out.m.grown hg1 HR.out.m.size hno⟩)
      have HC1 := Lib.hid (HR.out.co.step hlk hat)
      have hrl := hrg1.lt
      have hbl := hrg1.owns.lt
      have KL := Lib.hid hrl
      have KB : Hid (∀ (w3 w4 : World), Mod (fun i => ∃ a, q = some a ∧ i = a.block) w3 w4 → Below w1.heap.size w1 w3 → w4.heap[b]? = w1.heap[b]? ∧ w4.heap[ri]? = w1.heap[ri]?) := Lib.hid (by
        intro w3 w4 hm hb
        have hlo := HRI.out
        have hLL := HBL.out
        have hqn := HR.out.new
        have hsz := hb.size
        refine ⟨(hm.block b (by omega) ?_).trans (hb.block b hbl), (hm.block ri (by omega) ?_).trans (hb.block ri hrl)⟩ <;>
        · rintro ⟨a, e, h⟩; have := hqn a e; omega)
      clear hrl hbl
      have HRG := Lib.hid hrg1
      have HLT := Lib.hid hlt
      have HEN := Lib.hid hrg
      clear hxl hkey hlk hv hv2 hat hrg1 hlt hg1 hs1 hno ex hrg
      go_wp2_with fail
      refine hcl.mono ?_
      rintro r w2 ⟨rfl, hb2⟩
      have hS2 : Hid (Rw encS 9 (w2.alloc (.cells #[.string ⟨x.toArray⟩] 9)) q c ks ∧ Below w.heap.size w (w2.alloc (.cells #[.string ⟨x.toArray⟩] 9)) ∧ Rd encS (w2.alloc (.cells #[.string ⟨x.toArray⟩] 9)) (some ⟨w2.heap.size, 0, none⟩) [x] ∧ Below w1.heap.size w1 (w2.alloc (.cells #[.string ⟨x.toArray⟩] 9))) := Lib.hid (by
        have hb3 : Below w1.heap.size w1 (w2.alloc (.cells #[.string ⟨x.toArray⟩] 9)) := hb2.alloc hb2.size _
        exact ⟨hR1.out.1.old hb3, hR1.out.2.trans (hb3.mono hR1.out.2.size), Rd.made encS w2 9 [x] (by simp [maxLen]), hb3⟩)
      have hnb : n + 1 ≤ 100000000000 := by have h1 := HR.out.le; have h2 := HN.out; have h3 := HNN.out; omega
      have HNB := Lib.hid hnb
      clear hb2 hcl hnb
      go_wp2_with (refine wpList_pushR encS rfl (.tmp 14) (.tmp 17) 49 9 (.string ⟨#[]⟩) 16 rfl Try.underlying49 info_str rfl (by decide) q c n ks HNN.out.symm rfl hS2.out.1 (some ⟨w2.heap.size, 0, none⟩) 1 1 [x] rfl rfl hS2.out.2.2.1 HNB.out ?_; intro q2 c2 w4 hP4; have HP4 := Lib.hid hP4; clear hP4; go_frame)
      go_roundw
      case rel =>
        obtain ⟨hRw4, hm4, hor4⟩ := HP4.out
        have h3 := hS2.out
        have hlo := HRI.out
        have hqn := HR.out.new
        have kb := KB.out _ w4 hm4 h3.2.2.2
        have hK : NamR w w4 b ri L (fun z => left z && !z.sameKey (.string x)) cnt1 (ks ++ [x]) q2 c2 → ∃ (n' : Nat) (q' : Option Addr) (c' : Nat), Value.slice q2 (n + 1) c2 = .slice q' n' c' ∧ Hid (∃ left cnt ks, n' = ks.length ∧ NamR w w4 b ri L left cnt ks q' c') :=
          fun h => ⟨n + 1, q2, c2, rfl, Lib.hid ⟨_, cnt1, ks ++ [x], by rw [List.length_append, ← HNN.out]; rfl, h⟩⟩
        refine hK ⟨rgs_same HRG.out kb.1 kb.2, HC1.out, by have := HR.out.le; have := HLT.out; rw [List.length_append]; simp; omega, hRw4, ?_, ?_⟩
        · intro a e
          rcases hor4 a e with h | h
          · exact hqn a h
          · have := h3.2.2.2.size; have := KL.out; omega
        · exact h3.2.1.trans (hm4.to_below h3.2.1.size (by rintro k hk ⟨a, e, rfl⟩; have := hqn a e; omega))
      case measure =>
        obtain ⟨hRw4, hm4, hor4⟩ := HP4.out
        have kb := KB.out _ w4 hm4 hS2.out.2.2.2
        rw [(rgs_same HRG.out kb.1 kb.2).left_eq, HEN.out.left_eq]
        exact HLT.out
end Go.Proofs.Ytpbcglepecojmaa

namespace Go.Proofs.Ytpbcglepecojmaa
open Go.RowKit Go.Sort

theorem info_u8 : (Try.prog.info? 5).map (fun i => (i.zero, i.size, i.bytes)) = some (some (.int .u8 0), 1, 1) := by kernel_rfl
set_option maxRecDepth 20000 in
theorem yclone_any {w : World} {p : Option Addr} {c : Nat} {L : List UInt8} (h : Rw encY 5 w p c L) (hn : L.length ≤ 2000000000) :
    Calls Try.prog 32 #[.slice p L.length c] w fun r w' => ∃ q c', r = .returned (.slice q L.length c') ∧ Rw encY 5 w' q c' L ∧ (∀ a, q = some a → w.heap.size ≤ a.block) ∧ Below w.heap.size w w' := by
  have hm : Rw encY 5 (w.alloc (.cells #[] 5)) (some ⟨w.heap.size, 0, none⟩) 0 ([] : List UInt8) := Rw.made (E := encY) 5 w [] (by simp [maxLen])
  have hr := h.rd.old ((Below.refl _ w).alloc (Nat.le_refl _) (.cells #[] 5))
  rcases h.shape with ⟨rfl, rfl, rfl⟩ | ⟨g, rfl, hl, h1, h2, _⟩
  · have he := Go.Lib.run_eql_slice_nil_nil (P := Try.prog) w (t := 54) 0 0 Try.underlying54
    clear h hm hr
    simp only [List.length_nil]
    go_enter Try.func32, Try.ntmps32
    go_wp2_with fail
    go_ret
    exact ⟨none, 0, rfl, Rw.empty _ _, (fun a e => by cases e), Below.refl _ _⟩
  · have he := Go.Lib.run_eql_slice_some_nil (P := Try.prog) w (t := 54) ⟨g, 0, none⟩ L.length c Try.underlying54
    have HM := Lib.hid hm
    have HR := Lib.hid hr
    have HN := Lib.hid hn
    obtain ⟨n, hn'⟩ : ∃ n, n = L.length := ⟨_, rfl⟩
    have HNN := Lib.hid hn'
    rw [← hn'] at he ⊢
    clear h hm hr hl h1 h2 hn hn'
    go_enter Try.func32, Try.ntmps32
    go_wp2_with (refine wpList_pushR encY rfl (.tmp 5) (.tmp 6) 54 5 (.int .u8 0) 1 rfl Try.underlying54 info_u8 rfl (by decide) (some ⟨w.heap.size, 0, none⟩) 0 0 [] rfl rfl HM.out (some ⟨g, 0, none⟩) n c L HNN.out.symm rfl HR.out (by have := HN.out; have := HNN.out; omega) ?_; intro q2 c2 w4 hP4; have HP4 := Lib.hid hP4; clear hP4)
    go_ret
    obtain ⟨hR, hm, ho⟩ := HP4.out
    have hs : (w.alloc (.cells #[] 5)).heap.size = w.heap.size + 1 := by simp
    refine ⟨q2, c2, ?_, hR, fun a e => ?_, ?_⟩
    · simp
    · rcases ho a e with h | h
      · cases h; exact Nat.le_refl _
      · rw [hs] at h; omega
    · exact ((Below.refl _ w).alloc (Nat.le_refl _) _).trans (hm.to_below (by rw [hs]; omega) (by rintro k hk ⟨a, e, rfl⟩; cases e; exact Nat.lt_irrefl _ hk))
theorem DK.data {w : World} {d b : Nat} {S : St} {L : List Fl} (h : DK w d b S L) : w.heap[d]? = some (.cells #[.int .i64 S.rm, .map (some b), .int .i64 S.dd, .int .i64 S.lf, .bool S.dn] 60 (0, 0)) := h.cell
/-- A loop over a disk's map that puts each file into another disk. -/
structure CloR (w wr : World) (d b p b2 ri : Nat) (S : St) (L : List Fl) (left : Lit → Bool) (cnt : Nat) (ks : List (List UInt8)) (X : List FX) (L2 : List Fl) : Prop where
  rg : wr.ranges Try.prog 9 RV b ri L.length (dOf (L.map entD)) left cnt
  co : Collected (dOf (L.map entD)) left ks
  le : ks.length + cnt ≤ L.length
  dk : DK wr p b2 { S with X := X } L2
  pm : X.Perm (ks.map fun k => fiX k S.X)
  new : ∀ i, inD p b2 L2 i → w.heap.size ≤ i ∧ i ≠ ri
  ri : w.heap.size ≤ ri
  m : Below w.heap.size w wr
theorem perm_srt {A B : List FX} (hp : A.Perm B) (hA : SrtX A) (hB : SrtX B) : A = B :=
  List.Perm.eq_of_pairwise (le := fun x y : FX => x.1 < y.1) (fun _ _ _ _ h1 h2 => absurd (List.lt_trans h1 h2) (List.lt_irrefl _)) hA hB hp
theorem wo_not {k : List UInt8} {X : List FX} (h : ∀ x ∈ X, x.1 ≠ k) : wo k X = X := List.filter_eq_self.2 (fun x hx => by simpa using h x hx)
theorem CloR.done {w wr : World} {d b p b2 ri : Nat} {S : St} {L : List Fl} {left : Lit → Bool} {cnt : Nat} {ks : List (List UInt8)} {X : List FX} {L2 : List Fl} (h : CloR w wr d b p b2 ri S L left cnt ks X L2) {w' : World} (hd : DK w' d b S L) (hl : ∀ kl, left kl = false) : X = S.X := by
  have h1 := (hd.keys h.co h.rg hl).map fun k => fiX k S.X
  rw [List.map_map] at h1
  have h2 : (S.X.map ((fun k => fiX k S.X) ∘ (·.1))) = S.X := map_fiX hd.so
  rw [h2] at h1
  exact perm_srt (h.pm.trans h1) h.dk.so hd.so
set_option maxRecDepth 20000 in
set_option maxHeartbeats 4000000 in
theorem dkclone_any {w : World} {d : Nat} {S : St} {F : Nat → Prop} (h : DA w d S F) (ok : Ok S) :
    Calls Try.prog 16 #[.pointer (some ⟨d, 0, none⟩)] w fun e w' => ∃ p F', e = .returned (.pointer (some ⟨p, 0, none⟩)) ∧ DA w' p S F' ∧ (∀ i, F' i → w.heap.size ≤ i) ∧ Below w.heap.size w w' := by
  obtain ⟨b, L, h, _, _⟩ := h
  have HI0 : Hid ((Try.prog.info? 60).map (·.size) = some 5) := Lib.hid (by kernel_rfl)
  have HI : Hid ((Try.prog.info? 62).map (·.size) = some 2) := Lib.hid (by kernel_rfl)
  have HH := Lib.hid h
  have hd0 := h.data
  have hV0 : ∀ v ∈ (#[.int .i64 S.rm, .map (some b), .int .i64 S.dd, .int .i64 S.lf, .bool S.dn] : Array Value).toList, v.oneCell' = true := by intro v hv; simp at hv; rcases hv with rfl | rfl | rfl | rfl | rfl <;> rfl
  obtain ⟨Z, hZ⟩ : ∃ Z : Array Value, Z = #[.int .i64 0, .map none, .int .i64 0, .int .i64 0, .bool false] := ⟨_, rfl⟩
  have hr0 : (w.alloc (.cells #[.int .i64 0, .map none, .int .i64 0, .int .i64 0, .bool false] 60)).heap[w.heap.size]? = some (.cells #[.int .i64 0, .map none, .int .i64 0, .int .i64 0, .bool false] 60 (0, 0)) := heap_alloc_new _ _
  have hmk : ∀ w, (Instr.makeMap 58 none).run Try.prog w = .ok (.map (some w.heap.size)) (w.alloc (.map #[] 0)) := fun w => run_makeMap _ _
  have HE0 : Hid (∀ W1, W1 = (w.alloc (.cells #[.int .i64 0, .map none, .int .i64 0, .int .i64 0, .bool false] 60)).setRow w.heap.size #[.int .i64 S.rm, .map (some b), .int .i64 S.dd, .int .i64 S.lf, .bool S.dn] → W1.heap[w.heap.size]? = some (.cells (stCells S b) 60 (0, 0)) ∧ W1.heap.size = w.heap.size + 1 ∧ Below w.heap.size w W1) := Lib.hid (by
    rintro W1 rfl
    exact ⟨setRow_heap _ _ _ _ 60 (0, 0) hr0, by simp [World.setRow], (((Mod.refl (fun _ => False) w).alloc _).setRow (g := w.heap.size) _).to_below (Nat.le_refl _) (by rintro k hk (h | h); exact h; omega)⟩)
  have HE1 : Hid (∀ W1 W2 : World, W1.heap[w.heap.size]? = some (.cells (stCells S b) 60 (0, 0)) → W1.heap.size = w.heap.size + 1 → Below w.heap.size w W1 → W2 = (W1.alloc (.map #[] 0)).setCell ⟨w.heap.size, 1, none⟩ (.map (some W1.heap.size)) → DK W2 w.heap.size (w.heap.size + 1) { S with X := [] } [] ∧ W2.heap.size = w.heap.size + 2 ∧ Below w.heap.size w W2) := Lib.hid (by
    rintro W1 W2 h1 h2 h3 rfl
    have hc : (W1.alloc (.map #[] 0)).heap[w.heap.size]? = some (.cells (stCells S b) 60 (0, 0)) := by rw [Below.heap_alloc _ _ _ (by omega)]; exact h1
    have hm : Mod (fun i => i = w.heap.size) (W1.alloc (.map #[] 0)) ((W1.alloc (.map #[] 0)).setCell ⟨w.heap.size, 1, none⟩ (.map (some W1.heap.size))) := (Mod.refl (fun i => i = w.heap.size) (W1.alloc (.map #[] 0))).setCell (fun _ => rfl) _
    have hb : Below w.heap.size w (W1.alloc (.map #[] 0)) := h3.alloc h3.size _
    refine ⟨⟨?_, ?_, (fun f hf => by cases hf), (fun f hf => by cases hf), List.Pairwise.nil, .refl _, List.Pairwise.nil⟩, by simp [World.setCell, h2], hb.trans (hm.to_below hb.size (by intro k hk e; omega))⟩
    · rw [heap_setCell_same _ _ _ _ 60 _ hc, h2]; rfl
    · rw [← h2]
      exact (MapAt.made _ _ W1).kept hm (by omega))
  have hown := h.map.own
  rw [List.length_map] at hown
  have HOWN : Hid (∀ w', Below w.heap.size w w' → w'.cell? ⟨d, 1, none⟩ = some (.map (some b)) ∧ w'.ownsMap Try.prog 9 RV b L.length (dOf (L.map entD))) := Lib.hid (fun w' hb => by
    have h2 := (h.old hb).map.own
    rw [List.length_map] at h2
    exact ⟨(h.old hb).c1, h2⟩)
  have HBL := Lib.hid h.map.lt
  have HV : Hid (∀ x v, (∀ zd, (dOf (L.map entD)).atKey (.string x) zd = .held v) → ∃ p c bs sy, v = .agg #[.slice p bs.length c, .int .i64 ((sy : Nat) : Int)] ∧ (∀ w', Below w.heap.size w w' → Rw encY 5 w' p c bs) ∧ bs.length ≤ 2000000000 ∧ sy ≤ bs.length ∧ fiX x S.X = (x, bs, sy) ∧ x.length ≤ 1000000) := Lib.hid (by
    intro x v hat
    obtain ⟨rfl, hx⟩ := h.val hat
    have hat2 := h.at x
    have hxx := atF_x h x
    have hk := fiX_key x S.X
    have hm := fiX_mem hx
    refine ⟨(atF x L).p, (atF x L).c, (atF x L).b, (atF x L).s, rfl, fun w' hb => hat2.1.old hb, ?_, hat2.2.1, ?_, ?_⟩
    · have := ok.f _ hm; rwa [← hxx] at this
    · rw [← hxx] at hk
      rw [← hxx]
      exact Prod.ext hk rfl
    · have := ok.k _ hm; rwa [fiX_key] at this)
  have HLN : Hid (L.length ≤ 100000) := Lib.hid (by rw [h.len]; exact ok.n)
  have HSL := Lib.hid h.len
  clear h hZ Z hown
  go_enter Try.func16, Try.ntmps16
  go_upto_region 2 with (first
    | (refine wpList_load_row rfl 60 (.tmp 7) rfl d rfl 60 _ (0, 0) _ hd0 Try.underlying60 rfl HI0.out ?_)
    | (refine wpList_store_row rfl rfl 60 (.tmp 3) (.tmp 8) rfl w.heap.size rfl 60 _ #[.int .i64 S.rm, .map (some b), .int .i64 S.dd, .int .i64 S.lf, .bool S.dn] rfl hr0 rfl HI0.out hV0 ?_; clear hr0 hV0))
  clear hd0
  obtain ⟨W1, hW1⟩ : ∃ W1, W1 = (w.alloc (.cells #[.int .i64 0, .map none, .int .i64 0, .int .i64 0, .bool false] 60)).setRow w.heap.size #[.int .i64 S.rm, .map (some b), .int .i64 S.dd, .int .i64 S.lf, .bool S.dn] := ⟨_, rfl⟩
  rw [← hW1]
  obtain ⟨k1, k2, k3⟩ := HE0.out W1 hW1
  clear hW1 HE0
  obtain ⟨W2, hW2⟩ : ∃ W2, W2 = (W1.alloc (.map #[] 0)).setCell ⟨w.heap.size, 1, none⟩ (.map (some W1.heap.size)) := ⟨_, rfl⟩
  have hc : (W1.alloc (.map #[] 0)).heap[w.heap.size]? = some (.cells (stCells S b) 60 (0, 0)) := by rw [Below.heap_alloc _ _ _ (by omega)]; exact k1
  have ff : (W1.alloc (.map #[] 0)).frozen? ⟨w.heap.size, 1, none⟩ = false := frozen_of_row _ _ _ _ 60 hc
  have cc : (W1.alloc (.map #[] 0)).cell? ⟨w.heap.size, 1, none⟩ = some (.map (some b)) := by unfold World.cell?; rw [hc]; rfl
  obtain ⟨HD2, k4, k5⟩ := HE1.out W1 W2 k1 k2 k3 hW2
  have HDD := Lib.hid HD2
  clear HD2
  have K5 := Lib.hid k5
  have K4 := Lib.hid k4
  clear hc k1 k2 k3 k4 k5 HE1
  go_upto_region 3 with fail
  rw [← hW2]
  clear hW2 ff cc hmk
  obtain ⟨cm, hown⟩ := HOWN.out W2 K5.out
  go_wp2_with (first
    | (at_range; refine wpList_range_own _ rfl _ 58 rfl 9 62 keyed9 Try.underlying58 _ b L.length _ rfl hown ?_; intro w0 hrg0 hg0 hs0)
    | go_in)
  go_frame
  have HK0 : Hid (CloR w w0 d b w.heap.size (w.heap.size + 1) W2.heap.size S L (Maps.has (dOf (L.map entD))) (Maps.size (dOf (L.map entD))) [] [] []) := Lib.hid
    ⟨hrg0, Collected.start _, by rw [size_dOf]; simp, HDD.out.old ((Below.refl _ W2).grown hg0 (Nat.le_refl _) (fun j hj => by cases hj)), .refl _, (by
      have h4 := K4.out
      rintro i (rfl | rfl | ⟨f, hf, _⟩)
      · omega
      · omega
      · cases hf), (by have := K4.out; omega), K5.out.trans ((Below.refl _ W2).grown hg0 K5.out.size (fun j hj => by cases hj))⟩
  have HBR : Hid (b < W2.heap.size) := Lib.hid (by have := HBL.out; have := K5.out.size; omega)
  clear hrg0 hg0 hs0 hown cm
  generalize hri : W2.heap.size = ri at HK0 HBR ⊢
  generalize hp : w.heap.size = p at *
  have HPP := Lib.hid hp
  clear hri hp
  generalize p + 1 = b2 at HK0
  go_loopw [4, 5] (fun _ _ wr => Hid (∃ left cnt ks X L2, CloR w wr d b p b2 ri S L left cnt ks X L2)) (fun _ _ wr => wr.rangeLeft b ri)
  case atStart => exact Lib.hid ⟨_, _, [], [], [], HK0.out⟩
  case round =>
    obtain ⟨left, cnt, ks, X, L2, hR⟩ := hrel.out
    have hrg := hR.rg
    have HR := Lib.hid hR
    clear hR HK0
    go_wp2_with (first
      | (at_next; refine wpList_next_ranges _ rfl _ rfl 9 keyed9 RV encStr (fun v : Value => v) (fun key kl hk => by obtain ⟨x, hx, _⟩ := Maps.keyOf_str Try.underlying9 hk; exact ⟨x, hx⟩) (fun v y hv => ⟨v, rfl⟩) b ri L.length _ _ _ rfl hrg ?_ ?_)
      | go_in)
    · intro hc0 hl0
      have hB := HR.out.m
      have hX := HR.out.done (HH.out.old hB) hl0
      have hD := HR.out.dk
      rw [hX] at hD
      have HF := Lib.hid hD
      have HB := Lib.hid hB
      have HNW := Lib.hid HR.out.new
      clear hrg hl0 hc0 hB hX hD
      go_wp2_with fail
      go_ret
      exact ⟨p, inD p b2 L2, rfl, ⟨b2, L2, HF.out, fun _ h => h, fun i hi => HF.out.lt hi⟩, fun i hi => by have := (HNW.out i hi).1; have := HPP.out; omega, HB.out⟩
    · intro x v kl yd yp w1 cnt1 hkey hlk hv hv2 hat hrg1 hlt hg1 hs1 hen
      obtain ⟨x', ex, rfl, _⟩ := Maps.keyOf_str Try.underlying9 hkey
      obtain rfl : x = x' := encStr_inj ex
      subst hv
      obtain ⟨fp, fc, bs, sy, rfl, hrw, hbl, hsy, hfx, hxl⟩ := HV.out x v hat
      have HC1 := Lib.hid (HR.out.co.step hlk hat)
      have hm1 : Mod (fun i => i = ri) wr w1 := ⟨hg1.os, hg1.tape, hg1.output, hg1.size, fun k hk hn => hg1.block k hk (fun e => hn (Option.some.inj e))⟩
      have hb1 : Below w.heap.size w w1 := HR.out.m.grown hg1 HR.out.m.size (fun j e => by cases e; have := HR.out.ri; omega)
      have hrl := hrg1.lt
      have HWS0 := hm1.size
      have HD1 := Lib.hid (HR.out.dk.kept hm1 (fun i hi e => (HR.out.new i hi).2 e))
      have HRW := Lib.hid (hrw w1 (by rw [HPP.out] at hb1; exact hb1))
      have HFX := Lib.hid hfx
      have HSY := Lib.hid hsy
      have HBB := Lib.hid hbl
      have HXL := Lib.hid hxl
      have HRG := Lib.hid hrg1
      have HB1 := Lib.hid hb1
      have HLT := Lib.hid hlt
      have HRL := Lib.hid hrl
      have HOLD := Lib.hid hrg
      have HI2 := HI.out
      have hr1 : (w1.alloc (.cells #[.slice none 0 0, .int .i64 0] 62)).heap[w1.heap.size]? = some (.cells #[.slice none 0 0, .int .i64 0] 62 (0, 0)) := heap_alloc_new _ _
      have hV : ∀ u ∈ (#[.slice fp bs.length fc, .int .i64 (sy : Int)] : Array Value).toList, u.oneCell' = true := by intro u hu; simp at hu; rcases hu with rfl | rfl <;> rfl
      clear hkey hlk hv2 hat hrg1 hlt hg1 hs1 ex hrg hb1 hrl hrw hbl hsy hfx hxl hm1
      go_upto_region 6 with (refine wpList_store_row rfl rfl 62 (.tmp 5) (.tmp 20) rfl w1.heap.size rfl 62 _ #[.slice fp bs.length fc, .int .i64 (sy : Int)] rfl hr1 rfl HI2 hV ?_)
      obtain ⟨W3, hW3⟩ : ∃ W3, W3 = (w1.alloc (.cells #[.slice none 0 0, .int .i64 0] 62)).setRow w1.heap.size #[.slice fp bs.length fc, .int .i64 (sy : Int)] := ⟨_, rfl⟩
      have hb3 : Below w1.heap.size w1 W3 := by rw [hW3]; exact (((Mod.refl (fun _ => False) w1).alloc _).setRow (g := w1.heap.size) _).to_below (Nat.le_refl _) (by rintro k hk (h | h); exact h; omega)
      have h3 : W3.heap[w1.heap.size]? = some (.cells #[.slice fp bs.length fc, .int .i64 (sy : Int)] 62 (0, 0)) := by rw [hW3]; exact setRow_heap _ _ _ _ 62 (0, 0) hr1
      have h3s : W3.heap.size = w1.heap.size + 1 := by rw [hW3]; simp [World.setRow]
      have h3c : W3.cell? ⟨w1.heap.size, 0, none⟩ = some (.slice fp bs.length fc) := by unfold World.cell?; rw [h3]; rfl
      have hcl := yclone_any (HRW.out.old hb3) HBB.out
      rw [← hW3]
      have HB3 := Lib.hid hb3
      have H3 := Lib.hid h3
      have H3S := Lib.hid h3s
      clear hW3 hr1 hV hb3 h3 h3s
      generalize hg : w1.heap.size = g at *
      have HWS := Lib.hid HWS0
      clear HWS0
      have HGG := Lib.hid hg
      clear hg
      go_wp2_with fail
      refine hcl.mono ?_
      rintro r w4 ⟨q, c4, rfl, hq, hqn, hb4⟩
      have h4 : w4.heap[g]? = some (.cells #[.slice fp bs.length fc, .int .i64 (sy : Int)] 62 (0, 0)) := (hb4.block g (by have := H3S.out; omega)).trans H3.out
      have f4 : w4.frozen? ⟨g, 0, none⟩ = false := frozen_of_row _ _ _ _ 62 h4
      have c4' : w4.cell? ⟨g, 0, none⟩ = some (.slice fp bs.length fc) := by unfold World.cell?; rw [h4]; rfl
      obtain ⟨W5, hW5⟩ : ∃ W5, W5 = w4.setCell ⟨g, 0, none⟩ (.slice q bs.length c4) := ⟨_, rfl⟩
      have h5 : W5.heap[g]? = some (.cells #[.slice q bs.length c4, .int .i64 (sy : Int)] 62 (0, 0)) := by rw [hW5, heap_setCell_same _ _ _ _ 62 _ h4]; rfl
      have hm5 : Mod (fun i => i = g) w4 W5 := by rw [hW5]; exact (Mod.refl (fun i => i = g) w4).setCell (fun _ => rfl) _
      have hb5 : Below g w1 W5 := HB3.out.trans ((hb4.mono (by have := H3S.out; omega)).trans (hm5.to_below (by have := hb4.size; have := H3S.out; omega) (by intro k hk e; omega)))
      have hq5 : Rw encY 5 W5 q c4 bs := hq.kept hm5 (fun a e h => by have := hqn a e; have := H3S.out; omega)
      have hX5 := (HD1.out.old (by rw [HGG.out]; exact hb5)).toX x
      have hL2 : L2.length ≤ 1000000 := by
        have e1 := HR.out.dk.len
        have e2 := HR.out.pm.length_eq
        rw [List.length_map] at e2
        simp only at e1
        have := HR.out.le
        have := HLN.out
        omega
      have hput := dkput_any (w := W5) (d := p) (b := b2) (S := { S with X := X }) (L := L2) ⟨x, bs, sy, q, c4⟩ hX5 hq5 HSY.out (fun a e => by
        have h1 := hqn a e
        have h2 := H3S.out
        have h3 := HRL.out
        have h6 := HGG.out
        have hpb := fun i hi => (HR.out.dk.lt (i := i) hi)
        have hsz := HOLD.out.lt
        have h7 : wr.heap.size ≤ g := HWS.out
        refine ⟨?_, ?_, ?_, ?_⟩
        · have e : q = some a := e
          rw [e] at hq5; exact hq5.lt
        · have := hpb p (.inl rfl); omega
        · have := hpb b2 (.inr (.inl rfl)); omega
        · intro y hy a' ha' e'
          have := hpb a'.block (.inr (.inr ⟨y, (List.mem_filter.1 hy).1, a', ha', rfl⟩))
          omega) HXL.out hL2
      unfold Fl.v at hput
      have HPUT := Lib.hid hput
      have H5 := Lib.hid h5
      have HB5 := Lib.hid hb5
      have HQN := Lib.hid hqn
      clear hput hq hb4 hm5 hq5 hX5 hL2 h5 h4 hb5 hqn
      go_upto_region 7 with fail
      rw [← hW5]
      clear hW5 f4 c4' h3c
      have h5 := H5.out
      go_wp2_with (refine wpList_load_row rfl 62 (.tmp 5) rfl g rfl 62 #[.slice q bs.length c4, .int .i64 (sy : Int)] (0, 0) _ h5 Try.underlying62 rfl HI2 ?_; clear h5)
      refine HPUT.out.mono ?_
      rintro r w6 ⟨rfl, hD6, hm6⟩
      have HD6 := Lib.hid hD6
      have HM6 := Lib.hid hm6
      clear hD6 hm6
      go_wp2_with fail
      have hbri : b2 ≠ ri := (HR.out.new b2 (.inr (.inl rfl))).2
      have hbb : b2 ≠ b := by have h1 := (HR.out.new b2 (.inr (.inl rfl))).1; have h2 := HBL.out; have h3 := HPP.out; omega
      have k6 : ∀ j, j < g → j ≠ b2 → w6.heap[j]? = w1.heap[j]? := fun j hj hn => (HM6.out.block j (by have := HB5.out.size; have := HGG.out; omega) hn).trans (HB5.out.block j hj)
      have hrgn := rgs_same HRG.out (k6 b (by have := HRL.out; have := HGG.out; have := HRG.out.owns.lt; omega) (fun e => hbb e.symm)) (k6 ri (by have := HRL.out; have := HGG.out; omega) (fun e => hbri e.symm))
      go_roundw
      case rel =>
        refine Lib.hid ⟨_, cnt1, ks ++ [x], _, _, hrgn, HC1.out, by have := HR.out.le; have := HLT.out; rw [List.length_append]; simp; omega, HD6.out, ?_, ?_, HR.out.ri, ?_⟩
        · refine (withX_perm _ X).trans ?_
          rw [show (Fl.x ⟨x, bs, sy, q, c4⟩) = fiX x S.X from HFX.out.symm, List.map_append, wo_not]
          · exact (List.Perm.cons _ HR.out.pm).trans (List.perm_append_singleton _ _).symm
          · intro y hy e
            have h1 := HR.out.pm.mem_iff.1 hy
            obtain ⟨k, hk, rfl⟩ := List.mem_map.1 h1
            rw [fiX_key, fiX_key] at e
            subst e
            have := (List.nodup_append.1 HC1.out.1).2.2 k hk k (by simp)
            exact this rfl
        · have hg := HGG.out
          rintro i (rfl | rfl | ⟨f, hf, a, ha, rfl⟩)
          · exact HR.out.new _ (.inl rfl)
          · exact HR.out.new _ (.inr (.inl rfl))
          · rcases List.mem_cons.1 hf with rfl | hf
            · have h1 := HQN.out a ha
              have h2 := H3S.out
              have h3 := HRL.out
              have h4 := HB1.out.size
              have h5 := HPP.out
              omega
            · exact HR.out.new _ (.inr (.inr ⟨f, (List.mem_filter.1 hf).1, a, ha, rfl⟩))
        · have h4 := HB1.out.size
          have h5 := HPP.out
          have h6 := HGG.out
          exact HB1.out.trans ((HB5.out.mono (by omega)).trans (HM6.out.to_below (by have := HB5.out.size; omega) (by intro k hk e; have := (HR.out.new b2 (.inr (.inl rfl))).1; omega)))
      case measure =>
        rw [hrgn.left_eq, HOLD.out.left_eq]
        exact HLT.out
end Go.Proofs.Ytpbcglepecojmaa

namespace Go.Proofs.Ytpbcglepecojmaa
open Go.RowKit Go.Sort

/-- How many loose bytes stay. -/
def stN (x : FX) (c : Int) : Nat := (min (max c 0) ((x.2.1.length - x.2.2 : Nat) : Int)).toNat
def crX : List Int → List FX → List FX
  | _, [] => []
  | ch, x :: l => if x.2.1.length - x.2.2 = 0 then x :: crX ch l else (x.1, x.2.1.take (x.2.2 + stN x (ch.headD 0)), x.2.2 + stN x (ch.headD 0)) :: crX ch.tail l
theorem stN_le (x : FX) (c : Int) : stN x c ≤ x.2.1.length - x.2.2 := by unfold stN; omega
theorem stN_zero (x : FX) : stN x 0 = 0 := by unfold stN; omega
theorem srt_ne2 {A B : List FX} {y : FX} (h : SrtX (A ++ y :: B)) : (∀ a ∈ A, a.1 < y.1) ∧ (∀ b ∈ B, y.1 < b.1) := by
  obtain ⟨_, h2, h3⟩ := List.pairwise_append.1 h
  exact ⟨fun a ha => h3 a ha y (List.mem_cons_self ..), (List.pairwise_cons.1 h2).1⟩
theorem insX_at {x : FX} : ∀ {A B : List FX}, (∀ a ∈ A, a.1 < x.1) → (∀ b ∈ B, x.1 < b.1) → insX x (A ++ B) = A ++ x :: B
  | [], [], _, _ => rfl
  | [], b :: l, _, hb => by
    show (if x.1 < b.1 then x :: b :: l else b :: insX x l) = _
    rw [if_pos (hb b (List.mem_cons_self ..))]; rfl
  | a :: A, B, ha, hb => by
    show (if x.1 < a.1 then x :: a :: (A ++ B) else a :: insX x (A ++ B)) = _
    rw [if_neg (fun h => List.lt_irrefl _ (List.lt_trans h (ha a (List.mem_cons_self ..)))), insX_at (fun y hy => ha y (List.mem_cons_of_mem _ hy)) hb]; rfl
theorem wo_at {A B : List FX} {y : FX} (h : SrtX (A ++ y :: B)) : wo y.1 (A ++ y :: B) = A ++ B := by
  obtain ⟨h1, h2⟩ := srt_ne2 h
  unfold wo
  rw [List.filter_append, List.filter_cons_of_neg (by simp)]
  congr 1
  · exact List.filter_eq_self.2 fun a ha => by
      have := h1 a ha
      simp only [bne_iff_ne, ne_eq]
      intro e; rw [e] at this; exact List.lt_irrefl _ this
  · exact List.filter_eq_self.2 fun a ha => by
      have := h2 a ha
      simp only [bne_iff_ne, ne_eq]
      intro e; rw [e] at this; exact List.lt_irrefl _ this
theorem withX_at {A B : List FX} {y x : FX} (h : SrtX (A ++ y :: B)) (e : x.1 = y.1) : withX x (A ++ y :: B) = A ++ x :: B := by
  unfold withX
  rw [e, wo_at h]
  obtain ⟨h1, h2⟩ := srt_ne2 h
  exact insX_at (fun a ha => by rw [e]; exact h1 a ha) (fun b hb => by rw [e]; exact h2 b hb)
theorem DA.so {w : World} {d : Nat} {S : St} {F : Nat → Prop} (h : DA w d S F) : SrtX S.X := by
  obtain ⟨_, _, h, _, _⟩ := h
  exact h.so
theorem DA.syn {w : World} {d : Nat} {S : St} {F : Nat → Prop} (h : DA w d S F) : ∀ x ∈ S.X, x.2.2 ≤ x.2.1.length := by
  obtain ⟨_, L, h, _, _⟩ := h
  intro x hx
  obtain ⟨f, hf, rfl⟩ := List.mem_map.1 (h.pm.mem_iff.2 hx)
  exact h.syn f hf
theorem Rd.tail1 {w : World} {cp : Option Addr} {ch : List Int} (h : Rd encI w cp ch) (h0 : ch ≠ []) : ∃ b o, cp = some ⟨b, o, none⟩ ∧ Rd encI w (some ⟨b, o + 1, none⟩) ch.tail ∧ w.cell? ⟨b, o, none⟩ = some (.int .i64 (ch.headD 0)) := by
  cases ch with
  | nil => exact absurd rfl h0
  | cons c t =>
    obtain ⟨b, o, e, hb, hc⟩ := h 0 (by simp)
    have h1 := hc 0 _ rfl
    refine ⟨b, o, e, ?_, by simpa [encI] using h1⟩
    intro j hj
    obtain ⟨b', o', e', hb', hc'⟩ := h (j + 1) (by simpa using hj)
    rw [e] at e'
    cases e'
    refine ⟨b, o + 1, rfl, hb, fun i u hu => ?_⟩
    have := hc' i u hu
    rw [show o + 1 + j * encI.k + i = o + (j + 1) * encI.k + i by simp [encI]; omega]
    exact this
/-- A loop over a disk's names that leaves each file's bytes as a crash does. -/
structure CrR (W wr : World) (d : Nat) (S : St) (F : Nat → Prop) (N : List (List UInt8)) (i : Nat) (ch0 : List Int) (cp : Option Addr) (n c : Nat) (D R : List FX) (ch : List Int) : Prop where
  ef : Eff W wr d { S with X := D ++ R } F
  nd : D.length = i
  nm : (D ++ R).map (·.1) = N
  cr : crX ch0 S.X = D ++ crX ch R
  cl : n = ch.length
  cc : n ≤ c
  rd : ∀ w', Mod F W w' → Rd encI w' cp ch
  sf : R <:+ S.X
set_option maxRecDepth 20000 in
set_option maxHeartbeats 4000000 in
theorem dkcrash_any {w : World} {d : Nat} {S : St} {F : Nat → Prop} (h : DA w d S F) (ok : Ok S) (cp : Option Addr) (cc : Nat) (ch : List Int) (hcc : ch.length ≤ cc) (hrd : Rd encI w cp ch) (hcp : ∀ a, cp = some a → ¬ F a.block) :
    Calls Try.prog 13 #[.pointer (some ⟨d, 0, none⟩), .slice cp ch.length cc] w fun e w' => e = .returned (.tuple #[]) ∧ Eff w w' d { S with X := crX ch S.X, lf := -1, dn := false } F := by
  have hlt := h.lt
  have hnames := Lib.hid (dknames_any h (Nat.le_trans ok.n (by decide)) ok.k)
  have HKEEP : Hid (∀ W w', Below w.heap.size w W → Mod F W w' → Rd encI w' cp ch) := Lib.hid (by
    intro W w' hb hm j hj
    obtain ⟨b, o, e, hbl, hc⟩ := (hrd.old hb) j hj
    exact ⟨b, o, e, Nat.lt_of_lt_of_le hbl hm.size, fun i u hu => (World.cell?_of_block (hm.block b hbl (hcp _ e))).trans (hc i u hu)⟩)
  have HH := Lib.hid h
  have HOK := Lib.hid ok
  have HLT := Lib.hid hlt
  have HCC := Lib.hid hcc
  obtain ⟨n, hn⟩ : ∃ n, n = S.X.length := ⟨_, rfl⟩
  have HNN := Lib.hid hn
  rw [← hn] at hnames
  obtain ⟨cn, hcn⟩ : ∃ cn, cn = ch.length := ⟨_, rfl⟩
  have HCN := Lib.hid hcn
  rw [← hcn]
  have HI : Hid ((Try.prog.info? 62).map (·.size) = some 2) := Lib.hid (by kernel_rfl)
  clear h ok hlt hcc hrd hcp hn hcn
  go_enter Try.func13, Try.ntmps13
  go_wp2_with fail
  refine hnames.out.mono ?_
  rintro r W ⟨q, qc, rfl, hq, hqn, hbW⟩
  have HQ : Hid (∀ w', Mod F W w' → Rd encS w' q (S.X.map (·.1))) := Lib.hid (fun w' hm => (hq.kept hm (fun a e hf => by have := hqn a e; have := HLT.out _ hf; omega)).rd)
  have HBW := Lib.hid hbW
  have HDW := Lib.hid (HH.out.old hbW)
  have HK0 : Hid (CrR W W d S F (S.X.map (·.1)) 0 ch cp cn cc [] S.X ch) := Lib.hid ⟨Eff.of (HH.out.old hbW) (Mod.refl _ _), rfl, rfl, rfl, HCN.out, by rw [HCN.out]; exact HCC.out, fun w' hm => HKEEP.out W w' hbW hm, List.suffix_refl _⟩
  clear hq hqn hbW HKEEP hnames
  go_wp2_with fail
  go_loopw [1, 5, 6, 7, 11] (fun s1 _ _ _ s11 wr => ∃ (i : Nat) (cp' : Option Addr) (n' c' : Nat), i ≤ n ∧ s11 = .int .i64 (i : Int) ∧ s1 = .slice cp' n' c' ∧ Hid (∃ D R ch', CrR W wr d S F (S.X.map (·.1)) i ch cp' n' c' D R ch')) (fun _ _ _ _ s11 _ => n - (intOf s11).toNat)
  case atStart => exact ⟨0, cp, cn, cc, Nat.zero_le _, rfl, rfl, Lib.hid ⟨[], S.X, ch, HK0.out⟩⟩
  case round =>
    obtain ⟨i, cp', n', c', hi, rfl, rfl, hR⟩ := hrel
    obtain ⟨D, R, ch', hR⟩ := hR.out
    have HR := Lib.hid hR
    have hlen : D.length + R.length = n := by
      have := congrArg List.length hR.nm
      rw [List.length_map, List.length_map, List.length_append] at this
      rw [HNN.out]; exact this
    have HLEN := Lib.hid hlen
    clear hR HK0 hlen
    by_cases hend : i < n
    · obtain ⟨y, R', rfl⟩ : ∃ y R', R = y :: R' := by
        cases R with
        | nil => have h1 := HR.out.nd; have h2 := HLEN.out; simp at h2; omega
        | cons y R' => exact ⟨y, R', rfl⟩
      obtain ⟨F', hA, hF', hmW⟩ := HR.out.ef
      have hsoDR : SrtX (D ++ y :: R') := hA.so
      have hys := hA.syn y (by simp)
      have hfy : fiX y.1 (D ++ y :: R') = y := fiX_self hsoDR (by simp)
      obtain ⟨b, L, h, hF, hl⟩ := hA
      have hyk : y.1.length ≤ 1000000 := by
        have : y.1 ∈ S.X.map (·.1) := by rw [← HR.out.nm]; simp
        obtain ⟨z, hz, e⟩ := List.mem_map.1 this
        rw [← e]; exact HOK.out.k z hz
      have hyl : y.2.1.length ≤ 2000000000 := HOK.out.f y (HR.out.sf.subset (List.mem_cons_self ..))
      have hLn : L.length ≤ 1000000 := by
        have h1 := h.len
        have h2 := HLEN.out
        have h3 := HOK.out.n
        have h4 := HNN.out
        simp only [List.length_append] at h1
        omega
      obtain ⟨nb, no, hqe, hnb, hnc⟩ := (HQ.out wr hmW).str i (by rw [List.length_map, ← HNN.out]; exact hend)
      have hname : (S.X.map (·.1))[i]'(by rw [List.length_map, ← HNN.out]; exact hend) = y.1 := by
        have e : (S.X.map (·.1))[i]? = some y.1 := by
          rw [← HR.out.nm, List.map_append, List.getElem?_append_right (by rw [List.length_map, HR.out.nd]; exact Nat.le_refl _), List.length_map, HR.out.nd, Nat.sub_self]
          rfl
        rw [List.getElem?_eq_getElem (by rw [List.length_map, ← HNN.out]; exact hend)] at e
        exact Option.some.inj e
      rw [hname] at hnc
      have hax : (atF y.1 L).x = y := by rw [atF_x h]; exact hfy
      have hat := h.at y.1
      have hab : (atF y.1 L).b = y.2.1 := congrArg (fun z : FX => z.2.1) hax
      have has : (atF y.1 L).s = y.2.2 := congrArg (fun z : FX => z.2.2) hax
      have HPUT : Hid (∀ m s', m ≤ y.2.1.length → s' ≤ m → ∀ w1, Below wr.heap.size wr w1 → Calls Try.prog 29 #[.pointer (some ⟨d, 0, none⟩), .string ⟨y.1.toArray⟩, .agg #[.slice (atF y.1 L).p m (atF y.1 L).c, .int .i64 (s' : Int)]] w1 fun e w' => e = .returned (.tuple #[]) ∧ Eff wr w' d { S with X := D ++ (y.1, y.2.1.take m, s') :: R' } F') := Lib.hid (by
        intro m s' hm hs w1 hb
        have e1 : ((atF y.1 L).b.take m).length = m := by rw [hab, List.length_take]; omega
        have := at_put h hF hl y.1 m s' (by rw [e1]; exact hs) hyk hLn w1 hb
        simp only [e1, hfy] at this
        rwa [withX_at (x := (y.1, y.2.1.take m, s')) hsoDR rfl] at this)
      have HLK : Hid (∀ w1, Below wr.heap.size wr w1 → w1.cell? ⟨d, 1, none⟩ = some (.map (some b)) ∧ (Instr.lookup 58 (.map (some b)) (.string ⟨y.1.toArray⟩) false).run Try.prog w1 = .ok (.agg #[.slice (atF y.1 L).p y.2.1.length (atF y.1 L).c, .int .i64 (y.2.2 : Int)]) w1) := Lib.hid (fun w1 hb => ⟨(h.old hb).c1, by rw [← hab, ← has]; exact (h.old hb).look y.1 (by unfold maxLen; omega)⟩)
      have hcl := hat.1.cap_le
      rw [hab] at hcl
      generalize (atF y.1 L).p = p at *
      generalize (atF y.1 L).c = c at *
      have HTR : Hid (∀ X w', Eff wr w' d { S with X := X } F' → Eff W w' d { S with X := X } F) := Lib.hid (fun X w' hE => by
        obtain ⟨F2, hA2, hF2, hm2⟩ := hE
        exact ⟨F2, hA2, fun i hi => (hF2 i hi).elim (hF' i) (fun h' => .inr (Nat.le_trans hmW.size h')), hmW.trans hm2 (fun i hi h => (hF' i h).elim id (fun h' => by omega))⟩)
      subst hqe
      clear h hF hl hat hax hab has hname hfy hsoDR hyk hLn hmW hF'
      obtain ⟨yk, yb, ys⟩ := y
      simp only at *
      have hlk := HLK.out wr (Below.refl _ _)
      obtain ⟨hc1, hlk⟩ := hlk
      have hr1 : (wr.alloc (.cells #[.slice none 0 0, .int .i64 0] 62)).heap[wr.heap.size]? = some (.cells #[.slice none 0 0, .int .i64 0] 62 (0, 0)) := heap_alloc_new _ _
      have hV : ∀ u ∈ (#[.slice p yb.length c, .int .i64 (ys : Int)] : Array Value).toList, u.oneCell' = true := by intro u hu; simp at hu; rcases hu with rfl | rfl <;> rfl
      have HI2 := HI.out
      have hlo := fun w1 => dfloose_any ⟨yk, yb, ys, p, c⟩ w1 hys hyl
      unfold Fl.v at hlo
      simp only at hlo
      obtain ⟨lo, hloe⟩ : ∃ lo, lo = yb.length - ys := ⟨_, rfl⟩
      rw [← hloe] at hlo
      have HLO := Lib.hid hlo
      have HLE := Lib.hid hloe
      have HYS := Lib.hid hys
      have HYL := Lib.hid hyl
      have HCL := Lib.hid hcl
      clear hlo hloe hys hyl hcl hnb hR
      go_upto_region 4 with (refine wpList_store_row rfl rfl 62 (.tmp 6) (.tmp 20) rfl wr.heap.size rfl 62 _ #[.slice p yb.length c, .int .i64 (ys : Int)] rfl hr1 rfl HI2 hV ?_)
      obtain ⟨W3, hW3⟩ : ∃ W3, W3 = (wr.alloc (.cells #[.slice none 0 0, .int .i64 0] 62)).setRow wr.heap.size #[.slice p yb.length c, .int .i64 (ys : Int)] := ⟨_, rfl⟩
      have hb3 : Below wr.heap.size wr W3 := by rw [hW3]; exact (((Mod.refl (fun _ => False) wr).alloc _).setRow (g := wr.heap.size) _).to_below (Nat.le_refl _) (by rintro k hk (h | h); exact h; omega)
      have h3 : W3.heap[wr.heap.size]? = some (.cells #[.slice p yb.length c, .int .i64 (ys : Int)] 62 (0, 0)) := by rw [hW3]; exact setRow_heap _ _ _ _ 62 (0, 0) hr1
      rw [← hW3]
      have HB3 := Lib.hid hb3
      have H3 := Lib.hid h3
      clear hW3 hr1 hV hb3 hnc hc1 hlk HLK
      generalize hg : wr.heap.size = g at *
      have HGG := Lib.hid hg
      clear hg
      have hnn : n ≤ 100000 := by have h1 := HOK.out.n; have h2 := HNN.out; omega
      by_cases hz : lo = 0
      · subst hz
        go_wp2_with (refine wpList_load_row rfl 62 (.tmp 6) rfl g rfl 62 #[.slice p yb.length c, .int .i64 (ys : Int)] (0, 0) _ h3 Try.underlying62 rfl HI2 ?_; clear h3)
        refine (HLO.out W3).mono ?_
        rintro r w4 ⟨rfl, hb4⟩
        have HB4 := Lib.hid hb4
        clear hb4
        go_wp2_with fail
        refine ⟨⟨i + 1, cp', n', c', by omega, by simp, rfl, Lib.hid ⟨D ++ [(yk, yb, ys)], R', ch', ?_⟩⟩, ?_⟩
        · refine ⟨?_, ?_, ?_, ?_, HR.out.cl, HR.out.cc, HR.out.rd, List.IsSuffix.trans (List.suffix_cons _ _) HR.out.sf⟩
          · have := Eff.then HR.out.ef (fun F2 hA2 => Eff.below hA2 (by have h1 := HB3.out; have h2 := HGG.out; rw [h2]; exact h1.trans (HB4.out.mono (by have := h1.size; omega))))
            rwa [List.append_assoc, List.singleton_append]
          · rw [List.length_append, HR.out.nd]; rfl
          · rw [← HR.out.nm, List.append_assoc, List.singleton_append]
          · rw [HR.out.cr, List.append_assoc, List.singleton_append]
            congr 1
            have e : crX ch' ((yk, yb, ys) :: R') = if yb.length - ys = 0 then (yk, yb, ys) :: crX ch' R' else (yk, yb.take (ys + stN (yk, yb, ys) (ch'.headD 0)), ys + stN (yk, yb, ys) (ch'.headD 0)) :: crX ch'.tail R' := rfl
            rw [e, ← HLE.out, if_pos rfl]
        · show n - ((i : Int) + 1).toNat < n - ((i : Int)).toNat
          omega
      · have hz2 : (((lo : Nat) : Int) == 0) = false := by simpa using hz
        have HZ := Lib.hid hz
        clear hz
        by_cases hch : ch' = []
        · obtain rfl : ch' = [] := hch
          obtain rfl : n' = 0 := HR.out.cl
          obtain ⟨st, hst⟩ : ∃ st, st = stN (yk, yb, ys) (([] : List Int).headD 0) := ⟨_, rfl⟩
          have hst0 : st = 0 := by rw [hst]; exact stN_zero _
          have HST := Lib.hid hst
          subst hst0
          have HMM : Hid (ys = ys + 0) := Lib.hid rfl
          have HM : Hid (ys ≤ yb.length) := HYS
          have HML : Hid ((yb.take ys).length = ys) := Lib.hid (by have := HYS.out; rw [List.length_take]; omega)
          clear hst
          go_wp2_with (refine wpList_load_row rfl 62 (.tmp 6) rfl g rfl 62 #[.slice p yb.length c, .int .i64 (ys : Int)] (0, 0) _ h3 Try.underlying62 rfl HI2 ?_; clear h3)
          refine (HLO.out W3).mono ?_
          rintro r w5 ⟨rfl, hb5⟩
          have H4 : Hid (w5.heap[g]? = some (.cells #[.slice p yb.length c, .int .i64 (ys : Int)] 62 (0, 0))) := Lib.hid ((hb5.block g (Array.getElem?_eq_some_iff.1 H3.out).1).trans H3.out)
          have HB5 : Hid (Below wr.heap.size wr w5) := Lib.hid (by have h1 := HB3.out; have h2 := HGG.out; rw [h2]; exact h1.trans (hb5.mono (by have := h1.size; omega)))
          clear hb5
          rw [show g = wr.heap.size from HGG.out.symm] at HB3
          go_upto_region 9 with fail
          have HF9 : Hid (∀ w1, Calls Try.prog 30 #[.agg #[.slice p yb.length c, .int .i64 (ys : Int)], .int .i64 (ys : Int)] w1 fun e w' => e = .returned (.agg #[.slice p ys c, .int .i64 ((min ys ys : Nat) : Int)]) ∧ Below w1.heap.size w1 w') := Lib.hid (fun w1 => by
            have := dffirst_any ⟨yk, yb, ys, p, c⟩ ys w1 HM.out HCL.out
            unfold Fl.v at this
            simpa only [HML.out] using this)
          have HS9 : Hid (∀ w1, Calls Try.prog 31 #[.agg #[.slice p ys c, .int .i64 ((min ys ys : Nat) : Int)]] w1 fun e w' => e = .returned (.agg #[.slice p ys c, .int .i64 (ys : Int)]) ∧ Below w1.heap.size w1 w') := Lib.hid (fun w1 => by
            have := dfsure_any ⟨yk, yb.take ys, min ys ys, p, c⟩ w1
            unfold Fl.v at this
            simpa only [HML.out] using this)
          generalize ((min ys ys : Nat) : Int) = sm at HF9 HS9
          have hysb : ys ≤ 2000000000 := by have h1 := HYS.out; have h2 := HYL.out; omega
          have h4 := H4.out
          have c41 : w5.cell? ⟨g, 1, none⟩ = some (.int .i64 (ys : Int)) := by unfold World.cell?; rw [h4]; rfl
          go_wp2_with (refine wpList_load_row rfl 62 (.tmp 6) rfl g rfl 62 #[.slice p yb.length c, .int .i64 (ys : Int)] (0, 0) _ h4 Try.underlying62 rfl HI2 ?_; clear h4)
          refine (HF9.out _).mono ?_
          rintro r w6 ⟨rfl, hb6⟩
          have HB6 := Lib.hid (HB5.out.trans (hb6.mono HB5.out.size))
          clear hb6
          go_wp2_with fail
          refine (HS9.out _).mono ?_
          rintro r w7 ⟨rfl, hb7⟩
          have HB7 := Lib.hid (HB6.out.trans (hb7.mono HB6.out.size))
          clear hb7 HB6
          go_wp2_with fail
          refine (HPUT.out ys ys HM.out (Nat.le_refl _) w7 (by have := HB7.out; rwa [HGG.out] at this)).mono ?_
          rintro r w8 ⟨rfl, hE⟩
          have HE8 := Lib.hid (HTR.out _ _ hE)
          clear hE
          go_wp2_with fail
          refine ⟨⟨i + 1, cp', 0, c', by omega, by simp, rfl, Lib.hid ⟨D ++ [(yk, yb.take ys, ys)], R', [], ?_⟩⟩, ?_⟩
          · refine ⟨?_, ?_, ?_, ?_, HR.out.cl, HR.out.cc, HR.out.rd, List.IsSuffix.trans (List.suffix_cons _ _) HR.out.sf⟩
            · have := HE8.out
              rwa [List.append_assoc, List.singleton_append]
            · rw [List.length_append, HR.out.nd]; rfl
            · rw [← HR.out.nm, List.append_assoc, List.singleton_append, List.map_append, List.map_append]; rfl
            · rw [HR.out.cr, List.append_assoc, List.singleton_append]
              congr 1
              have e : crX ([] : List Int) ((yk, yb, ys) :: R') = if yb.length - ys = 0 then (yk, yb, ys) :: crX ([] : List Int) R' else (yk, yb.take (ys + stN (yk, yb, ys) (([] : List Int).headD 0)), ys + stN (yk, yb, ys) (([] : List Int).headD 0)) :: crX ([] : List Int).tail R' := rfl
              rw [e, ← HLE.out, if_neg HZ.out, ← HST.out, ← HMM.out]
              all_goals rfl
          · show n - ((i : Int) + 1).toNat < n - ((i : Int)).toNat
            omega
        · obtain ⟨c0, hc0⟩ : ∃ c0, c0 = ch'.headD 0 := ⟨_, rfl⟩
          obtain ⟨st, hst⟩ : ∃ st, st = stN (yk, yb, ys) (ch'.headD 0) := ⟨_, rfl⟩
          have HST := Lib.hid hst
          have hstl : st ≤ lo := by rw [hst, HLE.out]; exact stN_le _ _
          have hst2 : min (max c0 0) (lo : Int) = (st : Int) := by
            rw [hst, hc0, HLE.out]
            show min (max (ch'.headD 0) 0) ((yb.length - ys : Nat) : Int) = ((min (max (ch'.headD 0) 0) ((yb.length - ys : Nat) : Int)).toNat : Int)
            omega
          obtain ⟨F1, hF1, hF2, hmW⟩ := HR.out.ef
          obtain ⟨cb, co, ecp, _, _⟩ := (HR.out.rd wr hmW).tail1 hch
          subst ecp
          have HTL : Hid (∀ w', Mod F W w' → Rd encI w' (some ⟨cb, co + 1, none⟩) ch'.tail) := Lib.hid (fun w' hm => by
            obtain ⟨b', o', e, h, _⟩ := (HR.out.rd w' hm).tail1 hch
            cases e; exact h)
          have hn1 : 1 ≤ n' := by
            have h1 := HR.out.cl
            cases ch' with
            | nil => exact absurd rfl hch
            | cons a l => rw [h1]; simp
          have hcn : n' ≤ c' := HR.out.cc
          have HRDW := Lib.hid (HR.out.rd wr hmW)
          have HCH := Lib.hid hch
          obtain ⟨m, hmm⟩ : ∃ m, m = ys + st := ⟨_, rfl⟩
          have HMM := Lib.hid hmm
          have hM : m ≤ yb.length := by have h1 := HYS.out; have h2 := HLE.out; omega
          have HM := Lib.hid hM
          have HML : Hid ((yb.take m).length = m) := Lib.hid (by rw [List.length_take]; omega)
          have hwm : IntKind.i64.wrap ((ys : Int) + (st : Int)) = (m : Int) := by have := HYL.out; rw [IntKind.wrap_i64]; omega
          have HC0E := Lib.hid hc0
          clear hst hmm hM hF1 hF2 hmW hch hc0
          go_wp2_with (refine wpList_load_row rfl 62 (.tmp 6) rfl g rfl 62 #[.slice p yb.length c, .int .i64 (ys : Int)] (0, 0) _ h3 Try.underlying62 rfl HI2 ?_; clear h3)
          refine (HLO.out W3).mono ?_
          rintro r w5 ⟨rfl, hb5⟩
          have H4 : Hid (w5.heap[g]? = some (.cells #[.slice p yb.length c, .int .i64 (ys : Int)] 62 (0, 0))) := Lib.hid ((hb5.block g (Array.getElem?_eq_some_iff.1 H3.out).1).trans H3.out)
          have HB5 : Hid (Below wr.heap.size wr w5) := Lib.hid (by have h1 := HB3.out; have h2 := HGG.out; rw [h2]; exact h1.trans (hb5.mono (by have := h1.size; omega)))
          have HC0 : Hid (∀ w1, Below w5.heap.size w5 w1 → w1.cell? ⟨cb, co, none⟩ = some (.int .i64 c0)) := Lib.hid (fun w1 hb => by
            obtain ⟨b', o', e, _, h⟩ := ((HRDW.out.old HB5.out).old hb).tail1 HCH.out
            cases e; rw [HC0E.out]; exact h)
          clear hb5
          have hidx : ¬ n' = 0 := by omega
          go_upto_region 7 with fail
          refine wp_region_puts (fun t v w => VK (match t with
            | 27 => .eq (.slice (some ⟨cb, co, none⟩) n' c')
            | 28 => .eq (.pointer (some ⟨cb, co, none⟩))
            | 29 => .eq (.int .i64 c0)
            | 30 => .eq (.int .i64 (max c0 0))
            | 31 => .eq (.agg #[.slice p yb.length c, .int .i64 (ys : Int)])
            | 32 => .eq (.int .i64 (lo : Int))
            | 33 => .eq (.int .i64 (st : Int))
            | 7 => .eq (.int .i64 (st : Int))
            | _ => .any) v w) (fun w' => Below w5.heap.size w5 w') 53 (by kernel_rfl) (by decide +kernel) rfl (Below.refl _ _).drew (by
            refine OweAll.cons (owesK rfl rfl fun a w1 ha hG hV => ?_) ?_
            · skip
              have h1 := ha.outer 1 (by decide +kernel)
              simp only [Act.eval] at h1
              exact ⟨.slice (some ⟨cb, co, none⟩) n' c', w1, wanted_free rfl, by simp [execOp, go_sem, h1], Below.refl _ _, rfl⟩
            refine OweAll.cons (owesK rfl rfl fun a w1 ha hG hV => ?_) ?_
            · skip
              have h27 : a.tmps.getD 27 undef = .slice (some ⟨cb, co, none⟩) n' c' := hV.get 27 (by decide +kernel)
              exact ⟨.pointer (some ⟨cb, co, none⟩), w1, wanted_free rfl, by simp [execOp, go_sem, h27, hidx], Below.refl _ _, rfl⟩
            refine OweAll.cons (owesK rfl rfl fun a w1 ha hG hV => ?_) ?_
            · skip
              have h28 : a.tmps.getD 28 undef = .pointer (some ⟨cb, co, none⟩) := hV.get 28 (by decide +kernel)
              have cc := HC0.out w1 hG
              exact ⟨.int .i64 c0, w1, wanted_free rfl, by simp [execOp, go_sem, h28, cc], Below.refl _ _, rfl⟩
            refine OweAll.cons (owesK rfl rfl fun a w1 ha hG hV => ?_) ?_
            · skip
              have h29 : a.tmps.getD 29 undef = .int .i64 c0 := hV.get 29 (by decide +kernel)
              exact ⟨.int .i64 (max c0 0), w1, wanted_free rfl, by simp [execOp, go_sem, h29], Below.refl _ _, rfl⟩
            refine OweAll.cons (owesK rfl rfl fun a w1 ha hG hV => ?_) ?_
            · skip
              have h6 := ha.outer 6 (by decide +kernel)
              simp only [Act.eval] at h6
              have hh : w1.heap[g]? = some (.cells #[.slice p yb.length c, .int .i64 (ys : Int)] 62 (0, 0)) := (hG.block g (Array.getElem?_eq_some_iff.1 H4.out).1).trans H4.out
              exact ⟨.agg #[.slice p yb.length c, .int .i64 (ys : Int)], w1, wanted_free rfl, exec_load_row 62 (.tmp 6) rfl g h6 62 #[.slice p yb.length c, .int .i64 (ys : Int)] (0, 0) _ hh Try.underlying62 rfl HI.out, Below.refl _ _, rfl⟩
            refine OweAll.cons (owesK_call rfl rfl 28 fun a w1 ha hG hV => ?_) ?_
            · skip
              have h31 : a.tmps.getD 31 undef = .agg #[.slice p yb.length c, .int .i64 (ys : Int)] := hV.get 31 (by decide +kernel)
              refine ⟨#[.agg #[.slice p yb.length c, .int .i64 (ys : Int)]], wanted_free rfl, by simp [execOp, resolve, invoke, go_sem, h31], ?_⟩
              refine (HLO.out w1).mono ?_
              rintro r' u2 ⟨rfl, hb2⟩; exact ⟨_, rfl, rfl, hb2⟩
            refine OweAll.cons (owesK rfl rfl fun a w1 ha hG hV => ?_) ?_
            · skip
              have h30 : a.tmps.getD 30 undef = .int .i64 (max c0 0) := hV.get 30 (by decide +kernel)
              have h32 : a.tmps.getD 32 undef = .int .i64 (lo : Int) := hV.get 32 (by decide +kernel)
              exact ⟨.int .i64 (st : Int), w1, wanted_free rfl, by simp [execOp, go_sem, h30, h32, hst2], Below.refl _ _, rfl⟩
            refine OweAll.cons (owesK rfl rfl fun a w1 ha hG hV => ?_) ?_
            · skip
              have h33 : a.tmps.getD 33 undef = .int .i64 (st : Int) := hV.get 33 (by decide +kernel)
              exact ⟨.int .i64 (st : Int), w1, wanted_free rfl, by simp [execOp, go_sem, h33], Below.refl _ _, rfl⟩
            exact OweAll.nil
            ) ?_
          intro f wz hG hv
          have e7 : f 7 = .int .i64 (st : Int) := hv 7 _ 7 rfl rfl
          rename_i hK
          refine hK _ _ ?_
          clear hK hv
          simp only [dsts, puts, List.filterMap_cons, List.filterMap_nil, List.foldl_cons, List.foldl_nil, Act.put, List.setIfInBounds_toArray, List.set_cons_succ, List.set_cons_zero, e7]
          clear e7
          have HB6 : Hid (Below wr.heap.size wr wz) := Lib.hid (HB5.out.trans (hG.mono HB5.out.size))
          have H6 : Hid (wz.heap[g]? = some (.cells #[.slice p yb.length c, .int .i64 (ys : Int)] 62 (0, 0))) := Lib.hid ((hG.block g (Array.getElem?_eq_some_iff.1 H4.out).1).trans H4.out)
          clear hG H4 HB5
          have H4 := H6
          have HB5 := HB6
          clear H6 HB6
          go_upto_region 9 with fail
          obtain ⟨cp2, hcp2⟩ : ∃ x : Option Addr, x = (if c' = 1 then some ⟨cb, co, none⟩ else some ⟨cb, co + 1, none⟩) := ⟨_, rfl⟩
          rw [← hcp2]
          have HRD2 : Hid (∀ w', Mod F W w' → Rd encI w' cp2 ch'.tail) := Lib.hid (fun w' hm => by
            by_cases h1 : c' = 1
            · have e : ch'.tail = [] := List.eq_nil_of_length_eq_zero (by have := HR.out.cl; rw [List.length_tail]; omega)
              rw [e]; exact Rd.nil _ _
            · rw [hcp2, if_neg h1]; exact HTL.out w' hm)
          have HCL2 : Hid (n' - 1 = ch'.tail.length) := Lib.hid (by have := HR.out.cl; rw [List.length_tail, ← this])
          clear hcp2
          have HF9 : Hid (∀ w1, Calls Try.prog 30 #[.agg #[.slice p yb.length c, .int .i64 (ys : Int)], .int .i64 (m : Int)] w1 fun e w' => e = .returned (.agg #[.slice p m c, .int .i64 ((min ys m : Nat) : Int)]) ∧ Below w1.heap.size w1 w') := Lib.hid (fun w1 => by
            have := dffirst_any ⟨yk, yb, ys, p, c⟩ m w1 HM.out HCL.out
            unfold Fl.v at this
            simpa only [HML.out] using this)
          have HS9 : Hid (∀ w1, Calls Try.prog 31 #[.agg #[.slice p m c, .int .i64 ((min ys m : Nat) : Int)]] w1 fun e w' => e = .returned (.agg #[.slice p m c, .int .i64 (m : Int)]) ∧ Below w1.heap.size w1 w') := Lib.hid (fun w1 => by
            have := dfsure_any ⟨yk, yb.take m, min ys m, p, c⟩ w1
            unfold Fl.v at this
            simpa only [HML.out] using this)
          generalize ((min ys m : Nat) : Int) = sm at HF9 HS9
          have hysb : ys ≤ 2000000000 := by have h1 := HYS.out; have h2 := HYL.out; omega
          have h4 := H4.out
          have c41 : wz.cell? ⟨g, 1, none⟩ = some (.int .i64 (ys : Int)) := by unfold World.cell?; rw [h4]; rfl
          go_wp2_with (refine wpList_load_row rfl 62 (.tmp 6) rfl g rfl 62 #[.slice p yb.length c, .int .i64 (ys : Int)] (0, 0) _ h4 Try.underlying62 rfl HI2 ?_; clear h4)
          refine (HF9.out _).mono ?_
          rintro r w6 ⟨rfl, hb6⟩
          have HB6 := Lib.hid (HB5.out.trans (hb6.mono HB5.out.size))
          clear hb6
          go_wp2_with fail
          refine (HS9.out _).mono ?_
          rintro r w7 ⟨rfl, hb7⟩
          have HB7 := Lib.hid (HB6.out.trans (hb7.mono HB6.out.size))
          clear hb7 HB6
          go_wp2_with fail
          refine (HPUT.out m m HM.out (Nat.le_refl _) w7 (by have := HB7.out; rwa [HGG.out] at this)).mono ?_
          rintro r w8 ⟨rfl, hE⟩
          have HE8 := Lib.hid (HTR.out _ _ hE)
          clear hE
          go_wp2_with fail
          refine ⟨⟨i + 1, cp2, n' - 1, c' - 1, by omega, by simp, rfl, Lib.hid ⟨D ++ [(yk, yb.take m, m)], R', ch'.tail, ?_⟩⟩, ?_⟩
          · refine ⟨?_, ?_, ?_, ?_, HCL2.out, by omega, HRD2.out, List.IsSuffix.trans (List.suffix_cons _ _) HR.out.sf⟩
            · have := HE8.out
              rwa [List.append_assoc, List.singleton_append]
            · rw [List.length_append, HR.out.nd]; rfl
            · rw [← HR.out.nm, List.append_assoc, List.singleton_append, List.map_append, List.map_append]; rfl
            · rw [HR.out.cr, List.append_assoc, List.singleton_append]
              congr 1
              have e : crX ch' ((yk, yb, ys) :: R') = if yb.length - ys = 0 then (yk, yb, ys) :: crX ch' R' else (yk, yb.take (ys + stN (yk, yb, ys) (ch'.headD 0)), ys + stN (yk, yb, ys) (ch'.headD 0)) :: crX ch'.tail R' := rfl
              rw [e, ← HLE.out, if_neg HZ.out, ← HST.out, ← HMM.out]
              all_goals rfl
          · show n - ((i : Int) + 1).toNat < n - ((i : Int)).toNat
            omega
    · have hR0 : R = [] := by
        have h1 := HR.out.nd
        have h2 := HLEN.out
        cases R with
        | nil => rfl
        | cons y l => simp at h2; omega
      subst hR0
      have hE := HR.out.ef
      rw [List.append_nil] at hE
      have hX : crX ch S.X = D := by
        rw [HR.out.cr]
        have e : crX ch' [] = [] := by unfold crX; rfl
        rw [e, List.append_nil]
      obtain ⟨F', hA, hF', hmW⟩ := Eff.trans ((Mod.of_below HBW.out).mono (fun i hi h => by omega)) hE
      obtain ⟨_, k3, k4, _, kf⟩ := hA.cells
      have f3 := kf 3
      have f4 := kf 4
      have s1 := hA.setF (S' := { S with X := D, dn := false }) 4 (.bool false) (fun _ => rfl) rfl
      have s2 := s1.1.setF (S' := { S with X := D, lf := -1, dn := false }) 3 (.int .i64 (-1)) (fun _ => rfl) rfl
      obtain ⟨_, j3, _, _, jf⟩ := s1.1.cells
      have g3 := jf 3
      have HE : Hid (Eff w ((wr.setCell ⟨d, 4, none⟩ (.bool false)).setCell ⟨d, 3, none⟩ (.int .i64 (-1))) d { S with X := crX ch S.X, lf := -1, dn := false } F) := Lib.hid (by rw [hX]; exact ⟨F', s2.1, hF', hmW.trans (s1.2.trans s2.2 (fun _ _ h => h)) (fun i hi h => (hF' i h).elim id (fun h' => by omega))⟩)
      have hend2 : decide ((i : Int) < (n : Int)) = false := by simp; omega
      clear hA hF' hmW kf s1 s2 jf hE hX hR
      go_wp2_with fail
      trace_state
      go_end0
      exact ⟨rfl, HE.out⟩
end Go.Proofs.Ytpbcglepecojmaa

namespace Go.Proofs.Ytpbcglepecojmaa
open Go.RowKit

/-! ## What files a deed leaves -/
theorem usedX_wo {X : List FX} (h : SrtX X) (k : List UInt8) : usedX (wo k X) + (fiX k X).2.1.length = usedX X := by
  induction X with
  | nil => rfl
  | cons y l ih =>
    obtain ⟨h1, h2⟩ := List.pairwise_cons.1 h
    by_cases e : y.1 = k
    · have hw : wo k (y :: l) = wo k l := by unfold wo; rw [List.filter_cons_of_neg (by simp [e])]
      have hl : wo k l = l := wo_not (fun x hx e' => by have := h1 x hx; rw [e', ← e] at this; exact List.lt_irrefl _ this)
      have hf : fiX k (y :: l) = y := by unfold fiX; rw [List.find?_cons_of_pos (by simp [e])]
      rw [hw, hl, hf]; simp only [usedX]; omega
    · have hw : wo k (y :: l) = y :: wo k l := by unfold wo; rw [List.filter_cons_of_pos (by simp [e])]
      have hf : fiX k (y :: l) = fiX k l := by unfold fiX; rw [List.find?_cons_of_neg (by simp [e])]
      rw [hw, hf]
      have := ih h2
      simp only [usedX]; omega
theorem usedX_with (x : FX) (X : List FX) : usedX (withX x X) = x.2.1.length + usedX (wo x.1 X) := by
  rw [usedX_perm (withX_perm x X)]; rfl
theorem wo_len (k : List UInt8) (X : List FX) : (wo k X).length ≤ X.length := List.length_filter_le _ _
theorem withX_len (x : FX) (X : List FX) : (withX x X).length ≤ X.length + 1 := by
  rw [(withX_perm x X).length_eq, List.length_cons]
  have := wo_len x.1 X
  omega
theorem withX_mem {x y : FX} {X : List FX} (h : y ∈ withX x X) : y = x ∨ y ∈ X := by
  rcases List.mem_cons.1 ((withX_perm x X).mem_iff.1 h) with h | h
  · exact .inl h
  · exact .inr (List.mem_filter.1 h).1
theorem usedX_mem {X : List FX} {x : FX} (h : x ∈ X) : x.2.1.length ≤ usedX X := by
  induction X with
  | nil => cases h
  | cons y l ih =>
    simp only [usedX]
    rcases List.mem_cons.1 h with rfl | h
    · omega
    · have := ih h; omega
theorem fiX_syn {X : List FX} (h : ∀ x ∈ X, x.2.2 ≤ x.2.1.length) (k : List UInt8) : (fiX k X).2.2 ≤ (fiX k X).2.1.length := by
  cases hh : hasX k X with
  | true => exact h _ (fiX_mem hh)
  | false => rw [fiX_none hh]; exact Nat.le_refl _
/-- What a disk's numbers may be behind n deeds. -/
structure Gd (S : St) (n : Nat) : Prop where
  xn : S.X.length ≤ n
  u : ((usedX S.X : Nat) : Int) ≤ S.rm
  k : ∀ x ∈ S.X, x.1.length ≤ 1000000
  r1 : S.rm ≤ 2000000000
  d0 : 0 ≤ S.dd
  d1 : S.dd ≤ n
  l0 : -1 ≤ S.lf
  l1 : S.lf ≤ 9223372036854775807
  so : SrtX S.X
  sy : ∀ x ∈ S.X, x.2.2 ≤ x.2.1.length
theorem Gd.ok {S : St} {n : Nat} (h : Gd S n) (hn : n ≤ 100000) : Ok S :=
  ⟨Nat.le_trans h.xn hn, fun x hx => by have h1 := usedX_mem hx; have h2 := h.u; have h3 := h.r1; omega, h.k, by have := h.u; omega, h.r1, h.d0, by have := h.d1; omega, h.l0, h.l1⟩
theorem Gd.new (r : Int) (h0 : 0 ≤ r) (h1 : r ≤ 2000000000) : Gd ⟨r, 0, -1, false, []⟩ 0 :=
  ⟨Nat.le_refl _, by simpa [usedX] using h0, (fun x hx => by cases hx), h1, Int.le_refl _, Int.le_refl _, Int.le_refl _, (by show (-1 : Int) ≤ _; decide), List.Pairwise.nil, (fun x hx => by cases hx)⟩
theorem Gd.more {S : St} {n m : Nat} (h : Gd S n) (hm : n ≤ m) : Gd S m :=
  ⟨Nat.le_trans h.xn hm, h.u, h.k, h.r1, h.d0, by have := h.d1; omega, h.l0, h.l1, h.so, h.sy⟩
/-- A deed whose files are good. -/
theorem Gd.deed {S : St} {n : Nat} (h : Gd S n) (wr : Int) (X' : List FX) (hX : S.dn = false → wr = 0 → X'.length ≤ n + 1 ∧ ((usedX X' : Nat) : Int) ≤ S.rm ∧ (∀ x ∈ X', x.1.length ≤ 1000000) ∧ SrtX X' ∧ (∀ x ∈ X', x.2.2 ≤ x.2.1.length)) : Gd (dedS S wr X') (n + 1) := by
  unfold dedS
  cases hd : S.dn with
  | true => rw [if_pos rfl]; exact h.more (by omega)
  | false =>
    rw [if_neg (by simp)]
    by_cases hw : wr = 0
    · rw [if_neg (by simpa using hw)]
      by_cases hl : S.lf = 0
      · rw [if_pos hl]
        exact ⟨Nat.le_trans h.xn (by omega), h.u, h.k, h.r1, h.d0, by have := h.d1; show S.dd ≤ _; omega, h.l0, h.l1, h.so, h.sy⟩
      · rw [if_neg hl]
        obtain ⟨a1, a2, a3, a4, a5⟩ := hX hd hw
        have l0 := h.l0
        have l1 := h.l1
        refine ⟨a1, a2, a3, h.r1, by have := h.d0; show 0 ≤ S.dd + 1; omega, by have := h.d1; show S.dd + 1 ≤ _; omega, ?_, ?_, a4, a5⟩
        · show -1 ≤ lfX S.lf; unfold lfX; split <;> omega
        · show lfX S.lf ≤ _; unfold lfX; split <;> omega
    · rw [if_pos (by simpa using hw)]; exact h.more (by omega)
section
variable {S : St} {n : Nat}
theorem Gd.app (h : Gd S n) (k s : List UInt8) (hk : k.length ≤ 1000000) : Gd (dedS S (wrA S s) (apX S k s)) (n + 1) := by
  refine h.deed _ _ (fun _ hw => ?_)
  have hu := usedX_wo h.so k
  unfold wrA at hw
  have hs : ¬ ((s.length : Int) > S.rm - (usedX S.X : Nat)) := by intro hc; rw [if_pos hc] at hw; cases hw
  unfold apX
  refine ⟨Nat.le_trans (withX_len _ _) (by have := h.xn; omega), ?_, fun x hx => ?_, withX_srt h.so _, fun x hx => ?_⟩
  · rw [usedX_with]; simp only [List.length_append]; omega
  · rcases withX_mem hx with rfl | hx
    · exact hk
    · exact h.k x hx
  · rcases withX_mem hx with rfl | hx
    · simp only [List.length_append]; have := fiX_syn h.sy k; omega
    · exact h.sy x hx
theorem Gd.syn (h : Gd S n) (k : List UInt8) (hk : k.length ≤ 1000000) : Gd (dedS S (wrN S k) (syX S k)) (n + 1) := by
  refine h.deed _ _ (fun _ _ => ?_)
  have hu := usedX_wo h.so k
  have h0 := h.u
  unfold syX
  refine ⟨Nat.le_trans (withX_len _ _) (by have := h.xn; omega), ?_, fun x hx => ?_, withX_srt h.so _, fun x hx => ?_⟩
  · rw [usedX_with]; simp only; omega
  · rcases withX_mem hx with rfl | hx
    · exact hk
    · exact h.k x hx
  · rcases withX_mem hx with rfl | hx
    · exact Nat.le_refl _
    · exact h.sy x hx
theorem Gd.cut (h : Gd S n) (k : List UInt8) (m : Int) (hk : k.length ≤ 1000000) : Gd (dedS S (wrC S k m) (cuX S k m.toNat)) (n + 1) := by
  refine h.deed _ _ (fun _ _ => ?_)
  have hu := usedX_wo h.so k
  have h0 := h.u
  unfold cuX
  refine ⟨Nat.le_trans (withX_len _ _) (by have := h.xn; omega), ?_, fun x hx => ?_, withX_srt h.so _, fun x hx => ?_⟩
  · rw [usedX_with]; simp only [List.length_take]; omega
  · rcases withX_mem hx with rfl | hx
    · exact hk
    · exact h.k x hx
  · rcases withX_mem hx with rfl | hx
    · simp only [List.length_take]; have := fiX_syn h.sy k; omega
    · exact h.sy x hx
theorem Gd.ren (h : Gd S n) (k t : List UInt8) (ht : t.length ≤ 1000000) : Gd (dedS S (wrN S k) (rnX S k t)) (n + 1) := by
  refine h.deed _ _ (fun _ _ => ?_)
  have hu := usedX_wo h.so k
  have hu2 := usedX_wo (wo_srt h.so k) t
  have h0 := h.u
  unfold rnX
  refine ⟨Nat.le_trans (withX_len _ _) (by have := h.xn; have := wo_len k S.X; omega), ?_, fun x hx => ?_, withX_srt (wo_srt h.so _) _, fun x hx => ?_⟩
  · rw [usedX_with]; simp only; omega
  · rcases withX_mem hx with rfl | hx
    · exact ht
    · exact h.k x (List.mem_filter.1 hx).1
  · rcases withX_mem hx with rfl | hx
    · exact fiX_syn h.sy k
    · exact h.sy x (List.mem_filter.1 hx).1
theorem Gd.rem (h : Gd S n) (k : List UInt8) : Gd (dedS S (wrN S k) (wo k S.X)) (n + 1) := by
  refine h.deed _ _ (fun _ _ => ?_)
  have hu := usedX_wo h.so k
  have h0 := h.u
  exact ⟨Nat.le_trans (wo_len _ _) (by have := h.xn; omega), by omega, fun x hx => h.k x (List.mem_filter.1 hx).1, wo_srt h.so k, fun x hx => h.sy x (List.mem_filter.1 hx).1⟩
theorem Gd.halt (h : Gd S n) (m : Int) (hm : m ≤ 9223372036854775807) : Gd { S with lf := max m (-1) } n :=
  ⟨h.xn, h.u, h.k, h.r1, h.d0, h.d1, by show -1 ≤ max m (-1); omega, by show max m (-1) ≤ _; omega, h.so, h.sy⟩
theorem crX_map : ∀ (ch : List Int) (X : List FX), (crX ch X).map (·.1) = X.map (·.1)
  | _, [] => by simp [crX]
  | ch, x :: l => by
    unfold crX
    by_cases h : x.2.1.length - x.2.2 = 0
    · rw [if_pos h, List.map_cons, List.map_cons, crX_map ch l]
    · rw [if_neg h, List.map_cons, List.map_cons, crX_map _ l]
/-- A crash leaves each file a beginning, all of it synced. -/
theorem crX_all : ∀ (ch : List Int) (X : List FX), (∀ x ∈ X, x.2.2 ≤ x.2.1.length) → ∀ (j : Nat) (y : FX), (crX ch X)[j]? = some y → ∃ x, X[j]? = some x ∧ y.1 = x.1 ∧ ∃ m, m ≤ x.2.1.length ∧ x.2.2 ≤ m ∧ y.2.1 = x.2.1.take m ∧ y.2.2 = m
  | _, [], _, j, y, h => by simp [crX] at h
  | ch, x :: l, hs, j, y, h => by
    have hx := hs x (List.mem_cons_self ..)
    unfold crX at h
    by_cases h0 : x.2.1.length - x.2.2 = 0
    · rw [if_pos h0] at h
      cases j with
      | zero =>
        obtain rfl : x = y := by simpa using h
        exact ⟨x, rfl, rfl, x.2.1.length, Nat.le_refl _, hx, by rw [List.take_length], by omega⟩
      | succ j => exact crX_all ch l (fun z hz => hs z (List.mem_cons_of_mem _ hz)) j y (by simpa using h)
    · rw [if_neg h0] at h
      cases j with
      | zero =>
        obtain rfl := Option.some.inj (show some _ = some y from h)
        have := stN_le x (ch.headD 0)
        exact ⟨x, rfl, rfl, x.2.2 + stN x (ch.headD 0), by omega, by omega, rfl, rfl⟩
      | succ j => exact crX_all ch.tail l (fun z hz => hs z (List.mem_cons_of_mem _ hz)) j y (by simpa using h)
theorem crX_used : ∀ (ch : List Int) (X : List FX), usedX (crX ch X) ≤ usedX X
  | _, [] => by simp [crX]
  | ch, x :: l => by
    unfold crX
    by_cases h0 : x.2.1.length - x.2.2 = 0
    · rw [if_pos h0]; simp only [usedX]; have := crX_used ch l; omega
    · rw [if_neg h0]; simp only [usedX, List.length_take]; have := crX_used ch.tail l; omega
theorem crX_len (ch : List Int) (X : List FX) : (crX ch X).length = X.length := by
  have := congrArg List.length (crX_map ch X)
  rwa [List.length_map, List.length_map] at this
theorem srt_of_map {A B : List FX} (h : A.map (·.1) = B.map (·.1)) (hB : SrtX B) : SrtX A := by
  unfold SrtX at *
  rw [← List.pairwise_map (f := fun x : FX => x.1) (R := (· < ·))] at hB ⊢
  rw [h]; exact hB
theorem Gd.crash (h : Gd S n) (ch : List Int) : Gd { S with X := crX ch S.X, lf := -1, dn := false } n := by
  have hu := crX_used ch S.X
  have h0 := h.u
  refine ⟨by show (crX ch S.X).length ≤ n; rw [crX_len]; exact h.xn, by show ((usedX (crX ch S.X) : Nat) : Int) ≤ S.rm; omega, fun x hx => ?_, h.r1, h.d0, h.d1, Int.le_refl _, (by show (-1 : Int) ≤ _; decide), srt_of_map (crX_map ch S.X) h.so, fun x hx => ?_⟩
  · have : x.1 ∈ (crX ch S.X).map (·.1) := List.mem_map_of_mem hx
    rw [crX_map] at this
    obtain ⟨y, hy, e⟩ := List.mem_map.1 this
    rw [← e]; exact h.k y hy
  · obtain ⟨j, hj, e⟩ := List.mem_iff_getElem.1 hx
    obtain ⟨y, _, _, m, h1, h2, h3, h4⟩ := crX_all ch S.X h.sy j x (by rw [List.getElem?_eq_getElem hj, e])
    rw [h3, h4, List.length_take]; omega
end
/-! ## A disk that is made since w0 -/
def Dk (w0 w : World) (d : Nat) (S : St) : Prop := ∃ F, DA w d S F ∧ (∀ i, F i → w0.heap.size ≤ i) ∧ Below w0.heap.size w0 w
section
variable {w0 w w' : World} {d : Nat} {S S' : St} {n : Nat}
theorem Dk.b (h : Dk w0 w d S) : Below w0.heap.size w0 w := by obtain ⟨_, _, _, h⟩ := h; exact h
theorem Dk.old (h : Dk w0 w d S) (hb : Below w.heap.size w w') : Dk w0 w' d S := by
  obtain ⟨F, hA, hF, hB⟩ := h
  exact ⟨F, hA.old hb, hF, hB.trans (hb.mono hB.size)⟩
theorem Dk.eff {F : Nat → Prop} (hF : ∀ i, F i → w0.heap.size ≤ i) (hB : Below w0.heap.size w0 w) (hE : Eff w w' d S' F) : Dk w0 w' d S' := by
  obtain ⟨F', hA, hF', hm⟩ := hE
  exact ⟨F', hA, fun i hi => (hF' i hi).elim (hF i) (fun h => Nat.le_trans hB.size h), hB.trans (hm.to_below hB.size (fun k hk h => by have := hF k h; omega))⟩
theorem Dk.new (m m1 r : Int) (w : World) (e1 : max m 0 = m1) (e2 : min m1 1073741824 = r) : Calls Try.prog 8 #[.int .i64 m] w fun e w' => ∃ p, e = .returned (.pointer (some ⟨p, 0, none⟩)) ∧ Dk w w' p ⟨r, 0, -1, false, []⟩ :=
  (dknew_any m m1 r w e1 e2).mono (by rintro e w' ⟨p, rfl, F, hA, hb, hF⟩; exact ⟨p, rfl, F, hA, hF, hb⟩)
theorem Dk.append (h : Dk w0 w d S) (ok : Ok S) (k s : List UInt8) (hk : k.length ≤ 1000000) (hs : s.length ≤ 1000000000) :
    Calls Try.prog 18 #[.pointer (some ⟨d, 0, none⟩), .string ⟨k.toArray⟩, .string ⟨s.toArray⟩] w fun e w' => e = .returned (.int .i64 (dedR S (wrA S s))) ∧ Dk w0 w' d (dedS S (wrA S s) (apX S k s)) := by
  obtain ⟨F, hA, hF, hB⟩ := h
  exact (dkappend_any hA ok k s hk hs).mono (by rintro e w' ⟨rfl, hE⟩; exact ⟨rfl, Dk.eff hF hB hE⟩)
theorem Dk.sync (h : Dk w0 w d S) (ok : Ok S) (k : List UInt8) (hk : k.length ≤ 1000000) :
    Calls Try.prog 19 #[.pointer (some ⟨d, 0, none⟩), .string ⟨k.toArray⟩] w fun e w' => e = .returned (.int .i64 (dedR S (wrN S k))) ∧ Dk w0 w' d (dedS S (wrN S k) (syX S k)) := by
  obtain ⟨F, hA, hF, hB⟩ := h
  exact (dksync_any hA ok k hk).mono (by rintro e w' ⟨rfl, hE⟩; exact ⟨rfl, Dk.eff hF hB hE⟩)
theorem Dk.crash (h : Dk w0 w d S) (ok : Ok S) (cp : Option Addr) (cc : Nat) (ch : List Int) (hcc : ch.length ≤ cc) (hrd : Rd encI w cp ch) (hcp : ∀ a, cp = some a → a.block < w0.heap.size) :
    Calls Try.prog 13 #[.pointer (some ⟨d, 0, none⟩), .slice cp ch.length cc] w fun e w' => e = .returned (.tuple #[]) ∧ Dk w0 w' d { S with X := crX ch S.X, lf := -1, dn := false } := by
  obtain ⟨F, hA, hF, hB⟩ := h
  exact (dkcrash_any hA ok cp cc ch hcc hrd (fun a e hf => by have h1 := hcp a e; have h2 := hF _ hf; omega)).mono (by rintro e w' ⟨rfl, hE⟩; exact ⟨rfl, Dk.eff hF hB hE⟩)
theorem Dk.read (h : Dk w0 w d S) (k : List UInt8) (hk : k.length ≤ maxLen) :
    Calls Try.prog 10 #[.pointer (some ⟨d, 0, none⟩), .string ⟨k.toArray⟩] w fun e w' => e = .returned (.tuple #[.string ⟨(rdX S k).1.toArray⟩, .int .i64 (rdX S k).2]) ∧ Dk w0 w' d S := by
  have h2 := h
  obtain ⟨F, hA, hF, hB⟩ := h
  exact (dkread_any hA k hk).mono (by rintro e w' ⟨rfl, hE⟩; exact ⟨rfl, h2.old hE⟩)
theorem Dk.room (h : Dk w0 w d S) : Calls Try.prog 25 #[.pointer (some ⟨d, 0, none⟩)] w fun e w' => e = .returned (.int .i64 S.rm) ∧ Dk w0 w' d S := by
  have h2 := h
  obtain ⟨F, hA, hF, hB⟩ := h
  exact (dkroom_any hA).mono (by rintro e w' ⟨rfl, rfl⟩; exact ⟨rfl, h2⟩)
theorem Dk.used (h : Dk w0 w d S) (ok : Ok S) : Calls Try.prog 24 #[.pointer (some ⟨d, 0, none⟩)] w fun e w' => e = .returned (.int .i64 (usedX S.X : Nat)) ∧ Dk w0 w' d S := by
  have h2 := h
  obtain ⟨F, hA, hF, hB⟩ := h
  exact (dkused_any hA (Nat.le_trans ok.n (by decide)) ok.f).mono (by rintro e w' ⟨rfl, hE⟩; exact ⟨rfl, h2.old hE⟩)
end
set_option maxRecDepth 20000 in
theorem awake09_any (w : World) : Calls Try.prog 7 #[] w fun e w' => e = .returned (.bool true) ∧ Below w.heap.size w w' := by
  obtain ⟨S0, hS0⟩ : ∃ S0 : St, S0 = ⟨10, 0, -1, false, []⟩ := ⟨_, rfl⟩
  obtain ⟨S1, hS1⟩ : ∃ S1 : St, S1 = ⟨10, 1, -1, false, [([97], [120, 121], 0)]⟩ := ⟨_, rfl⟩
  obtain ⟨S2, hS2⟩ : ∃ S2 : St, S2 = ⟨10, 2, -1, false, [([97], [120, 121], 2)]⟩ := ⟨_, rfl⟩
  obtain ⟨S3, hS3⟩ : ∃ S3 : St, S3 = ⟨10, 3, -1, false, [([97], [120, 121, 122], 2)]⟩ := ⟨_, rfl⟩
  obtain ⟨S4, hS4⟩ : ∃ S4 : St, S4 = ⟨10, 3, -1, false, [([97], [120, 121], 2)]⟩ := ⟨_, rfl⟩
  have g0 : Gd S0 0 := by rw [hS0]; exact Gd.new 10 (by decide) (by decide)
  have e1 : dedS S0 (wrA S0 [120, 121]) (apX S0 [97] [120, 121]) = S1 ∧ dedR S0 (wrA S0 [120, 121]) = 0 := by rw [hS0, hS1]; constructor <;> kernel_rfl
  have g1 : Gd S1 1 := by rw [← e1.1]; exact g0.app _ _ (by decide)
  have e2 : dedS S1 (wrN S1 [97]) (syX S1 [97]) = S2 ∧ dedR S1 (wrN S1 [97]) = 0 := by rw [hS1, hS2]; constructor <;> kernel_rfl
  have g2 : Gd S2 2 := by rw [← e2.1]; exact g1.syn _ (by decide)
  have e3 : dedS S2 (wrA S2 [122]) (apX S2 [97] [122]) = S3 ∧ dedR S2 (wrA S2 [122]) = 0 := by rw [hS2, hS3]; constructor <;> kernel_rfl
  have g3 : Gd S3 3 := by rw [← e3.1]; exact g2.app _ _ (by decide)
  have g4 : Gd S4 3 := by
    have := g3.crash []
    rw [show ({ S3 with X := crX [] S3.X, lf := -1, dn := false } : St) = S4 by rw [hS3, hS4]; kernel_rfl] at this
    exact this
  have e4 : rdX S4 [97] = ([120, 121], 0) := by rw [hS4]; kernel_rfl
  have e5 : S4.rm = 10 := by rw [hS4]
  have H1 : Hid (∀ w1 p, Dk w w1 p S0 → Calls Try.prog 18 #[.pointer (some ⟨p, 0, none⟩), .string ⟨#[97]⟩, .string ⟨#[120, 121]⟩] w1 fun e w' => e = .returned (.int .i64 0) ∧ Dk w w' p S1) := Lib.hid (fun w1 p h => by
    have := h.append (g0.ok (by decide)) [97] [120, 121] (by decide) (by decide)
    rwa [e1.1, e1.2] at this)
  have H2 : Hid (∀ w1 p, Dk w w1 p S1 → Calls Try.prog 19 #[.pointer (some ⟨p, 0, none⟩), .string ⟨#[97]⟩] w1 fun e w' => e = .returned (.int .i64 0) ∧ Dk w w' p S2) := Lib.hid (fun w1 p h => by
    have := h.sync (g1.ok (by decide)) [97] (by decide)
    rwa [e2.1, e2.2] at this)
  have H3 : Hid (∀ w1 p, Dk w w1 p S2 → Calls Try.prog 18 #[.pointer (some ⟨p, 0, none⟩), .string ⟨#[97]⟩, .string ⟨#[122]⟩] w1 fun e w' => e = .returned (.int .i64 0) ∧ Dk w w' p S3) := Lib.hid (fun w1 p h => by
    have := h.append (g2.ok (by decide)) [97] [122] (by decide) (by decide)
    rwa [e3.1, e3.2] at this)
  have H4 : Hid (∀ w1 p, Dk w w1 p S3 → Calls Try.prog 13 #[.pointer (some ⟨p, 0, none⟩), .slice none 0 0] w1 fun e w' => e = .returned (.tuple #[]) ∧ Dk w w' p S4) := Lib.hid (fun w1 p h => by
    have := h.crash (g3.ok (by decide)) none 0 [] (by decide) (Rd.nil _ _) (fun a e => by cases e)
    rwa [show ({ S3 with X := crX [] S3.X, lf := -1, dn := false } : St) = S4 by rw [hS3, hS4]; kernel_rfl] at this)
  have H5 : Hid (∀ w1 p, Dk w w1 p S4 → Calls Try.prog 10 #[.pointer (some ⟨p, 0, none⟩), .string ⟨#[97]⟩] w1 fun e w' => e = .returned (.tuple #[.string ⟨#[120, 121]⟩, .int .i64 0]) ∧ Dk w w' p S4) := Lib.hid (fun w1 p h => by
    have := h.read [97] (by decide)
    rwa [e4] at this)
  have H6 : Hid (∀ w1 p, Dk w w1 p S4 → Calls Try.prog 25 #[.pointer (some ⟨p, 0, none⟩)] w1 fun e w' => e = .returned (.int .i64 10) ∧ Dk w w' p S4) := Lib.hid (fun w1 p h => by
    have := h.room
    rwa [e5] at this)
  have HN := Lib.hid (Dk.new 10 10 10 w (by decide) (by decide))
  rw [← hS0] at HN
  clear e1 e2 e3 e4 e5 g0 g1 g2 g3 g4 hS0 hS1 hS2 hS3 hS4
  go_enter Try.func7, Try.ntmps7
  go_wp2_with fail
  refine HN.out.mono ?_
  rintro e w1 ⟨p, rfl, hD⟩
  have HD := Lib.hid hD
  clear hD
  go_wp2_with fail
  refine (H1.out _ _ HD.out).mono ?_
  rintro e w2 ⟨rfl, hD⟩
  have HD := Lib.hid hD
  clear hD
  go_wp2_with fail
  refine (H2.out _ _ HD.out).mono ?_
  rintro e w3 ⟨rfl, hD⟩
  have HD := Lib.hid hD
  clear hD
  go_wp2_with fail
  refine (H3.out _ _ HD.out).mono ?_
  rintro e w4 ⟨rfl, hD⟩
  have HD := Lib.hid hD
  clear hD
  go_wp2_with fail
  refine (H4.out _ _ HD.out).mono ?_
  rintro e w5 ⟨rfl, hD⟩
  have HD := Lib.hid hD
  clear hD
  go_wp2_with fail
  refine (H5.out _ _ HD.out).mono ?_
  rintro e w6 ⟨rfl, hD⟩
  have HD := Lib.hid hD
  clear hD
  go_wp2_with fail
  refine (H6.out _ _ HD.out).mono ?_
  rintro e w7 ⟨rfl, hD⟩
  have HB := Lib.hid hD.b
  clear hD
  go_wp2_with fail
  go_ret
  exact ⟨rfl, HB.out⟩
end Go.Proofs.Ytpbcglepecojmaa

namespace Go.Proofs.Ytpbcglepecojmaa.CW
open Go

section
variable {P : Program} {ops : Array Oper} {Q : Exit → Act → World → Prop} {md : Region.Mode} {V : Tmp → Value → World → Prop} {G : Nat → Value → World → Prop} {C : List Nat} {a0 : Act}

/-- What one operation owes while k of the chain are done, k' behind it. -/
def OwesAt (P : Program) (md : Region.Mode) (ops : Array Oper) (Q : Exit → Act → World → Prop) (V : Tmp → Value → World → Prop) (G : Nat → Value → World → Prop) (C : List Nat) (a0 : Act) (i : Nat) (o : Oper) (k : Nat) : Prop :=
  ∀ a w x, AgreeC ops C k a0 a → G k x w → AllV V a w (waits md ops o) →
    wpOp P ops Q i (fun a' w' => ∃ v, a' = a.put o.dst v ∧ (∀ t, o.dst = some t → V t v w') ∧ G k x w' ∧ (∀ t u, V t u w → V t u w')) a w
/-- What the chain's operation m owes. -/
def OwesIn (P : Program) (md : Region.Mode) (ops : Array Oper) (Q : Exit → Act → World → Prop) (V : Tmp → Value → World → Prop) (G : Nat → Value → World → Prop) (C : List Nat) (a0 : Act) (i : Nat) (o : Oper) (m : Nat) : Prop :=
  ∀ a w x, AgreeC ops C m a0 a → G m x w → Holds' ops C a m x → AllV V a w (waits md ops o) →
    wpOp P ops Q i (fun a' w' => ∃ v, a' = a.put o.dst v ∧ (∀ t, o.dst = some t → V t v w') ∧ G (m + 1) v w' ∧ (∀ t u, V t u w → V t u w')) a w
def OwesC (P : Program) (md : Region.Mode) (ops : Array Oper) (Q : Exit → Act → World → Prop) (V : Tmp → Value → World → Prop) (G : Nat → Value → World → Prop) (C : List Nat) (a0 : Act) (i : Nat) (o : Oper) : Prop :=
  (∃ m, C[m]? = some i ∧ OwesIn P md ops Q V G C a0 i o m) ∨ (C.contains i = false ∧ ∃ b, aheadOf md ops C i b = true ∧ ∀ k, k ≤ b → OwesAt P md ops Q V G C a0 i o k)

/-- What is known while the region goes. -/
structure ChainAt (md : Region.Mode) (ops : Array Oper) (V : Tmp → Value → World → Prop) (G : Nat → Value → World → Prop) (C : List Nat) (a0 : Act) (L : Array Bool) (a : Act) (w : World) (k : Nat) (x : Value) : Prop where
  g : G k x w
  ho : Holds' ops C a k x
  le : k ≤ C.length
  ch : ∀ (m i : Nat), C[m]? = some i → (L.getD i true = true ↔ m < k)
  cl : ∀ (i : Nat) (o : Oper), ops[i]? = some o → L.getD i true = true → ∀ e ∈ o.after, Region.binds md e = true → L.getD e.on false = true
  ag : Agree ops a0 a
  kp : ∀ (i : Nat) (o : Oper) (t : Tmp), ops[i]? = some o → L.getD i true = false → o.dst = some t → a.eval (.tmp t) = a0.eval (.tmp t)
  v : ∀ (i : Nat) (o : Oper) (t : Tmp), ops[i]? = some o → L.getD i true = true → o.dst = some t → V t (a.eval (.tmp t)) w

theorem ChainAt.agc {L : Array Bool} {a : Act} {w : World} {k : Nat} {x : Value} (h : ChainAt md ops V G C a0 L a w k x) : AgreeC ops C k a0 a :=
  ⟨h.ag, fun m i o t hm hi ho ht => h.kp i o t ho (by
    cases hl : L.getD i true with
    | false => rfl
    | true => exact absurd ((h.ch m i hi).1 hl) (by omega)) ht⟩
theorem wpAny_chain (hok : DrawOk ops a0.tmps.size) (hch : chainOk md ops C = true) (hnd : C.Nodup) (hCl : ∀ i ∈ C, i < ops.size) (step : ∀ (i : Nat) (o : Oper), ops[i]? = some o → OwesC P md ops Q V G C a0 i o)
    (fin : ∀ a w x, Agree ops a0 a → G C.length x w → Holds' ops C a C.length x → (∀ (i : Nat) (o : Oper) (t : Tmp), ops[i]? = some o → o.dst = some t → V t (a.eval (.tmp t)) w) → Q .normal a w) :
    ∀ (fuel : Nat) (L : Array Bool) (a : Act) (w : World) (k : Nat) (x : Value), unl L ops.size ≤ fuel → L.size = ops.size → ChainAt md ops V G C a0 L a w k x → wpAny P md ops Q fuel L a w := by
  have allL : ∀ L : Array Bool, L.size = ops.size → Region.ready md ops L = [] → ∀ (i : Nat) (o : Oper), ops[i]? = some o → L.getD i true = true := by
    intro L hL hr i o ho
    cases hc : L.getD i true with
    | true => rfl
    | false =>
      obtain ⟨j, hj⟩ := ready_some (md := md) hok hL i (Array.getElem?_eq_some_iff.1 ho).1 hc
      rw [hr] at hj; cases hj
  have done : ∀ (L : Array Bool) (a : Act) (w : World) (k : Nat) (x : Value), L.size = ops.size → ChainAt md ops V G C a0 L a w k x → Region.ready md ops L = [] → Q .normal a w := by
    intro L a w k x hL h hr
    have hk : k = C.length := by
      refine Nat.le_antisymm h.le (Nat.le_of_not_lt fun hlt => ?_)
      have hm : C[k]? = some C[k] := List.getElem?_eq_getElem hlt
      have hi := hCl _ (List.getElem_mem hlt)
      exact Nat.lt_irrefl _ ((h.ch k _ hm).1 (allL L hL hr _ _ (Array.getElem?_eq_getElem hi)))
    subst hk
    exact fin a w x h.ag h.g h.ho (fun i o t ho ht => h.v i o t ho (allL L hL hr i o ho) ht)
  intro fuel
  induction fuel with
  | zero =>
    intro L a w k x hu hL h
    have hr : Region.ready md ops L = [] := by
      apply List.eq_nil_iff_forall_not_mem.2
      intro j hj
      obtain ⟨hun, o, ho, _⟩ := mem_ready.1 hj
      have := unl_pos L ops.size j (Array.getElem?_eq_some_iff.1 ho).1 hun
      omega
    exact ⟨hr, done L a w k x hL h hr⟩
  | succ fuel ih =>
    intro L a w k x hu hL h
    refine ⟨fun hr => done L a w k x hL h hr, fun i hi => ?_⟩
    obtain ⟨hun, o, ho, hall⟩ := mem_ready.1 hi
    have hil : i < ops.size := (Array.getElem?_eq_some_iff.1 ho).1
    have hw : AllV V a w (waits md ops o) := AllV.of (by
      intro t ht
      unfold waits at ht
      obtain ⟨e, he, hd⟩ := List.mem_filterMap.1 ht
      obtain ⟨he1, he2⟩ := List.mem_filter.1 he
      cases hj : ops[e.on]? with
      | none => rw [hj] at hd; cases hd
      | some p =>
        rw [hj] at hd
        have hl := hall e (by simpa using he1) he2
        exact h.v e.on p t hj (by rw [getD_tf hL (Array.getElem?_eq_some_iff.1 hj).1]; exact hl) hd)
    -- what follows, with k' of the chain done
    have next : ∀ (k' : Nat) (y : Value → Value), k' ≤ C.length → (∀ v, Holds' ops C (a.put o.dst v) k' (y v)) → (∀ (m j : Nat), C[m]? = some j → ((L.setIfInBounds i true).getD j true = true ↔ m < k')) →
        wpOp P ops Q i (fun a' w' => ∃ v, a' = a.put o.dst v ∧ (∀ t, o.dst = some t → V t v w') ∧ G k' (y v) w' ∧ (∀ t u, V t u w → V t u w')) a w → wpOp P ops Q i (fun a' w' => wpAny P md ops Q fuel (L.setIfInBounds i true) a' w') a w := by
      intro k' y hk' hho hch' hop
      refine wpOp_mono (fun a' w' hh => ?_) hop
      obtain ⟨v, rfl, hvi, hG', hpres⟩ := hh
      refine ih _ _ _ k' (y v) ?_ (by simpa using hL) ⟨hG', hho v, hk', hch', ?_, ?_, ?_, ?_⟩
      · have := unl_set L i hun ops.size
        rw [if_pos hil] at this; omega
      · intro j p hp hl e he hb
        by_cases hji : j = i
        · subst hji
          rw [ho] at hp; cases hp
          have := hall e he hb
          by_cases hei : e.on = j
          · rw [hei, getD_set_at (by omega)]
          · rw [getD_set_ne' hei]; exact this
        · rw [getD_set_ne' hji] at hl
          have := h.cl j p hp hl e he hb
          by_cases hei : e.on = i
          · rw [hei, getD_set_at (by omega)]
          · rw [getD_set_ne' hei]; exact this
      · refine ⟨by rw [size_put]; exact h.ag.size, by rw [defers_put]; exact h.ag.defers, fun t ht => ?_⟩
        rw [Act.eval_put (fun d hd e => ht i o ho (by cases e; exact hd))]
        exact h.ag.same t ht
      · intro j p t hp hl ht
        have e : j ≠ i := by
          rintro rfl
          rw [getD_set_at (by omega)] at hl; cases hl
        rw [Act.eval_put (fun d hd e2 => by cases e2; exact hok.apart i j o p t ho hp e hd ht)]
        rw [getD_set_ne' e] at hl
        exact h.kp j p t hp hl ht
      · intro j p t hp hl ht
        by_cases e : j = i
        · subst e
          rw [ho] at hp; cases hp
          rw [ht, eval_put_same (by rw [h.ag.size]; exact hok.room j o t ho ht)]
          exact hvi t ht
        · rw [Act.eval_put (fun d hd e2 => by cases e2; exact hok.apart i j o p t ho hp e hd ht)]
          rw [getD_set_ne' e] at hl
          exact hpres _ _ (h.v j p t hp hl ht)
    rcases step i o ho with ⟨m, hm, hop⟩ | ⟨hni, b, hb, hop⟩
    · have hmk : m = k := by
        have h1 : ¬ m < k := fun hlt => by rw [(h.ch m i hm).2 hlt] at hun; cases hun
        have h2 : m ≤ k := by
          cases m with
          | zero => exact Nat.zero_le _
          | succ m =>
            have hlt : m < C.length := by have := (List.getElem?_eq_some_iff.1 hm).1; omega
            have hj : C[m]? = some C[m] := List.getElem?_eq_getElem hlt
            obtain ⟨e, he, hbd, hon⟩ := chain_edge hch hj hm ho
            have := hall e he hbd
            rw [hon] at this
            exact (h.ch m _ hj).1 (by rw [getD_tf hL (hCl _ (List.getElem_mem hlt))]; exact this)
        omega
      subst hmk
      have hmlt : m < C.length := (List.getElem?_eq_some_iff.1 hm).1
      refine next (m + 1) (fun v => v) hmlt ?_ ?_ (hop a w x h.agc h.g h.ho hw)
      · intro v m2 j p t hm2 hj hp ht
        obtain rfl : m2 = m := by omega
        rw [hm] at hj; cases hj
        rw [ho] at hp; cases hp
        rw [ht, eval_put_same (by rw [h.ag.size]; exact hok.room i o t ho ht)]
      intro m2 j hj
      by_cases hji : j = i
      · subst hji
        have : m2 = m := by
          obtain ⟨l2, e2⟩ := List.getElem?_eq_some_iff.1 hj
          obtain ⟨l1, e1⟩ := List.getElem?_eq_some_iff.1 hm
          exact (List.getElem_inj hnd).1 (e2.trans e1.symm)
        subst this
        rw [getD_set_at (by omega)]
        exact ⟨fun _ => Nat.lt_succ_self _, fun _ => rfl⟩
      · rw [getD_set_ne' hji, h.ch m2 j hj]
        have : m2 ≠ m := by
          rintro rfl
          rw [hm] at hj; cases hj; exact hji rfl
        omega
    · have hkb : k ≤ b := by
        unfold aheadOf at hb
        rw [Bool.or_eq_true, beq_iff_eq] at hb
        rcases hb with rfl | hb
        · exact h.le
        · cases hj : C[b]? with
          | none => rw [hj] at hb; cases hb
          | some j =>
            rw [hj] at hb
            simp only at hb
            refine Nat.le_of_not_lt fun hlt => ?_
            have := reach_done h.cl 16 j i hb ((h.ch b j hj).2 hlt)
            rw [← getD_tf hL hil, hun] at this
            cases this
      refine next k (fun _ => x) h.le ?_ ?_ (hop k hkb a w x h.agc h.g hw)
      · intro v m2 j p t hm2 hj hp ht
        have hji : j ≠ i := by
          rintro rfl
          have := List.mem_of_getElem? hj
          rw [List.contains_eq_mem, decide_eq_false_iff_not] at hni
          exact hni this
        rw [Act.eval_put (fun d hd e2 => by cases e2; exact hok.apart i j o p t ho hp hji hd ht)]
        exact h.ho m2 j p t hm2 hj hp ht
      intro m2 j hj
      have hji : j ≠ i := by
        rintro rfl
        have := List.mem_of_getElem? hj
        rw [List.contains_eq_mem, decide_eq_false_iff_not] at hni
        exact hni this
      rw [getD_set_ne' hji, h.ch m2 j hj]

/-- The obligations one after the other. -/
def OweAllC (P : Program) (md : Region.Mode) (ops : Array Oper) (Q : Exit → Act → World → Prop) (V : Tmp → Value → World → Prop) (G : Nat → Value → World → Prop) (C : List Nat) (a0 : Act) : Nat → List Oper → Prop
  | _, [] => True
  | k, o :: r => OwesC P md ops Q V G C a0 k o ∧ OweAllC P md ops Q V G C a0 (k + 1) r
theorem OweAllC.get : ∀ {l : List Oper} {k : Nat}, OweAllC P md ops Q V G C a0 k l → ∀ (i : Nat) (o : Oper), l[i]? = some o → OwesC P md ops Q V G C a0 (k + i) o
  | _ :: _, k, h, 0, o, hi => by cases hi; exact h.1
  | _ :: r, k, h, i + 1, o, hi => by
    have := OweAllC.get h.2 i o (by simpa using hi)
    rwa [show k + 1 + i = k + (i + 1) by omega] at this
  | [], _, _, i, o, hi => by simp at hi
theorem OweAllC.cons {k : Nat} {o : Oper} {r : List Oper} (h : OwesC P md ops Q V G C a0 k o) (h2 : OweAllC P md ops Q V G C a0 (k + 1) r) : OweAllC P md ops Q V G C a0 k (o :: r) := ⟨h, h2⟩
theorem OweAllC.nil {k : Nat} : OweAllC P md ops Q V G C a0 k [] := trivial

theorem wp_region_chain {id : Nat} {w : World} (V : Tmp → Value → World → Prop) (G : Nat → Value → World → Prop) (C : List Nat) (N : Nat) (hm : P.follows .mixedOrders = true) (hok : drawOk ops N = true) (hN : a0.tmps.size = N)
    (hch : chainOk .any ops C = true) (hnd : decide C.Nodup = true) (hCl : C.all (· < ops.size) = true) (hG : G 0 undef w.drew)
    (step : OweAllC P .any ops Q V G C a0 0 ops.toList)
    (fin : ∀ f w x, G C.length x w → (∀ (m i : Nat) (o : Oper) (t : Tmp), C.length = m + 1 → C[m]? = some i → ops[i]? = some o → o.dst = some t → f t = x) → (∀ (i : Nat) (o : Oper) (t : Tmp), ops[i]? = some o → o.dst = some t → V t (f t) w) → Q .normal (puts f (dsts ops) a0) w) : (Code.region id ops true).wp P Q a0 w := by
  subst hN
  have hok := drawOk_spec hok
  have hCl' : ∀ i ∈ C, i < ops.size := fun i hi => by simpa using List.all_eq_true.1 hCl i hi
  have hL0 : ∀ i, i < ops.size → (Array.replicate ops.size false).getD i true = false := fun i hi => by simp [hi]
  refine wp_region_any hm (wpAny_chain (V := V) (G := G) (C := C) hok hch (of_decide_eq_true hnd) hCl' (fun i o ho => ?_) (fun a w x ha hg hh hv => ?_) ops.size _ a0 _ 0 undef (unl_le _ _) (by simp) ⟨hG, (fun m i o t h => by omega), Nat.zero_le _, ?_, ?_, ⟨rfl, rfl, fun _ _ => rfl⟩, (fun _ _ _ _ _ _ => rfl), ?_⟩)
  · have := step.get i o (by simpa using ho)
    rwa [Nat.zero_add] at this
  · rw [ha.puts hok]
    exact fin _ w x hg hh hv
  · intro m i hi
    have := hCl' i (List.mem_of_getElem? hi)
    rw [hL0 i this]
    simp
  · intro i o ho hl
    rw [hL0 i (Array.getElem?_eq_some_iff.1 ho).1] at hl; cases hl
  · intro i o t ho hl _
    rw [hL0 i (Array.getElem?_eq_some_iff.1 ho).1] at hl; cases hl

/-- An operation beside the chain that yields a value and turns nothing. -/
theorem owesC_val {i : Nat} {o : Oper} {t : Tmp} (b : Nat) (hb : aheadOf md ops C i b = true) (hni : C.contains i = false) (hi : ops[i]? = some o) (ht : o.dst = some t)
    (h : ∀ k a w x, k ≤ b → AgreeC ops C k a0 a → G k x w → AllV V a w (waits md ops o) → ∃ v, Region.wanted o (yielded ops a.tmps) = true ∧ (execOp a.eval o).run P w = .ok (.value v) w ∧ V t v w) : OwesC P md ops Q V G C a0 i o := by
  refine .inr ⟨hni, b, hb, fun k hk a w x ha hG hV => ?_⟩
  obtain ⟨v, hw, hr, hv⟩ := h k a w x hk ha hG hV
  unfold wpOp
  rw [hi]
  simp only [hw, if_true, Oper.wp, hr, Oper.upon]
  exact .inl ⟨v, rfl, fun u hu => by rw [ht] at hu; cases hu; exact hv, hG, fun _ _ h => h⟩
/-- A call of the chain. -/
theorem owesC_call {i : Nat} {o : Oper} {t : Tmp} (m : Nat) (hm : C[m]? = some i) (hi : ops[i]? = some o) (ht : o.dst = some t) (f : FuncId)
    (h : ∀ a w x, AgreeC ops C m a0 a → G m x w → Holds' ops C a m x → AllV V a w (waits md ops o) → ∃ args, Region.wanted o (yielded ops a.tmps) = true ∧ (execOp a.eval o).run P w = .ok (.enter f args) w ∧
      Calls P f args w fun e w' => ∃ v, e = .returned v ∧ V t v w' ∧ G (m + 1) v w' ∧ (∀ t u, V t u w → V t u w')) : OwesC P md ops Q V G C a0 i o := by
  refine .inl ⟨m, hm, fun a w x ha hG hh hV => ?_⟩
  obtain ⟨args, hw, hr, hc⟩ := h a w x ha hG hh hV
  unfold wpOp
  rw [hi]
  simp only [hw, if_true, Oper.wp, hr, Oper.upon]
  refine .inl (hc.mono ?_)
  rintro e w' ⟨v, rfl, h1, h2, h3⟩
  exact ⟨v, rfl, fun u hu => by rw [ht] at hu; cases hu; exact h1, h2, h3⟩
/-- A store of the chain. -/
theorem owesC_store {i : Nat} {o : Oper} (m : Nat) (hm : C[m]? = some i) (hi : ops[i]? = some o) (ht : o.dst = none)
    (h : ∀ a w x, AgreeC ops C m a0 a → G m x w → Holds' ops C a m x → AllV V a w (waits md ops o) → ∃ w', Region.wanted o (yielded ops a.tmps) = true ∧ (execOp a.eval o).run P w = .ok .skip w' ∧ G (m + 1) undef w' ∧ (∀ t u, V t u w → V t u w')) : OwesC P md ops Q V G C a0 i o := by
  refine .inl ⟨m, hm, fun a w x ha hG hh hV => ?_⟩
  obtain ⟨w', hw, hr, h2, h3⟩ := h a w x ha hG hh hV
  unfold wpOp
  rw [hi]
  simp only [hw, if_true, Oper.wp, hr, Oper.upon]
  exact .inl ⟨undef, rfl, fun u hu => (by rw [ht] at hu; cases hu), h2, h3⟩
end
end Go.Proofs.Ytpbcglepecojmaa.CW

namespace Go.Proofs.Ytpbcglepecojmaa.CW
open Go
section
variable {P : Program} {ops : Array Oper} {Q : Exit → Act → World → Prop} {md : Region.Mode} {V : Tmp → Value → World → Prop} {G : Nat → Value → World → Prop} {C : List Nat} {a0 : Act}
/-- An operation beside the chain that yields a value and makes memory. -/
theorem owesC_made {i : Nat} {o : Oper} {t : Tmp} (b : Nat) (hb : aheadOf md ops C i b = true) (hni : C.contains i = false) (hi : ops[i]? = some o) (ht : o.dst = some t)
    (h : ∀ k a w x, k ≤ b → AgreeC ops C k a0 a → G k x w → AllV V a w (waits md ops o) → ∃ v w', Region.wanted o (yielded ops a.tmps) = true ∧ (execOp a.eval o).run P w = .ok (.value v) w' ∧ V t v w' ∧ G k x w' ∧ (∀ t u, V t u w → V t u w')) : OwesC P md ops Q V G C a0 i o := by
  refine .inr ⟨hni, b, hb, fun k hk a w x ha hG hV => ?_⟩
  obtain ⟨v, w', hw, hr, hv, hg, hp⟩ := h k a w x hk ha hG hV
  unfold wpOp
  rw [hi]
  simp only [hw, if_true, Oper.wp, hr, Oper.upon]
  exact .inl ⟨v, rfl, fun u hu => by rw [ht] at hu; cases hu; exact hv, hg, hp⟩
end
end Go.Proofs.Ytpbcglepecojmaa.CW
namespace Go.Proofs.Ytpbcglepecojmaa
open Go.RowKit

theorem zeros_made (n : Nat) : (madeCells (Value.int .u8 0).cells (n * 1)).toList = vals (List.replicate n 0) := by
  unfold madeCells vals
  rw [Nat.mul_one, Array.toList_map, Array.toList_range, List.map_replicate]
  apply List.ext_getElem?
  intro j
  by_cases h : j < n
  · simp [h, Value.cells, Nat.mod_one]
  · simp [h, Value.cells]
theorem make_bytes (w : World) (n : Nat) (hn : n ≤ 1000000) :
    ∃ w', (Instr.makeSlice 54 (.int .i64 (n : Int)) (.int .i64 (n : Int))).run Try.prog w = .ok (.slice (some ⟨w.heap.size, 0, none⟩) n n) w' ∧ Rw encY 5 w' (some ⟨w.heap.size, 0, none⟩) n (List.replicate n 0) ∧ Below w.heap.size w w' := by
  have h := info_u8
  cases hq : Try.prog.info? 5 with
  | none => rw [hq] at h; cases h
  | some i =>
    rw [hq] at h
    simp only [Option.map_some, Option.some.injEq, Prod.mk.injEq] at h
    obtain ⟨hz, h1, h2⟩ := h
    obtain ⟨w', hr, ho, hg⟩ := run_makeSlice_full (P := Try.prog) (w := w) 0 54 5 i (.int .u8 0) 1 Try.underlying54 hq hz h1 .i64 .i64 n (by omega) (by rw [h2]; omega) (by unfold maxLen; omega) (Nat.zero_le _)
    refine ⟨w', hr, ?_, (Below.refl _ w).grown hg (Nat.le_refl _) (fun j e => by cases e)⟩
    unfold Rw
    rw [encY_all, List.length_replicate, ← zeros_made]
    exact ho
/-- A byte of a name. -/
def nmX (i : Nat) : UInt8 := UInt8.ofNat (97 + i % 3)
theorem nmX_toNat (i : Nat) : ((nmX i).toNat : Int) = 97 + (i : Int) % 3 := by
  unfold nmX
  rw [UInt8.toNat_ofNat']
  omega
def vRoom (W : World) (p i n : Nat) (R : Int) (t : Tmp) (v : Value) (w' : World) : Prop := match t with
  | 35 => v = .pointer (some ⟨p, 0, none⟩)
  | 36 => v = .int .i64 (i : Int)
  | 37 => v = .int .i64 ((i : Int) % 3)
  | 38 => v = .int .i64 (97 + (i : Int) % 3)
  | 39 => v = .int .u8 ((nmX i).toNat : Int)
  | 40 => ∃ b, v = .slice (some ⟨b, 0, none⟩) 1 1 ∧ W.heap.size ≤ b ∧ Rw encY 5 w' (some ⟨b, 0, none⟩) 1 [nmX i]
  | 41 => v = .string ⟨#[nmX i]⟩
  | 42 => v = .int .i64 (n : Int)
  | 43 => ∃ b, v = .slice (some ⟨b, 0, none⟩) n n ∧ W.heap.size ≤ b ∧ Rw encY 5 w' (some ⟨b, 0, none⟩) n (List.replicate n 0)
  | 44 => v = .string ⟨(List.replicate n 0).toArray⟩
  | 45 => v = .int .i64 R
  | 9 => v = .int .i64 R
  | _ => True
theorem vRoom_kept {W : World} {p i n : Nat} {R : Int} {w1 w2 : World} {T : Nat → Prop} (hm : Mod T w1 w2) (hT : ∀ j, T j → j < W.heap.size) (t : Tmp) (v : Value) (h : vRoom W p i n R t v w1) : vRoom W p i n R t v w2 := by
  unfold vRoom at h ⊢
  split at h <;> first | exact h | skip
  · obtain ⟨b, h1, h2, h3⟩ := h
    exact ⟨b, h1, h2, h3.kept hm (fun a e hn => by cases e; have := hT _ hn; simp only at this; omega)⟩
  · obtain ⟨b, h1, h2, h3⟩ := h
    exact ⟨b, h1, h2, h3.kept hm (fun a e hn => by cases e; have := hT _ hn; simp only at this; omega)⟩
theorem Mod.to_any {w w' : World} (h : Below w.heap.size w w') : Mod (fun _ => False) w w' := ⟨h.os, h.tape, h.output, h.size, fun k hk _ => h.block k hk⟩
set_option maxRecDepth 20000 in
set_option maxHeartbeats 4000000 in
theorem diskRoom_any (w : World) (rq : Int) (ao : Option Addr) (cap : Nat) (L : List Int) (hL : Rd encI w ao L) (hLl : (L.length : Int) ≤ 9223372036854775807) (hLb : ∀ x ∈ L, -9223372036854775808 ≤ x ∧ x ≤ 9223372036854775807) :
    Calls Try.prog 5 #[.int .i64 rq, .slice ao L.length cap] w fun r w' => r = .returned (.bool true) ∧ Below w.heap.size w w' := by
  have HA := Lib.hid (awake09_any w)
  obtain ⟨r1, hr1⟩ : ∃ r, min rq 500 = r := ⟨_, rfl⟩
  obtain ⟨r, hr⟩ : ∃ r, max 0 r1 = r := ⟨_, rfl⟩
  have hrb : 0 ≤ r ∧ r ≤ 500 := by omega
  have HRB := Lib.hid hrb
  have HN : Hid (∀ w, Calls Try.prog 8 #[.int .i64 r] w fun e w' => ∃ p, e = .returned (.pointer (some ⟨p, 0, none⟩)) ∧ Dk w w' p ⟨r, 0, -1, false, []⟩) := Lib.hid (fun w => Dk.new r r r w (by omega) (by omega))
  have HN2 : Hid (∀ w, Calls Try.prog 8 #[.int .i64 (-1)] w fun e w' => ∃ p, e = .returned (.pointer (some ⟨p, 0, none⟩)) ∧ Dk w w' p ⟨0, 0, -1, false, []⟩) := Lib.hid (fun w => Dk.new (-1) 0 0 w (by decide) (by decide))
  have HL := Lib.hid hL
  have HLB := Lib.hid hLb
  obtain ⟨nl, hnl⟩ : ∃ nl, nl = L.length := ⟨_, rfl⟩
  have HNL := Lib.hid hnl
  rw [← hnl] at hLl ⊢
  clear hL hLb hrb hnl
  go_enter Try.func5, Try.ntmps5
  go_wp2_with fail
  refine HA.out.mono ?_
  rintro e w1 ⟨rfl, hb1⟩
  have HB1 := Lib.hid hb1
  clear hb1
  go_wp2_with fail
  refine (HN.out _).mono ?_
  rintro e w2 ⟨p, rfl, hD⟩
  have HD := Lib.hid hD
  clear hD
  go_wp2_with fail
  have HK0 : Hid (∃ S, Gd S 0 ∧ S.rm = r ∧ S.dn = false ∧ S.lf = -1 ∧ Dk w1 w2 p S ∧ usedX S.X = 0) := Lib.hid ⟨_, Gd.new r HRB.out.1 (by have := HRB.out.2; omega), rfl, rfl, rfl, HD.out, rfl⟩
  clear HD
  go_loopw [6, 7, 8, 9] (fun s6 s7 _ _ wr => ∃ i u : Nat, i ≤ nl ∧ i ≤ 20 ∧ s7 = .int .i64 (i : Int) ∧ s6 = .int .i64 (u : Int) ∧ Hid (∃ S, Gd S i ∧ S.rm = r ∧ S.dn = false ∧ S.lf = -1 ∧ Dk w1 wr p S ∧ usedX S.X = u)) (fun _ s7 _ _ _ => 20 - (intOf s7).toNat)
  case atStart => exact ⟨0, 0, Nat.zero_le _, by omega, rfl, rfl, HK0⟩
  case round =>
    obtain ⟨i, u, hi, hi2, rfl, rfl, hR⟩ := hrel
    obtain ⟨S, hg, hrm, hdn, hlf, hD, hu⟩ := hR.out
    have HG := Lib.hid hg
    have HS := Lib.hid (And.intro hrm (And.intro hdn hlf))
    have HU := Lib.hid hu
    have HD := Lib.hid hD
    have hub : (u : Int) ≤ r := by have := hg.u; rw [hrm, hu] at this; exact this
    clear hR HK0 hg hrm hdn hlf hD hu
    have hru := HRB.out.2
    by_cases hend : i < nl ∧ i < 20
    · obtain ⟨hd1, hd2⟩ := hend
      obtain ⟨ab, af, hae, _, hac⟩ := (HL.out.old (HB1.out.trans (HD.out.b.mono HB1.out.size))) i (by rw [← HNL.out]; exact hd1)
      have hc := hac 0 _ rfl
      have hxb := HLB.out (L[i]'(by rw [← HNL.out]; exact hd1)) (List.getElem_mem _)
      subst hae
      generalize L[i]'(by rw [← HNL.out]; exact hd1) = x at hc hxb
      have hc : wr.cell? ⟨ab, af + i, none⟩ = some (.int .i64 x) := by simpa [encI] using hc
      obtain ⟨y, hy⟩ : ∃ y, min x 300 = y := ⟨_, rfl⟩
      obtain ⟨n, hn⟩ : ∃ n : Nat, max 0 y = (n : Int) := ⟨(max 0 y).toNat, by omega⟩
      have hnb : n ≤ 300 := by omega
      have e1 : decide ((i : Int) < (nl : Int)) = true := by simpa using hd1
      have e2 : decide ((i : Int) < 20) = true := by simp; omega
      clear hac hxb
      go_upto_region 12 with fail
      have HCW := Lib.hid HD.out
      obtain ⟨W, hW⟩ : ∃ W, W = wr := ⟨_, rfl⟩
      rw [← hW] at HD hc ⊢
      obtain ⟨F, hA, hF, hB⟩ := HD.out
      have hFl := hA.lt
      obtain ⟨R, hRR⟩ : ∃ R, R = dedR S (wrA S (List.replicate n 0)) := ⟨_, rfl⟩
      obtain ⟨S', hS'⟩ : ∃ S', S' = dedS S (wrA S (List.replicate n 0)) (apX S [nmX i] (List.replicate n 0)) := ⟨_, rfl⟩
      have HAP : Hid (∀ w3, Below W.heap.size W w3 → Calls Try.prog 18 #[.pointer (some ⟨p, 0, none⟩), .string ⟨#[nmX i]⟩, .string ⟨(List.replicate n 0).toArray⟩] w3 fun e w' => e = .returned (.int .i64 R) ∧ Eff W w' p S' F ∧ Mod F w3 w') := Lib.hid (fun w3 hb => by
        have := dkappend_any (hA.old hb) (HG.out.ok (by omega)) [nmX i] (List.replicate n 0) (by simp) (by rw [List.length_replicate]; omega)
        rw [← hRR, ← hS'] at this
        refine this.mono ?_
        rintro e w' ⟨rfl, hE⟩
        refine ⟨rfl, Eff.trans ((Mod.of_below hb).mono (fun i hi h => by omega)) hE, ?_⟩
        obtain ⟨_, _, _, hm⟩ := hE
        exact hm)
      have HFL := Lib.hid hFl
      have HDE : Hid (∀ w', Eff W w' p S' F → Dk w1 w' p S') := Lib.hid (fun w' hE => Dk.eff hF hB hE)
      have HG' : Hid (Gd S' (i + 1)) := Lib.hid (by rw [hS']; exact HG.out.app _ _ (by simp))
      have HG0 : Hid ((fun (j : Nat) (_ : Value) (w' : World) => (j = 0 → Below W.heap.size W w') ∧ (j = 1 → Eff W w' p S' F)) 0 undef W.drew) := Lib.hid ⟨fun _ => (Below.refl _ W).drew, (fun h => absurd h (by omega))⟩
      have hrm3 : Int.tmod (i : Int) 3 = (i : Int) % 3 := Int.tmod_eq_emod_of_nonneg (by omega)
      have hrm : Int.tmod (i : Int) 3 = (i : Int) % 3 := hrm3
      have hwa : IntKind.i64.wrap (97 + (i : Int) % 3) = 97 + (i : Int) % 3 := by rw [IntKind.wrap_i64]; omega
      have hcv : IntKind.u8.wrap (97 + (i : Int) % 3) = ((nmX i).toNat : Int) := by rw [nmX_toNat, IntKind.wrap_u8]; omega
      have hn2 := hnb
      have hn := Nat.le_trans hnb (show 300 ≤ 1000000 by decide)
      have hWR : S'.rm = r ∧ S'.dn = false ∧ S'.lf = -1 ∧ ((u + n : Nat) : Int) ≤ r ∧ usedX S'.X = u + n ∧ R = 0 ∨ S'.rm = r ∧ S'.dn = false ∧ S'.lf = -1 ∧ r < ((u + n : Nat) : Int) ∧ usedX S'.X = u ∧ R = 5 := by
        obtain ⟨q1, q2, q3⟩ := HS.out
        have hwo := usedX_wo HG.out.so [nmX i]
        have hww : usedX (apX S [nmX i] (List.replicate n 0)) = u + n := by
          unfold apX
          rw [usedX_with]
          simp only [List.length_append, List.length_replicate]
          have := HU.out
          omega
        have hl : ((List.replicate n (0 : UInt8)).length : Int) = n := by rw [List.length_replicate]
        rw [hRR, hS']
        unfold dedR dedS wrA
        rw [hl, q1, q2, q3, HU.out]
        by_cases hc : (n : Int) > r - (u : Nat)
        · right
          rw [if_pos hc]
          simp only [Bool.false_eq_true, if_false]
          exact ⟨q1, q2, q3, by omega, HU.out, rfl⟩
        · left
          rw [if_neg hc]
          simp only [Bool.false_eq_true, if_false, lfX, ne_eq, not_true_eq_false, if_true, show ¬ ((-1 : Int) = 0) from by decide]
          refine ⟨?_, ?_, ?_, ?_, ?_, ?_⟩ <;> first | trivial | exact hww | omega
      have HWR := Lib.hid hWR
      clear hA hF hB hFl hRR hS' hrm3 hWR hc
      refine CW.wp_region_chain (vRoom W p i n R) (fun (j : Nat) (_ : Value) (w' : World) => (j = 0 → Below W.heap.size W w') ∧ (j = 1 → Eff W w' p S' F)) [10] 74 (by kernel_rfl) (by decide +kernel) rfl (by decide +kernel) (by decide) (by decide) HG0.out (by
        refine CW.OweAllC.cons (CW.owesC_val 0 (by decide +kernel) (by decide) rfl rfl fun k' a w1 x hk ha hG hV => ?_) ?_
        · skip
          have h5 := ha.outer 5 (by decide +kernel)
          simp only [Act.eval] at h5
          exact ⟨.pointer (some ⟨p, 0, none⟩), wanted_free rfl, by simp [execOp, go_sem, h5], rfl⟩
        refine CW.OweAllC.cons (CW.owesC_val 0 (by decide +kernel) (by decide) rfl rfl fun k' a w1 x hk ha hG hV => ?_) ?_
        · skip
          have h7 := ha.outer 7 (by decide +kernel)
          simp only [Act.eval] at h7
          exact ⟨.int .i64 (i : Int), wanted_free rfl, by simp [execOp, go_sem, h7], rfl⟩
        refine CW.OweAllC.cons (CW.owesC_val 0 (by decide +kernel) (by decide) rfl rfl fun k' a w1 x hk ha hG hV => ?_) ?_
        · skip
          have h36 : a.tmps.getD 36 undef = .int .i64 (i : Int) := hV.get 36 (by decide +kernel)
          exact ⟨.int .i64 ((i : Int) % 3), wanted_free rfl, by simp [execOp, go_sem, h36, hrm], rfl⟩
        refine CW.OweAllC.cons (CW.owesC_val 0 (by decide +kernel) (by decide) rfl rfl fun k' a w1 x hk ha hG hV => ?_) ?_
        · skip
          have h37 : a.tmps.getD 37 undef = .int .i64 ((i : Int) % 3) := hV.get 37 (by decide +kernel)
          exact ⟨.int .i64 (97 + (i : Int) % 3), wanted_free rfl, by simp [execOp, go_sem, h37, hwa], rfl⟩
        refine CW.OweAllC.cons (CW.owesC_val 0 (by decide +kernel) (by decide) rfl rfl fun k' a w1 x hk ha hG hV => ?_) ?_
        · skip
          have h38 : a.tmps.getD 38 undef = .int .i64 (97 + (i : Int) % 3) := hV.get 38 (by decide +kernel)
          exact ⟨.int .u8 ((nmX i).toNat : Int), wanted_free rfl, by simp [execOp, go_sem, h38, hcv], rfl⟩
        refine CW.OweAllC.cons (CW.owesC_made 0 (by decide +kernel) (by decide) rfl rfl fun k' a w1 x hk ha hG hV => ?_) ?_
        · skip
          have h39 : a.tmps.getD 39 undef = .int .u8 ((nmX i).toNat : Int) := hV.get 39 (by decide +kernel)
          have g39 : a.tmps[39]?.getD undef = .int .u8 ((nmX i).toNat : Int) := by simpa using h39
          have hb := hG.1 (by omega)
          have hal : Below W.heap.size W (w1.alloc (.cells #[.int .u8 ((nmX i).toNat : Int)] 5)) := hb.alloc hb.size _
          refine ⟨.slice (some ⟨w1.heap.size, 0, none⟩) 1 1, w1.alloc (.cells #[.int .u8 ((nmX i).toNat : Int)] 5), wanted_free rfl, by simp [execOp, go_sem, h39, g39], ⟨w1.heap.size, rfl, hb.size, ?_⟩, ⟨fun _ => hal, (fun h => absurd h (by omega))⟩, vRoom_kept ((Mod.refl (fun _ => False) w1).alloc _) (fun _ h => h.elim)⟩
          have := Rw.made (E := encY) 5 w1 [nmX i] (by simp [maxLen])
          exact this
        refine CW.OweAllC.cons (CW.owesC_val 0 (by decide +kernel) (by decide) rfl rfl fun k' a w1 x hk ha hG hV => ?_) ?_
        · skip
          obtain ⟨b, e40, _, hr⟩ : ∃ b, a.tmps.getD 40 undef = .slice (some ⟨b, 0, none⟩) 1 1 ∧ W.heap.size ≤ b ∧ Rw encY 5 w1 (some ⟨b, 0, none⟩) 1 [nmX i] := hV.get 40 (by decide +kernel)
          have hcv := Rw.convY (P := Try.prog) hr 54 9 Try.underlying54 Try.underlying5 Try.underlying9
          simp only [List.length_cons, List.length_nil, Nat.zero_add] at hcv
          exact ⟨.string ⟨#[nmX i]⟩, wanted_free rfl, by simp [execOp, go_sem, e40, hcv], rfl⟩
        refine CW.OweAllC.cons (CW.owesC_val 0 (by decide +kernel) (by decide) rfl rfl fun k' a w1 x hk ha hG hV => ?_) ?_
        · skip
          have h8 := ha.outer 8 (by decide +kernel)
          simp only [Act.eval] at h8
          exact ⟨.int .i64 (n : Int), wanted_free rfl, by simp [execOp, go_sem, h8], rfl⟩
        refine CW.OweAllC.cons (CW.owesC_made 0 (by decide +kernel) (by decide) rfl rfl fun k' a w1 x hk ha hG hV => ?_) ?_
        · skip
          have h42 : a.tmps.getD 42 undef = .int .i64 (n : Int) := hV.get 42 (by decide +kernel)
          have hb := hG.1 (by omega)
          obtain ⟨w2, hr, hw, hb2⟩ := make_bytes w1 n hn
          exact ⟨_, w2, wanted_free rfl, by simp [execOp, go_sem, h42, hr], ⟨w1.heap.size, rfl, hb.size, hw⟩, ⟨fun _ => hb.trans (hb2.mono hb.size), (fun h => absurd h (by omega))⟩, vRoom_kept (Mod.to_any hb2) (fun _ h => h.elim)⟩
        refine CW.OweAllC.cons (CW.owesC_val 0 (by decide +kernel) (by decide) rfl rfl fun k' a w1 x hk ha hG hV => ?_) ?_
        · skip
          obtain ⟨b, e43, _, hr⟩ : ∃ b, a.tmps.getD 43 undef = .slice (some ⟨b, 0, none⟩) n n ∧ W.heap.size ≤ b ∧ Rw encY 5 w1 (some ⟨b, 0, none⟩) n (List.replicate n 0) := hV.get 43 (by decide +kernel)
          have hcv := Rw.convY (P := Try.prog) hr 54 9 Try.underlying54 Try.underlying5 Try.underlying9
          rw [List.length_replicate] at hcv
          exact ⟨.string ⟨(List.replicate n 0).toArray⟩, wanted_free rfl, by simp [execOp, go_sem, e43, hcv], rfl⟩
        refine CW.OweAllC.cons (CW.owesC_call 0 rfl rfl rfl 18 fun a w1 x ha hG hx hV => ?_) ?_
        · skip
          have h35 : a.tmps.getD 35 undef = .pointer (some ⟨p, 0, none⟩) := hV.get 35 (by decide +kernel)
          have h41 : a.tmps.getD 41 undef = .string ⟨#[nmX i]⟩ := hV.get 41 (by decide +kernel)
          have h44 : a.tmps.getD 44 undef = .string ⟨(List.replicate n 0).toArray⟩ := hV.get 44 (by decide +kernel)
          refine ⟨#[.pointer (some ⟨p, 0, none⟩), .string ⟨#[nmX i]⟩, .string ⟨(List.replicate n 0).toArray⟩], wanted_free rfl, by simp [execOp, resolve, invoke, go_sem, h35, h41, h44], ?_⟩
          have hb := hG.1 (by omega)
          refine (HAP.out w1 hb).mono ?_
          rintro r u2 ⟨rfl, hE, hm⟩
          exact ⟨_, rfl, rfl, ⟨(fun h => absurd h (by omega)), fun _ => hE⟩, vRoom_kept hm HFL.out⟩
        refine CW.OweAllC.cons (CW.owesC_val 1 (by decide +kernel) (by decide) rfl rfl fun k' a w1 x hk ha hG hV => ?_) ?_
        · skip
          have h45 : a.tmps.getD 45 undef = .int .i64 R := hV.get 45 (by decide +kernel)
          exact ⟨.int .i64 R, wanted_free rfl, by simp [execOp, go_sem, h45], rfl⟩
        exact CW.OweAllC.nil
        ) ?_
      intro f wz xz hG hx hv
      have e9 : f 9 = .int .i64 R := hv 11 _ 9 rfl rfl
      have hE := hG.2 rfl
      have HDZ := Lib.hid (HDE.out wz hE)
      have hcv2 : True := trivial
      rename_i hK
      refine hK _ _ ?_
      clear hK hv hx hG hcv hcv2 hwa hrm hE HG0
      simp only [dsts, puts, List.filterMap_cons, List.filterMap_nil, List.foldl_cons, List.foldl_nil, Act.put, List.setIfInBounds_toArray, List.set_cons_succ, List.set_cons_zero, e9]
      clear e9
      have hw := HWR.out
      clear HWR
      rcases hw with hw | hw
      · obtain ⟨a1, a2, a3, a4, a5, rfl⟩ := hw
        have e3 : ((u : Int) + (n : Int) ≤ r) := by omega
        have HUS : Hid (Calls Try.prog 24 #[.pointer (some ⟨p, 0, none⟩)] wz fun e w' => e = .returned (.int .i64 (((u + n : Nat) : Int) : Int)) ∧ Dk w1 w' p S') := Lib.hid (by
          have := HDZ.out.used (HG'.out.ok (by omega))
          rw [a5] at this
          exact this)
        have HSS := Lib.hid (And.intro a1 (And.intro a2 (And.intro a3 a5)))
        clear a1 a2 a3 a4 a5
        go_wp2_with fail
        refine HUS.out.mono ?_
        rintro r5 w5 ⟨rfl, hD5⟩
        have HD5 := Lib.hid hD5
        clear hD5
        go_wp2_with fail
        refine ⟨⟨i + 1, u + n, by omega, by omega, by simp, by simp, Lib.hid ⟨S', HG'.out, HSS.out.1, HSS.out.2.1, HSS.out.2.2.1, HD5.out, HSS.out.2.2.2⟩⟩, ?_⟩
        show 20 - ((i : Int) + 1).toNat < 20 - ((i : Int)).toNat
        omega
      · obtain ⟨a1, a2, a3, a4, a5, rfl⟩ := hw
        have e3 : ¬ ((u : Int) + (n : Int) ≤ r) := by omega
        have HUS : Hid (Calls Try.prog 24 #[.pointer (some ⟨p, 0, none⟩)] wz fun e w' => e = .returned (.int .i64 (((u : Nat) : Int) : Int)) ∧ Dk w1 w' p S') := Lib.hid (by
          have := HDZ.out.used (HG'.out.ok (by omega))
          rw [a5] at this
          exact this)
        have HSS := Lib.hid (And.intro a1 (And.intro a2 (And.intro a3 a5)))
        clear a1 a2 a3 a4 a5
        go_wp2_with fail
        refine HUS.out.mono ?_
        rintro r5 w5 ⟨rfl, hD5⟩
        have HD5 := Lib.hid hD5
        clear hD5
        go_wp2_with fail
        refine ⟨⟨i + 1, u, by omega, by omega, by simp, by simp, Lib.hid ⟨S', HG'.out, HSS.out.1, HSS.out.2.1, HSS.out.2.2.1, HD5.out, HSS.out.2.2.2⟩⟩, ?_⟩
        show 20 - ((i : Int) + 1).toNat < 20 - ((i : Int)).toNat
        omega
    · have hend2 : decide ((i : Int) < (nl : Int)) = false ∨ (i : Int) < (nl : Int) ∧ decide ((i : Int) < 20) = false := by
        by_cases h1 : i < nl
        · right; exact ⟨by omega, by simp; omega⟩
        · left; simp; omega
      have HB2 : Hid (Below w.heap.size w wr) := Lib.hid (HB1.out.trans (HD.out.b.mono HB1.out.size))
      have hcase : (¬ (i : Int) < (nl : Int)) ∨ ((i : Int) < (nl : Int) ∧ ¬ (i : Int) < 20) := by omega
      clear hend2 hend
      have HRM : Hid (∀ w6 q, Dk wr w6 q ⟨0, 0, -1, false, []⟩ → Calls Try.prog 25 #[.pointer (some ⟨q, 0, none⟩)] w6 fun e w' => e = .returned (.int .i64 0) ∧ Dk wr w' q ⟨0, 0, -1, false, []⟩) := Lib.hid (fun w6 q h => h.room)
      rcases hcase with h1 | ⟨h1, h2⟩ <;>
      · go_wp2_with fail
        refine (HN2.out _).mono ?_
        rintro e w6 ⟨q, rfl, hD6⟩
        have HD6 := Lib.hid hD6
        clear hD6
        go_wp2_with fail
        refine (HRM.out _ _ HD6.out).mono ?_
        rintro e w7 ⟨rfl, hD7⟩
        have HB7 := Lib.hid (HB2.out.trans (hD7.b.mono HB2.out.size))
        clear hD7
        go_wp2_with fail
        go_ret
        exact ⟨rfl, HB7.out⟩
end Go.Proofs.Ytpbcglepecojmaa

namespace Go.Proofs.Ytpbcglepecojmaa
open Go.ChangeShapes Go.WideShapes Go.ChangeAt Go.RowKit Go.Deep

theorem cell_block9 {w : World} {a : Addr} {v : Value} (h : w.cell? a = some v) : a.block < w.heap.size := by
  unfold World.cell? at h
  apply Nat.lt_of_not_le; intro hle
  rw [Array.getElem?_eq_none hle] at h
  simp at h
set_option maxRecDepth 20000 in
theorem open_intsL {H : Type} {enc : TypeId × Value → H} {W : World} {base : Nat} {v : Value} {d : DataW H} {ps : List MemPlace} (hval : Value.okWide Try.prog W .any base 29 v) (h : DataW.Trod enc Try.prog W 0 (fun _ => true) true 29 v d ps) :
    ∃ ao cap S, v = .slice ao S.length cap ∧ Rd encI W ao S ∧ (∀ x ∈ S, -9223372036854775808 ≤ x ∧ x ≤ 9223372036854775807) ∧ S.length ≤ 9223372036854775807 ∧ S.length ≤ cap := by
  obtain ⟨a, len, cap, rfl⟩ := okWide_slice Try.underlying29 hval
  obtain ⟨fuel, hf⟩ := h
  rcases open_slice1 Try.underlying29 (by kernel_rfl) hf with ⟨hc, _⟩ | ⟨a', len', cap', m, k, V, D, Pl, hc, _, hl, hm, hmm, _, hall⟩
  · have hc2 : [Value.slice a len cap] = [Value.slice none 0 0] := hc
    simp only [List.cons.injEq, Value.slice.injEq, and_true] at hc2
    obtain ⟨rfl, rfl, rfl⟩ := hc2
    exact ⟨none, 0, [], rfl, Rd.nil _ _, (fun x hx => by simp at hx), Nat.zero_le _, Nat.le_refl _⟩
  · have hc2 : [Value.slice a len cap] = [Value.slice (some a') len' cap'] := hc
    simp only [List.cons.injEq, Value.slice.injEq, and_true] at hc2
    obtain ⟨rfl, rfl, rfl⟩ := hc2
    simp only [if_true] at hmm
    subst hmm
    have hj : ∀ i, i < len → ∃ s : Int, V i = .int .i64 s ∧ -9223372036854775808 ≤ s ∧ s ≤ 9223372036854775807 := by
      intro i hi
      obtain ⟨N, h1, _, hw⟩ := DataW.trod_int Try.underlying3 (hall i (by omega)).2
      simp only [List.cons.injEq, and_true] at h1
      have b := bounds_i64 hw
      exact ⟨N, h1, by omega, by omega⟩
    obtain ⟨f, hf2⟩ := choose_lt hj
    obtain ⟨bs, off, spot⟩ := a'
    by_cases h0 : 0 < m
    · have hspot : spot = none := by simpa [Addr.add] using World.cell?_spot (hall 0 (by omega)).1
      subst hspot
      refine ⟨some ⟨bs, off, none⟩, m, (List.range len).map f, by simp, ?_, ?_, by unfold maxLen at hm; rw [List.length_map, List.length_range]; omega, by rw [List.length_map, List.length_range]; exact hl⟩
      · intro j hjl
        have hjn : j < len := by simpa using hjl
        have e0 := (hf2 j hjn).1
        obtain ⟨c0, _⟩ := hall j (by omega)
        rw [e0] at c0
        have c0' : W.cell? ⟨bs, off + j, none⟩ = some (.int .i64 (f j)) := by simpa [Addr.add_lit] using c0
        refine ⟨bs, off, rfl, cell_block9 c0', fun i u hu => ?_⟩
        have hi0 : i = 0 := by
          have := (List.getElem?_eq_some_iff.1 hu).1
          simp [encI] at this; exact this
        subst hi0
        simp only [encI, List.getElem?_cons_zero, Option.some.injEq] at hu
        subst hu
        simpa [encI] using c0'
      · intro x hx
        obtain ⟨i, hi, rfl⟩ := List.mem_map.1 hx
        exact (hf2 i (List.mem_range.1 hi)).2
    · have hl0 : len = 0 := by omega
      subst hl0
      exact ⟨some ⟨bs, off, spot⟩, m, [], rfl, (fun j hj => by simp at hj), (fun x hx => by simp at hx), Nat.zero_le _, Nat.zero_le _⟩
end Go.Proofs.Ytpbcglepecojmaa
